/-
 Layer 21, of no program: the places of a pattern that are reached, byte by byte, and what two patterns with stars have in common.
-/
import Derived.Test.YtcaaljioennnnabDoorGlobQ
namespace Go.Proofs.YtcaaljioennnnabDoor.glob
/-- does a pattern stand for a text, where what its bytes stand for is told by f? -/
def matF (f : UInt8 → UInt8 → Bool) : List UInt8 → List UInt8 → Bool
  | [], s => s.isEmpty
  | c :: p, s => if c = 42 then ends (matF f p) s else match s with
    | [] => false
    | x :: t => f c x && matF f p t
def fitG (c d : UInt8) : Bool := c == 63 || c == d
def comG (c d : UInt8) : Bool := (c == 63 || d == 63) || c == d
theorem mat_matF : ∀ p, mat p = matF fitG p
  | [] => by funext s; simp [mat, matF]
  | c :: p => by
    funext s
    by_cases h : c = 42
    · simp [mat, matF, h, mat_matF p]
    · cases s <;> simp [mat, matF, h, mat_matF p, fitG]
theorem matF_nil (f s) : matF f [] s = s.isEmpty := by simp [matF]
theorem matF_star0 (f p) : matF f (42 :: p) [] = matF f p [] := by simp [matF, ends]
theorem matF_star (f p x t) : matF f (42 :: p) (x :: t) = (matF f p (x :: t) || matF f (42 :: p) t) := by simp [matF, ends]
theorem matF_one {f : UInt8 → UInt8 → Bool} {c : UInt8} (h : ¬ c = 42) (p x t) : matF f (c :: p) (x :: t) = (f c x && matF f p t) := by simp [matF, h]
theorem matF_one0 {f : UInt8 → UInt8 → Bool} {c : UInt8} (h : ¬ c = 42) (p) : matF f (c :: p) [] = false := by simp [matF, h]
/-- what a star's rest matches, its star matches -/
theorem star_of (f p) : ∀ s, matF f p s = true → matF f (42 :: p) s = true
  | [], h => by rw [matF_star0]; exact h
  | x :: t, h => by rw [matF_star, h]; rfl
theorem star_more (f p) : ∀ u s, matF f (42 :: p) s = true → matF f (42 :: p) (u ++ s) = true
  | [], _, h => h
  | y :: u, s, h => by rw [List.cons_append, matF_star, star_more f p u s h, Bool.or_true]
theorem star_two (f p s) : matF f (42 :: 42 :: p) s = matF f (42 :: p) s := by
  induction s with
  | nil => rw [matF_star0]
  | cons x t ih => rw [matF_star, ih, matF_star]; cases matF f p (x :: t) <;> simp
/-- a place with a star -/
def star (p : List UInt8) (k : Nat) : Bool := p[k]? == some 42
theorem star_lt {p : List UInt8} {k : Nat} (h : star p k = true) : k < p.length := by
  unfold star at h
  rcases Nat.lt_or_ge k p.length with h1 | h1
  · exact h1
  · rw [List.getElem?_eq_none h1] at h; cases h
theorem star_at {p : List UInt8} {k : Nat} (h : star p k = true) : p.drop k = 42 :: p.drop (k + 1) := by
  have hl := star_lt h
  unfold star at h
  rw [List.getElem?_eq_getElem hl] at h
  rw [List.drop_eq_getElem_cons hl]
  have : p[k] = 42 := by simpa using h
  rw [this]
theorem no_star {p : List UInt8} {k : Nat} (hk : k < p.length) (h : star p k = false) : ¬ p[k] = 42 := by
  intro e
  unfold star at h
  rw [List.getElem?_eq_getElem hk, e] at h
  cases h
theorem is_star {p : List UInt8} {k : Nat} (hk : k < p.length) (e : p[k] = 42) : star p k = true := by
  unfold star; rw [List.getElem?_eq_getElem hk, e]; rfl
theorem not_star {p : List UInt8} {k : Nat} (hk : k < p.length) (e : ¬ p[k] = 42) : star p k = false := by
  unfold star; rw [List.getElem?_eq_getElem hk]; simpa using e
theorem star_end (p : List UInt8) : star p p.length = false := by unfold star; rw [List.getElem?_eq_none (Nat.le_refl _)]; rfl
/-- a run of stars -/
def run (p : List UInt8) (a e : Nat) : Prop := a ≤ e ∧ ∀ k, a ≤ k → k ≤ e → star p k = true
theorem run_one {p : List UInt8} {a : Nat} (h : star p a = true) : run p a a := ⟨Nat.le_refl _, fun k h1 h2 => by rw [Nat.le_antisymm h2 h1]; exact h⟩
theorem run_more {p : List UInt8} {a e : Nat} (h : run p a e) (h1 : star p (e + 1) = true) : run p a (e + 1) :=
  ⟨Nat.le_succ_of_le h.1, fun k h2 h3 => by
    rcases Nat.lt_or_ge e k with h4 | h4
    · rw [Nat.le_antisymm h3 h4]; exact h1
    · exact h.2 k h2 h4⟩
theorem run_mat (f : UInt8 → UInt8 → Bool) {p : List UInt8} {a : Nat} (s) : ∀ (n e : Nat), e = a + n → run p a e → matF f (p.drop a) s = matF f (p.drop e) s
  | 0, e, h, _ => by rw [h]; rfl
  | n + 1, e, h, hr => by
    have h1 : run p a (a + n) := ⟨by omega, fun k h2 h3 => hr.2 k h2 (by omega)⟩
    rw [run_mat f s n _ rfl h1, star_at (h1.2 (a + n) (by omega) (Nat.le_refl _))]
    have h2 : star p (a + n + 1) = true := hr.2 _ (by omega) (by omega)
    rw [star_at h2, star_two, h, ← Nat.add_assoc, star_at h2]
/-- is there a place, of some, from which what is left matches? -/
def anyF (f : UInt8 → UInt8 → Bool) (p s : List UInt8) (R : List Nat) : Bool := R.any fun k => matF f (p.drop k) s
theorem anyF_app (f p s A B) : anyF f p s (A ++ B) = (anyF f p s A || anyF f p s B) := by unfold anyF; rw [List.any_append]
theorem anyF_pair {f : UInt8 → UInt8 → Bool} {p : List UInt8} {e : Nat} (s) (h : star p e = true) : anyF f p s [e + 1, e] = matF f (p.drop e) s := by
  simp only [anyF, List.any_cons, List.any_nil, Bool.or_false]
  rw [Bool.eq_iff_iff, Bool.or_eq_true]
  constructor
  · rintro (h1 | h1)
    · rw [star_at h]; exact star_of _ _ _ h1
    · exact h1
  · exact .inr
theorem below_any (f : UInt8 → UInt8 → Bool) {p : List UInt8} {e : Nat} (he : star p e = true) : ∀ (n k : Nat), e - k ≤ n → k ≤ e → ∀ s, matF f (p.drop k) s = true → matF f (p.drop e) s = true
  | 0, k, hn, hk, s, h => by rw [show e = k by omega]; exact h
  | n + 1, k, hn, hk, s, h => by
    have hl := star_lt he
    have hse := star_at he
    rcases Nat.lt_or_ge k e with hlt | hge
    · by_cases hk2 : star p k = true
      · induction s with
        | nil =>
          rw [star_at hk2, matF_star0] at h
          exact below_any f he n (k + 1) (by omega) hlt [] h
        | cons x t ih =>
          rw [star_at hk2, matF_star, Bool.or_eq_true] at h
          rcases h with h | h
          · exact below_any f he n (k + 1) (by omega) hlt _ h
          · rw [← star_at hk2] at h
            have := ih h
            rw [hse] at this ⊢
            exact star_more f _ [x] t this
      · have hk3 : k < p.length := by omega
        rw [Bool.not_eq_true] at hk2
        rw [List.drop_eq_getElem_cons hk3] at h
        rcases s with _ | ⟨x, t⟩
        · rw [matF_one0 (no_star hk3 hk2)] at h; cases h
        · rw [matF_one (no_star hk3 hk2), Bool.and_eq_true] at h
          have := below_any f he n (k + 1) (by omega) hlt t h.2
          rw [hse] at this ⊢
          exact star_more f _ [x] t this
    · rw [show e = k by omega]; exact h
/-- what is below a star that is reached leads nowhere else -/
theorem below_star (f : UInt8 → UInt8 → Bool) {p : List UInt8} {e j : Nat} (he : star p e = true) (hj : star p j = false) (hje : j < e) (x : UInt8) (t : List UInt8) :
    ∀ (n k : Nat), j - k ≤ n → k ≤ j → matF f (p.drop k) (x :: t) = true → matF f (p.drop e) t = true := by
  intro n
  have hl := star_lt he
  induction n with
  | zero =>
    intro k hn hk h
    have hkj : k = j := by omega
    subst hkj
    have hk3 : k < p.length := by omega
    rw [List.drop_eq_getElem_cons hk3, matF_one (no_star hk3 hj), Bool.and_eq_true] at h
    exact below_any f he _ (k + 1) (Nat.le_refl _) hje t h.2
  | succ n ih =>
    intro k hn hk h
    have hk3 : k < p.length := by omega
    by_cases hk2 : star p k = true
    · rw [star_at hk2, matF_star, Bool.or_eq_true] at h
      rcases h with h | h
      · rcases Nat.lt_or_ge k j with h1 | h1
        · exact ih (k + 1) (by omega) h1 h
        · rw [show j = k by omega, hk2] at hj; cases hj
      · rw [← star_at hk2] at h
        exact below_any f he _ k (Nat.le_refl _) (by omega) t h
    · rw [Bool.not_eq_true] at hk2
      rw [List.drop_eq_getElem_cons hk3, matF_one (no_star hk3 hk2), Bool.and_eq_true] at h
      exact below_any f he _ (k + 1) (Nat.le_refl _) (by omega) t h.2
/-- the places that are reached: they fall; a star is the last one, with what is behind it -/
structure Form (p : List UInt8) (R : List Nat) : Prop where
  fall : R.Pairwise fun a b => b < a
  within : ∀ k ∈ R, k ≤ p.length
  last : (∀ k ∈ R, star p k = false) ∨ ∃ pre e, R = pre ++ [e + 1, e] ∧ (∀ k ∈ pre, star p k = false) ∧ star p e = true ∧ star p (e + 1) = false
theorem fall_len : ∀ (R : List Nat) (n : Nat), R.Pairwise (fun a b => b < a) → (∀ k ∈ R, k < n) → R.length ≤ n
  | [], _, _, _ => Nat.zero_le _
  | a :: R, n, h, hn => by
    rw [List.pairwise_cons] at h
    have h1 := fall_len R a h.2 h.1
    have h2 := hn a List.mem_cons_self
    simp only [List.length_cons]; omega
theorem Form.len {p R} (h : Form p R) : R.length ≤ p.length + 1 := fall_len R _ h.fall fun k hk => by have := h.within k hk; omega
/-- at the text's end -/
theorem form_end (f : UInt8 → UInt8 → Bool) {p : List UInt8} {R : List Nat} (h : Form p R) {a : Nat} (ha : R[0]? = some a) : anyF f p [] R = (a == p.length) := by
  obtain ⟨R', rfl⟩ : ∃ R', R = a :: R' := by
    rcases R with _ | ⟨b, R'⟩
    · cases ha
    · cases ha; exact ⟨R', rfl⟩
  have hno : ∀ k, k < p.length → star p k = false → matF f (p.drop k) [] = false := fun k h1 h2 => by
    rw [List.drop_eq_getElem_cons h1]; exact matF_one0 (no_star h1 h2) _
  have hf := h.fall
  rw [List.pairwise_cons] at hf
  have hal := h.within a List.mem_cons_self
  by_cases he : a = p.length
  · subst he
    have h1 : matF f (p.drop p.length) [] = true := by rw [List.drop_length]; rfl
    simp only [anyF, List.any_cons, h1, Bool.true_or, beq_self_eq_true]
  · have hne : (a == p.length) = false := by simpa using he
    rw [hne]
    unfold anyF
    rw [List.any_eq_false]
    intro k hk
    have hka : k ≤ a := by
      rcases List.mem_cons.1 hk with h1 | h1
      · omega
      · have := hf.1 k h1; omega
    rcases h.last with h1 | ⟨pre, e, h1, h2, h3, h4⟩
    · rw [hno k (by omega) (h1 k hk)]; simp
    · have he1 : e + 1 ∈ a :: R' := by rw [h1]; simp
      have he2 : e + 1 ≤ a := by
        rcases List.mem_cons.1 he1 with h5 | h5
        · omega
        · have := hf.1 _ h5; omega
      rw [h1] at hk
      simp only [List.mem_append, List.mem_cons, List.not_mem_nil, or_false] at hk
      rcases hk with hk | hk | hk
      · rw [hno k (by omega) (h2 k hk)]; simp
      · rw [hk, hno (e + 1) (by omega) h4]; simp
      · rw [hk, star_at h3, matF_star0, hno (e + 1) (by omega) h4]; simp
/-- the places that a byte leads to, of places without stars -/
def stepL (f : UInt8 → UInt8 → Bool) (p : List UInt8) (x : UInt8) (ks : List Nat) : List Nat := (ks.filter fun k => match p[k]? with | some c => f c x | none => false).map (· + 1)
theorem stepL_app (f p x A B) : stepL f p x (A ++ B) = stepL f p x A ++ stepL f p x B := by simp [stepL]
theorem stepL_end (f : UInt8 → UInt8 → Bool) (p : List UInt8) (x) : stepL f p x [p.length] = [] := by simp [stepL]
theorem stepL_yes {f : UInt8 → UInt8 → Bool} {p : List UInt8} {x} {k : Nat} (hk : k < p.length) (h : f p[k] x = true) : stepL f p x [k] = [k + 1] := by simp [stepL, List.getElem?_eq_getElem hk, h]
theorem stepL_no {f : UInt8 → UInt8 → Bool} {p : List UInt8} {x} {k : Nat} (hk : k < p.length) (h : f p[k] x = false) : stepL f p x [k] = [] := by simp [stepL, List.getElem?_eq_getElem hk, h]
theorem step_any (f : UInt8 → UInt8 → Bool) {p : List UInt8} (x : UInt8) (t : List UInt8) : ∀ ks, (∀ k ∈ ks, star p k = false) → anyF f p (x :: t) ks = anyF f p t (stepL f p x ks)
  | [], _ => rfl
  | k :: ks, h => by
    have ih := step_any f x t ks fun j hj => h j (List.mem_cons_of_mem _ hj)
    have e : k :: ks = [k] ++ ks := rfl
    rw [e, anyF_app, stepL_app, anyF_app, ih]
    congr 1
    rcases Nat.lt_or_ge k p.length with hk | hk
    · have h1 := no_star hk (h k List.mem_cons_self)
      cases hf : f p[k] x
      · rw [stepL_no hk hf]
        simp only [anyF, List.any_cons, List.any_nil, List.drop_eq_getElem_cons hk, matF_one h1, hf, Bool.false_and, Bool.or_false]
      · rw [stepL_yes hk hf]
        simp only [anyF, List.any_cons, List.any_nil, List.drop_eq_getElem_cons hk, matF_one h1, hf, Bool.true_and, Bool.or_false]
    · simp only [anyF, stepL, List.filter_cons, List.filter_nil, List.getElem?_eq_none hk, List.any_cons, List.any_nil, List.drop_of_length_le hk, matF_nil]
      rfl
theorem stepL_fall (f p x) : ∀ ks, ks.Pairwise (fun a b => b < a) → (stepL f p x ks).Pairwise fun a b => b < a := by
  intro ks h
  unfold stepL
  rw [List.pairwise_map]
  exact (h.filter _).imp fun h1 => by omega
theorem stepL_mem {f : UInt8 → UInt8 → Bool} {p : List UInt8} {x} {ks : List Nat} {r : Nat} (h : r ∈ stepL f p x ks) : ∃ k, k ∈ ks ∧ r = k + 1 ∧ k < p.length := by
  unfold stepL at h
  rw [List.mem_map] at h
  obtain ⟨k, hk, rfl⟩ := h
  rw [List.mem_filter] at hk
  refine ⟨k, hk.1, rfl, ?_⟩
  rcases Nat.lt_or_ge k p.length with h1 | h1
  · exact h1
  · rw [List.getElem?_eq_none h1] at hk; cases hk.2
/-- a round whose places have no star, and that reaches none -/
theorem round_none {f : UInt8 → UInt8 → Bool} {p : List UInt8} {R : List Nat} (h : Form p R) (hn : ∀ k ∈ R, star p k = false) (x : UInt8) (hs : ∀ r ∈ stepL f p x R, star p r = false) :
    Form p (stepL f p x R) ∧ ∀ t, anyF f p (x :: t) R = anyF f p t (stepL f p x R) :=
  ⟨⟨stepL_fall _ _ _ _ h.fall, fun r hr => by obtain ⟨k, -, rfl, hk⟩ := stepL_mem hr; exact hk, .inl hs⟩, fun t => step_any f x t R hn⟩
/-- .. that has a star, as the last one -/
theorem round_star {f : UInt8 → UInt8 → Bool} {p : List UInt8} {pre : List Nat} {e : Nat} (h : Form p (pre ++ [e])) (hn : ∀ k ∈ pre, star p k = false) (he : star p e = true) (he1 : star p (e + 1) = false) (hm : e + 1 ∈ pre) (x : UInt8)
    (hs : ∀ r ∈ stepL f p x pre, star p r = false) :
    Form p (stepL f p x pre ++ [e + 1, e]) ∧ ∀ t, anyF f p (x :: t) (pre ++ [e]) = anyF f p t (stepL f p x pre ++ [e + 1, e]) := by
  have hf := h.fall
  rw [List.pairwise_append] at hf
  refine ⟨⟨?_, ?_, .inr ⟨_, e, rfl, hs, he, he1⟩⟩, ?_⟩
  · rw [List.pairwise_append]
    refine ⟨stepL_fall _ _ _ _ hf.1, by simp, ?_⟩
    intro r hr q hq
    obtain ⟨k, hk, rfl, -⟩ := stepL_mem hr
    have := hf.2.2 k hk e (by simp)
    simp only [List.mem_cons, List.not_mem_nil, or_false] at hq
    omega
  · intro r hr
    have hl := star_lt he
    simp only [List.mem_append, List.mem_cons, List.not_mem_nil, or_false] at hr
    rcases hr with hr | hr | hr
    · obtain ⟨k, -, rfl, hk⟩ := stepL_mem hr; exact hk
    · omega
    · omega
  · intro t
    rw [anyF_app, anyF_app, anyF_pair t he, ← step_any f x t pre hn]
    have h1 : anyF f p (x :: t) [e] = (matF f (p.drop (e + 1)) (x :: t) || matF f (p.drop e) t) := by
      simp only [anyF, List.any_cons, List.any_nil, Bool.or_false]
      rw [star_at he, matF_star, ← star_at he]
    have h2 : matF f (p.drop (e + 1)) (x :: t) = true → anyF f p (x :: t) pre = true := fun h3 => by
      unfold anyF; rw [List.any_eq_true]; exact ⟨_, hm, h3⟩
    rw [h1]
    cases h4 : matF f (p.drop (e + 1)) (x :: t)
    · rfl
    · rw [h2 h4]; rfl
/-- .. that comes upon a star: the others lead nowhere else -/
theorem round_stays {f : UInt8 → UInt8 → Bool} {p : List UInt8} {pre post : List Nat} {k e : Nat} (h : Form p (pre ++ k :: post)) (hn : ∀ j ∈ pre, star p j = false) (hk : star p k = false) (x : UInt8)
    (hs : ∀ r ∈ stepL f p x pre, star p r = false) (hkl : k < p.length) (hfk : f p[k] x = true) (hr : run p (k + 1) e) (he1 : star p (e + 1) = false) :
    Form p (stepL f p x pre ++ [e + 1, e]) ∧ ∀ t, anyF f p (x :: t) (pre ++ k :: post) = anyF f p t (stepL f p x pre ++ [e + 1, e]) := by
  have hf := h.fall
  rw [List.pairwise_append, List.pairwise_cons] at hf
  have he : star p e = true := hr.2 e hr.1 (Nat.le_refl _)
  have hl := star_lt he
  refine ⟨⟨?_, ?_, .inr ⟨_, e, rfl, hs, he, he1⟩⟩, ?_⟩
  · rw [List.pairwise_append]
    refine ⟨stepL_fall _ _ _ _ hf.1, by simp, ?_⟩
    intro r hr1 q hq
    have hns := hs r hr1
    obtain ⟨k', hk', rfl, -⟩ := stepL_mem hr1
    have h1 := hf.2.2 k' hk' k (by simp)
    have h2 : e < k' + 1 := by
      rcases Nat.lt_or_ge e (k' + 1) with h3 | h3
      · exact h3
      · rw [hr.2 (k' + 1) (by omega) h3] at hns; cases hns
    have h3 : k' ≠ e := fun h4 => by rw [← h4, hn k' hk'] at he; cases he
    simp only [List.mem_cons, List.not_mem_nil, or_false] at hq
    omega
  · intro r hr1
    simp only [List.mem_append, List.mem_cons, List.not_mem_nil, or_false] at hr1
    rcases hr1 with hr1 | hr1 | hr1
    · obtain ⟨k', -, rfl, hk'⟩ := stepL_mem hr1; exact hk'
    · omega
    · omega
  · intro t
    have hlk : matF f (p.drop k) (x :: t) = matF f (p.drop e) t := by
      rw [List.drop_eq_getElem_cons hkl, matF_one (no_star hkl hk), hfk, Bool.true_and]
      exact run_mat f t (e - (k + 1)) e (by have := hr.1; omega) hr
    have e1 : k :: post = [k] ++ post := rfl
    rw [anyF_app, anyF_app, anyF_pair t he, ← step_any f x t pre hn]
    congr 1
    rw [e1, anyF_app]
    have h0 : anyF f p (x :: t) [k] = matF f (p.drop e) t := by simp only [anyF, List.any_cons, List.any_nil, Bool.or_false, hlk]
    rw [h0, Bool.eq_iff_iff, Bool.or_eq_true]
    constructor
    · rintro (h1 | h1)
      · exact h1
      · unfold anyF at h1
        rw [List.any_eq_true] at h1
        obtain ⟨j, hj, h2⟩ := h1
        have h3 := hf.2.1.1 j hj
        exact below_star f he hk (by have := hr.1; omega) x t _ j (Nat.le_refl _) (by omega) h2
    · exact .inl
end Go.Proofs.YtcaaljioennnnabDoor.glob

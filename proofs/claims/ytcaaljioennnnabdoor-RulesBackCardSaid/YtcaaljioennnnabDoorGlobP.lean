/-
 Layer 21, of no program: what a pattern matches, and which two have a text in common.
-/
import Init
namespace Go.Proofs.YtcaaljioennnnabDoor.glob
/-- some end of a text -/
def ends (f : List UInt8 → Bool) : List UInt8 → Bool
  | [] => f []
  | x :: t => f (x :: t) || ends f t
/-- does a pattern stand for a text? -/
def mat : List UInt8 → List UInt8 → Bool
  | [], s => s.isEmpty
  | c :: p, s => if c = 42 then ends (mat p) s else match s with
    | [] => false
    | x :: t => (c == 63 || c == x) && mat p t
theorem ends_iff (f : List UInt8 → Bool) : ∀ s, ends f s = true ↔ ∃ u v, s = u ++ v ∧ f v = true
  | [] => by
    constructor
    · intro h; exact ⟨[], [], rfl, h⟩
    · rintro ⟨u, v, h, hv⟩
      obtain ⟨rfl, rfl⟩ := List.append_eq_nil_iff.1 h.symm
      exact hv
  | x :: t => by
    simp only [ends, Bool.or_eq_true, ends_iff f t]
    constructor
    · rintro (h | ⟨u, v, rfl, hv⟩)
      · exact ⟨[], x :: t, rfl, h⟩
      · exact ⟨x :: u, v, rfl, hv⟩
    · rintro ⟨u, v, h, hv⟩
      rcases u with _ | ⟨y, u⟩
      · left; rw [h]; exact hv
      · right
        simp only [List.cons_append, List.cons.injEq] at h
        exact ⟨u, v, h.2, hv⟩
theorem mat_star (p s : List UInt8) : mat (42 :: p) s = true ↔ ∃ u v, s = u ++ v ∧ mat p v = true := by
  simp only [mat, if_true]; exact ends_iff _ _
theorem mat_one {c : UInt8} (h : ¬ c = 42) (p s : List UInt8) : mat (c :: p) s = true ↔ ∃ x t, s = x :: t ∧ (c = 63 ∨ c = x) ∧ mat p t = true := by
  rcases s with _ | ⟨x, t⟩
  · simp [mat, h]
  · simp [mat, h]
    constructor
    · rintro ⟨h1, h2⟩; exact ⟨x, t, ⟨rfl, rfl⟩, h1, h2⟩
    · rintro ⟨y, u, ⟨rfl, rfl⟩, h1, h2⟩; exact ⟨h1, h2⟩
theorem mat_nil (s : List UInt8) : mat [] s = true ↔ s = [] := by simp [mat]
theorem mat_app : ∀ (p q s : List UInt8), mat (p ++ q) s = true ↔ ∃ u v, s = u ++ v ∧ mat p u = true ∧ mat q v = true
  | [], q, s => by
    constructor
    · intro h; exact ⟨[], s, rfl, by simp [mat], h⟩
    · rintro ⟨u, v, rfl, h1, h2⟩
      rw [(mat_nil u).1 h1]; exact h2
  | c :: p, q, s => by
    by_cases h : c = 42
    · subst h
      rw [List.cons_append, mat_star]
      constructor
      · rintro ⟨u, v, rfl, hv⟩
        obtain ⟨a, b, rfl, h1, h2⟩ := (mat_app p q v).1 hv
        exact ⟨u ++ a, b, by simp, (mat_star _ _).2 ⟨u, a, rfl, h1⟩, h2⟩
      · rintro ⟨u, v, rfl, h1, h2⟩
        obtain ⟨a, b, rfl, h3⟩ := (mat_star _ _).1 h1
        exact ⟨a, b ++ v, by simp, (mat_app p q _).2 ⟨b, v, rfl, h3, h2⟩⟩
    · rw [List.cons_append, mat_one h]
      constructor
      · rintro ⟨x, t, rfl, hx, ht⟩
        obtain ⟨a, b, rfl, h1, h2⟩ := (mat_app p q t).1 ht
        exact ⟨x :: a, b, rfl, (mat_one h _ _).2 ⟨x, a, rfl, hx, h1⟩, h2⟩
      · rintro ⟨u, v, rfl, h1, h2⟩
        obtain ⟨x, a, rfl, hx, h3⟩ := (mat_one h _ _).1 h1
        exact ⟨x, a ++ v, rfl, hx, (mat_app p q _).2 ⟨a, v, rfl, h3, h2⟩⟩
theorem star_all (s : List UInt8) : mat [42] s = true := (mat_star _ _).2 ⟨s, [], by simp, by simp [mat]⟩
/-- a pattern that goes on by a star -/
theorem snoc_star (p u : List UInt8) (x : UInt8) : mat (p ++ [42]) (u ++ [x]) = (mat p (u ++ [x]) || mat (p ++ [42]) u) := by
  rw [Bool.eq_iff_iff, Bool.or_eq_true, mat_app, mat_app]
  constructor
  · rintro ⟨a, b, h, h1, -⟩
    rcases List.eq_nil_or_concat b with rfl | ⟨b', y, rfl⟩
    · left; rw [List.append_nil] at h; rw [h]; exact h1
    · right
      have h' : u ++ [x] = (a ++ b') ++ [y] := by rw [h]; simp
      have := List.append_inj' h' rfl
      exact ⟨a, b', this.1, h1, star_all _⟩
  · rintro (h | ⟨a, b, rfl, h1, -⟩)
    · exact ⟨u ++ [x], [], by simp, h, star_all _⟩
    · exact ⟨a, b ++ [x], by simp, h1, star_all _⟩
theorem snoc_star0 (p : List UInt8) : mat (p ++ [42]) [] = mat p [] := by
  rw [Bool.eq_iff_iff, mat_app]
  constructor
  · rintro ⟨a, b, h, h1, -⟩
    obtain ⟨rfl, rfl⟩ := List.append_eq_nil_iff.1 h.symm
    exact h1
  · intro h; exact ⟨[], [], rfl, h, star_all _⟩
/-- .. by another byte -/
theorem snoc_one {c : UInt8} (hc : ¬ c = 42) (p u : List UInt8) (x : UInt8) : mat (p ++ [c]) (u ++ [x]) = ((c == 63 || c == x) && mat p u) := by
  rw [Bool.eq_iff_iff, mat_app]
  simp only [Bool.and_eq_true, Bool.or_eq_true, beq_iff_eq]
  constructor
  · rintro ⟨a, b, h, h1, h2⟩
    obtain ⟨y, t, rfl, hy, ht⟩ := (mat_one hc _ _).1 h2
    rw [mat_nil] at ht; subst ht
    have := List.append_inj' h rfl
    obtain ⟨rfl, h4⟩ := this
    cases h4
    exact ⟨hy, h1⟩
  · rintro ⟨h1, h2⟩
    exact ⟨u, [x], rfl, h2, (mat_one hc _ _).2 ⟨x, [], rfl, h1, by simp [mat]⟩⟩
theorem snoc_one0 {c : UInt8} (hc : ¬ c = 42) (p : List UInt8) : mat (p ++ [c]) [] = false := by
  rw [← Bool.not_eq_true, mat_app]
  rintro ⟨a, b, h, h1, h2⟩
  obtain ⟨rfl, rfl⟩ := List.append_eq_nil_iff.1 h.symm
  obtain ⟨y, t, h3, -⟩ := (mat_one hc _ _).1 h2
  cases h3
/-- can a text be a pattern? -/
def rightG (p : List UInt8) : Bool := p.all (fun c => decide (33 ≤ c.toNat ∧ c.toNat ≤ 126)) && decide (1 ≤ p.length ∧ p.length ≤ 64)
/-- neither a star nor a question mark is in it -/
def plainL (p : List UInt8) : Bool := p.all fun c => !(c == 42 || c == 63)
def leastL (p : List UInt8) : Nat := (p.filter fun c => !(c == 42)).length
theorem mat_plain : ∀ (p s : List UInt8), plainL p = true → (mat p s = true ↔ p = s)
  | [], s, _ => by rw [mat_nil]; exact eq_comm
  | c :: p, s, h => by
    simp only [plainL, List.all_cons, Bool.and_eq_true, Bool.not_eq_true', Bool.or_eq_false_iff, beq_eq_false_iff_ne] at h
    have h' : plainL p = true := h.2
    rw [mat_one h.1.1]
    constructor
    · rintro ⟨x, t, rfl, hx, ht⟩
      rcases hx with hx | rfl
      · exact absurd hx h.1.2
      · rw [(mat_plain p t h').1 ht]
    · rintro rfl
      exact ⟨c, p, rfl, .inr rfl, (mat_plain p p h').2 rfl⟩
theorem mat_least : ∀ (p s : List UInt8), mat p s = true → leastL p ≤ s.length
  | [], s, _ => by simp [leastL]
  | c :: p, s, h => by
    by_cases hc : c = 42
    · subst hc
      obtain ⟨u, v, rfl, hv⟩ := (mat_star _ _).1 h
      have := mat_least p v hv
      simp [leastL] at this ⊢
      omega
    · obtain ⟨x, t, rfl, -, ht⟩ := (mat_one hc _ _).1 h
      have := mat_least p t ht
      simp [leastL, hc] at this ⊢
      omega
theorem mat_more {p s : List UInt8} (m : List UInt8) (h : mat p s = true) : mat (p ++ [42]) (s ++ m) = true := (mat_app _ _ _).2 ⟨s, m, rfl, h, star_all _⟩
theorem mat_ahead {p s : List UInt8} (m : List UInt8) (h : mat p s = true) : mat (42 :: p) (m ++ s) = true := (mat_star _ _).2 ⟨m, s, rfl, h⟩
/-! Two patterns. -/
/-- what the table tells of two patterns' ends -/
def meets : List UInt8 → List UInt8 → Bool
  | [], [] => true
  | [], d :: b => d == 42 && meets [] b
  | c :: a, [] => c == 42 && meets a []
  | c :: a, d :: b => if c = 42 then meets a (d :: b) || meets (c :: a) b else if d = 42 then meets (c :: a) b || meets a (d :: b) else (c == 63 || d == 63 || c == d) && meets a b
termination_by a b => a.length + b.length
theorem meets_of : ∀ (n : Nat) (a b s : List UInt8), a.length + b.length + s.length ≤ n → mat a s = true → mat b s = true → meets a b = true := by
  intro n
  induction n with
  | zero =>
    intro a b s h _ _
    obtain rfl : a = [] := List.eq_nil_of_length_eq_zero (by omega)
    obtain rfl : b = [] := List.eq_nil_of_length_eq_zero (by omega)
    simp [meets]
  | succ n ih =>
    intro a b s h ha hb
    rcases a with _ | ⟨c, a⟩
    · obtain rfl := (mat_nil s).1 ha
      rcases b with _ | ⟨d, b⟩
      · simp [meets]
      · by_cases hd : d = 42
        · subst hd
          obtain ⟨u, v, e, hv⟩ := (mat_star _ _).1 hb
          obtain ⟨rfl, rfl⟩ := List.append_eq_nil_iff.1 e.symm
          simp [meets]
          exact ih [] b [] (by simp at h ⊢; omega) ha hv
        · obtain ⟨x, t, e, -⟩ := (mat_one hd _ _).1 hb
          cases e
    · rcases b with _ | ⟨d, b⟩
      · obtain rfl := (mat_nil s).1 hb
        by_cases hc : c = 42
        · subst hc
          obtain ⟨u, v, e, hv⟩ := (mat_star _ _).1 ha
          obtain ⟨rfl, rfl⟩ := List.append_eq_nil_iff.1 e.symm
          simp [meets]
          exact ih a [] [] (by simp at h ⊢; omega) hv hb
        · obtain ⟨x, t, e, -⟩ := (mat_one hc _ _).1 ha
          cases e
      · by_cases hc : c = 42
        · subst hc
          obtain ⟨u, v, e, hv⟩ := (mat_star _ _).1 ha
          simp only [meets, if_true, Bool.or_eq_true]
          rcases u with _ | ⟨y, u⟩
          · left
            rw [List.nil_append] at e; subst e
            exact ih a (d :: b) _ (by simp at h ⊢; omega) hv hb
          · by_cases hd : d = 42
            · subst hd
              obtain ⟨u', v', e', hv'⟩ := (mat_star _ _).1 hb
              rcases u' with _ | ⟨y', u'⟩
              · right
                rw [List.nil_append] at e'; subst e'
                exact ih (42 :: a) b s (by simp at h ⊢; omega) ha hv'
              · subst e
                simp only [List.cons_append, List.cons.injEq] at e'
                have h1 : mat (42 :: a) (u ++ v) = true := (mat_star _ _).2 ⟨u, v, rfl, hv⟩
                have h2 : mat (42 :: b) (u ++ v) = true := (mat_star _ _).2 ⟨u', v', e'.2, hv'⟩
                have := ih (42 :: a) (42 :: b) (u ++ v) (by simp at h ⊢; omega) h1 h2
                simp only [meets, if_true, Bool.or_eq_true] at this
                exact this
            · right
              obtain ⟨x, t, e', -, ht⟩ := (mat_one hd _ _).1 hb
              subst e
              simp only [List.cons_append, List.cons.injEq] at e'
              rw [← e'.2] at ht
              exact ih (42 :: a) b (u ++ v) (by simp at h ⊢; omega) ((mat_star _ _).2 ⟨u, v, rfl, hv⟩) ht
        · obtain ⟨x, t, rfl, hx, ht⟩ := (mat_one hc _ _).1 ha
          by_cases hd : d = 42
          · subst hd
            obtain ⟨u', v', e', hv'⟩ := (mat_star _ _).1 hb
            simp only [meets, if_neg hc, if_true, Bool.or_eq_true]
            rcases u' with _ | ⟨y', u'⟩
            · left
              rw [List.nil_append] at e'; subst e'
              exact ih (c :: a) b _ (by simp at h ⊢; omega) ha hv'
            · right
              simp only [List.cons_append, List.cons.injEq] at e'
              exact ih a (42 :: b) t (by simp at h ⊢; omega) ht ((mat_star _ _).2 ⟨u', v', e'.2, hv'⟩)
          · obtain ⟨x', t', e', hx', ht'⟩ := (mat_one hd _ _).1 hb
            cases e'
            simp only [meets, if_neg hc, if_neg hd, Bool.and_eq_true, Bool.or_eq_true, beq_iff_eq]
            refine ⟨?_, ih a b t (by simp at h ⊢; omega) ht ht'⟩
            rcases hx with h1 | h1
            · exact .inl (.inl h1)
            · rcases hx' with h2 | h2
              · exact .inl (.inr h2)
              · exact .inr (h1.trans h2.symm)
theorem meets_has : ∀ (n : Nat) (a b : List UInt8), a.length + b.length ≤ n → meets a b = true → ∃ s, mat a s = true ∧ mat b s = true := by
  intro n
  induction n with
  | zero =>
    intro a b h _
    obtain rfl : a = [] := List.eq_nil_of_length_eq_zero (by omega)
    obtain rfl : b = [] := List.eq_nil_of_length_eq_zero (by omega)
    exact ⟨[], by simp [mat], by simp [mat]⟩
  | succ n ih =>
    intro a b h hm
    rcases a with _ | ⟨c, a⟩
    · rcases b with _ | ⟨d, b⟩
      · exact ⟨[], by simp [mat], by simp [mat]⟩
      · simp only [meets, Bool.and_eq_true, beq_iff_eq] at hm
        obtain ⟨rfl, hm⟩ := hm
        obtain ⟨s, h1, h2⟩ := ih [] b (by simp at h ⊢; omega) hm
        exact ⟨s, h1, (mat_star _ _).2 ⟨[], s, rfl, h2⟩⟩
    · rcases b with _ | ⟨d, b⟩
      · simp only [meets, Bool.and_eq_true, beq_iff_eq] at hm
        obtain ⟨rfl, hm⟩ := hm
        obtain ⟨s, h1, h2⟩ := ih a [] (by simp at h ⊢; omega) hm
        exact ⟨s, (mat_star _ _).2 ⟨[], s, rfl, h1⟩, h2⟩
      · have hgo : ∀ {x : UInt8} {p s : List UInt8}, ∃ y : UInt8, (x = 42 ∨ x = 63 ∨ x = y) := fun {x _ _} => ⟨x, .inr (.inr rfl)⟩
        by_cases hc : c = 42
        · subst hc
          simp only [meets, if_true, Bool.or_eq_true] at hm
          rcases hm with hm | hm
          · obtain ⟨s, h1, h2⟩ := ih a (d :: b) (by simp at h ⊢; omega) hm
            exact ⟨s, (mat_star _ _).2 ⟨[], s, rfl, h1⟩, h2⟩
          · obtain ⟨s, h1, h2⟩ := ih (42 :: a) b (by simp at h ⊢; omega) hm
            by_cases hd : d = 42
            · subst hd
              exact ⟨s, h1, (mat_star _ _).2 ⟨[], s, rfl, h2⟩⟩
            · refine ⟨d :: s, ?_, (mat_one hd _ _).2 ⟨d, s, rfl, .inr rfl, h2⟩⟩
              obtain ⟨u, v, rfl, hv⟩ := (mat_star _ _).1 h1
              exact (mat_star _ _).2 ⟨d :: u, v, rfl, hv⟩
        · by_cases hd : d = 42
          · subst hd
            simp only [meets, if_neg hc, if_true, Bool.or_eq_true] at hm
            rcases hm with hm | hm
            · obtain ⟨s, h1, h2⟩ := ih (c :: a) b (by simp at h ⊢; omega) hm
              exact ⟨s, h1, (mat_star _ _).2 ⟨[], s, rfl, h2⟩⟩
            · obtain ⟨s, h1, h2⟩ := ih a (42 :: b) (by simp at h ⊢; omega) hm
              refine ⟨c :: s, (mat_one hc _ _).2 ⟨c, s, rfl, .inr rfl, h1⟩, ?_⟩
              obtain ⟨u, v, rfl, hv⟩ := (mat_star _ _).1 h2
              exact (mat_star _ _).2 ⟨c :: u, v, rfl, hv⟩
          · simp only [meets, if_neg hc, if_neg hd, Bool.and_eq_true, Bool.or_eq_true, beq_iff_eq] at hm
            obtain ⟨s, h1, h2⟩ := ih a b (by simp at h ⊢; omega) hm.2
            rcases hm.1 with (rfl | rfl) | rfl
            · exact ⟨d :: s, (mat_one (by decide) _ _).2 ⟨d, s, rfl, .inl rfl, h1⟩, (mat_one hd _ _).2 ⟨d, s, rfl, .inr rfl, h2⟩⟩
            · exact ⟨c :: s, (mat_one hc _ _).2 ⟨c, s, rfl, .inr rfl, h1⟩, (mat_one (by decide) _ _).2 ⟨c, s, rfl, .inl rfl, h2⟩⟩
            · exact ⟨c :: s, (mat_one hc _ _).2 ⟨c, s, rfl, .inr rfl, h1⟩, (mat_one hc _ _).2 ⟨c, s, rfl, .inr rfl, h2⟩⟩
theorem meets_iff (a b : List UInt8) : meets a b = true ↔ ∃ s, mat a s = true ∧ mat b s = true :=
  ⟨fun h => meets_has _ a b (Nat.le_refl _) h, fun ⟨s, h1, h2⟩ => meets_of _ a b s (Nat.le_refl _) h1 h2⟩
theorem meets_comm (a b : List UInt8) : meets a b = meets b a := by
  rw [Bool.eq_iff_iff, meets_iff, meets_iff]
  exact ⟨fun ⟨s, h1, h2⟩ => ⟨s, h2, h1⟩, fun ⟨s, h1, h2⟩ => ⟨s, h2, h1⟩⟩
theorem meets_plain {a : List UInt8} (b : List UInt8) (h : plainL a = true) : meets a b = mat b a := by
  rw [Bool.eq_iff_iff, meets_iff]
  constructor
  · rintro ⟨s, h1, h2⟩; rw [(mat_plain a s h).1 h1]; exact h2
  · intro h2; exact ⟨a, (mat_plain a a h).2 rfl, h2⟩
end Go.Proofs.YtcaaljioennnnabDoor.glob

/-
  Plain mathematics of numbers as bytes, seven bits in each: what the bytes of a number are, what stands at a place of bytes, and that each undoes the other. No program is named here.
-/
import Derived.Laws.BitsAllLaws
namespace Go.Proofs.YtodnfahffkggiaaDoor.num

/-- a number's bytes -/
def putL (m : Nat) : List Nat := if m < 128 then [m] else (m % 128 + 128) :: putL (m / 128)
termination_by m
decreasing_by omega

/-- what the bytes are, from the i-th on, behind what came to n: the number, how many bytes, the error -/
def takeGo (i n : Nat) : List Nat → Nat × Nat × Nat
  | [] => (0, 0, 2)
  | c :: r => if i = 9 ∧ 1 < c then (0, 0, 1)
    else if 128 ≤ c then takeGo (i + 1) (n + c % 128 * 128 ^ i) r
    else if c = 0 ∧ 0 < i then (0, 0, 1) else (n + c * 128 ^ i, i + 1, 0)

/-- what stands at a place -/
def takeAt (l : List Nat) (p : Int) : Nat × Nat × Nat :=
  if p < 0 ∨ (l.length : Int) < p then (0, 0, 12)
  else
    let r := takeGo 0 0 (l.drop p.toNat)
    (r.1, if r.2.2 = 0 then p.toNat + r.2.1 else 0, r.2.2)

theorem putL_lt {m : Nat} (h : m < 128) : putL m = [m] := by rw [putL, if_pos h]
theorem putL_ge {m : Nat} (h : 128 ≤ m) : putL m = (m % 128 + 128) :: putL (m / 128) := by rw [putL, if_neg (by omega)]
theorem putL_ne (m : Nat) : putL m ≠ [] := by
  rw [putL]; split <;> simp
theorem putL_byte (m : Nat) : ∀ x ∈ putL m, x < 256 := by
  induction m using Nat.strongRecOn with
  | _ m ih =>
    by_cases h : m < 128
    · rw [putL_lt h]; simp; omega
    · rw [putL_ge (by omega)]
      intro x hx
      rcases List.mem_cons.1 hx with rfl | hx
      · omega
      · exact ih (m / 128) (by omega) x hx
/-- fewer than so many bits: at most so many bytes -/
theorem putL_len (k m : Nat) (h : m < 128 ^ (k + 1)) : (putL m).length ≤ k + 1 := by
  induction k generalizing m with
  | zero => rw [putL_lt (by simpa using h)]; simp
  | succ k ih =>
    by_cases h' : m < 128
    · rw [putL_lt h']; simp
    · rw [putL_ge (by omega), List.length_cons]
      have := ih (m / 128) (by rw [Nat.div_lt_iff_lt_mul (by omega)]; rw [Nat.pow_succ] at h; exact h)
      omega
theorem putL_len10 (m : Nat) (h : m < 18446744073709551616) : (putL m).length ≤ 10 :=
  putL_len 9 m (Nat.lt_of_lt_of_le h (by decide))
theorem putL_pos (m : Nat) : 1 ≤ (putL m).length := List.length_pos_iff.2 (putL_ne m)
theorem putL_mono (a b : Nat) (h : a ≤ b) : (putL a).length ≤ (putL b).length := by
  induction b using Nat.strongRecOn generalizing a with
  | _ b ih =>
    by_cases ha : a < 128
    · rw [putL_lt ha]; exact putL_pos b
    · rw [putL_ge (m := a) (by omega), putL_ge (m := b) (by omega), List.length_cons, List.length_cons]
      have := ih (b / 128) (by omega) (a / 128) (by omega)
      omega

/-- how many bits -/
def bl (n : Nat) : Nat := if n = 0 then 0 else Nat.log2 n + 1
theorem bl_div (n : Nat) (h : 128 ≤ n) : bl n = bl (n / 128) + 7 := by
  unfold bl
  have h0 : n ≠ 0 := by omega
  have h1 : n / 128 ≠ 0 := by omega
  rw [if_neg h0, if_neg h1]
  have : Nat.log2 n = Nat.log2 (n / 128) + 7 := by
    rw [Nat.log2_eq_iff h0]
    have a := Nat.log2_self_le h1
    have b := Nat.lt_log2_self (n := n / 128)
    constructor
    · rw [Nat.pow_add]; have := Nat.div_mul_le_self n 128; omega
    · have : 2 ^ (Nat.log2 (n / 128) + 7 + 1) = 2 ^ (Nat.log2 (n / 128) + 1) * 128 := by rw [show Nat.log2 (n / 128) + 7 + 1 = (Nat.log2 (n / 128) + 1) + 7 by omega, Nat.pow_add]
      rw [this]
      omega
  omega
theorem bl_small (n : Nat) (h : n < 128) : bl n ≤ 7 := by
  unfold bl
  split
  · omega
  · have := Nat.log2_lt (n := n) (k := 7) (by omega)
    omega
theorem putL_size (n : Nat) : (putL n).length = max 1 ((bl n + 6) / 7) := by
  induction n using Nat.strongRecOn with
  | _ n ih =>
    by_cases h : n < 128
    · rw [putL_lt h]
      have := bl_small n h
      simp; omega
    · rw [putL_ge (by omega), List.length_cons, ih (n / 128) (by omega), bl_div n (by omega)]
      have : 1 ≤ bl (n / 128) := by unfold bl; rw [if_neg (by omega)]; omega
      omega

/-- WHAT WAS PUT IS TAKEN, from any place of it on -/
theorem takeGo_put (m : Nat) : ∀ (i n : Nat) (r : List Nat), i ≤ 9 → m * 128 ^ i < 18446744073709551616 → (0 < i → 0 < m) →
    takeGo i n (putL m ++ r) = (n + m * 128 ^ i, i + (putL m).length, 0) := by
  induction m using Nat.strongRecOn with
  | _ m ih =>
    intro i n r hi hlt hpos
    by_cases h : m < 128
    · rw [putL_lt h]
      simp only [List.cons_append, List.nil_append, takeGo, List.length_singleton]
      have h9 : ¬ (i = 9 ∧ 1 < m) := by
        rintro ⟨rfl, hm⟩
        have : 2 * 128 ^ 9 ≤ m * 128 ^ 9 := Nat.mul_le_mul_right _ hm
        omega
      rw [if_neg h9, if_neg (by omega), if_neg (by omega)]
    · rw [putL_ge (by omega)]
      simp only [List.cons_append, takeGo, List.length_cons]
      have hi8 : i ≤ 8 := by
        rcases Nat.lt_or_ge i 9 with h' | h'
        · omega
        · have : i = 9 := by omega
          subst this
          have : 128 * 128 ^ 9 ≤ m * 128 ^ 9 := Nat.mul_le_mul_right _ (by omega)
          omega
      rw [if_neg (by omega), if_pos (by omega)]
      have hstep : m / 128 * 128 ^ (i + 1) ≤ m * 128 ^ i := by
        rw [Nat.pow_succ, Nat.mul_comm (128 ^ i) 128, ← Nat.mul_assoc]
        exact Nat.mul_le_mul_right _ (Nat.div_mul_le_self m 128)
      rw [ih (m / 128) (by omega) (i + 1) _ r (by omega) (by omega) (by intro _; omega)]
      have e : (m % 128 + 128) % 128 = m % 128 := by omega
      have e2 : m * 128 ^ i = m % 128 * 128 ^ i + m / 128 * 128 ^ (i + 1) := by
        rw [Nat.pow_succ, Nat.mul_comm (128 ^ i) 128, ← Nat.mul_assoc, ← Nat.add_mul]
        congr 1; omega
      rw [e, e2]
      ext <;> simp <;> omega

/-- WHAT IS TAKEN WAS PUT SO -/
theorem put_takeGo (l : List Nat) : ∀ (i n x k : Nat), (∀ c ∈ l, c < 256) → i ≤ 9 → n < 128 ^ i → takeGo i n l = (x, k, 0) →
    ∃ m, x = n + m * 128 ^ i ∧ x < 18446744073709551616 ∧ (0 < i → 0 < m) ∧ i < k ∧ k - i ≤ l.length ∧ putL m = l.take (k - i) := by
  induction l with
  | nil => intro i n x k _ _ _ h; simp [takeGo] at h
  | cons c r ih =>
    intro i n x k hby hi hn h
    have hbyte : c < 256 := hby c (by simp)
    simp only [takeGo] at h
    by_cases h9 : i = 9 ∧ 1 < c
    · rw [if_pos h9] at h; simp at h
    rw [if_neg h9] at h
    have hp : 0 < 128 ^ i := Nat.pow_pos (by omega)
    by_cases hc : 128 ≤ c
    · rw [if_pos hc] at h
      have hi8 : i ≤ 8 := by omega
      have hb : n + c % 128 * 128 ^ i < 128 ^ (i + 1) := by
        have : c % 128 * 128 ^ i ≤ 127 * 128 ^ i := Nat.mul_le_mul_right _ (by omega)
        rw [Nat.pow_succ]; omega
      obtain ⟨m, hx, hxl, hm, hik, hkl, hput⟩ := ih (i + 1) _ x k (fun y hy => hby y (by simp [hy])) (by omega) hb h
      refine ⟨c % 128 + m * 128, ?_, hxl, ?_, by omega, ?_, ?_⟩
      · rw [hx, Nat.pow_succ, Nat.add_mul, Nat.mul_comm (128 ^ i) 128, ← Nat.mul_assoc]; omega
      · intro _; have := hm (by omega); omega
      · simp only [List.length_cons]; omega
      · have := hm (by omega)
        have e : k - i = (k - (i + 1)) + 1 := by omega
        rw [putL_ge (by omega), e, List.take_succ_cons, ← hput]
        congr 1
        · omega
        · congr 1; omega
    · rw [if_neg hc] at h
      by_cases h0 : c = 0 ∧ 0 < i
      · rw [if_pos h0] at h; simp at h
      rw [if_neg h0] at h
      simp only [Prod.mk.injEq, and_true] at h
      obtain ⟨rfl, rfl⟩ := h
      refine ⟨c, rfl, ?_, by omega, by omega, by simp, ?_⟩
      · rcases Nat.lt_or_ge i 9 with h8 | h8
        · have a1 : c * 128 ^ i ≤ 127 * 128 ^ i := Nat.mul_le_mul_right _ (by omega)
          have a2 : 128 ^ (i + 1) ≤ 128 ^ 9 := Nat.pow_le_pow_right (by omega) (by omega)
          rw [Nat.pow_succ] at a2
          omega
        · have : i = 9 := by omega
          subst this
          have a1 : c * 128 ^ 9 ≤ 1 * 128 ^ 9 := Nat.mul_le_mul_right _ (by omega)
          omega
      · rw [putL_lt (by omega), show i + 1 - i = 1 by omega]; simp

/-- from the beginning on -/
theorem put_take0 {l : List Nat} (hl : ∀ c ∈ l, c < 256) {x k : Nat} (h : takeGo 0 0 l = (x, k, 0)) :
    putL x = l.take k ∧ x < 18446744073709551616 ∧ 0 < k ∧ k ≤ l.length := by
  obtain ⟨m, hx, hxl, _, hk, hkl, hput⟩ := put_takeGo l 0 0 x k hl (by omega) (by simp) h
  obtain rfl : x = m := by simpa using hx
  exact ⟨by simpa using hput, hxl, hk, by simpa using hkl⟩
theorem take_put0 (m : Nat) (hm : m < 18446744073709551616) (r : List Nat) : takeGo 0 0 (putL m ++ r) = (m, (putL m).length, 0) := by
  have := takeGo_put m 0 0 r (by omega) (by simpa using hm) (by omega)
  simpa using this
/-- what is refused has no number and no place -/
theorem takeGo_err (l : List Nat) : ∀ i n, (takeGo i n l).2.2 ≠ 0 → (takeGo i n l).1 = 0 ∧ (takeGo i n l).2.1 = 0 := by
  induction l with
  | nil => intro i n _; simp [takeGo]
  | cons c r ih =>
    intro i n h
    simp only [takeGo] at h ⊢
    by_cases h9 : i = 9 ∧ 1 < c
    · rw [if_pos h9]; simp
    rw [if_neg h9] at h ⊢
    by_cases hc : 128 ≤ c
    · rw [if_pos hc] at h ⊢; exact ih _ _ h
    rw [if_neg hc] at h ⊢
    by_cases h0 : c = 0 ∧ 0 < i
    · rw [if_pos h0]; simp
    · rw [if_neg h0] at h; simp at h

/-- several numbers' bytes -/
def joinL (l : List Nat) : List Nat := l.flatMap putL
/-- the numbers whose bytes they are, and the error -/
def splitL : List Nat → List Nat × Nat
  | [] => ([], 0)
  | c :: t =>
    let r := takeGo 0 0 (c :: t)
    if r.2.2 ≠ 0 then ([], r.2.2)
    else
      let s := splitL (t.drop (r.2.1 - 1))
      if s.2 ≠ 0 then ([], s.2) else (r.1 :: s.1, 0)
termination_by l => l.length
decreasing_by simp only [List.length_drop, List.length_cons]; omega

theorem splitL_err {l : List Nat} (hl : l ≠ []) (h : (takeGo 0 0 l).2.2 ≠ 0) : splitL l = ([], (takeGo 0 0 l).2.2) := by
  match l, hl with
  | c :: t, _ => rw [splitL]; simp only; rw [if_pos h]
theorem splitL_ok {l : List Nat} (hl : ∀ c ∈ l, c < 256) {x k : Nat} (h : takeGo 0 0 l = (x, k, 0)) :
    splitL l = if (splitL (l.drop k)).2 ≠ 0 then ([], (splitL (l.drop k)).2) else (x :: (splitL (l.drop k)).1, 0) := by
  obtain ⟨_, _, hk, hkl⟩ := put_take0 hl h
  match l, hkl with
  | [], hkl => simp at hkl; omega
  | c :: t, hkl =>
    rw [splitL]
    simp only [h]
    rw [if_neg (by simp)]
    have e : (c :: t).drop k = t.drop (k - 1) := by
      obtain ⟨j, rfl⟩ : ∃ j, k = j + 1 := ⟨k - 1, by omega⟩
      simp
    rw [e]
theorem splitL_nil : splitL [] = ([], 0) := by rw [splitL]
/-- what goes round: so many numbers are told, so much is left -/
def more (acc : List Nat) (s : List Nat × Nat) : List Nat × Nat := if s.2 ≠ 0 then ([], s.2) else (acc ++ s.1, 0)
theorem more_nil (l : List Nat) : more [] (splitL l) = splitL l := by
  unfold more
  split
  · match l with
    | [] => simp [splitL_nil]
    | c :: t =>
      rename_i h
      rw [splitL] at h ⊢
      simp only at h ⊢
      split <;> simp_all
      split <;> simp_all
  · rename_i h
    simp only [ne_eq, Decidable.not_not] at h
    ext <;> simp [h]
theorem more_ok {l : List Nat} (hl : ∀ c ∈ l, c < 256) {x k : Nat} (h : takeGo 0 0 l = (x, k, 0)) (acc : List Nat) :
    more acc (splitL l) = more (acc ++ [x]) (splitL (l.drop k)) := by
  rw [splitL_ok hl h]
  unfold more
  split <;> simp_all

theorem split_join (ns : List Nat) (h : ∀ n ∈ ns, n < 18446744073709551616) : splitL (joinL ns) = (ns, 0) := by
  induction ns with
  | nil => simp [joinL, splitL_nil]
  | cons n ns ih =>
    have hby : ∀ c ∈ joinL (n :: ns), c < 256 := by
      intro c hc
      obtain ⟨m, _, hm⟩ := List.mem_flatMap.1 hc
      exact putL_byte m c hm
    have ht : takeGo 0 0 (joinL (n :: ns)) = (n, (putL n).length, 0) := take_put0 n (h n (by simp)) (joinL ns)
    rw [splitL_ok hby ht]
    have e : (joinL (n :: ns)).drop (putL n).length = joinL ns := by simp [joinL]
    rw [e, ih (fun m hm => h m (by simp [hm]))]
    simp
theorem join_split (l : List Nat) (hl : ∀ c ∈ l, c < 256) (h : (splitL l).2 = 0) : joinL (splitL l).1 = l ∧ ∀ n ∈ (splitL l).1, n < 18446744073709551616 := by
  induction hn : l.length using Nat.strongRecOn generalizing l with
  | _ n ih =>
    subst hn
    match l with
    | [] => simp [splitL_nil, joinL]
    | c :: t =>
      by_cases he : (takeGo 0 0 (c :: t)).2.2 = 0
      · obtain ⟨x, k, e⟩ : ∃ x k, takeGo 0 0 (c :: t) = (x, k, 0) := ⟨(takeGo 0 0 (c :: t)).1, (takeGo 0 0 (c :: t)).2.1, Prod.ext rfl (Prod.ext rfl he)⟩
        obtain ⟨hp, hx, hk, hkl⟩ := put_take0 hl e
        rw [splitL_ok hl e] at h ⊢
        by_cases hs : (splitL ((c :: t).drop k)).2 = 0
        · rw [if_neg (by simpa using hs)]
          have := ih ((c :: t).drop k).length (by rw [List.length_drop]; simp only [List.length_cons] at *; omega) ((c :: t).drop k) (fun y hy => hl y (List.mem_of_mem_drop hy)) hs rfl
          refine ⟨?_, ?_⟩
          · show putL x ++ joinL (splitL ((c :: t).drop k)).1 = c :: t
            rw [this.1, hp, List.take_append_drop]
          · intro n hn
            rcases List.mem_cons.1 hn with rfl | hn
            · exact hx
            · exact this.2 n hn
        · rw [if_pos hs] at h; exact absurd h hs
      · rw [splitL_err (by simp) he] at h; exact absurd h he
theorem splitL_len (l : List Nat) (hl : ∀ c ∈ l, c < 256) : (splitL l).1.length ≤ l.length := by
  by_cases h : (splitL l).2 = 0
  · have hj := (join_split l hl h).1
    have e : ∀ ns : List Nat, ns.length ≤ (joinL ns).length := by
      intro ns
      induction ns with
      | nil => simp
      | cons n ns ih => have := putL_pos n; simp only [joinL, List.flatMap_cons, List.length_append, List.length_cons] at *; omega
    have := e (splitL l).1
    rw [hj] at this
    exact this
  · have : more [] (splitL l) = splitL l := more_nil l
    unfold more at this
    rw [if_pos h] at this
    rw [← this]; simp
end Go.Proofs.YtodnfahffkggiaaDoor.num

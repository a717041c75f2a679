/-
  Plain mathematics of bytes that are turned within four in a row: what they are, and when their sum is another one. No program is named here.
-/
import Derived.Test.YtdenpefihplnoaaCrcNum
namespace Go.Proofs.Ytdenpefihplnoaa.fournum
open Go.Proofs.Ytdenpefihplnoaa.crcnum

/-- the four, by their places -/
def four (x y z u : Nat) : Nat → Nat
  | 0 => x
  | 1 => y
  | 2 => z
  | _ => u
theorem four_lt {x y z u : Nat} (h : x < 256 ∧ y < 256 ∧ z < 256 ∧ u < 256) (j : Nat) : four x y z u j < 256 := by
  obtain ⟨h0, h1, h2, h3⟩ := h
  match j with
  | 0 => exact h0
  | 1 => exact h1
  | 2 => exact h2
  | j + 3 => exact h3
/-- what is turned at place i, when j of the four are through, from place p on -/
def z (d : Nat → Nat) (p j i : Nat) : Nat := if p ≤ i ∧ i < p + j then d (i - p) else 0
/-- cur is l, turned so far -/
def Cur (l cur : List Nat) (d : Nat → Nat) (p j : Nat) : Prop := cur.length = l.length ∧ ∀ i x, l[i]? = some x → cur[i]? = some (x ^^^ z d p j i)
theorem Cur.start (l : List Nat) (d : Nat → Nat) (p : Nat) : Cur l l d p 0 := ⟨rfl, fun i x h => by rw [h]; unfold z; rw [if_neg (by omega)]; simp⟩
theorem Cur.skip {l cur : List Nat} {d : Nat → Nat} {p j : Nat} (h : Cur l cur d p j) (hs : l.length ≤ p + j ∨ d j = 0) : Cur l cur d p (j + 1) := by
  refine ⟨h.1, fun i x hx => ?_⟩
  rw [h.2 i x hx]
  congr 2
  obtain ⟨hi, _⟩ := List.getElem?_eq_some_iff.1 hx
  unfold z
  by_cases h1 : p ≤ i ∧ i < p + j
  · rw [if_pos h1, if_pos (by omega)]
  · rw [if_neg h1]
    by_cases h2 : p ≤ i ∧ i < p + (j + 1)
    · rw [if_pos h2]
      have : i = p + j := by omega
      rcases hs with hs | hs
      · omega
      · rw [this, show p + j - p = j by omega, hs]
    · rw [if_neg h2]
theorem Cur.turn {l cur : List Nat} {d : Nat → Nat} {p j y : Nat} (h : Cur l cur d p j) (hy : cur[p + j]? = some y) : Cur l (cur.set (p + j) (y ^^^ d j)) d p (j + 1) := by
  refine ⟨by rw [List.length_set]; exact h.1, fun i x hx => ?_⟩
  have hi := h.2 i x hx
  by_cases e : p + j = i
  · subst e
    rw [hi] at hy
    have hy' : y = x ^^^ z d p j (p + j) := (Option.some.inj hy).symm
    obtain ⟨hlt, _⟩ := List.getElem?_eq_some_iff.1 hi
    rw [List.getElem?_set_self hlt, hy']
    unfold z
    rw [if_neg (by omega), if_pos (by omega), show p + j - p = j by omega]
    simp
  · rw [List.getElem?_set_ne e, hi]
    congr 2
    unfold z
    by_cases h1 : p ≤ i ∧ i < p + j
    · rw [if_pos h1, if_pos (by omega)]
    · rw [if_neg h1, if_neg (by omega)]
theorem Cur.byte {l cur : List Nat} {d : Nat → Nat} {p j : Nat} (h : Cur l cur d p j) (hl : ∀ x ∈ l, x < 256) (hd : ∀ j, d j < 256) : ∀ x ∈ cur, x < 256 := by
  intro x hx
  obtain ⟨i, hi, rfl⟩ := List.getElem_of_mem hx
  have hll : i < l.length := by rw [← h.1]; exact hi
  have h1 := h.2 i l[i] (List.getElem?_eq_getElem hll)
  rw [List.getElem?_eq_getElem hi] at h1
  rw [Option.some.inj h1]
  refine Nat.xor_lt_two_pow (n := 8) (hl _ (List.getElem_mem hll)) ?_
  unfold z
  split
  · exact hd _
  · omega
theorem xorL_get {a b : List Nat} {j x y : Nat} (ha : a[j]? = some x) (hb : b[j]? = some y) : (xorL a b)[j]? = some (x ^^^ y) := by
  induction a generalizing b j with
  | nil => simp at ha
  | cons c a ih => cases b with
    | nil => simp at hb
    | cons d b =>
      cases j with
      | zero =>
        simp at ha hb
        subst ha hb
        simp [xorL]
      | succ j =>
        simp only [xorL, List.getElem?_cons_succ] at *
        exact ih ha hb
/-- what was turned, as noughts, at most four bytes, and noughts -/
theorem Cur.parts {l cur : List Nat} {d : Nat → Nat} {p : Nat} (h : Cur l cur d p 4) :
    xorL cur l = List.replicate (min p l.length) 0 ++ (List.range (min 4 (l.length - p))).map d ++ List.replicate (l.length - min p l.length - min 4 (l.length - p)) 0 := by
  apply List.ext_getElem?
  intro i
  by_cases hi : i < l.length
  · have hx := List.getElem?_eq_getElem hi
    rw [xorL_get (h.2 i _ hx) hx]
    have e : l[i] ^^^ z d p 4 i ^^^ l[i] = z d p 4 i := by rw [Nat.xor_comm l[i], Nat.xor_assoc, Nat.xor_self, Nat.xor_zero]
    rw [e]
    unfold z
    by_cases h1 : i < p
    · rw [if_neg (by omega), List.getElem?_append_left (by simp; omega), List.getElem?_append_left (by simp; omega)]
      rw [List.getElem?_replicate, if_pos (by omega)]
    · by_cases h2 : i < p + 4
      · rw [if_pos ⟨by omega, h2⟩, List.getElem?_append_left (by simp; omega), List.getElem?_append_right (by simp; omega)]
        simp only [List.length_replicate, List.getElem?_map]
        rw [List.getElem?_range (by omega), show i - min p l.length = i - p by omega]
        rfl
      · rw [if_neg (by omega), List.getElem?_append_right (by simp; omega), List.getElem?_replicate, if_pos (by simp; omega)]
  · rw [List.getElem?_eq_none (by rw [xorL_len _ _ h.1, h.1]; omega), List.getElem?_eq_none (by simp; omega)]
/-- the sums differ just if something was turned -/
theorem Cur.sums {l cur : List Nat} {d : Nat → Nat} {p : Nat} (h : Cur l cur d p 4) (hl : ∀ x ∈ l, x < 256) (hd : ∀ j, d j < 256) :
    sumL cur ≠ sumL l ↔ ∃ i, i < 4 ∧ p + i < l.length ∧ d i ≠ 0 := by
  rw [Ne, sums_differ cur l h.1 (h.byte hl hd) hl]
  have hb : ∀ c ∈ (List.range (min 4 (l.length - p))).map d, c < 256 := by
    intro c hc
    obtain ⟨i, _, rfl⟩ := List.mem_map.1 hc
    exact hd i
  constructor
  · intro hne
    rcases Classical.em (∃ i, i < 4 ∧ p + i < l.length ∧ d i ≠ 0) with h1 | h1
    · exact h1
    · exfalso
      apply hne
      have hz : xorL cur l = List.replicate l.length 0 := by
        apply List.ext_getElem?
        intro i
        by_cases hi : i < l.length
        · have hx := List.getElem?_eq_getElem hi
          rw [xorL_get (h.2 i _ hx) hx, List.getElem?_replicate, if_pos hi]
          have e : l[i] ^^^ z d p 4 i ^^^ l[i] = z d p 4 i := by rw [Nat.xor_comm l[i], Nat.xor_assoc, Nat.xor_self, Nat.xor_zero]
          rw [e]
          unfold z
          split
          · rename_i hc
            have : d (i - p) = 0 := by
              rcases Nat.eq_zero_or_pos (d (i - p)) with h0 | h0
              · exact h0
              · exact absurd ⟨i - p, by omega, by omega, by omega⟩ h1
            rw [this]
          · rfl
        · rw [List.getElem?_eq_none (by rw [xorL_len _ _ h.1, h.1]; omega), List.getElem?_eq_none (by simp; omega)]
      rw [hz, addL_noughts, halfs_nought]
  · rintro ⟨i, h4, hlt, hne⟩ h0
    rw [h.parts] at h0
    have := turned _ _ _ (by simp; omega) hb h0 (d i) (List.mem_map.2 ⟨i, List.mem_range.2 (by omega), rfl⟩)
    exact hne this
end Go.Proofs.Ytdenpefihplnoaa.fournum

/-
 Layer 21, of no program: the tables of what beginnings match, and of what is left of two patterns.
-/
import Derived.Test.YtcaaljioennnnabDoorGlobP
namespace Go.Proofs.YtcaaljioennnnabDoor.glob
/-- does a beginning of a pattern stand for a beginning of a text? -/
def rowT (p s : List UInt8) (i k : Nat) : Bool := mat (p.take i) (s.take k)
theorem rowT_zero (p s : List UInt8) {k : Nat} (h : k ≤ s.length) : rowT p s 0 k = decide (k = 0) := by
  unfold rowT
  rw [List.take_zero, Bool.eq_iff_iff, mat_nil, decide_eq_true_eq, List.take_eq_nil_iff]
  constructor
  · rintro (h1 | h1)
    · exact h1
    · rw [h1] at h; simpa using h
  · exact .inl
theorem take_snoc (l : List UInt8) {i : Nat} (h : i < l.length) : l.take (i + 1) = l.take i ++ [l[i]] := by
  rw [List.take_add_one, List.getElem?_eq_getElem h]; rfl
theorem rowT_star0 {p : List UInt8} (s : List UInt8) {i : Nat} (h : i < p.length) (hc : p[i] = 42) : rowT p s (i + 1) 0 = rowT p s i 0 := by
  unfold rowT
  rw [take_snoc p h, hc, List.take_zero, snoc_star0]
theorem rowT_star {p s : List UInt8} {i k : Nat} (h : i < p.length) (hc : p[i] = 42) (hk : k < s.length) : rowT p s (i + 1) (k + 1) = (rowT p s i (k + 1) || rowT p s (i + 1) k) := by
  unfold rowT
  rw [take_snoc p h, hc, take_snoc s hk, snoc_star]
theorem rowT_one0 {p : List UInt8} (s : List UInt8) {i : Nat} (h : i < p.length) (hc : ¬ p[i] = 42) : rowT p s (i + 1) 0 = false := by
  unfold rowT
  rw [take_snoc p h, List.take_zero, snoc_one0 hc]
theorem rowT_one {p s : List UInt8} {i k : Nat} (h : i < p.length) (hc : ¬ p[i] = 42) (hk : k < s.length) : rowT p s (i + 1) (k + 1) = ((p[i] == 63 || p[i] == s[k]) && rowT p s i k) := by
  unfold rowT
  rw [take_snoc p h, take_snoc s hk, snoc_one hc]
theorem rowT_all (p s : List UInt8) : rowT p s p.length s.length = mat p s := by
  unfold rowT; rw [List.take_length, List.take_length]
/-- have what is left of two patterns a text in common? -/
def tabM (a b : List UInt8) (i k : Nat) : Bool := meets (a.drop i) (b.drop k)
theorem drop_one (l : List UInt8) {i : Nat} (h : i < l.length) : l.drop i = l[i] :: l.drop (i + 1) := List.drop_eq_getElem_cons h
theorem tabM_end (a b : List UInt8) : tabM a b a.length b.length = true := by simp [tabM, meets]
theorem tabM_star {a b : List UInt8} {i k : Nat} (h : i < a.length) (hc : a[i] = 42) (hk : k < b.length) : tabM a b i k = (tabM a b (i + 1) k || tabM a b i (k + 1)) := by
  unfold tabM
  rw [drop_one a h, drop_one b hk, hc]
  simp only [meets, if_true]
theorem tabM_stare {a b : List UInt8} {i : Nat} (h : i < a.length) (hc : a[i] = 42) : tabM a b i b.length = tabM a b (i + 1) b.length := by
  unfold tabM
  rw [drop_one a h, List.drop_length, hc]
  simp [meets]
theorem tabM_other {a b : List UInt8} {i k : Nat} (h : i < a.length) (hc : ¬ a[i] = 42) (hk : k < b.length) (hd : b[k] = 42) : tabM a b i k = (tabM a b i (k + 1) || tabM a b (i + 1) k) := by
  unfold tabM
  rw [drop_one a h, drop_one b hk, hd]
  simp only [meets, if_neg hc, if_true]
theorem tabM_othere {a b : List UInt8} {k : Nat} (hk : k < b.length) (hd : b[k] = 42) : tabM a b a.length k = tabM a b a.length (k + 1) := by
  unfold tabM
  rw [drop_one b hk, List.drop_length, hd]
  simp [meets]
theorem tabM_one {a b : List UInt8} {i k : Nat} (h : i < a.length) (hc : ¬ a[i] = 42) (hk : k < b.length) (hd : ¬ b[k] = 42) : tabM a b i k = ((a[i] == 63 || b[k] == 63 || a[i] == b[k]) && tabM a b (i + 1) (k + 1)) := by
  unfold tabM
  rw [drop_one a h, drop_one b hk]
  simp only [meets, if_neg hc, if_neg hd]
theorem tabM_no1 {a b : List UInt8} {i : Nat} (h : i < a.length) (hc : ¬ a[i] = 42) : tabM a b i b.length = false := by
  unfold tabM
  rw [drop_one a h, List.drop_length, meets, Bool.and_eq_false_iff, beq_eq_false_iff_ne]
  exact .inl hc
theorem tabM_no2 {a b : List UInt8} {k : Nat} (hk : k < b.length) (hd : ¬ b[k] = 42) : tabM a b a.length k = false := by
  unfold tabM
  rw [drop_one b hk, List.drop_length, meets, Bool.and_eq_false_iff, beq_eq_false_iff_ne]
  exact .inl hd
theorem tabM_all (a b : List UInt8) : tabM a b 0 0 = meets a b := by unfold tabM; rw [List.drop_zero, List.drop_zero]
end Go.Proofs.YtcaaljioennnnabDoor.glob

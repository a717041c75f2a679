/-
 Layer 21: whether a pattern is plain, and how many bytes of it are not *: the document's answers, walked.
-/
import Derived.Test.YtcaaljioennnnabDoorGlobR
namespace Go.Proofs.YtcaaljioennnnabDoor.glob
open Go.RowKit
open Go.Proofs.YtcaaljioennnnabDoor.words
set_option linter.all false
def okp (c : UInt8) : Bool := !(c == 42 || c == 63)
theorem plain_no {s : ByteArray} {k : Nat} (h : k < s.size) (hc : s[k]'h = 42 ∨ s[k]'h = 63) : plainL (lb s) = false := by
 unfold plainL
 rw [List.all_eq_false]
 exact ⟨_, List.mem_of_getElem? (lb_some s k h), by rcases hc with e | e <;> rw [e] <;> decide⟩
theorem plain_all {s : ByteArray} (h : ((lb s).take s.size).all okp = true) : plainL (lb s) = true := by rw [lb_full] at h; exact h
theorem least_zero (l : List UInt8) : leastL (l.take 0) = 0 := rfl
theorem least_next {s : ByteArray} {k : Nat} (h : k < s.size) : leastL ((lb s).take (k + 1)) = leastL ((lb s).take k) + (if s[k]'h = 42 then 0 else 1) := by
 rw [lb_take s k h]
 unfold leastL
 rw [List.filter_append, List.length_append]
 congr 1
 by_cases h1 : s[k]'h = 42 <;> simp [h1]
theorem least_le {s : ByteArray} (k : Nat) : leastL ((lb s).take k) ≤ s.size := by
 unfold leastL
 refine Nat.le_trans (List.length_filter_le _ _) ?_
 rw [List.length_take, lb_len]; omega
theorem u8_eq {c : UInt8} {n : Nat} (h : n < 256) : (((c.toNat : Nat) : Int) == (n : Int)) = decide (c = UInt8.ofNat n) := by
 rw [Bool.eq_iff_iff, beq_iff_eq, decide_eq_true_eq]
 constructor
 ·intro e
  apply UInt8.toNat_inj.1
  rw [UInt8.toNat_ofNat']
  omega
 ·intro e
  rw [e, UInt8.toNat_ofNat']
  omega
end Go.Proofs.YtcaaljioennnnabDoor.glob

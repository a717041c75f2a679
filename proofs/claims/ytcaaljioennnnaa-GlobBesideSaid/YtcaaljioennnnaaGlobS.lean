/-
 Layer 21: whether a pattern is plain, and how many bytes of it are not *: the document's answers, walked.
-/
import Derived.Test.YtcaaljioennnnaaGlobR
namespace Go.Proofs.Ytcaaljioennnnaa.glob
open Go.RowKit
open Go.Proofs.Ytcaaljioennnnaa.words
set_option linter.all false
def okp (c : UInt8) : Bool := !(c == 42 || c == 63)
theorem plain_no {s : ByteArray} {k : Nat} (h : k < s.size) (hc : s[k]'h = 42 ∨ s[k]'h = 63) : plainL (lb s) = false := by
 unfold plainL
 rw [List.all_eq_false]
 exact ⟨_, List.mem_of_getElem? (lb_some s k h), by rcases hc with e | e <;> rw [e] <;> decide⟩
theorem plain_all {s : ByteArray} (h : ((lb s).take s.size).all okp = true) : plainL (lb s) = true := by rw [lb_full] at h; exact h
theorem least_zero (l : List UInt8) : leastL (l.take 0) = 0 := rfl
theorem least_next {s : ByteArray} {k : Nat} (h : k < s.size) : leastL ((lb s).take (k + 1)) = leastL ((lb s).take k) + (if s[k]'h = 42 then 0 else 1) := by
 rw [lb_take s k h]
 unfold leastL
 rw [List.filter_append, List.length_append]
 congr 1
 by_cases h1 : s[k]'h = 42 <;> simp [h1]
theorem least_le {s : ByteArray} (k : Nat) : leastL ((lb s).take k) ≤ s.size := by
 unfold leastL
 refine Nat.le_trans (List.length_filter_le _ _) ?_
 rw [List.length_take, lb_len]; omega
theorem u8_eq {c : UInt8} {n : Nat} (h : n < 256) : (((c.toNat : Nat) : Int) == (n : Int)) = decide (c = UInt8.ofNat n) := by
 rw [Bool.eq_iff_iff, beq_iff_eq, decide_eq_true_eq]
 constructor
 ·intro e
  apply UInt8.toNat_inj.1
  rw [UInt8.toNat_ofNat']
  omega
 ·intro e
  rw [e, UInt8.toNat_ofNat']
  omega
set_option maxRecDepth 100000 in
set_option maxHeartbeats 8000000 in
theorem plain_r (s : ByteArray) (w : World) (hs : s.size ≤ 281474976710656) : Calls Try.prog 13 #[.string s] w fun e w' => e = .returned (.bool (plainL (lb s))) ∧ w' = w := by
 have hsI : (s.size : Int) ≤ 281474976710656 := by omega
 have HN := Lib.hid (fun (k : Nat) (h : k < s.size) hc => plain_no (s := s) (k := k) h hc)
 have HT := Lib.hid (fun h => plain_all (s := s) h)
 have HX := Lib.hid (fun (k : Nat) (h : k < s.size) ha hp => all_next (s := s) (k := k) (p := okp) h ha hp)
 go_enter Try.func13, Try.ntmps13
 go_wp2
 go_loopw [3] (fun i wr => ∃ k : Nat, k ≤ s.size ∧ i = .int .i64 (k : Int) ∧ wr = w ∧ ((lb s).take k).all okp = true) (fun i _ => s.size - (intOf i).toNat)
 case atStart => exact ⟨0, Nat.zero_le _, rfl, rfl, by simp⟩
 case round =>
  obtain ⟨k, hk, rfl, hw, hall⟩ := hrel
  have HA := Lib.hid hall
  clear hall
  subst hw
  by_cases hlt : k < s.size
  ·have hltI : (k : Int) < (s.size : Int) := by omega
   by_cases h1 : s[k]'hlt = 42
   ·have h1I : (((s[k]'hlt).toNat : Int) == 42) = true := by rw [h1]; rfl
    have HE := Lib.hid (HN.out k hlt (.inl h1))
    clear HN HT HX h1
    go_wp2
    go_ret
    exact ⟨by rw [HE.out]; rfl, rfl⟩
   ·have h1I : (((s[k]'hlt).toNat : Int) == 42) = false := by rw [show (42 : Int) = ((42 : Nat) : Int) from rfl, u8_eq (by omega)]; exact decide_eq_false h1
    by_cases h2 : s[k]'hlt = 63
    ·have h2I : (((s[k]'hlt).toNat : Int) == 63) = true := by rw [h2]; rfl
     have HE := Lib.hid (HN.out k hlt (.inr h2))
     clear HN HT HX h1 h2
     go_wp2
     go_ret
     exact ⟨by rw [HE.out]; rfl, rfl⟩
    ·have h2I : (((s[k]'hlt).toNat : Int) == 63) = false := by rw [show (63 : Int) = ((63 : Nat) : Int) from rfl, u8_eq (by omega)]; exact decide_eq_false h2
     have HE := Lib.hid (HX.out k hlt HA.out (by unfold okp; simp [h1, h2]))
     clear HN HT HX h1 h2
     go_wp2
     go_roundw
     case rel => exact ⟨k + 1, by omega, by go_num, by first | rfl | trivial, HE.out⟩
     case measure => simp [intOf]; omega
  ·have hltI : ¬ (k : Int) < (s.size : Int) := by omega
   obtain rfl : k = s.size := by omega
   have HE := Lib.hid (HT.out HA.out)
   clear HN HT HX
   go_wp2
   go_ret
   exact ⟨by rw [HE.out]; rfl, rfl⟩
set_option maxRecDepth 100000 in
set_option maxHeartbeats 8000000 in
theorem least_r (s : ByteArray) (w : World) (hs : s.size ≤ 281474976710656) : Calls Try.prog 17 #[.string s] w fun e w' => e = .returned (.int .i64 ((leastL (lb s) : Nat) : Int)) ∧ w' = w := by
 have hsI : (s.size : Int) ≤ 281474976710656 := by omega
 have HX := Lib.hid (fun (k : Nat) (h : k < s.size) => least_next (s := s) (k := k) h)
 have HL := Lib.hid (fun (k : Nat) => least_le (s := s) k)
 have HF := Lib.hid (lb_full s)
 go_enter Try.func17, Try.ntmps17
 go_wp2
 go_loopw [3, 4] (fun n i wr => ∃ k m : Nat, k ≤ s.size ∧ i = .int .i64 (k : Int) ∧ n = .int .i64 (m : Int) ∧ wr = w ∧ m = leastL ((lb s).take k)) (fun _ i _ => s.size - (intOf i).toNat)
 case atStart => exact ⟨0, 0, Nat.zero_le _, rfl, rfl, rfl, rfl⟩
 case round =>
  obtain ⟨k, m, hk, rfl, rfl, hw, hm⟩ := hrel
  have hml : m ≤ s.size := by rw [hm]; exact HL.out k
  have HM := Lib.hid hm
  clear hm
  subst hw
  by_cases hlt : k < s.size
  ·have hltI : (k : Int) < (s.size : Int) := by omega
   by_cases h1 : s[k]'hlt = 42
   ·have h1I : (((s[k]'hlt).toNat : Int) == 42) = true := by rw [h1]; rfl
    have HE := Lib.hid (HX.out k hlt)
    rw [if_pos h1] at HE
    clear HX HL HF h1
    go_wp2
    go_roundw
    case rel => exact ⟨k + 1, m, by omega, by go_num, rfl, by first | rfl | trivial, by rw [HE.out, HM.out, Nat.add_zero]⟩
    case measure => simp [intOf]; omega
   ·have h1I : (((s[k]'hlt).toNat : Int) == 42) = false := by rw [show (42 : Int) = ((42 : Nat) : Int) from rfl, u8_eq (by omega)]; exact decide_eq_false h1
    have HE := Lib.hid (HX.out k hlt)
    rw [if_neg h1] at HE
    clear HX HL HF h1
    go_wp2
    go_roundw
    case rel => exact ⟨k + 1, m + 1, by omega, by go_num, by go_num, by first | rfl | trivial, by rw [HE.out, HM.out]⟩
    case measure => simp [intOf]; omega
  ·have hltI : ¬ (k : Int) < (s.size : Int) := by omega
   obtain rfl : k = s.size := by omega
   clear HX HL
   go_wp2
   go_ret
   exact ⟨by have := HM.out; rw [HF.out] at this; rw [← this]; rfl, rfl⟩
end Go.Proofs.Ytcaaljioennnnaa.glob

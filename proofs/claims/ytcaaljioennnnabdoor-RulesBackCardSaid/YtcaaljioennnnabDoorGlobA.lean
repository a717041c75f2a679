/-
 Layer 21: which texts can be patterns; where a place of a pattern leads without a byte: the program's answers.
-/
import Derived.Test.YtcaaljioennnnabDoorGlobR
import Derived.Lib.Strings
import Derived.Test.YtcaaljioennnnabDoorGlobM
namespace Go.Proofs.YtcaaljioennnnabDoor.glob
open Go.RowKit
open Go.Proofs.YtcaaljioennnnabDoor.words
set_option linter.all false
set_option maxRecDepth 100000 in
set_option maxHeartbeats 8000000 in
theorem right_w (s : ByteArray) (w : World) (hs : s.size ≤ 281474976710656) : Calls Tryd.prog 22 #[.string s] w fun e w' => e = .returned (.bool (rightG (lb s))) ∧ w' = w := by
 have hsI : (s.size : Int) ≤ 281474976710656 := by omega
 have HN := Lib.hid (fun (k : Nat) (h : k < s.size) hc => right_no (s := s) (k := k) h hc)
 have HT := Lib.hid (fun h => right_all (s := s) h)
 have HX := Lib.hid (fun (k : Nat) (h : k < s.size) ha hp => all_next (s := s) (k := k) (p := okc) h ha hp)
 go_enter Tryd.func22, Tryd.ntmps22
 go_wp2
 go_loopw [6] (fun i wr => ∃ k : Nat, k ≤ s.size ∧ i = .int .i64 (k : Int) ∧ wr = w ∧ ((lb s).take k).all okc = true) (fun i _ => s.size - (intOf i).toNat)
 case atStart => exact ⟨0, Nat.zero_le _, rfl, rfl, by simp⟩
 case round =>
  obtain ⟨k, hk, rfl, hw, hall⟩ := hrel
  have HA := Lib.hid hall
  clear hall
  subst hw
  by_cases hlt : k < s.size
  ·have hltI : (k : Int) < (s.size : Int) := by omega
   by_cases h1 : (s[k]'hlt).toNat < 33
   ·have h1I : ((s[k]'hlt).toNat : Int) < 33 := by omega
    have HE := Lib.hid (HN.out k hlt (.inl h1))
    clear HN HT HX h1
    go_wp2
    go_ret
    exact ⟨by rw [HE.out]; rfl, rfl⟩
   ·have h1I : ¬ ((s[k]'hlt).toNat : Int) < 33 := by omega
    by_cases h2 : 126 < (s[k]'hlt).toNat
    ·have h2I : 126 < ((s[k]'hlt).toNat : Int) := by omega
     have HE := Lib.hid (HN.out k hlt (.inr h2))
     clear HN HT HX h1 h2
     go_wp2
     go_ret
     exact ⟨by rw [HE.out]; rfl, rfl⟩
    ·have h2I : ¬ 126 < ((s[k]'hlt).toNat : Int) := by omega
     have HE := Lib.hid (HX.out k hlt HA.out (by unfold okc; simp only [decide_eq_true_eq]; omega))
     clear HN HT HX h1 h2
     go_wp2
     go_roundw
     case rel => exact ⟨k + 1, by omega, by go_num, by first | rfl | trivial, HE.out⟩
     case measure => simp [intOf]; omega
  ·have hltI : ¬ (k : Int) < (s.size : Int) := by omega
   obtain rfl : k = s.size := by omega
   have HE := Lib.hid (HT.out HA.out)
   clear HN HT HX
   by_cases h1 : 1 ≤ s.size
   ·have hz : s.toList.isEmpty = false := by
     rw [Lib.toList_data, List.isEmpty_eq_false_iff]; intro e; have h2 : s.data.toList.length = 0 := by (rw [e]; rfl)
     rw [Array.length_toList] at h2; have h3 : s.data.size = s.size := rfl; omega
    by_cases h2 : s.size ≤ 64
    ·have h2I : (s.size : Int) ≤ 64 := by omega
     rw [decide_eq_true (show 1 ≤ s.size ∧ s.size ≤ 64 from ⟨h1, h2⟩)] at HE
     clear h1 h2
     go_wp2
     go_ret
     exact ⟨by rw [HE.out]; rfl, rfl⟩
    ·have h2I : ¬ (s.size : Int) ≤ 64 := by omega
     rw [decide_eq_false (show ¬ (1 ≤ s.size ∧ s.size ≤ 64) from by omega)] at HE
     clear h1 h2
     go_wp2
     go_ret
     exact ⟨by rw [HE.out]; rfl, rfl⟩
   ·have hz : s.toList.isEmpty = true := by rw [Lib.toList_data, List.isEmpty_iff]; apply List.eq_nil_of_length_eq_zero; rw [Array.length_toList]; have h3 : s.data.size = s.size := rfl; omega
    rw [decide_eq_false (show ¬ (1 ≤ s.size ∧ s.size ≤ 64) from by omega)] at HE
    clear h1
    go_wp2
    go_ret
    exact ⟨by rw [HE.out]; rfl, rfl⟩
end Go.Proofs.YtcaaljioennnnabDoor.glob

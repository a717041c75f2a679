/-
 Layer 4: which texts are names: the reference's answers are the program's.
-/
import Derived.Test.YtcaaljioennnnabDoorWordN
namespace Go.Proofs.YtcaaljioennnnabDoor.word
open Go.RowKit
open num words give write

set_option maxRecDepth 100000 in
set_option maxHeartbeats 800000 in
theorem all_r (s : ByteArray) (m : Nat) (p : Nat → Bool) (w : World) (hs : s.size ≤ 281474976710656) (hm : p m = true) (hp : ∀ c, c ≠ m → p c = letterB c) (hl : ∀ c, letterB c = true → p c = true) :
  Calls Tryd.prog 31 #[.string s, .int .u8 (m : Int)] w fun e w' => e = .returned (.bool (namedB p s)) ∧ w' = w := by
 have hnI : (s.size : Int) ≤ 281474976710656 := by omega
 have HS := Lib.hid (show namedB p s = (fits s && (N s).all p) from rfl)
 have HP := Lib.hid hp; have HM := Lib.hid hm; have HL := Lib.hid hl
 clear hs hp hm hl
 by_cases h0 : s.size < 1
 ·have h0I : (s.size : Int) < 1 := by omega
  rw [HS.out, show fits s = false by simp [fits]; omega, Bool.false_and]
  clear HS h0 HP HM HL
  go_enter Tryd.func31, Tryd.ntmps31
  go_wp2
  go_ret
  exact ⟨rfl, rfl⟩
 by_cases h1 : 32 < s.size
 ·have h0I : ¬ (s.size : Int) < 1 := by omega
  have h1I : (32 : Int) < (s.size : Int) := by omega
  rw [HS.out, show fits s = false by simp [fits]; omega, Bool.false_and]
  clear HS h0 h1 HP HM HL
  go_enter Tryd.func31, Tryd.ntmps31
  go_wp2
  go_ret
  exact ⟨rfl, rfl⟩
 have h0I : ¬ (s.size : Int) < 1 := by omega
 have h1I : ¬ (32 : Int) < (s.size : Int) := by omega
 rw [HS.out, show fits s = true by simp [fits]; omega, Bool.true_and]
 have HT := Lib.hid (fun (c : Nat) (w : World) => letter_r c w)
 clear HS h0 h1
 go_enter Tryd.func31, Tryd.ntmps31
 go_wp2
 go_loopw [5] (fun i wr => ∃ k : Nat, k ≤ s.size ∧ i = .int .i64 (k : Int) ∧ wr = w ∧ ((N s).take k).all p = true) (fun i _ => s.size - (intOf i).toNat)
 case atStart => exact ⟨0, Nat.zero_le _, rfl, rfl, by simp⟩
 case round =>
  obtain ⟨k, hk, rfl, rfl, hall⟩ := hrel
  have HA := Lib.hid hall
  clear hall
  by_cases hlt : k < s.size
  ·have hltI : (k : Int) < (s.size : Int) := by omega
   have hk1 := take_all s p k hlt HA.out
   have hkn := not_all s p k hlt
   have hpl := HL.out (s[k]'hlt).toNat
   have hpm := HP.out (s[k]'hlt).toNat
   have hmm := HM.out
   have HX := Lib.hid (HT.out (s[k]'hlt).toNat)
   cases hlt2 : letterB (s[k]'hlt).toNat
   ·by_cases hxm : (s[k]'hlt).toNat = m
    ·subst hxm
     have HK := Lib.hid (hk1 hmm)
     have hx1 : (((s[k]'hlt).toNat : Int) != ((s[k]'hlt).toNat : Int)) = false := by simp
     rw [hlt2] at HX
     clear hpl hpm hmm hk1 hkn HT HA HL HP HM hlt2
     go_wp2_with fail
     refine (HX.out _).mono ?_
     rintro e w' ⟨rfl, rfl⟩
     go_wp2
     go_roundw
     case rel => exact ⟨k + 1, by omega, by go_num, by first | rfl | trivial, HK.out⟩
     case measure => simp [intOf]; omega
    ·have HK := Lib.hid (hkn ((hpm hxm).trans hlt2))
     have hx2 : ¬ ((s[k]'hlt).toNat : Int) = (m : Int) := by omega
     have hx1 : (((s[k]'hlt).toNat : Int) != (m : Int)) = true := by simpa using hx2
     rw [hlt2] at HX
     clear hpl hpm hmm hk1 hkn HT HA HL HP HM hxm hlt2
     go_wp2_with fail
     refine (HX.out _).mono ?_
     rintro e w' ⟨rfl, rfl⟩
     go_wp2
     go_ret
     rw [HK.out]
     exact ⟨rfl, rfl⟩
   ·have HK := Lib.hid (hk1 (hpl hlt2))
    rw [hlt2] at HX
    clear hpl hpm hmm hk1 hkn HT HA HL HP HM hlt2
    go_wp2_with fail
    refine (HX.out _).mono ?_
    rintro e w' ⟨rfl, rfl⟩
    go_wp2
    go_roundw
    case rel => exact ⟨k + 1, by omega, by go_num, by first | rfl | trivial, HK.out⟩
    case measure => simp [intOf]; omega
  ·have hltI : ¬ (k : Int) < (s.size : Int) := by omega
   have hks : k = s.size := by omega
   subst hks
   have ha := HA.out
   rw [← N_len, List.take_length] at ha
   have HA2 := Lib.hid ha
   clear ha HA HT
   go_wp2
   go_ret
   rw [HA2.out]
   exact ⟨rfl, rfl⟩
theorem letter95 : letterB 95 = true := by decide
theorem class47 : classB 47 = true := by decide
set_option maxRecDepth 100000 in
theorem class_r (s : ByteArray) (w : World) (hs : s.size ≤ 281474976710656) :
  Calls Tryd.prog 18 #[.string s] w fun e w' => e = .returned (.bool (namedB classB s)) ∧ w' = w := by
 have HA := Lib.hid (fun w => all_r s 47 classB w hs class47 (fun c hc => by unfold classB; rw [show (c == 47) = false by simpa using hc, Bool.false_or]) (fun c hc => by unfold classB; rw [hc, Bool.or_true]))
 clear hs
 go_enter Tryd.func18, Tryd.ntmps18
 go_wp2_with (go_at_call 31; refine (HA.out _).mono ?_; rintro e w' ⟨rfl, rfl⟩)
 go_ret
 exact ⟨rfl, rfl⟩
set_option maxRecDepth 100000 in
theorem name_r (s : ByteArray) (w : World) (hs : s.size ≤ 281474976710656) :
  Calls Tryd.prog 19 #[.string s] w fun e w' => e = .returned (.bool (nameB s)) ∧ w' = w := by
 have HA := Lib.hid (fun w => all_r s 95 letterB w hs letter95 (fun c _ => rfl) (fun c hc => hc))
 have HS := Lib.hid (show nameB s = (decide (s = initName) || namedB letterB s) from rfl)
 generalize namedB letterB s = b at HA HS
 clear hs
 by_cases h : s = initName
 ·rw [HS.out, decide_eq_true h, Bool.true_or]
  subst h
  clear HS HA
  unfold initName
  go_enter Tryd.func19, Tryd.ntmps19
  go_wp2
  go_ret
  exact ⟨rfl, rfl⟩
 ·rw [HS.out, decide_eq_false h, Bool.false_or]
  have hne3 : ¬ s.toList = [60, 99, 108, 105, 110, 105, 116, 62] := fun e => h (ext_list (e.trans (by rw [Lib.toList_data]; rfl)))
  have hne : (s.toList == [60, 99, 108, 105, 110, 105, 116, 62]) = false := by rw [beq_eq_false_iff_ne]; exact hne3
  clear HS h
  go_enter Tryd.func19, Tryd.ntmps19
  go_wp2_with (go_at_call 31; refine (HA.out _).mono ?_; rintro e w' ⟨rfl, rfl⟩)
  go_ret
  exact ⟨rfl, rfl⟩
end Go.Proofs.YtcaaljioennnnabDoor.word

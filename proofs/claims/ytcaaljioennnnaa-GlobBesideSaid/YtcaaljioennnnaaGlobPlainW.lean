/-
 GlobPlain: the law's walk.
-/
import Derived.Test.YtcaaljioennnnaaLive21
namespace Go.Proofs.Ytcaaljioennnnaa.glob
open Go.RowKit
open Go.Proofs.Ytcaaljioennnnaa.words
set_option linter.all false
def cutB (s : ByteArray) : ByteArray := if 80 < s.size then s.extract 0 80 else s
theorem cutB_size (s : ByteArray) : (cutB s).size ≤ 80 := by
 unfold cutB
 split
 ·rw [ByteArray.size_extract]; omega
 ·omega
set_option maxRecDepth 100000 in
set_option maxHeartbeats 8000000 in
theorem cut_w (s : ByteArray) (w : World) (hs : s.size ≤ 140737488351232) : Calls Try.prog 8 #[.string s] w fun e w' => e = .returned (.string (cutB s)) ∧ w' = w := by
 have hsI : (s.size : Int) ≤ 140737488351232 := by omega
 by_cases h : 80 < s.size
 ·have hI : (80 : Int) < (s.size : Int) := by omega
  have HE := Lib.hid (show cutB s = s.extract 0 80 from if_pos h)
  clear h
  go_enter Try.func8, Try.ntmps8
  go_wp2
  go_ret
  exact ⟨by rw [HE.out]; rfl, rfl⟩
 ·have hI : ¬ (80 : Int) < (s.size : Int) := by omega
  have HE := Lib.hid (show cutB s = s from if_neg h)
  clear h
  go_enter Try.func8, Try.ntmps8
  go_wp2
  go_ret
  exact ⟨by rw [HE.out]; rfl, rfl⟩
end Go.Proofs.Ytcaaljioennnnaa.glob
namespace Go.Proofs.Ytcaaljioennnnaa.globPlain
open Go.RowKit
open Go.Proofs.Ytcaaljioennnnaa.words Go.Proofs.Ytcaaljioennnnaa.glob
set_option linter.all false
set_option maxRecDepth 100000 in
set_option maxHeartbeats 8000000 in
theorem walk (p0 s0 : ByteArray) (w : World) (hp : p0.size ≤ 140737488351232) (hs : s0.size ≤ 140737488351232) :
  Calls Try.prog 4 #[.string p0, .string s0] w fun e w' => e = .returned (.bool true) ∧ Below w.heap.size w w' := by
 have C1 := Lib.hid (fun w => cut_w p0 w hp)
 have C2 := Lib.hid (fun w => cut_w s0 w hs)
 have hp8 := cutB_size p0
 have hs8 := cutB_size s0
 obtain ⟨p, hpp⟩ : ∃ p, p = cutB p0 := ⟨_, rfl⟩
 obtain ⟨s, hss⟩ : ∃ s, s = cutB s0 := ⟨_, rfl⟩
 rw [← hpp] at C1 hp8
 rw [← hss] at C2 hs8
 clear hpp hss hp hs
 have LV := Lib.hid (fun w => live_w w)
 have M1 := Lib.hid (fun w => (show Calls Try.prog 14 #[.string ⟨#[42]⟩, .string s] w fun e w' => e = .returned (.bool true) ∧ Below w.heap.size w w' from by
  have h := match_w ⟨#[42]⟩ s w (by decide) (by omega)
  rw [show mat (lb ⟨#[42]⟩) (lb s) = true from star_all _] at h
  exact h))
 have M2 := Lib.hid (fun w => match_w p s w (by omega) (by omega))
 have P1 := Lib.hid (fun w => plain_w p w (by omega))
 have B0 := Lib.hid (Below.refl w.heap.size w)
 cases hpl : plainL (lb p) with
 | false =>
  rw [hpl] at P1
  clear hpl M2
  go_enter Try.func4, Try.ntmps4
  go_wp2_with fail
  refine (C1.out _).mono ?_
  rintro e w1 ⟨rfl, hw⟩; subst hw
  go_wp2_with fail
  refine (C2.out _).mono ?_
  rintro e w2 ⟨rfl, hw⟩; subst hw
  clear C1 C2
  go_wp2_with fail
  refine (LV.out _).mono ?_
  rintro e x1 ⟨rfl, hb⟩
  have B1 := Lib.hid (then' B0.out hb)
  clear hb LV B0
  go_wp2_with fail
  refine (M1.out _).mono ?_
  rintro e x2 ⟨rfl, hb⟩
  have B2 := Lib.hid (then' B1.out hb)
  clear hb M1 B1
  go_wp2_with fail
  refine (P1.out _).mono ?_
  rintro e x3 ⟨rfl, hb⟩
  have B3 := Lib.hid (then' B2.out hb)
  clear hb P1 B2
  go_wp2
  go_ret
  exact ⟨rfl, B3.out⟩
 | true =>
  rw [hpl] at P1
  have HE := Lib.hid (mat_plain (lb p) (lb s) hpl)
  clear hpl
  go_enter Try.func4, Try.ntmps4
  go_wp2_with fail
  refine (C1.out _).mono ?_
  rintro e w1 ⟨rfl, hw⟩; subst hw
  go_wp2_with fail
  refine (C2.out _).mono ?_
  rintro e w2 ⟨rfl, hw⟩; subst hw
  clear C1 C2
  go_wp2_with fail
  refine (LV.out _).mono ?_
  rintro e x1 ⟨rfl, hb⟩
  have B1 := Lib.hid (then' B0.out hb)
  clear hb LV B0
  go_wp2_with fail
  refine (M1.out _).mono ?_
  rintro e x2 ⟨rfl, hb⟩
  have B2 := Lib.hid (then' B1.out hb)
  clear hb M1 B1
  go_wp2_with fail
  refine (P1.out _).mono ?_
  rintro e x3 ⟨rfl, hb⟩
  have B3 := Lib.hid (then' B2.out hb)
  clear hb P1 B2
  go_wp2_with fail
  refine (M2.out _).mono ?_
  rintro e x4 ⟨rfl, hb⟩
  have B4 := Lib.hid (then' B3.out hb)
  clear hb M2 B3
  go_wp2
  go_ret
  refine ⟨?_, B4.out⟩
  have hv : (mat (lb p) (lb s) == (p.toList == s.toList)) = true := by
   rw [Lib.toList_data, Lib.toList_data, beq_iff_eq, Bool.eq_iff_iff, HE.out, beq_iff_eq]; rfl
  show Ending.returned (.bool (mat (lb p) (lb s) == (p.toList == s.toList))) = _
  rw [hv]
end Go.Proofs.Ytcaaljioennnnaa.globPlain

/-
 GlobMeets: the law's walk.
-/
import Derived.Test.YtcaaljioennnnaaGlobPlainW
import Derived.Test.YtcaaljioennnnaaGlobU
namespace Go.Proofs.Ytcaaljioennnnaa.globMeets
open Go.RowKit
open Go.Proofs.Ytcaaljioennnnaa.words Go.Proofs.Ytcaaljioennnnaa.glob
set_option linter.all false
set_option maxRecDepth 100000 in
set_option maxHeartbeats 8000000 in
theorem walk (a0 : ByteArray) (b0 : ByteArray) (s0 : ByteArray) (w : World) (ha : a0.size ≤ 140737488351232) (hb : b0.size ≤ 140737488351232) (hs : s0.size ≤ 140737488351232) :
  Calls Try.prog 7 #[.string a0, .string b0, .string s0] w fun e w' => e = .returned (.bool true) ∧ Below w.heap.size w w' := by
 have C0 := Lib.hid (fun w => cut_w a0 w ha)
 have a8 := cutB_size a0
 obtain ⟨a, hac⟩ : ∃ a, a = cutB a0 := ⟨_, rfl⟩
 rw [← hac] at C0 a8
 have C1 := Lib.hid (fun w => cut_w b0 w hb)
 have b8 := cutB_size b0
 obtain ⟨b, hbc⟩ : ∃ b, b = cutB b0 := ⟨_, rfl⟩
 rw [← hbc] at C1 b8
 have C2 := Lib.hid (fun w => cut_w s0 w hs)
 have s8 := cutB_size s0
 obtain ⟨s, hsc⟩ : ∃ s, s = cutB s0 := ⟨_, rfl⟩
 rw [← hsc] at C2 s8
 clear hac ha hbc hb hsc hs
 have a8I : (a.size : Int) ≤ 80 := by omega
 have b8I : (b.size : Int) ≤ 80 := by omega
 have s8I : (s.size : Int) ≤ 80 := by omega
 have LV := Lib.hid (fun w => live_w w)
 have E1 := Lib.hid (fun w => meets_w a b w (by omega) (by omega))
 have E2 := Lib.hid (fun w => meets_r a b w (by omega) (by omega))
 have E3 := Lib.hid (fun w => meets_w b a w (by omega) (by omega))
 rw [meets_comm (lb b) (lb a)] at E3
 have P1 := Lib.hid (fun w => plain_w a w (by omega))
 have M1 := Lib.hid (fun w => match_w b a w (by omega) (by omega))
 have M2 := Lib.hid (fun w => match_w a s w (by omega) (by omega))
 have M3 := Lib.hid (fun w => match_w b s w (by omega) (by omega))
 have hmp := fun h => meets_plain (a := lb a) (lb b) h
 have hno := meets_iff (lb a) (lb b)
 have B0 := Lib.hid (Below.refl w.heap.size w)
 cases hm : meets (lb a) (lb b) with
 | true =>
  rw [hm] at E1 E2 E3 hmp hno
  cases hpl : plainL (lb a) with
  | true =>
   rw [hpl] at P1
   have hx := hmp hpl
   rw [← hx] at M1
   clear hm hpl hx
   clear hmp hno
   go_enter Try.func7, Try.ntmps7
   go_wp2_with fail
   refine (C0.out _).mono ?_
   rintro e x1 ⟨rfl, hw⟩; subst hw
   clear C0
   go_wp2_with fail
   refine (C1.out _).mono ?_
   rintro e x1 ⟨rfl, hw⟩; subst hw
   clear C1
   go_wp2_with fail
   refine (C2.out _).mono ?_
   rintro e x1 ⟨rfl, hw⟩; subst hw
   clear C2
   go_wp2_with fail
   refine (E1.out _).mono ?_
   rintro e x1 ⟨rfl, hb⟩
   have B1 := Lib.hid (then' B0.out hb)
   clear hb E1
   go_wp2_with fail
   refine (LV.out _).mono ?_
   rintro e x2 ⟨rfl, hb⟩
   have B2 := Lib.hid (then' B1.out hb)
   clear hb LV
   go_wp2_with fail
   refine (E2.out _).mono ?_
   rintro e x3 ⟨rfl, hb⟩
   have B3 := Lib.hid (then' B2.out hb)
   clear hb E2
   go_wp2_with fail
   refine (E3.out _).mono ?_
   rintro e x4 ⟨rfl, hb⟩
   have B4 := Lib.hid (then' B3.out hb)
   clear hb E3
   go_wp2_with fail
   refine (P1.out _).mono ?_
   rintro e x5 ⟨rfl, hb⟩
   have B5 := Lib.hid (then' B4.out hb)
   clear hb P1
   go_wp2_with fail
   refine (M1.out _).mono ?_
   rintro e x6 ⟨rfl, hb⟩
   have B6 := Lib.hid (then' B5.out hb)
   clear hb M1
   go_wp2
   go_ret
   exact ⟨rfl, B6.out⟩
  | false =>
   rw [hpl] at P1
   clear hm hpl
   clear hmp hno
   go_enter Try.func7, Try.ntmps7
   go_wp2_with fail
   refine (C0.out _).mono ?_
   rintro e x1 ⟨rfl, hw⟩; subst hw
   clear C0
   go_wp2_with fail
   refine (C1.out _).mono ?_
   rintro e x1 ⟨rfl, hw⟩; subst hw
   clear C1
   go_wp2_with fail
   refine (C2.out _).mono ?_
   rintro e x1 ⟨rfl, hw⟩; subst hw
   clear C2
   go_wp2_with fail
   refine (E1.out _).mono ?_
   rintro e x1 ⟨rfl, hb⟩
   have B1 := Lib.hid (then' B0.out hb)
   clear hb E1
   go_wp2_with fail
   refine (LV.out _).mono ?_
   rintro e x2 ⟨rfl, hb⟩
   have B2 := Lib.hid (then' B1.out hb)
   clear hb LV
   go_wp2_with fail
   refine (E2.out _).mono ?_
   rintro e x3 ⟨rfl, hb⟩
   have B3 := Lib.hid (then' B2.out hb)
   clear hb E2
   go_wp2_with fail
   refine (E3.out _).mono ?_
   rintro e x4 ⟨rfl, hb⟩
   have B4 := Lib.hid (then' B3.out hb)
   clear hb E3
   go_wp2_with fail
   refine (P1.out _).mono ?_
   rintro e x5 ⟨rfl, hb⟩
   have B5 := Lib.hid (then' B4.out hb)
   clear hb P1
   go_wp2
   go_ret
   exact ⟨rfl, B5.out⟩
 | false =>
  rw [hm] at E1 E2 E3 hmp hno
  cases hpl : plainL (lb a) with
  | true =>
   rw [hpl] at P1
   have hx := hmp hpl
   rw [← hx] at M1
   clear hm hpl hx
   cases hx : mat (lb a) (lb s) with
   | false =>
    rw [hx] at M2
    clear hx
    clear hmp hno
    go_enter Try.func7, Try.ntmps7
    go_wp2_with fail
    refine (C0.out _).mono ?_
    rintro e x1 ⟨rfl, hw⟩; subst hw
    clear C0
    go_wp2_with fail
    refine (C1.out _).mono ?_
    rintro e x1 ⟨rfl, hw⟩; subst hw
    clear C1
    go_wp2_with fail
    refine (C2.out _).mono ?_
    rintro e x1 ⟨rfl, hw⟩; subst hw
    clear C2
    go_wp2_with fail
    refine (E1.out _).mono ?_
    rintro e x1 ⟨rfl, hb⟩
    have B1 := Lib.hid (then' B0.out hb)
    clear hb E1
    go_wp2_with fail
    refine (LV.out _).mono ?_
    rintro e x2 ⟨rfl, hb⟩
    have B2 := Lib.hid (then' B1.out hb)
    clear hb LV
    go_wp2_with fail
    refine (E2.out _).mono ?_
    rintro e x3 ⟨rfl, hb⟩
    have B3 := Lib.hid (then' B2.out hb)
    clear hb E2
    go_wp2_with fail
    refine (E3.out _).mono ?_
    rintro e x4 ⟨rfl, hb⟩
    have B4 := Lib.hid (then' B3.out hb)
    clear hb E3
    go_wp2_with fail
    refine (P1.out _).mono ?_
    rintro e x5 ⟨rfl, hb⟩
    have B5 := Lib.hid (then' B4.out hb)
    clear hb P1
    go_wp2_with fail
    refine (M1.out _).mono ?_
    rintro e x6 ⟨rfl, hb⟩
    have B6 := Lib.hid (then' B5.out hb)
    clear hb M1
    go_wp2_with fail
    refine (M2.out _).mono ?_
    rintro e x7 ⟨rfl, hb⟩
    have B7 := Lib.hid (then' B6.out hb)
    clear hb M2
    go_wp2
    go_ret
    exact ⟨rfl, B7.out⟩
   | true =>
    rw [hx] at M2
    have hy : mat (lb b) (lb s) = false := by
     cases hy : mat (lb b) (lb s) with
     | false => rfl
     | true => exact (hno.2 ⟨_, hx, hy⟩).symm
    rw [hy] at M3
    clear hy
    clear hx
    clear hmp hno
    go_enter Try.func7, Try.ntmps7
    go_wp2_with fail
    refine (C0.out _).mono ?_
    rintro e x1 ⟨rfl, hw⟩; subst hw
    clear C0
    go_wp2_with fail
    refine (C1.out _).mono ?_
    rintro e x1 ⟨rfl, hw⟩; subst hw
    clear C1
    go_wp2_with fail
    refine (C2.out _).mono ?_
    rintro e x1 ⟨rfl, hw⟩; subst hw
    clear C2
    go_wp2_with fail
    refine (E1.out _).mono ?_
    rintro e x1 ⟨rfl, hb⟩
    have B1 := Lib.hid (then' B0.out hb)
    clear hb E1
    go_wp2_with fail
    refine (LV.out _).mono ?_
    rintro e x2 ⟨rfl, hb⟩
    have B2 := Lib.hid (then' B1.out hb)
    clear hb LV
    go_wp2_with fail
    refine (E2.out _).mono ?_
    rintro e x3 ⟨rfl, hb⟩
    have B3 := Lib.hid (then' B2.out hb)
    clear hb E2
    go_wp2_with fail
    refine (E3.out _).mono ?_
    rintro e x4 ⟨rfl, hb⟩
    have B4 := Lib.hid (then' B3.out hb)
    clear hb E3
    go_wp2_with fail
    refine (P1.out _).mono ?_
    rintro e x5 ⟨rfl, hb⟩
    have B5 := Lib.hid (then' B4.out hb)
    clear hb P1
    go_wp2_with fail
    refine (M1.out _).mono ?_
    rintro e x6 ⟨rfl, hb⟩
    have B6 := Lib.hid (then' B5.out hb)
    clear hb M1
    go_wp2_with fail
    refine (M2.out _).mono ?_
    rintro e x7 ⟨rfl, hb⟩
    have B7 := Lib.hid (then' B6.out hb)
    clear hb M2
    go_wp2_with fail
    refine (M3.out _).mono ?_
    rintro e x8 ⟨rfl, hb⟩
    have B8 := Lib.hid (then' B7.out hb)
    clear hb M3
    go_wp2
    go_ret
    exact ⟨rfl, B8.out⟩
  | false =>
   rw [hpl] at P1
   clear hm hpl
   cases hx : mat (lb a) (lb s) with
   | false =>
    rw [hx] at M2
    clear hx
    clear hmp hno
    go_enter Try.func7, Try.ntmps7
    go_wp2_with fail
    refine (C0.out _).mono ?_
    rintro e x1 ⟨rfl, hw⟩; subst hw
    clear C0
    go_wp2_with fail
    refine (C1.out _).mono ?_
    rintro e x1 ⟨rfl, hw⟩; subst hw
    clear C1
    go_wp2_with fail
    refine (C2.out _).mono ?_
    rintro e x1 ⟨rfl, hw⟩; subst hw
    clear C2
    go_wp2_with fail
    refine (E1.out _).mono ?_
    rintro e x1 ⟨rfl, hb⟩
    have B1 := Lib.hid (then' B0.out hb)
    clear hb E1
    go_wp2_with fail
    refine (LV.out _).mono ?_
    rintro e x2 ⟨rfl, hb⟩
    have B2 := Lib.hid (then' B1.out hb)
    clear hb LV
    go_wp2_with fail
    refine (E2.out _).mono ?_
    rintro e x3 ⟨rfl, hb⟩
    have B3 := Lib.hid (then' B2.out hb)
    clear hb E2
    go_wp2_with fail
    refine (E3.out _).mono ?_
    rintro e x4 ⟨rfl, hb⟩
    have B4 := Lib.hid (then' B3.out hb)
    clear hb E3
    go_wp2_with fail
    refine (P1.out _).mono ?_
    rintro e x5 ⟨rfl, hb⟩
    have B5 := Lib.hid (then' B4.out hb)
    clear hb P1
    go_wp2_with fail
    refine (M2.out _).mono ?_
    rintro e x6 ⟨rfl, hb⟩
    have B6 := Lib.hid (then' B5.out hb)
    clear hb M2
    go_wp2
    go_ret
    exact ⟨rfl, B6.out⟩
   | true =>
    rw [hx] at M2
    have hy : mat (lb b) (lb s) = false := by
     cases hy : mat (lb b) (lb s) with
     | false => rfl
     | true => exact (hno.2 ⟨_, hx, hy⟩).symm
    rw [hy] at M3
    clear hy
    clear hx
    clear hmp hno
    go_enter Try.func7, Try.ntmps7
    go_wp2_with fail
    refine (C0.out _).mono ?_
    rintro e x1 ⟨rfl, hw⟩; subst hw
    clear C0
    go_wp2_with fail
    refine (C1.out _).mono ?_
    rintro e x1 ⟨rfl, hw⟩; subst hw
    clear C1
    go_wp2_with fail
    refine (C2.out _).mono ?_
    rintro e x1 ⟨rfl, hw⟩; subst hw
    clear C2
    go_wp2_with fail
    refine (E1.out _).mono ?_
    rintro e x1 ⟨rfl, hb⟩
    have B1 := Lib.hid (then' B0.out hb)
    clear hb E1
    go_wp2_with fail
    refine (LV.out _).mono ?_
    rintro e x2 ⟨rfl, hb⟩
    have B2 := Lib.hid (then' B1.out hb)
    clear hb LV
    go_wp2_with fail
    refine (E2.out _).mono ?_
    rintro e x3 ⟨rfl, hb⟩
    have B3 := Lib.hid (then' B2.out hb)
    clear hb E2
    go_wp2_with fail
    refine (E3.out _).mono ?_
    rintro e x4 ⟨rfl, hb⟩
    have B4 := Lib.hid (then' B3.out hb)
    clear hb E3
    go_wp2_with fail
    refine (P1.out _).mono ?_
    rintro e x5 ⟨rfl, hb⟩
    have B5 := Lib.hid (then' B4.out hb)
    clear hb P1
    go_wp2_with fail
    refine (M2.out _).mono ?_
    rintro e x6 ⟨rfl, hb⟩
    have B6 := Lib.hid (then' B5.out hb)
    clear hb M2
    go_wp2_with fail
    refine (M3.out _).mono ?_
    rintro e x7 ⟨rfl, hb⟩
    have B7 := Lib.hid (then' B6.out hb)
    clear hb M3
    go_wp2
    go_ret
    exact ⟨rfl, B7.out⟩
end Go.Proofs.Ytcaaljioennnnaa.globMeets

/-
 GlobLong: the law's walk.
-/
import Derived.Test.YtcaaljioennnnaaGlobPlainW
namespace Go.Proofs.Ytcaaljioennnnaa.globLong
open Go.RowKit
open Go.Proofs.Ytcaaljioennnnaa.words Go.Proofs.Ytcaaljioennnnaa.glob
set_option linter.all false
theorem lb_app (a b : ByteArray) : lb (a ++ b) = lb a ++ lb b := by unfold lb; rw [ByteArray.data_append, Array.toList_append]
theorem app_size (a b : ByteArray) : (a ++ b).size = a.size + b.size := ByteArray.size_append
set_option maxRecDepth 100000 in
set_option maxHeartbeats 8000000 in
theorem walk (p0 : ByteArray) (s0 : ByteArray) (m0 : ByteArray) (w : World) (hp : p0.size ≤ 140737488351232) (hs : s0.size ≤ 140737488351232) (hm : m0.size ≤ 140737488351232) :
  Calls Try.prog 6 #[.string p0, .string s0, .string m0] w fun e w' => e = .returned (.bool true) ∧ Below w.heap.size w w' := by
 have C0 := Lib.hid (fun w => cut_w p0 w hp)
 have p8 := cutB_size p0
 obtain ⟨p, hpc⟩ : ∃ p, p = cutB p0 := ⟨_, rfl⟩
 rw [← hpc] at C0 p8
 have C1 := Lib.hid (fun w => cut_w s0 w hs)
 have s8 := cutB_size s0
 obtain ⟨s, hsc⟩ : ∃ s, s = cutB s0 := ⟨_, rfl⟩
 rw [← hsc] at C1 s8
 have C2 := Lib.hid (fun w => cut_w m0 w hm)
 have m8 := cutB_size m0
 obtain ⟨m, hmc⟩ : ∃ m, m = cutB m0 := ⟨_, rfl⟩
 rw [← hmc] at C2 m8
 clear hpc hp hsc hs hmc hm
 have p8I : (p.size : Int) ≤ 80 := by omega
 have s8I : (s.size : Int) ≤ 80 := by omega
 have m8I : (m.size : Int) ≤ 80 := by omega
 have LV := Lib.hid (fun w => live_w w)
 have M1 := Lib.hid (fun w => match_w p s w (by omega) (by omega))
 have L1 := Lib.hid (fun w => least_w p w (by omega))
 have B0 := Lib.hid (Below.refl w.heap.size w)
 cases hm : mat (lb p) (lb s) with
 | false =>
  rw [hm] at M1
  clear hm
  go_enter Try.func6, Try.ntmps6
  go_wp2_with fail
  refine (C0.out _).mono ?_
  rintro e x1 ⟨rfl, hw⟩; subst hw
  clear C0
  go_wp2_with fail
  refine (C1.out _).mono ?_
  rintro e x1 ⟨rfl, hw⟩; subst hw
  clear C1
  go_wp2_with fail
  refine (C2.out _).mono ?_
  rintro e x1 ⟨rfl, hw⟩; subst hw
  clear C2
  go_wp2_with fail
  refine (M1.out _).mono ?_
  rintro e x1 ⟨rfl, hb⟩
  have B1 := Lib.hid (then' B0.out hb)
  clear hb M1
  go_wp2_with fail
  refine (LV.out _).mono ?_
  rintro e x2 ⟨rfl, hb⟩
  have B2 := Lib.hid (then' B1.out hb)
  clear hb LV
  go_wp2
  go_ret
  exact ⟨rfl, B2.out⟩
 | true =>
  rw [hm] at M1
  have hl := mat_least (lb p) (lb s) hm
  rw [lb_len] at hl
  have M2 := Lib.hid (fun w => (show Calls Try.prog 14 #[.string (p ++ ⟨#[42]⟩), .string (s ++ m)] w fun e w' => e = .returned (.bool true) ∧ Below w.heap.size w w' from by
   have h := match_w (p ++ ⟨#[42]⟩) (s ++ m) w (by rw [app_size]; show p.size + 1 ≤ 1000; omega) (by rw [app_size]; omega)
   rw [lb_app, lb_app, show mat (lb p ++ lb ⟨#[42]⟩) (lb s ++ lb m) = true from mat_more (lb m) hm] at h
   exact h))
  have M3 := Lib.hid (fun w => (show Calls Try.prog 14 #[.string ((⟨#[42]⟩ : ByteArray) ++ p), .string (m ++ s)] w fun e w' => e = .returned (.bool true) ∧ Below w.heap.size w w' from by
   have h := match_w ((⟨#[42]⟩ : ByteArray) ++ p) (m ++ s) w (by rw [app_size]; show 1 + p.size ≤ 1000; omega) (by rw [app_size]; omega)
   rw [lb_app, lb_app, show mat (lb ⟨#[42]⟩ ++ lb p) (lb m ++ lb s) = true from mat_ahead (lb m) hm] at h
   exact h))
  obtain ⟨n, hn⟩ : ∃ n, n = leastL (lb p) := ⟨_, rfl⟩
  rw [← hn] at hl L1
  have hlI : (n : Int) ≤ (s.size : Int) := by omega
  have hz1 : ¬ 9223372036854775807 < p.size + (⟨#[42]⟩ : ByteArray).size := by show ¬ 9223372036854775807 < p.size + 1; omega
  have hz2 : ¬ 9223372036854775807 < (⟨#[42]⟩ : ByteArray).size + p.size := by show ¬ 9223372036854775807 < 1 + p.size; omega
  have hz3 : ¬ 9223372036854775807 < s.size + m.size := by omega
  have hz4 : ¬ 9223372036854775807 < m.size + s.size := by omega
  clear hn hl
  clear hm
  go_enter Try.func6, Try.ntmps6
  go_wp2_with fail
  refine (C0.out _).mono ?_
  rintro e x1 ⟨rfl, hw⟩; subst hw
  clear C0
  go_wp2_with fail
  refine (C1.out _).mono ?_
  rintro e x1 ⟨rfl, hw⟩; subst hw
  clear C1
  go_wp2_with fail
  refine (C2.out _).mono ?_
  rintro e x1 ⟨rfl, hw⟩; subst hw
  clear C2
  go_wp2_with fail
  refine (M1.out _).mono ?_
  rintro e x1 ⟨rfl, hb⟩
  have B1 := Lib.hid (then' B0.out hb)
  clear hb M1
  go_wp2_with fail
  refine (LV.out _).mono ?_
  rintro e x2 ⟨rfl, hb⟩
  have B2 := Lib.hid (then' B1.out hb)
  clear hb LV
  go_wp2_with fail
  refine (L1.out _).mono ?_
  rintro e x3 ⟨rfl, hb⟩
  have B3 := Lib.hid (show Below _ _ x3 from by rw [hb]; exact B2.out)
  clear hb L1
  go_wp2_with fail
  refine (M2.out _).mono ?_
  rintro e x4 ⟨rfl, hb⟩
  have B4 := Lib.hid (then' B3.out hb)
  clear hb M2
  go_wp2_with fail
  refine (M3.out _).mono ?_
  rintro e x5 ⟨rfl, hb⟩
  have B5 := Lib.hid (then' B4.out hb)
  clear hb M3
  go_wp2
  go_ret
  exact ⟨rfl, B5.out⟩
end Go.Proofs.Ytcaaljioennnnaa.globLong

/-
 Layer 21: what must be whatever is asked.
-/
import Derived.Test.YtcaaljioennnnaaGlobF
import Derived.Test.YtcaaljioennnnaaGlobH
import Derived.Test.YtcaaljioennnnaaGlobE
import Derived.Test.YtcaaljioennnnaaFrameT
namespace Go.Proofs.Ytcaaljioennnnaa.glob
open Go.RowKit
open Go.Proofs.Ytcaaljioennnnaa.words
set_option linter.all false
set_option maxRecDepth 100000 in
set_option maxHeartbeats 8000000 in
theorem live_w (w : World) : Calls Try.prog 9 #[] w fun e w' => e = .returned (.bool true) ∧ Below w.heap.size w w' := by
 have M1 := Lib.hid (fun w => (show Calls Try.prog 14 #[.string ⟨#[97, 42, 99]⟩, .string ⟨#[97, 98, 98, 99]⟩] w fun e w' => e = .returned (.bool true) ∧ Below w.heap.size w w' from by
  have h := match_w ⟨#[97, 42, 99]⟩ ⟨#[97, 98, 98, 99]⟩ w (by decide) (by decide)
  rw [show mat (lb ⟨#[97, 42, 99]⟩) (lb ⟨#[97, 98, 98, 99]⟩) = true by decide +kernel] at h
  exact h))
 have M2 := Lib.hid (fun w => (show Calls Try.prog 14 #[.string ⟨#[97, 42, 99]⟩, .string ⟨#[97, 98]⟩] w fun e w' => e = .returned (.bool false) ∧ Below w.heap.size w w' from by
  have h := match_w ⟨#[97, 42, 99]⟩ ⟨#[97, 98]⟩ w (by decide) (by decide)
  rw [show mat (lb ⟨#[97, 42, 99]⟩) (lb ⟨#[97, 98]⟩) = false by decide +kernel] at h
  exact h))
 have M3 := Lib.hid (fun w => (show Calls Try.prog 14 #[.string ⟨#[97, 63]⟩, .string ⟨#[97, 98]⟩] w fun e w' => e = .returned (.bool true) ∧ Below w.heap.size w w' from by
  have h := match_w ⟨#[97, 63]⟩ ⟨#[97, 98]⟩ w (by decide) (by decide)
  rw [show mat (lb ⟨#[97, 63]⟩) (lb ⟨#[97, 98]⟩) = true by decide +kernel] at h
  exact h))
 have E1 := Lib.hid (fun w => (show Calls Try.prog 21 #[.string ⟨#[97, 63]⟩, .string ⟨#[42, 98]⟩] w fun e w' => e = .returned (.bool true) ∧ Below w.heap.size w w' from by
  have h := meets_w ⟨#[97, 63]⟩ ⟨#[42, 98]⟩ w (by decide) (by decide)
  rw [show meets (lb ⟨#[97, 63]⟩) (lb ⟨#[42, 98]⟩) = true from by rw [meets_comm, meets_one (by unfold noStar; decide +kernel)]; decide +kernel] at h
  exact h))
 have E2 := Lib.hid (fun w => (show Calls Try.prog 21 #[.string ⟨#[97, 63]⟩, .string ⟨#[98, 63]⟩] w fun e w' => e = .returned (.bool false) ∧ Below w.heap.size w w' from by
  have h := meets_w ⟨#[97, 63]⟩ ⟨#[98, 63]⟩ w (by decide) (by decide)
  rw [show meets (lb ⟨#[97, 63]⟩) (lb ⟨#[98, 63]⟩) = false from by rw [meets_one (by unfold noStar; decide +kernel)]; decide +kernel] at h
  exact h))
 have R1 := Lib.hid (fun w => (show Calls Try.prog 10 #[.string ⟨#[97, 42]⟩] w fun e w' => e = .returned (.bool true) ∧ w' = w from by
  have h := right_w ⟨#[97, 42]⟩ w (by decide)
  rw [show rightG (lb ⟨#[97, 42]⟩) = true by decide +kernel] at h
  exact h))
 have R2 := Lib.hid (fun w => (show Calls Try.prog 10 #[.string ⟨#[]⟩] w fun e w' => e = .returned (.bool false) ∧ w' = w from by
  have h := right_w ⟨#[]⟩ w (by decide)
  rw [show rightG (lb ⟨#[]⟩) = false by decide +kernel] at h
  exact h))
 have P1 := Lib.hid (fun w => (show Calls Try.prog 12 #[.string ⟨#[97, 98]⟩] w fun e w' => e = .returned (.bool true) ∧ Below w.heap.size w w' from by
  have h := plain_w ⟨#[97, 98]⟩ w (by decide)
  rw [show plainL (lb ⟨#[97, 98]⟩) = true by decide +kernel] at h
  exact h))
 have P2 := Lib.hid (fun w => (show Calls Try.prog 12 #[.string ⟨#[97, 63]⟩] w fun e w' => e = .returned (.bool false) ∧ Below w.heap.size w w' from by
  have h := plain_w ⟨#[97, 63]⟩ w (by decide)
  rw [show plainL (lb ⟨#[97, 63]⟩) = false by decide +kernel] at h
  exact h))
 have L1 := Lib.hid (fun w => (show Calls Try.prog 16 #[.string ⟨#[97, 42, 63]⟩] w fun e w' => e = .returned (.int .i64 2) ∧ w' = w from by
  have h := least_w ⟨#[97, 42, 63]⟩ w (by decide)
  rw [show leastL (lb ⟨#[97, 42, 63]⟩) = 2 by decide +kernel] at h
  exact h))
 have HAM := Lib.hid (fun (A : Option Addr) (c : Nat) (w : World) (hr : Rd w A (TX [⟨#[98]⟩, ⟨#[97, 98]⟩])) => (show Calls Try.prog 19 #[.string ⟨#[97, 42]⟩, .slice A 2 c] w fun e w' => ∃ v, e = .returned v ∧ w'.ownsRow w.heap.size 9 1 v 1 (TX [⟨#[97, 98]⟩]) ∧ Below w.heap.size w w' from by
  have h := among_w ⟨#[97, 42]⟩ A c [⟨#[98]⟩, ⟨#[97, 98]⟩] w (by decide) (by decide) (by intro s hs; simp only [List.mem_cons, List.not_mem_nil, or_false] at hs; rcases hs with rfl | rfl <;> decide) hr
  have hv : amongL (lb ⟨#[97, 42]⟩) [⟨#[98]⟩, ⟨#[97, 98]⟩] = [⟨#[97, 98]⟩] := by
   unfold amongL
   rw [List.filter_cons, if_neg (by decide +kernel), List.filter_cons, if_pos (by decide +kernel), List.filter_nil]
  unfold AmongP at h
  rw [hv] at h
  exact h))
 have HST := Lib.hid (fun (A C : Option Addr) (c d : Nat) (w : World) h1 h2 => texts.texts_same A C 1 c d [⟨#[97, 98]⟩] w h1 h2 rfl (by decide))
 have B0 := Lib.hid (Below.refl w.heap.size w)
 go_enter Try.func9, Try.ntmps9
 go_wp2_with fail
 refine (M1.out _).mono ?_
 rintro e x1 ⟨rfl, hb⟩
 have B1 := Lib.hid (then' B0.out hb)
 clear hb M1 B0
 go_wp2_with fail
 refine (M2.out _).mono ?_
 rintro e x2 ⟨rfl, hb⟩
 have B2 := Lib.hid (then' B1.out hb)
 clear hb M2 B1
 go_wp2_with fail
 refine (M3.out _).mono ?_
 rintro e x3 ⟨rfl, hb⟩
 have B3 := Lib.hid (then' B2.out hb)
 clear hb M3 B2
 go_wp2_with fail
 refine (E1.out _).mono ?_
 rintro e x4 ⟨rfl, hb⟩
 have B4 := Lib.hid (then' B3.out hb)
 clear hb E1 B3
 go_wp2_with fail
 refine (E2.out _).mono ?_
 rintro e x5 ⟨rfl, hb⟩
 have B5 := Lib.hid (then' B4.out hb)
 clear hb E2 B4
 go_wp2_with fail
 refine (R1.out _).mono ?_
 rintro e x6 ⟨rfl, hb⟩
 have B6 := Lib.hid (show Below w.heap.size w x6 from by rw [hb]; exact B5.out)
 clear hb R1 B5
 go_wp2_with fail
 refine (R2.out _).mono ?_
 rintro e x7 ⟨rfl, hb⟩
 have B7 := Lib.hid (show Below w.heap.size w x7 from by rw [hb]; exact B6.out)
 clear hb R2 B6
 go_wp2_with fail
 refine (P1.out _).mono ?_
 rintro e x8 ⟨rfl, hb⟩
 have B8 := Lib.hid (then' B7.out hb)
 clear hb P1 B7
 go_wp2_with fail
 refine (P2.out _).mono ?_
 rintro e x9 ⟨rfl, hb⟩
 have B9 := Lib.hid (then' B8.out hb)
 clear hb P2 B8
 go_wp2_with fail
 refine (L1.out _).mono ?_
 rintro e x10 ⟨rfl, hb⟩
 have B10 := Lib.hid (show Below w.heap.size w x10 from by rw [hb]; exact B9.out)
 clear hb L1 B9
 go_wp2_with fail
 have r1 := rd_blk (xs := TX [⟨#[98]⟩, ⟨#[97, 98]⟩]) (heap_alloc_new x10 (.cells #[.string ⟨#[98]⟩, .string ⟨#[97, 98]⟩] 9)) (k := 2) rfl
 refine (HAM.out _ 2 _ r1).mono ?_
 rintro e y1 ⟨v, rfl, hown, hb⟩
 obtain ⟨A9, c9, rfl, -, -, hrd⟩ := own_rd hown
 have C1 := Lib.hid (then' (B10.out.alloc B10.out.size _) hb)
 have HR := Lib.hid hrd
 clear hb hown hrd r1 B10 HAM
 go_wp2_with fail
 have r2 := rd_blk (xs := TX [⟨#[97, 98]⟩]) (heap_alloc_new y1 (.cells #[.string ⟨#[97, 98]⟩] 9)) (k := 1) rfl
 have r3 := HR.out.below ((Below.refl _ y1).alloc (Nat.le_refl _) (.cells #[.string ⟨#[97, 98]⟩] 9))
 refine (HST.out _ _ _ 1 _ r3 r2).mono ?_
 rintro e y2 ⟨rfl, q, rfl⟩
 have C2 := Lib.hid (over (q := q) (C1.out.alloc C1.out.size (.cells #[.string ⟨#[97, 98]⟩] 9)))
 clear HST r2 r3 HR C1
 go_wp2
 go_ret
 exact ⟨rfl, C2.out⟩
end Go.Proofs.Ytcaaljioennnnaa.glob

/-
 Layer 22: what a law of rules cuts: a text, and a rule.
-/
import Derived.Test.YtcaaljioennnnabDoorLive22
namespace Go.Proofs.YtcaaljioennnnabDoor.rul
open Go.RowKit
open Go.Proofs.YtcaaljioennnnabDoor.words Go.Proofs.YtcaaljioennnnabDoor.glob
set_option linter.all false
set_option maxRecDepth 100000 in
set_option maxHeartbeats 8000000 in
theorem cut_w (s : ByteArray) (hs : s.size ≤ 140737488351232) : ∃ t : ByteArray, t.size ≤ 70 ∧ ∀ w, Calls Tryd.prog 8 #[.string s] w fun e w' => e = .returned (.string t) ∧ w' = w := by
 have q0 : (s.size : Int) ≤ 140737488351232 := by omega
 by_cases h : 70 < s.size
 ·have hI : (70 : Int) < (s.size : Int) := by omega
  refine ⟨s.extract 0 70, by rw [ByteArray.size_extract]; omega, fun w => ?_⟩
  go_enter Tryd.func8, Tryd.ntmps8
  go_wp2
  go_ret
  exact ⟨rfl, rfl⟩
 ·have hI : ¬ (70 : Int) < (s.size : Int) := by omega
  refine ⟨s, by omega, fun w => ?_⟩
  go_enter Tryd.func8, Tryd.ntmps8
  go_wp2
  go_ret
  exact ⟨rfl, rfl⟩
set_option maxRecDepth 100000 in
set_option maxHeartbeats 8000000 in
theorem short_w (nb me : Bool) (c n d c1 n1 d1 : ByteArray) (w : World) (HC : Hid (∀ w, Calls Tryd.prog 8 #[.string c] w fun e w' => e = .returned (.string c1) ∧ w' = w)) (HN : Hid (∀ w, Calls Tryd.prog 8 #[.string n] w fun e w' => e = .returned (.string n1) ∧ w' = w)) (HD : Hid (∀ w, Calls Tryd.prog 8 #[.string d] w fun e w' => e = .returned (.string d1) ∧ w' = w)) :
  Calls Tryd.prog 7 #[.agg #[.bool nb, .bool me, .string c, .string n, .string d]] w fun e w' => e = .returned (.agg #[.bool nb, .bool me, .string c1, .string n1, .string d1]) ∧ Below w.heap.size w w' := by
 have hb1 : ∀ o1 o2, Below w.heap.size w ((w.alloc o1).alloc o2) := fun o1 o2 => ((Below.refl _ w).alloc (Nat.le_refl _) _).alloc (by simp) _
 go_enter Tryd.func7, Tryd.ntmps7
 obtain ⟨p, hp⟩ : ∃ p, p = w.heap.size := ⟨_, rfl⟩
 obtain ⟨q, hq⟩ : ∃ q, q = w.heap.size + 1 := ⟨_, rfl⟩
 obtain ⟨W, hW⟩ : ∃ W, W = (w.alloc (.cells #[.bool nb, .bool me, .string c, .string n, .string d] 23)).alloc (.cells #[.bool false, .bool false, .string ⟨#[]⟩, .string ⟨#[]⟩, .string ⟨#[]⟩] 23) := ⟨_, rfl⟩
 have hsz : (w.alloc (.cells #[.bool nb, .bool me, .string c, .string n, .string d] 23)).heap.size = q := by rw [World.size_alloc, hq]
 have HG3 := Lib.hid (show W.heap[q]? = some (.cells #[.bool false, .bool false, .string ⟨#[]⟩, .string ⟨#[]⟩, .string ⟨#[]⟩] 23 (0, 0)) from by rw [hW, ← hsz]; exact heap_alloc_new _ _)
 have HG2 := Lib.hid (show W.heap[p]? = some (.cells #[.bool nb, .bool me, .string c, .string n, .string d] 23 (0, 0)) from by rw [hW, heap_alloc_old _ _ (by rw [hsz, hp, hq]; omega), hp]; exact heap_alloc_new w _)
 have BW := Lib.hid (show Below w.heap.size w W from by rw [hW]; exact hb1 _ _)
 have HPQ := Lib.hid (show ¬ q = p from by omega)
 have HPW := Lib.hid (show w.heap.size ≤ p from by omega); have HQW := Lib.hid (show w.heap.size ≤ q from by omega)
 have HH := Lib.hid hW; have HHP := Lib.hid hp; have HHQ := Lib.hid hq
 clear hW hp hq hsz hb1
 have f2 := cell_of_row W p 2 _ _ _ HG2.out; have z2 := frozen_of_row W p 2 _ _ HG2.out
 go_wp2_with fail
 rw [← HH.out, ← HHQ.out, ← HHP.out]
 (try go_wp2_with fail)
 refine (HC.out _).mono ?_
 rintro e w1 ⟨rfl, hw⟩; rw [hw]; clear hw
 obtain ⟨v2, hv⟩ : ∃ u : World, u = W.setCell ⟨p, 2, none⟩ (.string c1) := ⟨_, rfl⟩
 have Rv2 := Lib.hid (show v2.heap[p]? = some (.cells #[.bool nb, .bool me, .string c1, .string n, .string d] 23 (0, 0)) from by rw [hv]; exact heap_setCell_same _ p 2 _ _ (.string c1) HG2.out)
 have Tv2 := Lib.hid (show v2.heap[q]? = some (.cells #[.bool false, .bool false, .string ⟨#[]⟩, .string ⟨#[]⟩, .string ⟨#[]⟩] 23 (0, 0)) from by rw [hv, heap_setCell_other _ _ _ _ HPQ.out]; exact HG3.out)
 have Bv2 := Lib.hid (show Below w.heap.size w v2 from by rw [hv]; exact below_setCell' BW.out HPW.out)
 have HV0 := Lib.hid hv
 clear hv
 have g3 : (W.setCell ⟨p, 2, none⟩ (.string c1)).cell? ⟨p, 3, none⟩ = some (.string n) := by rw [← HV0.out]; exact cell_of_row v2 p 3 _ _ _ Rv2.out
 have g3b : v2.cell? ⟨p, 3, none⟩ = some (.string n) := cell_of_row v2 p 3 _ _ _ Rv2.out; have y3 := frozen_of_row v2 p 3 _ _ Rv2.out
 go_wp2_with fail
 rw [← HV0.out]
 (try go_wp2_with fail)
 refine (HN.out _).mono ?_
 rintro e w1 ⟨rfl, hw⟩; rw [hw]; clear hw
 obtain ⟨v3, hv⟩ : ∃ u : World, u = v2.setCell ⟨p, 3, none⟩ (.string n1) := ⟨_, rfl⟩
 have Rv3 := Lib.hid (show v3.heap[p]? = some (.cells #[.bool nb, .bool me, .string c1, .string n1, .string d] 23 (0, 0)) from by rw [hv]; exact heap_setCell_same _ p 3 _ _ (.string n1) Rv2.out)
 have Tv3 := Lib.hid (show v3.heap[q]? = some (.cells #[.bool false, .bool false, .string ⟨#[]⟩, .string ⟨#[]⟩, .string ⟨#[]⟩] 23 (0, 0)) from by rw [hv, heap_setCell_other _ _ _ _ HPQ.out]; exact Tv2.out)
 have Bv3 := Lib.hid (show Below w.heap.size w v3 from by rw [hv]; exact below_setCell' Bv2.out HPW.out)
 have HV1 := Lib.hid hv
 clear hv
 have g4 : (v2.setCell ⟨p, 3, none⟩ (.string n1)).cell? ⟨p, 4, none⟩ = some (.string d) := by rw [← HV1.out]; exact cell_of_row v3 p 4 _ _ _ Rv3.out
 have g4b : v3.cell? ⟨p, 4, none⟩ = some (.string d) := cell_of_row v3 p 4 _ _ _ Rv3.out; have y4 := frozen_of_row v3 p 4 _ _ Rv3.out
 go_wp2_with fail
 rw [← HV1.out]
 (try go_wp2_with fail)
 refine (HD.out _).mono ?_
 rintro e w1 ⟨rfl, hw⟩; rw [hw]; clear hw
 obtain ⟨v4, hv⟩ : ∃ u : World, u = v3.setCell ⟨p, 4, none⟩ (.string d1) := ⟨_, rfl⟩
 have Rv4 := Lib.hid (show v4.heap[p]? = some (.cells #[.bool nb, .bool me, .string c1, .string n1, .string d1] 23 (0, 0)) from by rw [hv]; exact heap_setCell_same _ p 4 _ _ (.string d1) Rv3.out)
 have Tv4 := Lib.hid (show v4.heap[q]? = some (.cells #[.bool false, .bool false, .string ⟨#[]⟩, .string ⟨#[]⟩, .string ⟨#[]⟩] 23 (0, 0)) from by rw [hv, heap_setCell_other _ _ _ _ HPQ.out]; exact Tv3.out)
 have Bv4 := Lib.hid (show Below w.heap.size w v4 from by rw [hv]; exact below_setCell' Bv3.out HPW.out)
 have HV2 := Lib.hid hv
 clear hv
 have e0 : (v3.setCell ⟨p, 4, none⟩ (.string d1)).cell? ⟨p, 0, none⟩ = some (.bool nb) := by rw [← HV2.out]; exact cell_of_row v4 p 0 _ _ _ Rv4.out
 have c0_ : (v3.setCell ⟨p, 4, none⟩ (.string d1)).cell? ⟨q, 0, none⟩ = some (.bool false) := by rw [← HV2.out]; exact cell_of_row v4 q 0 _ _ _ Tv4.out
 have k0 := frozen_of_row v4 q 0 _ _ Tv4.out; rw [HV2.out] at k0
 have e1 : (v3.setCell ⟨p, 4, none⟩ (.string d1)).cell? ⟨p, 1, none⟩ = some (.bool me) := by rw [← HV2.out]; exact cell_of_row v4 p 1 _ _ _ Rv4.out
 have c1_ : (v3.setCell ⟨p, 4, none⟩ (.string d1)).cell? ⟨q, 1, none⟩ = some (.bool false) := by rw [← HV2.out]; exact cell_of_row v4 q 1 _ _ _ Tv4.out
 have k1 := frozen_of_row v4 q 1 _ _ Tv4.out; rw [HV2.out] at k1
 have e2 : (v3.setCell ⟨p, 4, none⟩ (.string d1)).cell? ⟨p, 2, none⟩ = some (.string c1) := by rw [← HV2.out]; exact cell_of_row v4 p 2 _ _ _ Rv4.out
 have c2_ : (v3.setCell ⟨p, 4, none⟩ (.string d1)).cell? ⟨q, 2, none⟩ = some (.string ⟨#[]⟩) := by rw [← HV2.out]; exact cell_of_row v4 q 2 _ _ _ Tv4.out
 have k2 := frozen_of_row v4 q 2 _ _ Tv4.out; rw [HV2.out] at k2
 have e3 : (v3.setCell ⟨p, 4, none⟩ (.string d1)).cell? ⟨p, 3, none⟩ = some (.string n1) := by rw [← HV2.out]; exact cell_of_row v4 p 3 _ _ _ Rv4.out
 have c3_ : (v3.setCell ⟨p, 4, none⟩ (.string d1)).cell? ⟨q, 3, none⟩ = some (.string ⟨#[]⟩) := by rw [← HV2.out]; exact cell_of_row v4 q 3 _ _ _ Tv4.out
 have k3 := frozen_of_row v4 q 3 _ _ Tv4.out; rw [HV2.out] at k3
 have e4 : (v3.setCell ⟨p, 4, none⟩ (.string d1)).cell? ⟨p, 4, none⟩ = some (.string d1) := by rw [← HV2.out]; exact cell_of_row v4 p 4 _ _ _ Rv4.out
 have c4_ : (v3.setCell ⟨p, 4, none⟩ (.string d1)).cell? ⟨q, 4, none⟩ = some (.string ⟨#[]⟩) := by rw [← HV2.out]; exact cell_of_row v4 q 4 _ _ _ Tv4.out
 have k4 := frozen_of_row v4 q 4 _ _ Tv4.out; rw [HV2.out] at k4
 go_wp2_with fail
 clear e0 e1 e2 e3 e4 c0_ c1_ c2_ c3_ c4_ k0 k1 k2 k3 k4
 rw [← HV2.out]
 have XB := Lib.hid (show Below w.heap.size w (((((v4.setCell ⟨q, 0, none⟩ (.bool nb)).setCell ⟨q, 1, none⟩ (.bool me)).setCell ⟨q, 2, none⟩ (.string c1)).setCell ⟨q, 3, none⟩ (.string n1)).setCell ⟨q, 4, none⟩ (.string d1)) from below_setCell' (below_setCell' (below_setCell' (below_setCell' (below_setCell' Bv4.out HQW.out) HQW.out) HQW.out) HQW.out) HQW.out)
 have XR := Lib.hid (show (((((v4.setCell ⟨q, 0, none⟩ (.bool nb)).setCell ⟨q, 1, none⟩ (.bool me)).setCell ⟨q, 2, none⟩ (.string c1)).setCell ⟨q, 3, none⟩ (.string n1)).setCell ⟨q, 4, none⟩ (.string d1)).heap[q]? = some (.cells #[.bool nb, .bool me, .string c1, .string n1, .string d1] 23 (0, 0)) from
  heap_setCell_same _ q 4 _ _ _ (heap_setCell_same _ q 3 _ _ _ (heap_setCell_same _ q 2 _ _ _ (heap_setCell_same _ q 1 _ _ _ (heap_setCell_same _ q 0 _ _ _ Tv4.out)))))
 obtain ⟨X, hX⟩ : ∃ X : World, X = (((((v4.setCell ⟨q, 0, none⟩ (.bool nb)).setCell ⟨q, 1, none⟩ (.bool me)).setCell ⟨q, 2, none⟩ (.string c1)).setCell ⟨q, 3, none⟩ (.string n1)).setCell ⟨q, 4, none⟩ (.string d1)) := ⟨_, rfl⟩
 rw [← hX] at XB XR ⊢
 clear hX
 have g0 : X.cell? ⟨q, 0, none⟩ = some (.bool nb) := cell_of_row X q 0 _ _ _ XR.out; have g1 : X.cell? ⟨q, 1, none⟩ = some (.bool me) := cell_of_row X q 1 _ _ _ XR.out; have g2 : X.cell? ⟨q, 2, none⟩ = some (.string c1) := cell_of_row X q 2 _ _ _ XR.out; have g3 : X.cell? ⟨q, 3, none⟩ = some (.string n1) := cell_of_row X q 3 _ _ _ XR.out; have g4 : X.cell? ⟨q, 4, none⟩ = some (.string d1) := cell_of_row X q 4 _ _ _ XR.out
 exact bodyPost_ret (v := .agg #[.bool nb, .bool me, .string c1, .string n1, .string d1]) (by simp [results, Tryd.results7, go_sem, g0, g1, g2, g3, g4]) rfl ⟨rfl, XB.out⟩
end Go.Proofs.YtcaaljioennnnabDoor.rul

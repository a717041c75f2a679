/- Find -/
import Derived.Test.YtjejmlpjifhmmaaGreatDoorStpF
import Derived.Deep.QuietTactic
import Derived.BigQuiet
import Derived.RangeFuncNested
import Derived.RangeFuncBound
import Derived.RangeFuncCalls
import Derived.RangeFuncLeaves
import Derived.RangeFuncBox
import Derived.Shelf.Abstract
import Derived.Shelf.RegionOpen
import Derived.WalkKit
import Derived.OwnWalkIn
import Derived.TacticsInMore
import Derived.LoopNIn
import Derived.LoopIn
import Derived.Test.YtjejmlpjifhmmaaGreatDoorStoL
namespace Go.Proofs.YtjejmlpjifhmmaaGreatDoor.stp
open Go.RowKit Go.MapKept Go.ChangeMaps Go.Shelf
open words kindp opp op kind prg sto
set_option maxRecDepth 100000
set_option maxHeartbeats 8000000
set_option linter.all false
theorem Mk.below {mb : Nat} {m : MS} {w w' : World} (h : Mk mb m w) (hb : Below w.heap.size w w') : Mk mb m w' := (hb.block _ (blk_lt h)).trans h
theorem Mk.kept {mb : Nat} {m : MS} {S : List Nat} {w w' : World} (h : Mk mb m w) (hk : Kp S w w') (hn : mb ∉ S) : Mk mb m w' := hk.at_ h hn
theorem Fk.kept {mb : Nat} {m : FS} {S : List Nat} {w w' : World} (h : Fk mb m w) (hk : Kp S w w') (hn : mb ∉ S) : Fk mb m w' := hk.at_ h hn
theorem Kp.drew {S : List Nat} {w w' : World} (h : Kp S w w') : Kp S w w'.drew := ⟨h.os, h.tape, h.output, h.size, h.block⟩
theorem Kp.drewN {S : List Nat} {w w' : World} {n : Nat} (h : Kp S w w') : Kp S w (w'.drewN n) := ⟨h.os, h.tape, h.output, h.size, h.block⟩
theorem has_e (mb g : Nat) (m : MS) (w : World) (h : Mk mb m w) (he : m.em = .map (some g)) (hg : w.heap[g]? = some oe0) : Calls Tryz.prog 139 #[.pointer (some ⟨mb, 28, none⟩), .agg #[.string ⟨#[65]⟩, .string ⟨#[109]⟩, .string ⟨#[40, 41, 73]⟩]] w fun e w' => e = .returned (.bool false) ∧ Below w.heap.size w w' := by
 obtain ⟨W, hW⟩ : ∃ W, W = w.alloc (.cells #[.string ⟨#[65]⟩, .string ⟨#[109]⟩, .string ⟨#[40, 41, 73]⟩] 34) := ⟨_, rfl⟩
 have hal : Below w.heap.size w W := by rw [hW]; exact (Below.refl _ _).alloc (Nat.le_refl _) _
 have h28 : W.cell? ⟨mb, 28, none⟩ = some (.map (some g)) := by rw [← he]; exact cell_of_row _ _ 28 _ _ _ (h.below hal)
 have hlk := fun (n : Nat) => lk2_ne (w := W.drewN n) ((hal.block _ (blk_lt hg)).trans hg)
 have hlk0 := lk2_ne ((hal.block _ (blk_lt hg)).trans hg)
 have hbx : W.heap[w.heap.size]? = some (.cells #[.string ⟨#[65]⟩, .string ⟨#[109]⟩, .string ⟨#[40, 41, 73]⟩] 34 (0, 0)) := by rw [hW]; exact heap_alloc_new _ _
 have k0 : W.cell? ⟨w.heap.size, 0, none⟩ = some (.string ⟨#[65]⟩) := cell_of_row _ _ 0 _ _ _ hbx
 have k1 : W.cell? ⟨w.heap.size, 1, none⟩ = some (.string ⟨#[109]⟩) := cell_of_row _ _ 1 _ _ _ hbx
 have k2 : W.cell? ⟨w.heap.size, 2, none⟩ = some (.string ⟨#[40, 41, 73]⟩) := cell_of_row _ _ 2 _ _ _ hbx
 unfold ke at hlk hlk0
 have HAL := zh hal; have HW := zh hW
 clear hal hW hg h he hbx
 go_enter Tryz.func139, Tryz.ntmps139
 go_wp2_with fail
 rw [← HW.out]
 (try go_wp2_with fail)
 go_quiet (fail)
 go_wp2
 go_ret
 exact ⟨rfl, over HAL.out⟩
theorem number_e (mb : Nat) (m : MS) (w : World) (h : Mk mb m w) (he : m.em = .map none) : Calls Tryz.prog 84 #[.pointer (some ⟨mb, 28, none⟩), .agg #[.string ⟨#[65]⟩, .string ⟨#[109]⟩, .string ⟨#[40, 41, 73]⟩]] w fun e w' => e = .returned (.int .i64 0) ∧ ∃ g, w.heap.size ≤ g ∧ w'.heap[g]? = some oe1 ∧ Mk mb { m with em := .map (some g) } w' ∧ Kp [mb] w w' := by
 have hnl : ∀ w : World, (binOp .eql 81 (.map none) (.map none)).run Tryz.prog w = .ok (.bool true) w := fun _ => by kernel_rfl
 have hmm : ∀ (t : TypeId) (w : World), (Instr.makeMap t none).run Tryz.prog w = .ok (.map (some w.heap.size)) (w.alloc (.map #[] 0)) := fun t w => run_makeMap t w
 obtain ⟨W, hW⟩ : ∃ W, W = w.alloc (.cells #[.string ⟨#[65]⟩, .string ⟨#[109]⟩, .string ⟨#[40, 41, 73]⟩] 34) := ⟨_, rfl⟩
 have hal : Below w.heap.size w W := by rw [hW]; exact (Below.refl _ _).alloc (Nat.le_refl _) _
 have hmb := blk_lt h
 have sW : W.heap.size = w.heap.size + 1 := by rw [hW]; simp
 have hM := h.below hal
 have h28 : W.cell? ⟨mb, 28, none⟩ = some (.map none) := by rw [← he]; exact cell_of_row _ _ 28 _ _ _ hM
 have hbx : W.heap[w.heap.size]? = some (.cells #[.string ⟨#[65]⟩, .string ⟨#[109]⟩, .string ⟨#[40, 41, 73]⟩] 34 (0, 0)) := by rw [hW]; exact heap_alloc_new _ _
 obtain ⟨X, hX⟩ : ∃ X, X = W.alloc (.map #[] 0) := ⟨_, rfl⟩
 have hax : Below W.heap.size W X := by rw [hX]; exact (Below.refl _ _).alloc (Nat.le_refl _) _
 have hMX := hM.below hax
 have x28 : X.cell? ⟨mb, 28, none⟩ = some (.map none) := by rw [← he]; exact cell_of_row _ _ 28 _ _ _ hMX
 have xf : X.frozen? ⟨mb, 28, none⟩ = false := frozen_of_row _ _ 28 _ _ hMX
 obtain ⟨Y, hY⟩ : ∃ Y, Y = X.setCell ⟨mb, 28, none⟩ (.map (some (w.heap.size + 1))) := ⟨_, rfl⟩
 have hMY : Mk mb { m with em := .map (some (w.heap.size + 1)) } Y := by unfold Mk; rw [hY, heap_setCell_same _ _ _ _ _ _ hMX]; rfl
 have kY : Kp [mb] w Y := by rw [hY]; exact ((Kp.below hal).trans (Kp.below hax)).set (by simp) _
 have gY : Y.heap[w.heap.size + 1]? = some oe0 := by
  rw [hY, heap_setCell_other _ _ _ _ (by show w.heap.size + 1 ≠ mb; omega), ← sW, hX]; exact heap_alloc_new _ _
 have bY : Y.heap[w.heap.size]? = some (.cells #[.string ⟨#[65]⟩, .string ⟨#[109]⟩, .string ⟨#[40, 41, 73]⟩] 34 (0, 0)) := by
  rw [hY, heap_setCell_other _ _ _ _ (by show w.heap.size ≠ mb; omega)]; exact (hax.block _ (by omega)).trans hbx
 rw [hX, hW] at x28 xf
 rw [hW] at h28
 have HH := zh (has_e mb (w.heap.size + 1) _ Y hMY rfl gY)
 have k0 : Y.cell? ⟨w.heap.size, 0, none⟩ = some (.string ⟨#[65]⟩) := cell_of_row _ _ 0 _ _ _ bY
 have k1 : Y.cell? ⟨w.heap.size, 1, none⟩ = some (.string ⟨#[109]⟩) := cell_of_row _ _ 1 _ _ _ bY
 have k2 : Y.cell? ⟨w.heap.size, 2, none⟩ = some (.string ⟨#[40, 41, 73]⟩) := cell_of_row _ _ 2 _ _ _ bY
 have HMY := zh hMY; have KY := zh kY; have GY := zh gY; have BY := zh bY; have HW := zh hW; have HX := zh hX; have HY := zh hY
 have HSZ := zh (show mb < w.heap.size from hmb)
 rw [hY, hX, hW] at k0 k1 k2
 clear hal hmb hM hbx hax hMX hMY kY gY bY hW hX hY h sW
 go_enter Tryz.func84, Tryz.ntmps84
 go_wp2_with fail
 rw [← HW.out, ← HX.out, ← HY.out]
 refine HH.out.mono ?_
 rintro e v ⟨rfl, hb⟩
 clear h28 x28 xf k0 k1 k2
 have gV := (hb.block _ (blk_lt GY.out)).trans GY.out
 have bV := (hb.block _ (blk_lt BY.out)).trans BY.out
 have mV := HMY.out.below hb
 have kV : Kp [mb] w v := KY.out.trans (Kp.below hb)
 clear hb HH hnl hmm
 have k28 : v.cell? ⟨mb, 28, none⟩ = some (.map (some (w.heap.size + 1))) := cell_of_row _ _ 28 _ _ _ mV
 have k0 : v.cell? ⟨w.heap.size, 0, none⟩ = some (.string ⟨#[65]⟩) := cell_of_row _ _ 0 _ _ _ bV
 have k1 : v.cell? ⟨w.heap.size, 1, none⟩ = some (.string ⟨#[109]⟩) := cell_of_row _ _ 1 _ _ _ bV
 have k2 : v.cell? ⟨w.heap.size, 2, none⟩ = some (.string ⟨#[40, 41, 73]⟩) := cell_of_row _ _ 2 _ _ _ bV
 have SV := zh (And.intro k28 (And.intro k0 (And.intro k1 k2)))
 clear k28 k0 k1 k2
 have GV := zh gV; have BV := zh bV; have MV := zh mV; have KV := zh kV
 clear gV bV mV kV
 go_wp2_with fail
 refine wp_region_held_drew (S := fun w' : World => w'.cell? ⟨mb, 28, none⟩ = some (.map (some (w.heap.size + 1))) ∧ w'.cell? ⟨w.heap.size, 0, none⟩ = some (.string ⟨#[65]⟩) ∧ w'.cell? ⟨w.heap.size, 1, none⟩ = some (.string ⟨#[109]⟩) ∧ w'.cell? ⟨w.heap.size, 2, none⟩ = some (.string ⟨#[40, 41, 73]⟩)) (by kernel_rfl) ?_ (fun hHeld => ?_)
 ·exact SV.out
 obtain ⟨D, hD⟩ : ∃ u, u = v.drew := ⟨_, rfl⟩
 have SD := zh (show (fun w' : World => w'.cell? ⟨mb, 28, none⟩ = some (.map (some (w.heap.size + 1))) ∧ w'.cell? ⟨w.heap.size, 0, none⟩ = some (.string ⟨#[65]⟩) ∧ w'.cell? ⟨w.heap.size, 1, none⟩ = some (.string ⟨#[109]⟩) ∧ w'.cell? ⟨w.heap.size, 2, none⟩ = some (.string ⟨#[40, 41, 73]⟩)) D from by rw [hD]; exact SV.out)
 have hS := SD.out
 dsimp only at hS
 have gD : D.heap[w.heap.size + 1]? = some oe0 := by rw [hD]; exact GV.out
 have bD : D.heap[w.heap.size]? = some (.cells #[.string ⟨#[65]⟩, .string ⟨#[109]⟩, .string ⟨#[40, 41, 73]⟩] 34 (0, 0)) := by rw [hD]; exact BV.out
 have mD : Mk mb { m with em := .map (some (w.heap.size + 1)) } D := by rw [hD]; exact MV.out
 have kD : Kp [mb] w D := by rw [hD]; exact KV.out.drew
 rw [← hD]
 clear hD
 refine tkp 0 rfl ?_
 refine tkp 1 rfl ?_
 refine tkp 2 rfl ?_
 refine tkp 3 rfl ?_
 refine tkp 4 rfl ?_
 refine tkp 5 rfl ?_
 refine tkp 6 rfl ?_
 refine tkp 7 rfl ?_
 refine tkp 8 rfl ?_
 have hput := pt_ne gD
 unfold ke at hput
 unfold oe0 at gD
 have hlen : ∀ ty, (Builtin.len_ #[81] ty #[.map (some (w.heap.size + 1))]).run Tryz.prog D = .ok (.int .i64 0) D := fun ty => run_len_map D _ ty _ _ _ Tryz.underlying81 gD
 obtain ⟨Z, hZ⟩ : ∃ Z, Z = setBlock D (w.heap.size + 1) oe1 := ⟨_, rfl⟩
 have kZ : Kp [mb] w Z := kD.since (R := [w.heap.size + 1]) (by rw [hZ]; exact (Kp.refl _ _).setB (by simp) _) (by intro j hj h; simp at hj; omega)
 have zZ : Z.heap[w.heap.size + 1]? = some oe1 := by rw [hZ]; exact setB_at (blk_lt gD)
 have mZ : Mk mb { m with em := .map (some (w.heap.size + 1)) } Z := by unfold Mk; rw [hZ, setB_off (by have := HSZ.out; omega)]; exact mD
 have bZ : Z.heap[w.heap.size]? = some (.cells #[.string ⟨#[65]⟩, .string ⟨#[109]⟩, .string ⟨#[40, 41, 73]⟩] 34 (0, 0)) := by rw [hZ, setB_off (by omega)]; exact bD
 rw [← hZ] at hput
 clear hZ mD bD kD
 have z28 : Z.cell? ⟨mb, 28, none⟩ = some (.map (some (w.heap.size + 1))) := cell_of_row _ _ 28 _ _ _ mZ
 have z0 : Z.cell? ⟨w.heap.size, 0, none⟩ = some (.string ⟨#[65]⟩) := cell_of_row _ _ 0 _ _ _ bZ
 have z1 : Z.cell? ⟨w.heap.size, 1, none⟩ = some (.string ⟨#[109]⟩) := cell_of_row _ _ 1 _ _ _ bZ
 have z2 : Z.cell? ⟨w.heap.size, 2, none⟩ = some (.string ⟨#[40, 41, 73]⟩) := cell_of_row _ _ 2 _ _ _ bZ
 have ZZ := zh zZ; have MZ := zh mZ; have KZ := zh kZ
 have hlk := fun (n : Nat) => lk1_oe (w := Z.drewN n) zZ
 have hlk0 := lk1_oe zZ
 unfold ke at hlk hlk0
 clear zZ mZ kZ bZ
 refine rdy 9 rfl (fun K hK => ?_)
 go_simp
 refine hK.out _ _ SD.out (fun hHeld => ?_)
 clear hK K
 try simp only [puts]
 clear hlen
 refine rdy 10 rfl (fun K hK => ?_)
 go_simp
 refine hK.out _ _ ⟨z28, z0, z1, z2⟩ (fun hHeld => ?_)
 clear hK K
 try simp only [puts]
 refine wpAnyH_done (by kernel_rfl) ?_ _
 clear hS hput gD
 go_wp2_with fail
 (try go_quiet (fail))
 go_wp2
 go_ret
 exact ⟨rfl, w.heap.size + 1, by omega, ZZ.out, MZ.out, KZ.out.drewN⟩
end Go.Proofs.YtjejmlpjifhmmaaGreatDoor.stp
namespace Go.Proofs.YtjejmlpjifhmmaaGreatDoor.stp
open Go.RowKit Go.MapKept Go.ChangeMaps Go.Shelf
open words kindp opp op kind prg sto
set_option maxRecDepth 100000
set_option maxHeartbeats 8000000
set_option linter.all false
theorem add_e (mb : Nat) (m : MS) (w : World) (h : Mk mb m w) (he : m.em = .map none) (hr : m.er = .slice none 0 0) : Calls Tryz.prog 115 #[.pointer (some ⟨mb, 28, none⟩), .agg #[.string ⟨#[65]⟩, .string ⟨#[109]⟩, .string ⟨#[40, 41, 73]⟩]] w fun e w' => e = .returned (.int .i64 0) ∧ (∃ g A c, Mk mb { m with em := .map (some g), er := .slice A 1 c } w' ∧ w'.heap[g]? = some oe1 ∧ w.heap.size ≤ g ∧ Rd w' A [.string ⟨#[65]⟩, .string ⟨#[109]⟩, .string ⟨#[40, 41, 73]⟩] ∧ (∀ a, A = some a → w.heap.size ≤ a.block) ∧ 1 ≤ c) ∧ Kp [mb] w w' := by
 obtain ⟨i0, hi0, hz0, hz1, hz2⟩ := info_parts info_mref
 obtain ⟨W, hW⟩ : ∃ W, W = w.alloc (.cells #[.string ⟨#[65]⟩, .string ⟨#[109]⟩, .string ⟨#[40, 41, 73]⟩] 34) := ⟨_, rfl⟩
 have hal : Below w.heap.size w W := by rw [hW]; exact (Below.refl _ _).alloc (Nat.le_refl _) _
 have hmb := blk_lt h
 have sW : W.heap.size = w.heap.size + 1 := by rw [hW]; simp
 have hM := h.below hal
 have hbx : W.heap[w.heap.size]? = some (.cells #[.string ⟨#[65]⟩, .string ⟨#[109]⟩, .string ⟨#[40, 41, 73]⟩] 34 (0, 0)) := by rw [hW]; exact heap_alloc_new _ _
 have HM := zh hM; have HBX := zh hbx; have HAL := zh hal; have HW := zh hW; have HLT := zh hmb; have HE := zh he; have HR := zh hr; have HSW := zh sW
 clear hM hbx hal hW hmb he hr h sW
 go_enter Tryz.func115, Tryz.ntmps115
 go_wp2_with fail
 rw [← HW.out]
 (try go_wp2_with fail)
 have HC := zh (show ∀ v : World, v.heap[w.heap.size]? = some (.cells #[.string ⟨#[65]⟩, .string ⟨#[109]⟩, .string ⟨#[40, 41, 73]⟩] 34 (0, 0)) → (fun w' : World => w'.cell? ⟨w.heap.size, 0, none⟩ = some (.string ⟨#[65]⟩) ∧ w'.cell? ⟨w.heap.size, 1, none⟩ = some (.string ⟨#[109]⟩) ∧ w'.cell? ⟨w.heap.size, 2, none⟩ = some (.string ⟨#[40, 41, 73]⟩)) v from fun v hv => ⟨cell_of_row _ _ 0 _ _ _ hv, cell_of_row _ _ 1 _ _ _ hv, cell_of_row _ _ 2 _ _ _ hv⟩)
 refine wp_region_held_drew (S := fun w' : World => w'.cell? ⟨w.heap.size, 0, none⟩ = some (.string ⟨#[65]⟩) ∧ w'.cell? ⟨w.heap.size, 1, none⟩ = some (.string ⟨#[109]⟩) ∧ w'.cell? ⟨w.heap.size, 2, none⟩ = some (.string ⟨#[40, 41, 73]⟩)) (by kernel_rfl) ?_ (fun hHeld => ?_)
 ·exact HC.out _ HBX.out
 obtain ⟨D, hD⟩ : ∃ u, u = W.drew := ⟨_, rfl⟩
 have HMD := zh (show Mk mb m D from by rw [hD]; exact HM.out)
 have HBD := zh (show D.heap[w.heap.size]? = some (.cells #[.string ⟨#[65]⟩, .string ⟨#[109]⟩, .string ⟨#[40, 41, 73]⟩] 34 (0, 0)) from by rw [hD]; exact HBX.out)
 have HKD := zh (show Kp [mb] w D from by rw [hD]; exact (Kp.below HAL.out).drew)
 have HSD := zh (show D.heap.size = w.heap.size + 1 from by rw [hD]; exact HSW.out)
 have hS := HC.out _ HBD.out
 try dsimp only at hS
 rw [← hD]
 clear hD
 refine tkp 0 rfl ?_
 refine tkp 1 rfl ?_
 refine tkp 2 rfl ?_
 refine tkp 3 rfl ?_
 have HN := zh (number_e mb m D HMD.out HE.out)
 refine rdy 4 rfl (fun K hK => ?_)
 go_simp
 refine HN.out.mono ?_
 rintro e v ⟨rfl, g, hg, hgo, hm, hk⟩
 have bv := hk.at_ HBD.out (by simp; have := HLT.out; omega)
 have GG := zh (show w.heap.size + 1 ≤ g from by have := HSD.out; omega)
 have GO := zh hgo; have MV := zh hm; have KV := zh (HKD.out.trans hk); have BV := zh bv
 have VS := zh (show w.heap.size + 1 ≤ v.heap.size from by have := hk.size; have := HSD.out; omega)
 clear hg hgo hm hk bv HN hS
 go_wp2_with fail
 refine hK.out _ _ (HC.out _ BV.out) (fun hHeld => ?_)
 clear hK K
 try simp only [puts]
 have hS := HC.out _ BV.out
 try dsimp only at hS
 refine tkp 5 rfl ?_
 refine wpAnyH_done (by kernel_rfl) ?_ _
 have m29 : v.cell? ⟨mb, 29, none⟩ = some (.slice none 0 0) := by rw [← HR.out]; exact cell_of_row _ _ 29 _ _ _ MV.out
 clear hS
 go_wp2_with fail
 clear m29 hHeld
 refine wp_region_held_drew (S := fun w' : World => w'.cell? ⟨w.heap.size, 0, none⟩ = some (.string ⟨#[65]⟩) ∧ w'.cell? ⟨w.heap.size, 1, none⟩ = some (.string ⟨#[109]⟩) ∧ w'.cell? ⟨w.heap.size, 2, none⟩ = some (.string ⟨#[40, 41, 73]⟩)) (by kernel_rfl) ?_ (fun hHeld => ?_)
 ·exact HC.out _ BV.out
 obtain ⟨F, hF⟩ : ∃ u, u = v.drew := ⟨_, rfl⟩
 have MF := zh (show Mk mb { m with em := .map (some g) } F from by rw [hF]; exact MV.out)
 have BF := zh (show F.heap[w.heap.size]? = some (.cells #[.string ⟨#[65]⟩, .string ⟨#[109]⟩, .string ⟨#[40, 41, 73]⟩] 34 (0, 0)) from by rw [hF]; exact BV.out)
 have KF := zh (show Kp [mb] w F from by rw [hF]; exact KV.out.drew)
 have GF := zh (show F.heap[g]? = some oe1 from by rw [hF]; exact GO.out)
 have SF := zh (show w.heap.size + 1 ≤ F.heap.size from by rw [hF]; exact VS.out)
 rw [← hF]
 clear hF MV BV KV GO VS HKD HMD HBD HSD
 obtain ⟨X, hX⟩ : ∃ X, X = F.alloc (.cells #[.string ⟨#[65]⟩, .string ⟨#[109]⟩, .string ⟨#[40, 41, 73]⟩] 34) := ⟨_, rfl⟩
 have XL : Below F.heap.size F X := by rw [hX]; exact (Below.refl _ _).alloc (Nat.le_refl _) _
 have XN := zh (show X.heap[F.heap.size]? = some (.cells #[.string ⟨#[65]⟩, .string ⟨#[109]⟩, .string ⟨#[40, 41, 73]⟩] 34 (0, 0)) from by rw [hX]; exact heap_alloc_new _ _)
 have XB := zh ((XL.block _ (blk_lt BF.out)).trans BF.out)
 have XM := zh (MF.out.below XL)
 have XG := zh ((XL.block _ (blk_lt GF.out)).trans GF.out)
 have XK := zh (KF.out.trans (Kp.below XL))
 have XS := zh (show X.heap.size = F.heap.size + 1 from by rw [hX]; simp)
 have HX := zh hX
 clear hX XL
 refine' cutH (T := _) ?pK ?fK
 case' fK => intro KEY
 ·have hS0 := HC.out _ BF.out
  try dsimp only at hS0
  have m29 : F.cell? ⟨mb, 29, none⟩ = some (.slice none 0 0) := by rw [← HR.out]; exact cell_of_row _ _ 29 _ _ _ MF.out
  have x29 : X.cell? ⟨mb, 29, none⟩ = some (.slice none 0 0) := by rw [← HR.out]; exact cell_of_row _ _ 29 _ _ _ XM.out
  refine tkp 0 rfl ?_
  refine tkp 1 rfl ?_
  refine tkp 2 rfl ?_
  refine tkp 3 rfl ?_
  refine tkp 5 rfl ?_
  refine wpAnyH_ready (rs := [4, 6]) (by kernel_rfl) (by simp) (AllReadyH.cons rfl (fun K hK => ?_) (AllReadyH.cons rfl (fun K hK => ?_) AllReadyH.nil))
  ·go_simp
   refine hK.out _ _ hS0 (fun hHeld => ?_)
   clear hK K
   try simp only [puts]
   refine rdy 6 rfl (fun K hK => ?_)
   go_simp
   rw [← HX.out]
   refine hK.out _ _ (HC.out _ XB.out) (fun hHeld => ?_)
   clear hK K
   try simp only [puts]
   refine listedH (L := #[true, true, true, true, true, true, true, false, false, false, false]) (by kernel_rfl) ?_
   exact KEY
  ·go_simp
   rw [← HX.out]
   refine hK.out _ _ (HC.out _ XB.out) (fun hHeld => ?_)
   clear hK K
   try simp only [puts]
   refine rdy 4 rfl (fun K hK => ?_)
   go_simp
   refine hK.out _ _ (HC.out _ XB.out) (fun hHeld => ?_)
   clear hK K
   try simp only [puts]
   refine listedH (L := #[true, true, true, true, true, true, true, false, false, false, false]) (by kernel_rfl) ?_
   exact KEY
 case pK =>
  refine rdy 7 rfl (fun K hK => ?_)
  refine step_app _ (by rfl) (.tmp 22) (.tmp 24) _ (by rfl) X.heap.size 34 i0 _ 3 48 Tryz.underlying44 hi0 hz0 hz1 hz2 rfl (by omega) _ 0 [] (by rfl) (World.ownsRow_nil _ _ _ _) _ 1 1 [.string ⟨#[65]⟩, .string ⟨#[109]⟩, .string ⟨#[40, 41, 73]⟩] (by rfl) (by rfl) (rd_blk XN.out (k := 3) rfl) (by intro u hu; simp at hu; rcases hu with rfl | rfl | rfl <;> rfl) (by decide) (by decide) (Nat.le_refl _) ?_
  intro v5 w5 hown5 hg5 hb5 hat5
  obtain ⟨A5, c5, rfl, hnc5, -, hrd5⟩ := own_rd hown5
  have hA5 : ∀ a, A5 = some a → X.heap.size ≤ a.block := fun a ha => (hown5.lt a.block (by rw [ha]; rfl)).1
  have m5 := XM.out.below hb5
  have b5 := (hb5.block _ (blk_lt XB.out)).trans XB.out
  have g5 := (hb5.block _ (blk_lt XG.out)).trans XG.out
  have k5 : Kp [mb] w w5 := XK.out.trans (Kp.below hb5)
  have y0 : w5.cell? ⟨mb, 29, none⟩ = some (.slice none 0 0) := by rw [← HR.out]; exact cell_of_row _ _ 29 _ _ _ m5
  have f0 := frozen_of_row _ _ 29 _ _ m5
  obtain ⟨Y, hY⟩ : ∃ Y, Y = w5.setCell ⟨mb, 29, none⟩ (.slice A5 1 c5) := ⟨_, rfl⟩
  have mY : Mk mb { m with em := .map (some g), er := .slice A5 1 c5 } Y := by unfold Mk; rw [hY, heap_setCell_same _ _ _ _ _ _ m5]; rfl
  have kY : Kp [mb] w5 Y := by rw [hY]; exact (Kp.refl _ _).set (by simp) _
  have hmg : g ≠ mb := by have h1 := GG.out; have h2 := HLT.out; omega
  have bY := kY.at_ b5 (by simp; have := HLT.out; omega)
  have gY := kY.at_ g5 (by simp; exact hmg)
  have rY := kY.rd hrd5 (fun a ha => by have h1 := hA5 a ha; have h2 := HLT.out; have h3 := XS.out; have h4 := SF.out; simp; omega)
  have EN := zh (show (∃ g A c, Mk mb { m with em := .map (some g), er := .slice A 1 c } Y ∧ Y.heap[g]? = some oe1 ∧ w.heap.size ≤ g ∧ Rd Y A [.string ⟨#[65]⟩, .string ⟨#[109]⟩, .string ⟨#[40, 41, 73]⟩] ∧ (∀ a, A = some a → w.heap.size ≤ a.block) ∧ 1 ≤ c) ∧ Kp [mb] w Y from
   ⟨⟨g, A5, c5, mY, gY, by have := GG.out; omega, rY, fun a ha => by have h1 := hA5 a ha; have h3 := XS.out; have h4 := SF.out; omega, by omega⟩, k5.trans kY⟩)
  have SS := HC.out _ b5
  try dsimp only at SS
  have SY := zh (HC.out _ bY)
  have HY := zh hY
  clear hown5 hg5 hb5 hat5 hrd5 hA5 m5 b5 g5 k5 hY mY kY hmg bY gY rY hnc5
  refine hK.out _ _ SS (fun hHeld => ?_)
  clear hK K
  try simp only [puts]
  refine tkp 8 rfl ?_
  refine tkp 9 rfl ?_
  refine rdy 10 rfl (fun K hK => ?_)
  go_simp
  rw [← HY.out]
  refine hK.out _ _ SY.out (fun hHeld => ?_)
  clear hK K SS y0 f0
  try simp only [puts]
  refine wpAnyH_done (by kernel_rfl) ?_ _
  go_wp2
  go_ret
  exact ⟨rfl, EN.out⟩
end Go.Proofs.YtjejmlpjifhmmaaGreatDoor.stp
namespace Go.Proofs.YtjejmlpjifhmmaaGreatDoor.stp
open Go.RowKit Go.MapKept Go.ChangeMaps Go.Shelf
open words kindp opp op kind prg sto
set_option maxRecDepth 100000
set_option maxHeartbeats 8000000
set_option linter.all false
theorem has_zb (mb : Nat) (m : MS) (w : World) (h : Mk mb m w) (he : m.bm = .map none) : Calls Tryz.prog 117 #[.pointer (some ⟨mb, 34, none⟩), .string ⟨#[65]⟩] w fun e w' => e = .returned (.bool false) ∧ w' = w := by
 have h34 : w.cell? ⟨mb, 34, none⟩ = some (.map none) := by rw [← he]; exact cell_of_row _ _ 34 _ _ _ h
 have hlk0 := lk2_zb w
 unfold kb at hlk0
 clear h he
 go_enter Tryz.func117, Tryz.ntmps117
 go_wp2
 go_ret
 exact ⟨rfl, rfl⟩
theorem has_nb (mb g : Nat) (m : MS) (w : World) (h : Mk mb m w) (he : m.bm = .map (some g)) (hg : w.heap[g]? = some ob0) : Calls Tryz.prog 117 #[.pointer (some ⟨mb, 34, none⟩), .string ⟨#[65]⟩] w fun e w' => e = .returned (.bool false) ∧ w' = w := by
 have h34 : w.cell? ⟨mb, 34, none⟩ = some (.map (some g)) := by rw [← he]; exact cell_of_row _ _ 34 _ _ _ h
 have hlk0 := lk2_nb hg
 unfold kb at hlk0
 clear h he hg
 go_enter Tryz.func117, Tryz.ntmps117
 go_wp2
 go_ret
 exact ⟨rfl, rfl⟩
theorem number_b (mb : Nat) (m : MS) (w : World) (h : Mk mb m w) (he : m.bm = .map none) : Calls Tryz.prog 164 #[.pointer (some ⟨mb, 34, none⟩), .string ⟨#[65]⟩] w fun e w' => e = .returned (.int .i64 0) ∧ ∃ g, w.heap.size ≤ g ∧ w'.heap[g]? = some ob1 ∧ Mk mb { m with bm := .map (some g) } w' ∧ Kp [mb] w w' := by
 have hnl : ∀ w : World, (binOp .eql 96 (.map none) (.map none)).run Tryz.prog w = .ok (.bool true) w := fun _ => by kernel_rfl
 have hmm : ∀ (t : TypeId) (w : World), (Instr.makeMap t none).run Tryz.prog w = .ok (.map (some w.heap.size)) (w.alloc (.map #[] 0)) := fun t w => run_makeMap t w
 have hmb := blk_lt h
 have h34 : w.cell? ⟨mb, 34, none⟩ = some (.map none) := by rw [← he]; exact cell_of_row _ _ 34 _ _ _ h
 obtain ⟨X, hX⟩ : ∃ X, X = w.alloc (.map #[] 0) := ⟨_, rfl⟩
 have hax : Below w.heap.size w X := by rw [hX]; exact (Below.refl _ _).alloc (Nat.le_refl _) _
 have hMX := h.below hax
 have x34 : X.cell? ⟨mb, 34, none⟩ = some (.map none) := by rw [← he]; exact cell_of_row _ _ 34 _ _ _ hMX
 have xf : X.frozen? ⟨mb, 34, none⟩ = false := frozen_of_row _ _ 34 _ _ hMX
 obtain ⟨Y, hY⟩ : ∃ Y, Y = X.setCell ⟨mb, 34, none⟩ (.map (some w.heap.size)) := ⟨_, rfl⟩
 have hMY : Mk mb { m with bm := .map (some w.heap.size) } Y := by unfold Mk; rw [hY, heap_setCell_same _ _ _ _ _ _ hMX]; rfl
 have kY : Kp [mb] w Y := by rw [hY]; exact (Kp.below hax).set (by simp) _
 have gY : Y.heap[w.heap.size]? = some ob0 := by
  rw [hY, heap_setCell_other _ _ _ _ (by show w.heap.size ≠ mb; omega), hX]; exact heap_alloc_new _ _
 rw [hX] at x34 xf
 have HH := zh (has_nb mb w.heap.size _ Y hMY rfl gY)
 have HMY := zh hMY; have KY := zh kY; have GY := zh gY; have HX := zh hX; have HY := zh hY
 have HSZ := zh (show mb < w.heap.size from hmb)
 clear hmb hax hMX hMY kY gY hX hY h
 go_enter Tryz.func164, Tryz.ntmps164
 go_wp2_with fail
 rw [← HX.out, ← HY.out]
 refine HH.out.mono ?_
 rintro e v ⟨rfl, hv⟩
 subst hv
 clear h34 x34 xf HH hnl hmm
 have SV := zh (show v.cell? ⟨mb, 34, none⟩ = some (.map (some w.heap.size)) from cell_of_row _ _ 34 _ _ _ HMY.out)
 go_wp2_with fail
 refine wp_region_held_drew (S := fun w' : World => w'.cell? ⟨mb, 34, none⟩ = some (.map (some w.heap.size))) (by kernel_rfl) ?_ (fun hHeld => ?_)
 ·exact SV.out
 obtain ⟨D, hD⟩ : ∃ u, u = v.drew := ⟨_, rfl⟩
 have SD := zh (show D.cell? ⟨mb, 34, none⟩ = some (.map (some w.heap.size)) from by rw [hD]; exact SV.out)
 have hS := SD.out
 have gD : D.heap[w.heap.size]? = some ob0 := by rw [hD]; exact GY.out
 have mD : Mk mb { m with bm := .map (some w.heap.size) } D := by rw [hD]; exact HMY.out
 have kD : Kp [mb] w D := by rw [hD]; exact KY.out.drew
 rw [← hD]
 clear hD
 refine tkp 0 rfl ?_
 refine tkp 1 rfl ?_
 refine tkp 2 rfl ?_
 refine tkp 3 rfl ?_
 refine tkp 4 rfl ?_
 refine tkp 5 rfl ?_
 refine tkp 6 rfl ?_
 refine tkp 7 rfl ?_
 refine tkp 8 rfl ?_
 have hput := pt_nb gD
 unfold kb at hput
 unfold ob0 at gD
 have hlen : ∀ ty, (Builtin.len_ #[96] ty #[.map (some w.heap.size)]).run Tryz.prog D = .ok (.int .i64 0) D := fun ty => run_len_map D _ ty _ _ _ Tryz.underlying96 gD
 obtain ⟨Z, hZ⟩ : ∃ Z, Z = setBlock D w.heap.size ob1 := ⟨_, rfl⟩
 have kZ : Kp [mb] w Z := kD.since (R := [w.heap.size]) (by rw [hZ]; exact (Kp.refl _ _).setB (by simp) _) (by intro j hj h; simp at hj; omega)
 have zZ : Z.heap[w.heap.size]? = some ob1 := by rw [hZ]; exact setB_at (blk_lt gD)
 have mZ : Mk mb { m with bm := .map (some w.heap.size) } Z := by unfold Mk; rw [hZ, setB_off (by have := HSZ.out; omega)]; exact mD
 rw [← hZ] at hput
 clear hZ mD kD
 have z34 : Z.cell? ⟨mb, 34, none⟩ = some (.map (some w.heap.size)) := cell_of_row _ _ 34 _ _ _ mZ
 have ZZ := zh zZ; have MZ := zh mZ; have KZ := zh kZ
 have hlk0 := lk1_ob zZ
 unfold kb at hlk0
 clear zZ mZ kZ
 refine rdy 9 rfl (fun K hK => ?_)
 go_simp
 refine hK.out _ _ SD.out (fun hHeld => ?_)
 clear hK K
 try simp only [puts]
 clear hlen
 refine rdy 10 rfl (fun K hK => ?_)
 go_simp
 refine hK.out _ _ z34 (fun hHeld => ?_)
 clear hK K
 try simp only [puts]
 refine wpAnyH_done (by kernel_rfl) ?_ _
 clear hS hput gD
 go_wp2
 go_ret
 exact ⟨rfl, w.heap.size, Nat.le_refl _, ZZ.out, MZ.out, KZ.out⟩
theorem add_b (mb : Nat) (m : MS) (w : World) (h : Mk mb m w) (he : m.bm = .map none) (hr : m.br = .slice none 0 0) : Calls Tryz.prog 119 #[.pointer (some ⟨mb, 34, none⟩), .string ⟨#[65]⟩] w fun e w' => e = .returned (.int .i64 0) ∧ (∃ g A c, Mk mb { m with bm := .map (some g), br := .slice A 1 c } w' ∧ w'.heap[g]? = some ob1 ∧ w.heap.size ≤ g ∧ Rd w' A [.string ⟨#[65]⟩] ∧ (∀ a, A = some a → w.heap.size ≤ a.block) ∧ 1 ≤ c) ∧ Kp [mb] w w' := by
 obtain ⟨i0, hi0, hz0, hz1, hz2⟩ := info_parts prg.infoSt
 have HLT := zh (blk_lt h); have HE := zh he; have HR := zh hr
 have HN := zh (number_b mb m w h he)
 clear he hr h
 go_enter Tryz.func119, Tryz.ntmps119
 go_wp2_with fail
 refine HN.out.mono ?_
 rintro e v ⟨rfl, g, hg, hgo, hm, hk⟩
 have m35 : v.cell? ⟨mb, 35, none⟩ = some (.slice none 0 0) := by rw [← HR.out]; exact cell_of_row _ _ 35 _ _ _ hm
 obtain ⟨X, hX⟩ : ∃ X, X = v.alloc (.cells #[.string ⟨#[65]⟩] 9) := ⟨_, rfl⟩
 have XL : Below v.heap.size v X := by rw [hX]; exact (Below.refl _ _).alloc (Nat.le_refl _) _
 have xn : X.heap[v.heap.size]? = some (.cells #[.string ⟨#[65]⟩] 9 (0, 0)) := by rw [hX]; exact heap_alloc_new _ _
 have XM := zh (hm.below XL)
 have XG := zh ((XL.block _ (blk_lt hgo)).trans hgo)
 have XK := zh (hk.trans (Kp.below XL))
 have XS := zh (show X.heap.size = v.heap.size + 1 from by rw [hX]; simp)
 have VS := zh hk.size
 have GG := zh hg
 have XR := zh (show Rd (v.alloc (.cells #[.string ⟨#[65]⟩] 9)) (some ⟨v.heap.size, 0, none⟩) [.string ⟨#[65]⟩] from by rw [← hX]; exact rd_blk xn (k := 1) rfl)
 have HX := zh hX
 clear hX XL xn hm hgo hk hg HN
 go_wp2_with (at_builtin; refine wpList_app _ rfl (.tmp 22) (.tmp 24) _ rfl (v.heap.size + 1) 9 i0 _ 1 16 Tryz.underlying32 hi0 hz0 hz1 hz2 rfl (by omega) _ 0 [] rfl (World.ownsRow_nil _ _ _ _) (some ⟨v.heap.size, 0, none⟩) 1 1 [.string ⟨#[65]⟩] rfl rfl XR.out (by intro u hu; simp at hu; rcases hu with rfl; rfl) (by decide) (by decide) (by simp) ?_; intro v5 w5 hown5 hg5 hb5 hat5; obtain ⟨A5, c5, rfl, hnc5, -, hrd5⟩ := own_rd hown5; rw [← HX.out] at hb5; replace hb5 : Below X.heap.size X w5 := (by rw [XS.out]; exact hb5); have hA5 := zh (show ∀ a, A5 = some a → v.heap.size + 1 ≤ a.block from (fun a ha => (hown5.lt a.block (by rw [ha]; rfl)).1)); have M5 := zh (XM.out.below hb5); have G5 := zh ((hb5.block _ (blk_lt XG.out)).trans XG.out); have K5 := zh (XK.out.trans (Kp.below hb5)); have R5 := zh hrd5; have N5 := zh hnc5; clear hb5 hown5 hg5 hat5 hrd5 hnc5 m35; have y0 : w5.cell? ⟨mb, 35, none⟩ = some (.slice none 0 0) := (by rw [← HR.out]; exact cell_of_row _ _ 35 _ _ _ M5.out); have f0 := frozen_of_row _ _ 35 _ _ M5.out)
 clear y0 f0
 obtain ⟨Y, hY⟩ : ∃ Y, Y = w5.setCell ⟨mb, 35, none⟩ (.slice A5 1 c5) := ⟨_, rfl⟩
 have mY : Mk mb { m with bm := .map (some g), br := .slice A5 1 c5 } Y := by unfold Mk; rw [hY, heap_setCell_same _ _ _ _ _ _ M5.out]; rfl
 have kY : Kp [mb] w5 Y := by rw [hY]; exact (Kp.refl _ _).set (by simp) _
 have gY := kY.at_ G5.out (by simp; have h1 := GG.out; have h2 := HLT.out; omega)
 have rY := kY.rd R5.out (fun a ha => by have h1 := hA5.out a ha; have h2 := HLT.out; have h3 := VS.out; simp; omega)
 rw [← hY]
 go_ret
 exact ⟨rfl, ⟨g, A5, c5, mY, gY, GG.out, rY, fun a ha => by have h1 := hA5.out a ha; have h3 := VS.out; omega, N5.out⟩, K5.out.trans kY⟩
end Go.Proofs.YtjejmlpjifhmmaaGreatDoor.stp
namespace Go.Proofs.YtjejmlpjifhmmaaGreatDoor.stp
open Go.RowKit Go.MapKept Go.ChangeMaps Go.Shelf
open words kindp opp op kind prg sto
set_option maxRecDepth 100000
set_option maxHeartbeats 8000000
set_option linter.all false
theorem room_w (mb : Nat) (m : MS) (A : Option Addr) (n c : Nat) (k : Nat) (w : World) (h : Mk mb m w) (hf : m.fr = .slice A n c) (hn : n + k ≤ 32) : Calls Tryz.prog 111 #[.pointer (some ⟨mb, 0, none⟩), .int .i64 (k : Int)] w fun e w' => e = .returned (.tuple #[]) ∧ w' = w := by
 have h15 : w.cell? ⟨mb, 15, none⟩ = some (.slice A n c) := by rw [← hf]; exact cell_of_row _ _ 15 _ _ _ h
 have hI : ¬ (32 : Int) < (n : Int) + (k : Int) := by omega
 have hn1 : (n : Int) ≤ 32 := by omega
 have hk1 : (k : Int) ≤ 32 := by omega
 clear h hf hn
 go_enter Tryz.func111, Tryz.ntmps111
 go_wp2
 refine bodyPost_end (results_none rfl _ _ _) rfl ?_
 exact ⟨rfl, rfl⟩
theorem asked_w (k : Int) (c : Tx) (w : World) : Calls Tryz.prog 113 #[.agg #[.int .i64 k, .string ⟨c.toArray⟩]] w fun e w' => e = .returned (.int .i64 (zeroK k)) ∧ Below w.heap.size w w' := by
 obtain ⟨W, hW⟩ : ∃ W, W = w.alloc (.cells #[.int .i64 k, .string ⟨c.toArray⟩] 165) := ⟨_, rfl⟩
 have HAL := zh (show Below w.heap.size w W from by rw [hW]; exact (Below.refl _ _).alloc (Nat.le_refl _) _)
 have HZ := zh (zero_w k c W)
 have hfld : ∀ w : World, (Instr.field 132 (.agg #[.int .i64 (zeroK k), .int .i64 0]) 0).run Tryz.prog w = .ok (.int .i64 (zeroK k)) w := fun _ => by kernel_rfl
 have HW := zh hW
 clear hW
 go_enter Tryz.func113, Tryz.ntmps113
 go_wp2_with fail
 rw [← HW.out]
 refine HZ.out.mono ?_
 rintro e v ⟨rfl, hb⟩
 have HB := zh (then' HAL.out hb)
 clear hb HZ
 go_wp2
 go_ret
 exact ⟨rfl, HB.out⟩
theorem register_w (fb : Nat) (f : FS) (w : World) (h : Fk fb f w) (hs : f.sz = 1) : Calls Tryz.prog 128 #[.pointer (some ⟨fb, 0, none⟩), .int .i64 0] w fun e w' => e = .returned (.int .i64 0) ∧ w' = w := by
 have h5 : w.cell? ⟨fb, 5, none⟩ = some (.int .i64 1) := by rw [← hs]; exact cell_of_row _ _ 5 _ _ _ h
 have HM := zh (must_t w)
 clear h hs
 go_enter Tryz.func128, Tryz.ntmps128
 go_wp2_with fail
 refine HM.out.mono ?_
 rintro e v ⟨rfl, hv⟩
 subst hv
 go_wp2
 go_ret
 exact ⟨rfl, rfl⟩
theorem last_w (mb rb fb : Nat) (m : MS) (c : Nat) (w : World) (h : Mk mb m w) (hf : m.fr = .slice (some ⟨rb, 0, none⟩) 1 c) (hr : w.cell? ⟨rb, 0, none⟩ = some (.pointer (some ⟨fb, 0, none⟩))) : Calls Tryz.prog 35 #[.pointer (some ⟨mb, 0, none⟩)] w fun e w' => e = .returned (.pointer (some ⟨fb, 0, none⟩)) ∧ ∃ n, w' = w.drewN n := by
 have h15 : w.cell? ⟨mb, 15, none⟩ = some (.slice (some ⟨rb, 0, none⟩) 1 c) := by rw [← hf]; exact cell_of_row _ _ 15 _ _ _ h
 clear h hf
 go_enter Tryz.func35, Tryz.ntmps35
 go_wp2_with fail
 go_quiet (fail)
 go_wp2
 go_ret
 exact ⟨rfl, _, rfl⟩
end Go.Proofs.YtjejmlpjifhmmaaGreatDoor.stp
namespace Go.Proofs.YtjejmlpjifhmmaaGreatDoor.stp
open Go.RowKit Go.MapKept Go.ChangeMaps Go.Shelf
open words kindp opp op kind prg sto
set_option maxRecDepth 100000
set_option maxHeartbeats 8000000
set_option linter.all false
theorem set_w (fb : Nat) (f : FS) (k n : Int) (w : World) (h : Fk fb f w) (hs : f.sz = 1) (hv : w.heap[f.vm]? = some ov0 ∨ ∃ k0 n0, w.heap[f.vm]? = some (ov1 k0 n0)) (hne : f.vm ≠ fb) : Calls Tryz.prog 114 #[.pointer (some ⟨fb, 0, none⟩), .int .i64 0, .agg #[.int .i64 k, .int .i64 n]] w fun e w' => e = .returned (.tuple #[]) ∧ w'.heap[f.vm]? = some (ov1 k n) ∧ Kp [f.vm] w w' := by
 obtain ⟨W, hW⟩ : ∃ W, W = w.alloc (.cells #[.int .i64 k, .int .i64 n] 132) := ⟨_, rfl⟩
 have hal : Below w.heap.size w W := by rw [hW]; exact (Below.refl _ _).alloc (Nat.le_refl _) _
 have hF : Fk fb f W := (hal.block _ (blk_lt h)).trans h
 have hbx : W.heap[w.heap.size]? = some (.cells #[.int .i64 k, .int .i64 n] 132 (0, 0)) := by rw [hW]; exact heap_alloc_new _ _
 have hvl : f.vm < w.heap.size := by
  rcases hv with hv | ⟨_, _, hv⟩
  ·exact blk_lt hv
  ·exact blk_lt hv
 have hput : ∀ v : World, (v.heap[f.vm]? = W.heap[f.vm]?) → (Instr.mapUpdate 114 (.map (some f.vm)) kv (.agg #[.int .i64 k, .int .i64 n])).run Tryz.prog v = .ok () (setBlock v f.vm (ov1 k n)) := fun v e => by
  rcases hv with hv | ⟨_, _, hv⟩
  ·exact pt_nv (by rw [e]; exact (hal.block _ hvl).trans hv)
  ·exact pt_ov (by rw [e]; exact (hal.block _ hvl).trans hv)
 unfold kv at hput
 have HF := zh hF; have HBX := zh hbx; have HAL := zh hal; have HW := zh hW; have HVL := zh hvl; have HP := zh hput; have HNE := zh hne; have HS := zh hs
 have HC := zh (show ∀ v : World, Fk fb f v → v.heap[w.heap.size]? = some (.cells #[.int .i64 k, .int .i64 n] 132 (0, 0)) → (fun w' : World => w'.cell? ⟨fb, 6, none⟩ = some (.map (some f.vm)) ∧ w'.cell? ⟨w.heap.size, 0, none⟩ = some (.int .i64 k) ∧ w'.cell? ⟨w.heap.size, 1, none⟩ = some (.int .i64 n)) v from fun v hf hv => ⟨cell_of_row _ _ 6 _ _ _ hf, cell_of_row _ _ 0 _ _ _ hv, cell_of_row _ _ 1 _ _ _ hv⟩)
 clear hF hbx hal hW hvl hput hne hv h hs
 go_enter Tryz.func114, Tryz.ntmps114
 go_wp2_with fail
 rw [← HW.out]
 (try go_wp2_with fail)
 refine wp_region_held_drew (S := fun w' : World => w'.cell? ⟨fb, 6, none⟩ = some (.map (some f.vm)) ∧ w'.cell? ⟨w.heap.size, 0, none⟩ = some (.int .i64 k) ∧ w'.cell? ⟨w.heap.size, 1, none⟩ = some (.int .i64 n)) (by kernel_rfl) ?_ (fun hHeld => ?_)
 ·exact HC.out _ HF.out HBX.out
 obtain ⟨D, hD⟩ : ∃ u, u = W.drew := ⟨_, rfl⟩
 have DF := zh (show Fk fb f D from by rw [hD]; exact HF.out)
 have DB := zh (show D.heap[w.heap.size]? = some (.cells #[.int .i64 k, .int .i64 n] 132 (0, 0)) from by rw [hD]; exact HBX.out)
 have DK := zh (show Kp [f.vm] w D from by rw [hD]; exact (Kp.below HAL.out).drew)
 have DP := zh (show (Instr.mapUpdate 114 (.map (some f.vm)) (.int .i64 0) (.agg #[.int .i64 k, .int .i64 n])).run Tryz.prog D = .ok () (setBlock D f.vm (ov1 k n)) from HP.out D (by rw [hD]; rfl))
 have DL := zh (show f.vm < D.heap.size from by have h1 := HVL.out; have h2 := DK.out.size; omega)
 have hS := HC.out _ DF.out DB.out
 try dsimp only at hS
 rw [← hD]
 clear hD
 have HR := zh (register_w fb f D DF.out HS.out)
 refine tkp 0 rfl ?_
 refine tkp 1 rfl ?_
 refine tkp 2 rfl ?_
 refine tkp 3 rfl ?_
 refine tkp 4 rfl ?_
 refine tkp 5 rfl ?_
 refine tkp 7 rfl ?_
 refine rdy 6 rfl (fun K hK => ?_)
 go_simp
 refine HR.out.mono ?_
 rintro e v ⟨rfl, hv⟩
 subst hv
 go_wp2_with fail
 refine hK.out _ _ hS (fun hHeld => ?_)
 clear hK K
 try simp only [puts]
 obtain ⟨Z, hZ⟩ : ∃ Z, Z = setBlock v f.vm (ov1 k n) := ⟨_, rfl⟩
 have dp := DP.out
 rw [← hZ] at dp
 have kZ : Kp [f.vm] v Z := by rw [hZ]; exact (Kp.refl _ _).setB (by simp) _
 have hne1 : fb ≠ f.vm := fun e => HNE.out e.symm
 have zF : Fk fb f Z := DF.out.kept kZ (by simp; exact hne1)
 have zB := kZ.at_ DB.out (by simp; have := HVL.out; omega)
 have EN := zh (show Z.heap[f.vm]? = some (ov1 k n) ∧ Kp [f.vm] w Z from ⟨by rw [hZ]; exact setB_at DL.out, DK.out.trans kZ⟩)
 have zS := HC.out _ zF zB
 try dsimp only at zS
 clear hZ kZ hne1 zF zB
 refine rdy 8 rfl (fun K hK => ?_)
 go_simp
 refine hK.out _ _ zS (fun hHeld => ?_)
 clear hK K
 try simp only [puts]
 refine wpAnyH_done (by kernel_rfl) ?_ _
 clear hS zS dp
 go_wp2
 refine bodyPost_end (results_none rfl _ _ _) rfl ?_
 exact ⟨rfl, EN.out⟩
theorem value_w (fb : Nat) (f : FS) (k n : Int) (w : World) (h : Fk fb f w) (hs : f.sz = 1) (hv : w.heap[f.vm]? = some (ov1 k n)) (hk : (k == 0) = false) : Calls Tryz.prog 134 #[.pointer (some ⟨fb, 0, none⟩), .int .i64 0] w fun e w' => e = .returned (.agg #[.int .i64 k, .int .i64 n]) ∧ Below w.heap.size w w' := by
 obtain ⟨W, hW⟩ : ∃ W, W = w.alloc (.cells #[.int .i64 0, .int .i64 0] 132) := ⟨_, rfl⟩
 have hal : Below w.heap.size w W := by rw [hW]; exact (Below.refl _ _).alloc (Nat.le_refl _) _
 have hbx : W.heap[w.heap.size]? = some (.cells #[.int .i64 0, .int .i64 0] 132 (0, 0)) := by rw [hW]; exact heap_alloc_new _ _
 have HF := zh (show Fk fb f W from (hal.block _ (blk_lt h)).trans h)
 have HV := zh ((hal.block _ (blk_lt hv)).trans hv)
 have HBX := zh hbx; have HAL := zh hal; have HW := zh hW; have HS := zh hs
 have HM := zh (fun v => must_t v)
 have SZ := zh (show W.heap.size = w.heap.size + 1 from by rw [hW]; simp)
 have hk2 : (k != 0) = true := by simp [bne, hk]
 clear hal hbx hW h hs hv
 go_enter Tryz.func134, Tryz.ntmps134
 go_wp2_with fail
 rw [← HW.out]
 (try go_wp2_with fail)
 refine wp_region_held_drew (S := fun w' : World => w'.cell? ⟨fb, 6, none⟩ = some (.map (some f.vm))) (by kernel_rfl) ?_ (fun hHeld => ?_)
 ·exact cell_of_row _ _ 6 _ _ _ HF.out
 obtain ⟨D, hD⟩ : ∃ u, u = W.drew := ⟨_, rfl⟩
 have DF := zh (show Fk fb f D from by rw [hD]; exact HF.out)
 have DV := zh (show D.heap[f.vm]? = some (ov1 k n) from by rw [hD]; exact HV.out)
 have DB := zh (show D.heap[w.heap.size]? = some (.cells #[.int .i64 0, .int .i64 0] 132 (0, 0)) from by rw [hD]; exact HBX.out)
 have DA := zh (show Below w.heap.size w D from by rw [hD]; exact overW HAL.out)
 have DZ := zh (show D.heap.size = w.heap.size + 1 from by rw [hD]; exact SZ.out)
 have hS : D.cell? ⟨fb, 6, none⟩ = some (.map (some f.vm)) := cell_of_row _ _ 6 _ _ _ DF.out
 rw [← hD]
 clear hD
 obtain ⟨X, hX⟩ : ∃ X, X = D.alloc (.cells #[.int .i64 0, .int .i64 0] 132) := ⟨_, rfl⟩
 have XL : Below D.heap.size D X := by rw [hX]; exact (Below.refl _ _).alloc (Nat.le_refl _) _
 have XF := zh (show Fk fb f X from (XL.block _ (blk_lt DF.out)).trans DF.out)
 have XV := zh ((XL.block _ (blk_lt DV.out)).trans DV.out)
 have XB := zh ((XL.block _ (blk_lt DB.out)).trans DB.out)
 have XN := zh (show X.heap[D.heap.size]? = some (.cells #[.int .i64 0, .int .i64 0] 132 (0, 0)) from by rw [hX]; exact heap_alloc_new _ _)
 have XA := zh (show Below w.heap.size w X from then' DA.out XL)
 have xS : X.cell? ⟨fb, 6, none⟩ = some (.map (some f.vm)) := cell_of_row _ _ 6 _ _ _ XF.out
 have HRD := zh (register_w fb f D DF.out HS.out)
 have HRX := zh (register_w fb f X XF.out HS.out)
 have HX := zh hX
 clear hX XL
 have XSH := zh xS; have DSH := zh hS
 clear hS xS
 refine' cutH (T := _) ?pK ?fK
 case' fK => intro KEY
 ·have hS9 := DSH.out
  refine tkp 0 rfl ?_
  refine tkp 1 rfl ?_
  refine tkp 2 rfl ?_
  refine tkp 3 rfl ?_
  refine tkp 4 rfl ?_
  refine tkp 5 rfl ?_
  clear hS9
  refine wpAnyH_ready (rs := [6, 8]) (by kernel_rfl) (by simp) (AllReadyH.cons rfl (fun K hK => ?_) (AllReadyH.cons rfl (fun K hK => ?_) AllReadyH.nil))
  ·go_simp
   refine HRD.out.mono ?_
   rintro e v ⟨rfl, hv⟩
   rw [hv]
   clear hv
   go_wp2_with fail
   refine hK.out _ _ DSH.out (fun hHeld => ?_)
   clear hK K
   try simp only [puts]
   refine wpAnyH_ready (rs := [7, 8]) (by kernel_rfl) (by simp) (AllReadyH.cons rfl (fun K hK => ?_) (AllReadyH.cons rfl (fun K hK => ?_) AllReadyH.nil))
   ·have hlk := lk1_ov DV.out
    unfold kv at hlk
    go_simp
    refine hK.out _ _ DSH.out (fun hHeld => ?_)
    clear hK K hlk
    try simp only [puts]
    refine rdy 8 rfl (fun K hK => ?_)
    go_simp
    rw [← HX.out]
    refine hK.out _ _ XSH.out (fun hHeld => ?_)
    clear hK K
    try simp only [puts]
    refine listedH (L := #[true, true, true, true, true, true, true, true, true, false]) (by kernel_rfl) ?_
    exact KEY
   ·go_simp
    rw [← HX.out]
    refine hK.out _ _ XSH.out (fun hHeld => ?_)
    clear hK K
    try simp only [puts]
    have hlk := lk1_ov XV.out
    unfold kv at hlk
    refine rdy 7 rfl (fun K hK => ?_)
    go_simp
    refine hK.out _ _ XSH.out (fun hHeld => ?_)
    clear hK K
    try simp only [puts]
    refine listedH (L := #[true, true, true, true, true, true, true, true, true, false]) (by kernel_rfl) ?_
    exact KEY
  ·go_simp
   rw [← HX.out]
   refine hK.out _ _ XSH.out (fun hHeld => ?_)
   clear hK K
   try simp only [puts]
   refine rdy 6 rfl (fun K hK => ?_)
   go_simp
   refine HRX.out.mono ?_
   rintro e v ⟨rfl, hv⟩
   rw [hv]
   clear hv
   go_wp2_with fail
   refine hK.out _ _ XSH.out (fun hHeld => ?_)
   clear hK K
   try simp only [puts]
   have hlk := lk1_ov XV.out
   unfold kv at hlk
   refine rdy 7 rfl (fun K hK => ?_)
   go_simp
   refine hK.out _ _ XSH.out (fun hHeld => ?_)
   clear hK K
   try simp only [puts]
   refine listedH (L := #[true, true, true, true, true, true, true, true, true, false]) (by kernel_rfl) ?_
   exact KEY
 case pK =>
  have hSX := XSH.out
  have z0 := heap_setCell_same _ _ 0 _ _ (.int .i64 k) XN.out
  have z1 := heap_setCell_same _ _ 1 _ _ (.int .i64 n) z0
  have y0 : X.cell? ⟨D.heap.size, 0, none⟩ = some (.int .i64 0) := cell_of_row _ _ 0 _ _ _ XN.out
  have y1 : X.cell? ⟨D.heap.size, 1, none⟩ = some (.int .i64 0) := cell_of_row _ _ 1 _ _ _ XN.out
  have g0 := frozen_of_row _ _ 0 _ _ XN.out
  have g1 := frozen_of_row _ _ 1 _ _ XN.out
  obtain ⟨Y, hY⟩ : ∃ Y, Y = (X.setCell ⟨D.heap.size, 0, none⟩ (.int .i64 k)).setCell ⟨D.heap.size, 1, none⟩ (.int .i64 n) := ⟨_, rfl⟩
  have kY : Kp [D.heap.size] X Y := by rw [hY]; exact ((Kp.refl _ _).set (by simp) _).set (by simp) _
  have nY : Y.heap[D.heap.size]? = some (.cells #[.int .i64 k, .int .i64 n] 132 (0, 0)) := by rw [hY, z1]; rfl
  have bY := kY.at_ XB.out (by simp; have := DZ.out; omega)
  have fY : Fk fb f Y := XF.out.kept kY (by simp; have := blk_lt DF.out; omega)
  have aY : Below w.heap.size w Y := XA.out.trans (kY.toBelow XA.out.size (by intro j hj; simp at hj; have := DZ.out; omega))
  have sY : Y.cell? ⟨fb, 6, none⟩ = some (.map (some f.vm)) := cell_of_row _ _ 6 _ _ _ fY
  have u0 : Y.cell? ⟨D.heap.size, 0, none⟩ = some (.int .i64 k) := cell_of_row _ _ 0 _ _ _ nY
  have u1 : Y.cell? ⟨D.heap.size, 1, none⟩ = some (.int .i64 n) := cell_of_row _ _ 1 _ _ _ nY
  have NY := zh nY; have BY := zh bY; have AY := zh aY; have HY := zh hY
  clear z0 z1 hY kY nY bY fY aY
  refine rdy 9 rfl (fun K hK => ?_)
  go_simp
  rw [← HY.out]
  refine hK.out _ _ sY (fun hHeld => ?_)
  clear hK K
  try simp only [puts]
  refine wpAnyH_done (by kernel_rfl) ?_ _
  clear y0 y1 g0 g1 sY
  go_wp2_with fail
  refine (HM.out Y).mono ?_
  rintro e v ⟨rfl, hv⟩
  subst hv
  have yN := NY.out
  have yR := (show v.heap[w.heap.size]? = some (.cells #[.int .i64 0, .int .i64 0] 132 (0, 0)) from BY.out)
  have r0 := heap_setCell_same _ _ 0 _ _ (.int .i64 k) yR
  have r1 := heap_setCell_same _ _ 1 _ _ (.int .i64 n) r0
  have q0 : v.cell? ⟨w.heap.size, 0, none⟩ = some (.int .i64 0) := cell_of_row _ _ 0 _ _ _ yR
  have q1 : v.cell? ⟨w.heap.size, 1, none⟩ = some (.int .i64 0) := cell_of_row _ _ 1 _ _ _ yR
  have f0 := frozen_of_row _ _ 0 _ _ yR
  have f1 := frozen_of_row _ _ 1 _ _ yR
  obtain ⟨U, hU⟩ : ∃ U, U = (v.setCell ⟨w.heap.size, 0, none⟩ (.int .i64 k)).setCell ⟨w.heap.size, 1, none⟩ (.int .i64 n) := ⟨_, rfl⟩
  have nU : U.heap[w.heap.size]? = some (.cells #[.int .i64 k, .int .i64 n] 132 (0, 0)) := by rw [hU, r1]; rfl
  have EN := zh (show Below w.heap.size w U from by rw [hU]; exact (AY.out.setCell (by simp) _).setCell (by simp) _)
  have U0 := zh (show U.cell? ⟨w.heap.size, 0, none⟩ = some (.int .i64 k) from cell_of_row _ _ 0 _ _ _ nU)
  have U1 := zh (show U.cell? ⟨w.heap.size, 1, none⟩ = some (.int .i64 n) from cell_of_row _ _ 1 _ _ _ nU)
  have HU := zh hU
  clear yN yR r0 r1 hU nU hSX
  go_wp2
  rw [← HU.out]
  exact bodyPost_ret (v := .agg #[.int .i64 k, .int .i64 n]) (by simp [results, Tryz.results134, go_sem, U0.out, U1.out]) rfl ⟨rfl, EN.out⟩
theorem valued_w (fb : Nat) (f : FS) (k n : Int) (w : World) (h : Fk fb f w) (hs : f.sz = 1) (hv : w.heap[f.vm]? = some (ov1 k n)) (hk : (k == 0) = false) : Calls Tryz.prog 182 #[.pointer (some ⟨fb, 0, none⟩), .int .i64 0, .int .i64 k] w fun e w' => e = .returned (.agg #[.int .i64 k, .int .i64 n]) ∧ Below w.heap.size w w' := by
 obtain ⟨W, hW⟩ : ∃ W, W = w.alloc (.cells #[.int .i64 0, .int .i64 0] 132) := ⟨_, rfl⟩
 have hal : Below w.heap.size w W := by rw [hW]; exact (Below.refl _ _).alloc (Nat.le_refl _) _
 have HBX := zh (show W.heap[w.heap.size]? = some (.cells #[.int .i64 0, .int .i64 0] 132 (0, 0)) from by rw [hW]; exact heap_alloc_new _ _)
 have HV := zh (value_w fb f k n W ((hal.block _ (blk_lt h)).trans h) hs ((hal.block _ (blk_lt hv)).trans hv) hk)
 have HAL := zh hal; have HW := zh hW
 have HM := zh (fun v => must_t v)
 have hkk : (k == k) = true := by simp
 clear hal hW h hs hv hk
 go_enter Tryz.func182, Tryz.ntmps182
 go_wp2_with fail
 rw [← HW.out]
 refine HV.out.mono ?_
 rintro e v ⟨rfl, hb⟩
 obtain ⟨X, hX⟩ : ∃ X, X = v.alloc (.cells #[.int .i64 k, .int .i64 n] 132) := ⟨_, rfl⟩
 have XL : Below v.heap.size v X := by rw [hX]; exact (Below.refl _ _).alloc (Nat.le_refl _) _
 have XN := zh (show X.heap[v.heap.size]? = some (.cells #[.int .i64 k, .int .i64 n] 132 (0, 0)) from by rw [hX]; exact heap_alloc_new _ _)
 have XB := zh ((XL.block _ (blk_lt ((hb.block _ (blk_lt HBX.out)).trans HBX.out))).trans ((hb.block _ (blk_lt HBX.out)).trans HBX.out))
 have XA := zh (show Below w.heap.size w X from then' (then' HAL.out hb) XL)
 have HX := zh hX
 clear hX XL hb HV
 go_wp2_with fail
 rw [← HX.out]
 refine (HM.out X).mono ?_
 rintro e u ⟨rfl, hv⟩
 subst hv
 have r0 := heap_setCell_same _ _ 0 _ _ (.int .i64 k) XB.out
 have r1 := heap_setCell_same _ _ 1 _ _ (.int .i64 n) r0
 have q0 : u.cell? ⟨w.heap.size, 0, none⟩ = some (.int .i64 0) := cell_of_row _ _ 0 _ _ _ XB.out
 have q1 : u.cell? ⟨w.heap.size, 1, none⟩ = some (.int .i64 0) := cell_of_row _ _ 1 _ _ _ XB.out
 have f0 := frozen_of_row _ _ 0 _ _ XB.out
 have f1 := frozen_of_row _ _ 1 _ _ XB.out
 have p0 : u.cell? ⟨v.heap.size, 0, none⟩ = some (.int .i64 k) := cell_of_row _ _ 0 _ _ _ XN.out
 have p1 : u.cell? ⟨v.heap.size, 1, none⟩ = some (.int .i64 n) := cell_of_row _ _ 1 _ _ _ XN.out
 obtain ⟨U, hU⟩ : ∃ U, U = (u.setCell ⟨w.heap.size, 0, none⟩ (.int .i64 k)).setCell ⟨w.heap.size, 1, none⟩ (.int .i64 n) := ⟨_, rfl⟩
 have nU : U.heap[w.heap.size]? = some (.cells #[.int .i64 k, .int .i64 n] 132 (0, 0)) := by rw [hU, r1]; rfl
 have EN := zh (show Below w.heap.size w U from by rw [hU]; exact (XA.out.setCell (by simp) _).setCell (by simp) _)
 have U0 := zh (show U.cell? ⟨w.heap.size, 0, none⟩ = some (.int .i64 k) from cell_of_row _ _ 0 _ _ _ nU)
 have U1 := zh (show U.cell? ⟨w.heap.size, 1, none⟩ = some (.int .i64 n) from cell_of_row _ _ 1 _ _ _ nU)
 have HU := zh hU
 clear r0 r1 hU nU hkk
 go_wp2
 rw [← HU.out]
 exact bodyPost_ret (v := .agg #[.int .i64 k, .int .i64 n]) (by simp [results, Tryz.results182, go_sem, U0.out, U1.out]) rfl ⟨rfl, EN.out⟩
theorem fnumber_w (fb : Nat) (f : FS) (n : Int) (w : World) (h : Fk fb f w) (hs : f.sz = 1) (hv : w.heap[f.vm]? = some (ov1 1 n)) : Calls Tryz.prog 135 #[.pointer (some ⟨fb, 0, none⟩), .int .i64 0] w fun e w' => e = .returned (.int .i64 n) ∧ Below w.heap.size w w' := by
 have HV := zh (valued_w fb f 1 n w h hs hv rfl)
 have hfld : ∀ w : World, (Instr.field 132 (.agg #[.int .i64 1, .int .i64 n]) 1).run Tryz.prog w = .ok (.int .i64 n) w := fun _ => by kernel_rfl
 clear h hs hv
 go_enter Tryz.func135, Tryz.ntmps135
 go_wp2_with fail
 refine HV.out.mono ?_
 rintro e v ⟨rfl, hb⟩
 have HB := zh hb
 clear hb HV
 go_wp2
 go_ret
 exact ⟨rfl, HB.out⟩
end Go.Proofs.YtjejmlpjifhmmaaGreatDoor.stp
namespace Go.Proofs.YtjejmlpjifhmmaaGreatDoor.find
open Go.RowKit Go.Shelf
open words kindp opp op kind word prg
set_option maxRecDepth 100000
set_option maxHeartbeats 4000000
set_option linter.all false
attribute [local go_sem] Oper.semAt_some
theorem vals1_in (n : Nat) (hn : 1 ≤ n) (l Bs n₀ : Nat) (A : Option Addr) (c : Nat) (L : List Tx) (W : World) (hA : ∀ W', Below n₀ W W' → Rd W' A (SX L)) (hz : L.length ≤ 281474976710656) (J Jx : List Tx → World → Prop)
  (hY : ∀ pre x W1, J pre W1 → pre.length < L.length → YieldAt Fence.wide (n - 1) Tryz.prog l #[.string ⟨x.toArray⟩] W1 fun e W' =>
   (e = .returned (.bool true) ∧ J (pre ++ [x]) W' ∧ Below n₀ W1 W') ∨ (e = .returned (.bool false) ∧ Jx (pre ++ [x]) W'))
  (hBs : W.cell? ⟨Bs, 0, none⟩ = some (.slice A L.length c)) (h0 : J [] W) :
  CallsIn Fence.wide n Tryz.prog 199 #[.func (.yield l) #[] #[], .pointer (some ⟨Bs, 0, none⟩)] W fun e W' => (∃ v, e = .returned v) ∧
   ((∃ ys, ys = L ∧ J ys W') ∨ (∃ pre, pre <+: L ∧ Jx pre W')) := by
 obtain ⟨m, hm⟩ : ∃ m, m = L.length := ⟨_, rfl⟩
 rw [← hm] at hBs hz
 have hzI : (m : Int) ≤ 281474976710656 := by omega
 have HM := zh hm; have HA := zh hA; have HY := zh hY
 clear hm hA hY hz
 refine callsIn_of_wp Tryz.func199 rfl trivial ?_ rfl
 simp only [Tryz.ntmps199, List.size_toArray, List.length_cons, List.length_nil, Nat.reduceAdd, Nat.reduceSub, Array.replicate_succ, Array.replicate_zero, List.push_toArray, List.append_toArray, List.nil_append, List.cons_append]
 gi_wp2
 gi_loopw [7] (fun i wr => ∃ k : Nat, k ≤ m ∧ i = .int .i64 (k : Int) ∧ J (L.take k) wr ∧ Below n₀ W wr) (fun i _ => m - (intOf i).toNat)
 case atStart => exact ⟨0, Nat.zero_le _, rfl, by rw [List.take_zero]; exact h0, Below.refl _ _⟩
 case round =>
  obtain ⟨k, hk, rfl, hJs, hbw⟩ := hrel
  by_cases hlt : k < m
  ·have hltI : (k : Int) < (m : Int) := by omega
   obtain ⟨x, hx⟩ : ∃ x, L[k]? = some x := ⟨L[k]'(by rw [← HM.out]; exact hlt), List.getElem?_eq_getElem _⟩
   obtain ⟨a, rfl, -, hc⟩ := (HA.out wr hbw).at_ (sx_get hx)
   have HTK := zh (show L.take (k + 1) = L.take k ++ [x] from by rw [List.take_add_one, hx]; rfl)
   have HBW := zh hbw
   obtain ⟨fn, tmps, assign, body, hy, hR⟩ := HY.out _ x wr hJs (by rw [List.length_take, ← HM.out]; omega)
   clear hx hJs hbw
   gi_wp2
   refine hR.mono ?_
   rintro e W3 (⟨rfl, hJ3, hk3⟩ | ⟨rfl, hJx3⟩)
   ·gi_wp2
    go_roundw
    case rel => exact ⟨k + 1, by omega, by go_num, by rw [HTK.out]; exact hJ3, HBW.out.trans hk3⟩
    case measure => simp [intOf]; omega
   ·gi_wp2
    refine bodyPost_ret (results_none rfl _ _ _) rfl ?_
    exact ⟨⟨_, rfl⟩, .inr ⟨_, by rw [← HTK.out]; exact List.take_prefix _ _, hJx3⟩⟩
  ·have hltI : ¬ (k : Int) < (m : Int) := by omega
   have HJ := zh (show J L wr from by rw [List.take_of_length_le (by rw [← HM.out]; omega)] at hJs; exact hJs)
   clear hJs hbw
   gi_wp2
   go_end0
   first | exact ⟨⟨_, rfl⟩, .inl ⟨_, rfl, HJ.out⟩⟩ | exact ⟨⟨_, rfl⟩, .inl HJ.out⟩
theorem vals_stops (n : Nat) (hn : 1 ≤ n) (Bs n₀ : Nat) (A : Option Addr) (c : Nat) (L : List Tx) (w : World) (hz : L.length ≤ 281474976710656) (hn₀ : w.heap.size ≤ n₀) (hBl : Bs < n₀) (hr : Rd w A (SX L)) (ws : World) (hws : Below w.heap.size w ws) (hsz : n₀ ≤ ws.heap.size)
  (hBs : ws.cell? ⟨Bs, 0, none⟩ = some (.slice A L.length c)) :
  SeqStopsK Fence.wide n Tryz.prog 199 #[.pointer (some ⟨Bs, 0, none⟩)] (fun x : Tx => #[Value.string ⟨x.toArray⟩]) (Below n₀) (fun ys => ys = L) (fun pre => pre <+: L) L.length ws := fun l J Jx W hW _ _ hY h0 => by
 have hb : Below w.heap.size w W := hws.trans (hW.mono hws.size)
 exact vals1_in n hn l Bs n₀ A c L W (fun W' h => hr.below (hb.trans (h.mono hn₀))) hz J Jx hY ((hW.cell (p := ⟨Bs, 0, none⟩) (by show Bs < _; omega)).trans hBs) h0
theorem vals_w (A : Option Addr) (k c : Nat) (w : World) :
  Calls Tryz.prog 150 #[.slice A k c] w fun e w' => e = .returned (.func (.func 199) #[] #[.pointer (some ⟨w.heap.size, 0, none⟩)]) ∧ w' = w.alloc (.cells #[.slice A k c] 32) := by
 go_enter Tryz.func150, Tryz.ntmps150
 go_wp2
 go_ret
 exact ⟨rfl, rfl⟩
theorem method_w (s d : Tx) (w : World) :
  Calls Tryz.prog 108 #[.string ⟨s.toArray⟩, .string ⟨d.toArray⟩] w fun e w' => e = .returned (.func (.func 157) #[] #[.pointer (some ⟨w.heap.size, 0, none⟩), .pointer (some ⟨w.heap.size + 1, 0, none⟩)]) ∧ w' = (w.alloc (.cells #[.string ⟨s.toArray⟩] 9)).alloc (.cells #[.string ⟨d.toArray⟩] 9) := by
 go_enter Tryz.func108, Tryz.ntmps108
 go_wp2
 go_ret
 exact ⟨rfl, rfl⟩
theorem at_w (x : ClM) (g h : Nat) (s d : Tx) (w : World) (hr : Rd w x.A3 (x.ms.flatMap meC)) (hl : x.ms.length ≤ 281474976710656) (hg : w.cell? ⟨g, 0, none⟩ = some (.string ⟨s.toArray⟩)) (hh : w.cell? ⟨h, 0, none⟩ = some (.string ⟨d.toArray⟩)) :
  Calls Tryz.prog 157 #[.agg (clC x).toArray, .pointer (some ⟨g, 0, none⟩), .pointer (some ⟨h, 0, none⟩)] w fun e w' => ∃ r, e = .returned (.int .i64 r) ∧ Idx (fun y : MeM => ((y.nm == s) && (y.ds == d))) x.ms r ∧ Below w.heap.size w w' := by
 obtain ⟨W, hW⟩ : ∃ W, W = w.alloc (.cells (clC x).toArray 159) := ⟨_, rfl⟩
 have hal : Below w.heap.size w W := by rw [hW]; exact (Below.refl _ w).alloc (Nat.le_refl _) _
 have hblk : W.heap[w.heap.size]? = some (.cells (clC x).toArray 159 (0, 0)) := by rw [hW]; exact heap_alloc_new w _
 obtain ⟨x0, x1, x2, x3, x4, x5, x6⟩ := cl_cells hblk
 have kg := (hal.cell (World.block_lt_of_cell? _ _ hg)).trans hg
 have kh := (hal.cell (World.block_lt_of_cell? _ _ hh)).trans hh
 have HPM := zh (place_me x s d W (hr.below hal) hl)
 have HAL := zh hal
 unfold clC at hW HPM ⊢
 try dsimp only at hW HPM ⊢
 have ke := kg
 rw [hW] at ke
 have kf := kh
 rw [hW] at kf
 have HW := zh hW
 clear hal hblk hW hr hl hg hh
 go_enter Tryz.func157, Tryz.ntmps157
 go_wp2_with fail
 rw [← HW.out]
 (try go_wp2_with fail)
 refine HPM.out.mono ?_
 rintro e w1 ⟨r, rfl, hi, hb⟩
 have HI := zh hi; have HB := zh hb
 clear hi hb x0 x1 x2 x3 x4 x5 x6 kg kh ke kf
 go_wp2
 go_ret
 exact ⟨r, rfl, HI.out, HAL.out.trans (HB.out.mono HAL.out.size)⟩
def declM (c : ClM) (s d : Tx) : Option Nat := c.ms.findIdx? fun y => (y.nm == s) && (y.ds == d)
def oneM (cs : List ClM) (s d : Tx) (nm : Tx) : Option (ClM × Nat) := match findC cs nm with
 | none => none
 | some c => match declM c s d with
  | none => none
  | some k => some (c, k)
def firstM (cs : List ClM) (L : List Tx) (s d : Tx) : Option (ClM × Nat) := L.findSome? (oneM cs s d)
theorem firstM_snoc (cs : List ClM) (pre : List Tx) (x s d : Tx) (h : firstM cs pre s d = none) : firstM cs (pre ++ [x]) s d = oneM cs s d x := by
 unfold firstM at h ⊢
 rw [List.findSome?_append, h]
 simp
theorem firstM_pre {cs : List ClM} {pre L : List Tx} {s d : Tx} {r : ClM × Nat} (h : pre <+: L) (hf : firstM cs pre s d = some r) : firstM cs L s d = some r := by
 obtain ⟨q, rfl⟩ := h
 unfold firstM at hf ⊢
 rw [List.findSome?_append, hf]; rfl
end Go.Proofs.YtjejmlpjifhmmaaGreatDoor.find

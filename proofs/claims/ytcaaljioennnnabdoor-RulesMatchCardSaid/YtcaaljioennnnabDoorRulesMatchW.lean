/-
 RulesMatch: the law's walk.
-/
import Derived.Test.YtcaaljioennnnabDoorRulM
namespace Go.Proofs.YtcaaljioennnnabDoor.rulesMatch
open Go.RowKit
open Go.Proofs.YtcaaljioennnnabDoor.words Go.Proofs.YtcaaljioennnnabDoor.glob Go.Proofs.YtcaaljioennnnabDoor.rul
set_option linter.all false
set_option maxRecDepth 100000 in
set_option maxHeartbeats 8000000 in
theorem walk (nb me : Bool) (c n d s0 s1 s2 : ByteArray) (w : World) (hc : c.size ≤ 140737488351232) (hn : n.size ≤ 140737488351232) (hd : d.size ≤ 140737488351232) (h0 : s0.size ≤ 140737488351232) (h1 : s1.size ≤ 140737488351232) (h2 : s2.size ≤ 140737488351232) (hm : Mc w) :
  Calls Tryd.prog 3 #[.agg #[.bool nb, .bool me, .string c, .string n, .string d], .agg #[.string s0, .string s1, .string s2]] w fun e w' => e = .returned (.bool true) ∧ Below w.heap.size w w' := by
 obtain ⟨c1, lc, HC⟩ := cut_w c hc; obtain ⟨n1, ln, HN⟩ := cut_w n hn; obtain ⟨d1, ld, HD⟩ := cut_w d hd
 obtain ⟨t0, l0, H0⟩ := cut_w s0 h0; obtain ⟨t1, l1, H1⟩ := cut_w s1 h1; obtain ⟨t2, l2, H2⟩ := cut_w s2 h2
 have HSH := Lib.hid (fun w => short_w nb me c n d c1 n1 d1 w (Lib.hid HC) (Lib.hid HN) (Lib.hid HD))
 have HK0 := Lib.hid H0; have HK1 := Lib.hid H1; have HK2 := Lib.hid H2
 have HLV := Lib.hid (fun w h => live_w w h)
 obtain ⟨R, hR⟩ : ∃ R, R = (⟨nb, me, lb c1, lb n1, lb d1⟩ : Ru) := ⟨_, rfl⟩
 have hV : RuV R = .agg #[.bool nb, .bool me, .string c1, .string n1, .string d1] := by rw [hR]; unfold RuV; rw [mk_lb, mk_lb, mk_lb]
 have ok : RuOk R := by rw [hR]; exact ⟨by show (lb c1).length ≤ _; rw [lb_len]; omega, by show (lb n1).length ≤ _; rw [lb_len]; omega, by show (lb d1).length ≤ _; rw [lb_len]; omega⟩
 have HCW := Lib.hid (fun w => class_w R t0 w ok (by omega)); have HCR := Lib.hid (fun w => class_r R t0 w ok (by omega))
 have HMW := Lib.hid (fun w => member_w R t0 t1 t2 w ok (by omega) (by omega) (by omega)); have HMR := Lib.hid (fun w => member_r R t0 t1 t2 w ok (by omega) (by omega) (by omega))
 rw [hV] at HCW HCR HMW HMR
 obtain ⟨e1, he1⟩ : ∃ e1, e1 = (!R.me && (rightR R && mat R.cl (lb t0))) := ⟨_, rfl⟩
 rw [← he1] at HCW HCR
 obtain ⟨e2, he2⟩ : ∃ e2, e2 = (R.me && (rightR R && (!(lb t1 == initL) && (mat R.cl (lb t0) && (mat R.nm (lb t1) && mat R.ds (lb t2)))))) := ⟨_, rfl⟩
 rw [← he2] at HMW HMR
 have HEM := Lib.hid (fun w => exactm_w t0 t1 t2 nb w)
 clear hR hV ok he1 he2 HC HN HD H0 H1 H2 hc hn hd h0 h1 h2 lc ln ld l0 l1 l2
 obtain ⟨W, hW⟩ : ∃ W, W = (w.alloc (.cells #[.bool nb, .bool me, .string c, .string n, .string d] 23)).alloc (.cells #[.string s0, .string s1, .string s2] 24) := ⟨_, rfl⟩
 obtain ⟨p, hp⟩ : ∃ p, p = w.heap.size := ⟨_, rfl⟩
 obtain ⟨q, hq⟩ : ∃ q, q = w.heap.size + 1 := ⟨_, rfl⟩
 have hsz : (w.alloc (.cells #[.bool nb, .bool me, .string c, .string n, .string d] 23)).heap.size = q := by rw [World.size_alloc, hq]
 have HGQ := Lib.hid (show W.heap[q]? = some (.cells #[.string s0, .string s1, .string s2] 24 (0, 0)) from by rw [hW, ← hsz]; exact heap_alloc_new _ _)
 have HGP := Lib.hid (show W.heap[p]? = some (.cells #[.bool nb, .bool me, .string c, .string n, .string d] 23 (0, 0)) from by rw [hW, heap_alloc_old _ _ (by rw [hsz, hp, hq]; omega), hp]; exact heap_alloc_new w _)
 have B0 := Lib.hid (show Below w.heap.size w W from by rw [hW]; exact ((Below.refl _ w).alloc (Nat.le_refl _) _).alloc (by simp) _)
 have HM := Lib.hid (fun v (hv : Below w.heap.size w v) => hm.below hv hm.lt)
 have HPW := Lib.hid (show w.heap.size ≤ p from by omega); have HPQ := Lib.hid (show ¬ q = p from by omega)
 have HW := Lib.hid hW; have HBp := Lib.hid hp; have HBq := Lib.hid hq
 clear hW hp hq hsz hm
 have f0 : W.cell? ⟨p, 0, none⟩ = some (.bool nb) := cell_of_row W p 0 _ _ _ HGP.out
 have f1 : W.cell? ⟨p, 1, none⟩ = some (.bool me) := cell_of_row W p 1 _ _ _ HGP.out
 have f2 : W.cell? ⟨p, 2, none⟩ = some (.string c) := cell_of_row W p 2 _ _ _ HGP.out
 have f3 : W.cell? ⟨p, 3, none⟩ = some (.string n) := cell_of_row W p 3 _ _ _ HGP.out
 have f4 : W.cell? ⟨p, 4, none⟩ = some (.string d) := cell_of_row W p 4 _ _ _ HGP.out
 go_enter Tryd.func3, Tryd.ntmps3
 go_wp2_with fail
 rw [← HW.out, ← HBq.out, ← HBp.out]
 (try go_wp2_with fail)
 refine (HSH.out _).mono ?_
 rintro e v1 ⟨rfl, hb⟩
 clear f0 f1 f2 f3 f4
 have P1 := Lib.hid ((hb.block _ (blk_lt HGP.out)).trans HGP.out)
 have Q1 := Lib.hid ((hb.block _ (blk_lt HGQ.out)).trans HGQ.out)
 have B1 := Lib.hid (then' B0.out hb)
 clear hb HGP HGQ B0
 have f0 : v1.cell? ⟨p, 0, none⟩ = some (.bool nb) := cell_of_row v1 p 0 _ _ _ P1.out; have z0 := frozen_of_row v1 p 0 _ _ P1.out
 have f1 : v1.cell? ⟨p, 1, none⟩ = some (.bool me) := cell_of_row v1 p 1 _ _ _ P1.out; have z1 := frozen_of_row v1 p 1 _ _ P1.out
 have f2 : v1.cell? ⟨p, 2, none⟩ = some (.string c) := cell_of_row v1 p 2 _ _ _ P1.out; have z2 := frozen_of_row v1 p 2 _ _ P1.out
 have f3 : v1.cell? ⟨p, 3, none⟩ = some (.string n) := cell_of_row v1 p 3 _ _ _ P1.out; have z3 := frozen_of_row v1 p 3 _ _ P1.out
 have f4 : v1.cell? ⟨p, 4, none⟩ = some (.string d) := cell_of_row v1 p 4 _ _ _ P1.out; have z4 := frozen_of_row v1 p 4 _ _ P1.out
 obtain ⟨V, hV⟩ : ∃ V : World, V = (((((v1.setCell ⟨p, 0, none⟩ (.bool nb)).setCell ⟨p, 1, none⟩ (.bool me)).setCell ⟨p, 2, none⟩ (.string c1)).setCell ⟨p, 3, none⟩ (.string n1)).setCell ⟨p, 4, none⟩ (.string d1)) := ⟨_, rfl⟩
 have PV := Lib.hid (show V.heap[p]? = some (.cells #[.bool nb, .bool me, .string c1, .string n1, .string d1] 23 (0, 0)) from by rw [hV]; exact heap_setCell_same _ p 4 _ _ _ (heap_setCell_same _ p 3 _ _ _ (heap_setCell_same _ p 2 _ _ _ (heap_setCell_same _ p 1 _ _ _ (heap_setCell_same _ p 0 _ _ _ (P1.out))))))
 have QV := Lib.hid (show V.heap[q]? = some (.cells #[.string s0, .string s1, .string s2] 24 (0, 0)) from by rw [hV, heap_setCell_other _ _ _ _ HPQ.out, heap_setCell_other _ _ _ _ HPQ.out, heap_setCell_other _ _ _ _ HPQ.out, heap_setCell_other _ _ _ _ HPQ.out, heap_setCell_other _ _ _ _ HPQ.out]; exact Q1.out)
 have BV := Lib.hid (show Below w.heap.size w V from by rw [hV]; exact below_setCell' (below_setCell' (below_setCell' (below_setCell' (below_setCell' (B1.out) HPW.out) HPW.out) HPW.out) HPW.out) HPW.out)
 have HV := Lib.hid hV
 clear hV
 have G0 : V.cell? ⟨q, 0, none⟩ = some (.string s0) := cell_of_row V q 0 _ _ _ QV.out; have G1 : V.cell? ⟨q, 1, none⟩ = some (.string s1) := cell_of_row V q 1 _ _ _ QV.out; have G2 : V.cell? ⟨q, 2, none⟩ = some (.string s2) := cell_of_row V q 2 _ _ _ QV.out
 go_wp2_with fail
 rw [← HV.out]
 clear f0 f1 f2 f3 f4 z0 z1 z2 z3 z4 P1 Q1 B1
 (try go_wp2_with fail)
 go_quiet ((first | exact Calls.quiet_of_same (HK0.out _) | exact Calls.quiet_of_same (HK1.out _) | exact Calls.quiet_of_same (HK2.out _)))
 go_wp2_with fail
 clear G0 G1 G2
 have HQ := Lib.hid (show ∀ v : World, v.heap[p]? = some (.cells #[.bool nb, .bool me, .string c1, .string n1, .string d1] 23 (0, 0)) → (fun w' : World => w'.cell? ⟨p, 0, none⟩ = some (.bool nb) ∧ w'.cell? ⟨p, 1, none⟩ = some (.bool me) ∧ w'.cell? ⟨p, 2, none⟩ = some (.string c1) ∧ w'.cell? ⟨p, 3, none⟩ = some (.string n1) ∧ w'.cell? ⟨p, 4, none⟩ = some (.string d1)) v from fun v hv => ⟨cell_of_row _ _ 0 _ _ _ hv, cell_of_row _ _ 1 _ _ _ hv, cell_of_row _ _ 2 _ _ _ hv, cell_of_row _ _ 3 _ _ _ hv, cell_of_row _ _ 4 _ _ _ hv⟩)
 refine wp_region_held_drew (S := fun w' : World => w'.cell? ⟨p, 0, none⟩ = some (.bool nb) ∧ w'.cell? ⟨p, 1, none⟩ = some (.bool me) ∧ w'.cell? ⟨p, 2, none⟩ = some (.string c1) ∧ w'.cell? ⟨p, 3, none⟩ = some (.string n1) ∧ w'.cell? ⟨p, 4, none⟩ = some (.string d1)) (by kernel_rfl) ?_ (fun hHeld => ?_)
 ·exact HQ.out _ (show (V.drewN nq).heap[p]? = _ from PV.out)
 obtain ⟨D, hD⟩ : ∃ u, u = (V.drewN nq).drew := ⟨_, rfl⟩
 have P0 := Lib.hid (show D.heap[p]? = some (.cells #[.bool nb, .bool me, .string c1, .string n1, .string d1] 23 (0, 0)) from by rw [hD]; exact PV.out)
 have A0 := Lib.hid (show Below w.heap.size w D from by rw [hD]; exact over (q := 1) (over (q := nq) BV.out))
 rw [← hD]
 clear hD hHeld PV QV BV HV
 refine wpAnyH_ready (rs := [0]) (by kernel_rfl) (by simp) (AllReadyH.cons rfl (fun K hK => ?_) AllReadyH.nil)
 go_simp
 refine (HLV.out _ (HM.out _ A0.out)).mono ?_
 rintro e x1 ⟨rfl, hb⟩
 have P1 := Lib.hid ((hb.block _ (blk_lt P0.out)).trans P0.out)
 have A1 := Lib.hid (then' A0.out hb)
 clear hb
 go_wp2_with fail
 refine hK.out _ _ (HQ.out _ P1.out) (fun hHeld => ?_)
 clear hK K
 try simp only [puts]
 clear P0 A0
 have hS := HQ.out _ P1.out
 try dsimp only at hS
 refine tkv 1 rfl ?_
 try simp only [puts]
 refine tkv 2 rfl ?_
 try simp only [puts]
 refine tkv 3 rfl ?_
 try simp only [puts]
 refine tkv 5 rfl ?_
 try simp only [puts]
 refine tkv 6 rfl ?_
 try simp only [puts]
 clear hS
 refine wpAnyH_ready (rs := [4]) (by kernel_rfl) (by simp) (AllReadyH.cons rfl (fun K hK => ?_) AllReadyH.nil)
 go_simp
 refine (HCW.out _).mono ?_
 rintro e x2 ⟨rfl, hb⟩
 have P2 := Lib.hid ((hb.block _ (blk_lt P1.out)).trans P1.out)
 have A2 := Lib.hid (then' A1.out hb)
 clear hb
 go_wp2_with fail
 refine hK.out _ _ (HQ.out _ P2.out) (fun hHeld => ?_)
 clear hK K
 try simp only [puts]
 clear P1 A1
 have hS := HQ.out _ P2.out
 try dsimp only at hS
 clear hS
 refine wpAnyH_ready (rs := [7]) (by kernel_rfl) (by simp) (AllReadyH.cons rfl (fun K hK => ?_) AllReadyH.nil)
 go_simp
 refine (HCR.out _).mono ?_
 rintro e x3 ⟨rfl, hb⟩
 have P3 := Lib.hid ((hb.block _ (blk_lt P2.out)).trans P2.out)
 have A3 := Lib.hid (then' A2.out hb)
 clear hb
 go_wp2_with fail
 refine hK.out _ _ (HQ.out _ P3.out) (fun hHeld => ?_)
 clear hK K
 try simp only [puts]
 clear P2 A2
 have hS := HQ.out _ P3.out
 try dsimp only at hS
 refine tkv 8 rfl ?_
 try simp only [puts]
 refine tkv 9 rfl ?_
 try simp only [puts]
 refine tkv 10 rfl ?_
 try simp only [puts]
 refine tkv 11 rfl ?_
 try simp only [puts]
 refine tkv 12 rfl ?_
 try simp only [puts]
 refine tkv 13 rfl ?_
 try simp only [puts]
 refine tkv 14 rfl ?_
 try simp only [puts]
 refine tkv 16 rfl ?_
 try simp only [puts]
 refine tkv 17 rfl ?_
 try simp only [puts]
 refine tkv 18 rfl ?_
 try simp only [puts]
 refine tkv 19 rfl ?_
 try simp only [puts]
 clear hS
 refine wpAnyH_ready (rs := [15]) (by kernel_rfl) (by simp) (AllReadyH.cons rfl (fun K hK => ?_) AllReadyH.nil)
 go_simp
 refine (HMW.out _).mono ?_
 rintro e x4 ⟨rfl, hb⟩
 have P4 := Lib.hid ((hb.block _ (blk_lt P3.out)).trans P3.out)
 have A4 := Lib.hid (then' A3.out hb)
 clear hb
 go_wp2_with fail
 refine hK.out _ _ (HQ.out _ P4.out) (fun hHeld => ?_)
 clear hK K
 try simp only [puts]
 clear P3 A3
 have hS := HQ.out _ P4.out
 try dsimp only at hS
 clear hS
 refine wpAnyH_ready (rs := [20]) (by kernel_rfl) (by simp) (AllReadyH.cons rfl (fun K hK => ?_) AllReadyH.nil)
 go_simp
 refine (HMR.out _).mono ?_
 rintro e x5 ⟨rfl, hb⟩
 have P5 := Lib.hid ((hb.block _ (blk_lt P4.out)).trans P4.out)
 have A5 := Lib.hid (then' A4.out hb)
 clear hb
 go_wp2_with fail
 refine hK.out _ _ (HQ.out _ P5.out) (fun hHeld => ?_)
 clear hK K
 try simp only [puts]
 clear P4 A4
 have hS := HQ.out _ P5.out
 try dsimp only at hS
 refine tkv 21 rfl ?_
 try simp only [puts]
 refine tkv 22 rfl ?_
 try simp only [puts]
 refine tkv 23 rfl ?_
 try simp only [puts]
 refine tkv 24 rfl ?_
 try simp only [puts]
 refine tkv 25 rfl ?_
 try simp only [puts]
 refine tkv 26 rfl ?_
 try simp only [puts]
 refine tkv 27 rfl ?_
 try simp only [puts]
 refine tkv 28 rfl ?_
 try simp only [puts]
 refine tkv 30 rfl ?_
 try simp only [puts]
 refine tkv 31 rfl ?_
 try simp only [puts]
 refine tkv 32 rfl ?_
 try simp only [puts]
 refine tkv 33 rfl ?_
 try simp only [puts]
 refine tkv 34 rfl ?_
 try simp only [puts]
 refine tkv 35 rfl ?_
 try simp only [puts]
 clear hS
 refine wpAnyH_ready (rs := [29]) (by kernel_rfl) (by simp) (AllReadyH.cons rfl (fun K hK => ?_) AllReadyH.nil)
 go_simp
 refine (HEM.out _).mono ?_
 rintro e x6 ⟨rfl, hb⟩
 have P6 := Lib.hid ((hb.block _ (blk_lt P5.out)).trans P5.out)
 have A6 := Lib.hid (then' A5.out hb)
 clear hb
 go_wp2_with fail
 refine hK.out _ _ (HQ.out _ P6.out) (fun hHeld => ?_)
 clear hK K
 try simp only [puts]
 clear P5 A5
 have hS := HQ.out _ P6.out
 try dsimp only at hS
 refine tkv 36 rfl ?_
 try simp only [puts]
 refine tkv 37 rfl ?_
 try simp only [puts]
 refine tkv 38 rfl ?_
 try simp only [puts]
 refine wpAnyH_done (by kernel_rfl) ?_ _
 go_wp2
 go_ret
 exact ⟨by rfl, A6.out⟩
end Go.Proofs.YtcaaljioennnnabDoor.rulesMatch

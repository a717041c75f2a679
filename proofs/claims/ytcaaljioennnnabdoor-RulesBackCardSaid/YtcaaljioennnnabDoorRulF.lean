/-
 Layer 22: the rule of a line, whatever its words: the program's answer.
-/
import Derived.Test.YtcaaljioennnnabDoorRulE
import Derived.Deep.RegionHeld3
namespace Go.Proofs.YtcaaljioennnnabDoor.rul
open Go.RowKit
open Go.Proofs.YtcaaljioennnnabDoor.words Go.Proofs.YtcaaljioennnnabDoor.glob Go.Proofs.YtcaaljioennnnabDoor.texts Go.Proofs.YtcaaljioennnnabDoor.piece Go.Proofs.YtcaaljioennnnabDoor.word
set_option linter.all false
theorem infoTS : (Tryd.prog.info? 9).map (fun i => (i.zero, i.size, i.bytes)) = some (some (.string ByteArray.empty), 1, 16) := by kernel_rfl
theorem cut_s (a : Addr) (n c : Nat) (hn : 0 < n) (hc : n ≤ c) (w : World) : (Instr.sliceAt 48 (.slice (some a) n c) (some (.int .i64 1)) none none).run Tryd.prog w = .ok (.slice (if c = 1 then some a else some (a.add 1)) (n - 1) (c - 1)) w := by
 obtain ⟨i0, hi, hz0, hz1, hz2⟩ := info_parts' infoTS
 have he : Tryd.prog.elem 48 = 9 := by kernel_rfl
 have hso : ∀ w, (sizeOf 9).run Tryd.prog w = .ok 1 w := fun w => by simp [sizeOf, typeInfo, hi, hz1]
 rw [run_sliceAt_slice w _ _ _ _ _ (by rw [he]; exact Tryd.underlying48), run_slice_l w _ _ n c (by rw [he]; exact Tryd.underlying48) .i64 1 (by omega) (by omega), he, hso]
 simp [sliced]
theorem rd_tail {w : World} {a : Addr} {x : List UInt8} {t : List (List UInt8)} {c : Nat} (h : Rd w (some a) (SL (x :: t))) (hc : (x :: t).length ≤ c) : Rd w (if c = 1 then some a else some (a.add 1)) (SL t) := by
 have h1 := h.cut (k := 1) (cap := c) (by rw [SL, List.length_map]; exact hc)
 have e : (SL (x :: t)).drop 1 = SL t := rfl
 rw [e] at h1
 exact h1
set_option maxRecDepth 100000 in
set_option maxHeartbeats 8000000 in
theorem read_no (a : Addr) (c : Nat) (x : List UInt8) (t : List (List UInt8)) (w : World) (hr : Rd w (some a) (SL (x :: t))) (h1 : ¬ x = wKeepname) (h2 : ¬ x = wKeep) :
  Calls Tryd.prog 29 #[.slice (some a) (x :: t).length c] w fun e w' => e = .returned (RuV (readR (x :: t))) ∧ Below w.heap.size w w' := by
 have hb1 := fun o1 o2 => ((Below.refl w.heap.size w).alloc (Nat.le_refl _) o1).alloc (by simp) o2
 obtain ⟨a', e, h0, -⟩ := SL_cells hr (by simp)
 cases e
 have c0 := fun o1 o2 => ((hb1 o1 o2).cell (World.block_lt_of_cell? _ _ (h0 x rfl))).trans (h0 x rfl)
 have HE := Lib.hid (show readR (x :: t) = ⟨false, false, [], [], []⟩ from by simp [readR, h1, h2])
 have m1 := list_ne h1
 have m2 := list_ne h2
 unfold wKeepname at m1
 unfold wKeep at m2
 obtain ⟨n, hn⟩ : ∃ n, n = (x :: t).length := ⟨_, rfl⟩
 have hnI : 0 < (n : Int) := by have : (x :: t).length = t.length + 1 := rfl; omega
 rw [← hn]
 have B1 := Lib.hid hb1
 clear hb1 h0 h1 h2 hn hr
 go_enter Tryd.func29, Tryd.ntmps29
 go_wp2
 rw [HE.out]
 exact bodyPost_ret (v := RuV ⟨false, false, [], [], []⟩) (by simp [results, Tryd.results29, RuV, go_sem]) rfl ⟨rfl, B1.out _ _⟩
set_option maxRecDepth 100000 in
set_option maxHeartbeats 8000000 in
theorem read_kn (a : Addr) (c : Nat) (t : List (List UInt8)) (w : World) (hl : t.length ≤ 99999) (hc : (wKeepname :: t).length ≤ c) (hr : Rd w (some a) (SL (wKeepname :: t))) :
  Calls Tryd.prog 29 #[.slice (some a) (wKeepname :: t).length c] w fun e w' => e = .returned (RuV (readR (wKeepname :: t))) ∧ Below w.heap.size w w' := by
 have hb1 := fun o1 o2 => ((Below.refl w.heap.size w).alloc (Nat.le_refl _) o1).alloc (by simp) o2
 obtain ⟨a', e, h0, -⟩ := SL_cells hr (by simp)
 cases e
 have c0 := fun o1 o2 => ((hb1 o1 o2).cell (World.block_lt_of_cell? _ _ (h0 _ rfl))).trans (h0 _ rfl)
 unfold wKeepname at c0
 have HE := Lib.hid (show readR (wKeepname :: t) = readW true t from by simp [readR])
 rw [HE.out]
 have hlen : (wKeepname :: t).length = t.length + 1 := rfl
 rw [hlen] at hc ⊢
 obtain ⟨n, hn⟩ : ∃ n, n = t.length := ⟨_, rfl⟩
 have hnI : 0 < ((n + 1 : Nat) : Int) := by omega
 have hcI : ((n + 1 : Nat) : Int) ≤ (c : Int) := by omega
 have hcut := fun w => cut_s a (n + 1) c (by omega) (by omega) w
 rw [Nat.add_sub_cancel] at hcut
 obtain ⟨A1, hA1⟩ : ∃ A1, A1 = (if c = 1 then some a else some (a.add 1)) := ⟨_, rfl⟩
 have HT := Lib.hid (show ∀ o1 o2, Rd ((w.alloc o1).alloc o2) A1 (SL t) from fun o1 o2 => by rw [hA1]; exact (rd_tail hr (by rw [hlen]; exact hc)).below (hb1 o1 o2))
 have HW := Lib.hid (fun w hr => what_w true A1 (c - 1) t w (by omega) hr)
 rw [← hA1] at hcut
 rw [← hn] at HW ⊢
 obtain ⟨N, hN⟩ : ∃ N, N = n + 1 := ⟨_, rfl⟩
 rw [← hN] at hcut hnI hcI ⊢
 have B1 := Lib.hid hb1
 clear hb1 h0 hn hr hc hl hlen HE hA1 hN
 go_enter Tryd.func29, Tryd.ntmps29
 obtain ⟨p, hp⟩ : ∃ p, p = w.heap.size := ⟨_, rfl⟩
 obtain ⟨q, hq⟩ : ∃ q, q = w.heap.size + 1 := ⟨_, rfl⟩
 obtain ⟨W, hW⟩ : ∃ W, W = (w.alloc (.cells #[.bool false, .bool false, .string ⟨#[]⟩, .string ⟨#[]⟩, .string ⟨#[]⟩] 23)).alloc (.cells #[.bool true, .bool false, .string ⟨#[]⟩, .string ⟨#[]⟩, .string ⟨#[]⟩] 23) := ⟨_, rfl⟩
 have hsz : (w.alloc (.cells #[.bool false, .bool false, .string ⟨#[]⟩, .string ⟨#[]⟩, .string ⟨#[]⟩] 23)).heap.size = q := by rw [World.size_alloc, hq]
 have HG3 := Lib.hid (show W.heap[q]? = some (.cells #[.bool true, .bool false, .string ⟨#[]⟩, .string ⟨#[]⟩, .string ⟨#[]⟩] 23 (0, 0)) from by rw [hW, ← hsz]; exact heap_alloc_new _ _)
 have HG2 := Lib.hid (show W.heap[p]? = some (.cells #[.bool false, .bool false, .string ⟨#[]⟩, .string ⟨#[]⟩, .string ⟨#[]⟩] 23 (0, 0)) from by rw [hW, heap_alloc_old _ _ (by rw [hsz, hp, hq]; omega), hp]; exact heap_alloc_new w _)
 have HTW := Lib.hid (show Rd W A1 (SL t) from by rw [hW]; exact HT.out _ _)
 have BW := Lib.hid (show Below w.heap.size w W from by rw [hW]; exact B1.out _ _)
 have HPQ := Lib.hid (show ¬ q = p from by omega)
 have HPW := Lib.hid (show w.heap.size ≤ p from by omega)
 have HH := Lib.hid hW; have HHP := Lib.hid hp; have HHQ := Lib.hid hq
 clear hW hp hq hsz HT B1
 go_wp2_with fail
 rw [← HH.out, ← HHQ.out, ← HHP.out]
 (try go_wp2_with fail)
 clear c0
 have HC := Lib.hid (show ∀ v : World, v.heap[q]? = some (.cells #[.bool true, .bool false, .string ⟨#[]⟩, .string ⟨#[]⟩, .string ⟨#[]⟩] 23 (0, 0)) → (fun w' : World => w'.cell? ⟨q, 0, none⟩ = some (.bool true) ∧ w'.cell? ⟨q, 1, none⟩ = some (.bool false) ∧ w'.cell? ⟨q, 2, none⟩ = some (.string ⟨#[]⟩) ∧ w'.cell? ⟨q, 3, none⟩ = some (.string ⟨#[]⟩) ∧ w'.cell? ⟨q, 4, none⟩ = some (.string ⟨#[]⟩)) v from fun v hv => ⟨cell_of_row _ _ 0 _ _ _ hv, cell_of_row _ _ 1 _ _ _ hv, cell_of_row _ _ 2 _ _ _ hv, cell_of_row _ _ 3 _ _ _ hv, cell_of_row _ _ 4 _ _ _ hv⟩)
 refine wp_region_held_drew (S := fun w' : World => w'.cell? ⟨q, 0, none⟩ = some (.bool true) ∧ w'.cell? ⟨q, 1, none⟩ = some (.bool false) ∧ w'.cell? ⟨q, 2, none⟩ = some (.string ⟨#[]⟩) ∧ w'.cell? ⟨q, 3, none⟩ = some (.string ⟨#[]⟩) ∧ w'.cell? ⟨q, 4, none⟩ = some (.string ⟨#[]⟩)) (by kernel_rfl) ?_ (fun hHeld => ?_)
 ·exact HC.out _ HG3.out
 obtain ⟨D, hD⟩ : ∃ u, u = W.drew := ⟨_, rfl⟩
 have DG2 := Lib.hid (show D.heap[p]? = some (.cells #[.bool false, .bool false, .string ⟨#[]⟩, .string ⟨#[]⟩, .string ⟨#[]⟩] 23 (0, 0)) from by rw [hD]; exact HG2.out)
 have DG3 := Lib.hid (show D.heap[q]? = some (.cells #[.bool true, .bool false, .string ⟨#[]⟩, .string ⟨#[]⟩, .string ⟨#[]⟩] 23 (0, 0)) from by rw [hD]; exact HG3.out)
 have DT := Lib.hid (show Rd D A1 (SL t) from by rw [hD]; exact HTW.out)
 have DA := Lib.hid (show Below w.heap.size w D from by rw [hD]; exact over (q := 1) BW.out)
 have hS := HC.out _ DG3.out
 try dsimp only at hS
 rw [← hD]
 clear hD hHeld HG2 HG3 HTW BW
 refine tkv 0 rfl ?_
 try simp only [puts]
 refine tkv 1 rfl ?_
 try simp only [puts]
 refine tkv 2 rfl ?_
 try simp only [puts]
 clear hS
 refine wpAnyH_ready (rs := [3]) (by kernel_rfl) (by simp) (AllReadyH.cons rfl (fun K hK => ?_) AllReadyH.nil)
 go_simp
 refine (HW.out D DT.out).mono ?_
 rintro e v1 ⟨rfl, hb⟩
 have V2 := Lib.hid ((hb.block _ (blk_lt DG2.out)).trans DG2.out)
 have V3 := Lib.hid ((hb.block _ (blk_lt DG3.out)).trans DG3.out)
 have VB := Lib.hid (DA.out.trans (hb.mono DA.out.size))
 clear hb
 go_wp2_with fail
 refine hK.out _ _ (HC.out _ V3.out) (fun hHeld => ?_)
 clear hK K
 try simp only [puts]
 obtain ⟨r, hr⟩ : ∃ r, r = readW true t := ⟨_, rfl⟩
 rw [← hr]
 have HRR := Lib.hid hr
 clear hr
 have f0 := cell_of_row v1 p 0 _ _ _ V2.out; have f1 := cell_of_row v1 p 1 _ _ _ V2.out; have f2 := cell_of_row v1 p 2 _ _ _ V2.out; have f3 := cell_of_row v1 p 3 _ _ _ V2.out; have f4 := cell_of_row v1 p 4 _ _ _ V2.out
 have z0 := frozen_of_row v1 p 0 _ _ V2.out; have z1 := frozen_of_row v1 p 1 _ _ V2.out; have z2 := frozen_of_row v1 p 2 _ _ V2.out; have z3 := frozen_of_row v1 p 3 _ _ V2.out; have z4 := frozen_of_row v1 p 4 _ _ V2.out
 unfold RuV
 refine wpAnyH_ready (rs := [4]) (by kernel_rfl) (by simp) (AllReadyH.cons rfl (fun K hK => ?_) AllReadyH.nil)
 go_simp
 obtain ⟨v2, hv2⟩ : ∃ v2, v2 = ((((v1.setCell ⟨p, 0, none⟩ (.bool r.nb)).setCell ⟨p, 1, none⟩ (.bool r.me)).setCell ⟨p, 2, none⟩ (.string ⟨r.cl.toArray⟩)).setCell ⟨p, 3, none⟩ (.string ⟨r.nm.toArray⟩)).setCell ⟨p, 4, none⟩ (.string ⟨r.ds.toArray⟩) := ⟨_, rfl⟩
 have X3 := Lib.hid (show v2.heap[q]? = some (.cells #[.bool true, .bool false, .string ⟨#[]⟩, .string ⟨#[]⟩, .string ⟨#[]⟩] 23 (0, 0)) from by
  rw [hv2, heap_setCell_other _ _ _ _ HPQ.out, heap_setCell_other _ _ _ _ HPQ.out, heap_setCell_other _ _ _ _ HPQ.out, heap_setCell_other _ _ _ _ HPQ.out, heap_setCell_other _ _ _ _ HPQ.out]
  exact V3.out)
 have X2 := Lib.hid (show v2.heap[p]? = some (.cells (RC r) 23 (0, 0)) from by
  rw [hv2]
  have q0 := heap_setCell_same v1 p 0 _ _ (.bool r.nb) V2.out
  have q1 := heap_setCell_same _ p 1 _ _ (.bool r.me) q0
  have q2 := heap_setCell_same _ p 2 _ _ (.string ⟨r.cl.toArray⟩) q1
  have q3 := heap_setCell_same _ p 3 _ _ (.string ⟨r.nm.toArray⟩) q2
  exact heap_setCell_same _ p 4 _ _ (.string ⟨r.ds.toArray⟩) q3)
 have XB := Lib.hid (show Below w.heap.size w v2 from by
  rw [hv2]
  exact below_setCell' (below_setCell' (below_setCell' (below_setCell' (below_setCell' VB.out HPW.out) HPW.out) HPW.out) HPW.out) HPW.out)
 rw [← hv2]
 refine hK.out _ _ (HC.out _ X3.out) (fun hHeld => ?_)
 clear hK K hHeld hv2 f0 f1 f2 f3 f4 z0 z1 z2 z3 z4
 try simp only [puts]
 refine wpAnyH_done (by kernel_rfl) ?_ _
 have g0 := cell_of_row v2 p 0 _ _ _ X2.out; have g1 := cell_of_row v2 p 1 _ _ _ X2.out; have g2 := cell_of_row v2 p 2 _ _ _ X2.out; have g3 := cell_of_row v2 p 3 _ _ _ X2.out; have g4 := cell_of_row v2 p 4 _ _ _ X2.out
 simp only [RC, List.getElem?_toArray, List.getElem?_cons_zero, List.getElem?_cons_succ] at g0 g1 g2 g3 g4
 go_wp2
 exact bodyPost_ret (v := RuV r) (by simp [results, Tryd.results29, RuV, go_sem, g0, g1, g2, g3, g4]) rfl ⟨by rw [HRR.out], XB.out⟩
set_option maxRecDepth 100000 in
set_option maxHeartbeats 8000000 in
theorem read_kf (a : Addr) (c : Nat) (t : List (List UInt8)) (w : World) (hl : t.length ≤ 99999) (hc : (wKeep :: t).length ≤ c) (hr : Rd w (some a) (SL (wKeep :: t))) :
  Calls Tryd.prog 29 #[.slice (some a) (wKeep :: t).length c] w fun e w' => e = .returned (RuV (readR (wKeep :: t))) ∧ Below w.heap.size w w' := by
 have hb1 := fun o1 o2 => ((Below.refl w.heap.size w).alloc (Nat.le_refl _) o1).alloc (by simp) o2
 obtain ⟨a', e, h0, -⟩ := SL_cells hr (by simp)
 cases e
 have c0 := fun o1 o2 => ((hb1 o1 o2).cell (World.block_lt_of_cell? _ _ (h0 _ rfl))).trans (h0 _ rfl)
 unfold wKeep at c0
 have HE := Lib.hid (show readR (wKeep :: t) = readW false t from by simp [readR, show ¬ wKeep = wKeepname by decide])
 rw [HE.out]
 have hlen : (wKeep :: t).length = t.length + 1 := rfl
 rw [hlen] at hc ⊢
 obtain ⟨n, hn⟩ : ∃ n, n = t.length := ⟨_, rfl⟩
 have hnI : 0 < ((n + 1 : Nat) : Int) := by omega
 have hcI : ((n + 1 : Nat) : Int) ≤ (c : Int) := by omega
 have hcut := fun w => cut_s a (n + 1) c (by omega) (by omega) w
 rw [Nat.add_sub_cancel] at hcut
 obtain ⟨A1, hA1⟩ : ∃ A1, A1 = (if c = 1 then some a else some (a.add 1)) := ⟨_, rfl⟩
 have HT := Lib.hid (show ∀ o1 o2, Rd ((w.alloc o1).alloc o2) A1 (SL t) from fun o1 o2 => by rw [hA1]; exact (rd_tail hr (by rw [hlen]; exact hc)).below (hb1 o1 o2))
 have HW := Lib.hid (fun w hr => what_w false A1 (c - 1) t w (by omega) hr)
 rw [← hA1] at hcut
 rw [← hn] at HW ⊢
 obtain ⟨N, hN⟩ : ∃ N, N = n + 1 := ⟨_, rfl⟩
 rw [← hN] at hcut hnI hcI ⊢
 have B1 := Lib.hid hb1
 clear hb1 h0 hn hr hc hl hlen HE hA1 hN
 go_enter Tryd.func29, Tryd.ntmps29
 obtain ⟨p, hp⟩ : ∃ p, p = w.heap.size := ⟨_, rfl⟩
 obtain ⟨q, hq⟩ : ∃ q, q = w.heap.size + 1 := ⟨_, rfl⟩
 obtain ⟨W, hW⟩ : ∃ W, W = (w.alloc (.cells #[.bool false, .bool false, .string ⟨#[]⟩, .string ⟨#[]⟩, .string ⟨#[]⟩] 23)).alloc (.cells #[.bool false, .bool false, .string ⟨#[]⟩, .string ⟨#[]⟩, .string ⟨#[]⟩] 23) := ⟨_, rfl⟩
 have hsz : (w.alloc (.cells #[.bool false, .bool false, .string ⟨#[]⟩, .string ⟨#[]⟩, .string ⟨#[]⟩] 23)).heap.size = q := by rw [World.size_alloc, hq]
 have HG3 := Lib.hid (show W.heap[q]? = some (.cells #[.bool false, .bool false, .string ⟨#[]⟩, .string ⟨#[]⟩, .string ⟨#[]⟩] 23 (0, 0)) from by rw [hW, ← hsz]; exact heap_alloc_new _ _)
 have HG2 := Lib.hid (show W.heap[p]? = some (.cells #[.bool false, .bool false, .string ⟨#[]⟩, .string ⟨#[]⟩, .string ⟨#[]⟩] 23 (0, 0)) from by rw [hW, heap_alloc_old _ _ (by rw [hsz, hp, hq]; omega), hp]; exact heap_alloc_new w _)
 have HTW := Lib.hid (show Rd W A1 (SL t) from by rw [hW]; exact HT.out _ _)
 have BW := Lib.hid (show Below w.heap.size w W from by rw [hW]; exact B1.out _ _)
 have HPQ := Lib.hid (show ¬ q = p from by omega)
 have HPW := Lib.hid (show w.heap.size ≤ p from by omega)
 have HH := Lib.hid hW; have HHP := Lib.hid hp; have HHQ := Lib.hid hq
 clear hW hp hq hsz HT B1
 go_wp2_with fail
 rw [← HH.out, ← HHQ.out, ← HHP.out]
 (try go_wp2_with fail)
 clear c0
 have HC := Lib.hid (show ∀ v : World, v.heap[q]? = some (.cells #[.bool false, .bool false, .string ⟨#[]⟩, .string ⟨#[]⟩, .string ⟨#[]⟩] 23 (0, 0)) → (fun w' : World => w'.cell? ⟨q, 0, none⟩ = some (.bool false) ∧ w'.cell? ⟨q, 1, none⟩ = some (.bool false) ∧ w'.cell? ⟨q, 2, none⟩ = some (.string ⟨#[]⟩) ∧ w'.cell? ⟨q, 3, none⟩ = some (.string ⟨#[]⟩) ∧ w'.cell? ⟨q, 4, none⟩ = some (.string ⟨#[]⟩)) v from fun v hv => ⟨cell_of_row _ _ 0 _ _ _ hv, cell_of_row _ _ 1 _ _ _ hv, cell_of_row _ _ 2 _ _ _ hv, cell_of_row _ _ 3 _ _ _ hv, cell_of_row _ _ 4 _ _ _ hv⟩)
 refine wp_region_held_drew (S := fun w' : World => w'.cell? ⟨q, 0, none⟩ = some (.bool false) ∧ w'.cell? ⟨q, 1, none⟩ = some (.bool false) ∧ w'.cell? ⟨q, 2, none⟩ = some (.string ⟨#[]⟩) ∧ w'.cell? ⟨q, 3, none⟩ = some (.string ⟨#[]⟩) ∧ w'.cell? ⟨q, 4, none⟩ = some (.string ⟨#[]⟩)) (by kernel_rfl) ?_ (fun hHeld => ?_)
 ·exact HC.out _ HG3.out
 obtain ⟨D, hD⟩ : ∃ u, u = W.drew := ⟨_, rfl⟩
 have DG2 := Lib.hid (show D.heap[p]? = some (.cells #[.bool false, .bool false, .string ⟨#[]⟩, .string ⟨#[]⟩, .string ⟨#[]⟩] 23 (0, 0)) from by rw [hD]; exact HG2.out)
 have DG3 := Lib.hid (show D.heap[q]? = some (.cells #[.bool false, .bool false, .string ⟨#[]⟩, .string ⟨#[]⟩, .string ⟨#[]⟩] 23 (0, 0)) from by rw [hD]; exact HG3.out)
 have DT := Lib.hid (show Rd D A1 (SL t) from by rw [hD]; exact HTW.out)
 have DA := Lib.hid (show Below w.heap.size w D from by rw [hD]; exact over (q := 1) BW.out)
 have hS := HC.out _ DG3.out
 try dsimp only at hS
 rw [← hD]
 clear hD hHeld HG2 HG3 HTW BW
 refine tkv 0 rfl ?_
 try simp only [puts]
 refine tkv 1 rfl ?_
 try simp only [puts]
 refine tkv 2 rfl ?_
 try simp only [puts]
 clear hS
 refine wpAnyH_ready (rs := [3]) (by kernel_rfl) (by simp) (AllReadyH.cons rfl (fun K hK => ?_) AllReadyH.nil)
 go_simp
 refine (HW.out D DT.out).mono ?_
 rintro e v1 ⟨rfl, hb⟩
 have V2 := Lib.hid ((hb.block _ (blk_lt DG2.out)).trans DG2.out)
 have V3 := Lib.hid ((hb.block _ (blk_lt DG3.out)).trans DG3.out)
 have VB := Lib.hid (DA.out.trans (hb.mono DA.out.size))
 clear hb
 go_wp2_with fail
 refine hK.out _ _ (HC.out _ V3.out) (fun hHeld => ?_)
 clear hK K
 try simp only [puts]
 obtain ⟨r, hr⟩ : ∃ r, r = readW false t := ⟨_, rfl⟩
 rw [← hr]
 have HRR := Lib.hid hr
 clear hr
 have f0 := cell_of_row v1 p 0 _ _ _ V2.out; have f1 := cell_of_row v1 p 1 _ _ _ V2.out; have f2 := cell_of_row v1 p 2 _ _ _ V2.out; have f3 := cell_of_row v1 p 3 _ _ _ V2.out; have f4 := cell_of_row v1 p 4 _ _ _ V2.out
 have z0 := frozen_of_row v1 p 0 _ _ V2.out; have z1 := frozen_of_row v1 p 1 _ _ V2.out; have z2 := frozen_of_row v1 p 2 _ _ V2.out; have z3 := frozen_of_row v1 p 3 _ _ V2.out; have z4 := frozen_of_row v1 p 4 _ _ V2.out
 unfold RuV
 refine wpAnyH_ready (rs := [4]) (by kernel_rfl) (by simp) (AllReadyH.cons rfl (fun K hK => ?_) AllReadyH.nil)
 go_simp
 obtain ⟨v2, hv2⟩ : ∃ v2, v2 = ((((v1.setCell ⟨p, 0, none⟩ (.bool r.nb)).setCell ⟨p, 1, none⟩ (.bool r.me)).setCell ⟨p, 2, none⟩ (.string ⟨r.cl.toArray⟩)).setCell ⟨p, 3, none⟩ (.string ⟨r.nm.toArray⟩)).setCell ⟨p, 4, none⟩ (.string ⟨r.ds.toArray⟩) := ⟨_, rfl⟩
 have X3 := Lib.hid (show v2.heap[q]? = some (.cells #[.bool false, .bool false, .string ⟨#[]⟩, .string ⟨#[]⟩, .string ⟨#[]⟩] 23 (0, 0)) from by
  rw [hv2, heap_setCell_other _ _ _ _ HPQ.out, heap_setCell_other _ _ _ _ HPQ.out, heap_setCell_other _ _ _ _ HPQ.out, heap_setCell_other _ _ _ _ HPQ.out, heap_setCell_other _ _ _ _ HPQ.out]
  exact V3.out)
 have X2 := Lib.hid (show v2.heap[p]? = some (.cells (RC r) 23 (0, 0)) from by
  rw [hv2]
  have q0 := heap_setCell_same v1 p 0 _ _ (.bool r.nb) V2.out
  have q1 := heap_setCell_same _ p 1 _ _ (.bool r.me) q0
  have q2 := heap_setCell_same _ p 2 _ _ (.string ⟨r.cl.toArray⟩) q1
  have q3 := heap_setCell_same _ p 3 _ _ (.string ⟨r.nm.toArray⟩) q2
  exact heap_setCell_same _ p 4 _ _ (.string ⟨r.ds.toArray⟩) q3)
 have XB := Lib.hid (show Below w.heap.size w v2 from by
  rw [hv2]
  exact below_setCell' (below_setCell' (below_setCell' (below_setCell' (below_setCell' VB.out HPW.out) HPW.out) HPW.out) HPW.out) HPW.out)
 rw [← hv2]
 refine hK.out _ _ (HC.out _ X3.out) (fun hHeld => ?_)
 clear hK K hHeld hv2 f0 f1 f2 f3 f4 z0 z1 z2 z3 z4
 try simp only [puts]
 refine wpAnyH_done (by kernel_rfl) ?_ _
 have g0 := cell_of_row v2 p 0 _ _ _ X2.out; have g1 := cell_of_row v2 p 1 _ _ _ X2.out; have g2 := cell_of_row v2 p 2 _ _ _ X2.out; have g3 := cell_of_row v2 p 3 _ _ _ X2.out; have g4 := cell_of_row v2 p 4 _ _ _ X2.out
 simp only [RC, List.getElem?_toArray, List.getElem?_cons_zero, List.getElem?_cons_succ] at g0 g1 g2 g3 g4
 go_wp2
 exact bodyPost_ret (v := RuV r) (by simp [results, Tryd.results29, RuV, go_sem, g0, g1, g2, g3, g4]) rfl ⟨by rw [HRR.out], XB.out⟩
theorem read_w (A : Option Addr) (c : Nat) (fs : List (List UInt8)) (w : World) (hne : fs ≠ []) (hl : fs.length ≤ 100000) (hc : fs.length ≤ c) (hr : Rd w A (SL fs)) :
  Calls Tryd.prog 29 #[.slice A fs.length c] w fun e w' => e = .returned (RuV (readR fs)) ∧ Below w.heap.size w w' := by
 obtain ⟨a, rfl, -, -⟩ := SL_cells hr hne
 rcases fs with _ | ⟨x, t⟩
 ·exact absurd rfl hne
 ·have hl2 : t.length ≤ 99999 := by simp only [List.length_cons] at hl; omega
  by_cases h1 : x = wKeepname
  ·subst h1; exact read_kn a c t w hl2 hc hr
  ·by_cases h2 : x = wKeep
   ·subst h2; exact read_kf a c t w hl2 hc hr
   ·exact read_no a c x t w hr h1 h2
end Go.Proofs.YtcaaljioennnnabDoor.rul

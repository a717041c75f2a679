/- FindZ -/
import Derived.Test.YtdifmgeicnndfaaFindS
import Derived.Test.YtdifmgeicnndfaaFindFF
namespace Go.Proofs.Ytdifmgeicnndfaa.find
open Go.RowKit
open words kindp opp op kind word prg sorts
set_option maxRecDepth 100000
set_option maxHeartbeats 16000000
set_option linter.all false
def FieldR (cs : List ClM) (L : List Tx) (s a b : Tx) (ok : Bool) : Prop := match firstFM cs L s with
 | none => ok = false ∧ a = [] ∧ b = []
 | some (c, _) => ok = true ∧ a = c.nm ∧ b = s
def FieldP (cs : List ClM) (L : List Tx) (s : Tx) (w : World) (e : Ending) (w' : World) : Prop := (∃ a b ok, e = .returned (.tuple #[.agg #[.string ⟨a.toArray⟩, .string ⟨b.toArray⟩], .bool ok]) ∧ FieldR cs L s a b ok) ∧ Below w.heap.size w w'
def FieldOfR (cs : List ClM) (cn s : Tx) (m : FiM) (ok : Bool) : Prop := match firstFM cs [cn] s with
 | none => ok = false ∧ m = ⟨[], 0, [], false⟩
 | some (c, k) => ok = true ∧ c.fs[k]? = some m
def FieldOfP (cs : List ClM) (cn s : Tx) (w : World) (e : Ending) (w' : World) : Prop := (∃ m ok, e = .returned (.tuple #[.agg (fiC m).toArray, .bool ok]) ∧ FieldOfR cs cn s m ok) ∧ Below w.heap.size w w'
theorem firstFM_at {cs : List ClM} {L : List Tx} {s : Tx} {c : ClM} {k : Nat} (h : firstFM cs L s = some (c, k)) : c ∈ cs ∧ ∃ m, c.fs[k]? = some m ∧ m.nm = s := by
 obtain ⟨nm, -, h1⟩ := List.exists_of_findSome?_eq_some h
 unfold oneFM at h1
 cases hc : findC cs nm with
 | none => rw [hc] at h1; cases h1
 | some c' =>
  rw [hc] at h1; dsimp only at h1
  cases hd : declFM c' s with
  | none => rw [hd] at h1; cases h1
  | some k' =>
   rw [hd] at h1
   simp only [Option.some.injEq, Prod.mk.injEq] at h1
   obtain ⟨rfl, rfl⟩ := h1
   refine ⟨(findC_nm hc).2, ?_⟩
   unfold declFM at hd
   obtain ⟨hlt, hp, -⟩ := List.findIdx?_eq_some_iff_getElem.1 hd
   exact ⟨_, List.getElem?_eq_getElem hlt, by simpa using hp⟩
theorem field_b (s : Tx) (w : World) : Calls Try.prog 71 #[.string ⟨s.toArray⟩] w fun e w' => (∃ g, e = .returned (.func (.func 101) #[] #[.pointer (some ⟨g, 0, none⟩)]) ∧ w'.cell? ⟨g, 0, none⟩ = some (.string ⟨s.toArray⟩)) ∧ Below w.heap.size w w' := by
 go_enter Try.func71, Try.ntmps71
 go_wp2
 go_ret
 exact ⟨⟨_, rfl, cell_of_row _ _ 0 _ _ _ (heap_alloc_new w _)⟩, (Below.refl _ w).alloc (Nat.le_refl _) _⟩
theorem fieldS_w (x : PrM) (cn s : Tx) (w : World) (hk : PrOk w x) (hg : GrP x) : Calls Try.prog 36 #[.agg (prC x).toArray, .agg #[.string ⟨cn.toArray⟩, .string ⟨s.toArray⟩]] w (FieldP x.cs (supersL x.cs cn) s w) := by
 obtain ⟨W, hW⟩ : ∃ W, W = ((w.alloc (.cells (prC x).toArray 27)).alloc (.cells #[.string ⟨cn.toArray⟩, .string ⟨s.toArray⟩] 67)).alloc (.cells #[.string ⟨#[]⟩, .string ⟨#[]⟩] 67) := ⟨_, rfl⟩
 have hal : Below w.heap.size w W := by rw [hW]; exact (((Below.refl _ w).alloc (Nat.le_refl _) _).alloc (by simp) _).alloc (by simp; omega) _
 have hblk : W.heap[w.heap.size]? = some (.cells (prC x).toArray 27 (0, 0)) := by rw [hW]; exact (Below.heap_alloc _ _ _ (by simp <;> omega)).trans ((Below.heap_alloc _ _ _ (by simp)).trans (heap_alloc_new w _))
 have hbr : W.heap[w.heap.size + 1]? = some (.cells #[.string ⟨cn.toArray⟩, .string ⟨s.toArray⟩] 67 (0, 0)) := by
  have := heap_alloc_new (w.alloc (.cells (prC x).toArray 27)) (.cells #[.string ⟨cn.toArray⟩, .string ⟨s.toArray⟩] 67)
  rw [World.size_alloc] at this
  rw [hW]; exact (Below.heap_alloc _ _ _ (by simp)).trans this
 have hbm : W.heap[w.heap.size + 1 + 1]? = some (.cells #[.string ⟨#[]⟩, .string ⟨#[]⟩] 67 (0, 0)) := by
  have := heap_alloc_new ((w.alloc (.cells (prC x).toArray 27)).alloc (.cells #[.string ⟨cn.toArray⟩, .string ⟨s.toArray⟩] 67)) (.cells #[.string ⟨#[]⟩, .string ⟨#[]⟩] 67)
  rw [World.size_alloc, World.size_alloc] at this
  rw [hW]; exact this
 have HAL := zh hal; have HRM := zh hbm
 have HS := zh (show ∀ u : World, Below W.heap.size W u → (fun w' => (w'.cell? ⟨w.heap.size, 0, none⟩ = some (.slice x.A1 x.cs.length x.c1) ∧ w'.cell? ⟨w.heap.size, 1, none⟩ = some (.slice x.A2 x.ns.length x.c2) ∧ w'.cell? ⟨w.heap.size, 2, none⟩ = some (.string ⟨x.ec.toArray⟩) ∧ w'.cell? ⟨w.heap.size, 3, none⟩ = some (.string ⟨x.en.toArray⟩) ∧ w'.cell? ⟨w.heap.size, 4, none⟩ = some (.string ⟨x.ed.toArray⟩)) ∧ w'.cell? ⟨w.heap.size + 1, 0, none⟩ = some (.string ⟨cn.toArray⟩) ∧ w'.cell? ⟨w.heap.size + 1, 1, none⟩ = some (.string ⟨s.toArray⟩)) u from fun u hu => by
  have a := pr_cells ((hu.block _ (blk_lt hblk)).trans hblk)
  have b := (hu.block _ (blk_lt hbr)).trans hbr
  exact ⟨⟨a.1, a.2.1, a.2.2.1, a.2.2.2.1, a.2.2.2.2⟩, cell_of_row _ _ 0 _ _ _ b, cell_of_row _ _ 1 _ _ _ b⟩)
 have HKW := zh (fun (u : World) (hu : Below W.heap.size W u) => (hk.below hal).below hu)
 have HGP := zh hg
 have HFI := zh (fun v B A c g (hv : Below w.heap.size w v) h0 hr h1 => firstF_w x (supersL x.cs cn) s B g A c v (hk.below hv) hg h0 hr (by have := supers_len x.cs cn; have := hg.1.1; omega) h1)
 obtain ⟨q, hq⟩ : ∃ q, q = firstFR x.cs (supersL x.cs cn) s := ⟨_, rfl⟩
 rw [← hq] at HFI
 have hcs : (firstFM x.cs (supersL x.cs cn) s = none ∧ q.1 = zeroC ∧ q.2 = -1) ∨ ∃ k m, q.2 = ((k : Nat) : Int) ∧ firstFM x.cs (supersL x.cs cn) s = some (q.1, k) ∧ q.1 ∈ x.cs ∧ q.1.fs[k]? = some m := by
  cases hf : firstFM x.cs (supersL x.cs cn) s with
  | none => rw [firstFR_none hf] at hq; rw [hq]; exact .inl ⟨rfl, rfl, rfl⟩
  | some r =>
   obtain ⟨c, k⟩ := r
   rw [firstFR_some hf] at hq
   obtain ⟨hm, m, h1, -⟩ := firstFM_at hf
   rw [hq]
   exact .inr ⟨k, m, rfl, rfl, hm, h1⟩
 clear hq
 have HRR := zh hbr
 obtain ⟨⟨cnm, csu, cfc, cab, cis, cA1, cc1, cfs, cA2, cc2, cms, cA3, cc3⟩, kk⟩ := q
 dsimp only at hcs HFI
 have HCS := zh hcs
 dsimp only [clC] at HFI
 have HSQ := zh (fun (u : World) (hu : Below W.heap.size W u) => supers_f x cn u ((hk.below hal).below hu) hg)
 unfold prC at hW HFI HSQ ⊢
 try dsimp only at hW HFI HSQ ⊢
 have HW := zh hW
 clear hal hblk hbr hbm hW hcs
 go_enter Try.func36, Try.ntmps36
 go_wp2_with fail
 try simp only [World.size_alloc]
 rw [← HW.out]
 (try go_wp2_with fail)
 refine wp_region_held_drew (S := (fun w' => (w'.cell? ⟨w.heap.size, 0, none⟩ = some (.slice x.A1 x.cs.length x.c1) ∧ w'.cell? ⟨w.heap.size, 1, none⟩ = some (.slice x.A2 x.ns.length x.c2) ∧ w'.cell? ⟨w.heap.size, 2, none⟩ = some (.string ⟨x.ec.toArray⟩) ∧ w'.cell? ⟨w.heap.size, 3, none⟩ = some (.string ⟨x.en.toArray⟩) ∧ w'.cell? ⟨w.heap.size, 4, none⟩ = some (.string ⟨x.ed.toArray⟩)) ∧ w'.cell? ⟨w.heap.size + 1, 0, none⟩ = some (.string ⟨cn.toArray⟩) ∧ w'.cell? ⟨w.heap.size + 1, 1, none⟩ = some (.string ⟨s.toArray⟩))) (by kernel_rfl) ?_ (fun hHeld => ?_)
 ·exact HS.out _ (by exact ⟨rfl, rfl, rfl, Nat.le_refl _, fun _ _ => rfl⟩)
 obtain ⟨u0, hWd⟩ : ∃ u, u = W.drew := ⟨_, rfl⟩
 have HB0 := zh (show Below W.heap.size W u0 from by rw [hWd]; exact ⟨rfl, rfl, rfl, Nat.le_refl _, fun _ _ => rfl⟩)
 rw [← hWd]
 have hS0 := HS.out _ HB0.out
 clear hWd
 refine tkp 0 rfl ?_
 refine tkp 1 rfl ?_
 refine tkp 2 rfl ?_
 refine tkp 3 rfl ?_
 refine tkp 5 rfl ?_
 refine tkp 6 rfl ?_
 clear hS0
 refine wpAnyH_ready (rs := [4, 12]) (by kernel_rfl) (by simp) (AllReadyH.cons rfl (fun K hK => ?_) (AllReadyH.cons rfl (fun K hK => ?_) AllReadyH.nil))
 ·go_simp
  refine (HSQ.out _ HB0.out).mono ?_
  rintro e u1 ⟨⟨B, A, c, rfl, hc, hr⟩, hb⟩
  have HL1 := zh (show Below u0.heap.size u0 u1 from ⟨hb.os, hb.tape, hb.output, hb.size, hb.block⟩)
  have HB1 := zh (show Below W.heap.size W u1 from HB0.out.trans (HL1.out.mono HB0.out.size))
  have HC1 := zh (show u1.cell? ⟨B, 0, none⟩ = some (.slice A (supersL x.cs cn).length c) from hc)
  have HR1 := zh (show Rd u1 A (SX (supersL x.cs cn)) from hr)
  clear hc hr hb
  go_wp2_with fail
  refine hK.out _ _ (HS.out _ HB1.out) (fun hHeld => ?_)
  clear hK K
  try simp only [puts]
  refine wpAnyH_ready (rs := [7, 12]) (by kernel_rfl) (by simp) (AllReadyH.cons rfl (fun K hK => ?_) (AllReadyH.cons rfl (fun K hK => ?_) AllReadyH.nil))
  ·go_simp
   refine (field_b s _).mono ?_
   rintro e u2 ⟨⟨g, rfl, hg1⟩, hb⟩
   have HL2 := zh (show Below u1.heap.size u1 u2 from ⟨hb.os, hb.tape, hb.output, hb.size, hb.block⟩)
   have HB2 := zh (show Below W.heap.size W u2 from HB1.out.trans (HL2.out.mono HB1.out.size))
   have HC2 := zh (show u2.cell? ⟨B, 0, none⟩ = some (.slice A (supersL x.cs cn).length c) from (HL2.out.cell (World.block_lt_of_cell? _ _ HC1.out)).trans HC1.out)
   have HR2 := zh (show Rd u2 A (SX (supersL x.cs cn)) from HR1.out.below HL2.out)
   have HG2 := zh (show u2.cell? ⟨g, 0, none⟩ = some (.string ⟨s.toArray⟩) from hg1)
   clear hg1 hb
   go_wp2_with fail
   refine hK.out _ _ (HS.out _ HB2.out) (fun hHeld => ?_)
   clear hK K
   try simp only [puts]
   refine wpAnyH_ready (rs := [8, 12]) (by kernel_rfl) (by simp) (AllReadyH.cons rfl (fun K hK => ?_) (AllReadyH.cons rfl (fun K hK => ?_) AllReadyH.nil))
   ·go_simp
    refine (HFI.out _ B A c g (HAL.out.trans (HB2.out.mono HAL.out.size)) HC2.out HR2.out HG2.out).mono ?_
    rintro e u3 ⟨rfl, hb⟩
    have HL3 := zh (show Below u2.heap.size u2 u3 from ⟨hb.os, hb.tape, hb.output, hb.size, hb.block⟩)
    have HB3 := zh (show Below W.heap.size W u3 from HB2.out.trans (HL3.out.mono HB2.out.size))
    have HC3 := zh (show u3.cell? ⟨B, 0, none⟩ = some (.slice A (supersL x.cs cn).length c) from (HL3.out.cell (World.block_lt_of_cell? _ _ HC2.out)).trans HC2.out)
    have HR3 := zh (show Rd u3 A (SX (supersL x.cs cn)) from HR2.out.below HL3.out)
    have HG3 := zh (show u3.cell? ⟨g, 0, none⟩ = some (.string ⟨s.toArray⟩) from (HL3.out.cell (World.block_lt_of_cell? _ _ HG2.out)).trans HG2.out)
    clear hb
    go_wp2_with fail
    refine hK.out _ _ (HS.out _ HB3.out) (fun hHeld => ?_)
    clear hK K
    try simp only [puts]
    have hS9 := HS.out _ HB3.out
    refine tkp 9 rfl ?_
    refine tkp 10 rfl ?_
    refine tkp 11 rfl ?_
    clear hS9
    refine rdy 12 rfl (fun K hK => ?_)
    go_simp
    obtain ⟨u4, hn⟩ : ∃ v, v = u3.alloc (.cells #[.string ⟨#[]⟩, .string ⟨#[]⟩, .bool false, .bool false, .slice none 0 0, .slice none 0 0, .slice none 0 0] 43) := ⟨_, rfl⟩
    have hb : Below u3.heap.size u3 u4 := by rw [hn]; exact (Below.refl _ _).alloc (Nat.le_refl _) _
    have hz : u4.heap[u3.heap.size]? = some (.cells #[.string ⟨#[]⟩, .string ⟨#[]⟩, .bool false, .bool false, .slice none 0 0, .slice none 0 0, .slice none 0 0] 43 (0, 0)) := by rw [hn]; exact heap_alloc_new _ _
    have HNN := zh hn
    have HGE := zh (show W.heap.size ≤ u3.heap.size from HB3.out.size)
    rw [← HNN.out]
    clear hn
    have HL4 := zh (show Below u3.heap.size u3 u4 from hb)
    have HB4 := zh (show Below W.heap.size W u4 from HB3.out.trans (HL4.out.mono HB3.out.size))
    have HC4 := zh (show u4.cell? ⟨B, 0, none⟩ = some (.slice A (supersL x.cs cn).length c) from (HL4.out.cell (World.block_lt_of_cell? _ _ HC3.out)).trans HC3.out)
    have HR4 := zh (show Rd u4 A (SX (supersL x.cs cn)) from HR3.out.below HL4.out)
    have HG4 := zh (show u4.cell? ⟨g, 0, none⟩ = some (.string ⟨s.toArray⟩) from (HL4.out.cell (World.block_lt_of_cell? _ _ HG3.out)).trans HG3.out)
    have HZ4 := zh (show u4.heap[u3.heap.size]? = some (.cells #[.string ⟨#[]⟩, .string ⟨#[]⟩, .bool false, .bool false, .slice none 0 0, .slice none 0 0, .slice none 0 0] 43 (0, 0)) from hz)
    clear hz hb
    refine hK.out _ _ (HS.out _ HB4.out) (fun hHeld => ?_)
    clear hK K
    try simp only [puts]
    have tq : u4.there u3.heap.size 0 7 := there_new HZ4.out
    have hst := sets_new (cs := clC ⟨cnm, csu, cfc, cab, cis, cA1, cc1, cfs, cA2, cc2, cms, cA3, cc3⟩) rfl HZ4.out
    have hgr := sets_grown u4 (u3.heap.size) 0 (clC ⟨cnm, csu, cfc, cab, cis, cA1, cc1, cfs, cA2, cc2, cms, cA3, cc3⟩)
    obtain ⟨uF, huF⟩ : ∃ v, v = u4.setCells (u3.heap.size) 0 (clC ⟨cnm, csu, cfc, cab, cis, cA1, cc1, cfs, cA2, cc2, cms, cA3, cc3⟩) := ⟨_, rfl⟩
    have hBF : Below W.heap.size W uF := by rw [huF]; exact HB4.out.grown hgr HB4.out.size (fun k hk => by cases hk; exact HGE.out)
    have HU := zh (show uF.heap[u3.heap.size]? = some (.cells (clC ⟨cnm, csu, cfc, cab, cis, cA1, cc1, cfs, cA2, cc2, cms, cA3, cc3⟩).toArray 43 (0, 0)) from by rw [huF]; exact hst)
    have HBF := zh hBF
    have HUF := zh huF
    refine tst 13 (u3.heap.size) 0 (clC ⟨cnm, csu, cfc, cab, cis, cA1, cc1, cfs, cA2, cc2, cms, cA3, cc3⟩) rfl rfl rfl rfl tq size_clx (one_clx _) (by rw [← huF]; exact HS.out _ hBF) (fun _ => ?_)
    clear tq hst hgr hBF huF
    rw [← HUF.out]
    try simp only [puts]
    have hSF := HS.out _ HBF.out
    refine tkp 14 rfl ?_
    refine wpAnyH_done (by kernel_rfl) ?_ _
    clear hSF
    rcases HCS.out with ⟨hn, hcl, rfl⟩ | ⟨k0, m, rfl, hf, hcm, hm⟩
    ·have HN := zh (show FieldR x.cs (supersL x.cs cn) s [] [] false from by unfold FieldR; rw [hn]; exact ⟨rfl, rfl, rfl⟩)
     clear hn hcl
     have rr := (HBF.out.block _ (blk_lt HRM.out)).trans HRM.out
     have q0 : uF.cell? ⟨w.heap.size + 1 + 1, 0, none⟩ = some (.string ⟨#[]⟩) := cell_of_row _ _ 0 _ _ _ rr
     have qf0 := frozen_of_row _ _ 0 _ _ rr
     have q1 : uF.cell? ⟨w.heap.size + 1 + 1, 1, none⟩ = some (.string ⟨#[]⟩) := cell_of_row _ _ 1 _ _ _ rr
     have qf1 := frozen_of_row _ _ 1 _ _ rr
     have s0 := heap_setCell_same _ (w.heap.size + 1 + 1) 0 _ _ (.string ⟨#[]⟩) rr
     have s1 := heap_setCell_same _ (w.heap.size + 1 + 1) 1 _ _ (.string ⟨#[]⟩) s0
     have gA : uF.grownBy ((uF.setCell ⟨w.heap.size + 1 + 1, 0, none⟩ (.string ⟨#[]⟩)).setCell ⟨w.heap.size + 1 + 1, 1, none⟩ (.string ⟨#[]⟩)) (some (w.heap.size + 1 + 1)) := gb_trans (gb_set _ (w.heap.size + 1 + 1) 0 _) (gb_set _ (w.heap.size + 1 + 1) 1 _)
     obtain ⟨WF, hWF⟩ : ∃ WF, WF = ((uF.setCell ⟨w.heap.size + 1 + 1, 0, none⟩ (.string ⟨#[]⟩)).setCell ⟨w.heap.size + 1 + 1, 1, none⟩ (.string ⟨#[]⟩)) := ⟨_, rfl⟩
     have ur : WF.heap[w.heap.size + 1 + 1]? = some (.cells #[.string ⟨#[]⟩, .string ⟨#[]⟩] 67 (0, 0)) := by rw [hWF, s1]; simp
     have uB : Below w.heap.size w WF := by rw [hWF]; exact (HAL.out.trans (HBF.out.mono HAL.out.size)).grown gA (HAL.out.trans (HBF.out.mono HAL.out.size)).size (fun b hb => by cases hb; omega)
     have R0 := zh (show WF.cell? ⟨w.heap.size + 1 + 1, 0, none⟩ = some (.string ⟨#[]⟩) from cell_of_row _ _ 0 _ _ _ ur)
     have R1 := zh (show WF.cell? ⟨w.heap.size + 1 + 1, 1, none⟩ = some (.string ⟨#[]⟩) from cell_of_row _ _ 1 _ _ _ ur)
     have UG := zh (show uF.grownBy WF (some (w.heap.size + 1 + 1)) from by rw [hWF]; exact gA)
     have HWF := zh hWF; have UB := zh uB
     clear rr s0 s1 gA hWF ur uB
     go_wp2
     rw [← HWF.out]
     refine bodyPost_ret (v := .tuple #[.agg #[.string ⟨#[]⟩, .string ⟨#[]⟩], .bool false]) ?_ rfl ⟨⟨[], [], false, rfl, HN.out⟩, UB.out⟩
     simp [results, Try.results36, go_sem, R0.out, R1.out]
    ·have hk1 : ((k0 : Int) == -1) = false := by simp
     have HN := zh (show FieldR x.cs (supersL x.cs cn) s cnm s true from by unfold FieldR; rw [hf]; exact ⟨rfl, rfl, rfl⟩)
     obtain ⟨e0, e1, e2, e3, e4, e5, e6⟩ := cl_cells HU.out
     dsimp only at e0 e1 e2 e3 e4 e5 e6
     have b9 := (HBF.out.block _ (blk_lt HRR.out)).trans HRR.out
     have y0 := cell_of_row _ _ 0 _ _ _ b9
     have y1 := cell_of_row _ _ 1 _ _ _ b9
     clear b9
     clear hf hcm hm
     have rr := (HBF.out.block _ (blk_lt HRM.out)).trans HRM.out
     have q0 : uF.cell? ⟨w.heap.size + 1 + 1, 0, none⟩ = some (.string ⟨#[]⟩) := cell_of_row _ _ 0 _ _ _ rr
     have qf0 := frozen_of_row _ _ 0 _ _ rr
     have q1 : uF.cell? ⟨w.heap.size + 1 + 1, 1, none⟩ = some (.string ⟨#[]⟩) := cell_of_row _ _ 1 _ _ _ rr
     have qf1 := frozen_of_row _ _ 1 _ _ rr
     have s0 := heap_setCell_same _ (w.heap.size + 1 + 1) 0 _ _ (.string ⟨cnm.toArray⟩) rr
     have s1 := heap_setCell_same _ (w.heap.size + 1 + 1) 1 _ _ (.string ⟨s.toArray⟩) s0
     have gA : uF.grownBy ((uF.setCell ⟨w.heap.size + 1 + 1, 0, none⟩ (.string ⟨cnm.toArray⟩)).setCell ⟨w.heap.size + 1 + 1, 1, none⟩ (.string ⟨s.toArray⟩)) (some (w.heap.size + 1 + 1)) := gb_trans (gb_set _ (w.heap.size + 1 + 1) 0 _) (gb_set _ (w.heap.size + 1 + 1) 1 _)
     obtain ⟨WF, hWF⟩ : ∃ WF, WF = ((uF.setCell ⟨w.heap.size + 1 + 1, 0, none⟩ (.string ⟨cnm.toArray⟩)).setCell ⟨w.heap.size + 1 + 1, 1, none⟩ (.string ⟨s.toArray⟩)) := ⟨_, rfl⟩
     have ur : WF.heap[w.heap.size + 1 + 1]? = some (.cells #[.string ⟨cnm.toArray⟩, .string ⟨s.toArray⟩] 67 (0, 0)) := by rw [hWF, s1]; simp
     have uB : Below w.heap.size w WF := by rw [hWF]; exact (HAL.out.trans (HBF.out.mono HAL.out.size)).grown gA (HAL.out.trans (HBF.out.mono HAL.out.size)).size (fun b hb => by cases hb; omega)
     have R0 := zh (show WF.cell? ⟨w.heap.size + 1 + 1, 0, none⟩ = some (.string ⟨cnm.toArray⟩) from cell_of_row _ _ 0 _ _ _ ur)
     have R1 := zh (show WF.cell? ⟨w.heap.size + 1 + 1, 1, none⟩ = some (.string ⟨s.toArray⟩) from cell_of_row _ _ 1 _ _ _ ur)
     have UG := zh (show uF.grownBy WF (some (w.heap.size + 1 + 1)) from by rw [hWF]; exact gA)
     have HWF := zh hWF; have UB := zh uB
     clear rr s0 s1 gA hWF ur uB
     go_wp2
     rw [← HWF.out]
     refine bodyPost_ret (v := .tuple #[.agg #[.string ⟨cnm.toArray⟩, .string ⟨s.toArray⟩], .bool true]) ?_ rfl ⟨⟨cnm, s, true, rfl, HN.out⟩, UB.out⟩
     simp [results, Try.results36, go_sem, R0.out, R1.out]
   ·go_simp
    obtain ⟨u3, hn⟩ : ∃ v, v = u2.alloc (.cells #[.string ⟨#[]⟩, .string ⟨#[]⟩, .bool false, .bool false, .slice none 0 0, .slice none 0 0, .slice none 0 0] 43) := ⟨_, rfl⟩
    have hb : Below u2.heap.size u2 u3 := by rw [hn]; exact (Below.refl _ _).alloc (Nat.le_refl _) _
    have hz : u3.heap[u2.heap.size]? = some (.cells #[.string ⟨#[]⟩, .string ⟨#[]⟩, .bool false, .bool false, .slice none 0 0, .slice none 0 0, .slice none 0 0] 43 (0, 0)) := by rw [hn]; exact heap_alloc_new _ _
    have HNN := zh hn
    have HGE := zh (show W.heap.size ≤ u2.heap.size from HB2.out.size)
    rw [← HNN.out]
    clear hn
    have HL3 := zh (show Below u2.heap.size u2 u3 from hb)
    have HB3 := zh (show Below W.heap.size W u3 from HB2.out.trans (HL3.out.mono HB2.out.size))
    have HC3 := zh (show u3.cell? ⟨B, 0, none⟩ = some (.slice A (supersL x.cs cn).length c) from (HL3.out.cell (World.block_lt_of_cell? _ _ HC2.out)).trans HC2.out)
    have HR3 := zh (show Rd u3 A (SX (supersL x.cs cn)) from HR2.out.below HL3.out)
    have HG3 := zh (show u3.cell? ⟨g, 0, none⟩ = some (.string ⟨s.toArray⟩) from (HL3.out.cell (World.block_lt_of_cell? _ _ HG2.out)).trans HG2.out)
    have HZ3 := zh (show u3.heap[u2.heap.size]? = some (.cells #[.string ⟨#[]⟩, .string ⟨#[]⟩, .bool false, .bool false, .slice none 0 0, .slice none 0 0, .slice none 0 0] 43 (0, 0)) from hz)
    clear hz hb
    refine hK.out _ _ (HS.out _ HB3.out) (fun hHeld => ?_)
    clear hK K
    try simp only [puts]
    refine rdy 8 rfl (fun K hK => ?_)
    go_simp
    refine (HFI.out _ B A c g (HAL.out.trans (HB3.out.mono HAL.out.size)) HC3.out HR3.out HG3.out).mono ?_
    rintro e u4 ⟨rfl, hb⟩
    have HL4 := zh (show Below u3.heap.size u3 u4 from ⟨hb.os, hb.tape, hb.output, hb.size, hb.block⟩)
    have HB4 := zh (show Below W.heap.size W u4 from HB3.out.trans (HL4.out.mono HB3.out.size))
    have HC4 := zh (show u4.cell? ⟨B, 0, none⟩ = some (.slice A (supersL x.cs cn).length c) from (HL4.out.cell (World.block_lt_of_cell? _ _ HC3.out)).trans HC3.out)
    have HR4 := zh (show Rd u4 A (SX (supersL x.cs cn)) from HR3.out.below HL4.out)
    have HG4 := zh (show u4.cell? ⟨g, 0, none⟩ = some (.string ⟨s.toArray⟩) from (HL4.out.cell (World.block_lt_of_cell? _ _ HG3.out)).trans HG3.out)
    have HZ4 := zh (show u4.heap[u2.heap.size]? = some (.cells #[.string ⟨#[]⟩, .string ⟨#[]⟩, .bool false, .bool false, .slice none 0 0, .slice none 0 0, .slice none 0 0] 43 (0, 0)) from (HL4.out.block _ (blk_lt HZ3.out)).trans HZ3.out)
    clear hb
    go_wp2_with fail
    refine hK.out _ _ (HS.out _ HB4.out) (fun hHeld => ?_)
    clear hK K
    try simp only [puts]
    have hS9 := HS.out _ HB4.out
    refine tkp 9 rfl ?_
    refine tkp 10 rfl ?_
    refine tkp 11 rfl ?_
    clear hS9
    have tq : u4.there u2.heap.size 0 7 := there_new HZ4.out
    have hst := sets_new (cs := clC ⟨cnm, csu, cfc, cab, cis, cA1, cc1, cfs, cA2, cc2, cms, cA3, cc3⟩) rfl HZ4.out
    have hgr := sets_grown u4 (u2.heap.size) 0 (clC ⟨cnm, csu, cfc, cab, cis, cA1, cc1, cfs, cA2, cc2, cms, cA3, cc3⟩)
    obtain ⟨uF, huF⟩ : ∃ v, v = u4.setCells (u2.heap.size) 0 (clC ⟨cnm, csu, cfc, cab, cis, cA1, cc1, cfs, cA2, cc2, cms, cA3, cc3⟩) := ⟨_, rfl⟩
    have hBF : Below W.heap.size W uF := by rw [huF]; exact HB4.out.grown hgr HB4.out.size (fun k hk => by cases hk; exact HGE.out)
    have HU := zh (show uF.heap[u2.heap.size]? = some (.cells (clC ⟨cnm, csu, cfc, cab, cis, cA1, cc1, cfs, cA2, cc2, cms, cA3, cc3⟩).toArray 43 (0, 0)) from by rw [huF]; exact hst)
    have HBF := zh hBF
    have HUF := zh huF
    refine tst 13 (u2.heap.size) 0 (clC ⟨cnm, csu, cfc, cab, cis, cA1, cc1, cfs, cA2, cc2, cms, cA3, cc3⟩) rfl rfl rfl rfl tq size_clx (one_clx _) (by rw [← huF]; exact HS.out _ hBF) (fun _ => ?_)
    clear tq hst hgr hBF huF
    rw [← HUF.out]
    try simp only [puts]
    have hSF := HS.out _ HBF.out
    refine tkp 14 rfl ?_
    refine wpAnyH_done (by kernel_rfl) ?_ _
    clear hSF
    rcases HCS.out with ⟨hn, hcl, rfl⟩ | ⟨k0, m, rfl, hf, hcm, hm⟩
    ·have HN := zh (show FieldR x.cs (supersL x.cs cn) s [] [] false from by unfold FieldR; rw [hn]; exact ⟨rfl, rfl, rfl⟩)
     clear hn hcl
     have rr := (HBF.out.block _ (blk_lt HRM.out)).trans HRM.out
     have q0 : uF.cell? ⟨w.heap.size + 1 + 1, 0, none⟩ = some (.string ⟨#[]⟩) := cell_of_row _ _ 0 _ _ _ rr
     have qf0 := frozen_of_row _ _ 0 _ _ rr
     have q1 : uF.cell? ⟨w.heap.size + 1 + 1, 1, none⟩ = some (.string ⟨#[]⟩) := cell_of_row _ _ 1 _ _ _ rr
     have qf1 := frozen_of_row _ _ 1 _ _ rr
     have s0 := heap_setCell_same _ (w.heap.size + 1 + 1) 0 _ _ (.string ⟨#[]⟩) rr
     have s1 := heap_setCell_same _ (w.heap.size + 1 + 1) 1 _ _ (.string ⟨#[]⟩) s0
     have gA : uF.grownBy ((uF.setCell ⟨w.heap.size + 1 + 1, 0, none⟩ (.string ⟨#[]⟩)).setCell ⟨w.heap.size + 1 + 1, 1, none⟩ (.string ⟨#[]⟩)) (some (w.heap.size + 1 + 1)) := gb_trans (gb_set _ (w.heap.size + 1 + 1) 0 _) (gb_set _ (w.heap.size + 1 + 1) 1 _)
     obtain ⟨WF, hWF⟩ : ∃ WF, WF = ((uF.setCell ⟨w.heap.size + 1 + 1, 0, none⟩ (.string ⟨#[]⟩)).setCell ⟨w.heap.size + 1 + 1, 1, none⟩ (.string ⟨#[]⟩)) := ⟨_, rfl⟩
     have ur : WF.heap[w.heap.size + 1 + 1]? = some (.cells #[.string ⟨#[]⟩, .string ⟨#[]⟩] 67 (0, 0)) := by rw [hWF, s1]; simp
     have uB : Below w.heap.size w WF := by rw [hWF]; exact (HAL.out.trans (HBF.out.mono HAL.out.size)).grown gA (HAL.out.trans (HBF.out.mono HAL.out.size)).size (fun b hb => by cases hb; omega)
     have R0 := zh (show WF.cell? ⟨w.heap.size + 1 + 1, 0, none⟩ = some (.string ⟨#[]⟩) from cell_of_row _ _ 0 _ _ _ ur)
     have R1 := zh (show WF.cell? ⟨w.heap.size + 1 + 1, 1, none⟩ = some (.string ⟨#[]⟩) from cell_of_row _ _ 1 _ _ _ ur)
     have UG := zh (show uF.grownBy WF (some (w.heap.size + 1 + 1)) from by rw [hWF]; exact gA)
     have HWF := zh hWF; have UB := zh uB
     clear rr s0 s1 gA hWF ur uB
     go_wp2
     rw [← HWF.out]
     refine bodyPost_ret (v := .tuple #[.agg #[.string ⟨#[]⟩, .string ⟨#[]⟩], .bool false]) ?_ rfl ⟨⟨[], [], false, rfl, HN.out⟩, UB.out⟩
     simp [results, Try.results36, go_sem, R0.out, R1.out]
    ·have hk1 : ((k0 : Int) == -1) = false := by simp
     have HN := zh (show FieldR x.cs (supersL x.cs cn) s cnm s true from by unfold FieldR; rw [hf]; exact ⟨rfl, rfl, rfl⟩)
     obtain ⟨e0, e1, e2, e3, e4, e5, e6⟩ := cl_cells HU.out
     dsimp only at e0 e1 e2 e3 e4 e5 e6
     have b9 := (HBF.out.block _ (blk_lt HRR.out)).trans HRR.out
     have y0 := cell_of_row _ _ 0 _ _ _ b9
     have y1 := cell_of_row _ _ 1 _ _ _ b9
     clear b9
     clear hf hcm hm
     have rr := (HBF.out.block _ (blk_lt HRM.out)).trans HRM.out
     have q0 : uF.cell? ⟨w.heap.size + 1 + 1, 0, none⟩ = some (.string ⟨#[]⟩) := cell_of_row _ _ 0 _ _ _ rr
     have qf0 := frozen_of_row _ _ 0 _ _ rr
     have q1 : uF.cell? ⟨w.heap.size + 1 + 1, 1, none⟩ = some (.string ⟨#[]⟩) := cell_of_row _ _ 1 _ _ _ rr
     have qf1 := frozen_of_row _ _ 1 _ _ rr
     have s0 := heap_setCell_same _ (w.heap.size + 1 + 1) 0 _ _ (.string ⟨cnm.toArray⟩) rr
     have s1 := heap_setCell_same _ (w.heap.size + 1 + 1) 1 _ _ (.string ⟨s.toArray⟩) s0
     have gA : uF.grownBy ((uF.setCell ⟨w.heap.size + 1 + 1, 0, none⟩ (.string ⟨cnm.toArray⟩)).setCell ⟨w.heap.size + 1 + 1, 1, none⟩ (.string ⟨s.toArray⟩)) (some (w.heap.size + 1 + 1)) := gb_trans (gb_set _ (w.heap.size + 1 + 1) 0 _) (gb_set _ (w.heap.size + 1 + 1) 1 _)
     obtain ⟨WF, hWF⟩ : ∃ WF, WF = ((uF.setCell ⟨w.heap.size + 1 + 1, 0, none⟩ (.string ⟨cnm.toArray⟩)).setCell ⟨w.heap.size + 1 + 1, 1, none⟩ (.string ⟨s.toArray⟩)) := ⟨_, rfl⟩
     have ur : WF.heap[w.heap.size + 1 + 1]? = some (.cells #[.string ⟨cnm.toArray⟩, .string ⟨s.toArray⟩] 67 (0, 0)) := by rw [hWF, s1]; simp
     have uB : Below w.heap.size w WF := by rw [hWF]; exact (HAL.out.trans (HBF.out.mono HAL.out.size)).grown gA (HAL.out.trans (HBF.out.mono HAL.out.size)).size (fun b hb => by cases hb; omega)
     have R0 := zh (show WF.cell? ⟨w.heap.size + 1 + 1, 0, none⟩ = some (.string ⟨cnm.toArray⟩) from cell_of_row _ _ 0 _ _ _ ur)
     have R1 := zh (show WF.cell? ⟨w.heap.size + 1 + 1, 1, none⟩ = some (.string ⟨s.toArray⟩) from cell_of_row _ _ 1 _ _ _ ur)
     have UG := zh (show uF.grownBy WF (some (w.heap.size + 1 + 1)) from by rw [hWF]; exact gA)
     have HWF := zh hWF; have UB := zh uB
     clear rr s0 s1 gA hWF ur uB
     go_wp2
     rw [← HWF.out]
     refine bodyPost_ret (v := .tuple #[.agg #[.string ⟨cnm.toArray⟩, .string ⟨s.toArray⟩], .bool true]) ?_ rfl ⟨⟨cnm, s, true, rfl, HN.out⟩, UB.out⟩
     simp [results, Try.results36, go_sem, R0.out, R1.out]
  ·go_simp
   obtain ⟨u2, hn⟩ : ∃ v, v = u1.alloc (.cells #[.string ⟨#[]⟩, .string ⟨#[]⟩, .bool false, .bool false, .slice none 0 0, .slice none 0 0, .slice none 0 0] 43) := ⟨_, rfl⟩
   have hb : Below u1.heap.size u1 u2 := by rw [hn]; exact (Below.refl _ _).alloc (Nat.le_refl _) _
   have hz : u2.heap[u1.heap.size]? = some (.cells #[.string ⟨#[]⟩, .string ⟨#[]⟩, .bool false, .bool false, .slice none 0 0, .slice none 0 0, .slice none 0 0] 43 (0, 0)) := by rw [hn]; exact heap_alloc_new _ _
   have HNN := zh hn
   have HGE := zh (show W.heap.size ≤ u1.heap.size from HB1.out.size)
   rw [← HNN.out]
   clear hn
   have HL2 := zh (show Below u1.heap.size u1 u2 from hb)
   have HB2 := zh (show Below W.heap.size W u2 from HB1.out.trans (HL2.out.mono HB1.out.size))
   have HC2 := zh (show u2.cell? ⟨B, 0, none⟩ = some (.slice A (supersL x.cs cn).length c) from (HL2.out.cell (World.block_lt_of_cell? _ _ HC1.out)).trans HC1.out)
   have HR2 := zh (show Rd u2 A (SX (supersL x.cs cn)) from HR1.out.below HL2.out)
   have HZ2 := zh (show u2.heap[u1.heap.size]? = some (.cells #[.string ⟨#[]⟩, .string ⟨#[]⟩, .bool false, .bool false, .slice none 0 0, .slice none 0 0, .slice none 0 0] 43 (0, 0)) from hz)
   clear hz hb
   refine hK.out _ _ (HS.out _ HB2.out) (fun hHeld => ?_)
   clear hK K
   try simp only [puts]
   refine rdy 7 rfl (fun K hK => ?_)
   go_simp
   refine (field_b s _).mono ?_
   rintro e u3 ⟨⟨g, rfl, hg1⟩, hb⟩
   have HL3 := zh (show Below u2.heap.size u2 u3 from ⟨hb.os, hb.tape, hb.output, hb.size, hb.block⟩)
   have HB3 := zh (show Below W.heap.size W u3 from HB2.out.trans (HL3.out.mono HB2.out.size))
   have HC3 := zh (show u3.cell? ⟨B, 0, none⟩ = some (.slice A (supersL x.cs cn).length c) from (HL3.out.cell (World.block_lt_of_cell? _ _ HC2.out)).trans HC2.out)
   have HR3 := zh (show Rd u3 A (SX (supersL x.cs cn)) from HR2.out.below HL3.out)
   have HZ3 := zh (show u3.heap[u1.heap.size]? = some (.cells #[.string ⟨#[]⟩, .string ⟨#[]⟩, .bool false, .bool false, .slice none 0 0, .slice none 0 0, .slice none 0 0] 43 (0, 0)) from (HL3.out.block _ (blk_lt HZ2.out)).trans HZ2.out)
   have HG3 := zh (show u3.cell? ⟨g, 0, none⟩ = some (.string ⟨s.toArray⟩) from hg1)
   clear hg1 hb
   go_wp2_with fail
   refine hK.out _ _ (HS.out _ HB3.out) (fun hHeld => ?_)
   clear hK K
   try simp only [puts]
   refine rdy 8 rfl (fun K hK => ?_)
   go_simp
   refine (HFI.out _ B A c g (HAL.out.trans (HB3.out.mono HAL.out.size)) HC3.out HR3.out HG3.out).mono ?_
   rintro e u4 ⟨rfl, hb⟩
   have HL4 := zh (show Below u3.heap.size u3 u4 from ⟨hb.os, hb.tape, hb.output, hb.size, hb.block⟩)
   have HB4 := zh (show Below W.heap.size W u4 from HB3.out.trans (HL4.out.mono HB3.out.size))
   have HC4 := zh (show u4.cell? ⟨B, 0, none⟩ = some (.slice A (supersL x.cs cn).length c) from (HL4.out.cell (World.block_lt_of_cell? _ _ HC3.out)).trans HC3.out)
   have HR4 := zh (show Rd u4 A (SX (supersL x.cs cn)) from HR3.out.below HL4.out)
   have HZ4 := zh (show u4.heap[u1.heap.size]? = some (.cells #[.string ⟨#[]⟩, .string ⟨#[]⟩, .bool false, .bool false, .slice none 0 0, .slice none 0 0, .slice none 0 0] 43 (0, 0)) from (HL4.out.block _ (blk_lt HZ3.out)).trans HZ3.out)
   have HG4 := zh (show u4.cell? ⟨g, 0, none⟩ = some (.string ⟨s.toArray⟩) from (HL4.out.cell (World.block_lt_of_cell? _ _ HG3.out)).trans HG3.out)
   clear hb
   go_wp2_with fail
   refine hK.out _ _ (HS.out _ HB4.out) (fun hHeld => ?_)
   clear hK K
   try simp only [puts]
   have hS9 := HS.out _ HB4.out
   refine tkp 9 rfl ?_
   refine tkp 10 rfl ?_
   refine tkp 11 rfl ?_
   clear hS9
   have tq : u4.there u1.heap.size 0 7 := there_new HZ4.out
   have hst := sets_new (cs := clC ⟨cnm, csu, cfc, cab, cis, cA1, cc1, cfs, cA2, cc2, cms, cA3, cc3⟩) rfl HZ4.out
   have hgr := sets_grown u4 (u1.heap.size) 0 (clC ⟨cnm, csu, cfc, cab, cis, cA1, cc1, cfs, cA2, cc2, cms, cA3, cc3⟩)
   obtain ⟨uF, huF⟩ : ∃ v, v = u4.setCells (u1.heap.size) 0 (clC ⟨cnm, csu, cfc, cab, cis, cA1, cc1, cfs, cA2, cc2, cms, cA3, cc3⟩) := ⟨_, rfl⟩
   have hBF : Below W.heap.size W uF := by rw [huF]; exact HB4.out.grown hgr HB4.out.size (fun k hk => by cases hk; exact HGE.out)
   have HU := zh (show uF.heap[u1.heap.size]? = some (.cells (clC ⟨cnm, csu, cfc, cab, cis, cA1, cc1, cfs, cA2, cc2, cms, cA3, cc3⟩).toArray 43 (0, 0)) from by rw [huF]; exact hst)
   have HBF := zh hBF
   have HUF := zh huF
   refine tst 13 (u1.heap.size) 0 (clC ⟨cnm, csu, cfc, cab, cis, cA1, cc1, cfs, cA2, cc2, cms, cA3, cc3⟩) rfl rfl rfl rfl tq size_clx (one_clx _) (by rw [← huF]; exact HS.out _ hBF) (fun _ => ?_)
   clear tq hst hgr hBF huF
   rw [← HUF.out]
   try simp only [puts]
   have hSF := HS.out _ HBF.out
   refine tkp 14 rfl ?_
   refine wpAnyH_done (by kernel_rfl) ?_ _
   clear hSF
   rcases HCS.out with ⟨hn, hcl, rfl⟩ | ⟨k0, m, rfl, hf, hcm, hm⟩
   ·have HN := zh (show FieldR x.cs (supersL x.cs cn) s [] [] false from by unfold FieldR; rw [hn]; exact ⟨rfl, rfl, rfl⟩)
    clear hn hcl
    have rr := (HBF.out.block _ (blk_lt HRM.out)).trans HRM.out
    have q0 : uF.cell? ⟨w.heap.size + 1 + 1, 0, none⟩ = some (.string ⟨#[]⟩) := cell_of_row _ _ 0 _ _ _ rr
    have qf0 := frozen_of_row _ _ 0 _ _ rr
    have q1 : uF.cell? ⟨w.heap.size + 1 + 1, 1, none⟩ = some (.string ⟨#[]⟩) := cell_of_row _ _ 1 _ _ _ rr
    have qf1 := frozen_of_row _ _ 1 _ _ rr
    have s0 := heap_setCell_same _ (w.heap.size + 1 + 1) 0 _ _ (.string ⟨#[]⟩) rr
    have s1 := heap_setCell_same _ (w.heap.size + 1 + 1) 1 _ _ (.string ⟨#[]⟩) s0
    have gA : uF.grownBy ((uF.setCell ⟨w.heap.size + 1 + 1, 0, none⟩ (.string ⟨#[]⟩)).setCell ⟨w.heap.size + 1 + 1, 1, none⟩ (.string ⟨#[]⟩)) (some (w.heap.size + 1 + 1)) := gb_trans (gb_set _ (w.heap.size + 1 + 1) 0 _) (gb_set _ (w.heap.size + 1 + 1) 1 _)
    obtain ⟨WF, hWF⟩ : ∃ WF, WF = ((uF.setCell ⟨w.heap.size + 1 + 1, 0, none⟩ (.string ⟨#[]⟩)).setCell ⟨w.heap.size + 1 + 1, 1, none⟩ (.string ⟨#[]⟩)) := ⟨_, rfl⟩
    have ur : WF.heap[w.heap.size + 1 + 1]? = some (.cells #[.string ⟨#[]⟩, .string ⟨#[]⟩] 67 (0, 0)) := by rw [hWF, s1]; simp
    have uB : Below w.heap.size w WF := by rw [hWF]; exact (HAL.out.trans (HBF.out.mono HAL.out.size)).grown gA (HAL.out.trans (HBF.out.mono HAL.out.size)).size (fun b hb => by cases hb; omega)
    have R0 := zh (show WF.cell? ⟨w.heap.size + 1 + 1, 0, none⟩ = some (.string ⟨#[]⟩) from cell_of_row _ _ 0 _ _ _ ur)
    have R1 := zh (show WF.cell? ⟨w.heap.size + 1 + 1, 1, none⟩ = some (.string ⟨#[]⟩) from cell_of_row _ _ 1 _ _ _ ur)
    have UG := zh (show uF.grownBy WF (some (w.heap.size + 1 + 1)) from by rw [hWF]; exact gA)
    have HWF := zh hWF; have UB := zh uB
    clear rr s0 s1 gA hWF ur uB
    go_wp2
    rw [← HWF.out]
    refine bodyPost_ret (v := .tuple #[.agg #[.string ⟨#[]⟩, .string ⟨#[]⟩], .bool false]) ?_ rfl ⟨⟨[], [], false, rfl, HN.out⟩, UB.out⟩
    simp [results, Try.results36, go_sem, R0.out, R1.out]
   ·have hk1 : ((k0 : Int) == -1) = false := by simp
    have HN := zh (show FieldR x.cs (supersL x.cs cn) s cnm s true from by unfold FieldR; rw [hf]; exact ⟨rfl, rfl, rfl⟩)
    obtain ⟨e0, e1, e2, e3, e4, e5, e6⟩ := cl_cells HU.out
    dsimp only at e0 e1 e2 e3 e4 e5 e6
    have b9 := (HBF.out.block _ (blk_lt HRR.out)).trans HRR.out
    have y0 := cell_of_row _ _ 0 _ _ _ b9
    have y1 := cell_of_row _ _ 1 _ _ _ b9
    clear b9
    clear hf hcm hm
    have rr := (HBF.out.block _ (blk_lt HRM.out)).trans HRM.out
    have q0 : uF.cell? ⟨w.heap.size + 1 + 1, 0, none⟩ = some (.string ⟨#[]⟩) := cell_of_row _ _ 0 _ _ _ rr
    have qf0 := frozen_of_row _ _ 0 _ _ rr
    have q1 : uF.cell? ⟨w.heap.size + 1 + 1, 1, none⟩ = some (.string ⟨#[]⟩) := cell_of_row _ _ 1 _ _ _ rr
    have qf1 := frozen_of_row _ _ 1 _ _ rr
    have s0 := heap_setCell_same _ (w.heap.size + 1 + 1) 0 _ _ (.string ⟨cnm.toArray⟩) rr
    have s1 := heap_setCell_same _ (w.heap.size + 1 + 1) 1 _ _ (.string ⟨s.toArray⟩) s0
    have gA : uF.grownBy ((uF.setCell ⟨w.heap.size + 1 + 1, 0, none⟩ (.string ⟨cnm.toArray⟩)).setCell ⟨w.heap.size + 1 + 1, 1, none⟩ (.string ⟨s.toArray⟩)) (some (w.heap.size + 1 + 1)) := gb_trans (gb_set _ (w.heap.size + 1 + 1) 0 _) (gb_set _ (w.heap.size + 1 + 1) 1 _)
    obtain ⟨WF, hWF⟩ : ∃ WF, WF = ((uF.setCell ⟨w.heap.size + 1 + 1, 0, none⟩ (.string ⟨cnm.toArray⟩)).setCell ⟨w.heap.size + 1 + 1, 1, none⟩ (.string ⟨s.toArray⟩)) := ⟨_, rfl⟩
    have ur : WF.heap[w.heap.size + 1 + 1]? = some (.cells #[.string ⟨cnm.toArray⟩, .string ⟨s.toArray⟩] 67 (0, 0)) := by rw [hWF, s1]; simp
    have uB : Below w.heap.size w WF := by rw [hWF]; exact (HAL.out.trans (HBF.out.mono HAL.out.size)).grown gA (HAL.out.trans (HBF.out.mono HAL.out.size)).size (fun b hb => by cases hb; omega)
    have R0 := zh (show WF.cell? ⟨w.heap.size + 1 + 1, 0, none⟩ = some (.string ⟨cnm.toArray⟩) from cell_of_row _ _ 0 _ _ _ ur)
    have R1 := zh (show WF.cell? ⟨w.heap.size + 1 + 1, 1, none⟩ = some (.string ⟨s.toArray⟩) from cell_of_row _ _ 1 _ _ _ ur)
    have UG := zh (show uF.grownBy WF (some (w.heap.size + 1 + 1)) from by rw [hWF]; exact gA)
    have HWF := zh hWF; have UB := zh uB
    clear rr s0 s1 gA hWF ur uB
    go_wp2
    rw [← HWF.out]
    refine bodyPost_ret (v := .tuple #[.agg #[.string ⟨cnm.toArray⟩, .string ⟨s.toArray⟩], .bool true]) ?_ rfl ⟨⟨cnm, s, true, rfl, HN.out⟩, UB.out⟩
    simp [results, Try.results36, go_sem, R0.out, R1.out]
 ·go_simp
  obtain ⟨u1, hn⟩ : ∃ v, v = u0.alloc (.cells #[.string ⟨#[]⟩, .string ⟨#[]⟩, .bool false, .bool false, .slice none 0 0, .slice none 0 0, .slice none 0 0] 43) := ⟨_, rfl⟩
  have hb : Below u0.heap.size u0 u1 := by rw [hn]; exact (Below.refl _ _).alloc (Nat.le_refl _) _
  have hz : u1.heap[u0.heap.size]? = some (.cells #[.string ⟨#[]⟩, .string ⟨#[]⟩, .bool false, .bool false, .slice none 0 0, .slice none 0 0, .slice none 0 0] 43 (0, 0)) := by rw [hn]; exact heap_alloc_new _ _
  have HNN := zh hn
  have HGE := zh (show W.heap.size ≤ u0.heap.size from HB0.out.size)
  rw [← HNN.out]
  clear hn
  have HL1 := zh (show Below u0.heap.size u0 u1 from hb)
  have HB1 := zh (show Below W.heap.size W u1 from HB0.out.trans (HL1.out.mono HB0.out.size))
  have HZ1 := zh (show u1.heap[u0.heap.size]? = some (.cells #[.string ⟨#[]⟩, .string ⟨#[]⟩, .bool false, .bool false, .slice none 0 0, .slice none 0 0, .slice none 0 0] 43 (0, 0)) from hz)
  clear hz hb
  refine hK.out _ _ (HS.out _ HB1.out) (fun hHeld => ?_)
  clear hK K
  try simp only [puts]
  refine rdy 4 rfl (fun K hK => ?_)
  go_simp
  refine (HSQ.out _ HB1.out).mono ?_
  rintro e u2 ⟨⟨B, A, c, rfl, hc, hr⟩, hb⟩
  have HL2 := zh (show Below u1.heap.size u1 u2 from ⟨hb.os, hb.tape, hb.output, hb.size, hb.block⟩)
  have HB2 := zh (show Below W.heap.size W u2 from HB1.out.trans (HL2.out.mono HB1.out.size))
  have HZ2 := zh (show u2.heap[u0.heap.size]? = some (.cells #[.string ⟨#[]⟩, .string ⟨#[]⟩, .bool false, .bool false, .slice none 0 0, .slice none 0 0, .slice none 0 0] 43 (0, 0)) from (HL2.out.block _ (blk_lt HZ1.out)).trans HZ1.out)
  have HC2 := zh (show u2.cell? ⟨B, 0, none⟩ = some (.slice A (supersL x.cs cn).length c) from hc)
  have HR2 := zh (show Rd u2 A (SX (supersL x.cs cn)) from hr)
  clear hc hr hb
  go_wp2_with fail
  refine hK.out _ _ (HS.out _ HB2.out) (fun hHeld => ?_)
  clear hK K
  try simp only [puts]
  refine rdy 7 rfl (fun K hK => ?_)
  go_simp
  refine (field_b s _).mono ?_
  rintro e u3 ⟨⟨g, rfl, hg1⟩, hb⟩
  have HL3 := zh (show Below u2.heap.size u2 u3 from ⟨hb.os, hb.tape, hb.output, hb.size, hb.block⟩)
  have HB3 := zh (show Below W.heap.size W u3 from HB2.out.trans (HL3.out.mono HB2.out.size))
  have HZ3 := zh (show u3.heap[u0.heap.size]? = some (.cells #[.string ⟨#[]⟩, .string ⟨#[]⟩, .bool false, .bool false, .slice none 0 0, .slice none 0 0, .slice none 0 0] 43 (0, 0)) from (HL3.out.block _ (blk_lt HZ2.out)).trans HZ2.out)
  have HC3 := zh (show u3.cell? ⟨B, 0, none⟩ = some (.slice A (supersL x.cs cn).length c) from (HL3.out.cell (World.block_lt_of_cell? _ _ HC2.out)).trans HC2.out)
  have HR3 := zh (show Rd u3 A (SX (supersL x.cs cn)) from HR2.out.below HL3.out)
  have HG3 := zh (show u3.cell? ⟨g, 0, none⟩ = some (.string ⟨s.toArray⟩) from hg1)
  clear hg1 hb
  go_wp2_with fail
  refine hK.out _ _ (HS.out _ HB3.out) (fun hHeld => ?_)
  clear hK K
  try simp only [puts]
  refine rdy 8 rfl (fun K hK => ?_)
  go_simp
  refine (HFI.out _ B A c g (HAL.out.trans (HB3.out.mono HAL.out.size)) HC3.out HR3.out HG3.out).mono ?_
  rintro e u4 ⟨rfl, hb⟩
  have HL4 := zh (show Below u3.heap.size u3 u4 from ⟨hb.os, hb.tape, hb.output, hb.size, hb.block⟩)
  have HB4 := zh (show Below W.heap.size W u4 from HB3.out.trans (HL4.out.mono HB3.out.size))
  have HZ4 := zh (show u4.heap[u0.heap.size]? = some (.cells #[.string ⟨#[]⟩, .string ⟨#[]⟩, .bool false, .bool false, .slice none 0 0, .slice none 0 0, .slice none 0 0] 43 (0, 0)) from (HL4.out.block _ (blk_lt HZ3.out)).trans HZ3.out)
  have HC4 := zh (show u4.cell? ⟨B, 0, none⟩ = some (.slice A (supersL x.cs cn).length c) from (HL4.out.cell (World.block_lt_of_cell? _ _ HC3.out)).trans HC3.out)
  have HR4 := zh (show Rd u4 A (SX (supersL x.cs cn)) from HR3.out.below HL4.out)
  have HG4 := zh (show u4.cell? ⟨g, 0, none⟩ = some (.string ⟨s.toArray⟩) from (HL4.out.cell (World.block_lt_of_cell? _ _ HG3.out)).trans HG3.out)
  clear hb
  go_wp2_with fail
  refine hK.out _ _ (HS.out _ HB4.out) (fun hHeld => ?_)
  clear hK K
  try simp only [puts]
  have hS9 := HS.out _ HB4.out
  refine tkp 9 rfl ?_
  refine tkp 10 rfl ?_
  refine tkp 11 rfl ?_
  clear hS9
  have tq : u4.there u0.heap.size 0 7 := there_new HZ4.out
  have hst := sets_new (cs := clC ⟨cnm, csu, cfc, cab, cis, cA1, cc1, cfs, cA2, cc2, cms, cA3, cc3⟩) rfl HZ4.out
  have hgr := sets_grown u4 (u0.heap.size) 0 (clC ⟨cnm, csu, cfc, cab, cis, cA1, cc1, cfs, cA2, cc2, cms, cA3, cc3⟩)
  obtain ⟨uF, huF⟩ : ∃ v, v = u4.setCells (u0.heap.size) 0 (clC ⟨cnm, csu, cfc, cab, cis, cA1, cc1, cfs, cA2, cc2, cms, cA3, cc3⟩) := ⟨_, rfl⟩
  have hBF : Below W.heap.size W uF := by rw [huF]; exact HB4.out.grown hgr HB4.out.size (fun k hk => by cases hk; exact HGE.out)
  have HU := zh (show uF.heap[u0.heap.size]? = some (.cells (clC ⟨cnm, csu, cfc, cab, cis, cA1, cc1, cfs, cA2, cc2, cms, cA3, cc3⟩).toArray 43 (0, 0)) from by rw [huF]; exact hst)
  have HBF := zh hBF
  have HUF := zh huF
  refine tst 13 (u0.heap.size) 0 (clC ⟨cnm, csu, cfc, cab, cis, cA1, cc1, cfs, cA2, cc2, cms, cA3, cc3⟩) rfl rfl rfl rfl tq size_clx (one_clx _) (by rw [← huF]; exact HS.out _ hBF) (fun _ => ?_)
  clear tq hst hgr hBF huF
  rw [← HUF.out]
  try simp only [puts]
  have hSF := HS.out _ HBF.out
  refine tkp 14 rfl ?_
  refine wpAnyH_done (by kernel_rfl) ?_ _
  clear hSF
  rcases HCS.out with ⟨hn, hcl, rfl⟩ | ⟨k0, m, rfl, hf, hcm, hm⟩
  ·have HN := zh (show FieldR x.cs (supersL x.cs cn) s [] [] false from by unfold FieldR; rw [hn]; exact ⟨rfl, rfl, rfl⟩)
   clear hn hcl
   have rr := (HBF.out.block _ (blk_lt HRM.out)).trans HRM.out
   have q0 : uF.cell? ⟨w.heap.size + 1 + 1, 0, none⟩ = some (.string ⟨#[]⟩) := cell_of_row _ _ 0 _ _ _ rr
   have qf0 := frozen_of_row _ _ 0 _ _ rr
   have q1 : uF.cell? ⟨w.heap.size + 1 + 1, 1, none⟩ = some (.string ⟨#[]⟩) := cell_of_row _ _ 1 _ _ _ rr
   have qf1 := frozen_of_row _ _ 1 _ _ rr
   have s0 := heap_setCell_same _ (w.heap.size + 1 + 1) 0 _ _ (.string ⟨#[]⟩) rr
   have s1 := heap_setCell_same _ (w.heap.size + 1 + 1) 1 _ _ (.string ⟨#[]⟩) s0
   have gA : uF.grownBy ((uF.setCell ⟨w.heap.size + 1 + 1, 0, none⟩ (.string ⟨#[]⟩)).setCell ⟨w.heap.size + 1 + 1, 1, none⟩ (.string ⟨#[]⟩)) (some (w.heap.size + 1 + 1)) := gb_trans (gb_set _ (w.heap.size + 1 + 1) 0 _) (gb_set _ (w.heap.size + 1 + 1) 1 _)
   obtain ⟨WF, hWF⟩ : ∃ WF, WF = ((uF.setCell ⟨w.heap.size + 1 + 1, 0, none⟩ (.string ⟨#[]⟩)).setCell ⟨w.heap.size + 1 + 1, 1, none⟩ (.string ⟨#[]⟩)) := ⟨_, rfl⟩
   have ur : WF.heap[w.heap.size + 1 + 1]? = some (.cells #[.string ⟨#[]⟩, .string ⟨#[]⟩] 67 (0, 0)) := by rw [hWF, s1]; simp
   have uB : Below w.heap.size w WF := by rw [hWF]; exact (HAL.out.trans (HBF.out.mono HAL.out.size)).grown gA (HAL.out.trans (HBF.out.mono HAL.out.size)).size (fun b hb => by cases hb; omega)
   have R0 := zh (show WF.cell? ⟨w.heap.size + 1 + 1, 0, none⟩ = some (.string ⟨#[]⟩) from cell_of_row _ _ 0 _ _ _ ur)
   have R1 := zh (show WF.cell? ⟨w.heap.size + 1 + 1, 1, none⟩ = some (.string ⟨#[]⟩) from cell_of_row _ _ 1 _ _ _ ur)
   have UG := zh (show uF.grownBy WF (some (w.heap.size + 1 + 1)) from by rw [hWF]; exact gA)
   have HWF := zh hWF; have UB := zh uB
   clear rr s0 s1 gA hWF ur uB
   go_wp2
   rw [← HWF.out]
   refine bodyPost_ret (v := .tuple #[.agg #[.string ⟨#[]⟩, .string ⟨#[]⟩], .bool false]) ?_ rfl ⟨⟨[], [], false, rfl, HN.out⟩, UB.out⟩
   simp [results, Try.results36, go_sem, R0.out, R1.out]
  ·have hk1 : ((k0 : Int) == -1) = false := by simp
   have HN := zh (show FieldR x.cs (supersL x.cs cn) s cnm s true from by unfold FieldR; rw [hf]; exact ⟨rfl, rfl, rfl⟩)
   obtain ⟨e0, e1, e2, e3, e4, e5, e6⟩ := cl_cells HU.out
   dsimp only at e0 e1 e2 e3 e4 e5 e6
   have b9 := (HBF.out.block _ (blk_lt HRR.out)).trans HRR.out
   have y0 := cell_of_row _ _ 0 _ _ _ b9
   have y1 := cell_of_row _ _ 1 _ _ _ b9
   clear b9
   clear hf hcm hm
   have rr := (HBF.out.block _ (blk_lt HRM.out)).trans HRM.out
   have q0 : uF.cell? ⟨w.heap.size + 1 + 1, 0, none⟩ = some (.string ⟨#[]⟩) := cell_of_row _ _ 0 _ _ _ rr
   have qf0 := frozen_of_row _ _ 0 _ _ rr
   have q1 : uF.cell? ⟨w.heap.size + 1 + 1, 1, none⟩ = some (.string ⟨#[]⟩) := cell_of_row _ _ 1 _ _ _ rr
   have qf1 := frozen_of_row _ _ 1 _ _ rr
   have s0 := heap_setCell_same _ (w.heap.size + 1 + 1) 0 _ _ (.string ⟨cnm.toArray⟩) rr
   have s1 := heap_setCell_same _ (w.heap.size + 1 + 1) 1 _ _ (.string ⟨s.toArray⟩) s0
   have gA : uF.grownBy ((uF.setCell ⟨w.heap.size + 1 + 1, 0, none⟩ (.string ⟨cnm.toArray⟩)).setCell ⟨w.heap.size + 1 + 1, 1, none⟩ (.string ⟨s.toArray⟩)) (some (w.heap.size + 1 + 1)) := gb_trans (gb_set _ (w.heap.size + 1 + 1) 0 _) (gb_set _ (w.heap.size + 1 + 1) 1 _)
   obtain ⟨WF, hWF⟩ : ∃ WF, WF = ((uF.setCell ⟨w.heap.size + 1 + 1, 0, none⟩ (.string ⟨cnm.toArray⟩)).setCell ⟨w.heap.size + 1 + 1, 1, none⟩ (.string ⟨s.toArray⟩)) := ⟨_, rfl⟩
   have ur : WF.heap[w.heap.size + 1 + 1]? = some (.cells #[.string ⟨cnm.toArray⟩, .string ⟨s.toArray⟩] 67 (0, 0)) := by rw [hWF, s1]; simp
   have uB : Below w.heap.size w WF := by rw [hWF]; exact (HAL.out.trans (HBF.out.mono HAL.out.size)).grown gA (HAL.out.trans (HBF.out.mono HAL.out.size)).size (fun b hb => by cases hb; omega)
   have R0 := zh (show WF.cell? ⟨w.heap.size + 1 + 1, 0, none⟩ = some (.string ⟨cnm.toArray⟩) from cell_of_row _ _ 0 _ _ _ ur)
   have R1 := zh (show WF.cell? ⟨w.heap.size + 1 + 1, 1, none⟩ = some (.string ⟨s.toArray⟩) from cell_of_row _ _ 1 _ _ _ ur)
   have UG := zh (show uF.grownBy WF (some (w.heap.size + 1 + 1)) from by rw [hWF]; exact gA)
   have HWF := zh hWF; have UB := zh uB
   clear rr s0 s1 gA hWF ur uB
   go_wp2
   rw [← HWF.out]
   refine bodyPost_ret (v := .tuple #[.agg #[.string ⟨cnm.toArray⟩, .string ⟨s.toArray⟩], .bool true]) ?_ rfl ⟨⟨cnm, s, true, rfl, HN.out⟩, UB.out⟩
   simp [results, Try.results36, go_sem, R0.out, R1.out]
theorem fieldOf_w (x : PrM) (cn s : Tx) (w : World) (hk : PrOk w x) (hg : GrP x) : Calls Try.prog 39 #[.agg (prC x).toArray, .agg #[.string ⟨cn.toArray⟩, .string ⟨s.toArray⟩]] w (FieldOfP x.cs cn s w) := by
 obtain ⟨W, hW⟩ : ∃ W, W = ((w.alloc (.cells (prC x).toArray 27)).alloc (.cells #[.string ⟨cn.toArray⟩, .string ⟨s.toArray⟩] 67)).alloc (.cells #[.string ⟨#[]⟩, .int .i64 0, .string ⟨#[]⟩, .bool false] 92) := ⟨_, rfl⟩
 have hal : Below w.heap.size w W := by rw [hW]; exact (((Below.refl _ w).alloc (Nat.le_refl _) _).alloc (by simp) _).alloc (by simp; omega) _
 have hblk : W.heap[w.heap.size]? = some (.cells (prC x).toArray 27 (0, 0)) := by rw [hW]; exact (Below.heap_alloc _ _ _ (by simp <;> omega)).trans ((Below.heap_alloc _ _ _ (by simp)).trans (heap_alloc_new w _))
 have hbr : W.heap[w.heap.size + 1]? = some (.cells #[.string ⟨cn.toArray⟩, .string ⟨s.toArray⟩] 67 (0, 0)) := by
  have := heap_alloc_new (w.alloc (.cells (prC x).toArray 27)) (.cells #[.string ⟨cn.toArray⟩, .string ⟨s.toArray⟩] 67)
  rw [World.size_alloc] at this
  rw [hW]; exact (Below.heap_alloc _ _ _ (by simp)).trans this
 have hbm : W.heap[w.heap.size + 1 + 1]? = some (.cells #[.string ⟨#[]⟩, .int .i64 0, .string ⟨#[]⟩, .bool false] 92 (0, 0)) := by
  have := heap_alloc_new ((w.alloc (.cells (prC x).toArray 27)).alloc (.cells #[.string ⟨cn.toArray⟩, .string ⟨s.toArray⟩] 67)) (.cells #[.string ⟨#[]⟩, .int .i64 0, .string ⟨#[]⟩, .bool false] 92)
  rw [World.size_alloc, World.size_alloc] at this
  rw [hW]; exact this
 have HAL := zh hal; have HRM := zh hbm
 have HS := zh (show ∀ u : World, Below W.heap.size W u → (fun w' => (w'.cell? ⟨w.heap.size, 0, none⟩ = some (.slice x.A1 x.cs.length x.c1) ∧ w'.cell? ⟨w.heap.size, 1, none⟩ = some (.slice x.A2 x.ns.length x.c2) ∧ w'.cell? ⟨w.heap.size, 2, none⟩ = some (.string ⟨x.ec.toArray⟩) ∧ w'.cell? ⟨w.heap.size, 3, none⟩ = some (.string ⟨x.en.toArray⟩) ∧ w'.cell? ⟨w.heap.size, 4, none⟩ = some (.string ⟨x.ed.toArray⟩)) ∧ w'.cell? ⟨w.heap.size + 1, 0, none⟩ = some (.string ⟨cn.toArray⟩) ∧ w'.cell? ⟨w.heap.size + 1, 1, none⟩ = some (.string ⟨s.toArray⟩)) u from fun u hu => by
  have a := pr_cells ((hu.block _ (blk_lt hblk)).trans hblk)
  have b := (hu.block _ (blk_lt hbr)).trans hbr
  exact ⟨⟨a.1, a.2.1, a.2.2.1, a.2.2.2.1, a.2.2.2.2⟩, cell_of_row _ _ 0 _ _ _ b, cell_of_row _ _ 1 _ _ _ b⟩)
 have HKW := zh (fun (u : World) (hu : Below W.heap.size W u) => (hk.below hal).below hu)
 have HGP := zh hg
 have HFI := zh (fun v B A c g (hv : Below w.heap.size w v) h0 hr h1 => firstF_w x ([cn]) s B g A c v (hk.below hv) hg h0 hr (by simp) h1)
 obtain ⟨q, hq⟩ : ∃ q, q = firstFR x.cs ([cn]) s := ⟨_, rfl⟩
 rw [← hq] at HFI
 have hcs : (firstFM x.cs ([cn]) s = none ∧ q.1 = zeroC ∧ q.2 = -1) ∨ ∃ k m, q.2 = ((k : Nat) : Int) ∧ firstFM x.cs ([cn]) s = some (q.1, k) ∧ q.1 ∈ x.cs ∧ q.1.fs[k]? = some m := by
  cases hf : firstFM x.cs ([cn]) s with
  | none => rw [firstFR_none hf] at hq; rw [hq]; exact .inl ⟨rfl, rfl, rfl⟩
  | some r =>
   obtain ⟨c, k⟩ := r
   rw [firstFR_some hf] at hq
   obtain ⟨hm, m, h1, -⟩ := firstFM_at hf
   rw [hq]
   exact .inr ⟨k, m, rfl, rfl, hm, h1⟩
 clear hq
 have HRR := zh hbr
 obtain ⟨⟨cnm, csu, cfc, cab, cis, cA1, cc1, cfs, cA2, cc2, cms, cA3, cc3⟩, kk⟩ := q
 dsimp only at hcs HFI
 have HCS := zh hcs
 dsimp only [clC] at HFI
 have HSQ := zh (fun (u : World) (hu : Below W.heap.size W u) => supers_f x cn u ((hk.below hal).below hu) hg)
 unfold prC at hW HFI HSQ ⊢
 try dsimp only at hW HFI HSQ ⊢
 have HW := zh hW
 clear hal hblk hbr hbm hW hcs
 go_enter Try.func39, Try.ntmps39
 go_wp2_with fail
 try simp only [World.size_alloc]
 rw [← HW.out]
 (try go_wp2_with fail)
 refine wp_region_held_drew (S := (fun w' => (w'.cell? ⟨w.heap.size, 0, none⟩ = some (.slice x.A1 x.cs.length x.c1) ∧ w'.cell? ⟨w.heap.size, 1, none⟩ = some (.slice x.A2 x.ns.length x.c2) ∧ w'.cell? ⟨w.heap.size, 2, none⟩ = some (.string ⟨x.ec.toArray⟩) ∧ w'.cell? ⟨w.heap.size, 3, none⟩ = some (.string ⟨x.en.toArray⟩) ∧ w'.cell? ⟨w.heap.size, 4, none⟩ = some (.string ⟨x.ed.toArray⟩)) ∧ w'.cell? ⟨w.heap.size + 1, 0, none⟩ = some (.string ⟨cn.toArray⟩) ∧ w'.cell? ⟨w.heap.size + 1, 1, none⟩ = some (.string ⟨s.toArray⟩))) (by kernel_rfl) ?_ (fun hHeld => ?_)
 ·exact HS.out _ (by exact ⟨rfl, rfl, rfl, Nat.le_refl _, fun _ _ => rfl⟩)
 obtain ⟨u0, hWd⟩ : ∃ u, u = W.drew := ⟨_, rfl⟩
 have HB0 := zh (show Below W.heap.size W u0 from by rw [hWd]; exact ⟨rfl, rfl, rfl, Nat.le_refl _, fun _ _ => rfl⟩)
 rw [← hWd]
 have hS0 := HS.out _ HB0.out
 clear hWd
 refine tkp 0 rfl ?_
 refine tkp 1 rfl ?_
 refine tkp 2 rfl ?_
 refine tkp 4 rfl ?_
 refine tkp 5 rfl ?_
 clear hS0
 refine wpAnyH_ready (rs := [3, 11]) (by kernel_rfl) (by simp) (AllReadyH.cons rfl (fun K hK => ?_) (AllReadyH.cons rfl (fun K hK => ?_) AllReadyH.nil))
 ·go_simp
  refine (only_w cn _).mono ?_
  rintro e u1 ⟨⟨B, A, c, rfl, hc, hr⟩, hb⟩
  have HL1 := zh (show Below u0.heap.size u0 u1 from ⟨hb.os, hb.tape, hb.output, hb.size, hb.block⟩)
  have HB1 := zh (show Below W.heap.size W u1 from HB0.out.trans (HL1.out.mono HB0.out.size))
  have HC1 := zh (show u1.cell? ⟨B, 0, none⟩ = some (.slice A ([cn]).length c) from hc)
  have HR1 := zh (show Rd u1 A (SX ([cn])) from hr)
  clear hc hr hb
  go_wp2_with fail
  refine hK.out _ _ (HS.out _ HB1.out) (fun hHeld => ?_)
  clear hK K
  try simp only [puts]
  refine wpAnyH_ready (rs := [6, 11]) (by kernel_rfl) (by simp) (AllReadyH.cons rfl (fun K hK => ?_) (AllReadyH.cons rfl (fun K hK => ?_) AllReadyH.nil))
  ·go_simp
   refine (field_b s _).mono ?_
   rintro e u2 ⟨⟨g, rfl, hg1⟩, hb⟩
   have HL2 := zh (show Below u1.heap.size u1 u2 from ⟨hb.os, hb.tape, hb.output, hb.size, hb.block⟩)
   have HB2 := zh (show Below W.heap.size W u2 from HB1.out.trans (HL2.out.mono HB1.out.size))
   have HC2 := zh (show u2.cell? ⟨B, 0, none⟩ = some (.slice A ([cn]).length c) from (HL2.out.cell (World.block_lt_of_cell? _ _ HC1.out)).trans HC1.out)
   have HR2 := zh (show Rd u2 A (SX ([cn])) from HR1.out.below HL2.out)
   have HG2 := zh (show u2.cell? ⟨g, 0, none⟩ = some (.string ⟨s.toArray⟩) from hg1)
   clear hg1 hb
   go_wp2_with fail
   refine hK.out _ _ (HS.out _ HB2.out) (fun hHeld => ?_)
   clear hK K
   try simp only [puts]
   refine wpAnyH_ready (rs := [7, 11]) (by kernel_rfl) (by simp) (AllReadyH.cons rfl (fun K hK => ?_) (AllReadyH.cons rfl (fun K hK => ?_) AllReadyH.nil))
   ·go_simp
    refine (HFI.out _ B A c g (HAL.out.trans (HB2.out.mono HAL.out.size)) HC2.out HR2.out HG2.out).mono ?_
    rintro e u3 ⟨rfl, hb⟩
    have HL3 := zh (show Below u2.heap.size u2 u3 from ⟨hb.os, hb.tape, hb.output, hb.size, hb.block⟩)
    have HB3 := zh (show Below W.heap.size W u3 from HB2.out.trans (HL3.out.mono HB2.out.size))
    have HC3 := zh (show u3.cell? ⟨B, 0, none⟩ = some (.slice A ([cn]).length c) from (HL3.out.cell (World.block_lt_of_cell? _ _ HC2.out)).trans HC2.out)
    have HR3 := zh (show Rd u3 A (SX ([cn])) from HR2.out.below HL3.out)
    have HG3 := zh (show u3.cell? ⟨g, 0, none⟩ = some (.string ⟨s.toArray⟩) from (HL3.out.cell (World.block_lt_of_cell? _ _ HG2.out)).trans HG2.out)
    clear hb
    go_wp2_with fail
    refine hK.out _ _ (HS.out _ HB3.out) (fun hHeld => ?_)
    clear hK K
    try simp only [puts]
    have hS9 := HS.out _ HB3.out
    refine tkp 8 rfl ?_
    refine tkp 9 rfl ?_
    refine tkp 10 rfl ?_
    clear hS9
    refine rdy 11 rfl (fun K hK => ?_)
    go_simp
    obtain ⟨u4, hn⟩ : ∃ v, v = u3.alloc (.cells #[.string ⟨#[]⟩, .string ⟨#[]⟩, .bool false, .bool false, .slice none 0 0, .slice none 0 0, .slice none 0 0] 43) := ⟨_, rfl⟩
    have hb : Below u3.heap.size u3 u4 := by rw [hn]; exact (Below.refl _ _).alloc (Nat.le_refl _) _
    have hz : u4.heap[u3.heap.size]? = some (.cells #[.string ⟨#[]⟩, .string ⟨#[]⟩, .bool false, .bool false, .slice none 0 0, .slice none 0 0, .slice none 0 0] 43 (0, 0)) := by rw [hn]; exact heap_alloc_new _ _
    have HNN := zh hn
    have HGE := zh (show W.heap.size ≤ u3.heap.size from HB3.out.size)
    rw [← HNN.out]
    clear hn
    have HL4 := zh (show Below u3.heap.size u3 u4 from hb)
    have HB4 := zh (show Below W.heap.size W u4 from HB3.out.trans (HL4.out.mono HB3.out.size))
    have HC4 := zh (show u4.cell? ⟨B, 0, none⟩ = some (.slice A ([cn]).length c) from (HL4.out.cell (World.block_lt_of_cell? _ _ HC3.out)).trans HC3.out)
    have HR4 := zh (show Rd u4 A (SX ([cn])) from HR3.out.below HL4.out)
    have HG4 := zh (show u4.cell? ⟨g, 0, none⟩ = some (.string ⟨s.toArray⟩) from (HL4.out.cell (World.block_lt_of_cell? _ _ HG3.out)).trans HG3.out)
    have HZ4 := zh (show u4.heap[u3.heap.size]? = some (.cells #[.string ⟨#[]⟩, .string ⟨#[]⟩, .bool false, .bool false, .slice none 0 0, .slice none 0 0, .slice none 0 0] 43 (0, 0)) from hz)
    clear hz hb
    refine hK.out _ _ (HS.out _ HB4.out) (fun hHeld => ?_)
    clear hK K
    try simp only [puts]
    have tq : u4.there u3.heap.size 0 7 := there_new HZ4.out
    have hst := sets_new (cs := clC ⟨cnm, csu, cfc, cab, cis, cA1, cc1, cfs, cA2, cc2, cms, cA3, cc3⟩) rfl HZ4.out
    have hgr := sets_grown u4 (u3.heap.size) 0 (clC ⟨cnm, csu, cfc, cab, cis, cA1, cc1, cfs, cA2, cc2, cms, cA3, cc3⟩)
    obtain ⟨uF, huF⟩ : ∃ v, v = u4.setCells (u3.heap.size) 0 (clC ⟨cnm, csu, cfc, cab, cis, cA1, cc1, cfs, cA2, cc2, cms, cA3, cc3⟩) := ⟨_, rfl⟩
    have hBF : Below W.heap.size W uF := by rw [huF]; exact HB4.out.grown hgr HB4.out.size (fun k hk => by cases hk; exact HGE.out)
    have HU := zh (show uF.heap[u3.heap.size]? = some (.cells (clC ⟨cnm, csu, cfc, cab, cis, cA1, cc1, cfs, cA2, cc2, cms, cA3, cc3⟩).toArray 43 (0, 0)) from by rw [huF]; exact hst)
    have HBF := zh hBF
    have HUF := zh huF
    refine tst 12 (u3.heap.size) 0 (clC ⟨cnm, csu, cfc, cab, cis, cA1, cc1, cfs, cA2, cc2, cms, cA3, cc3⟩) rfl rfl rfl rfl tq size_clx (one_clx _) (by rw [← huF]; exact HS.out _ hBF) (fun _ => ?_)
    clear tq hst hgr hBF huF
    rw [← HUF.out]
    try simp only [puts]
    have hSF := HS.out _ HBF.out
    refine tkp 13 rfl ?_
    refine wpAnyH_done (by kernel_rfl) ?_ _
    clear hSF
    rcases HCS.out with ⟨hn, hcl, rfl⟩ | ⟨k0, m, rfl, hf, hcm, hm⟩
    ·have HN := zh (show FieldOfR x.cs cn s ⟨[], 0, [], false⟩ false from by unfold FieldOfR; rw [hn]; exact ⟨rfl, rfl⟩)
     clear hn hcl
     have rr := (HBF.out.block _ (blk_lt HRM.out)).trans HRM.out
     have q0 : uF.cell? ⟨w.heap.size + 1 + 1, 0, none⟩ = some (.string ⟨#[]⟩) := cell_of_row _ _ 0 _ _ _ rr
     have qf0 := frozen_of_row _ _ 0 _ _ rr
     have q1 : uF.cell? ⟨w.heap.size + 1 + 1, 1, none⟩ = some (.int .i64 0) := cell_of_row _ _ 1 _ _ _ rr
     have qf1 := frozen_of_row _ _ 1 _ _ rr
     have q2 : uF.cell? ⟨w.heap.size + 1 + 1, 2, none⟩ = some (.string ⟨#[]⟩) := cell_of_row _ _ 2 _ _ _ rr
     have qf2 := frozen_of_row _ _ 2 _ _ rr
     have q3 : uF.cell? ⟨w.heap.size + 1 + 1, 3, none⟩ = some (.bool false) := cell_of_row _ _ 3 _ _ _ rr
     have qf3 := frozen_of_row _ _ 3 _ _ rr
     have s0 := heap_setCell_same _ (w.heap.size + 1 + 1) 0 _ _ (.string ⟨#[]⟩) rr
     have s1 := heap_setCell_same _ (w.heap.size + 1 + 1) 1 _ _ (.int .i64 0) s0
     have s2 := heap_setCell_same _ (w.heap.size + 1 + 1) 2 _ _ (.string ⟨#[]⟩) s1
     have s3 := heap_setCell_same _ (w.heap.size + 1 + 1) 3 _ _ (.bool false) s2
     have gA : uF.grownBy ((((uF.setCell ⟨w.heap.size + 1 + 1, 0, none⟩ (.string ⟨#[]⟩)).setCell ⟨w.heap.size + 1 + 1, 1, none⟩ (.int .i64 0)).setCell ⟨w.heap.size + 1 + 1, 2, none⟩ (.string ⟨#[]⟩)).setCell ⟨w.heap.size + 1 + 1, 3, none⟩ (.bool false)) (some (w.heap.size + 1 + 1)) := gb_trans (gb_trans (gb_trans (gb_set _ (w.heap.size + 1 + 1) 0 _) (gb_set _ (w.heap.size + 1 + 1) 1 _)) (gb_set _ (w.heap.size + 1 + 1) 2 _)) (gb_set _ (w.heap.size + 1 + 1) 3 _)
     obtain ⟨WF, hWF⟩ : ∃ WF, WF = ((((uF.setCell ⟨w.heap.size + 1 + 1, 0, none⟩ (.string ⟨#[]⟩)).setCell ⟨w.heap.size + 1 + 1, 1, none⟩ (.int .i64 0)).setCell ⟨w.heap.size + 1 + 1, 2, none⟩ (.string ⟨#[]⟩)).setCell ⟨w.heap.size + 1 + 1, 3, none⟩ (.bool false)) := ⟨_, rfl⟩
     have ur : WF.heap[w.heap.size + 1 + 1]? = some (.cells #[.string ⟨#[]⟩, .int .i64 0, .string ⟨#[]⟩, .bool false] 92 (0, 0)) := by rw [hWF, s3]; simp
     have uB : Below w.heap.size w WF := by rw [hWF]; exact (HAL.out.trans (HBF.out.mono HAL.out.size)).grown gA (HAL.out.trans (HBF.out.mono HAL.out.size)).size (fun b hb => by cases hb; omega)
     have R0 := zh (show WF.cell? ⟨w.heap.size + 1 + 1, 0, none⟩ = some (.string ⟨#[]⟩) from cell_of_row _ _ 0 _ _ _ ur)
     have R1 := zh (show WF.cell? ⟨w.heap.size + 1 + 1, 1, none⟩ = some (.int .i64 0) from cell_of_row _ _ 1 _ _ _ ur)
     have R2 := zh (show WF.cell? ⟨w.heap.size + 1 + 1, 2, none⟩ = some (.string ⟨#[]⟩) from cell_of_row _ _ 2 _ _ _ ur)
     have R3 := zh (show WF.cell? ⟨w.heap.size + 1 + 1, 3, none⟩ = some (.bool false) from cell_of_row _ _ 3 _ _ _ ur)
     have UG := zh (show uF.grownBy WF (some (w.heap.size + 1 + 1)) from by rw [hWF]; exact gA)
     have HWF := zh hWF; have UB := zh uB
     clear rr s0 s1 s2 s3 gA hWF ur uB
     go_wp2
     rw [← HWF.out]
     refine bodyPost_ret (v := .tuple #[.agg #[.string ⟨#[]⟩, .int .i64 0, .string ⟨#[]⟩, .bool false], .bool false]) ?_ rfl ⟨⟨⟨[], 0, [], false⟩, false, rfl, HN.out⟩, UB.out⟩
     simp [results, Try.results39, go_sem, R0.out, R1.out, R2.out, R3.out]
    ·have hk1 : ((k0 : Int) == -1) = false := by simp
     have HN := zh (show FieldOfR x.cs cn s m true from by unfold FieldOfR; rw [hf]; exact ⟨rfl, hm⟩)
     have hok := ((hk.2.2 _ hcm).below (HAL.out.trans (HBF.out.mono HAL.out.size))).2.1
     dsimp only at hm hok
     obtain ⟨a, rfl, hab, m0, m1, m2, m3⟩ := fi_at hok.2 hm
     obtain ⟨e0, e1, e2, e3, e4, e5, e6⟩ := cl_cells HU.out
     dsimp only at e0 e1 e2 e3 e4 e5 e6
     have hkl : (k0 : Int) < (cfs.length : Int) := by have := (List.getElem?_eq_some_iff.1 hm).1; omega
     have hlm : (cfs.length : Int) ≤ 100000 := by have := (hg.2 _ hcm).1.2.1; dsimp only at this; omega
     clear hf hok hm hcm
     have rr := (HBF.out.block _ (blk_lt HRM.out)).trans HRM.out
     have q0 : uF.cell? ⟨w.heap.size + 1 + 1, 0, none⟩ = some (.string ⟨#[]⟩) := cell_of_row _ _ 0 _ _ _ rr
     have qf0 := frozen_of_row _ _ 0 _ _ rr
     have q1 : uF.cell? ⟨w.heap.size + 1 + 1, 1, none⟩ = some (.int .i64 0) := cell_of_row _ _ 1 _ _ _ rr
     have qf1 := frozen_of_row _ _ 1 _ _ rr
     have q2 : uF.cell? ⟨w.heap.size + 1 + 1, 2, none⟩ = some (.string ⟨#[]⟩) := cell_of_row _ _ 2 _ _ _ rr
     have qf2 := frozen_of_row _ _ 2 _ _ rr
     have q3 : uF.cell? ⟨w.heap.size + 1 + 1, 3, none⟩ = some (.bool false) := cell_of_row _ _ 3 _ _ _ rr
     have qf3 := frozen_of_row _ _ 3 _ _ rr
     have s0 := heap_setCell_same _ (w.heap.size + 1 + 1) 0 _ _ (.string ⟨m.nm.toArray⟩) rr
     have s1 := heap_setCell_same _ (w.heap.size + 1 + 1) 1 _ _ (.int .i64 m.k) s0
     have s2 := heap_setCell_same _ (w.heap.size + 1 + 1) 2 _ _ (.string ⟨m.cl.toArray⟩) s1
     have s3 := heap_setCell_same _ (w.heap.size + 1 + 1) 3 _ _ (.bool m.st) s2
     have gA : uF.grownBy ((((uF.setCell ⟨w.heap.size + 1 + 1, 0, none⟩ (.string ⟨m.nm.toArray⟩)).setCell ⟨w.heap.size + 1 + 1, 1, none⟩ (.int .i64 m.k)).setCell ⟨w.heap.size + 1 + 1, 2, none⟩ (.string ⟨m.cl.toArray⟩)).setCell ⟨w.heap.size + 1 + 1, 3, none⟩ (.bool m.st)) (some (w.heap.size + 1 + 1)) := gb_trans (gb_trans (gb_trans (gb_set _ (w.heap.size + 1 + 1) 0 _) (gb_set _ (w.heap.size + 1 + 1) 1 _)) (gb_set _ (w.heap.size + 1 + 1) 2 _)) (gb_set _ (w.heap.size + 1 + 1) 3 _)
     obtain ⟨WF, hWF⟩ : ∃ WF, WF = ((((uF.setCell ⟨w.heap.size + 1 + 1, 0, none⟩ (.string ⟨m.nm.toArray⟩)).setCell ⟨w.heap.size + 1 + 1, 1, none⟩ (.int .i64 m.k)).setCell ⟨w.heap.size + 1 + 1, 2, none⟩ (.string ⟨m.cl.toArray⟩)).setCell ⟨w.heap.size + 1 + 1, 3, none⟩ (.bool m.st)) := ⟨_, rfl⟩
     have ur : WF.heap[w.heap.size + 1 + 1]? = some (.cells #[.string ⟨m.nm.toArray⟩, .int .i64 m.k, .string ⟨m.cl.toArray⟩, .bool m.st] 92 (0, 0)) := by rw [hWF, s3]; simp
     have uB : Below w.heap.size w WF := by rw [hWF]; exact (HAL.out.trans (HBF.out.mono HAL.out.size)).grown gA (HAL.out.trans (HBF.out.mono HAL.out.size)).size (fun b hb => by cases hb; omega)
     have R0 := zh (show WF.cell? ⟨w.heap.size + 1 + 1, 0, none⟩ = some (.string ⟨m.nm.toArray⟩) from cell_of_row _ _ 0 _ _ _ ur)
     have R1 := zh (show WF.cell? ⟨w.heap.size + 1 + 1, 1, none⟩ = some (.int .i64 m.k) from cell_of_row _ _ 1 _ _ _ ur)
     have R2 := zh (show WF.cell? ⟨w.heap.size + 1 + 1, 2, none⟩ = some (.string ⟨m.cl.toArray⟩) from cell_of_row _ _ 2 _ _ _ ur)
     have R3 := zh (show WF.cell? ⟨w.heap.size + 1 + 1, 3, none⟩ = some (.bool m.st) from cell_of_row _ _ 3 _ _ _ ur)
     have UG := zh (show uF.grownBy WF (some (w.heap.size + 1 + 1)) from by rw [hWF]; exact gA)
     have HWF := zh hWF; have UB := zh uB
     clear rr s0 s1 s2 s3 gA hWF ur uB
     go_wp2
     rw [← HWF.out]
     refine bodyPost_ret (v := .tuple #[.agg #[.string ⟨m.nm.toArray⟩, .int .i64 m.k, .string ⟨m.cl.toArray⟩, .bool m.st], .bool true]) ?_ rfl ⟨⟨m, true, rfl, HN.out⟩, UB.out⟩
     simp [results, Try.results39, go_sem, R0.out, R1.out, R2.out, R3.out]
   ·go_simp
    obtain ⟨u3, hn⟩ : ∃ v, v = u2.alloc (.cells #[.string ⟨#[]⟩, .string ⟨#[]⟩, .bool false, .bool false, .slice none 0 0, .slice none 0 0, .slice none 0 0] 43) := ⟨_, rfl⟩
    have hb : Below u2.heap.size u2 u3 := by rw [hn]; exact (Below.refl _ _).alloc (Nat.le_refl _) _
    have hz : u3.heap[u2.heap.size]? = some (.cells #[.string ⟨#[]⟩, .string ⟨#[]⟩, .bool false, .bool false, .slice none 0 0, .slice none 0 0, .slice none 0 0] 43 (0, 0)) := by rw [hn]; exact heap_alloc_new _ _
    have HNN := zh hn
    have HGE := zh (show W.heap.size ≤ u2.heap.size from HB2.out.size)
    rw [← HNN.out]
    clear hn
    have HL3 := zh (show Below u2.heap.size u2 u3 from hb)
    have HB3 := zh (show Below W.heap.size W u3 from HB2.out.trans (HL3.out.mono HB2.out.size))
    have HC3 := zh (show u3.cell? ⟨B, 0, none⟩ = some (.slice A ([cn]).length c) from (HL3.out.cell (World.block_lt_of_cell? _ _ HC2.out)).trans HC2.out)
    have HR3 := zh (show Rd u3 A (SX ([cn])) from HR2.out.below HL3.out)
    have HG3 := zh (show u3.cell? ⟨g, 0, none⟩ = some (.string ⟨s.toArray⟩) from (HL3.out.cell (World.block_lt_of_cell? _ _ HG2.out)).trans HG2.out)
    have HZ3 := zh (show u3.heap[u2.heap.size]? = some (.cells #[.string ⟨#[]⟩, .string ⟨#[]⟩, .bool false, .bool false, .slice none 0 0, .slice none 0 0, .slice none 0 0] 43 (0, 0)) from hz)
    clear hz hb
    refine hK.out _ _ (HS.out _ HB3.out) (fun hHeld => ?_)
    clear hK K
    try simp only [puts]
    refine rdy 7 rfl (fun K hK => ?_)
    go_simp
    refine (HFI.out _ B A c g (HAL.out.trans (HB3.out.mono HAL.out.size)) HC3.out HR3.out HG3.out).mono ?_
    rintro e u4 ⟨rfl, hb⟩
    have HL4 := zh (show Below u3.heap.size u3 u4 from ⟨hb.os, hb.tape, hb.output, hb.size, hb.block⟩)
    have HB4 := zh (show Below W.heap.size W u4 from HB3.out.trans (HL4.out.mono HB3.out.size))
    have HC4 := zh (show u4.cell? ⟨B, 0, none⟩ = some (.slice A ([cn]).length c) from (HL4.out.cell (World.block_lt_of_cell? _ _ HC3.out)).trans HC3.out)
    have HR4 := zh (show Rd u4 A (SX ([cn])) from HR3.out.below HL4.out)
    have HG4 := zh (show u4.cell? ⟨g, 0, none⟩ = some (.string ⟨s.toArray⟩) from (HL4.out.cell (World.block_lt_of_cell? _ _ HG3.out)).trans HG3.out)
    have HZ4 := zh (show u4.heap[u2.heap.size]? = some (.cells #[.string ⟨#[]⟩, .string ⟨#[]⟩, .bool false, .bool false, .slice none 0 0, .slice none 0 0, .slice none 0 0] 43 (0, 0)) from (HL4.out.block _ (blk_lt HZ3.out)).trans HZ3.out)
    clear hb
    go_wp2_with fail
    refine hK.out _ _ (HS.out _ HB4.out) (fun hHeld => ?_)
    clear hK K
    try simp only [puts]
    have hS9 := HS.out _ HB4.out
    refine tkp 8 rfl ?_
    refine tkp 9 rfl ?_
    refine tkp 10 rfl ?_
    clear hS9
    have tq : u4.there u2.heap.size 0 7 := there_new HZ4.out
    have hst := sets_new (cs := clC ⟨cnm, csu, cfc, cab, cis, cA1, cc1, cfs, cA2, cc2, cms, cA3, cc3⟩) rfl HZ4.out
    have hgr := sets_grown u4 (u2.heap.size) 0 (clC ⟨cnm, csu, cfc, cab, cis, cA1, cc1, cfs, cA2, cc2, cms, cA3, cc3⟩)
    obtain ⟨uF, huF⟩ : ∃ v, v = u4.setCells (u2.heap.size) 0 (clC ⟨cnm, csu, cfc, cab, cis, cA1, cc1, cfs, cA2, cc2, cms, cA3, cc3⟩) := ⟨_, rfl⟩
    have hBF : Below W.heap.size W uF := by rw [huF]; exact HB4.out.grown hgr HB4.out.size (fun k hk => by cases hk; exact HGE.out)
    have HU := zh (show uF.heap[u2.heap.size]? = some (.cells (clC ⟨cnm, csu, cfc, cab, cis, cA1, cc1, cfs, cA2, cc2, cms, cA3, cc3⟩).toArray 43 (0, 0)) from by rw [huF]; exact hst)
    have HBF := zh hBF
    have HUF := zh huF
    refine tst 12 (u2.heap.size) 0 (clC ⟨cnm, csu, cfc, cab, cis, cA1, cc1, cfs, cA2, cc2, cms, cA3, cc3⟩) rfl rfl rfl rfl tq size_clx (one_clx _) (by rw [← huF]; exact HS.out _ hBF) (fun _ => ?_)
    clear tq hst hgr hBF huF
    rw [← HUF.out]
    try simp only [puts]
    have hSF := HS.out _ HBF.out
    refine tkp 13 rfl ?_
    refine wpAnyH_done (by kernel_rfl) ?_ _
    clear hSF
    rcases HCS.out with ⟨hn, hcl, rfl⟩ | ⟨k0, m, rfl, hf, hcm, hm⟩
    ·have HN := zh (show FieldOfR x.cs cn s ⟨[], 0, [], false⟩ false from by unfold FieldOfR; rw [hn]; exact ⟨rfl, rfl⟩)
     clear hn hcl
     have rr := (HBF.out.block _ (blk_lt HRM.out)).trans HRM.out
     have q0 : uF.cell? ⟨w.heap.size + 1 + 1, 0, none⟩ = some (.string ⟨#[]⟩) := cell_of_row _ _ 0 _ _ _ rr
     have qf0 := frozen_of_row _ _ 0 _ _ rr
     have q1 : uF.cell? ⟨w.heap.size + 1 + 1, 1, none⟩ = some (.int .i64 0) := cell_of_row _ _ 1 _ _ _ rr
     have qf1 := frozen_of_row _ _ 1 _ _ rr
     have q2 : uF.cell? ⟨w.heap.size + 1 + 1, 2, none⟩ = some (.string ⟨#[]⟩) := cell_of_row _ _ 2 _ _ _ rr
     have qf2 := frozen_of_row _ _ 2 _ _ rr
     have q3 : uF.cell? ⟨w.heap.size + 1 + 1, 3, none⟩ = some (.bool false) := cell_of_row _ _ 3 _ _ _ rr
     have qf3 := frozen_of_row _ _ 3 _ _ rr
     have s0 := heap_setCell_same _ (w.heap.size + 1 + 1) 0 _ _ (.string ⟨#[]⟩) rr
     have s1 := heap_setCell_same _ (w.heap.size + 1 + 1) 1 _ _ (.int .i64 0) s0
     have s2 := heap_setCell_same _ (w.heap.size + 1 + 1) 2 _ _ (.string ⟨#[]⟩) s1
     have s3 := heap_setCell_same _ (w.heap.size + 1 + 1) 3 _ _ (.bool false) s2
     have gA : uF.grownBy ((((uF.setCell ⟨w.heap.size + 1 + 1, 0, none⟩ (.string ⟨#[]⟩)).setCell ⟨w.heap.size + 1 + 1, 1, none⟩ (.int .i64 0)).setCell ⟨w.heap.size + 1 + 1, 2, none⟩ (.string ⟨#[]⟩)).setCell ⟨w.heap.size + 1 + 1, 3, none⟩ (.bool false)) (some (w.heap.size + 1 + 1)) := gb_trans (gb_trans (gb_trans (gb_set _ (w.heap.size + 1 + 1) 0 _) (gb_set _ (w.heap.size + 1 + 1) 1 _)) (gb_set _ (w.heap.size + 1 + 1) 2 _)) (gb_set _ (w.heap.size + 1 + 1) 3 _)
     obtain ⟨WF, hWF⟩ : ∃ WF, WF = ((((uF.setCell ⟨w.heap.size + 1 + 1, 0, none⟩ (.string ⟨#[]⟩)).setCell ⟨w.heap.size + 1 + 1, 1, none⟩ (.int .i64 0)).setCell ⟨w.heap.size + 1 + 1, 2, none⟩ (.string ⟨#[]⟩)).setCell ⟨w.heap.size + 1 + 1, 3, none⟩ (.bool false)) := ⟨_, rfl⟩
     have ur : WF.heap[w.heap.size + 1 + 1]? = some (.cells #[.string ⟨#[]⟩, .int .i64 0, .string ⟨#[]⟩, .bool false] 92 (0, 0)) := by rw [hWF, s3]; simp
     have uB : Below w.heap.size w WF := by rw [hWF]; exact (HAL.out.trans (HBF.out.mono HAL.out.size)).grown gA (HAL.out.trans (HBF.out.mono HAL.out.size)).size (fun b hb => by cases hb; omega)
     have R0 := zh (show WF.cell? ⟨w.heap.size + 1 + 1, 0, none⟩ = some (.string ⟨#[]⟩) from cell_of_row _ _ 0 _ _ _ ur)
     have R1 := zh (show WF.cell? ⟨w.heap.size + 1 + 1, 1, none⟩ = some (.int .i64 0) from cell_of_row _ _ 1 _ _ _ ur)
     have R2 := zh (show WF.cell? ⟨w.heap.size + 1 + 1, 2, none⟩ = some (.string ⟨#[]⟩) from cell_of_row _ _ 2 _ _ _ ur)
     have R3 := zh (show WF.cell? ⟨w.heap.size + 1 + 1, 3, none⟩ = some (.bool false) from cell_of_row _ _ 3 _ _ _ ur)
     have UG := zh (show uF.grownBy WF (some (w.heap.size + 1 + 1)) from by rw [hWF]; exact gA)
     have HWF := zh hWF; have UB := zh uB
     clear rr s0 s1 s2 s3 gA hWF ur uB
     go_wp2
     rw [← HWF.out]
     refine bodyPost_ret (v := .tuple #[.agg #[.string ⟨#[]⟩, .int .i64 0, .string ⟨#[]⟩, .bool false], .bool false]) ?_ rfl ⟨⟨⟨[], 0, [], false⟩, false, rfl, HN.out⟩, UB.out⟩
     simp [results, Try.results39, go_sem, R0.out, R1.out, R2.out, R3.out]
    ·have hk1 : ((k0 : Int) == -1) = false := by simp
     have HN := zh (show FieldOfR x.cs cn s m true from by unfold FieldOfR; rw [hf]; exact ⟨rfl, hm⟩)
     have hok := ((hk.2.2 _ hcm).below (HAL.out.trans (HBF.out.mono HAL.out.size))).2.1
     dsimp only at hm hok
     obtain ⟨a, rfl, hab, m0, m1, m2, m3⟩ := fi_at hok.2 hm
     obtain ⟨e0, e1, e2, e3, e4, e5, e6⟩ := cl_cells HU.out
     dsimp only at e0 e1 e2 e3 e4 e5 e6
     have hkl : (k0 : Int) < (cfs.length : Int) := by have := (List.getElem?_eq_some_iff.1 hm).1; omega
     have hlm : (cfs.length : Int) ≤ 100000 := by have := (hg.2 _ hcm).1.2.1; dsimp only at this; omega
     clear hf hok hm hcm
     have rr := (HBF.out.block _ (blk_lt HRM.out)).trans HRM.out
     have q0 : uF.cell? ⟨w.heap.size + 1 + 1, 0, none⟩ = some (.string ⟨#[]⟩) := cell_of_row _ _ 0 _ _ _ rr
     have qf0 := frozen_of_row _ _ 0 _ _ rr
     have q1 : uF.cell? ⟨w.heap.size + 1 + 1, 1, none⟩ = some (.int .i64 0) := cell_of_row _ _ 1 _ _ _ rr
     have qf1 := frozen_of_row _ _ 1 _ _ rr
     have q2 : uF.cell? ⟨w.heap.size + 1 + 1, 2, none⟩ = some (.string ⟨#[]⟩) := cell_of_row _ _ 2 _ _ _ rr
     have qf2 := frozen_of_row _ _ 2 _ _ rr
     have q3 : uF.cell? ⟨w.heap.size + 1 + 1, 3, none⟩ = some (.bool false) := cell_of_row _ _ 3 _ _ _ rr
     have qf3 := frozen_of_row _ _ 3 _ _ rr
     have s0 := heap_setCell_same _ (w.heap.size + 1 + 1) 0 _ _ (.string ⟨m.nm.toArray⟩) rr
     have s1 := heap_setCell_same _ (w.heap.size + 1 + 1) 1 _ _ (.int .i64 m.k) s0
     have s2 := heap_setCell_same _ (w.heap.size + 1 + 1) 2 _ _ (.string ⟨m.cl.toArray⟩) s1
     have s3 := heap_setCell_same _ (w.heap.size + 1 + 1) 3 _ _ (.bool m.st) s2
     have gA : uF.grownBy ((((uF.setCell ⟨w.heap.size + 1 + 1, 0, none⟩ (.string ⟨m.nm.toArray⟩)).setCell ⟨w.heap.size + 1 + 1, 1, none⟩ (.int .i64 m.k)).setCell ⟨w.heap.size + 1 + 1, 2, none⟩ (.string ⟨m.cl.toArray⟩)).setCell ⟨w.heap.size + 1 + 1, 3, none⟩ (.bool m.st)) (some (w.heap.size + 1 + 1)) := gb_trans (gb_trans (gb_trans (gb_set _ (w.heap.size + 1 + 1) 0 _) (gb_set _ (w.heap.size + 1 + 1) 1 _)) (gb_set _ (w.heap.size + 1 + 1) 2 _)) (gb_set _ (w.heap.size + 1 + 1) 3 _)
     obtain ⟨WF, hWF⟩ : ∃ WF, WF = ((((uF.setCell ⟨w.heap.size + 1 + 1, 0, none⟩ (.string ⟨m.nm.toArray⟩)).setCell ⟨w.heap.size + 1 + 1, 1, none⟩ (.int .i64 m.k)).setCell ⟨w.heap.size + 1 + 1, 2, none⟩ (.string ⟨m.cl.toArray⟩)).setCell ⟨w.heap.size + 1 + 1, 3, none⟩ (.bool m.st)) := ⟨_, rfl⟩
     have ur : WF.heap[w.heap.size + 1 + 1]? = some (.cells #[.string ⟨m.nm.toArray⟩, .int .i64 m.k, .string ⟨m.cl.toArray⟩, .bool m.st] 92 (0, 0)) := by rw [hWF, s3]; simp
     have uB : Below w.heap.size w WF := by rw [hWF]; exact (HAL.out.trans (HBF.out.mono HAL.out.size)).grown gA (HAL.out.trans (HBF.out.mono HAL.out.size)).size (fun b hb => by cases hb; omega)
     have R0 := zh (show WF.cell? ⟨w.heap.size + 1 + 1, 0, none⟩ = some (.string ⟨m.nm.toArray⟩) from cell_of_row _ _ 0 _ _ _ ur)
     have R1 := zh (show WF.cell? ⟨w.heap.size + 1 + 1, 1, none⟩ = some (.int .i64 m.k) from cell_of_row _ _ 1 _ _ _ ur)
     have R2 := zh (show WF.cell? ⟨w.heap.size + 1 + 1, 2, none⟩ = some (.string ⟨m.cl.toArray⟩) from cell_of_row _ _ 2 _ _ _ ur)
     have R3 := zh (show WF.cell? ⟨w.heap.size + 1 + 1, 3, none⟩ = some (.bool m.st) from cell_of_row _ _ 3 _ _ _ ur)
     have UG := zh (show uF.grownBy WF (some (w.heap.size + 1 + 1)) from by rw [hWF]; exact gA)
     have HWF := zh hWF; have UB := zh uB
     clear rr s0 s1 s2 s3 gA hWF ur uB
     go_wp2
     rw [← HWF.out]
     refine bodyPost_ret (v := .tuple #[.agg #[.string ⟨m.nm.toArray⟩, .int .i64 m.k, .string ⟨m.cl.toArray⟩, .bool m.st], .bool true]) ?_ rfl ⟨⟨m, true, rfl, HN.out⟩, UB.out⟩
     simp [results, Try.results39, go_sem, R0.out, R1.out, R2.out, R3.out]
  ·go_simp
   obtain ⟨u2, hn⟩ : ∃ v, v = u1.alloc (.cells #[.string ⟨#[]⟩, .string ⟨#[]⟩, .bool false, .bool false, .slice none 0 0, .slice none 0 0, .slice none 0 0] 43) := ⟨_, rfl⟩
   have hb : Below u1.heap.size u1 u2 := by rw [hn]; exact (Below.refl _ _).alloc (Nat.le_refl _) _
   have hz : u2.heap[u1.heap.size]? = some (.cells #[.string ⟨#[]⟩, .string ⟨#[]⟩, .bool false, .bool false, .slice none 0 0, .slice none 0 0, .slice none 0 0] 43 (0, 0)) := by rw [hn]; exact heap_alloc_new _ _
   have HNN := zh hn
   have HGE := zh (show W.heap.size ≤ u1.heap.size from HB1.out.size)
   rw [← HNN.out]
   clear hn
   have HL2 := zh (show Below u1.heap.size u1 u2 from hb)
   have HB2 := zh (show Below W.heap.size W u2 from HB1.out.trans (HL2.out.mono HB1.out.size))
   have HC2 := zh (show u2.cell? ⟨B, 0, none⟩ = some (.slice A ([cn]).length c) from (HL2.out.cell (World.block_lt_of_cell? _ _ HC1.out)).trans HC1.out)
   have HR2 := zh (show Rd u2 A (SX ([cn])) from HR1.out.below HL2.out)
   have HZ2 := zh (show u2.heap[u1.heap.size]? = some (.cells #[.string ⟨#[]⟩, .string ⟨#[]⟩, .bool false, .bool false, .slice none 0 0, .slice none 0 0, .slice none 0 0] 43 (0, 0)) from hz)
   clear hz hb
   refine hK.out _ _ (HS.out _ HB2.out) (fun hHeld => ?_)
   clear hK K
   try simp only [puts]
   refine rdy 6 rfl (fun K hK => ?_)
   go_simp
   refine (field_b s _).mono ?_
   rintro e u3 ⟨⟨g, rfl, hg1⟩, hb⟩
   have HL3 := zh (show Below u2.heap.size u2 u3 from ⟨hb.os, hb.tape, hb.output, hb.size, hb.block⟩)
   have HB3 := zh (show Below W.heap.size W u3 from HB2.out.trans (HL3.out.mono HB2.out.size))
   have HC3 := zh (show u3.cell? ⟨B, 0, none⟩ = some (.slice A ([cn]).length c) from (HL3.out.cell (World.block_lt_of_cell? _ _ HC2.out)).trans HC2.out)
   have HR3 := zh (show Rd u3 A (SX ([cn])) from HR2.out.below HL3.out)
   have HZ3 := zh (show u3.heap[u1.heap.size]? = some (.cells #[.string ⟨#[]⟩, .string ⟨#[]⟩, .bool false, .bool false, .slice none 0 0, .slice none 0 0, .slice none 0 0] 43 (0, 0)) from (HL3.out.block _ (blk_lt HZ2.out)).trans HZ2.out)
   have HG3 := zh (show u3.cell? ⟨g, 0, none⟩ = some (.string ⟨s.toArray⟩) from hg1)
   clear hg1 hb
   go_wp2_with fail
   refine hK.out _ _ (HS.out _ HB3.out) (fun hHeld => ?_)
   clear hK K
   try simp only [puts]
   refine rdy 7 rfl (fun K hK => ?_)
   go_simp
   refine (HFI.out _ B A c g (HAL.out.trans (HB3.out.mono HAL.out.size)) HC3.out HR3.out HG3.out).mono ?_
   rintro e u4 ⟨rfl, hb⟩
   have HL4 := zh (show Below u3.heap.size u3 u4 from ⟨hb.os, hb.tape, hb.output, hb.size, hb.block⟩)
   have HB4 := zh (show Below W.heap.size W u4 from HB3.out.trans (HL4.out.mono HB3.out.size))
   have HC4 := zh (show u4.cell? ⟨B, 0, none⟩ = some (.slice A ([cn]).length c) from (HL4.out.cell (World.block_lt_of_cell? _ _ HC3.out)).trans HC3.out)
   have HR4 := zh (show Rd u4 A (SX ([cn])) from HR3.out.below HL4.out)
   have HZ4 := zh (show u4.heap[u1.heap.size]? = some (.cells #[.string ⟨#[]⟩, .string ⟨#[]⟩, .bool false, .bool false, .slice none 0 0, .slice none 0 0, .slice none 0 0] 43 (0, 0)) from (HL4.out.block _ (blk_lt HZ3.out)).trans HZ3.out)
   have HG4 := zh (show u4.cell? ⟨g, 0, none⟩ = some (.string ⟨s.toArray⟩) from (HL4.out.cell (World.block_lt_of_cell? _ _ HG3.out)).trans HG3.out)
   clear hb
   go_wp2_with fail
   refine hK.out _ _ (HS.out _ HB4.out) (fun hHeld => ?_)
   clear hK K
   try simp only [puts]
   have hS9 := HS.out _ HB4.out
   refine tkp 8 rfl ?_
   refine tkp 9 rfl ?_
   refine tkp 10 rfl ?_
   clear hS9
   have tq : u4.there u1.heap.size 0 7 := there_new HZ4.out
   have hst := sets_new (cs := clC ⟨cnm, csu, cfc, cab, cis, cA1, cc1, cfs, cA2, cc2, cms, cA3, cc3⟩) rfl HZ4.out
   have hgr := sets_grown u4 (u1.heap.size) 0 (clC ⟨cnm, csu, cfc, cab, cis, cA1, cc1, cfs, cA2, cc2, cms, cA3, cc3⟩)
   obtain ⟨uF, huF⟩ : ∃ v, v = u4.setCells (u1.heap.size) 0 (clC ⟨cnm, csu, cfc, cab, cis, cA1, cc1, cfs, cA2, cc2, cms, cA3, cc3⟩) := ⟨_, rfl⟩
   have hBF : Below W.heap.size W uF := by rw [huF]; exact HB4.out.grown hgr HB4.out.size (fun k hk => by cases hk; exact HGE.out)
   have HU := zh (show uF.heap[u1.heap.size]? = some (.cells (clC ⟨cnm, csu, cfc, cab, cis, cA1, cc1, cfs, cA2, cc2, cms, cA3, cc3⟩).toArray 43 (0, 0)) from by rw [huF]; exact hst)
   have HBF := zh hBF
   have HUF := zh huF
   refine tst 12 (u1.heap.size) 0 (clC ⟨cnm, csu, cfc, cab, cis, cA1, cc1, cfs, cA2, cc2, cms, cA3, cc3⟩) rfl rfl rfl rfl tq size_clx (one_clx _) (by rw [← huF]; exact HS.out _ hBF) (fun _ => ?_)
   clear tq hst hgr hBF huF
   rw [← HUF.out]
   try simp only [puts]
   have hSF := HS.out _ HBF.out
   refine tkp 13 rfl ?_
   refine wpAnyH_done (by kernel_rfl) ?_ _
   clear hSF
   rcases HCS.out with ⟨hn, hcl, rfl⟩ | ⟨k0, m, rfl, hf, hcm, hm⟩
   ·have HN := zh (show FieldOfR x.cs cn s ⟨[], 0, [], false⟩ false from by unfold FieldOfR; rw [hn]; exact ⟨rfl, rfl⟩)
    clear hn hcl
    have rr := (HBF.out.block _ (blk_lt HRM.out)).trans HRM.out
    have q0 : uF.cell? ⟨w.heap.size + 1 + 1, 0, none⟩ = some (.string ⟨#[]⟩) := cell_of_row _ _ 0 _ _ _ rr
    have qf0 := frozen_of_row _ _ 0 _ _ rr
    have q1 : uF.cell? ⟨w.heap.size + 1 + 1, 1, none⟩ = some (.int .i64 0) := cell_of_row _ _ 1 _ _ _ rr
    have qf1 := frozen_of_row _ _ 1 _ _ rr
    have q2 : uF.cell? ⟨w.heap.size + 1 + 1, 2, none⟩ = some (.string ⟨#[]⟩) := cell_of_row _ _ 2 _ _ _ rr
    have qf2 := frozen_of_row _ _ 2 _ _ rr
    have q3 : uF.cell? ⟨w.heap.size + 1 + 1, 3, none⟩ = some (.bool false) := cell_of_row _ _ 3 _ _ _ rr
    have qf3 := frozen_of_row _ _ 3 _ _ rr
    have s0 := heap_setCell_same _ (w.heap.size + 1 + 1) 0 _ _ (.string ⟨#[]⟩) rr
    have s1 := heap_setCell_same _ (w.heap.size + 1 + 1) 1 _ _ (.int .i64 0) s0
    have s2 := heap_setCell_same _ (w.heap.size + 1 + 1) 2 _ _ (.string ⟨#[]⟩) s1
    have s3 := heap_setCell_same _ (w.heap.size + 1 + 1) 3 _ _ (.bool false) s2
    have gA : uF.grownBy ((((uF.setCell ⟨w.heap.size + 1 + 1, 0, none⟩ (.string ⟨#[]⟩)).setCell ⟨w.heap.size + 1 + 1, 1, none⟩ (.int .i64 0)).setCell ⟨w.heap.size + 1 + 1, 2, none⟩ (.string ⟨#[]⟩)).setCell ⟨w.heap.size + 1 + 1, 3, none⟩ (.bool false)) (some (w.heap.size + 1 + 1)) := gb_trans (gb_trans (gb_trans (gb_set _ (w.heap.size + 1 + 1) 0 _) (gb_set _ (w.heap.size + 1 + 1) 1 _)) (gb_set _ (w.heap.size + 1 + 1) 2 _)) (gb_set _ (w.heap.size + 1 + 1) 3 _)
    obtain ⟨WF, hWF⟩ : ∃ WF, WF = ((((uF.setCell ⟨w.heap.size + 1 + 1, 0, none⟩ (.string ⟨#[]⟩)).setCell ⟨w.heap.size + 1 + 1, 1, none⟩ (.int .i64 0)).setCell ⟨w.heap.size + 1 + 1, 2, none⟩ (.string ⟨#[]⟩)).setCell ⟨w.heap.size + 1 + 1, 3, none⟩ (.bool false)) := ⟨_, rfl⟩
    have ur : WF.heap[w.heap.size + 1 + 1]? = some (.cells #[.string ⟨#[]⟩, .int .i64 0, .string ⟨#[]⟩, .bool false] 92 (0, 0)) := by rw [hWF, s3]; simp
    have uB : Below w.heap.size w WF := by rw [hWF]; exact (HAL.out.trans (HBF.out.mono HAL.out.size)).grown gA (HAL.out.trans (HBF.out.mono HAL.out.size)).size (fun b hb => by cases hb; omega)
    have R0 := zh (show WF.cell? ⟨w.heap.size + 1 + 1, 0, none⟩ = some (.string ⟨#[]⟩) from cell_of_row _ _ 0 _ _ _ ur)
    have R1 := zh (show WF.cell? ⟨w.heap.size + 1 + 1, 1, none⟩ = some (.int .i64 0) from cell_of_row _ _ 1 _ _ _ ur)
    have R2 := zh (show WF.cell? ⟨w.heap.size + 1 + 1, 2, none⟩ = some (.string ⟨#[]⟩) from cell_of_row _ _ 2 _ _ _ ur)
    have R3 := zh (show WF.cell? ⟨w.heap.size + 1 + 1, 3, none⟩ = some (.bool false) from cell_of_row _ _ 3 _ _ _ ur)
    have UG := zh (show uF.grownBy WF (some (w.heap.size + 1 + 1)) from by rw [hWF]; exact gA)
    have HWF := zh hWF; have UB := zh uB
    clear rr s0 s1 s2 s3 gA hWF ur uB
    go_wp2
    rw [← HWF.out]
    refine bodyPost_ret (v := .tuple #[.agg #[.string ⟨#[]⟩, .int .i64 0, .string ⟨#[]⟩, .bool false], .bool false]) ?_ rfl ⟨⟨⟨[], 0, [], false⟩, false, rfl, HN.out⟩, UB.out⟩
    simp [results, Try.results39, go_sem, R0.out, R1.out, R2.out, R3.out]
   ·have hk1 : ((k0 : Int) == -1) = false := by simp
    have HN := zh (show FieldOfR x.cs cn s m true from by unfold FieldOfR; rw [hf]; exact ⟨rfl, hm⟩)
    have hok := ((hk.2.2 _ hcm).below (HAL.out.trans (HBF.out.mono HAL.out.size))).2.1
    dsimp only at hm hok
    obtain ⟨a, rfl, hab, m0, m1, m2, m3⟩ := fi_at hok.2 hm
    obtain ⟨e0, e1, e2, e3, e4, e5, e6⟩ := cl_cells HU.out
    dsimp only at e0 e1 e2 e3 e4 e5 e6
    have hkl : (k0 : Int) < (cfs.length : Int) := by have := (List.getElem?_eq_some_iff.1 hm).1; omega
    have hlm : (cfs.length : Int) ≤ 100000 := by have := (hg.2 _ hcm).1.2.1; dsimp only at this; omega
    clear hf hok hm hcm
    have rr := (HBF.out.block _ (blk_lt HRM.out)).trans HRM.out
    have q0 : uF.cell? ⟨w.heap.size + 1 + 1, 0, none⟩ = some (.string ⟨#[]⟩) := cell_of_row _ _ 0 _ _ _ rr
    have qf0 := frozen_of_row _ _ 0 _ _ rr
    have q1 : uF.cell? ⟨w.heap.size + 1 + 1, 1, none⟩ = some (.int .i64 0) := cell_of_row _ _ 1 _ _ _ rr
    have qf1 := frozen_of_row _ _ 1 _ _ rr
    have q2 : uF.cell? ⟨w.heap.size + 1 + 1, 2, none⟩ = some (.string ⟨#[]⟩) := cell_of_row _ _ 2 _ _ _ rr
    have qf2 := frozen_of_row _ _ 2 _ _ rr
    have q3 : uF.cell? ⟨w.heap.size + 1 + 1, 3, none⟩ = some (.bool false) := cell_of_row _ _ 3 _ _ _ rr
    have qf3 := frozen_of_row _ _ 3 _ _ rr
    have s0 := heap_setCell_same _ (w.heap.size + 1 + 1) 0 _ _ (.string ⟨m.nm.toArray⟩) rr
    have s1 := heap_setCell_same _ (w.heap.size + 1 + 1) 1 _ _ (.int .i64 m.k) s0
    have s2 := heap_setCell_same _ (w.heap.size + 1 + 1) 2 _ _ (.string ⟨m.cl.toArray⟩) s1
    have s3 := heap_setCell_same _ (w.heap.size + 1 + 1) 3 _ _ (.bool m.st) s2
    have gA : uF.grownBy ((((uF.setCell ⟨w.heap.size + 1 + 1, 0, none⟩ (.string ⟨m.nm.toArray⟩)).setCell ⟨w.heap.size + 1 + 1, 1, none⟩ (.int .i64 m.k)).setCell ⟨w.heap.size + 1 + 1, 2, none⟩ (.string ⟨m.cl.toArray⟩)).setCell ⟨w.heap.size + 1 + 1, 3, none⟩ (.bool m.st)) (some (w.heap.size + 1 + 1)) := gb_trans (gb_trans (gb_trans (gb_set _ (w.heap.size + 1 + 1) 0 _) (gb_set _ (w.heap.size + 1 + 1) 1 _)) (gb_set _ (w.heap.size + 1 + 1) 2 _)) (gb_set _ (w.heap.size + 1 + 1) 3 _)
    obtain ⟨WF, hWF⟩ : ∃ WF, WF = ((((uF.setCell ⟨w.heap.size + 1 + 1, 0, none⟩ (.string ⟨m.nm.toArray⟩)).setCell ⟨w.heap.size + 1 + 1, 1, none⟩ (.int .i64 m.k)).setCell ⟨w.heap.size + 1 + 1, 2, none⟩ (.string ⟨m.cl.toArray⟩)).setCell ⟨w.heap.size + 1 + 1, 3, none⟩ (.bool m.st)) := ⟨_, rfl⟩
    have ur : WF.heap[w.heap.size + 1 + 1]? = some (.cells #[.string ⟨m.nm.toArray⟩, .int .i64 m.k, .string ⟨m.cl.toArray⟩, .bool m.st] 92 (0, 0)) := by rw [hWF, s3]; simp
    have uB : Below w.heap.size w WF := by rw [hWF]; exact (HAL.out.trans (HBF.out.mono HAL.out.size)).grown gA (HAL.out.trans (HBF.out.mono HAL.out.size)).size (fun b hb => by cases hb; omega)
    have R0 := zh (show WF.cell? ⟨w.heap.size + 1 + 1, 0, none⟩ = some (.string ⟨m.nm.toArray⟩) from cell_of_row _ _ 0 _ _ _ ur)
    have R1 := zh (show WF.cell? ⟨w.heap.size + 1 + 1, 1, none⟩ = some (.int .i64 m.k) from cell_of_row _ _ 1 _ _ _ ur)
    have R2 := zh (show WF.cell? ⟨w.heap.size + 1 + 1, 2, none⟩ = some (.string ⟨m.cl.toArray⟩) from cell_of_row _ _ 2 _ _ _ ur)
    have R3 := zh (show WF.cell? ⟨w.heap.size + 1 + 1, 3, none⟩ = some (.bool m.st) from cell_of_row _ _ 3 _ _ _ ur)
    have UG := zh (show uF.grownBy WF (some (w.heap.size + 1 + 1)) from by rw [hWF]; exact gA)
    have HWF := zh hWF; have UB := zh uB
    clear rr s0 s1 s2 s3 gA hWF ur uB
    go_wp2
    rw [← HWF.out]
    refine bodyPost_ret (v := .tuple #[.agg #[.string ⟨m.nm.toArray⟩, .int .i64 m.k, .string ⟨m.cl.toArray⟩, .bool m.st], .bool true]) ?_ rfl ⟨⟨m, true, rfl, HN.out⟩, UB.out⟩
    simp [results, Try.results39, go_sem, R0.out, R1.out, R2.out, R3.out]
 ·go_simp
  obtain ⟨u1, hn⟩ : ∃ v, v = u0.alloc (.cells #[.string ⟨#[]⟩, .string ⟨#[]⟩, .bool false, .bool false, .slice none 0 0, .slice none 0 0, .slice none 0 0] 43) := ⟨_, rfl⟩
  have hb : Below u0.heap.size u0 u1 := by rw [hn]; exact (Below.refl _ _).alloc (Nat.le_refl _) _
  have hz : u1.heap[u0.heap.size]? = some (.cells #[.string ⟨#[]⟩, .string ⟨#[]⟩, .bool false, .bool false, .slice none 0 0, .slice none 0 0, .slice none 0 0] 43 (0, 0)) := by rw [hn]; exact heap_alloc_new _ _
  have HNN := zh hn
  have HGE := zh (show W.heap.size ≤ u0.heap.size from HB0.out.size)
  rw [← HNN.out]
  clear hn
  have HL1 := zh (show Below u0.heap.size u0 u1 from hb)
  have HB1 := zh (show Below W.heap.size W u1 from HB0.out.trans (HL1.out.mono HB0.out.size))
  have HZ1 := zh (show u1.heap[u0.heap.size]? = some (.cells #[.string ⟨#[]⟩, .string ⟨#[]⟩, .bool false, .bool false, .slice none 0 0, .slice none 0 0, .slice none 0 0] 43 (0, 0)) from hz)
  clear hz hb
  refine hK.out _ _ (HS.out _ HB1.out) (fun hHeld => ?_)
  clear hK K
  try simp only [puts]
  refine rdy 3 rfl (fun K hK => ?_)
  go_simp
  refine (only_w cn _).mono ?_
  rintro e u2 ⟨⟨B, A, c, rfl, hc, hr⟩, hb⟩
  have HL2 := zh (show Below u1.heap.size u1 u2 from ⟨hb.os, hb.tape, hb.output, hb.size, hb.block⟩)
  have HB2 := zh (show Below W.heap.size W u2 from HB1.out.trans (HL2.out.mono HB1.out.size))
  have HZ2 := zh (show u2.heap[u0.heap.size]? = some (.cells #[.string ⟨#[]⟩, .string ⟨#[]⟩, .bool false, .bool false, .slice none 0 0, .slice none 0 0, .slice none 0 0] 43 (0, 0)) from (HL2.out.block _ (blk_lt HZ1.out)).trans HZ1.out)
  have HC2 := zh (show u2.cell? ⟨B, 0, none⟩ = some (.slice A ([cn]).length c) from hc)
  have HR2 := zh (show Rd u2 A (SX ([cn])) from hr)
  clear hc hr hb
  go_wp2_with fail
  refine hK.out _ _ (HS.out _ HB2.out) (fun hHeld => ?_)
  clear hK K
  try simp only [puts]
  refine rdy 6 rfl (fun K hK => ?_)
  go_simp
  refine (field_b s _).mono ?_
  rintro e u3 ⟨⟨g, rfl, hg1⟩, hb⟩
  have HL3 := zh (show Below u2.heap.size u2 u3 from ⟨hb.os, hb.tape, hb.output, hb.size, hb.block⟩)
  have HB3 := zh (show Below W.heap.size W u3 from HB2.out.trans (HL3.out.mono HB2.out.size))
  have HZ3 := zh (show u3.heap[u0.heap.size]? = some (.cells #[.string ⟨#[]⟩, .string ⟨#[]⟩, .bool false, .bool false, .slice none 0 0, .slice none 0 0, .slice none 0 0] 43 (0, 0)) from (HL3.out.block _ (blk_lt HZ2.out)).trans HZ2.out)
  have HC3 := zh (show u3.cell? ⟨B, 0, none⟩ = some (.slice A ([cn]).length c) from (HL3.out.cell (World.block_lt_of_cell? _ _ HC2.out)).trans HC2.out)
  have HR3 := zh (show Rd u3 A (SX ([cn])) from HR2.out.below HL3.out)
  have HG3 := zh (show u3.cell? ⟨g, 0, none⟩ = some (.string ⟨s.toArray⟩) from hg1)
  clear hg1 hb
  go_wp2_with fail
  refine hK.out _ _ (HS.out _ HB3.out) (fun hHeld => ?_)
  clear hK K
  try simp only [puts]
  refine rdy 7 rfl (fun K hK => ?_)
  go_simp
  refine (HFI.out _ B A c g (HAL.out.trans (HB3.out.mono HAL.out.size)) HC3.out HR3.out HG3.out).mono ?_
  rintro e u4 ⟨rfl, hb⟩
  have HL4 := zh (show Below u3.heap.size u3 u4 from ⟨hb.os, hb.tape, hb.output, hb.size, hb.block⟩)
  have HB4 := zh (show Below W.heap.size W u4 from HB3.out.trans (HL4.out.mono HB3.out.size))
  have HZ4 := zh (show u4.heap[u0.heap.size]? = some (.cells #[.string ⟨#[]⟩, .string ⟨#[]⟩, .bool false, .bool false, .slice none 0 0, .slice none 0 0, .slice none 0 0] 43 (0, 0)) from (HL4.out.block _ (blk_lt HZ3.out)).trans HZ3.out)
  have HC4 := zh (show u4.cell? ⟨B, 0, none⟩ = some (.slice A ([cn]).length c) from (HL4.out.cell (World.block_lt_of_cell? _ _ HC3.out)).trans HC3.out)
  have HR4 := zh (show Rd u4 A (SX ([cn])) from HR3.out.below HL4.out)
  have HG4 := zh (show u4.cell? ⟨g, 0, none⟩ = some (.string ⟨s.toArray⟩) from (HL4.out.cell (World.block_lt_of_cell? _ _ HG3.out)).trans HG3.out)
  clear hb
  go_wp2_with fail
  refine hK.out _ _ (HS.out _ HB4.out) (fun hHeld => ?_)
  clear hK K
  try simp only [puts]
  have hS9 := HS.out _ HB4.out
  refine tkp 8 rfl ?_
  refine tkp 9 rfl ?_
  refine tkp 10 rfl ?_
  clear hS9
  have tq : u4.there u0.heap.size 0 7 := there_new HZ4.out
  have hst := sets_new (cs := clC ⟨cnm, csu, cfc, cab, cis, cA1, cc1, cfs, cA2, cc2, cms, cA3, cc3⟩) rfl HZ4.out
  have hgr := sets_grown u4 (u0.heap.size) 0 (clC ⟨cnm, csu, cfc, cab, cis, cA1, cc1, cfs, cA2, cc2, cms, cA3, cc3⟩)
  obtain ⟨uF, huF⟩ : ∃ v, v = u4.setCells (u0.heap.size) 0 (clC ⟨cnm, csu, cfc, cab, cis, cA1, cc1, cfs, cA2, cc2, cms, cA3, cc3⟩) := ⟨_, rfl⟩
  have hBF : Below W.heap.size W uF := by rw [huF]; exact HB4.out.grown hgr HB4.out.size (fun k hk => by cases hk; exact HGE.out)
  have HU := zh (show uF.heap[u0.heap.size]? = some (.cells (clC ⟨cnm, csu, cfc, cab, cis, cA1, cc1, cfs, cA2, cc2, cms, cA3, cc3⟩).toArray 43 (0, 0)) from by rw [huF]; exact hst)
  have HBF := zh hBF
  have HUF := zh huF
  refine tst 12 (u0.heap.size) 0 (clC ⟨cnm, csu, cfc, cab, cis, cA1, cc1, cfs, cA2, cc2, cms, cA3, cc3⟩) rfl rfl rfl rfl tq size_clx (one_clx _) (by rw [← huF]; exact HS.out _ hBF) (fun _ => ?_)
  clear tq hst hgr hBF huF
  rw [← HUF.out]
  try simp only [puts]
  have hSF := HS.out _ HBF.out
  refine tkp 13 rfl ?_
  refine wpAnyH_done (by kernel_rfl) ?_ _
  clear hSF
  rcases HCS.out with ⟨hn, hcl, rfl⟩ | ⟨k0, m, rfl, hf, hcm, hm⟩
  ·have HN := zh (show FieldOfR x.cs cn s ⟨[], 0, [], false⟩ false from by unfold FieldOfR; rw [hn]; exact ⟨rfl, rfl⟩)
   clear hn hcl
   have rr := (HBF.out.block _ (blk_lt HRM.out)).trans HRM.out
   have q0 : uF.cell? ⟨w.heap.size + 1 + 1, 0, none⟩ = some (.string ⟨#[]⟩) := cell_of_row _ _ 0 _ _ _ rr
   have qf0 := frozen_of_row _ _ 0 _ _ rr
   have q1 : uF.cell? ⟨w.heap.size + 1 + 1, 1, none⟩ = some (.int .i64 0) := cell_of_row _ _ 1 _ _ _ rr
   have qf1 := frozen_of_row _ _ 1 _ _ rr
   have q2 : uF.cell? ⟨w.heap.size + 1 + 1, 2, none⟩ = some (.string ⟨#[]⟩) := cell_of_row _ _ 2 _ _ _ rr
   have qf2 := frozen_of_row _ _ 2 _ _ rr
   have q3 : uF.cell? ⟨w.heap.size + 1 + 1, 3, none⟩ = some (.bool false) := cell_of_row _ _ 3 _ _ _ rr
   have qf3 := frozen_of_row _ _ 3 _ _ rr
   have s0 := heap_setCell_same _ (w.heap.size + 1 + 1) 0 _ _ (.string ⟨#[]⟩) rr
   have s1 := heap_setCell_same _ (w.heap.size + 1 + 1) 1 _ _ (.int .i64 0) s0
   have s2 := heap_setCell_same _ (w.heap.size + 1 + 1) 2 _ _ (.string ⟨#[]⟩) s1
   have s3 := heap_setCell_same _ (w.heap.size + 1 + 1) 3 _ _ (.bool false) s2
   have gA : uF.grownBy ((((uF.setCell ⟨w.heap.size + 1 + 1, 0, none⟩ (.string ⟨#[]⟩)).setCell ⟨w.heap.size + 1 + 1, 1, none⟩ (.int .i64 0)).setCell ⟨w.heap.size + 1 + 1, 2, none⟩ (.string ⟨#[]⟩)).setCell ⟨w.heap.size + 1 + 1, 3, none⟩ (.bool false)) (some (w.heap.size + 1 + 1)) := gb_trans (gb_trans (gb_trans (gb_set _ (w.heap.size + 1 + 1) 0 _) (gb_set _ (w.heap.size + 1 + 1) 1 _)) (gb_set _ (w.heap.size + 1 + 1) 2 _)) (gb_set _ (w.heap.size + 1 + 1) 3 _)
   obtain ⟨WF, hWF⟩ : ∃ WF, WF = ((((uF.setCell ⟨w.heap.size + 1 + 1, 0, none⟩ (.string ⟨#[]⟩)).setCell ⟨w.heap.size + 1 + 1, 1, none⟩ (.int .i64 0)).setCell ⟨w.heap.size + 1 + 1, 2, none⟩ (.string ⟨#[]⟩)).setCell ⟨w.heap.size + 1 + 1, 3, none⟩ (.bool false)) := ⟨_, rfl⟩
   have ur : WF.heap[w.heap.size + 1 + 1]? = some (.cells #[.string ⟨#[]⟩, .int .i64 0, .string ⟨#[]⟩, .bool false] 92 (0, 0)) := by rw [hWF, s3]; simp
   have uB : Below w.heap.size w WF := by rw [hWF]; exact (HAL.out.trans (HBF.out.mono HAL.out.size)).grown gA (HAL.out.trans (HBF.out.mono HAL.out.size)).size (fun b hb => by cases hb; omega)
   have R0 := zh (show WF.cell? ⟨w.heap.size + 1 + 1, 0, none⟩ = some (.string ⟨#[]⟩) from cell_of_row _ _ 0 _ _ _ ur)
   have R1 := zh (show WF.cell? ⟨w.heap.size + 1 + 1, 1, none⟩ = some (.int .i64 0) from cell_of_row _ _ 1 _ _ _ ur)
   have R2 := zh (show WF.cell? ⟨w.heap.size + 1 + 1, 2, none⟩ = some (.string ⟨#[]⟩) from cell_of_row _ _ 2 _ _ _ ur)
   have R3 := zh (show WF.cell? ⟨w.heap.size + 1 + 1, 3, none⟩ = some (.bool false) from cell_of_row _ _ 3 _ _ _ ur)
   have UG := zh (show uF.grownBy WF (some (w.heap.size + 1 + 1)) from by rw [hWF]; exact gA)
   have HWF := zh hWF; have UB := zh uB
   clear rr s0 s1 s2 s3 gA hWF ur uB
   go_wp2
   rw [← HWF.out]
   refine bodyPost_ret (v := .tuple #[.agg #[.string ⟨#[]⟩, .int .i64 0, .string ⟨#[]⟩, .bool false], .bool false]) ?_ rfl ⟨⟨⟨[], 0, [], false⟩, false, rfl, HN.out⟩, UB.out⟩
   simp [results, Try.results39, go_sem, R0.out, R1.out, R2.out, R3.out]
  ·have hk1 : ((k0 : Int) == -1) = false := by simp
   have HN := zh (show FieldOfR x.cs cn s m true from by unfold FieldOfR; rw [hf]; exact ⟨rfl, hm⟩)
   have hok := ((hk.2.2 _ hcm).below (HAL.out.trans (HBF.out.mono HAL.out.size))).2.1
   dsimp only at hm hok
   obtain ⟨a, rfl, hab, m0, m1, m2, m3⟩ := fi_at hok.2 hm
   obtain ⟨e0, e1, e2, e3, e4, e5, e6⟩ := cl_cells HU.out
   dsimp only at e0 e1 e2 e3 e4 e5 e6
   have hkl : (k0 : Int) < (cfs.length : Int) := by have := (List.getElem?_eq_some_iff.1 hm).1; omega
   have hlm : (cfs.length : Int) ≤ 100000 := by have := (hg.2 _ hcm).1.2.1; dsimp only at this; omega
   clear hf hok hm hcm
   have rr := (HBF.out.block _ (blk_lt HRM.out)).trans HRM.out
   have q0 : uF.cell? ⟨w.heap.size + 1 + 1, 0, none⟩ = some (.string ⟨#[]⟩) := cell_of_row _ _ 0 _ _ _ rr
   have qf0 := frozen_of_row _ _ 0 _ _ rr
   have q1 : uF.cell? ⟨w.heap.size + 1 + 1, 1, none⟩ = some (.int .i64 0) := cell_of_row _ _ 1 _ _ _ rr
   have qf1 := frozen_of_row _ _ 1 _ _ rr
   have q2 : uF.cell? ⟨w.heap.size + 1 + 1, 2, none⟩ = some (.string ⟨#[]⟩) := cell_of_row _ _ 2 _ _ _ rr
   have qf2 := frozen_of_row _ _ 2 _ _ rr
   have q3 : uF.cell? ⟨w.heap.size + 1 + 1, 3, none⟩ = some (.bool false) := cell_of_row _ _ 3 _ _ _ rr
   have qf3 := frozen_of_row _ _ 3 _ _ rr
   have s0 := heap_setCell_same _ (w.heap.size + 1 + 1) 0 _ _ (.string ⟨m.nm.toArray⟩) rr
   have s1 := heap_setCell_same _ (w.heap.size + 1 + 1) 1 _ _ (.int .i64 m.k) s0
   have s2 := heap_setCell_same _ (w.heap.size + 1 + 1) 2 _ _ (.string ⟨m.cl.toArray⟩) s1
   have s3 := heap_setCell_same _ (w.heap.size + 1 + 1) 3 _ _ (.bool m.st) s2
   have gA : uF.grownBy ((((uF.setCell ⟨w.heap.size + 1 + 1, 0, none⟩ (.string ⟨m.nm.toArray⟩)).setCell ⟨w.heap.size + 1 + 1, 1, none⟩ (.int .i64 m.k)).setCell ⟨w.heap.size + 1 + 1, 2, none⟩ (.string ⟨m.cl.toArray⟩)).setCell ⟨w.heap.size + 1 + 1, 3, none⟩ (.bool m.st)) (some (w.heap.size + 1 + 1)) := gb_trans (gb_trans (gb_trans (gb_set _ (w.heap.size + 1 + 1) 0 _) (gb_set _ (w.heap.size + 1 + 1) 1 _)) (gb_set _ (w.heap.size + 1 + 1) 2 _)) (gb_set _ (w.heap.size + 1 + 1) 3 _)
   obtain ⟨WF, hWF⟩ : ∃ WF, WF = ((((uF.setCell ⟨w.heap.size + 1 + 1, 0, none⟩ (.string ⟨m.nm.toArray⟩)).setCell ⟨w.heap.size + 1 + 1, 1, none⟩ (.int .i64 m.k)).setCell ⟨w.heap.size + 1 + 1, 2, none⟩ (.string ⟨m.cl.toArray⟩)).setCell ⟨w.heap.size + 1 + 1, 3, none⟩ (.bool m.st)) := ⟨_, rfl⟩
   have ur : WF.heap[w.heap.size + 1 + 1]? = some (.cells #[.string ⟨m.nm.toArray⟩, .int .i64 m.k, .string ⟨m.cl.toArray⟩, .bool m.st] 92 (0, 0)) := by rw [hWF, s3]; simp
   have uB : Below w.heap.size w WF := by rw [hWF]; exact (HAL.out.trans (HBF.out.mono HAL.out.size)).grown gA (HAL.out.trans (HBF.out.mono HAL.out.size)).size (fun b hb => by cases hb; omega)
   have R0 := zh (show WF.cell? ⟨w.heap.size + 1 + 1, 0, none⟩ = some (.string ⟨m.nm.toArray⟩) from cell_of_row _ _ 0 _ _ _ ur)
   have R1 := zh (show WF.cell? ⟨w.heap.size + 1 + 1, 1, none⟩ = some (.int .i64 m.k) from cell_of_row _ _ 1 _ _ _ ur)
   have R2 := zh (show WF.cell? ⟨w.heap.size + 1 + 1, 2, none⟩ = some (.string ⟨m.cl.toArray⟩) from cell_of_row _ _ 2 _ _ _ ur)
   have R3 := zh (show WF.cell? ⟨w.heap.size + 1 + 1, 3, none⟩ = some (.bool m.st) from cell_of_row _ _ 3 _ _ _ ur)
   have UG := zh (show uF.grownBy WF (some (w.heap.size + 1 + 1)) from by rw [hWF]; exact gA)
   have HWF := zh hWF; have UB := zh uB
   clear rr s0 s1 s2 s3 gA hWF ur uB
   go_wp2
   rw [← HWF.out]
   refine bodyPost_ret (v := .tuple #[.agg #[.string ⟨m.nm.toArray⟩, .int .i64 m.k, .string ⟨m.cl.toArray⟩, .bool m.st], .bool true]) ?_ rfl ⟨⟨m, true, rfl, HN.out⟩, UB.out⟩
   simp [results, Try.results39, go_sem, R0.out, R1.out, R2.out, R3.out]
end Go.Proofs.Ytdifmgeicnndfaa.find

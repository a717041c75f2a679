/- FindY -/
import Derived.Test.YtdifmgeicnndfaaFindS
import Derived.Test.YtdifmgeicnndfaaFindX
namespace Go.Proofs.Ytdifmgeicnndfaa.find
open Go.RowKit
open words kindp opp op kind word prg sorts
set_option maxRecDepth 100000
set_option maxHeartbeats 8000000
set_option linter.all false
theorem supF_w (x : PrM) (cn : Tx) (w : World) : Calls Try.prog 72 #[.agg (prC x).toArray, .string ⟨cn.toArray⟩] w fun e w' => (∃ B1 B2, e = .returned (.func (.func 103) #[] #[.pointer (some ⟨B1, 0, none⟩), .pointer (some ⟨B2, 0, none⟩)]) ∧ w'.heap[B1]? = some (.cells (prC x).toArray 27 (0, 0)) ∧ w'.heap[B2]? = some (.cells #[.string ⟨cn.toArray⟩] 9 (0, 0))) ∧ Below w.heap.size w w' := by
  have h1 : ((w.alloc (.cells (prC x).toArray 27)).alloc (.cells #[.string ⟨cn.toArray⟩] 9)).heap[w.heap.size]? = some (.cells (prC x).toArray 27 (0, 0)) := (Below.heap_alloc _ _ _ (by simp)).trans (heap_alloc_new w _)
  have h2 : ((w.alloc (.cells (prC x).toArray 27)).alloc (.cells #[.string ⟨cn.toArray⟩] 9)).heap[w.heap.size + 1]? = some (.cells #[.string ⟨cn.toArray⟩] 9 (0, 0)) := by simpa using heap_alloc_new (w.alloc (.cells (prC x).toArray 27)) (.cells #[.string ⟨cn.toArray⟩] 9)
  have h3 : Below w.heap.size w ((w.alloc (.cells (prC x).toArray 27)).alloc (.cells #[.string ⟨cn.toArray⟩] 9)) := ((Below.refl _ w).alloc (Nat.le_refl _) _).alloc (by simp) _
  unfold prC at h1 h2 h3 ⊢
  try dsimp only at h1 h2 h3 ⊢
  have H1 := zh h1; have H2 := zh h2; have H3 := zh h3
  clear h1 h2 h3
  go_enter Try.func72, Try.ntmps72
  go_wp2
  go_ret
  exact ⟨⟨_, _, rfl, H1.out, H2.out⟩, H3.out⟩
theorem virtual_w (x : PrM) (cn : Tx) (L2 : List Tx) (hz2 : L2.length ≤ 1000) (w : World) (hk : PrOk w x) (hg : GrP x) (hanc : ∀ v, PrOk v x → Calls Try.prog 104 #[.agg (prC x).toArray, .string ⟨cn.toArray⟩] v (ListP L2 v)) : Calls Try.prog 37 #[.agg (prC x).toArray, .agg #[.string ⟨cn.toArray⟩, .string ⟨#[109]⟩, .string ⟨#[40, 41, 86]⟩]] w
    fun e w' => e = .returned (refV (declR (fun m => !m.st) x.cs (supersL x.cs cn ++ L2) [109] [40, 41, 86]) [109] [40, 41, 86]) ∧ Below w.heap.size w w' := by
  obtain ⟨W, hW⟩ : ∃ W, W = ((w.alloc (.cells (prC x).toArray 27)).alloc (.cells #[.string ⟨cn.toArray⟩, .string ⟨#[109]⟩, .string ⟨#[40, 41, 86]⟩] 25)).alloc (.cells #[.string ⟨#[]⟩, .string ⟨#[]⟩, .string ⟨#[]⟩] 25) := ⟨_, rfl⟩
  have hal : Below w.heap.size w W := by rw [hW]; exact (((Below.refl _ w).alloc (Nat.le_refl _) _).alloc (by simp <;> omega) _).alloc (by simp <;> omega) _
  have hb0 : W.heap[w.heap.size]? = some (.cells (prC x).toArray 27 (0, 0)) := by
    have := heap_alloc_new w (.cells (prC x).toArray 27)
    (try rw [World.size_alloc] at this)
    (try rw [World.size_alloc] at this)
    rw [hW]; exact (Below.heap_alloc _ _ _ (by simp <;> omega)).trans ((Below.heap_alloc _ _ _ (by simp <;> omega)).trans (this))
  have hb1 : W.heap[w.heap.size + 1]? = some (.cells #[.string ⟨cn.toArray⟩, .string ⟨#[109]⟩, .string ⟨#[40, 41, 86]⟩] 25 (0, 0)) := by
    have := heap_alloc_new (w.alloc (.cells (prC x).toArray 27)) (.cells #[.string ⟨cn.toArray⟩, .string ⟨#[109]⟩, .string ⟨#[40, 41, 86]⟩] 25)
    (try rw [World.size_alloc] at this)
    (try rw [World.size_alloc] at this)
    rw [hW]; exact (Below.heap_alloc _ _ _ (by simp <;> omega)).trans (this)
  have hb2 : W.heap[w.heap.size + 1 + 1]? = some (.cells #[.string ⟨#[]⟩, .string ⟨#[]⟩, .string ⟨#[]⟩] 25 (0, 0)) := by
    have := heap_alloc_new ((w.alloc (.cells (prC x).toArray 27)).alloc (.cells #[.string ⟨cn.toArray⟩, .string ⟨#[109]⟩, .string ⟨#[40, 41, 86]⟩] 25)) (.cells #[.string ⟨#[]⟩, .string ⟨#[]⟩, .string ⟨#[]⟩] 25)
    (try rw [World.size_alloc] at this)
    (try rw [World.size_alloc] at this)
    rw [hW]; exact this
  have HAL := zh hal; have HRB := zh hb2
  have HS := zh (show ∀ u : World, Below W.heap.size W u → (fun w' => w'.cell? ⟨w.heap.size, 0, none⟩ = some (.slice x.A1 x.cs.length x.c1) ∧ w'.cell? ⟨w.heap.size, 1, none⟩ = some (.slice x.A2 x.ns.length x.c2) ∧ w'.cell? ⟨w.heap.size, 2, none⟩ = some (.string ⟨x.ec.toArray⟩) ∧ w'.cell? ⟨w.heap.size, 3, none⟩ = some (.string ⟨x.en.toArray⟩) ∧ w'.cell? ⟨w.heap.size, 4, none⟩ = some (.string ⟨x.ed.toArray⟩) ∧ w'.cell? ⟨w.heap.size + 1, 0, none⟩ = some (.string ⟨cn.toArray⟩) ∧ w'.cell? ⟨w.heap.size + 1, 1, none⟩ = some (.string ⟨#[109]⟩) ∧ w'.cell? ⟨w.heap.size + 1, 2, none⟩ = some (.string ⟨#[40, 41, 86]⟩)) u from fun u hu => by
    obtain ⟨p0, p1, p2, p3, p4⟩ := pr_cells ((hu.block _ (blk_lt hb0)).trans hb0)
    have hm := (hu.block _ (blk_lt hb1)).trans hb1
    exact ⟨p0, p1, p2, p3, p4, cell_of_row _ _ 0 _ _ _ hm, cell_of_row _ _ 1 _ _ _ hm, cell_of_row _ _ 2 _ _ _ hm⟩)
  have HSU := zh (fun u (hu : Below W.heap.size W u) => supF_w x cn u)
  have HDE := zh (fun u B1 B2 (hu : Below w.heap.size w u) (hc : u.heap[B1]? = some (.cells (prC x).toArray 27 (0, 0))) (hr : u.heap[B2]? = some (.cells #[.string ⟨cn.toArray⟩] 9 (0, 0))) => declaredV_w 73 (fun m => !m.st) (enters_of Try.func73 (by kernel_rfl) rfl) notStatic_m x (supersL x.cs cn ++ L2) [109] [40, 41, 86] 103 #[.pointer (some ⟨B1, 0, none⟩), .pointer (some ⟨B2, 0, none⟩)] (enters_of Try.func103 (by kernel_rfl) rfl) u (hk.below hu) hg
   (fun W0 hW0 => supF_seq x cn B1 B2 (supersL x.cs cn) L2 W0 (by have := supers_len x.cs cn; have := hg.1.1; omega) hz2 ((hW0.block _ (blk_lt hc)).trans hc) ((hW0.block _ (blk_lt hr)).trans hr) (fun v hv => supers_w x cn v (PrOk.kcw ((hk.below hu).below hW0) hv) hg) (fun v hv => hanc v (PrOk.kcw ((hk.below hu).below hW0) hv))))
  unfold prC at hW HSU HDE ⊢
  try dsimp only at hW HSU HDE ⊢
  obtain ⟨a1, a2, a3, ok, hv⟩ := refV_form (declR (fun m => !m.st) x.cs (supersL x.cs cn ++ L2) [109] [40, 41, 86]) [109] [40, 41, 86]
  have HV := zh hv
  rw [hv] at HDE
  have HW := zh hW
  clear hal hb0 hb1 hb2 hW hv
  go_enter Try.func37, Try.ntmps37
  go_wp2_with fail
  try simp only [World.size_alloc]
  rw [← HW.out]
  (try go_wp2_with fail)
  refine wp_region_held_drew (S := (fun w' => w'.cell? ⟨w.heap.size, 0, none⟩ = some (.slice x.A1 x.cs.length x.c1) ∧ w'.cell? ⟨w.heap.size, 1, none⟩ = some (.slice x.A2 x.ns.length x.c2) ∧ w'.cell? ⟨w.heap.size, 2, none⟩ = some (.string ⟨x.ec.toArray⟩) ∧ w'.cell? ⟨w.heap.size, 3, none⟩ = some (.string ⟨x.en.toArray⟩) ∧ w'.cell? ⟨w.heap.size, 4, none⟩ = some (.string ⟨x.ed.toArray⟩) ∧ w'.cell? ⟨w.heap.size + 1, 0, none⟩ = some (.string ⟨cn.toArray⟩) ∧ w'.cell? ⟨w.heap.size + 1, 1, none⟩ = some (.string ⟨#[109]⟩) ∧ w'.cell? ⟨w.heap.size + 1, 2, none⟩ = some (.string ⟨#[40, 41, 86]⟩))) (by kernel_rfl) ?_ (fun hHeld => ?_)
  · exact HS.out _ (by exact ⟨rfl, rfl, rfl, Nat.le_refl _, fun _ _ => rfl⟩)
  obtain ⟨u0, hWd⟩ : ∃ u, u = W.drew := ⟨_, rfl⟩
  have HB0 := zh (show Below W.heap.size W u0 from by rw [hWd]; exact ⟨rfl, rfl, rfl, Nat.le_refl _, fun _ _ => rfl⟩)
  rw [← hWd]
  have hS0 := HS.out _ HB0.out
  clear hWd
  refine tkp 0 rfl ?_
  refine tkp 1 rfl ?_
  refine tkp 2 rfl ?_
  refine tkp 3 rfl ?_
  refine tkp 5 rfl ?_
  refine tkp 6 rfl ?_
  refine tkp 7 rfl ?_
  refine tkp 8 rfl ?_
  clear hS0
  refine rdy 4 rfl (fun K hK => ?_)
  go_simp
  refine (HSU.out _ HB0.out).mono ?_
  rintro e u1 ⟨⟨B1, B2, rfl, hc, hr⟩, hb⟩
  have HL1 := zh (show Below u0.heap.size u0 u1 from ⟨hb.os, hb.tape, hb.output, hb.size, hb.block⟩)
  have HB1 := zh (show Below W.heap.size W u1 from HB0.out.trans (HL1.out.mono HB0.out.size))
  have HC1 := zh hc
  have HR1 := zh hr
  clear hc hr hb
  go_wp2_with fail
  refine hK.out _ _ (HS.out _ HB1.out) (fun hHeld => ?_)
  clear hK K
  try simp only [puts]
  refine rdy 9 rfl (fun K hK => ?_)
  go_simp
  refine (HDE.out _ B1 B2 (HAL.out.trans (HB1.out.mono HAL.out.size)) HC1.out HR1.out).mono ?_
  rintro e u2 ⟨rfl, hb⟩
  have HL2 := zh (show Below u1.heap.size u1 u2 from ⟨hb.os, hb.tape, hb.output, hb.size, hb.block⟩)
  have HB2 := zh (show Below W.heap.size W u2 from HB1.out.trans (HL2.out.mono HB1.out.size))
  clear hb
  go_wp2_with fail
  refine hK.out _ _ (HS.out _ HB2.out) (fun hHeld => ?_)
  clear hK K
  try simp only [puts]
  have hS2 := HS.out _ HB2.out
  refine tkp 10 rfl ?_
  refine tkp 11 rfl ?_
  clear hS2
  have rr := (HB2.out.block _ (blk_lt HRB.out)).trans HRB.out
  have q0 : u2.cell? ⟨w.heap.size + 1 + 1, 0, none⟩ = some (.string ⟨#[]⟩) := cell_of_row _ _ 0 _ _ _ rr
  have qf0 := frozen_of_row _ _ 0 _ _ rr
  have q1 : u2.cell? ⟨w.heap.size + 1 + 1, 1, none⟩ = some (.string ⟨#[]⟩) := cell_of_row _ _ 1 _ _ _ rr
  have qf1 := frozen_of_row _ _ 1 _ _ rr
  have q2 : u2.cell? ⟨w.heap.size + 1 + 1, 2, none⟩ = some (.string ⟨#[]⟩) := cell_of_row _ _ 2 _ _ _ rr
  have qf2 := frozen_of_row _ _ 2 _ _ rr
  have s0 := heap_setCell_same _ (w.heap.size + 1 + 1) 0 _ _ (.string ⟨a1.toArray⟩) rr
  have s1 := heap_setCell_same _ (w.heap.size + 1 + 1) 1 _ _ (.string ⟨a2.toArray⟩) s0
  have s2 := heap_setCell_same _ (w.heap.size + 1 + 1) 2 _ _ (.string ⟨a3.toArray⟩) s1
  have gA : u2.grownBy (((u2.setCell ⟨w.heap.size + 1 + 1, 0, none⟩ (.string ⟨a1.toArray⟩)).setCell ⟨w.heap.size + 1 + 1, 1, none⟩ (.string ⟨a2.toArray⟩)).setCell ⟨w.heap.size + 1 + 1, 2, none⟩ (.string ⟨a3.toArray⟩)) (some (w.heap.size + 1 + 1)) := gb_trans (gb_trans (gb_set _ (w.heap.size + 1 + 1) 0 _) (gb_set _ (w.heap.size + 1 + 1) 1 _)) (gb_set _ (w.heap.size + 1 + 1) 2 _)
  obtain ⟨WF, hWF⟩ : ∃ WF, WF = (((u2.setCell ⟨w.heap.size + 1 + 1, 0, none⟩ (.string ⟨a1.toArray⟩)).setCell ⟨w.heap.size + 1 + 1, 1, none⟩ (.string ⟨a2.toArray⟩)).setCell ⟨w.heap.size + 1 + 1, 2, none⟩ (.string ⟨a3.toArray⟩)) := ⟨_, rfl⟩
  have ur : WF.heap[w.heap.size + 1 + 1]? = some (.cells #[.string ⟨a1.toArray⟩, .string ⟨a2.toArray⟩, .string ⟨a3.toArray⟩] 25 (0, 0)) := by rw [hWF, s2]; simp
  have uB : Below w.heap.size w WF := by rw [hWF]; exact (HAL.out.trans (HB2.out.mono HAL.out.size)).grown gA (HAL.out.trans (HB2.out.mono HAL.out.size)).size (fun b hb => by cases hb; omega)
  have R0 := zh (show WF.cell? ⟨w.heap.size + 1 + 1, 0, none⟩ = some (.string ⟨a1.toArray⟩) from cell_of_row _ _ 0 _ _ _ ur)
  have R1 := zh (show WF.cell? ⟨w.heap.size + 1 + 1, 1, none⟩ = some (.string ⟨a2.toArray⟩) from cell_of_row _ _ 1 _ _ _ ur)
  have R2 := zh (show WF.cell? ⟨w.heap.size + 1 + 1, 2, none⟩ = some (.string ⟨a3.toArray⟩) from cell_of_row _ _ 2 _ _ _ ur)
  have UG := zh (show u2.grownBy WF (some (w.heap.size + 1 + 1)) from by rw [hWF]; exact gA)
  have HWF := zh hWF; have UB := zh uB
  clear rr s0 s1 s2 gA hWF ur uB
  have HS9 := zh (show (fun w' => w'.cell? ⟨w.heap.size, 0, none⟩ = some (.slice x.A1 x.cs.length x.c1) ∧ w'.cell? ⟨w.heap.size, 1, none⟩ = some (.slice x.A2 x.ns.length x.c2) ∧ w'.cell? ⟨w.heap.size, 2, none⟩ = some (.string ⟨x.ec.toArray⟩) ∧ w'.cell? ⟨w.heap.size, 3, none⟩ = some (.string ⟨x.en.toArray⟩) ∧ w'.cell? ⟨w.heap.size, 4, none⟩ = some (.string ⟨x.ed.toArray⟩) ∧ w'.cell? ⟨w.heap.size + 1, 0, none⟩ = some (.string ⟨cn.toArray⟩) ∧ w'.cell? ⟨w.heap.size + 1, 1, none⟩ = some (.string ⟨#[109]⟩) ∧ w'.cell? ⟨w.heap.size + 1, 2, none⟩ = some (.string ⟨#[40, 41, 86]⟩)) WF from by rw [HWF.out]; exact ⟨(by simp [World.cell?_setCell_other, (HS.out _ HB2.out).1]), (by simp [World.cell?_setCell_other, (HS.out _ HB2.out).2.1]), (by simp [World.cell?_setCell_other, (HS.out _ HB2.out).2.2.1]), (by simp [World.cell?_setCell_other, (HS.out _ HB2.out).2.2.2.1]), (by simp [World.cell?_setCell_other, (HS.out _ HB2.out).2.2.2.2.1]), (by simp [World.cell?_setCell_other, (HS.out _ HB2.out).2.2.2.2.2.1]), (by simp [World.cell?_setCell_other, (HS.out _ HB2.out).2.2.2.2.2.2.1]), (by simp [World.cell?_setCell_other, (HS.out _ HB2.out).2.2.2.2.2.2.2])⟩)
  refine rdy 12 rfl (fun K hK => ?_)
  go_simp
  rw [← HWF.out]
  refine hK.out _ _ HS9.out (fun hHeld => ?_)
  clear hK K
  try simp only [puts]
  have hS9 := HS9.out
  refine tkp 13 rfl ?_
  clear hS9
  refine wpAnyH_done (by kernel_rfl) ?_ _
  clear q0 q1 q2 qf0 qf1 qf2
  go_wp2
  refine bodyPost_ret (v := .tuple #[.agg #[.string ⟨a1.toArray⟩, .string ⟨a2.toArray⟩, .string ⟨a3.toArray⟩], .bool ok]) ?_ rfl ⟨by rw [HV.out], UB.out⟩
  simp [results, Try.results37, go_sem, R0.out, R1.out, R2.out]
end Go.Proofs.Ytdifmgeicnndfaa.find

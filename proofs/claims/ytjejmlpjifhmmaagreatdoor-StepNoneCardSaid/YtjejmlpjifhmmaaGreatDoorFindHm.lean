/- FindHm -/
import Derived.Test.YtjejmlpjifhmmaaGreatDoorFindH
namespace Go.Proofs.YtjejmlpjifhmmaaGreatDoor.find
open Go.RowKit
open words kindp opp op kind word prg sorts
set_option maxRecDepth 100000
set_option maxHeartbeats 16000000
set_option linter.all false
theorem rd_six {u v : World} {A : Option Addr} {l : List InM} {b : Nat} {cs : Array Value} {t : TypeId} {f : Nat × Nat} (hr : Rd u A (l.flatMap inC)) (hb : u.heap[b]? = some (.cells cs t f)) (hc : cs.size ≤ 6) (hg : u.grownBy v (some b)) : Rd v A (l.flatMap inC) := by
 rcases l with _ | ⟨y, l⟩
 ·exact Rd.nil _ _
 rcases hr with h | ⟨a, rfl, hlt, hce⟩
 ·exact absurd h (by simp [inC])
 have hne : a.block ≠ b := by
  intro e
  have h8 := hce 8 (.slice y.A y.i.ar.length y.c) (by simp [inC])
  have e8 : a.add 8 = ⟨a.block, a.off + 8, none⟩ := by unfold Addr.add; rw [if_neg (by omega)]
  rw [e8, e, cell_of_row _ _ _ _ _ _ hb] at h8
  have := (Array.getElem?_eq_some_iff.1 h8).1
  omega
 refine .inr ⟨a, rfl, Nat.lt_of_lt_of_le hlt hg.size, fun j x hx => ?_⟩
 have e1 : (a.add j).block = a.block := add_block a j
 exact (World.cell?_of_block (w := u) (by rw [e1]; exact hg.block a.block hlt (by intro e; exact hne (Option.some.inj e)))).trans (hce j x hx)
def GetM (cs : List ClM) (cn s d : Tx) (w : World) (e : Ending) (w' : World) : Prop := (∃ k ok, e = .returned (.tuple #[.agg (meC k).toArray, .bool ok]) ∧ GetR cs cn s d k ok ∧ k.co.length ≤ k.c ∧ Rd w' k.A (k.co.flatMap inC)) ∧ Below w.heap.size w w'
theorem get_m (x : PrM) (cn s d : Tx) (w : World) (hk : PrOk w x) (hg : GrP x) : Calls Tryz.prog 71 #[.agg (prC x).toArray, .agg #[.string ⟨cn.toArray⟩, .string ⟨s.toArray⟩, .string ⟨d.toArray⟩]] w (GetM x.cs cn s d w) := by
 obtain ⟨W, hW⟩ : ∃ W, W = ((w.alloc (.cells (prC x).toArray 36)).alloc (.cells #[.string ⟨cn.toArray⟩, .string ⟨s.toArray⟩, .string ⟨d.toArray⟩] 34)).alloc (.cells #[.string ⟨#[]⟩, .string ⟨#[]⟩, .bool false, .bool false, .int .i64 0, .slice none 0 0] 155) := ⟨_, rfl⟩
 have hal : Below w.heap.size w W := by rw [hW]; exact (((Below.refl _ w).alloc (Nat.le_refl _) _).alloc (by simp) _).alloc (by simp; omega) _
 have hblk : W.heap[w.heap.size]? = some (.cells (prC x).toArray 36 (0, 0)) := by rw [hW]; exact (Below.heap_alloc _ _ _ (by simp <;> omega)).trans ((Below.heap_alloc _ _ _ (by simp)).trans (heap_alloc_new w _))
 have hbr : W.heap[w.heap.size + 1]? = some (.cells #[.string ⟨cn.toArray⟩, .string ⟨s.toArray⟩, .string ⟨d.toArray⟩] 34 (0, 0)) := by
  have := heap_alloc_new (w.alloc (.cells (prC x).toArray 36)) (.cells #[.string ⟨cn.toArray⟩, .string ⟨s.toArray⟩, .string ⟨d.toArray⟩] 34)
  rw [World.size_alloc] at this
  rw [hW]; exact (Below.heap_alloc _ _ _ (by simp)).trans this
 have hbm : W.heap[w.heap.size + 1 + 1]? = some (.cells #[.string ⟨#[]⟩, .string ⟨#[]⟩, .bool false, .bool false, .int .i64 0, .slice none 0 0] 155 (0, 0)) := by
  have := heap_alloc_new ((w.alloc (.cells (prC x).toArray 36)).alloc (.cells #[.string ⟨cn.toArray⟩, .string ⟨s.toArray⟩, .string ⟨d.toArray⟩] 34)) (.cells #[.string ⟨#[]⟩, .string ⟨#[]⟩, .bool false, .bool false, .int .i64 0, .slice none 0 0] 155)
  rw [World.size_alloc, World.size_alloc] at this
  rw [hW]; exact this
 have HAL := zh hal; have HRM := zh hbm
 have HS := zh (show ∀ u : World, Below W.heap.size W u → (fun w' => (w'.cell? ⟨w.heap.size, 0, none⟩ = some (.slice x.A1 x.cs.length x.c1) ∧ w'.cell? ⟨w.heap.size, 1, none⟩ = some (.slice x.A2 x.ns.length x.c2) ∧ w'.cell? ⟨w.heap.size, 2, none⟩ = some (.string ⟨x.ec.toArray⟩) ∧ w'.cell? ⟨w.heap.size, 3, none⟩ = some (.string ⟨x.en.toArray⟩) ∧ w'.cell? ⟨w.heap.size, 4, none⟩ = some (.string ⟨x.ed.toArray⟩)) ∧ w'.cell? ⟨w.heap.size + 1, 0, none⟩ = some (.string ⟨cn.toArray⟩) ∧ w'.cell? ⟨w.heap.size + 1, 1, none⟩ = some (.string ⟨s.toArray⟩) ∧ w'.cell? ⟨w.heap.size + 1, 2, none⟩ = some (.string ⟨d.toArray⟩)) u from fun u hu => by
  have a := pr_cells ((hu.block _ (blk_lt hblk)).trans hblk)
  have b := (hu.block _ (blk_lt hbr)).trans hbr
  exact ⟨⟨a.1, a.2.1, a.2.2.1, a.2.2.2.1, a.2.2.2.2⟩, cell_of_row _ _ 0 _ _ _ b, cell_of_row _ _ 1 _ _ _ b, cell_of_row _ _ 2 _ _ _ b⟩)
 have HFI := zh (fun v B A c g h (hv : Below w.heap.size w v) h0 hr h1 h2 => first_w x [cn] s d B g h A c v (hk.below hv) hg h0 hr (by simp) h1 h2)
 obtain ⟨q, hq⟩ : ∃ q, q = firstR x.cs [cn] s d := ⟨_, rfl⟩
 rw [← hq] at HFI
 have hcs : (firstM x.cs [cn] s d = none ∧ q.1 = zeroC ∧ q.2 = -1) ∨ ∃ k m, q.2 = ((k : Nat) : Int) ∧ firstM x.cs [cn] s d = some (q.1, k) ∧ q.1 ∈ x.cs ∧ q.1.ms[k]? = some m := by
  cases hf : firstM x.cs [cn] s d with
  | none => rw [firstR_none hf] at hq; rw [hq]; exact .inl ⟨rfl, rfl, rfl⟩
  | some r =>
   obtain ⟨c, k⟩ := r
   rw [firstR_some hf] at hq
   obtain ⟨hm, m, h1, -, -⟩ := firstM_at hf
   rw [hq]
   exact .inr ⟨k, m, rfl, rfl, hm, h1⟩
 clear hq
 obtain ⟨⟨cnm, csu, cfc, cab, cis, cA1, cc1, cfs, cA2, cc2, cms, cA3, cc3⟩, kk⟩ := q
 dsimp only at hcs HFI
 have HCS := zh hcs
 dsimp only [clC] at HFI
 unfold prC at hW HFI ⊢
 try dsimp only at hW HFI ⊢
 have HW := zh hW
 clear hal hblk hbr hbm hW hcs
 go_enter Tryz.func71, Tryz.ntmps71
 go_wp2_with fail
 try simp only [World.size_alloc]
 rw [← HW.out]
 (try go_wp2_with fail)
 refine wp_region_held_drew (S := (fun w' => (w'.cell? ⟨w.heap.size, 0, none⟩ = some (.slice x.A1 x.cs.length x.c1) ∧ w'.cell? ⟨w.heap.size, 1, none⟩ = some (.slice x.A2 x.ns.length x.c2) ∧ w'.cell? ⟨w.heap.size, 2, none⟩ = some (.string ⟨x.ec.toArray⟩) ∧ w'.cell? ⟨w.heap.size, 3, none⟩ = some (.string ⟨x.en.toArray⟩) ∧ w'.cell? ⟨w.heap.size, 4, none⟩ = some (.string ⟨x.ed.toArray⟩)) ∧ w'.cell? ⟨w.heap.size + 1, 0, none⟩ = some (.string ⟨cn.toArray⟩) ∧ w'.cell? ⟨w.heap.size + 1, 1, none⟩ = some (.string ⟨s.toArray⟩) ∧ w'.cell? ⟨w.heap.size + 1, 2, none⟩ = some (.string ⟨d.toArray⟩))) (by kernel_rfl) ?_ (fun hHeld => ?_)
 ·exact HS.out _ (by exact ⟨rfl, rfl, rfl, Nat.le_refl _, fun _ _ => rfl⟩)
 obtain ⟨u0, hWd⟩ : ∃ u, u = W.drew := ⟨_, rfl⟩
 have HB0 := zh (show Below W.heap.size W u0 from by rw [hWd]; exact ⟨rfl, rfl, rfl, Nat.le_refl _, fun _ _ => rfl⟩)
 rw [← hWd]
 have hS0 := HS.out _ HB0.out
 clear hWd
 refine tkp 0 rfl ?_
 refine tkp 1 rfl ?_
 refine tkp 2 rfl ?_
 refine tkp 4 rfl ?_
 refine tkp 5 rfl ?_
 refine tkp 6 rfl ?_
 refine tkp 7 rfl ?_
 clear hS0
 refine wpAnyH_ready (rs := [3, 13]) (by kernel_rfl) (by simp) (AllReadyH.cons rfl (fun K hK => ?_) (AllReadyH.cons rfl (fun K hK => ?_) AllReadyH.nil))
 ·go_simp
  refine (only_w cn _).mono ?_
  rintro e u1 ⟨⟨B, A, c, rfl, hc, hr⟩, hb⟩
  have HL1 := zh (show Below u0.heap.size u0 u1 from ⟨hb.os, hb.tape, hb.output, hb.size, hb.block⟩)
  have HB1 := zh (show Below W.heap.size W u1 from HB0.out.trans (HL1.out.mono HB0.out.size))
  have HC1 := zh (show u1.cell? ⟨B, 0, none⟩ = some (.slice A [cn].length c) from hc)
  have HR1 := zh (show Rd u1 A (SX [cn]) from hr)
  clear hc hr hb
  go_wp2_with fail
  refine hK.out _ _ (HS.out _ HB1.out) (fun hHeld => ?_)
  clear hK K
  try simp only [puts]
  refine wpAnyH_ready (rs := [8, 13]) (by kernel_rfl) (by simp) (AllReadyH.cons rfl (fun K hK => ?_) (AllReadyH.cons rfl (fun K hK => ?_) AllReadyH.nil))
  ·go_simp
   refine (method_b s d _).mono ?_
   rintro e u2 ⟨⟨g, h, rfl, hg1, hh1⟩, hb⟩
   have HL2 := zh (show Below u1.heap.size u1 u2 from ⟨hb.os, hb.tape, hb.output, hb.size, hb.block⟩)
   have HB2 := zh (show Below W.heap.size W u2 from HB1.out.trans (HL2.out.mono HB1.out.size))
   have HC2 := zh (show u2.cell? ⟨B, 0, none⟩ = some (.slice A [cn].length c) from (HL2.out.cell (World.block_lt_of_cell? _ _ HC1.out)).trans HC1.out)
   have HR2 := zh (show Rd u2 A (SX [cn]) from HR1.out.below HL2.out)
   have HG2 := zh (show u2.cell? ⟨g, 0, none⟩ = some (.string ⟨s.toArray⟩) from hg1)
   have HH2 := zh (show u2.cell? ⟨h, 0, none⟩ = some (.string ⟨d.toArray⟩) from hh1)
   clear hg1 hh1 hb
   go_wp2_with fail
   refine hK.out _ _ (HS.out _ HB2.out) (fun hHeld => ?_)
   clear hK K
   try simp only [puts]
   refine wpAnyH_ready (rs := [9, 13]) (by kernel_rfl) (by simp) (AllReadyH.cons rfl (fun K hK => ?_) (AllReadyH.cons rfl (fun K hK => ?_) AllReadyH.nil))
   ·go_simp
    refine (HFI.out _ B A c g h (HAL.out.trans (HB2.out.mono HAL.out.size)) HC2.out HR2.out HG2.out HH2.out).mono ?_
    rintro e u3 ⟨rfl, hb⟩
    have HL3 := zh (show Below u2.heap.size u2 u3 from ⟨hb.os, hb.tape, hb.output, hb.size, hb.block⟩)
    have HB3 := zh (show Below W.heap.size W u3 from HB2.out.trans (HL3.out.mono HB2.out.size))
    have HC3 := zh (show u3.cell? ⟨B, 0, none⟩ = some (.slice A [cn].length c) from (HL3.out.cell (World.block_lt_of_cell? _ _ HC2.out)).trans HC2.out)
    have HR3 := zh (show Rd u3 A (SX [cn]) from HR2.out.below HL3.out)
    have HG3 := zh (show u3.cell? ⟨g, 0, none⟩ = some (.string ⟨s.toArray⟩) from (HL3.out.cell (World.block_lt_of_cell? _ _ HG2.out)).trans HG2.out)
    have HH3 := zh (show u3.cell? ⟨h, 0, none⟩ = some (.string ⟨d.toArray⟩) from (HL3.out.cell (World.block_lt_of_cell? _ _ HH2.out)).trans HH2.out)
    clear hb
    go_wp2_with fail
    refine hK.out _ _ (HS.out _ HB3.out) (fun hHeld => ?_)
    clear hK K
    try simp only [puts]
    have hS9 := HS.out _ HB3.out
    refine tkp 10 rfl ?_
    refine tkp 11 rfl ?_
    refine tkp 12 rfl ?_
    clear hS9
    refine rdy 13 rfl (fun K hK => ?_)
    go_simp
    obtain ⟨u4, hn⟩ : ∃ v, v = u3.alloc (.cells #[.string ⟨#[]⟩, .string ⟨#[]⟩, .bool false, .bool false, .slice none 0 0, .slice none 0 0, .slice none 0 0] 159) := ⟨_, rfl⟩
    have hb : Below u3.heap.size u3 u4 := by rw [hn]; exact (Below.refl _ _).alloc (Nat.le_refl _) _
    have hz : u4.heap[u3.heap.size]? = some (.cells #[.string ⟨#[]⟩, .string ⟨#[]⟩, .bool false, .bool false, .slice none 0 0, .slice none 0 0, .slice none 0 0] 159 (0, 0)) := by rw [hn]; exact heap_alloc_new _ _
    have HNN := zh hn
    have HGE := zh (show W.heap.size ≤ u3.heap.size from HB3.out.size)
    rw [← HNN.out]
    clear hn
    have HL4 := zh (show Below u3.heap.size u3 u4 from hb)
    have HB4 := zh (show Below W.heap.size W u4 from HB3.out.trans (HL4.out.mono HB3.out.size))
    have HC4 := zh (show u4.cell? ⟨B, 0, none⟩ = some (.slice A [cn].length c) from (HL4.out.cell (World.block_lt_of_cell? _ _ HC3.out)).trans HC3.out)
    have HR4 := zh (show Rd u4 A (SX [cn]) from HR3.out.below HL4.out)
    have HG4 := zh (show u4.cell? ⟨g, 0, none⟩ = some (.string ⟨s.toArray⟩) from (HL4.out.cell (World.block_lt_of_cell? _ _ HG3.out)).trans HG3.out)
    have HH4 := zh (show u4.cell? ⟨h, 0, none⟩ = some (.string ⟨d.toArray⟩) from (HL4.out.cell (World.block_lt_of_cell? _ _ HH3.out)).trans HH3.out)
    have HZ4 := zh (show u4.heap[u3.heap.size]? = some (.cells #[.string ⟨#[]⟩, .string ⟨#[]⟩, .bool false, .bool false, .slice none 0 0, .slice none 0 0, .slice none 0 0] 159 (0, 0)) from hz)
    clear hz hb
    refine hK.out _ _ (HS.out _ HB4.out) (fun hHeld => ?_)
    clear hK K
    try simp only [puts]
    have tq : u4.there u3.heap.size 0 7 := there_new HZ4.out
    have hst := sets_new (cs := clC ⟨cnm, csu, cfc, cab, cis, cA1, cc1, cfs, cA2, cc2, cms, cA3, cc3⟩) rfl HZ4.out
    have hgr := sets_grown u4 (u3.heap.size) 0 (clC ⟨cnm, csu, cfc, cab, cis, cA1, cc1, cfs, cA2, cc2, cms, cA3, cc3⟩)
    obtain ⟨uF, huF⟩ : ∃ v, v = u4.setCells (u3.heap.size) 0 (clC ⟨cnm, csu, cfc, cab, cis, cA1, cc1, cfs, cA2, cc2, cms, cA3, cc3⟩) := ⟨_, rfl⟩
    have hBF : Below W.heap.size W uF := by rw [huF]; exact HB4.out.grown hgr HB4.out.size (fun k hk => by cases hk; exact HGE.out)
    have HU := zh (show uF.heap[u3.heap.size]? = some (.cells (clC ⟨cnm, csu, cfc, cab, cis, cA1, cc1, cfs, cA2, cc2, cms, cA3, cc3⟩).toArray 159 (0, 0)) from by rw [huF]; exact hst)
    have HBF := zh hBF
    have HUF := zh huF
    refine tst 14 (u3.heap.size) 0 (clC ⟨cnm, csu, cfc, cab, cis, cA1, cc1, cfs, cA2, cc2, cms, cA3, cc3⟩) rfl rfl rfl rfl tq size_clx (one_clx _) (by rw [← huF]; exact HS.out _ hBF) (fun _ => ?_)
    clear tq hst hgr hBF huF
    rw [← HUF.out]
    try simp only [puts]
    have hSF := HS.out _ HBF.out
    refine tkp 15 rfl ?_
    refine wpAnyH_done (by kernel_rfl) ?_ _
    clear hSF
    rcases HCS.out with ⟨hn, hcl, rfl⟩ | ⟨k0, m, rfl, hf, hcm, hm⟩
    ·have HN := zh (show GetR x.cs cn s d zeroM false from by unfold GetR; rw [hn]; exact ⟨rfl, rfl⟩)
     clear hn hcl
     have rr := (HBF.out.block _ (blk_lt HRM.out)).trans HRM.out
     have q0 : uF.cell? ⟨w.heap.size + 1 + 1, 0, none⟩ = some (.string ⟨#[]⟩) := cell_of_row _ _ 0 _ _ _ rr
     have qf0 := frozen_of_row _ _ 0 _ _ rr
     have q1 : uF.cell? ⟨w.heap.size + 1 + 1, 1, none⟩ = some (.string ⟨#[]⟩) := cell_of_row _ _ 1 _ _ _ rr
     have qf1 := frozen_of_row _ _ 1 _ _ rr
     have q2 : uF.cell? ⟨w.heap.size + 1 + 1, 2, none⟩ = some (.bool false) := cell_of_row _ _ 2 _ _ _ rr
     have qf2 := frozen_of_row _ _ 2 _ _ rr
     have q3 : uF.cell? ⟨w.heap.size + 1 + 1, 3, none⟩ = some (.bool false) := cell_of_row _ _ 3 _ _ _ rr
     have qf3 := frozen_of_row _ _ 3 _ _ rr
     have q4 : uF.cell? ⟨w.heap.size + 1 + 1, 4, none⟩ = some (.int .i64 0) := cell_of_row _ _ 4 _ _ _ rr
     have qf4 := frozen_of_row _ _ 4 _ _ rr
     have q5 : uF.cell? ⟨w.heap.size + 1 + 1, 5, none⟩ = some (.slice none 0 0) := cell_of_row _ _ 5 _ _ _ rr
     have qf5 := frozen_of_row _ _ 5 _ _ rr
     have s0 := heap_setCell_same _ (w.heap.size + 1 + 1) 0 _ _ (.string ⟨#[]⟩) rr
     have s1 := heap_setCell_same _ (w.heap.size + 1 + 1) 1 _ _ (.string ⟨#[]⟩) s0
     have s2 := heap_setCell_same _ (w.heap.size + 1 + 1) 2 _ _ (.bool false) s1
     have s3 := heap_setCell_same _ (w.heap.size + 1 + 1) 3 _ _ (.bool false) s2
     have s4 := heap_setCell_same _ (w.heap.size + 1 + 1) 4 _ _ (.int .i64 0) s3
     have s5 := heap_setCell_same _ (w.heap.size + 1 + 1) 5 _ _ (.slice none 0 0) s4
     have gA : uF.grownBy ((((((uF.setCell ⟨w.heap.size + 1 + 1, 0, none⟩ (.string ⟨#[]⟩)).setCell ⟨w.heap.size + 1 + 1, 1, none⟩ (.string ⟨#[]⟩)).setCell ⟨w.heap.size + 1 + 1, 2, none⟩ (.bool false)).setCell ⟨w.heap.size + 1 + 1, 3, none⟩ (.bool false)).setCell ⟨w.heap.size + 1 + 1, 4, none⟩ (.int .i64 0)).setCell ⟨w.heap.size + 1 + 1, 5, none⟩ (.slice none 0 0)) (some (w.heap.size + 1 + 1)) := gb_trans (gb_trans (gb_trans (gb_trans (gb_trans (gb_set _ (w.heap.size + 1 + 1) 0 _) (gb_set _ (w.heap.size + 1 + 1) 1 _)) (gb_set _ (w.heap.size + 1 + 1) 2 _)) (gb_set _ (w.heap.size + 1 + 1) 3 _)) (gb_set _ (w.heap.size + 1 + 1) 4 _)) (gb_set _ (w.heap.size + 1 + 1) 5 _)
     obtain ⟨WF, hWF⟩ : ∃ WF, WF = ((((((uF.setCell ⟨w.heap.size + 1 + 1, 0, none⟩ (.string ⟨#[]⟩)).setCell ⟨w.heap.size + 1 + 1, 1, none⟩ (.string ⟨#[]⟩)).setCell ⟨w.heap.size + 1 + 1, 2, none⟩ (.bool false)).setCell ⟨w.heap.size + 1 + 1, 3, none⟩ (.bool false)).setCell ⟨w.heap.size + 1 + 1, 4, none⟩ (.int .i64 0)).setCell ⟨w.heap.size + 1 + 1, 5, none⟩ (.slice none 0 0)) := ⟨_, rfl⟩
     have ur : WF.heap[w.heap.size + 1 + 1]? = some (.cells #[.string ⟨#[]⟩, .string ⟨#[]⟩, .bool false, .bool false, .int .i64 0, .slice none 0 0] 155 (0, 0)) := by rw [hWF, s5]; simp
     have uB : Below w.heap.size w WF := by rw [hWF]; exact (HAL.out.trans (HBF.out.mono HAL.out.size)).grown gA (HAL.out.trans (HBF.out.mono HAL.out.size)).size (fun b hb => by cases hb; omega)
     have R0 := zh (show WF.cell? ⟨w.heap.size + 1 + 1, 0, none⟩ = some (.string ⟨#[]⟩) from cell_of_row _ _ 0 _ _ _ ur)
     have R1 := zh (show WF.cell? ⟨w.heap.size + 1 + 1, 1, none⟩ = some (.string ⟨#[]⟩) from cell_of_row _ _ 1 _ _ _ ur)
     have R2 := zh (show WF.cell? ⟨w.heap.size + 1 + 1, 2, none⟩ = some (.bool false) from cell_of_row _ _ 2 _ _ _ ur)
     have R3 := zh (show WF.cell? ⟨w.heap.size + 1 + 1, 3, none⟩ = some (.bool false) from cell_of_row _ _ 3 _ _ _ ur)
     have R4 := zh (show WF.cell? ⟨w.heap.size + 1 + 1, 4, none⟩ = some (.int .i64 0) from cell_of_row _ _ 4 _ _ _ ur)
     have R5 := zh (show WF.cell? ⟨w.heap.size + 1 + 1, 5, none⟩ = some (.slice none 0 0) from cell_of_row _ _ 5 _ _ _ ur)
     have UG := zh (show uF.grownBy WF (some (w.heap.size + 1 + 1)) from by rw [hWF]; exact gA)
     have HWF := zh hWF; have UB := zh uB
     clear rr s0 s1 s2 s3 s4 s5 gA hWF ur uB
     go_wp2
     rw [← HWF.out]
     refine bodyPost_ret (v := .tuple #[.agg #[.string ⟨#[]⟩, .string ⟨#[]⟩, .bool false, .bool false, .int .i64 0, .slice none 0 0], .bool false]) ?_ rfl ⟨⟨zeroM, false, rfl, HN.out, Nat.le_refl _, Rd.nil _ _⟩, UB.out⟩
     simp [results, Tryz.results71, go_sem, R0.out, R1.out, R2.out, R3.out, R4.out, R5.out]
    ·have hk1 : ((k0 : Int) == -1) = false := by simp
     have HN := zh (fun k' (h : pM k' = pM m) => show GetR x.cs cn s d k' true from by unfold GetR; rw [hf]; exact ⟨rfl, m, hm, h⟩)
     have hok := ((hk.2.2 _ hcm).below (HAL.out.trans (HBF.out.mono HAL.out.size))).2.2
     have hmm := hok.2 m (List.mem_of_getElem? hm)
     have hgm := (hg.2 _ hcm).2 m (List.mem_of_getElem? hm)
     dsimp only at hm hok
     obtain ⟨a, rfl, -, m0, m1, m2, m3, m4, m5⟩ := me_at hok.1.2 hm
     obtain ⟨e0, e1, e2, e3, e4, e5, e6⟩ := cl_cells HU.out
     dsimp only at e0 e1 e2 e3 e4 e5 e6
     have hkl : (k0 : Int) < (cms.length : Int) := by have := (List.getElem?_eq_some_iff.1 hm).1; omega
     have hlm : (cms.length : Int) ≤ 40 := by have := (hg.2 _ hcm).1.2.2.1; dsimp only at this; omega
     have HCO := zh (copied_w m uF hmm hgm)
     dsimp only [meC] at HCO
     clear hf hok hm hcm hmm hgm
     go_wp2_with fail
     refine HCO.out.mono ?_
     rintro e u9 ⟨⟨k, rfl, hkp, hmk⟩, hb9⟩
     dsimp only [meC]
     have HKP := zh (HN.out k hkp); have HMK := zh (And.intro hmk.1 hmk.2.1)
     clear hmk
     have HB9 := zh (show Below W.heap.size W u9 from HBF.out.trans (hb9.mono HBF.out.size))
     clear m0 m1 m2 m3 m4 m5 e0 e1 e2 e3 e4 e5 e6 HCO hb9 hkp
     have rr := (HB9.out.block _ (blk_lt HRM.out)).trans HRM.out
     have q0 : u9.cell? ⟨w.heap.size + 1 + 1, 0, none⟩ = some (.string ⟨#[]⟩) := cell_of_row _ _ 0 _ _ _ rr
     have qf0 := frozen_of_row _ _ 0 _ _ rr
     have q1 : u9.cell? ⟨w.heap.size + 1 + 1, 1, none⟩ = some (.string ⟨#[]⟩) := cell_of_row _ _ 1 _ _ _ rr
     have qf1 := frozen_of_row _ _ 1 _ _ rr
     have q2 : u9.cell? ⟨w.heap.size + 1 + 1, 2, none⟩ = some (.bool false) := cell_of_row _ _ 2 _ _ _ rr
     have qf2 := frozen_of_row _ _ 2 _ _ rr
     have q3 : u9.cell? ⟨w.heap.size + 1 + 1, 3, none⟩ = some (.bool false) := cell_of_row _ _ 3 _ _ _ rr
     have qf3 := frozen_of_row _ _ 3 _ _ rr
     have q4 : u9.cell? ⟨w.heap.size + 1 + 1, 4, none⟩ = some (.int .i64 0) := cell_of_row _ _ 4 _ _ _ rr
     have qf4 := frozen_of_row _ _ 4 _ _ rr
     have q5 : u9.cell? ⟨w.heap.size + 1 + 1, 5, none⟩ = some (.slice none 0 0) := cell_of_row _ _ 5 _ _ _ rr
     have qf5 := frozen_of_row _ _ 5 _ _ rr
     have s0 := heap_setCell_same _ (w.heap.size + 1 + 1) 0 _ _ (.string ⟨k.nm.toArray⟩) rr
     have s1 := heap_setCell_same _ (w.heap.size + 1 + 1) 1 _ _ (.string ⟨k.ds.toArray⟩) s0
     have s2 := heap_setCell_same _ (w.heap.size + 1 + 1) 2 _ _ (.bool k.st) s1
     have s3 := heap_setCell_same _ (w.heap.size + 1 + 1) 3 _ _ (.bool k.ab) s2
     have s4 := heap_setCell_same _ (w.heap.size + 1 + 1) 4 _ _ (.int .i64 k.rg) s3
     have s5 := heap_setCell_same _ (w.heap.size + 1 + 1) 5 _ _ (.slice k.A k.co.length k.c) s4
     have gA : u9.grownBy ((((((u9.setCell ⟨w.heap.size + 1 + 1, 0, none⟩ (.string ⟨k.nm.toArray⟩)).setCell ⟨w.heap.size + 1 + 1, 1, none⟩ (.string ⟨k.ds.toArray⟩)).setCell ⟨w.heap.size + 1 + 1, 2, none⟩ (.bool k.st)).setCell ⟨w.heap.size + 1 + 1, 3, none⟩ (.bool k.ab)).setCell ⟨w.heap.size + 1 + 1, 4, none⟩ (.int .i64 k.rg)).setCell ⟨w.heap.size + 1 + 1, 5, none⟩ (.slice k.A k.co.length k.c)) (some (w.heap.size + 1 + 1)) := gb_trans (gb_trans (gb_trans (gb_trans (gb_trans (gb_set _ (w.heap.size + 1 + 1) 0 _) (gb_set _ (w.heap.size + 1 + 1) 1 _)) (gb_set _ (w.heap.size + 1 + 1) 2 _)) (gb_set _ (w.heap.size + 1 + 1) 3 _)) (gb_set _ (w.heap.size + 1 + 1) 4 _)) (gb_set _ (w.heap.size + 1 + 1) 5 _)
     obtain ⟨WF, hWF⟩ : ∃ WF, WF = ((((((u9.setCell ⟨w.heap.size + 1 + 1, 0, none⟩ (.string ⟨k.nm.toArray⟩)).setCell ⟨w.heap.size + 1 + 1, 1, none⟩ (.string ⟨k.ds.toArray⟩)).setCell ⟨w.heap.size + 1 + 1, 2, none⟩ (.bool k.st)).setCell ⟨w.heap.size + 1 + 1, 3, none⟩ (.bool k.ab)).setCell ⟨w.heap.size + 1 + 1, 4, none⟩ (.int .i64 k.rg)).setCell ⟨w.heap.size + 1 + 1, 5, none⟩ (.slice k.A k.co.length k.c)) := ⟨_, rfl⟩
     have ur : WF.heap[w.heap.size + 1 + 1]? = some (.cells #[.string ⟨k.nm.toArray⟩, .string ⟨k.ds.toArray⟩, .bool k.st, .bool k.ab, .int .i64 k.rg, .slice k.A k.co.length k.c] 155 (0, 0)) := by rw [hWF, s5]; simp
     have uB : Below w.heap.size w WF := by rw [hWF]; exact (HAL.out.trans (HB9.out.mono HAL.out.size)).grown gA (HAL.out.trans (HB9.out.mono HAL.out.size)).size (fun b hb => by cases hb; omega)
     have R0 := zh (show WF.cell? ⟨w.heap.size + 1 + 1, 0, none⟩ = some (.string ⟨k.nm.toArray⟩) from cell_of_row _ _ 0 _ _ _ ur)
     have R1 := zh (show WF.cell? ⟨w.heap.size + 1 + 1, 1, none⟩ = some (.string ⟨k.ds.toArray⟩) from cell_of_row _ _ 1 _ _ _ ur)
     have R2 := zh (show WF.cell? ⟨w.heap.size + 1 + 1, 2, none⟩ = some (.bool k.st) from cell_of_row _ _ 2 _ _ _ ur)
     have R3 := zh (show WF.cell? ⟨w.heap.size + 1 + 1, 3, none⟩ = some (.bool k.ab) from cell_of_row _ _ 3 _ _ _ ur)
     have R4 := zh (show WF.cell? ⟨w.heap.size + 1 + 1, 4, none⟩ = some (.int .i64 k.rg) from cell_of_row _ _ 4 _ _ _ ur)
     have R5 := zh (show WF.cell? ⟨w.heap.size + 1 + 1, 5, none⟩ = some (.slice k.A k.co.length k.c) from cell_of_row _ _ 5 _ _ _ ur)
     have UG := zh (show u9.grownBy WF (some (w.heap.size + 1 + 1)) from by rw [hWF]; exact gA)
     have HWF := zh hWF; have UB := zh uB
     have RK := zh (show k.co.length ≤ k.c ∧ Rd WF k.A (k.co.flatMap inC) from ⟨HMK.out.1, rd_six HMK.out.2 rr (by simp) (by rw [hWF]; exact gA)⟩)
     clear rr s0 s1 s2 s3 s4 s5 gA hWF ur uB
     go_wp2
     rw [← HWF.out]
     refine bodyPost_ret (v := .tuple #[.agg #[.string ⟨k.nm.toArray⟩, .string ⟨k.ds.toArray⟩, .bool k.st, .bool k.ab, .int .i64 k.rg, .slice k.A k.co.length k.c], .bool true]) ?_ rfl ⟨⟨k, true, rfl, HKP.out, RK.out⟩, UB.out⟩
     simp [results, Tryz.results71, go_sem, R0.out, R1.out, R2.out, R3.out, R4.out, R5.out]
   ·go_simp
    obtain ⟨u3, hn⟩ : ∃ v, v = u2.alloc (.cells #[.string ⟨#[]⟩, .string ⟨#[]⟩, .bool false, .bool false, .slice none 0 0, .slice none 0 0, .slice none 0 0] 159) := ⟨_, rfl⟩
    have hb : Below u2.heap.size u2 u3 := by rw [hn]; exact (Below.refl _ _).alloc (Nat.le_refl _) _
    have hz : u3.heap[u2.heap.size]? = some (.cells #[.string ⟨#[]⟩, .string ⟨#[]⟩, .bool false, .bool false, .slice none 0 0, .slice none 0 0, .slice none 0 0] 159 (0, 0)) := by rw [hn]; exact heap_alloc_new _ _
    have HNN := zh hn
    have HGE := zh (show W.heap.size ≤ u2.heap.size from HB2.out.size)
    rw [← HNN.out]
    clear hn
    have HL3 := zh (show Below u2.heap.size u2 u3 from hb)
    have HB3 := zh (show Below W.heap.size W u3 from HB2.out.trans (HL3.out.mono HB2.out.size))
    have HC3 := zh (show u3.cell? ⟨B, 0, none⟩ = some (.slice A [cn].length c) from (HL3.out.cell (World.block_lt_of_cell? _ _ HC2.out)).trans HC2.out)
    have HR3 := zh (show Rd u3 A (SX [cn]) from HR2.out.below HL3.out)
    have HG3 := zh (show u3.cell? ⟨g, 0, none⟩ = some (.string ⟨s.toArray⟩) from (HL3.out.cell (World.block_lt_of_cell? _ _ HG2.out)).trans HG2.out)
    have HH3 := zh (show u3.cell? ⟨h, 0, none⟩ = some (.string ⟨d.toArray⟩) from (HL3.out.cell (World.block_lt_of_cell? _ _ HH2.out)).trans HH2.out)
    have HZ3 := zh (show u3.heap[u2.heap.size]? = some (.cells #[.string ⟨#[]⟩, .string ⟨#[]⟩, .bool false, .bool false, .slice none 0 0, .slice none 0 0, .slice none 0 0] 159 (0, 0)) from hz)
    clear hz hb
    refine hK.out _ _ (HS.out _ HB3.out) (fun hHeld => ?_)
    clear hK K
    try simp only [puts]
    refine rdy 9 rfl (fun K hK => ?_)
    go_simp
    refine (HFI.out _ B A c g h (HAL.out.trans (HB3.out.mono HAL.out.size)) HC3.out HR3.out HG3.out HH3.out).mono ?_
    rintro e u4 ⟨rfl, hb⟩
    have HL4 := zh (show Below u3.heap.size u3 u4 from ⟨hb.os, hb.tape, hb.output, hb.size, hb.block⟩)
    have HB4 := zh (show Below W.heap.size W u4 from HB3.out.trans (HL4.out.mono HB3.out.size))
    have HC4 := zh (show u4.cell? ⟨B, 0, none⟩ = some (.slice A [cn].length c) from (HL4.out.cell (World.block_lt_of_cell? _ _ HC3.out)).trans HC3.out)
    have HR4 := zh (show Rd u4 A (SX [cn]) from HR3.out.below HL4.out)
    have HG4 := zh (show u4.cell? ⟨g, 0, none⟩ = some (.string ⟨s.toArray⟩) from (HL4.out.cell (World.block_lt_of_cell? _ _ HG3.out)).trans HG3.out)
    have HH4 := zh (show u4.cell? ⟨h, 0, none⟩ = some (.string ⟨d.toArray⟩) from (HL4.out.cell (World.block_lt_of_cell? _ _ HH3.out)).trans HH3.out)
    have HZ4 := zh (show u4.heap[u2.heap.size]? = some (.cells #[.string ⟨#[]⟩, .string ⟨#[]⟩, .bool false, .bool false, .slice none 0 0, .slice none 0 0, .slice none 0 0] 159 (0, 0)) from (HL4.out.block _ (blk_lt HZ3.out)).trans HZ3.out)
    clear hb
    go_wp2_with fail
    refine hK.out _ _ (HS.out _ HB4.out) (fun hHeld => ?_)
    clear hK K
    try simp only [puts]
    have hS9 := HS.out _ HB4.out
    refine tkp 10 rfl ?_
    refine tkp 11 rfl ?_
    refine tkp 12 rfl ?_
    clear hS9
    have tq : u4.there u2.heap.size 0 7 := there_new HZ4.out
    have hst := sets_new (cs := clC ⟨cnm, csu, cfc, cab, cis, cA1, cc1, cfs, cA2, cc2, cms, cA3, cc3⟩) rfl HZ4.out
    have hgr := sets_grown u4 (u2.heap.size) 0 (clC ⟨cnm, csu, cfc, cab, cis, cA1, cc1, cfs, cA2, cc2, cms, cA3, cc3⟩)
    obtain ⟨uF, huF⟩ : ∃ v, v = u4.setCells (u2.heap.size) 0 (clC ⟨cnm, csu, cfc, cab, cis, cA1, cc1, cfs, cA2, cc2, cms, cA3, cc3⟩) := ⟨_, rfl⟩
    have hBF : Below W.heap.size W uF := by rw [huF]; exact HB4.out.grown hgr HB4.out.size (fun k hk => by cases hk; exact HGE.out)
    have HU := zh (show uF.heap[u2.heap.size]? = some (.cells (clC ⟨cnm, csu, cfc, cab, cis, cA1, cc1, cfs, cA2, cc2, cms, cA3, cc3⟩).toArray 159 (0, 0)) from by rw [huF]; exact hst)
    have HBF := zh hBF
    have HUF := zh huF
    refine tst 14 (u2.heap.size) 0 (clC ⟨cnm, csu, cfc, cab, cis, cA1, cc1, cfs, cA2, cc2, cms, cA3, cc3⟩) rfl rfl rfl rfl tq size_clx (one_clx _) (by rw [← huF]; exact HS.out _ hBF) (fun _ => ?_)
    clear tq hst hgr hBF huF
    rw [← HUF.out]
    try simp only [puts]
    have hSF := HS.out _ HBF.out
    refine tkp 15 rfl ?_
    refine wpAnyH_done (by kernel_rfl) ?_ _
    clear hSF
    rcases HCS.out with ⟨hn, hcl, rfl⟩ | ⟨k0, m, rfl, hf, hcm, hm⟩
    ·have HN := zh (show GetR x.cs cn s d zeroM false from by unfold GetR; rw [hn]; exact ⟨rfl, rfl⟩)
     clear hn hcl
     have rr := (HBF.out.block _ (blk_lt HRM.out)).trans HRM.out
     have q0 : uF.cell? ⟨w.heap.size + 1 + 1, 0, none⟩ = some (.string ⟨#[]⟩) := cell_of_row _ _ 0 _ _ _ rr
     have qf0 := frozen_of_row _ _ 0 _ _ rr
     have q1 : uF.cell? ⟨w.heap.size + 1 + 1, 1, none⟩ = some (.string ⟨#[]⟩) := cell_of_row _ _ 1 _ _ _ rr
     have qf1 := frozen_of_row _ _ 1 _ _ rr
     have q2 : uF.cell? ⟨w.heap.size + 1 + 1, 2, none⟩ = some (.bool false) := cell_of_row _ _ 2 _ _ _ rr
     have qf2 := frozen_of_row _ _ 2 _ _ rr
     have q3 : uF.cell? ⟨w.heap.size + 1 + 1, 3, none⟩ = some (.bool false) := cell_of_row _ _ 3 _ _ _ rr
     have qf3 := frozen_of_row _ _ 3 _ _ rr
     have q4 : uF.cell? ⟨w.heap.size + 1 + 1, 4, none⟩ = some (.int .i64 0) := cell_of_row _ _ 4 _ _ _ rr
     have qf4 := frozen_of_row _ _ 4 _ _ rr
     have q5 : uF.cell? ⟨w.heap.size + 1 + 1, 5, none⟩ = some (.slice none 0 0) := cell_of_row _ _ 5 _ _ _ rr
     have qf5 := frozen_of_row _ _ 5 _ _ rr
     have s0 := heap_setCell_same _ (w.heap.size + 1 + 1) 0 _ _ (.string ⟨#[]⟩) rr
     have s1 := heap_setCell_same _ (w.heap.size + 1 + 1) 1 _ _ (.string ⟨#[]⟩) s0
     have s2 := heap_setCell_same _ (w.heap.size + 1 + 1) 2 _ _ (.bool false) s1
     have s3 := heap_setCell_same _ (w.heap.size + 1 + 1) 3 _ _ (.bool false) s2
     have s4 := heap_setCell_same _ (w.heap.size + 1 + 1) 4 _ _ (.int .i64 0) s3
     have s5 := heap_setCell_same _ (w.heap.size + 1 + 1) 5 _ _ (.slice none 0 0) s4
     have gA : uF.grownBy ((((((uF.setCell ⟨w.heap.size + 1 + 1, 0, none⟩ (.string ⟨#[]⟩)).setCell ⟨w.heap.size + 1 + 1, 1, none⟩ (.string ⟨#[]⟩)).setCell ⟨w.heap.size + 1 + 1, 2, none⟩ (.bool false)).setCell ⟨w.heap.size + 1 + 1, 3, none⟩ (.bool false)).setCell ⟨w.heap.size + 1 + 1, 4, none⟩ (.int .i64 0)).setCell ⟨w.heap.size + 1 + 1, 5, none⟩ (.slice none 0 0)) (some (w.heap.size + 1 + 1)) := gb_trans (gb_trans (gb_trans (gb_trans (gb_trans (gb_set _ (w.heap.size + 1 + 1) 0 _) (gb_set _ (w.heap.size + 1 + 1) 1 _)) (gb_set _ (w.heap.size + 1 + 1) 2 _)) (gb_set _ (w.heap.size + 1 + 1) 3 _)) (gb_set _ (w.heap.size + 1 + 1) 4 _)) (gb_set _ (w.heap.size + 1 + 1) 5 _)
     obtain ⟨WF, hWF⟩ : ∃ WF, WF = ((((((uF.setCell ⟨w.heap.size + 1 + 1, 0, none⟩ (.string ⟨#[]⟩)).setCell ⟨w.heap.size + 1 + 1, 1, none⟩ (.string ⟨#[]⟩)).setCell ⟨w.heap.size + 1 + 1, 2, none⟩ (.bool false)).setCell ⟨w.heap.size + 1 + 1, 3, none⟩ (.bool false)).setCell ⟨w.heap.size + 1 + 1, 4, none⟩ (.int .i64 0)).setCell ⟨w.heap.size + 1 + 1, 5, none⟩ (.slice none 0 0)) := ⟨_, rfl⟩
     have ur : WF.heap[w.heap.size + 1 + 1]? = some (.cells #[.string ⟨#[]⟩, .string ⟨#[]⟩, .bool false, .bool false, .int .i64 0, .slice none 0 0] 155 (0, 0)) := by rw [hWF, s5]; simp
     have uB : Below w.heap.size w WF := by rw [hWF]; exact (HAL.out.trans (HBF.out.mono HAL.out.size)).grown gA (HAL.out.trans (HBF.out.mono HAL.out.size)).size (fun b hb => by cases hb; omega)
     have R0 := zh (show WF.cell? ⟨w.heap.size + 1 + 1, 0, none⟩ = some (.string ⟨#[]⟩) from cell_of_row _ _ 0 _ _ _ ur)
     have R1 := zh (show WF.cell? ⟨w.heap.size + 1 + 1, 1, none⟩ = some (.string ⟨#[]⟩) from cell_of_row _ _ 1 _ _ _ ur)
     have R2 := zh (show WF.cell? ⟨w.heap.size + 1 + 1, 2, none⟩ = some (.bool false) from cell_of_row _ _ 2 _ _ _ ur)
     have R3 := zh (show WF.cell? ⟨w.heap.size + 1 + 1, 3, none⟩ = some (.bool false) from cell_of_row _ _ 3 _ _ _ ur)
     have R4 := zh (show WF.cell? ⟨w.heap.size + 1 + 1, 4, none⟩ = some (.int .i64 0) from cell_of_row _ _ 4 _ _ _ ur)
     have R5 := zh (show WF.cell? ⟨w.heap.size + 1 + 1, 5, none⟩ = some (.slice none 0 0) from cell_of_row _ _ 5 _ _ _ ur)
     have UG := zh (show uF.grownBy WF (some (w.heap.size + 1 + 1)) from by rw [hWF]; exact gA)
     have HWF := zh hWF; have UB := zh uB
     clear rr s0 s1 s2 s3 s4 s5 gA hWF ur uB
     go_wp2
     rw [← HWF.out]
     refine bodyPost_ret (v := .tuple #[.agg #[.string ⟨#[]⟩, .string ⟨#[]⟩, .bool false, .bool false, .int .i64 0, .slice none 0 0], .bool false]) ?_ rfl ⟨⟨zeroM, false, rfl, HN.out, Nat.le_refl _, Rd.nil _ _⟩, UB.out⟩
     simp [results, Tryz.results71, go_sem, R0.out, R1.out, R2.out, R3.out, R4.out, R5.out]
    ·have hk1 : ((k0 : Int) == -1) = false := by simp
     have HN := zh (fun k' (h : pM k' = pM m) => show GetR x.cs cn s d k' true from by unfold GetR; rw [hf]; exact ⟨rfl, m, hm, h⟩)
     have hok := ((hk.2.2 _ hcm).below (HAL.out.trans (HBF.out.mono HAL.out.size))).2.2
     have hmm := hok.2 m (List.mem_of_getElem? hm)
     have hgm := (hg.2 _ hcm).2 m (List.mem_of_getElem? hm)
     dsimp only at hm hok
     obtain ⟨a, rfl, -, m0, m1, m2, m3, m4, m5⟩ := me_at hok.1.2 hm
     obtain ⟨e0, e1, e2, e3, e4, e5, e6⟩ := cl_cells HU.out
     dsimp only at e0 e1 e2 e3 e4 e5 e6
     have hkl : (k0 : Int) < (cms.length : Int) := by have := (List.getElem?_eq_some_iff.1 hm).1; omega
     have hlm : (cms.length : Int) ≤ 40 := by have := (hg.2 _ hcm).1.2.2.1; dsimp only at this; omega
     have HCO := zh (copied_w m uF hmm hgm)
     dsimp only [meC] at HCO
     clear hf hok hm hcm hmm hgm
     go_wp2_with fail
     refine HCO.out.mono ?_
     rintro e u9 ⟨⟨k, rfl, hkp, hmk⟩, hb9⟩
     dsimp only [meC]
     have HKP := zh (HN.out k hkp); have HMK := zh (And.intro hmk.1 hmk.2.1)
     clear hmk
     have HB9 := zh (show Below W.heap.size W u9 from HBF.out.trans (hb9.mono HBF.out.size))
     clear m0 m1 m2 m3 m4 m5 e0 e1 e2 e3 e4 e5 e6 HCO hb9 hkp
     have rr := (HB9.out.block _ (blk_lt HRM.out)).trans HRM.out
     have q0 : u9.cell? ⟨w.heap.size + 1 + 1, 0, none⟩ = some (.string ⟨#[]⟩) := cell_of_row _ _ 0 _ _ _ rr
     have qf0 := frozen_of_row _ _ 0 _ _ rr
     have q1 : u9.cell? ⟨w.heap.size + 1 + 1, 1, none⟩ = some (.string ⟨#[]⟩) := cell_of_row _ _ 1 _ _ _ rr
     have qf1 := frozen_of_row _ _ 1 _ _ rr
     have q2 : u9.cell? ⟨w.heap.size + 1 + 1, 2, none⟩ = some (.bool false) := cell_of_row _ _ 2 _ _ _ rr
     have qf2 := frozen_of_row _ _ 2 _ _ rr
     have q3 : u9.cell? ⟨w.heap.size + 1 + 1, 3, none⟩ = some (.bool false) := cell_of_row _ _ 3 _ _ _ rr
     have qf3 := frozen_of_row _ _ 3 _ _ rr
     have q4 : u9.cell? ⟨w.heap.size + 1 + 1, 4, none⟩ = some (.int .i64 0) := cell_of_row _ _ 4 _ _ _ rr
     have qf4 := frozen_of_row _ _ 4 _ _ rr
     have q5 : u9.cell? ⟨w.heap.size + 1 + 1, 5, none⟩ = some (.slice none 0 0) := cell_of_row _ _ 5 _ _ _ rr
     have qf5 := frozen_of_row _ _ 5 _ _ rr
     have s0 := heap_setCell_same _ (w.heap.size + 1 + 1) 0 _ _ (.string ⟨k.nm.toArray⟩) rr
     have s1 := heap_setCell_same _ (w.heap.size + 1 + 1) 1 _ _ (.string ⟨k.ds.toArray⟩) s0
     have s2 := heap_setCell_same _ (w.heap.size + 1 + 1) 2 _ _ (.bool k.st) s1
     have s3 := heap_setCell_same _ (w.heap.size + 1 + 1) 3 _ _ (.bool k.ab) s2
     have s4 := heap_setCell_same _ (w.heap.size + 1 + 1) 4 _ _ (.int .i64 k.rg) s3
     have s5 := heap_setCell_same _ (w.heap.size + 1 + 1) 5 _ _ (.slice k.A k.co.length k.c) s4
     have gA : u9.grownBy ((((((u9.setCell ⟨w.heap.size + 1 + 1, 0, none⟩ (.string ⟨k.nm.toArray⟩)).setCell ⟨w.heap.size + 1 + 1, 1, none⟩ (.string ⟨k.ds.toArray⟩)).setCell ⟨w.heap.size + 1 + 1, 2, none⟩ (.bool k.st)).setCell ⟨w.heap.size + 1 + 1, 3, none⟩ (.bool k.ab)).setCell ⟨w.heap.size + 1 + 1, 4, none⟩ (.int .i64 k.rg)).setCell ⟨w.heap.size + 1 + 1, 5, none⟩ (.slice k.A k.co.length k.c)) (some (w.heap.size + 1 + 1)) := gb_trans (gb_trans (gb_trans (gb_trans (gb_trans (gb_set _ (w.heap.size + 1 + 1) 0 _) (gb_set _ (w.heap.size + 1 + 1) 1 _)) (gb_set _ (w.heap.size + 1 + 1) 2 _)) (gb_set _ (w.heap.size + 1 + 1) 3 _)) (gb_set _ (w.heap.size + 1 + 1) 4 _)) (gb_set _ (w.heap.size + 1 + 1) 5 _)
     obtain ⟨WF, hWF⟩ : ∃ WF, WF = ((((((u9.setCell ⟨w.heap.size + 1 + 1, 0, none⟩ (.string ⟨k.nm.toArray⟩)).setCell ⟨w.heap.size + 1 + 1, 1, none⟩ (.string ⟨k.ds.toArray⟩)).setCell ⟨w.heap.size + 1 + 1, 2, none⟩ (.bool k.st)).setCell ⟨w.heap.size + 1 + 1, 3, none⟩ (.bool k.ab)).setCell ⟨w.heap.size + 1 + 1, 4, none⟩ (.int .i64 k.rg)).setCell ⟨w.heap.size + 1 + 1, 5, none⟩ (.slice k.A k.co.length k.c)) := ⟨_, rfl⟩
     have ur : WF.heap[w.heap.size + 1 + 1]? = some (.cells #[.string ⟨k.nm.toArray⟩, .string ⟨k.ds.toArray⟩, .bool k.st, .bool k.ab, .int .i64 k.rg, .slice k.A k.co.length k.c] 155 (0, 0)) := by rw [hWF, s5]; simp
     have uB : Below w.heap.size w WF := by rw [hWF]; exact (HAL.out.trans (HB9.out.mono HAL.out.size)).grown gA (HAL.out.trans (HB9.out.mono HAL.out.size)).size (fun b hb => by cases hb; omega)
     have R0 := zh (show WF.cell? ⟨w.heap.size + 1 + 1, 0, none⟩ = some (.string ⟨k.nm.toArray⟩) from cell_of_row _ _ 0 _ _ _ ur)
     have R1 := zh (show WF.cell? ⟨w.heap.size + 1 + 1, 1, none⟩ = some (.string ⟨k.ds.toArray⟩) from cell_of_row _ _ 1 _ _ _ ur)
     have R2 := zh (show WF.cell? ⟨w.heap.size + 1 + 1, 2, none⟩ = some (.bool k.st) from cell_of_row _ _ 2 _ _ _ ur)
     have R3 := zh (show WF.cell? ⟨w.heap.size + 1 + 1, 3, none⟩ = some (.bool k.ab) from cell_of_row _ _ 3 _ _ _ ur)
     have R4 := zh (show WF.cell? ⟨w.heap.size + 1 + 1, 4, none⟩ = some (.int .i64 k.rg) from cell_of_row _ _ 4 _ _ _ ur)
     have R5 := zh (show WF.cell? ⟨w.heap.size + 1 + 1, 5, none⟩ = some (.slice k.A k.co.length k.c) from cell_of_row _ _ 5 _ _ _ ur)
     have UG := zh (show u9.grownBy WF (some (w.heap.size + 1 + 1)) from by rw [hWF]; exact gA)
     have HWF := zh hWF; have UB := zh uB
     have RK := zh (show k.co.length ≤ k.c ∧ Rd WF k.A (k.co.flatMap inC) from ⟨HMK.out.1, rd_six HMK.out.2 rr (by simp) (by rw [hWF]; exact gA)⟩)
     clear rr s0 s1 s2 s3 s4 s5 gA hWF ur uB
     go_wp2
     rw [← HWF.out]
     refine bodyPost_ret (v := .tuple #[.agg #[.string ⟨k.nm.toArray⟩, .string ⟨k.ds.toArray⟩, .bool k.st, .bool k.ab, .int .i64 k.rg, .slice k.A k.co.length k.c], .bool true]) ?_ rfl ⟨⟨k, true, rfl, HKP.out, RK.out⟩, UB.out⟩
     simp [results, Tryz.results71, go_sem, R0.out, R1.out, R2.out, R3.out, R4.out, R5.out]
  ·go_simp
   obtain ⟨u2, hn⟩ : ∃ v, v = u1.alloc (.cells #[.string ⟨#[]⟩, .string ⟨#[]⟩, .bool false, .bool false, .slice none 0 0, .slice none 0 0, .slice none 0 0] 159) := ⟨_, rfl⟩
   have hb : Below u1.heap.size u1 u2 := by rw [hn]; exact (Below.refl _ _).alloc (Nat.le_refl _) _
   have hz : u2.heap[u1.heap.size]? = some (.cells #[.string ⟨#[]⟩, .string ⟨#[]⟩, .bool false, .bool false, .slice none 0 0, .slice none 0 0, .slice none 0 0] 159 (0, 0)) := by rw [hn]; exact heap_alloc_new _ _
   have HNN := zh hn
   have HGE := zh (show W.heap.size ≤ u1.heap.size from HB1.out.size)
   rw [← HNN.out]
   clear hn
   have HL2 := zh (show Below u1.heap.size u1 u2 from hb)
   have HB2 := zh (show Below W.heap.size W u2 from HB1.out.trans (HL2.out.mono HB1.out.size))
   have HC2 := zh (show u2.cell? ⟨B, 0, none⟩ = some (.slice A [cn].length c) from (HL2.out.cell (World.block_lt_of_cell? _ _ HC1.out)).trans HC1.out)
   have HR2 := zh (show Rd u2 A (SX [cn]) from HR1.out.below HL2.out)
   have HZ2 := zh (show u2.heap[u1.heap.size]? = some (.cells #[.string ⟨#[]⟩, .string ⟨#[]⟩, .bool false, .bool false, .slice none 0 0, .slice none 0 0, .slice none 0 0] 159 (0, 0)) from hz)
   clear hz hb
   refine hK.out _ _ (HS.out _ HB2.out) (fun hHeld => ?_)
   clear hK K
   try simp only [puts]
   refine rdy 8 rfl (fun K hK => ?_)
   go_simp
   refine (method_b s d _).mono ?_
   rintro e u3 ⟨⟨g, h, rfl, hg1, hh1⟩, hb⟩
   have HL3 := zh (show Below u2.heap.size u2 u3 from ⟨hb.os, hb.tape, hb.output, hb.size, hb.block⟩)
   have HB3 := zh (show Below W.heap.size W u3 from HB2.out.trans (HL3.out.mono HB2.out.size))
   have HC3 := zh (show u3.cell? ⟨B, 0, none⟩ = some (.slice A [cn].length c) from (HL3.out.cell (World.block_lt_of_cell? _ _ HC2.out)).trans HC2.out)
   have HR3 := zh (show Rd u3 A (SX [cn]) from HR2.out.below HL3.out)
   have HZ3 := zh (show u3.heap[u1.heap.size]? = some (.cells #[.string ⟨#[]⟩, .string ⟨#[]⟩, .bool false, .bool false, .slice none 0 0, .slice none 0 0, .slice none 0 0] 159 (0, 0)) from (HL3.out.block _ (blk_lt HZ2.out)).trans HZ2.out)
   have HG3 := zh (show u3.cell? ⟨g, 0, none⟩ = some (.string ⟨s.toArray⟩) from hg1)
   have HH3 := zh (show u3.cell? ⟨h, 0, none⟩ = some (.string ⟨d.toArray⟩) from hh1)
   clear hg1 hh1 hb
   go_wp2_with fail
   refine hK.out _ _ (HS.out _ HB3.out) (fun hHeld => ?_)
   clear hK K
   try simp only [puts]
   refine rdy 9 rfl (fun K hK => ?_)
   go_simp
   refine (HFI.out _ B A c g h (HAL.out.trans (HB3.out.mono HAL.out.size)) HC3.out HR3.out HG3.out HH3.out).mono ?_
   rintro e u4 ⟨rfl, hb⟩
   have HL4 := zh (show Below u3.heap.size u3 u4 from ⟨hb.os, hb.tape, hb.output, hb.size, hb.block⟩)
   have HB4 := zh (show Below W.heap.size W u4 from HB3.out.trans (HL4.out.mono HB3.out.size))
   have HC4 := zh (show u4.cell? ⟨B, 0, none⟩ = some (.slice A [cn].length c) from (HL4.out.cell (World.block_lt_of_cell? _ _ HC3.out)).trans HC3.out)
   have HR4 := zh (show Rd u4 A (SX [cn]) from HR3.out.below HL4.out)
   have HZ4 := zh (show u4.heap[u1.heap.size]? = some (.cells #[.string ⟨#[]⟩, .string ⟨#[]⟩, .bool false, .bool false, .slice none 0 0, .slice none 0 0, .slice none 0 0] 159 (0, 0)) from (HL4.out.block _ (blk_lt HZ3.out)).trans HZ3.out)
   have HG4 := zh (show u4.cell? ⟨g, 0, none⟩ = some (.string ⟨s.toArray⟩) from (HL4.out.cell (World.block_lt_of_cell? _ _ HG3.out)).trans HG3.out)
   have HH4 := zh (show u4.cell? ⟨h, 0, none⟩ = some (.string ⟨d.toArray⟩) from (HL4.out.cell (World.block_lt_of_cell? _ _ HH3.out)).trans HH3.out)
   clear hb
   go_wp2_with fail
   refine hK.out _ _ (HS.out _ HB4.out) (fun hHeld => ?_)
   clear hK K
   try simp only [puts]
   have hS9 := HS.out _ HB4.out
   refine tkp 10 rfl ?_
   refine tkp 11 rfl ?_
   refine tkp 12 rfl ?_
   clear hS9
   have tq : u4.there u1.heap.size 0 7 := there_new HZ4.out
   have hst := sets_new (cs := clC ⟨cnm, csu, cfc, cab, cis, cA1, cc1, cfs, cA2, cc2, cms, cA3, cc3⟩) rfl HZ4.out
   have hgr := sets_grown u4 (u1.heap.size) 0 (clC ⟨cnm, csu, cfc, cab, cis, cA1, cc1, cfs, cA2, cc2, cms, cA3, cc3⟩)
   obtain ⟨uF, huF⟩ : ∃ v, v = u4.setCells (u1.heap.size) 0 (clC ⟨cnm, csu, cfc, cab, cis, cA1, cc1, cfs, cA2, cc2, cms, cA3, cc3⟩) := ⟨_, rfl⟩
   have hBF : Below W.heap.size W uF := by rw [huF]; exact HB4.out.grown hgr HB4.out.size (fun k hk => by cases hk; exact HGE.out)
   have HU := zh (show uF.heap[u1.heap.size]? = some (.cells (clC ⟨cnm, csu, cfc, cab, cis, cA1, cc1, cfs, cA2, cc2, cms, cA3, cc3⟩).toArray 159 (0, 0)) from by rw [huF]; exact hst)
   have HBF := zh hBF
   have HUF := zh huF
   refine tst 14 (u1.heap.size) 0 (clC ⟨cnm, csu, cfc, cab, cis, cA1, cc1, cfs, cA2, cc2, cms, cA3, cc3⟩) rfl rfl rfl rfl tq size_clx (one_clx _) (by rw [← huF]; exact HS.out _ hBF) (fun _ => ?_)
   clear tq hst hgr hBF huF
   rw [← HUF.out]
   try simp only [puts]
   have hSF := HS.out _ HBF.out
   refine tkp 15 rfl ?_
   refine wpAnyH_done (by kernel_rfl) ?_ _
   clear hSF
   rcases HCS.out with ⟨hn, hcl, rfl⟩ | ⟨k0, m, rfl, hf, hcm, hm⟩
   ·have HN := zh (show GetR x.cs cn s d zeroM false from by unfold GetR; rw [hn]; exact ⟨rfl, rfl⟩)
    clear hn hcl
    have rr := (HBF.out.block _ (blk_lt HRM.out)).trans HRM.out
    have q0 : uF.cell? ⟨w.heap.size + 1 + 1, 0, none⟩ = some (.string ⟨#[]⟩) := cell_of_row _ _ 0 _ _ _ rr
    have qf0 := frozen_of_row _ _ 0 _ _ rr
    have q1 : uF.cell? ⟨w.heap.size + 1 + 1, 1, none⟩ = some (.string ⟨#[]⟩) := cell_of_row _ _ 1 _ _ _ rr
    have qf1 := frozen_of_row _ _ 1 _ _ rr
    have q2 : uF.cell? ⟨w.heap.size + 1 + 1, 2, none⟩ = some (.bool false) := cell_of_row _ _ 2 _ _ _ rr
    have qf2 := frozen_of_row _ _ 2 _ _ rr
    have q3 : uF.cell? ⟨w.heap.size + 1 + 1, 3, none⟩ = some (.bool false) := cell_of_row _ _ 3 _ _ _ rr
    have qf3 := frozen_of_row _ _ 3 _ _ rr
    have q4 : uF.cell? ⟨w.heap.size + 1 + 1, 4, none⟩ = some (.int .i64 0) := cell_of_row _ _ 4 _ _ _ rr
    have qf4 := frozen_of_row _ _ 4 _ _ rr
    have q5 : uF.cell? ⟨w.heap.size + 1 + 1, 5, none⟩ = some (.slice none 0 0) := cell_of_row _ _ 5 _ _ _ rr
    have qf5 := frozen_of_row _ _ 5 _ _ rr
    have s0 := heap_setCell_same _ (w.heap.size + 1 + 1) 0 _ _ (.string ⟨#[]⟩) rr
    have s1 := heap_setCell_same _ (w.heap.size + 1 + 1) 1 _ _ (.string ⟨#[]⟩) s0
    have s2 := heap_setCell_same _ (w.heap.size + 1 + 1) 2 _ _ (.bool false) s1
    have s3 := heap_setCell_same _ (w.heap.size + 1 + 1) 3 _ _ (.bool false) s2
    have s4 := heap_setCell_same _ (w.heap.size + 1 + 1) 4 _ _ (.int .i64 0) s3
    have s5 := heap_setCell_same _ (w.heap.size + 1 + 1) 5 _ _ (.slice none 0 0) s4
    have gA : uF.grownBy ((((((uF.setCell ⟨w.heap.size + 1 + 1, 0, none⟩ (.string ⟨#[]⟩)).setCell ⟨w.heap.size + 1 + 1, 1, none⟩ (.string ⟨#[]⟩)).setCell ⟨w.heap.size + 1 + 1, 2, none⟩ (.bool false)).setCell ⟨w.heap.size + 1 + 1, 3, none⟩ (.bool false)).setCell ⟨w.heap.size + 1 + 1, 4, none⟩ (.int .i64 0)).setCell ⟨w.heap.size + 1 + 1, 5, none⟩ (.slice none 0 0)) (some (w.heap.size + 1 + 1)) := gb_trans (gb_trans (gb_trans (gb_trans (gb_trans (gb_set _ (w.heap.size + 1 + 1) 0 _) (gb_set _ (w.heap.size + 1 + 1) 1 _)) (gb_set _ (w.heap.size + 1 + 1) 2 _)) (gb_set _ (w.heap.size + 1 + 1) 3 _)) (gb_set _ (w.heap.size + 1 + 1) 4 _)) (gb_set _ (w.heap.size + 1 + 1) 5 _)
    obtain ⟨WF, hWF⟩ : ∃ WF, WF = ((((((uF.setCell ⟨w.heap.size + 1 + 1, 0, none⟩ (.string ⟨#[]⟩)).setCell ⟨w.heap.size + 1 + 1, 1, none⟩ (.string ⟨#[]⟩)).setCell ⟨w.heap.size + 1 + 1, 2, none⟩ (.bool false)).setCell ⟨w.heap.size + 1 + 1, 3, none⟩ (.bool false)).setCell ⟨w.heap.size + 1 + 1, 4, none⟩ (.int .i64 0)).setCell ⟨w.heap.size + 1 + 1, 5, none⟩ (.slice none 0 0)) := ⟨_, rfl⟩
    have ur : WF.heap[w.heap.size + 1 + 1]? = some (.cells #[.string ⟨#[]⟩, .string ⟨#[]⟩, .bool false, .bool false, .int .i64 0, .slice none 0 0] 155 (0, 0)) := by rw [hWF, s5]; simp
    have uB : Below w.heap.size w WF := by rw [hWF]; exact (HAL.out.trans (HBF.out.mono HAL.out.size)).grown gA (HAL.out.trans (HBF.out.mono HAL.out.size)).size (fun b hb => by cases hb; omega)
    have R0 := zh (show WF.cell? ⟨w.heap.size + 1 + 1, 0, none⟩ = some (.string ⟨#[]⟩) from cell_of_row _ _ 0 _ _ _ ur)
    have R1 := zh (show WF.cell? ⟨w.heap.size + 1 + 1, 1, none⟩ = some (.string ⟨#[]⟩) from cell_of_row _ _ 1 _ _ _ ur)
    have R2 := zh (show WF.cell? ⟨w.heap.size + 1 + 1, 2, none⟩ = some (.bool false) from cell_of_row _ _ 2 _ _ _ ur)
    have R3 := zh (show WF.cell? ⟨w.heap.size + 1 + 1, 3, none⟩ = some (.bool false) from cell_of_row _ _ 3 _ _ _ ur)
    have R4 := zh (show WF.cell? ⟨w.heap.size + 1 + 1, 4, none⟩ = some (.int .i64 0) from cell_of_row _ _ 4 _ _ _ ur)
    have R5 := zh (show WF.cell? ⟨w.heap.size + 1 + 1, 5, none⟩ = some (.slice none 0 0) from cell_of_row _ _ 5 _ _ _ ur)
    have UG := zh (show uF.grownBy WF (some (w.heap.size + 1 + 1)) from by rw [hWF]; exact gA)
    have HWF := zh hWF; have UB := zh uB
    clear rr s0 s1 s2 s3 s4 s5 gA hWF ur uB
    go_wp2
    rw [← HWF.out]
    refine bodyPost_ret (v := .tuple #[.agg #[.string ⟨#[]⟩, .string ⟨#[]⟩, .bool false, .bool false, .int .i64 0, .slice none 0 0], .bool false]) ?_ rfl ⟨⟨zeroM, false, rfl, HN.out, Nat.le_refl _, Rd.nil _ _⟩, UB.out⟩
    simp [results, Tryz.results71, go_sem, R0.out, R1.out, R2.out, R3.out, R4.out, R5.out]
   ·have hk1 : ((k0 : Int) == -1) = false := by simp
    have HN := zh (fun k' (h : pM k' = pM m) => show GetR x.cs cn s d k' true from by unfold GetR; rw [hf]; exact ⟨rfl, m, hm, h⟩)
    have hok := ((hk.2.2 _ hcm).below (HAL.out.trans (HBF.out.mono HAL.out.size))).2.2
    have hmm := hok.2 m (List.mem_of_getElem? hm)
    have hgm := (hg.2 _ hcm).2 m (List.mem_of_getElem? hm)
    dsimp only at hm hok
    obtain ⟨a, rfl, -, m0, m1, m2, m3, m4, m5⟩ := me_at hok.1.2 hm
    obtain ⟨e0, e1, e2, e3, e4, e5, e6⟩ := cl_cells HU.out
    dsimp only at e0 e1 e2 e3 e4 e5 e6
    have hkl : (k0 : Int) < (cms.length : Int) := by have := (List.getElem?_eq_some_iff.1 hm).1; omega
    have hlm : (cms.length : Int) ≤ 40 := by have := (hg.2 _ hcm).1.2.2.1; dsimp only at this; omega
    have HCO := zh (copied_w m uF hmm hgm)
    dsimp only [meC] at HCO
    clear hf hok hm hcm hmm hgm
    go_wp2_with fail
    refine HCO.out.mono ?_
    rintro e u9 ⟨⟨k, rfl, hkp, hmk⟩, hb9⟩
    dsimp only [meC]
    have HKP := zh (HN.out k hkp); have HMK := zh (And.intro hmk.1 hmk.2.1)
    clear hmk
    have HB9 := zh (show Below W.heap.size W u9 from HBF.out.trans (hb9.mono HBF.out.size))
    clear m0 m1 m2 m3 m4 m5 e0 e1 e2 e3 e4 e5 e6 HCO hb9 hkp
    have rr := (HB9.out.block _ (blk_lt HRM.out)).trans HRM.out
    have q0 : u9.cell? ⟨w.heap.size + 1 + 1, 0, none⟩ = some (.string ⟨#[]⟩) := cell_of_row _ _ 0 _ _ _ rr
    have qf0 := frozen_of_row _ _ 0 _ _ rr
    have q1 : u9.cell? ⟨w.heap.size + 1 + 1, 1, none⟩ = some (.string ⟨#[]⟩) := cell_of_row _ _ 1 _ _ _ rr
    have qf1 := frozen_of_row _ _ 1 _ _ rr
    have q2 : u9.cell? ⟨w.heap.size + 1 + 1, 2, none⟩ = some (.bool false) := cell_of_row _ _ 2 _ _ _ rr
    have qf2 := frozen_of_row _ _ 2 _ _ rr
    have q3 : u9.cell? ⟨w.heap.size + 1 + 1, 3, none⟩ = some (.bool false) := cell_of_row _ _ 3 _ _ _ rr
    have qf3 := frozen_of_row _ _ 3 _ _ rr
    have q4 : u9.cell? ⟨w.heap.size + 1 + 1, 4, none⟩ = some (.int .i64 0) := cell_of_row _ _ 4 _ _ _ rr
    have qf4 := frozen_of_row _ _ 4 _ _ rr
    have q5 : u9.cell? ⟨w.heap.size + 1 + 1, 5, none⟩ = some (.slice none 0 0) := cell_of_row _ _ 5 _ _ _ rr
    have qf5 := frozen_of_row _ _ 5 _ _ rr
    have s0 := heap_setCell_same _ (w.heap.size + 1 + 1) 0 _ _ (.string ⟨k.nm.toArray⟩) rr
    have s1 := heap_setCell_same _ (w.heap.size + 1 + 1) 1 _ _ (.string ⟨k.ds.toArray⟩) s0
    have s2 := heap_setCell_same _ (w.heap.size + 1 + 1) 2 _ _ (.bool k.st) s1
    have s3 := heap_setCell_same _ (w.heap.size + 1 + 1) 3 _ _ (.bool k.ab) s2
    have s4 := heap_setCell_same _ (w.heap.size + 1 + 1) 4 _ _ (.int .i64 k.rg) s3
    have s5 := heap_setCell_same _ (w.heap.size + 1 + 1) 5 _ _ (.slice k.A k.co.length k.c) s4
    have gA : u9.grownBy ((((((u9.setCell ⟨w.heap.size + 1 + 1, 0, none⟩ (.string ⟨k.nm.toArray⟩)).setCell ⟨w.heap.size + 1 + 1, 1, none⟩ (.string ⟨k.ds.toArray⟩)).setCell ⟨w.heap.size + 1 + 1, 2, none⟩ (.bool k.st)).setCell ⟨w.heap.size + 1 + 1, 3, none⟩ (.bool k.ab)).setCell ⟨w.heap.size + 1 + 1, 4, none⟩ (.int .i64 k.rg)).setCell ⟨w.heap.size + 1 + 1, 5, none⟩ (.slice k.A k.co.length k.c)) (some (w.heap.size + 1 + 1)) := gb_trans (gb_trans (gb_trans (gb_trans (gb_trans (gb_set _ (w.heap.size + 1 + 1) 0 _) (gb_set _ (w.heap.size + 1 + 1) 1 _)) (gb_set _ (w.heap.size + 1 + 1) 2 _)) (gb_set _ (w.heap.size + 1 + 1) 3 _)) (gb_set _ (w.heap.size + 1 + 1) 4 _)) (gb_set _ (w.heap.size + 1 + 1) 5 _)
    obtain ⟨WF, hWF⟩ : ∃ WF, WF = ((((((u9.setCell ⟨w.heap.size + 1 + 1, 0, none⟩ (.string ⟨k.nm.toArray⟩)).setCell ⟨w.heap.size + 1 + 1, 1, none⟩ (.string ⟨k.ds.toArray⟩)).setCell ⟨w.heap.size + 1 + 1, 2, none⟩ (.bool k.st)).setCell ⟨w.heap.size + 1 + 1, 3, none⟩ (.bool k.ab)).setCell ⟨w.heap.size + 1 + 1, 4, none⟩ (.int .i64 k.rg)).setCell ⟨w.heap.size + 1 + 1, 5, none⟩ (.slice k.A k.co.length k.c)) := ⟨_, rfl⟩
    have ur : WF.heap[w.heap.size + 1 + 1]? = some (.cells #[.string ⟨k.nm.toArray⟩, .string ⟨k.ds.toArray⟩, .bool k.st, .bool k.ab, .int .i64 k.rg, .slice k.A k.co.length k.c] 155 (0, 0)) := by rw [hWF, s5]; simp
    have uB : Below w.heap.size w WF := by rw [hWF]; exact (HAL.out.trans (HB9.out.mono HAL.out.size)).grown gA (HAL.out.trans (HB9.out.mono HAL.out.size)).size (fun b hb => by cases hb; omega)
    have R0 := zh (show WF.cell? ⟨w.heap.size + 1 + 1, 0, none⟩ = some (.string ⟨k.nm.toArray⟩) from cell_of_row _ _ 0 _ _ _ ur)
    have R1 := zh (show WF.cell? ⟨w.heap.size + 1 + 1, 1, none⟩ = some (.string ⟨k.ds.toArray⟩) from cell_of_row _ _ 1 _ _ _ ur)
    have R2 := zh (show WF.cell? ⟨w.heap.size + 1 + 1, 2, none⟩ = some (.bool k.st) from cell_of_row _ _ 2 _ _ _ ur)
    have R3 := zh (show WF.cell? ⟨w.heap.size + 1 + 1, 3, none⟩ = some (.bool k.ab) from cell_of_row _ _ 3 _ _ _ ur)
    have R4 := zh (show WF.cell? ⟨w.heap.size + 1 + 1, 4, none⟩ = some (.int .i64 k.rg) from cell_of_row _ _ 4 _ _ _ ur)
    have R5 := zh (show WF.cell? ⟨w.heap.size + 1 + 1, 5, none⟩ = some (.slice k.A k.co.length k.c) from cell_of_row _ _ 5 _ _ _ ur)
    have UG := zh (show u9.grownBy WF (some (w.heap.size + 1 + 1)) from by rw [hWF]; exact gA)
    have HWF := zh hWF; have UB := zh uB
    have RK := zh (show k.co.length ≤ k.c ∧ Rd WF k.A (k.co.flatMap inC) from ⟨HMK.out.1, rd_six HMK.out.2 rr (by simp) (by rw [hWF]; exact gA)⟩)
    clear rr s0 s1 s2 s3 s4 s5 gA hWF ur uB
    go_wp2
    rw [← HWF.out]
    refine bodyPost_ret (v := .tuple #[.agg #[.string ⟨k.nm.toArray⟩, .string ⟨k.ds.toArray⟩, .bool k.st, .bool k.ab, .int .i64 k.rg, .slice k.A k.co.length k.c], .bool true]) ?_ rfl ⟨⟨k, true, rfl, HKP.out, RK.out⟩, UB.out⟩
    simp [results, Tryz.results71, go_sem, R0.out, R1.out, R2.out, R3.out, R4.out, R5.out]
 ·go_simp
  obtain ⟨u1, hn⟩ : ∃ v, v = u0.alloc (.cells #[.string ⟨#[]⟩, .string ⟨#[]⟩, .bool false, .bool false, .slice none 0 0, .slice none 0 0, .slice none 0 0] 159) := ⟨_, rfl⟩
  have hb : Below u0.heap.size u0 u1 := by rw [hn]; exact (Below.refl _ _).alloc (Nat.le_refl _) _
  have hz : u1.heap[u0.heap.size]? = some (.cells #[.string ⟨#[]⟩, .string ⟨#[]⟩, .bool false, .bool false, .slice none 0 0, .slice none 0 0, .slice none 0 0] 159 (0, 0)) := by rw [hn]; exact heap_alloc_new _ _
  have HNN := zh hn
  have HGE := zh (show W.heap.size ≤ u0.heap.size from HB0.out.size)
  rw [← HNN.out]
  clear hn
  have HL1 := zh (show Below u0.heap.size u0 u1 from hb)
  have HB1 := zh (show Below W.heap.size W u1 from HB0.out.trans (HL1.out.mono HB0.out.size))
  have HZ1 := zh (show u1.heap[u0.heap.size]? = some (.cells #[.string ⟨#[]⟩, .string ⟨#[]⟩, .bool false, .bool false, .slice none 0 0, .slice none 0 0, .slice none 0 0] 159 (0, 0)) from hz)
  clear hz hb
  refine hK.out _ _ (HS.out _ HB1.out) (fun hHeld => ?_)
  clear hK K
  try simp only [puts]
  refine rdy 3 rfl (fun K hK => ?_)
  go_simp
  refine (only_w cn _).mono ?_
  rintro e u2 ⟨⟨B, A, c, rfl, hc, hr⟩, hb⟩
  have HL2 := zh (show Below u1.heap.size u1 u2 from ⟨hb.os, hb.tape, hb.output, hb.size, hb.block⟩)
  have HB2 := zh (show Below W.heap.size W u2 from HB1.out.trans (HL2.out.mono HB1.out.size))
  have HZ2 := zh (show u2.heap[u0.heap.size]? = some (.cells #[.string ⟨#[]⟩, .string ⟨#[]⟩, .bool false, .bool false, .slice none 0 0, .slice none 0 0, .slice none 0 0] 159 (0, 0)) from (HL2.out.block _ (blk_lt HZ1.out)).trans HZ1.out)
  have HC2 := zh (show u2.cell? ⟨B, 0, none⟩ = some (.slice A [cn].length c) from hc)
  have HR2 := zh (show Rd u2 A (SX [cn]) from hr)
  clear hc hr hb
  go_wp2_with fail
  refine hK.out _ _ (HS.out _ HB2.out) (fun hHeld => ?_)
  clear hK K
  try simp only [puts]
  refine rdy 8 rfl (fun K hK => ?_)
  go_simp
  refine (method_b s d _).mono ?_
  rintro e u3 ⟨⟨g, h, rfl, hg1, hh1⟩, hb⟩
  have HL3 := zh (show Below u2.heap.size u2 u3 from ⟨hb.os, hb.tape, hb.output, hb.size, hb.block⟩)
  have HB3 := zh (show Below W.heap.size W u3 from HB2.out.trans (HL3.out.mono HB2.out.size))
  have HZ3 := zh (show u3.heap[u0.heap.size]? = some (.cells #[.string ⟨#[]⟩, .string ⟨#[]⟩, .bool false, .bool false, .slice none 0 0, .slice none 0 0, .slice none 0 0] 159 (0, 0)) from (HL3.out.block _ (blk_lt HZ2.out)).trans HZ2.out)
  have HC3 := zh (show u3.cell? ⟨B, 0, none⟩ = some (.slice A [cn].length c) from (HL3.out.cell (World.block_lt_of_cell? _ _ HC2.out)).trans HC2.out)
  have HR3 := zh (show Rd u3 A (SX [cn]) from HR2.out.below HL3.out)
  have HG3 := zh (show u3.cell? ⟨g, 0, none⟩ = some (.string ⟨s.toArray⟩) from hg1)
  have HH3 := zh (show u3.cell? ⟨h, 0, none⟩ = some (.string ⟨d.toArray⟩) from hh1)
  clear hg1 hh1 hb
  go_wp2_with fail
  refine hK.out _ _ (HS.out _ HB3.out) (fun hHeld => ?_)
  clear hK K
  try simp only [puts]
  refine rdy 9 rfl (fun K hK => ?_)
  go_simp
  refine (HFI.out _ B A c g h (HAL.out.trans (HB3.out.mono HAL.out.size)) HC3.out HR3.out HG3.out HH3.out).mono ?_
  rintro e u4 ⟨rfl, hb⟩
  have HL4 := zh (show Below u3.heap.size u3 u4 from ⟨hb.os, hb.tape, hb.output, hb.size, hb.block⟩)
  have HB4 := zh (show Below W.heap.size W u4 from HB3.out.trans (HL4.out.mono HB3.out.size))
  have HZ4 := zh (show u4.heap[u0.heap.size]? = some (.cells #[.string ⟨#[]⟩, .string ⟨#[]⟩, .bool false, .bool false, .slice none 0 0, .slice none 0 0, .slice none 0 0] 159 (0, 0)) from (HL4.out.block _ (blk_lt HZ3.out)).trans HZ3.out)
  have HC4 := zh (show u4.cell? ⟨B, 0, none⟩ = some (.slice A [cn].length c) from (HL4.out.cell (World.block_lt_of_cell? _ _ HC3.out)).trans HC3.out)
  have HR4 := zh (show Rd u4 A (SX [cn]) from HR3.out.below HL4.out)
  have HG4 := zh (show u4.cell? ⟨g, 0, none⟩ = some (.string ⟨s.toArray⟩) from (HL4.out.cell (World.block_lt_of_cell? _ _ HG3.out)).trans HG3.out)
  have HH4 := zh (show u4.cell? ⟨h, 0, none⟩ = some (.string ⟨d.toArray⟩) from (HL4.out.cell (World.block_lt_of_cell? _ _ HH3.out)).trans HH3.out)
  clear hb
  go_wp2_with fail
  refine hK.out _ _ (HS.out _ HB4.out) (fun hHeld => ?_)
  clear hK K
  try simp only [puts]
  have hS9 := HS.out _ HB4.out
  refine tkp 10 rfl ?_
  refine tkp 11 rfl ?_
  refine tkp 12 rfl ?_
  clear hS9
  have tq : u4.there u0.heap.size 0 7 := there_new HZ4.out
  have hst := sets_new (cs := clC ⟨cnm, csu, cfc, cab, cis, cA1, cc1, cfs, cA2, cc2, cms, cA3, cc3⟩) rfl HZ4.out
  have hgr := sets_grown u4 (u0.heap.size) 0 (clC ⟨cnm, csu, cfc, cab, cis, cA1, cc1, cfs, cA2, cc2, cms, cA3, cc3⟩)
  obtain ⟨uF, huF⟩ : ∃ v, v = u4.setCells (u0.heap.size) 0 (clC ⟨cnm, csu, cfc, cab, cis, cA1, cc1, cfs, cA2, cc2, cms, cA3, cc3⟩) := ⟨_, rfl⟩
  have hBF : Below W.heap.size W uF := by rw [huF]; exact HB4.out.grown hgr HB4.out.size (fun k hk => by cases hk; exact HGE.out)
  have HU := zh (show uF.heap[u0.heap.size]? = some (.cells (clC ⟨cnm, csu, cfc, cab, cis, cA1, cc1, cfs, cA2, cc2, cms, cA3, cc3⟩).toArray 159 (0, 0)) from by rw [huF]; exact hst)
  have HBF := zh hBF
  have HUF := zh huF
  refine tst 14 (u0.heap.size) 0 (clC ⟨cnm, csu, cfc, cab, cis, cA1, cc1, cfs, cA2, cc2, cms, cA3, cc3⟩) rfl rfl rfl rfl tq size_clx (one_clx _) (by rw [← huF]; exact HS.out _ hBF) (fun _ => ?_)
  clear tq hst hgr hBF huF
  rw [← HUF.out]
  try simp only [puts]
  have hSF := HS.out _ HBF.out
  refine tkp 15 rfl ?_
  refine wpAnyH_done (by kernel_rfl) ?_ _
  clear hSF
  rcases HCS.out with ⟨hn, hcl, rfl⟩ | ⟨k0, m, rfl, hf, hcm, hm⟩
  ·have HN := zh (show GetR x.cs cn s d zeroM false from by unfold GetR; rw [hn]; exact ⟨rfl, rfl⟩)
   clear hn hcl
   have rr := (HBF.out.block _ (blk_lt HRM.out)).trans HRM.out
   have q0 : uF.cell? ⟨w.heap.size + 1 + 1, 0, none⟩ = some (.string ⟨#[]⟩) := cell_of_row _ _ 0 _ _ _ rr
   have qf0 := frozen_of_row _ _ 0 _ _ rr
   have q1 : uF.cell? ⟨w.heap.size + 1 + 1, 1, none⟩ = some (.string ⟨#[]⟩) := cell_of_row _ _ 1 _ _ _ rr
   have qf1 := frozen_of_row _ _ 1 _ _ rr
   have q2 : uF.cell? ⟨w.heap.size + 1 + 1, 2, none⟩ = some (.bool false) := cell_of_row _ _ 2 _ _ _ rr
   have qf2 := frozen_of_row _ _ 2 _ _ rr
   have q3 : uF.cell? ⟨w.heap.size + 1 + 1, 3, none⟩ = some (.bool false) := cell_of_row _ _ 3 _ _ _ rr
   have qf3 := frozen_of_row _ _ 3 _ _ rr
   have q4 : uF.cell? ⟨w.heap.size + 1 + 1, 4, none⟩ = some (.int .i64 0) := cell_of_row _ _ 4 _ _ _ rr
   have qf4 := frozen_of_row _ _ 4 _ _ rr
   have q5 : uF.cell? ⟨w.heap.size + 1 + 1, 5, none⟩ = some (.slice none 0 0) := cell_of_row _ _ 5 _ _ _ rr
   have qf5 := frozen_of_row _ _ 5 _ _ rr
   have s0 := heap_setCell_same _ (w.heap.size + 1 + 1) 0 _ _ (.string ⟨#[]⟩) rr
   have s1 := heap_setCell_same _ (w.heap.size + 1 + 1) 1 _ _ (.string ⟨#[]⟩) s0
   have s2 := heap_setCell_same _ (w.heap.size + 1 + 1) 2 _ _ (.bool false) s1
   have s3 := heap_setCell_same _ (w.heap.size + 1 + 1) 3 _ _ (.bool false) s2
   have s4 := heap_setCell_same _ (w.heap.size + 1 + 1) 4 _ _ (.int .i64 0) s3
   have s5 := heap_setCell_same _ (w.heap.size + 1 + 1) 5 _ _ (.slice none 0 0) s4
   have gA : uF.grownBy ((((((uF.setCell ⟨w.heap.size + 1 + 1, 0, none⟩ (.string ⟨#[]⟩)).setCell ⟨w.heap.size + 1 + 1, 1, none⟩ (.string ⟨#[]⟩)).setCell ⟨w.heap.size + 1 + 1, 2, none⟩ (.bool false)).setCell ⟨w.heap.size + 1 + 1, 3, none⟩ (.bool false)).setCell ⟨w.heap.size + 1 + 1, 4, none⟩ (.int .i64 0)).setCell ⟨w.heap.size + 1 + 1, 5, none⟩ (.slice none 0 0)) (some (w.heap.size + 1 + 1)) := gb_trans (gb_trans (gb_trans (gb_trans (gb_trans (gb_set _ (w.heap.size + 1 + 1) 0 _) (gb_set _ (w.heap.size + 1 + 1) 1 _)) (gb_set _ (w.heap.size + 1 + 1) 2 _)) (gb_set _ (w.heap.size + 1 + 1) 3 _)) (gb_set _ (w.heap.size + 1 + 1) 4 _)) (gb_set _ (w.heap.size + 1 + 1) 5 _)
   obtain ⟨WF, hWF⟩ : ∃ WF, WF = ((((((uF.setCell ⟨w.heap.size + 1 + 1, 0, none⟩ (.string ⟨#[]⟩)).setCell ⟨w.heap.size + 1 + 1, 1, none⟩ (.string ⟨#[]⟩)).setCell ⟨w.heap.size + 1 + 1, 2, none⟩ (.bool false)).setCell ⟨w.heap.size + 1 + 1, 3, none⟩ (.bool false)).setCell ⟨w.heap.size + 1 + 1, 4, none⟩ (.int .i64 0)).setCell ⟨w.heap.size + 1 + 1, 5, none⟩ (.slice none 0 0)) := ⟨_, rfl⟩
   have ur : WF.heap[w.heap.size + 1 + 1]? = some (.cells #[.string ⟨#[]⟩, .string ⟨#[]⟩, .bool false, .bool false, .int .i64 0, .slice none 0 0] 155 (0, 0)) := by rw [hWF, s5]; simp
   have uB : Below w.heap.size w WF := by rw [hWF]; exact (HAL.out.trans (HBF.out.mono HAL.out.size)).grown gA (HAL.out.trans (HBF.out.mono HAL.out.size)).size (fun b hb => by cases hb; omega)
   have R0 := zh (show WF.cell? ⟨w.heap.size + 1 + 1, 0, none⟩ = some (.string ⟨#[]⟩) from cell_of_row _ _ 0 _ _ _ ur)
   have R1 := zh (show WF.cell? ⟨w.heap.size + 1 + 1, 1, none⟩ = some (.string ⟨#[]⟩) from cell_of_row _ _ 1 _ _ _ ur)
   have R2 := zh (show WF.cell? ⟨w.heap.size + 1 + 1, 2, none⟩ = some (.bool false) from cell_of_row _ _ 2 _ _ _ ur)
   have R3 := zh (show WF.cell? ⟨w.heap.size + 1 + 1, 3, none⟩ = some (.bool false) from cell_of_row _ _ 3 _ _ _ ur)
   have R4 := zh (show WF.cell? ⟨w.heap.size + 1 + 1, 4, none⟩ = some (.int .i64 0) from cell_of_row _ _ 4 _ _ _ ur)
   have R5 := zh (show WF.cell? ⟨w.heap.size + 1 + 1, 5, none⟩ = some (.slice none 0 0) from cell_of_row _ _ 5 _ _ _ ur)
   have UG := zh (show uF.grownBy WF (some (w.heap.size + 1 + 1)) from by rw [hWF]; exact gA)
   have HWF := zh hWF; have UB := zh uB
   clear rr s0 s1 s2 s3 s4 s5 gA hWF ur uB
   go_wp2
   rw [← HWF.out]
   refine bodyPost_ret (v := .tuple #[.agg #[.string ⟨#[]⟩, .string ⟨#[]⟩, .bool false, .bool false, .int .i64 0, .slice none 0 0], .bool false]) ?_ rfl ⟨⟨zeroM, false, rfl, HN.out, Nat.le_refl _, Rd.nil _ _⟩, UB.out⟩
   simp [results, Tryz.results71, go_sem, R0.out, R1.out, R2.out, R3.out, R4.out, R5.out]
  ·have hk1 : ((k0 : Int) == -1) = false := by simp
   have HN := zh (fun k' (h : pM k' = pM m) => show GetR x.cs cn s d k' true from by unfold GetR; rw [hf]; exact ⟨rfl, m, hm, h⟩)
   have hok := ((hk.2.2 _ hcm).below (HAL.out.trans (HBF.out.mono HAL.out.size))).2.2
   have hmm := hok.2 m (List.mem_of_getElem? hm)
   have hgm := (hg.2 _ hcm).2 m (List.mem_of_getElem? hm)
   dsimp only at hm hok
   obtain ⟨a, rfl, -, m0, m1, m2, m3, m4, m5⟩ := me_at hok.1.2 hm
   obtain ⟨e0, e1, e2, e3, e4, e5, e6⟩ := cl_cells HU.out
   dsimp only at e0 e1 e2 e3 e4 e5 e6
   have hkl : (k0 : Int) < (cms.length : Int) := by have := (List.getElem?_eq_some_iff.1 hm).1; omega
   have hlm : (cms.length : Int) ≤ 40 := by have := (hg.2 _ hcm).1.2.2.1; dsimp only at this; omega
   have HCO := zh (copied_w m uF hmm hgm)
   dsimp only [meC] at HCO
   clear hf hok hm hcm hmm hgm
   go_wp2_with fail
   refine HCO.out.mono ?_
   rintro e u9 ⟨⟨k, rfl, hkp, hmk⟩, hb9⟩
   dsimp only [meC]
   have HKP := zh (HN.out k hkp); have HMK := zh (And.intro hmk.1 hmk.2.1)
   clear hmk
   have HB9 := zh (show Below W.heap.size W u9 from HBF.out.trans (hb9.mono HBF.out.size))
   clear m0 m1 m2 m3 m4 m5 e0 e1 e2 e3 e4 e5 e6 HCO hb9 hkp
   have rr := (HB9.out.block _ (blk_lt HRM.out)).trans HRM.out
   have q0 : u9.cell? ⟨w.heap.size + 1 + 1, 0, none⟩ = some (.string ⟨#[]⟩) := cell_of_row _ _ 0 _ _ _ rr
   have qf0 := frozen_of_row _ _ 0 _ _ rr
   have q1 : u9.cell? ⟨w.heap.size + 1 + 1, 1, none⟩ = some (.string ⟨#[]⟩) := cell_of_row _ _ 1 _ _ _ rr
   have qf1 := frozen_of_row _ _ 1 _ _ rr
   have q2 : u9.cell? ⟨w.heap.size + 1 + 1, 2, none⟩ = some (.bool false) := cell_of_row _ _ 2 _ _ _ rr
   have qf2 := frozen_of_row _ _ 2 _ _ rr
   have q3 : u9.cell? ⟨w.heap.size + 1 + 1, 3, none⟩ = some (.bool false) := cell_of_row _ _ 3 _ _ _ rr
   have qf3 := frozen_of_row _ _ 3 _ _ rr
   have q4 : u9.cell? ⟨w.heap.size + 1 + 1, 4, none⟩ = some (.int .i64 0) := cell_of_row _ _ 4 _ _ _ rr
   have qf4 := frozen_of_row _ _ 4 _ _ rr
   have q5 : u9.cell? ⟨w.heap.size + 1 + 1, 5, none⟩ = some (.slice none 0 0) := cell_of_row _ _ 5 _ _ _ rr
   have qf5 := frozen_of_row _ _ 5 _ _ rr
   have s0 := heap_setCell_same _ (w.heap.size + 1 + 1) 0 _ _ (.string ⟨k.nm.toArray⟩) rr
   have s1 := heap_setCell_same _ (w.heap.size + 1 + 1) 1 _ _ (.string ⟨k.ds.toArray⟩) s0
   have s2 := heap_setCell_same _ (w.heap.size + 1 + 1) 2 _ _ (.bool k.st) s1
   have s3 := heap_setCell_same _ (w.heap.size + 1 + 1) 3 _ _ (.bool k.ab) s2
   have s4 := heap_setCell_same _ (w.heap.size + 1 + 1) 4 _ _ (.int .i64 k.rg) s3
   have s5 := heap_setCell_same _ (w.heap.size + 1 + 1) 5 _ _ (.slice k.A k.co.length k.c) s4
   have gA : u9.grownBy ((((((u9.setCell ⟨w.heap.size + 1 + 1, 0, none⟩ (.string ⟨k.nm.toArray⟩)).setCell ⟨w.heap.size + 1 + 1, 1, none⟩ (.string ⟨k.ds.toArray⟩)).setCell ⟨w.heap.size + 1 + 1, 2, none⟩ (.bool k.st)).setCell ⟨w.heap.size + 1 + 1, 3, none⟩ (.bool k.ab)).setCell ⟨w.heap.size + 1 + 1, 4, none⟩ (.int .i64 k.rg)).setCell ⟨w.heap.size + 1 + 1, 5, none⟩ (.slice k.A k.co.length k.c)) (some (w.heap.size + 1 + 1)) := gb_trans (gb_trans (gb_trans (gb_trans (gb_trans (gb_set _ (w.heap.size + 1 + 1) 0 _) (gb_set _ (w.heap.size + 1 + 1) 1 _)) (gb_set _ (w.heap.size + 1 + 1) 2 _)) (gb_set _ (w.heap.size + 1 + 1) 3 _)) (gb_set _ (w.heap.size + 1 + 1) 4 _)) (gb_set _ (w.heap.size + 1 + 1) 5 _)
   obtain ⟨WF, hWF⟩ : ∃ WF, WF = ((((((u9.setCell ⟨w.heap.size + 1 + 1, 0, none⟩ (.string ⟨k.nm.toArray⟩)).setCell ⟨w.heap.size + 1 + 1, 1, none⟩ (.string ⟨k.ds.toArray⟩)).setCell ⟨w.heap.size + 1 + 1, 2, none⟩ (.bool k.st)).setCell ⟨w.heap.size + 1 + 1, 3, none⟩ (.bool k.ab)).setCell ⟨w.heap.size + 1 + 1, 4, none⟩ (.int .i64 k.rg)).setCell ⟨w.heap.size + 1 + 1, 5, none⟩ (.slice k.A k.co.length k.c)) := ⟨_, rfl⟩
   have ur : WF.heap[w.heap.size + 1 + 1]? = some (.cells #[.string ⟨k.nm.toArray⟩, .string ⟨k.ds.toArray⟩, .bool k.st, .bool k.ab, .int .i64 k.rg, .slice k.A k.co.length k.c] 155 (0, 0)) := by rw [hWF, s5]; simp
   have uB : Below w.heap.size w WF := by rw [hWF]; exact (HAL.out.trans (HB9.out.mono HAL.out.size)).grown gA (HAL.out.trans (HB9.out.mono HAL.out.size)).size (fun b hb => by cases hb; omega)
   have R0 := zh (show WF.cell? ⟨w.heap.size + 1 + 1, 0, none⟩ = some (.string ⟨k.nm.toArray⟩) from cell_of_row _ _ 0 _ _ _ ur)
   have R1 := zh (show WF.cell? ⟨w.heap.size + 1 + 1, 1, none⟩ = some (.string ⟨k.ds.toArray⟩) from cell_of_row _ _ 1 _ _ _ ur)
   have R2 := zh (show WF.cell? ⟨w.heap.size + 1 + 1, 2, none⟩ = some (.bool k.st) from cell_of_row _ _ 2 _ _ _ ur)
   have R3 := zh (show WF.cell? ⟨w.heap.size + 1 + 1, 3, none⟩ = some (.bool k.ab) from cell_of_row _ _ 3 _ _ _ ur)
   have R4 := zh (show WF.cell? ⟨w.heap.size + 1 + 1, 4, none⟩ = some (.int .i64 k.rg) from cell_of_row _ _ 4 _ _ _ ur)
   have R5 := zh (show WF.cell? ⟨w.heap.size + 1 + 1, 5, none⟩ = some (.slice k.A k.co.length k.c) from cell_of_row _ _ 5 _ _ _ ur)
   have UG := zh (show u9.grownBy WF (some (w.heap.size + 1 + 1)) from by rw [hWF]; exact gA)
   have HWF := zh hWF; have UB := zh uB
   have RK := zh (show k.co.length ≤ k.c ∧ Rd WF k.A (k.co.flatMap inC) from ⟨HMK.out.1, rd_six HMK.out.2 rr (by simp) (by rw [hWF]; exact gA)⟩)
   clear rr s0 s1 s2 s3 s4 s5 gA hWF ur uB
   go_wp2
   rw [← HWF.out]
   refine bodyPost_ret (v := .tuple #[.agg #[.string ⟨k.nm.toArray⟩, .string ⟨k.ds.toArray⟩, .bool k.st, .bool k.ab, .int .i64 k.rg, .slice k.A k.co.length k.c], .bool true]) ?_ rfl ⟨⟨k, true, rfl, HKP.out, RK.out⟩, UB.out⟩
   simp [results, Tryz.results71, go_sem, R0.out, R1.out, R2.out, R3.out, R4.out, R5.out]
end Go.Proofs.YtjejmlpjifhmmaaGreatDoor.find

/- FindE -/
import Derived.Test.YtjejmlpjifhmmaaGreatDoorSortP
namespace Go.Proofs.YtjejmlpjifhmmaaGreatDoor.find
open Go.RowKit
open words kindp opp op kind word prg sorts
set_option maxRecDepth 100000
set_option maxHeartbeats 16000000
set_option linter.all false
theorem method_b (s d : Tx) (w : World) : Calls Tryz.prog 108 #[.string ⟨s.toArray⟩, .string ⟨d.toArray⟩] w fun e w' => (∃ g h, e = .returned (.func (.func 157) #[] #[.pointer (some ⟨g, 0, none⟩), .pointer (some ⟨h, 0, none⟩)]) ∧ w'.cell? ⟨g, 0, none⟩ = some (.string ⟨s.toArray⟩) ∧ w'.cell? ⟨h, 0, none⟩ = some (.string ⟨d.toArray⟩)) ∧ Below w.heap.size w w' := by
 refine (method_w s d w).mono ?_
 rintro e w' ⟨rfl, rfl⟩
 have b1 : Below w.heap.size w (w.alloc (.cells #[.string ⟨s.toArray⟩] 9)) := (Below.refl _ w).alloc (Nat.le_refl _) _
 have b2 := Below.heap_alloc (w.alloc (.cells #[.string ⟨s.toArray⟩] 9)) (.cells #[.string ⟨d.toArray⟩] 9) w.heap.size (by simp)
 have h2 := heap_alloc_new (w.alloc (.cells #[.string ⟨s.toArray⟩] 9)) (.cells #[.string ⟨d.toArray⟩] 9)
 rw [World.size_alloc] at h2
 exact ⟨⟨_, _, rfl, cell_of_row _ _ 0 _ _ _ (b2.trans (heap_alloc_new w _)), cell_of_row _ _ 0 _ _ _ h2⟩, b1.alloc b1.size _⟩
theorem firstM_at {cs : List ClM} {L : List Tx} {s d : Tx} {c : ClM} {k : Nat} (h : firstM cs L s d = some (c, k)) : c ∈ cs ∧ ∃ m, c.ms[k]? = some m ∧ m.nm = s ∧ m.ds = d := by
 obtain ⟨nm, -, h1⟩ := List.exists_of_findSome?_eq_some h
 unfold oneM at h1
 cases hc : findC cs nm with
 | none => rw [hc] at h1; cases h1
 | some c' =>
  rw [hc] at h1; dsimp only at h1
  cases hd : declM c' s d with
  | none => rw [hd] at h1; cases h1
  | some k' =>
   rw [hd] at h1
   simp only [Option.some.injEq, Prod.mk.injEq] at h1
   obtain ⟨rfl, rfl⟩ := h1
   obtain ⟨hl, hp, -⟩ := List.findIdx?_eq_some_iff_getElem.1 hd
   refine ⟨(findC_nm hc).2, _, List.getElem?_eq_getElem hl, ?_⟩
   simpa using hp
theorem size_clx : (Tryz.prog.info? 159).map (·.size) = some 7 := by kernel_rfl
theorem one_clx (x : ClM) : ∀ v ∈ clC x, v.oneCell' = true := by
 intro v hv
 simp only [clC, List.mem_cons, List.not_mem_nil, or_false] at hv
 rcases hv with rfl | rfl | rfl | rfl | rfl | rfl | rfl <;> rfl
theorem there_new {u : World} {b : Nat} {T : TypeId} (h : u.heap[b]? = some (.cells #[.string ⟨#[]⟩, .string ⟨#[]⟩, .bool false, .bool false, .slice none 0 0, .slice none 0 0, .slice none 0 0] T (0, 0))) : u.there b 0 7 := fun j hj => by
 rw [Nat.zero_add]
 refine ⟨?_, frozen_of_row _ _ j _ _ h⟩
 match j, hj with
 | 0, _ => rw [show u.cell? ⟨b, 0, none⟩ = some (.string ⟨#[]⟩) from cell_of_row _ _ 0 _ _ _ h]; rfl
 | 1, _ => rw [show u.cell? ⟨b, 1, none⟩ = some (.string ⟨#[]⟩) from cell_of_row _ _ 1 _ _ _ h]; rfl
 | 2, _ => rw [show u.cell? ⟨b, 2, none⟩ = some (.bool false) from cell_of_row _ _ 2 _ _ _ h]; rfl
 | 3, _ => rw [show u.cell? ⟨b, 3, none⟩ = some (.bool false) from cell_of_row _ _ 3 _ _ _ h]; rfl
 | 4, _ => rw [show u.cell? ⟨b, 4, none⟩ = some (.slice none 0 0) from cell_of_row _ _ 4 _ _ _ h]; rfl
 | 5, _ => rw [show u.cell? ⟨b, 5, none⟩ = some (.slice none 0 0) from cell_of_row _ _ 5 _ _ _ h]; rfl
 | 6, _ => rw [show u.cell? ⟨b, 6, none⟩ = some (.slice none 0 0) from cell_of_row _ _ 6 _ _ _ h]; rfl
theorem sets_grown (u : World) (b o : Nat) (cs : List Value) : u.grownBy (u.setCells b o cs) (some b) := by
 induction cs generalizing u o with
 | nil => exact ⟨rfl, rfl, rfl, Nat.le_refl _, fun _ _ _ => rfl⟩
 | cons v cs ih => exact gb_trans (gb_set u b o v) (ih _ _)
theorem sets_new {u : World} {b : Nat} {T : TypeId} {cs : List Value} (hl : cs.length = 7) (h : u.heap[b]? = some (.cells #[.string ⟨#[]⟩, .string ⟨#[]⟩, .bool false, .bool false, .slice none 0 0, .slice none 0 0, .slice none 0 0] T (0, 0))) : (u.setCells b 0 cs).heap[b]? = some (.cells cs.toArray T (0, 0)) := by
 obtain ⟨a0, a1, a2, a3, a4, a5, a6, rfl⟩ : ∃ a0 a1 a2 a3 a4 a5 a6, cs = [a0, a1, a2, a3, a4, a5, a6] := by
  match cs, hl with
  | [a0, a1, a2, a3, a4, a5, a6], _ => exact ⟨a0, a1, a2, a3, a4, a5, a6, rfl⟩
 have s0 := heap_setCell_same _ b 0 _ _ a0 h
 have s1 := heap_setCell_same _ b 1 _ _ a1 s0
 have s2 := heap_setCell_same _ b 2 _ _ a2 s1
 have s3 := heap_setCell_same _ b 3 _ _ a3 s2
 have s4 := heap_setCell_same _ b 4 _ _ a4 s3
 have s5 := heap_setCell_same _ b 5 _ _ a5 s4
 have s6 := heap_setCell_same _ b 6 _ _ a6 s5
 show ((((((((u.setCell ⟨b, 0, none⟩ a0).setCell ⟨b, 1, none⟩ a1).setCell ⟨b, 2, none⟩ a2).setCell ⟨b, 3, none⟩ a3).setCell ⟨b, 4, none⟩ a4).setCell ⟨b, 5, none⟩ a5).setCell ⟨b, 6, none⟩ a6).heap[b]?) = _
 rw [s6]; simp
theorem declared_w (f : Nat) (may : MeM → Bool) (hen : ∀ args w, (callFunc f args).run Tryz.prog w = .ok (.enter f args) w) (hmay : ∀ m w, Calls Tryz.prog f #[.agg (meC m).toArray] w fun e w' => e = .returned (.bool (may m)) ∧ Below w.heap.size w w')
  (x : PrM) (L : List Tx) (s d : Tx) (Bs : Nat) (AL : Option Addr) (cL : Nat) (w : World) (hk : PrOk w x) (hg : GrP x) (hBs : w.cell? ⟨Bs, 0, none⟩ = some (.slice AL L.length cL)) (hr : Rd w AL (SX L)) (hz : L.length ≤ 100000) :
  Calls Tryz.prog 162 #[.agg (prC x).toArray, .func (.func 199) #[] #[.pointer (some ⟨Bs, 0, none⟩)], .string ⟨s.toArray⟩, .string ⟨d.toArray⟩, .func (.func f) #[] #[]] w
   fun e w' => e = .returned (refV (declR may x.cs L s d) s d) ∧ Below w.heap.size w w' := by
 obtain ⟨W, hW⟩ : ∃ W, W = (w.alloc (.cells (prC x).toArray 36)).alloc (.cells #[.string ⟨#[]⟩, .string ⟨#[]⟩, .string ⟨#[]⟩] 34) := ⟨_, rfl⟩
 have hal : Below w.heap.size w W := by rw [hW]; exact ((Below.refl _ w).alloc (Nat.le_refl _) _).alloc (by simp) _
 have hblk : W.heap[w.heap.size]? = some (.cells (prC x).toArray 36 (0, 0)) := by rw [hW]; exact (Below.heap_alloc _ _ _ (by simp)).trans (heap_alloc_new w _)
 have hbr : W.heap[w.heap.size + 1]? = some (.cells #[.string ⟨#[]⟩, .string ⟨#[]⟩, .string ⟨#[]⟩] 34 (0, 0)) := by
  have := heap_alloc_new (w.alloc (.cells (prC x).toArray 36)) (.cells #[.string ⟨#[]⟩, .string ⟨#[]⟩, .string ⟨#[]⟩] 34)
  rw [World.size_alloc] at this
  rw [hW]; exact this
 have hBl : Bs < w.heap.size := World.block_lt_of_cell? _ _ hBs
 obtain ⟨x0, x1, x2, x3, x4⟩ := pr_cells hblk
 have HAL := zh hal; have HRB := zh hbr
 have HS := zh (show ∀ u : World, Below W.heap.size W u → (fun w' => w'.cell? ⟨w.heap.size, 0, none⟩ = some (.slice x.A1 x.cs.length x.c1) ∧ w'.cell? ⟨w.heap.size, 1, none⟩ = some (.slice x.A2 x.ns.length x.c2) ∧ w'.cell? ⟨w.heap.size, 2, none⟩ = some (.string ⟨x.ec.toArray⟩) ∧ w'.cell? ⟨w.heap.size, 3, none⟩ = some (.string ⟨x.en.toArray⟩) ∧ w'.cell? ⟨w.heap.size, 4, none⟩ = some (.string ⟨x.ed.toArray⟩)) u from fun u hu => pr_cells ((hu.block _ (blk_lt hblk)).trans hblk))
 have HFI := zh (fun v g h (hv : Below w.heap.size w v) h1 h2 => first_w x L s d Bs g h AL cL v (hk.below hv) hg ((hv.cell (p := ⟨Bs, 0, none⟩) hBl).trans hBs) (hr.below hv) hz h1 h2)
 obtain ⟨q, hq⟩ : ∃ q, q = firstR x.cs L s d := ⟨_, rfl⟩
 rw [← hq] at HFI
 have hcs : (firstM x.cs L s d = none ∧ q.1 = zeroC ∧ q.2 = -1) ∨ ∃ k m, q.2 = ((k : Nat) : Int) ∧ firstM x.cs L s d = some (q.1, k) ∧ q.1 ∈ x.cs ∧ q.1.ms[k]? = some m := by
  cases hf : firstM x.cs L s d with
  | none => rw [firstR_none hf] at hq; rw [hq]; exact .inl ⟨rfl, rfl, rfl⟩
  | some r =>
   obtain ⟨c, k⟩ := r
   rw [firstR_some hf] at hq
   obtain ⟨hm, m, h1, -, -⟩ := firstM_at hf
   rw [hq]
   exact .inr ⟨k, m, rfl, rfl, hm, h1⟩
 clear hq
 obtain ⟨⟨cnm, csu, cfc, cab, cis, cA1, cc1, cfs, cA2, cc2, cms, cA3, cc3⟩, kk⟩ := q
 dsimp only at hcs HFI
 have HCS := zh hcs
 dsimp only [clC] at HFI
 unfold prC at hW HFI ⊢
 try dsimp only at hW HFI ⊢
 have HW := zh hW
 clear hal hblk hbr hW hcs hr hBs
 go_enter Tryz.func162, Tryz.ntmps162
 go_wp2_with fail
 try simp only [World.size_alloc]
 rw [← HW.out]
 (try go_wp2_with fail)
 refine wp_region_held_drew (S := (fun w' => w'.cell? ⟨w.heap.size, 0, none⟩ = some (.slice x.A1 x.cs.length x.c1) ∧ w'.cell? ⟨w.heap.size, 1, none⟩ = some (.slice x.A2 x.ns.length x.c2) ∧ w'.cell? ⟨w.heap.size, 2, none⟩ = some (.string ⟨x.ec.toArray⟩) ∧ w'.cell? ⟨w.heap.size, 3, none⟩ = some (.string ⟨x.en.toArray⟩) ∧ w'.cell? ⟨w.heap.size, 4, none⟩ = some (.string ⟨x.ed.toArray⟩))) (by kernel_rfl) ?_ (fun hHeld => ?_)
 ·exact HS.out _ (by exact ⟨rfl, rfl, rfl, Nat.le_refl _, fun _ _ => rfl⟩)
 obtain ⟨wd0, hWd⟩ : ∃ u, u = W.drew := ⟨_, rfl⟩
 have HBD := zh (show Below W.heap.size W wd0 from by rw [hWd]; exact ⟨rfl, rfl, rfl, Nat.le_refl _, fun _ _ => rfl⟩)
 rw [← hWd]
 have hS0 := HS.out _ HBD.out
 clear hWd x0 x1 x2 x3 x4
 refine tkp 0 rfl ?_
 refine tkp 1 rfl ?_
 refine tkp 2 rfl ?_
 refine tkp 3 rfl ?_
 clear hS0
 refine wpAnyH_ready (rs := [4, 9]) (by kernel_rfl) (by simp) (AllReadyH.cons rfl (fun K hK => ?_) (AllReadyH.cons rfl (fun K hK => ?_) AllReadyH.nil))
 ·go_simp
  refine (method_b s d _).mono ?_
  rintro e u1 ⟨⟨g, h, rfl, hg1, hh1⟩, hb⟩
  have hb1 : Below W.heap.size W u1 := HBD.out.trans ((show Below wd0.heap.size wd0 u1 from ⟨hb.os, hb.tape, hb.output, hb.size, hb.block⟩).mono HBD.out.size)
  have HB1 := zh hb1; have HG1 := zh hg1; have HH1 := zh hh1
  clear hb hb1 hg1 hh1
  go_wp2_with fail
  refine hK.out _ _ (HS.out _ HB1.out) (fun hHeld => ?_)
  clear hK K
  try simp only [puts]
  refine wpAnyH_ready (rs := [5, 9]) (by kernel_rfl) (by simp) (AllReadyH.cons rfl (fun K hK => ?_) (AllReadyH.cons rfl (fun K hK => ?_) AllReadyH.nil))
  ·go_simp
   refine (HFI.out _ g h (HAL.out.trans (HB1.out.mono HAL.out.size)) HG1.out HH1.out).mono ?_
   rintro e u2 ⟨rfl, hb⟩
   have hb2 : Below W.heap.size W u2 := HB1.out.trans (hb.mono HB1.out.size)
   have HB2 := zh hb2
   have HSB := zh (show Below u1.heap.size u1 u2 from hb)
   clear hb hb2
   go_wp2_with fail
   refine hK.out _ _ (HS.out _ HB2.out) (fun hHeld => ?_)
   clear hK K
   try simp only [puts]
   have hS2 := HS.out _ HB2.out
   refine tkp 6 rfl ?_
   refine tkp 7 rfl ?_
   refine tkp 8 rfl ?_
   clear hS2
   refine rdy 9 rfl (fun K hK => ?_)
   go_simp
   obtain ⟨u3, hn⟩ : ∃ v, v = u2.alloc (.cells #[.string ⟨#[]⟩, .string ⟨#[]⟩, .bool false, .bool false, .slice none 0 0, .slice none 0 0, .slice none 0 0] 159) := ⟨_, rfl⟩
   have hb : Below W.heap.size W u3 := by rw [hn]; exact HB2.out.alloc HB2.out.size _
   have hz : u3.heap[u2.heap.size]? = some (.cells #[.string ⟨#[]⟩, .string ⟨#[]⟩, .bool false, .bool false, .slice none 0 0, .slice none 0 0, .slice none 0 0] 159 (0, 0)) := by rw [hn]; exact heap_alloc_new _ _
   have hbb : Below u2.heap.size u2 u3 := by rw [hn]; exact (Below.refl _ _).alloc (Nat.le_refl _) _
   have HB3 := zh hb; have HZ := zh hz; have HBB := zh hbb; have HNN := zh hn; have HGE := zh HB2.out.size
   clear hb hz hbb hn
   rw [← HNN.out]
   refine hK.out _ _ (HS.out _ HB3.out) (fun hHeld => ?_)
   clear hK K
   try simp only [puts]
   have hz9 : u3.heap[u2.heap.size]? = some (.cells #[.string ⟨#[]⟩, .string ⟨#[]⟩, .bool false, .bool false, .slice none 0 0, .slice none 0 0, .slice none 0 0] 159 (0, 0)) := HZ.out
   have hB9 : Below W.heap.size W u3 := HB3.out
   have hge : W.heap.size ≤ u2.heap.size := by have := HAL.out.size; first | omega | (have := hB9.size; omega) | exact HGE.out
   have tq : u3.there u2.heap.size 0 7 := there_new hz9
   have hst := sets_new (cs := clC ⟨cnm, csu, cfc, cab, cis, cA1, cc1, cfs, cA2, cc2, cms, cA3, cc3⟩) rfl hz9
   have hgr := sets_grown u3 u2.heap.size 0 (clC ⟨cnm, csu, cfc, cab, cis, cA1, cc1, cfs, cA2, cc2, cms, cA3, cc3⟩)
   obtain ⟨uF, huF⟩ : ∃ v, v = u3.setCells u2.heap.size 0 (clC ⟨cnm, csu, cfc, cab, cis, cA1, cc1, cfs, cA2, cc2, cms, cA3, cc3⟩) := ⟨_, rfl⟩
   have hBF : Below W.heap.size W uF := by rw [huF]; exact hB9.grown hgr hB9.size (fun k hk => by cases hk; exact hge)
   have HU := zh (show uF.heap[u2.heap.size]? = some (.cells (clC ⟨cnm, csu, cfc, cab, cis, cA1, cc1, cfs, cA2, cc2, cms, cA3, cc3⟩).toArray 159 (0, 0)) from by rw [huF]; exact hst)
   have HBF := zh hBF
   have HUF := zh huF
   refine tst 10 u2.heap.size 0 (clC ⟨cnm, csu, cfc, cab, cis, cA1, cc1, cfs, cA2, cc2, cms, cA3, cc3⟩) rfl rfl rfl rfl tq size_clx (one_clx _) (by rw [← huF]; exact HS.out _ hBF) (fun _ => ?_)
   clear hz9 hB9 hge tq hst hgr hBF huF
   rw [← HUF.out]
   try simp only [puts]
   have hSF := HS.out _ HBF.out
   refine tkp 11 rfl ?_
   refine wpAnyH_done (by kernel_rfl) ?_ _
   clear hSF
   rcases HCS.out with ⟨hn, hcl, rfl⟩ | ⟨k, m, rfl, hf, hcm, hm⟩
   ·have HN := zh (show declR may x.cs L s d = none from by unfold declR; rw [hn])
    clear hn hcl
    have rr := (HBF.out.block _ (blk_lt HRB.out)).trans HRB.out
    have q0 : uF.cell? ⟨w.heap.size + 1, 0, none⟩ = some (.string ⟨#[]⟩) := cell_of_row _ _ 0 _ _ _ rr
    have qf0 := frozen_of_row _ _ 0 _ _ rr
    have q1 : uF.cell? ⟨w.heap.size + 1, 1, none⟩ = some (.string ⟨#[]⟩) := cell_of_row _ _ 1 _ _ _ rr
    have qf1 := frozen_of_row _ _ 1 _ _ rr
    have q2 : uF.cell? ⟨w.heap.size + 1, 2, none⟩ = some (.string ⟨#[]⟩) := cell_of_row _ _ 2 _ _ _ rr
    have qf2 := frozen_of_row _ _ 2 _ _ rr
    have s0 := heap_setCell_same _ (w.heap.size + 1) 0 _ _ (.string ⟨#[]⟩) rr
    have s1 := heap_setCell_same _ (w.heap.size + 1) 1 _ _ (.string ⟨#[]⟩) s0
    have s2 := heap_setCell_same _ (w.heap.size + 1) 2 _ _ (.string ⟨#[]⟩) s1
    have gA : uF.grownBy (((uF.setCell ⟨w.heap.size + 1, 0, none⟩ (.string ⟨#[]⟩)).setCell ⟨w.heap.size + 1, 1, none⟩ (.string ⟨#[]⟩)).setCell ⟨w.heap.size + 1, 2, none⟩ (.string ⟨#[]⟩)) (some (w.heap.size + 1)) := gb_trans (gb_trans (gb_set _ (w.heap.size + 1) 0 _) (gb_set _ (w.heap.size + 1) 1 _)) (gb_set _ (w.heap.size + 1) 2 _)
    obtain ⟨WF, hWF⟩ : ∃ WF, WF = (((uF.setCell ⟨w.heap.size + 1, 0, none⟩ (.string ⟨#[]⟩)).setCell ⟨w.heap.size + 1, 1, none⟩ (.string ⟨#[]⟩)).setCell ⟨w.heap.size + 1, 2, none⟩ (.string ⟨#[]⟩)) := ⟨_, rfl⟩
    have u2 : WF.heap[w.heap.size + 1]? = some (.cells #[.string ⟨#[]⟩, .string ⟨#[]⟩, .string ⟨#[]⟩] 34 (0, 0)) := by rw [hWF, s2]; simp
    have uB : Below w.heap.size w WF := by rw [hWF]; exact (HAL.out.trans (HBF.out.mono HAL.out.size)).grown gA (HAL.out.trans (HBF.out.mono HAL.out.size)).size (fun b hb => by cases hb; omega)
    have R0 := zh (show WF.cell? ⟨w.heap.size + 1, 0, none⟩ = some (.string ⟨#[]⟩) from cell_of_row _ _ 0 _ _ _ u2)
    have R1 := zh (show WF.cell? ⟨w.heap.size + 1, 1, none⟩ = some (.string ⟨#[]⟩) from cell_of_row _ _ 1 _ _ _ u2)
    have R2 := zh (show WF.cell? ⟨w.heap.size + 1, 2, none⟩ = some (.string ⟨#[]⟩) from cell_of_row _ _ 2 _ _ _ u2)
    have HWF := zh hWF; have UB := zh uB
    clear rr s0 s1 s2 gA hWF u2 uB
    go_wp2
    rw [← HWF.out]
    refine bodyPost_ret (v := .tuple #[.agg #[.string ⟨#[]⟩, .string ⟨#[]⟩, .string ⟨#[]⟩], .bool false]) ?_ rfl ⟨by rw [HN.out]; rfl, UB.out⟩
    simp [results, Tryz.results162, go_sem, R0.out, R1.out, R2.out]
   ·have hk1 : ((k : Int) == -1) = false := by simp
    have HF := zh hf
    have hok := ((hk.2.2 _ hcm).below (HAL.out.trans (HBF.out.mono HAL.out.size))).2.2.1
    dsimp only at hm hok
    obtain ⟨a, rfl, -, m0, m1, m2, m3, m4, m5⟩ := me_at hok.2 hm
    obtain ⟨e0, e1, e2, e3, e4, e5, e6⟩ := cl_cells HU.out
    dsimp only at e0 e1 e2 e3 e4 e5 e6
    have hkl : (k : Int) < (cms.length : Int) := by have := (List.getElem?_eq_some_iff.1 hm).1; omega
    have hlm : (cms.length : Int) ≤ 40 := by have := (hg.2 _ hcm).1.2.2.1; dsimp only at this; omega
    have HMA := zh (hmay m uF)
    dsimp only [meC] at HMA
    have HDR := zh (show ∀ b, may m = b → declR may x.cs L s d = if b = true then some cnm else none from fun b hb => by unfold declR; rw [hf]; dsimp only; rw [hm]; dsimp only; rw [hb])
    clear hf hok hm hcm
    cases hmm : may m with
    | false =>
     rw [hmm] at HMA
     have HN := zh (show declR may x.cs L s d = none from by rw [HDR.out _ hmm]; rfl)
     go_wp2_with fail
     refine HMA.out.mono ?_
     rintro e u9 ⟨rfl, hb9⟩
     have hB9 := HBF.out.trans (hb9.mono HBF.out.size)
     clear m0 m1 m2 m3 m4 m5 e0 e1 e2 e3 e4 e5 e6 HMA
     have rr := (hB9.block _ (blk_lt HRB.out)).trans HRB.out
     have q0 : u9.cell? ⟨w.heap.size + 1, 0, none⟩ = some (.string ⟨#[]⟩) := cell_of_row _ _ 0 _ _ _ rr
     have qf0 := frozen_of_row _ _ 0 _ _ rr
     have q1 : u9.cell? ⟨w.heap.size + 1, 1, none⟩ = some (.string ⟨#[]⟩) := cell_of_row _ _ 1 _ _ _ rr
     have qf1 := frozen_of_row _ _ 1 _ _ rr
     have q2 : u9.cell? ⟨w.heap.size + 1, 2, none⟩ = some (.string ⟨#[]⟩) := cell_of_row _ _ 2 _ _ _ rr
     have qf2 := frozen_of_row _ _ 2 _ _ rr
     have s0 := heap_setCell_same _ (w.heap.size + 1) 0 _ _ (.string ⟨#[]⟩) rr
     have s1 := heap_setCell_same _ (w.heap.size + 1) 1 _ _ (.string ⟨#[]⟩) s0
     have s2 := heap_setCell_same _ (w.heap.size + 1) 2 _ _ (.string ⟨#[]⟩) s1
     have gA : u9.grownBy (((u9.setCell ⟨w.heap.size + 1, 0, none⟩ (.string ⟨#[]⟩)).setCell ⟨w.heap.size + 1, 1, none⟩ (.string ⟨#[]⟩)).setCell ⟨w.heap.size + 1, 2, none⟩ (.string ⟨#[]⟩)) (some (w.heap.size + 1)) := gb_trans (gb_trans (gb_set _ (w.heap.size + 1) 0 _) (gb_set _ (w.heap.size + 1) 1 _)) (gb_set _ (w.heap.size + 1) 2 _)
     obtain ⟨WF, hWF⟩ : ∃ WF, WF = (((u9.setCell ⟨w.heap.size + 1, 0, none⟩ (.string ⟨#[]⟩)).setCell ⟨w.heap.size + 1, 1, none⟩ (.string ⟨#[]⟩)).setCell ⟨w.heap.size + 1, 2, none⟩ (.string ⟨#[]⟩)) := ⟨_, rfl⟩
     have u2 : WF.heap[w.heap.size + 1]? = some (.cells #[.string ⟨#[]⟩, .string ⟨#[]⟩, .string ⟨#[]⟩] 34 (0, 0)) := by rw [hWF, s2]; simp
     have uB : Below w.heap.size w WF := by rw [hWF]; exact (HAL.out.trans (hB9.mono HAL.out.size)).grown gA (HAL.out.trans (hB9.mono HAL.out.size)).size (fun b hb => by cases hb; omega)
     have R0 := zh (show WF.cell? ⟨w.heap.size + 1, 0, none⟩ = some (.string ⟨#[]⟩) from cell_of_row _ _ 0 _ _ _ u2)
     have R1 := zh (show WF.cell? ⟨w.heap.size + 1, 1, none⟩ = some (.string ⟨#[]⟩) from cell_of_row _ _ 1 _ _ _ u2)
     have R2 := zh (show WF.cell? ⟨w.heap.size + 1, 2, none⟩ = some (.string ⟨#[]⟩) from cell_of_row _ _ 2 _ _ _ u2)
     have HWF := zh hWF; have UB := zh uB
     clear rr s0 s1 s2 gA hWF u2 uB
     clear hb9 hB9
     go_wp2
     rw [← HWF.out]
     refine bodyPost_ret (v := .tuple #[.agg #[.string ⟨#[]⟩, .string ⟨#[]⟩, .string ⟨#[]⟩], .bool false]) ?_ rfl ⟨by rw [HN.out]; rfl, UB.out⟩
     simp [results, Tryz.results162, go_sem, R0.out, R1.out, R2.out]
    | true =>
     rw [hmm] at HMA
     have HN := zh (show declR may x.cs L s d = some cnm from by rw [HDR.out _ hmm]; rfl)
     go_wp2_with fail
     refine HMA.out.mono ?_
     rintro e u9 ⟨rfl, hb9⟩
     have hB9 := HBF.out.trans (hb9.mono HBF.out.size)
     clear m0 m1 m2 m3 m4 m5 e0 e1 e2 e3 e4 e5 e6 HMA
     have rr := (hB9.block _ (blk_lt HRB.out)).trans HRB.out
     have q0 : u9.cell? ⟨w.heap.size + 1, 0, none⟩ = some (.string ⟨#[]⟩) := cell_of_row _ _ 0 _ _ _ rr
     have qf0 := frozen_of_row _ _ 0 _ _ rr
     have q1 : u9.cell? ⟨w.heap.size + 1, 1, none⟩ = some (.string ⟨#[]⟩) := cell_of_row _ _ 1 _ _ _ rr
     have qf1 := frozen_of_row _ _ 1 _ _ rr
     have q2 : u9.cell? ⟨w.heap.size + 1, 2, none⟩ = some (.string ⟨#[]⟩) := cell_of_row _ _ 2 _ _ _ rr
     have qf2 := frozen_of_row _ _ 2 _ _ rr
     have s0 := heap_setCell_same _ (w.heap.size + 1) 0 _ _ (.string ⟨cnm.toArray⟩) rr
     have s1 := heap_setCell_same _ (w.heap.size + 1) 1 _ _ (.string ⟨s.toArray⟩) s0
     have s2 := heap_setCell_same _ (w.heap.size + 1) 2 _ _ (.string ⟨d.toArray⟩) s1
     have gA : u9.grownBy (((u9.setCell ⟨w.heap.size + 1, 0, none⟩ (.string ⟨cnm.toArray⟩)).setCell ⟨w.heap.size + 1, 1, none⟩ (.string ⟨s.toArray⟩)).setCell ⟨w.heap.size + 1, 2, none⟩ (.string ⟨d.toArray⟩)) (some (w.heap.size + 1)) := gb_trans (gb_trans (gb_set _ (w.heap.size + 1) 0 _) (gb_set _ (w.heap.size + 1) 1 _)) (gb_set _ (w.heap.size + 1) 2 _)
     obtain ⟨WF, hWF⟩ : ∃ WF, WF = (((u9.setCell ⟨w.heap.size + 1, 0, none⟩ (.string ⟨cnm.toArray⟩)).setCell ⟨w.heap.size + 1, 1, none⟩ (.string ⟨s.toArray⟩)).setCell ⟨w.heap.size + 1, 2, none⟩ (.string ⟨d.toArray⟩)) := ⟨_, rfl⟩
     have u2 : WF.heap[w.heap.size + 1]? = some (.cells #[.string ⟨cnm.toArray⟩, .string ⟨s.toArray⟩, .string ⟨d.toArray⟩] 34 (0, 0)) := by rw [hWF, s2]; simp
     have uB : Below w.heap.size w WF := by rw [hWF]; exact (HAL.out.trans (hB9.mono HAL.out.size)).grown gA (HAL.out.trans (hB9.mono HAL.out.size)).size (fun b hb => by cases hb; omega)
     have R0 := zh (show WF.cell? ⟨w.heap.size + 1, 0, none⟩ = some (.string ⟨cnm.toArray⟩) from cell_of_row _ _ 0 _ _ _ u2)
     have R1 := zh (show WF.cell? ⟨w.heap.size + 1, 1, none⟩ = some (.string ⟨s.toArray⟩) from cell_of_row _ _ 1 _ _ _ u2)
     have R2 := zh (show WF.cell? ⟨w.heap.size + 1, 2, none⟩ = some (.string ⟨d.toArray⟩) from cell_of_row _ _ 2 _ _ _ u2)
     have HWF := zh hWF; have UB := zh uB
     clear rr s0 s1 s2 gA hWF u2 uB
     obtain ⟨e0, -⟩ := cl_cells ((hb9.block _ (blk_lt HU.out)).trans HU.out)
     dsimp only at e0
     clear hb9 hB9
     go_wp2
     rw [← HWF.out]
     refine bodyPost_ret (v := .tuple #[.agg #[.string ⟨cnm.toArray⟩, .string ⟨s.toArray⟩, .string ⟨d.toArray⟩], .bool true]) ?_ rfl ⟨by rw [HN.out]; rfl, UB.out⟩
     simp [results, Tryz.results162, go_sem, R0.out, R1.out, R2.out]
  ·go_simp
   obtain ⟨u3, hn⟩ : ∃ v, v = u1.alloc (.cells #[.string ⟨#[]⟩, .string ⟨#[]⟩, .bool false, .bool false, .slice none 0 0, .slice none 0 0, .slice none 0 0] 159) := ⟨_, rfl⟩
   have hb : Below W.heap.size W u3 := by rw [hn]; exact HB1.out.alloc HB1.out.size _
   have hz : u3.heap[u1.heap.size]? = some (.cells #[.string ⟨#[]⟩, .string ⟨#[]⟩, .bool false, .bool false, .slice none 0 0, .slice none 0 0, .slice none 0 0] 159 (0, 0)) := by rw [hn]; exact heap_alloc_new _ _
   have hbb : Below u1.heap.size u1 u3 := by rw [hn]; exact (Below.refl _ _).alloc (Nat.le_refl _) _
   have HB3 := zh hb; have HZ := zh hz; have HBB := zh hbb; have HNN := zh hn; have HGE := zh HB1.out.size
   clear hb hz hbb hn
   rw [← HNN.out]
   refine hK.out _ _ (HS.out _ HB3.out) (fun hHeld => ?_)
   clear hK K
   try simp only [puts]
   refine rdy 5 rfl (fun K hK => ?_)
   go_simp
   have hg3 : u3.cell? ⟨g, 0, none⟩ = some (.string ⟨s.toArray⟩) := (HBB.out.cell (World.block_lt_of_cell? _ _ HG1.out)).trans HG1.out
   have hh3 : u3.cell? ⟨h, 0, none⟩ = some (.string ⟨d.toArray⟩) := (HBB.out.cell (World.block_lt_of_cell? _ _ HH1.out)).trans HH1.out
   refine (HFI.out _ g h (HAL.out.trans (HB3.out.mono HAL.out.size)) hg3 hh3).mono ?_
   rintro e u2 ⟨rfl, hb⟩
   have hb2 : Below W.heap.size W u2 := HB3.out.trans (hb.mono HB3.out.size)
   have HB2 := zh hb2
   have HSB := zh (show Below u3.heap.size u3 u2 from hb)
   clear hb hb2
   go_wp2_with fail
   refine hK.out _ _ (HS.out _ HB2.out) (fun hHeld => ?_)
   clear hK K
   try simp only [puts]
   clear hg3 hh3
   have hS2 := HS.out _ HB2.out
   refine tkp 6 rfl ?_
   refine tkp 7 rfl ?_
   refine tkp 8 rfl ?_
   clear hS2
   have hz9 : u2.heap[u1.heap.size]? = some (.cells #[.string ⟨#[]⟩, .string ⟨#[]⟩, .bool false, .bool false, .slice none 0 0, .slice none 0 0, .slice none 0 0] 159 (0, 0)) := (HSB.out.block _ (blk_lt HZ.out)).trans HZ.out
   have hB9 : Below W.heap.size W u2 := HB2.out
   have hge : W.heap.size ≤ u1.heap.size := by have := HAL.out.size; first | omega | (have := hB9.size; omega) | exact HGE.out
   have tq : u2.there u1.heap.size 0 7 := there_new hz9
   have hst := sets_new (cs := clC ⟨cnm, csu, cfc, cab, cis, cA1, cc1, cfs, cA2, cc2, cms, cA3, cc3⟩) rfl hz9
   have hgr := sets_grown u2 u1.heap.size 0 (clC ⟨cnm, csu, cfc, cab, cis, cA1, cc1, cfs, cA2, cc2, cms, cA3, cc3⟩)
   obtain ⟨uF, huF⟩ : ∃ v, v = u2.setCells u1.heap.size 0 (clC ⟨cnm, csu, cfc, cab, cis, cA1, cc1, cfs, cA2, cc2, cms, cA3, cc3⟩) := ⟨_, rfl⟩
   have hBF : Below W.heap.size W uF := by rw [huF]; exact hB9.grown hgr hB9.size (fun k hk => by cases hk; exact hge)
   have HU := zh (show uF.heap[u1.heap.size]? = some (.cells (clC ⟨cnm, csu, cfc, cab, cis, cA1, cc1, cfs, cA2, cc2, cms, cA3, cc3⟩).toArray 159 (0, 0)) from by rw [huF]; exact hst)
   have HBF := zh hBF
   have HUF := zh huF
   refine tst 10 u1.heap.size 0 (clC ⟨cnm, csu, cfc, cab, cis, cA1, cc1, cfs, cA2, cc2, cms, cA3, cc3⟩) rfl rfl rfl rfl tq size_clx (one_clx _) (by rw [← huF]; exact HS.out _ hBF) (fun _ => ?_)
   clear hz9 hB9 hge tq hst hgr hBF huF
   rw [← HUF.out]
   try simp only [puts]
   have hSF := HS.out _ HBF.out
   refine tkp 11 rfl ?_
   refine wpAnyH_done (by kernel_rfl) ?_ _
   clear hSF
   rcases HCS.out with ⟨hn, hcl, rfl⟩ | ⟨k, m, rfl, hf, hcm, hm⟩
   ·have HN := zh (show declR may x.cs L s d = none from by unfold declR; rw [hn])
    clear hn hcl
    have rr := (HBF.out.block _ (blk_lt HRB.out)).trans HRB.out
    have q0 : uF.cell? ⟨w.heap.size + 1, 0, none⟩ = some (.string ⟨#[]⟩) := cell_of_row _ _ 0 _ _ _ rr
    have qf0 := frozen_of_row _ _ 0 _ _ rr
    have q1 : uF.cell? ⟨w.heap.size + 1, 1, none⟩ = some (.string ⟨#[]⟩) := cell_of_row _ _ 1 _ _ _ rr
    have qf1 := frozen_of_row _ _ 1 _ _ rr
    have q2 : uF.cell? ⟨w.heap.size + 1, 2, none⟩ = some (.string ⟨#[]⟩) := cell_of_row _ _ 2 _ _ _ rr
    have qf2 := frozen_of_row _ _ 2 _ _ rr
    have s0 := heap_setCell_same _ (w.heap.size + 1) 0 _ _ (.string ⟨#[]⟩) rr
    have s1 := heap_setCell_same _ (w.heap.size + 1) 1 _ _ (.string ⟨#[]⟩) s0
    have s2 := heap_setCell_same _ (w.heap.size + 1) 2 _ _ (.string ⟨#[]⟩) s1
    have gA : uF.grownBy (((uF.setCell ⟨w.heap.size + 1, 0, none⟩ (.string ⟨#[]⟩)).setCell ⟨w.heap.size + 1, 1, none⟩ (.string ⟨#[]⟩)).setCell ⟨w.heap.size + 1, 2, none⟩ (.string ⟨#[]⟩)) (some (w.heap.size + 1)) := gb_trans (gb_trans (gb_set _ (w.heap.size + 1) 0 _) (gb_set _ (w.heap.size + 1) 1 _)) (gb_set _ (w.heap.size + 1) 2 _)
    obtain ⟨WF, hWF⟩ : ∃ WF, WF = (((uF.setCell ⟨w.heap.size + 1, 0, none⟩ (.string ⟨#[]⟩)).setCell ⟨w.heap.size + 1, 1, none⟩ (.string ⟨#[]⟩)).setCell ⟨w.heap.size + 1, 2, none⟩ (.string ⟨#[]⟩)) := ⟨_, rfl⟩
    have u2 : WF.heap[w.heap.size + 1]? = some (.cells #[.string ⟨#[]⟩, .string ⟨#[]⟩, .string ⟨#[]⟩] 34 (0, 0)) := by rw [hWF, s2]; simp
    have uB : Below w.heap.size w WF := by rw [hWF]; exact (HAL.out.trans (HBF.out.mono HAL.out.size)).grown gA (HAL.out.trans (HBF.out.mono HAL.out.size)).size (fun b hb => by cases hb; omega)
    have R0 := zh (show WF.cell? ⟨w.heap.size + 1, 0, none⟩ = some (.string ⟨#[]⟩) from cell_of_row _ _ 0 _ _ _ u2)
    have R1 := zh (show WF.cell? ⟨w.heap.size + 1, 1, none⟩ = some (.string ⟨#[]⟩) from cell_of_row _ _ 1 _ _ _ u2)
    have R2 := zh (show WF.cell? ⟨w.heap.size + 1, 2, none⟩ = some (.string ⟨#[]⟩) from cell_of_row _ _ 2 _ _ _ u2)
    have HWF := zh hWF; have UB := zh uB
    clear rr s0 s1 s2 gA hWF u2 uB
    go_wp2
    rw [← HWF.out]
    refine bodyPost_ret (v := .tuple #[.agg #[.string ⟨#[]⟩, .string ⟨#[]⟩, .string ⟨#[]⟩], .bool false]) ?_ rfl ⟨by rw [HN.out]; rfl, UB.out⟩
    simp [results, Tryz.results162, go_sem, R0.out, R1.out, R2.out]
   ·have hk1 : ((k : Int) == -1) = false := by simp
    have HF := zh hf
    have hok := ((hk.2.2 _ hcm).below (HAL.out.trans (HBF.out.mono HAL.out.size))).2.2.1
    dsimp only at hm hok
    obtain ⟨a, rfl, -, m0, m1, m2, m3, m4, m5⟩ := me_at hok.2 hm
    obtain ⟨e0, e1, e2, e3, e4, e5, e6⟩ := cl_cells HU.out
    dsimp only at e0 e1 e2 e3 e4 e5 e6
    have hkl : (k : Int) < (cms.length : Int) := by have := (List.getElem?_eq_some_iff.1 hm).1; omega
    have hlm : (cms.length : Int) ≤ 40 := by have := (hg.2 _ hcm).1.2.2.1; dsimp only at this; omega
    have HMA := zh (hmay m uF)
    dsimp only [meC] at HMA
    have HDR := zh (show ∀ b, may m = b → declR may x.cs L s d = if b = true then some cnm else none from fun b hb => by unfold declR; rw [hf]; dsimp only; rw [hm]; dsimp only; rw [hb])
    clear hf hok hm hcm
    cases hmm : may m with
    | false =>
     rw [hmm] at HMA
     have HN := zh (show declR may x.cs L s d = none from by rw [HDR.out _ hmm]; rfl)
     go_wp2_with fail
     refine HMA.out.mono ?_
     rintro e u9 ⟨rfl, hb9⟩
     have hB9 := HBF.out.trans (hb9.mono HBF.out.size)
     clear m0 m1 m2 m3 m4 m5 e0 e1 e2 e3 e4 e5 e6 HMA
     have rr := (hB9.block _ (blk_lt HRB.out)).trans HRB.out
     have q0 : u9.cell? ⟨w.heap.size + 1, 0, none⟩ = some (.string ⟨#[]⟩) := cell_of_row _ _ 0 _ _ _ rr
     have qf0 := frozen_of_row _ _ 0 _ _ rr
     have q1 : u9.cell? ⟨w.heap.size + 1, 1, none⟩ = some (.string ⟨#[]⟩) := cell_of_row _ _ 1 _ _ _ rr
     have qf1 := frozen_of_row _ _ 1 _ _ rr
     have q2 : u9.cell? ⟨w.heap.size + 1, 2, none⟩ = some (.string ⟨#[]⟩) := cell_of_row _ _ 2 _ _ _ rr
     have qf2 := frozen_of_row _ _ 2 _ _ rr
     have s0 := heap_setCell_same _ (w.heap.size + 1) 0 _ _ (.string ⟨#[]⟩) rr
     have s1 := heap_setCell_same _ (w.heap.size + 1) 1 _ _ (.string ⟨#[]⟩) s0
     have s2 := heap_setCell_same _ (w.heap.size + 1) 2 _ _ (.string ⟨#[]⟩) s1
     have gA : u9.grownBy (((u9.setCell ⟨w.heap.size + 1, 0, none⟩ (.string ⟨#[]⟩)).setCell ⟨w.heap.size + 1, 1, none⟩ (.string ⟨#[]⟩)).setCell ⟨w.heap.size + 1, 2, none⟩ (.string ⟨#[]⟩)) (some (w.heap.size + 1)) := gb_trans (gb_trans (gb_set _ (w.heap.size + 1) 0 _) (gb_set _ (w.heap.size + 1) 1 _)) (gb_set _ (w.heap.size + 1) 2 _)
     obtain ⟨WF, hWF⟩ : ∃ WF, WF = (((u9.setCell ⟨w.heap.size + 1, 0, none⟩ (.string ⟨#[]⟩)).setCell ⟨w.heap.size + 1, 1, none⟩ (.string ⟨#[]⟩)).setCell ⟨w.heap.size + 1, 2, none⟩ (.string ⟨#[]⟩)) := ⟨_, rfl⟩
     have u2 : WF.heap[w.heap.size + 1]? = some (.cells #[.string ⟨#[]⟩, .string ⟨#[]⟩, .string ⟨#[]⟩] 34 (0, 0)) := by rw [hWF, s2]; simp
     have uB : Below w.heap.size w WF := by rw [hWF]; exact (HAL.out.trans (hB9.mono HAL.out.size)).grown gA (HAL.out.trans (hB9.mono HAL.out.size)).size (fun b hb => by cases hb; omega)
     have R0 := zh (show WF.cell? ⟨w.heap.size + 1, 0, none⟩ = some (.string ⟨#[]⟩) from cell_of_row _ _ 0 _ _ _ u2)
     have R1 := zh (show WF.cell? ⟨w.heap.size + 1, 1, none⟩ = some (.string ⟨#[]⟩) from cell_of_row _ _ 1 _ _ _ u2)
     have R2 := zh (show WF.cell? ⟨w.heap.size + 1, 2, none⟩ = some (.string ⟨#[]⟩) from cell_of_row _ _ 2 _ _ _ u2)
     have HWF := zh hWF; have UB := zh uB
     clear rr s0 s1 s2 gA hWF u2 uB
     clear hb9 hB9
     go_wp2
     rw [← HWF.out]
     refine bodyPost_ret (v := .tuple #[.agg #[.string ⟨#[]⟩, .string ⟨#[]⟩, .string ⟨#[]⟩], .bool false]) ?_ rfl ⟨by rw [HN.out]; rfl, UB.out⟩
     simp [results, Tryz.results162, go_sem, R0.out, R1.out, R2.out]
    | true =>
     rw [hmm] at HMA
     have HN := zh (show declR may x.cs L s d = some cnm from by rw [HDR.out _ hmm]; rfl)
     go_wp2_with fail
     refine HMA.out.mono ?_
     rintro e u9 ⟨rfl, hb9⟩
     have hB9 := HBF.out.trans (hb9.mono HBF.out.size)
     clear m0 m1 m2 m3 m4 m5 e0 e1 e2 e3 e4 e5 e6 HMA
     have rr := (hB9.block _ (blk_lt HRB.out)).trans HRB.out
     have q0 : u9.cell? ⟨w.heap.size + 1, 0, none⟩ = some (.string ⟨#[]⟩) := cell_of_row _ _ 0 _ _ _ rr
     have qf0 := frozen_of_row _ _ 0 _ _ rr
     have q1 : u9.cell? ⟨w.heap.size + 1, 1, none⟩ = some (.string ⟨#[]⟩) := cell_of_row _ _ 1 _ _ _ rr
     have qf1 := frozen_of_row _ _ 1 _ _ rr
     have q2 : u9.cell? ⟨w.heap.size + 1, 2, none⟩ = some (.string ⟨#[]⟩) := cell_of_row _ _ 2 _ _ _ rr
     have qf2 := frozen_of_row _ _ 2 _ _ rr
     have s0 := heap_setCell_same _ (w.heap.size + 1) 0 _ _ (.string ⟨cnm.toArray⟩) rr
     have s1 := heap_setCell_same _ (w.heap.size + 1) 1 _ _ (.string ⟨s.toArray⟩) s0
     have s2 := heap_setCell_same _ (w.heap.size + 1) 2 _ _ (.string ⟨d.toArray⟩) s1
     have gA : u9.grownBy (((u9.setCell ⟨w.heap.size + 1, 0, none⟩ (.string ⟨cnm.toArray⟩)).setCell ⟨w.heap.size + 1, 1, none⟩ (.string ⟨s.toArray⟩)).setCell ⟨w.heap.size + 1, 2, none⟩ (.string ⟨d.toArray⟩)) (some (w.heap.size + 1)) := gb_trans (gb_trans (gb_set _ (w.heap.size + 1) 0 _) (gb_set _ (w.heap.size + 1) 1 _)) (gb_set _ (w.heap.size + 1) 2 _)
     obtain ⟨WF, hWF⟩ : ∃ WF, WF = (((u9.setCell ⟨w.heap.size + 1, 0, none⟩ (.string ⟨cnm.toArray⟩)).setCell ⟨w.heap.size + 1, 1, none⟩ (.string ⟨s.toArray⟩)).setCell ⟨w.heap.size + 1, 2, none⟩ (.string ⟨d.toArray⟩)) := ⟨_, rfl⟩
     have u2 : WF.heap[w.heap.size + 1]? = some (.cells #[.string ⟨cnm.toArray⟩, .string ⟨s.toArray⟩, .string ⟨d.toArray⟩] 34 (0, 0)) := by rw [hWF, s2]; simp
     have uB : Below w.heap.size w WF := by rw [hWF]; exact (HAL.out.trans (hB9.mono HAL.out.size)).grown gA (HAL.out.trans (hB9.mono HAL.out.size)).size (fun b hb => by cases hb; omega)
     have R0 := zh (show WF.cell? ⟨w.heap.size + 1, 0, none⟩ = some (.string ⟨cnm.toArray⟩) from cell_of_row _ _ 0 _ _ _ u2)
     have R1 := zh (show WF.cell? ⟨w.heap.size + 1, 1, none⟩ = some (.string ⟨s.toArray⟩) from cell_of_row _ _ 1 _ _ _ u2)
     have R2 := zh (show WF.cell? ⟨w.heap.size + 1, 2, none⟩ = some (.string ⟨d.toArray⟩) from cell_of_row _ _ 2 _ _ _ u2)
     have HWF := zh hWF; have UB := zh uB
     clear rr s0 s1 s2 gA hWF u2 uB
     obtain ⟨e0, -⟩ := cl_cells ((hb9.block _ (blk_lt HU.out)).trans HU.out)
     dsimp only at e0
     clear hb9 hB9
     go_wp2
     rw [← HWF.out]
     refine bodyPost_ret (v := .tuple #[.agg #[.string ⟨cnm.toArray⟩, .string ⟨s.toArray⟩, .string ⟨d.toArray⟩], .bool true]) ?_ rfl ⟨by rw [HN.out]; rfl, UB.out⟩
     simp [results, Tryz.results162, go_sem, R0.out, R1.out, R2.out]
 ·go_simp
  obtain ⟨u3, hn⟩ : ∃ v, v = wd0.alloc (.cells #[.string ⟨#[]⟩, .string ⟨#[]⟩, .bool false, .bool false, .slice none 0 0, .slice none 0 0, .slice none 0 0] 159) := ⟨_, rfl⟩
  have hb : Below W.heap.size W u3 := by rw [hn]; exact HBD.out.alloc HBD.out.size _
  have hz : u3.heap[wd0.heap.size]? = some (.cells #[.string ⟨#[]⟩, .string ⟨#[]⟩, .bool false, .bool false, .slice none 0 0, .slice none 0 0, .slice none 0 0] 159 (0, 0)) := by rw [hn]; exact heap_alloc_new _ _
  have hbb : Below wd0.heap.size wd0 u3 := by rw [hn]; exact (Below.refl _ _).alloc (Nat.le_refl _) _
  have HB3 := zh hb; have HZ := zh hz; have HBB := zh hbb; have HNN := zh hn; have HGE := zh HBD.out.size
  clear hb hz hbb hn
  rw [← HNN.out]
  refine hK.out _ _ (HS.out _ HB3.out) (fun hHeld => ?_)
  clear hK K
  try simp only [puts]
  refine rdy 4 rfl (fun K hK => ?_)
  go_simp
  refine (method_b s d _).mono ?_
  rintro e u1 ⟨⟨g, h, rfl, hg1, hh1⟩, hb⟩
  have hb1 : Below W.heap.size W u1 := HB3.out.trans ((show Below u3.heap.size u3 u1 from ⟨hb.os, hb.tape, hb.output, hb.size, hb.block⟩).mono HB3.out.size)
  have HSA := zh (show Below u3.heap.size u3 u1 from ⟨hb.os, hb.tape, hb.output, hb.size, hb.block⟩); have HB1 := zh hb1; have HG1 := zh hg1; have HH1 := zh hh1
  clear hb hb1 hg1 hh1
  go_wp2_with fail
  refine hK.out _ _ (HS.out _ HB1.out) (fun hHeld => ?_)
  clear hK K
  try simp only [puts]
  refine rdy 5 rfl (fun K hK => ?_)
  go_simp
  refine (HFI.out _ g h (HAL.out.trans (HB1.out.mono HAL.out.size)) HG1.out HH1.out).mono ?_
  rintro e u2 ⟨rfl, hb⟩
  have hb2 : Below W.heap.size W u2 := HB1.out.trans (hb.mono HB1.out.size)
  have HB2 := zh hb2
  have HSB := zh (show Below u1.heap.size u1 u2 from hb)
  clear hb hb2
  go_wp2_with fail
  refine hK.out _ _ (HS.out _ HB2.out) (fun hHeld => ?_)
  clear hK K
  try simp only [puts]
  have hS2 := HS.out _ HB2.out
  refine tkp 6 rfl ?_
  refine tkp 7 rfl ?_
  refine tkp 8 rfl ?_
  clear hS2
  have hz9 : u2.heap[wd0.heap.size]? = some (.cells #[.string ⟨#[]⟩, .string ⟨#[]⟩, .bool false, .bool false, .slice none 0 0, .slice none 0 0, .slice none 0 0] 159 (0, 0)) := (HSB.out.block _ (Nat.lt_of_lt_of_le (blk_lt HZ.out) HSA.out.size)).trans ((HSA.out.block _ (blk_lt HZ.out)).trans HZ.out)
  have hB9 : Below W.heap.size W u2 := HB2.out
  have hge : W.heap.size ≤ wd0.heap.size := by have := HAL.out.size; first | omega | (have := hB9.size; omega) | exact HGE.out
  have tq : u2.there wd0.heap.size 0 7 := there_new hz9
  have hst := sets_new (cs := clC ⟨cnm, csu, cfc, cab, cis, cA1, cc1, cfs, cA2, cc2, cms, cA3, cc3⟩) rfl hz9
  have hgr := sets_grown u2 wd0.heap.size 0 (clC ⟨cnm, csu, cfc, cab, cis, cA1, cc1, cfs, cA2, cc2, cms, cA3, cc3⟩)
  obtain ⟨uF, huF⟩ : ∃ v, v = u2.setCells wd0.heap.size 0 (clC ⟨cnm, csu, cfc, cab, cis, cA1, cc1, cfs, cA2, cc2, cms, cA3, cc3⟩) := ⟨_, rfl⟩
  have hBF : Below W.heap.size W uF := by rw [huF]; exact hB9.grown hgr hB9.size (fun k hk => by cases hk; exact hge)
  have HU := zh (show uF.heap[wd0.heap.size]? = some (.cells (clC ⟨cnm, csu, cfc, cab, cis, cA1, cc1, cfs, cA2, cc2, cms, cA3, cc3⟩).toArray 159 (0, 0)) from by rw [huF]; exact hst)
  have HBF := zh hBF
  have HUF := zh huF
  refine tst 10 wd0.heap.size 0 (clC ⟨cnm, csu, cfc, cab, cis, cA1, cc1, cfs, cA2, cc2, cms, cA3, cc3⟩) rfl rfl rfl rfl tq size_clx (one_clx _) (by rw [← huF]; exact HS.out _ hBF) (fun _ => ?_)
  clear hz9 hB9 hge tq hst hgr hBF huF
  rw [← HUF.out]
  try simp only [puts]
  have hSF := HS.out _ HBF.out
  refine tkp 11 rfl ?_
  refine wpAnyH_done (by kernel_rfl) ?_ _
  clear hSF
  rcases HCS.out with ⟨hn, hcl, rfl⟩ | ⟨k, m, rfl, hf, hcm, hm⟩
  ·have HN := zh (show declR may x.cs L s d = none from by unfold declR; rw [hn])
   clear hn hcl
   have rr := (HBF.out.block _ (blk_lt HRB.out)).trans HRB.out
   have q0 : uF.cell? ⟨w.heap.size + 1, 0, none⟩ = some (.string ⟨#[]⟩) := cell_of_row _ _ 0 _ _ _ rr
   have qf0 := frozen_of_row _ _ 0 _ _ rr
   have q1 : uF.cell? ⟨w.heap.size + 1, 1, none⟩ = some (.string ⟨#[]⟩) := cell_of_row _ _ 1 _ _ _ rr
   have qf1 := frozen_of_row _ _ 1 _ _ rr
   have q2 : uF.cell? ⟨w.heap.size + 1, 2, none⟩ = some (.string ⟨#[]⟩) := cell_of_row _ _ 2 _ _ _ rr
   have qf2 := frozen_of_row _ _ 2 _ _ rr
   have s0 := heap_setCell_same _ (w.heap.size + 1) 0 _ _ (.string ⟨#[]⟩) rr
   have s1 := heap_setCell_same _ (w.heap.size + 1) 1 _ _ (.string ⟨#[]⟩) s0
   have s2 := heap_setCell_same _ (w.heap.size + 1) 2 _ _ (.string ⟨#[]⟩) s1
   have gA : uF.grownBy (((uF.setCell ⟨w.heap.size + 1, 0, none⟩ (.string ⟨#[]⟩)).setCell ⟨w.heap.size + 1, 1, none⟩ (.string ⟨#[]⟩)).setCell ⟨w.heap.size + 1, 2, none⟩ (.string ⟨#[]⟩)) (some (w.heap.size + 1)) := gb_trans (gb_trans (gb_set _ (w.heap.size + 1) 0 _) (gb_set _ (w.heap.size + 1) 1 _)) (gb_set _ (w.heap.size + 1) 2 _)
   obtain ⟨WF, hWF⟩ : ∃ WF, WF = (((uF.setCell ⟨w.heap.size + 1, 0, none⟩ (.string ⟨#[]⟩)).setCell ⟨w.heap.size + 1, 1, none⟩ (.string ⟨#[]⟩)).setCell ⟨w.heap.size + 1, 2, none⟩ (.string ⟨#[]⟩)) := ⟨_, rfl⟩
   have u2 : WF.heap[w.heap.size + 1]? = some (.cells #[.string ⟨#[]⟩, .string ⟨#[]⟩, .string ⟨#[]⟩] 34 (0, 0)) := by rw [hWF, s2]; simp
   have uB : Below w.heap.size w WF := by rw [hWF]; exact (HAL.out.trans (HBF.out.mono HAL.out.size)).grown gA (HAL.out.trans (HBF.out.mono HAL.out.size)).size (fun b hb => by cases hb; omega)
   have R0 := zh (show WF.cell? ⟨w.heap.size + 1, 0, none⟩ = some (.string ⟨#[]⟩) from cell_of_row _ _ 0 _ _ _ u2)
   have R1 := zh (show WF.cell? ⟨w.heap.size + 1, 1, none⟩ = some (.string ⟨#[]⟩) from cell_of_row _ _ 1 _ _ _ u2)
   have R2 := zh (show WF.cell? ⟨w.heap.size + 1, 2, none⟩ = some (.string ⟨#[]⟩) from cell_of_row _ _ 2 _ _ _ u2)
   have HWF := zh hWF; have UB := zh uB
   clear rr s0 s1 s2 gA hWF u2 uB
   go_wp2
   rw [← HWF.out]
   refine bodyPost_ret (v := .tuple #[.agg #[.string ⟨#[]⟩, .string ⟨#[]⟩, .string ⟨#[]⟩], .bool false]) ?_ rfl ⟨by rw [HN.out]; rfl, UB.out⟩
   simp [results, Tryz.results162, go_sem, R0.out, R1.out, R2.out]
  ·have hk1 : ((k : Int) == -1) = false := by simp
   have HF := zh hf
   have hok := ((hk.2.2 _ hcm).below (HAL.out.trans (HBF.out.mono HAL.out.size))).2.2.1
   dsimp only at hm hok
   obtain ⟨a, rfl, -, m0, m1, m2, m3, m4, m5⟩ := me_at hok.2 hm
   obtain ⟨e0, e1, e2, e3, e4, e5, e6⟩ := cl_cells HU.out
   dsimp only at e0 e1 e2 e3 e4 e5 e6
   have hkl : (k : Int) < (cms.length : Int) := by have := (List.getElem?_eq_some_iff.1 hm).1; omega
   have hlm : (cms.length : Int) ≤ 40 := by have := (hg.2 _ hcm).1.2.2.1; dsimp only at this; omega
   have HMA := zh (hmay m uF)
   dsimp only [meC] at HMA
   have HDR := zh (show ∀ b, may m = b → declR may x.cs L s d = if b = true then some cnm else none from fun b hb => by unfold declR; rw [hf]; dsimp only; rw [hm]; dsimp only; rw [hb])
   clear hf hok hm hcm
   cases hmm : may m with
   | false =>
    rw [hmm] at HMA
    have HN := zh (show declR may x.cs L s d = none from by rw [HDR.out _ hmm]; rfl)
    go_wp2_with fail
    refine HMA.out.mono ?_
    rintro e u9 ⟨rfl, hb9⟩
    have hB9 := HBF.out.trans (hb9.mono HBF.out.size)
    clear m0 m1 m2 m3 m4 m5 e0 e1 e2 e3 e4 e5 e6 HMA
    have rr := (hB9.block _ (blk_lt HRB.out)).trans HRB.out
    have q0 : u9.cell? ⟨w.heap.size + 1, 0, none⟩ = some (.string ⟨#[]⟩) := cell_of_row _ _ 0 _ _ _ rr
    have qf0 := frozen_of_row _ _ 0 _ _ rr
    have q1 : u9.cell? ⟨w.heap.size + 1, 1, none⟩ = some (.string ⟨#[]⟩) := cell_of_row _ _ 1 _ _ _ rr
    have qf1 := frozen_of_row _ _ 1 _ _ rr
    have q2 : u9.cell? ⟨w.heap.size + 1, 2, none⟩ = some (.string ⟨#[]⟩) := cell_of_row _ _ 2 _ _ _ rr
    have qf2 := frozen_of_row _ _ 2 _ _ rr
    have s0 := heap_setCell_same _ (w.heap.size + 1) 0 _ _ (.string ⟨#[]⟩) rr
    have s1 := heap_setCell_same _ (w.heap.size + 1) 1 _ _ (.string ⟨#[]⟩) s0
    have s2 := heap_setCell_same _ (w.heap.size + 1) 2 _ _ (.string ⟨#[]⟩) s1
    have gA : u9.grownBy (((u9.setCell ⟨w.heap.size + 1, 0, none⟩ (.string ⟨#[]⟩)).setCell ⟨w.heap.size + 1, 1, none⟩ (.string ⟨#[]⟩)).setCell ⟨w.heap.size + 1, 2, none⟩ (.string ⟨#[]⟩)) (some (w.heap.size + 1)) := gb_trans (gb_trans (gb_set _ (w.heap.size + 1) 0 _) (gb_set _ (w.heap.size + 1) 1 _)) (gb_set _ (w.heap.size + 1) 2 _)
    obtain ⟨WF, hWF⟩ : ∃ WF, WF = (((u9.setCell ⟨w.heap.size + 1, 0, none⟩ (.string ⟨#[]⟩)).setCell ⟨w.heap.size + 1, 1, none⟩ (.string ⟨#[]⟩)).setCell ⟨w.heap.size + 1, 2, none⟩ (.string ⟨#[]⟩)) := ⟨_, rfl⟩
    have u2 : WF.heap[w.heap.size + 1]? = some (.cells #[.string ⟨#[]⟩, .string ⟨#[]⟩, .string ⟨#[]⟩] 34 (0, 0)) := by rw [hWF, s2]; simp
    have uB : Below w.heap.size w WF := by rw [hWF]; exact (HAL.out.trans (hB9.mono HAL.out.size)).grown gA (HAL.out.trans (hB9.mono HAL.out.size)).size (fun b hb => by cases hb; omega)
    have R0 := zh (show WF.cell? ⟨w.heap.size + 1, 0, none⟩ = some (.string ⟨#[]⟩) from cell_of_row _ _ 0 _ _ _ u2)
    have R1 := zh (show WF.cell? ⟨w.heap.size + 1, 1, none⟩ = some (.string ⟨#[]⟩) from cell_of_row _ _ 1 _ _ _ u2)
    have R2 := zh (show WF.cell? ⟨w.heap.size + 1, 2, none⟩ = some (.string ⟨#[]⟩) from cell_of_row _ _ 2 _ _ _ u2)
    have HWF := zh hWF; have UB := zh uB
    clear rr s0 s1 s2 gA hWF u2 uB
    clear hb9 hB9
    go_wp2
    rw [← HWF.out]
    refine bodyPost_ret (v := .tuple #[.agg #[.string ⟨#[]⟩, .string ⟨#[]⟩, .string ⟨#[]⟩], .bool false]) ?_ rfl ⟨by rw [HN.out]; rfl, UB.out⟩
    simp [results, Tryz.results162, go_sem, R0.out, R1.out, R2.out]
   | true =>
    rw [hmm] at HMA
    have HN := zh (show declR may x.cs L s d = some cnm from by rw [HDR.out _ hmm]; rfl)
    go_wp2_with fail
    refine HMA.out.mono ?_
    rintro e u9 ⟨rfl, hb9⟩
    have hB9 := HBF.out.trans (hb9.mono HBF.out.size)
    clear m0 m1 m2 m3 m4 m5 e0 e1 e2 e3 e4 e5 e6 HMA
    have rr := (hB9.block _ (blk_lt HRB.out)).trans HRB.out
    have q0 : u9.cell? ⟨w.heap.size + 1, 0, none⟩ = some (.string ⟨#[]⟩) := cell_of_row _ _ 0 _ _ _ rr
    have qf0 := frozen_of_row _ _ 0 _ _ rr
    have q1 : u9.cell? ⟨w.heap.size + 1, 1, none⟩ = some (.string ⟨#[]⟩) := cell_of_row _ _ 1 _ _ _ rr
    have qf1 := frozen_of_row _ _ 1 _ _ rr
    have q2 : u9.cell? ⟨w.heap.size + 1, 2, none⟩ = some (.string ⟨#[]⟩) := cell_of_row _ _ 2 _ _ _ rr
    have qf2 := frozen_of_row _ _ 2 _ _ rr
    have s0 := heap_setCell_same _ (w.heap.size + 1) 0 _ _ (.string ⟨cnm.toArray⟩) rr
    have s1 := heap_setCell_same _ (w.heap.size + 1) 1 _ _ (.string ⟨s.toArray⟩) s0
    have s2 := heap_setCell_same _ (w.heap.size + 1) 2 _ _ (.string ⟨d.toArray⟩) s1
    have gA : u9.grownBy (((u9.setCell ⟨w.heap.size + 1, 0, none⟩ (.string ⟨cnm.toArray⟩)).setCell ⟨w.heap.size + 1, 1, none⟩ (.string ⟨s.toArray⟩)).setCell ⟨w.heap.size + 1, 2, none⟩ (.string ⟨d.toArray⟩)) (some (w.heap.size + 1)) := gb_trans (gb_trans (gb_set _ (w.heap.size + 1) 0 _) (gb_set _ (w.heap.size + 1) 1 _)) (gb_set _ (w.heap.size + 1) 2 _)
    obtain ⟨WF, hWF⟩ : ∃ WF, WF = (((u9.setCell ⟨w.heap.size + 1, 0, none⟩ (.string ⟨cnm.toArray⟩)).setCell ⟨w.heap.size + 1, 1, none⟩ (.string ⟨s.toArray⟩)).setCell ⟨w.heap.size + 1, 2, none⟩ (.string ⟨d.toArray⟩)) := ⟨_, rfl⟩
    have u2 : WF.heap[w.heap.size + 1]? = some (.cells #[.string ⟨cnm.toArray⟩, .string ⟨s.toArray⟩, .string ⟨d.toArray⟩] 34 (0, 0)) := by rw [hWF, s2]; simp
    have uB : Below w.heap.size w WF := by rw [hWF]; exact (HAL.out.trans (hB9.mono HAL.out.size)).grown gA (HAL.out.trans (hB9.mono HAL.out.size)).size (fun b hb => by cases hb; omega)
    have R0 := zh (show WF.cell? ⟨w.heap.size + 1, 0, none⟩ = some (.string ⟨cnm.toArray⟩) from cell_of_row _ _ 0 _ _ _ u2)
    have R1 := zh (show WF.cell? ⟨w.heap.size + 1, 1, none⟩ = some (.string ⟨s.toArray⟩) from cell_of_row _ _ 1 _ _ _ u2)
    have R2 := zh (show WF.cell? ⟨w.heap.size + 1, 2, none⟩ = some (.string ⟨d.toArray⟩) from cell_of_row _ _ 2 _ _ _ u2)
    have HWF := zh hWF; have UB := zh uB
    clear rr s0 s1 s2 gA hWF u2 uB
    obtain ⟨e0, -⟩ := cl_cells ((hb9.block _ (blk_lt HU.out)).trans HU.out)
    dsimp only at e0
    clear hb9 hB9
    go_wp2
    rw [← HWF.out]
    refine bodyPost_ret (v := .tuple #[.agg #[.string ⟨cnm.toArray⟩, .string ⟨s.toArray⟩, .string ⟨d.toArray⟩], .bool true]) ?_ rfl ⟨by rw [HN.out]; rfl, UB.out⟩
    simp [results, Tryz.results162, go_sem, R0.out, R1.out, R2.out]
end Go.Proofs.YtjejmlpjifhmmaaGreatDoor.find

/- NormRg -/
import Derived.Test.YtgociheckcpjkaaGreatDoorNormRe
namespace Go.Proofs.YtgociheckcpjkaaGreatDoor.prg
open Go.RowKit
open words kindp opp op kind word keep sorts
set_option maxRecDepth 100000
set_option maxHeartbeats 8000000
set_option linter.all false
def SorR (x : PrM) (v : World) (e : Ending) (w' : World) : Prop := (∃ y, e = .returned (.agg (prC y).toArray) ∧ pP y = sortPP (pP x) ∧ OwP v.heap.size w' y) ∧ Below v.heap.size v w'
theorem srt_r (r : PrM) (v : World) (hk : PrOk v r) (hg : GrP r) : Calls Tryz.prog 9 #[.agg (prC r).toArray] v (SorR r v) := by
 obtain ⟨P, hP⟩ : ∃ P, P = r.cs.map pC := ⟨_, rfl⟩
 have HCP := hh (fun w (h : Below v.heap.size v w) => rclone r w (hk.below h) hg)
 have HSC := hh (fun (c : ClM) (u : World) (hc : ClOk u c) (h : pC c ∈ P) => sc_r c u hc (by
  rw [hP] at h
  obtain ⟨c', hc', e⟩ := List.mem_map.1 h
  exact grC_of e.symm (hg.2 c' hc')))
 have HFW := hh (show P.length ≤ 70 from by rw [hP, List.length_map]; exact hg.1.1)
 have HFX := hh (fun z (h : pP z = pP r) => show z.cs.map pC = P from by rw [hP]; exact congrArg PrP.cs h)
 have HPX := hh (fun z (h : pP z = pP r) (Q : List ClM) (hQ : Q.map pC = P.map sortCP) w' (ho : OwP (v.heap.size + 2) w' { z with cs := sortS ltC Q }) (k : Below v.heap.size v w') (cc : Array Value) (e : cc = (prC { z with cs := sortS ltC Q }).toArray) => show SorR r v (.returned (.agg cc)) w' from ⟨⟨{ z with cs := sortS ltC Q }, by rw [e], by
   have e1 : (sortS ltC Q).map pC = (sortS ltCP (r.cs.map pC)).map sortCP := by
    rw [map_sort (f := pC) (lt := ltC) (lt' := ltCP) (fun _ _ => rfl), hQ, hP, ← map_sort (f := sortCP) (lt := ltCP) (lt' := ltCP) (fun _ _ => rfl)]
   have e2 : z.ns = r.ns := congrArg PrP.ns h
   have e3 : z.ec = r.ec := congrArg PrP.ec h
   have e4 : z.en = r.en := congrArg PrP.en h
   have e5 : z.ed = r.ed := congrArg PrP.ed h
   unfold pP sortPP
   dsimp only
   rw [e1, e2, e3, e4, e5], ho.mono (by omega)⟩, k⟩)
 clear hk hg hP
 unfold prC
 try dsimp only
 obtain ⟨V, hV⟩ : ∃ V, V = (v.alloc (.cells #[.slice r.A1 r.cs.length r.c1, .slice r.A2 r.ns.length r.c2, .string ⟨r.ec.toArray⟩, .string ⟨r.en.toArray⟩, .string ⟨r.ed.toArray⟩] 27)).alloc (.cells #[.slice none 0 0, .slice none 0 0, .string ⟨#[]⟩, .string ⟨#[]⟩, .string ⟨#[]⟩] 27) := ⟨_, rfl⟩
 have hal : Below v.heap.size v V := by rw [hV]; exact ((Below.refl _ v).alloc (Nat.le_refl _) _).alloc (by simp) _
 have hbi : V.heap[v.heap.size]? = some (.cells #[.slice r.A1 r.cs.length r.c1, .slice r.A2 r.ns.length r.c2, .string ⟨r.ec.toArray⟩, .string ⟨r.en.toArray⟩, .string ⟨r.ed.toArray⟩] 27 (0, 0)) := by rw [hV]; exact (Below.heap_alloc _ _ _ (by simp)).trans (heap_alloc_new v _)
 have hbj : V.heap[v.heap.size + 1]? = some (.cells #[.slice none 0 0, .slice none 0 0, .string ⟨#[]⟩, .string ⟨#[]⟩, .string ⟨#[]⟩] 27 (0, 0)) := by
  rw [hV]
  have := heap_alloc_new (v.alloc (.cells #[.slice r.A1 r.cs.length r.c1, .slice r.A2 r.ns.length r.c2, .string ⟨r.ec.toArray⟩, .string ⟨r.en.toArray⟩, .string ⟨r.ed.toArray⟩] 27)) (.cells #[.slice none 0 0, .slice none 0 0, .string ⟨#[]⟩, .string ⟨#[]⟩, .string ⟨#[]⟩] 27)
  rwa [World.size_alloc] at this
 have hvs : V.heap.size = v.heap.size + 2 := by rw [hV]; simp
 have HV := hh hV; have HAL := hh hal; have HVS := hh hvs
 obtain ⟨d0, d1, d2, d3, d4⟩ := c5q hbi
 have HBI := hh hbi; have HBJ := hh hbj
 clear hV hal hbi hbj hvs
 go_enter Tryz.func9, Tryz.ntmps9
 go_wp2_with fail
 try simp only [World.size_alloc]
 rw [← HV.out]
 (try go_wp2_with fail)
 refine (HCP.out V HAL.out).mono ?_
 rintro e v1 ⟨⟨z, rfl, hpz, hoz⟩, hb1⟩
 have hzp := HFX.out z hpz
 have HPZ := hh (HPX.out z hpz)
 have HZP := hh hzp
 obtain ⟨n, hn⟩ : ∃ n, n = z.cs.length := ⟨_, rfl⟩
 have HPN := hh (show P.length = n from by rw [hn, ← hzp, List.length_map])
 have nI : (n : Int) ≤ 70 := by have := HPN.out; have := HFW.out; omega
 have HN0 := hh hn
 have g1 : v.heap.size + 1 < V.heap.size := blk_lt HBJ.out
 obtain ⟨hv, hhv⟩ : ∃ h, h = V.heap.size := ⟨_, rfl⟩
 have hbj1 := (hb1.block _ g1).trans HBJ.out
 obtain ⟨W1, hW1⟩ : ∃ W, W = v1.alloc (.cells #[.slice z.A1 n z.c1, .slice z.A2 z.ns.length z.c2, .string ⟨z.ec.toArray⟩, .string ⟨z.en.toArray⟩, .string ⟨z.ed.toArray⟩] 27) := ⟨_, rfl⟩
 have b1 : Below v1.heap.size v1 W1 := by rw [hW1]; exact (Below.refl _ _).alloc (Nat.le_refl _) _
 have sF : W1.heap[v1.heap.size]? = some (.cells #[.slice z.A1 n z.c1, .slice z.A2 z.ns.length z.c2, .string ⟨z.ec.toArray⟩, .string ⟨z.en.toArray⟩, .string ⟨z.ed.toArray⟩] 27 (0, 0)) := by rw [hW1]; exact heap_alloc_new _ _
 have tF : W1.heap[v.heap.size + 1]? = some (.cells #[.slice none 0 0, .slice none 0 0, .string ⟨#[]⟩, .string ⟨#[]⟩, .string ⟨#[]⟩] 27 (0, 0)) := (b1.block _ (blk_lt hbj1)).trans hbj1
 have HI0 := hh (show InvP v hv v1.heap.size #[.slice z.A1 n z.c1, .slice z.A2 z.ns.length z.c2, .string ⟨z.ec.toArray⟩, .string ⟨z.en.toArray⟩, .string ⟨z.ed.toArray⟩] #[.slice none 0 0, .slice none 0 0, .string ⟨#[]⟩, .string ⟨#[]⟩, .string ⟨#[]⟩] W1 z from ⟨sF, tF, by rw [hhv]; exact hoz.below b1, HAL.out.trans ((hb1.mono HAL.out.size).trans (b1.mono (Nat.le_trans HAL.out.size hb1.size))), by rw [hhv]; exact Nat.le_trans hb1.size b1.size⟩)
 have HHV := hh (show v.heap.size + 1 < hv from by rw [hhv]; exact g1)
 have o1 := hoz.1
 rw [← hn, ← hhv] at o1
 have HOA_cs := hh o1
 have hh2 : hv = v.heap.size + 2 := by rw [hhv]; exact HVS.out
 rw [← hh2] at HPZ
 have HW1 := hh hW1
 unfold prC
 try dsimp only
 rw [← hn]
 clear hbj1 hb1 b1 hW1 sF tF d0 d1 d2 d3 d4 hoz hpz hzp hn hhv hh2 g1 o1
 go_wp2_with fail
 rw [← HW1.out]
 (try go_wp2)
 go_loopw [4] (fun i wr => ∃ t : Nat, i = .int .i64 (t : Int) ∧ t ≤ n ∧ ∃ L : List ClM, L.length = n ∧ L.map pC = doneL P t ∧ InvP v hv v1.heap.size #[.slice z.A1 n z.c1, .slice z.A2 z.ns.length z.c2, .string ⟨z.ec.toArray⟩, .string ⟨z.en.toArray⟩, .string ⟨z.ed.toArray⟩] #[.slice none 0 0, .slice none 0 0, .string ⟨#[]⟩, .string ⟨#[]⟩, .string ⟨#[]⟩] wr { z with cs := L }) (fun i _ => n - (intOf i).toNat)
 case atStart => exact ⟨0, rfl, Nat.zero_le _, z.cs, HN0.out.symm, by rw [doneL_zero]; exact HZP.out, HI0.out⟩
 case round =>
  obtain ⟨t, rfl, htn, L, hLn, hLP, hinv⟩ := hrel
  obtain ⟨wa, hwa⟩ : ∃ u, u = wr := ⟨_, rfl⟩
  subst hwa
  have HIQ := hh hinv
  have bx : wa.cell? ⟨v1.heap.size, 0, none⟩ = some (.slice z.A1 n z.c1) := cell_of_row _ _ 0 _ _ _ hinv.box
  by_cases hlt : t < n
  ·have hltI : (t : Int) < (n : Int) := by omega
   have hltL : t < L.length := by rw [hLn]; exact hlt
   obtain ⟨y, hy⟩ : ∃ y, L[t]? = some y := ⟨L[t]'hltL, List.getElem?_eq_getElem _⟩
   obtain ⟨g, hA, hgv, -⟩ := keep.own_some HOA_cs.out (by omega)
   have hyP : P[t]? = some (pC y) := by
    rw [← doneL_at (by rw [HPN.out]; exact hlt), ← hLP, List.getElem?_map, hy]; rfl
   have hyr : pC y ∈ P := List.mem_of_getElem? hyP
   have HGA := hh hA; have HGV := hh hgv
   have hrow : Row 35 7 clC hv g n z.c1 wa L := hinv.row hA hLn
   obtain ⟨-, cur, hg0⟩ := own_blk hrow.own
   have HGL := hh (blk_lt hg0)
   have HSY := hh (fun u (hu : Below wa.heap.size wa u) => HSC.out y u ((hinv.own.2.2 y (List.mem_of_getElem? hy)).below hu).ok hyr)
   have HRO := hh (fun u (hu : InvP v hv v1.heap.size #[.slice z.A1 n z.c1, .slice z.A2 z.ns.length z.c2, .string ⟨z.ec.toArray⟩, .string ⟨z.en.toArray⟩, .string ⟨z.ed.toArray⟩] #[.slice none 0 0, .slice none 0 0, .string ⟨#[]⟩, .string ⟨#[]⟩, .string ⟨#[]⟩] u { z with cs := L }) => (hu.row HGA.out hLn).range len_cl hy)
   have HTH := hh (fun u (hu : InvP v hv v1.heap.size #[.slice z.A1 n z.c1, .slice z.A2 z.ns.length z.c2, .string ⟨z.ec.toArray⟩, .string ⟨z.en.toArray⟩, .string ⟨z.ed.toArray⟩] #[.slice none 0 0, .slice none 0 0, .string ⟨#[]⟩, .string ⟨#[]⟩, .string ⟨#[]⟩] u { z with cs := L }) => (hu.row HGA.out hLn).there len_cl hlt)
   have HB := hh (fun u {L : List ClM} (hu : InvP v hv v1.heap.size #[.slice z.A1 n z.c1, .slice z.A2 z.ns.length z.c2, .string ⟨z.ec.toArray⟩, .string ⟨z.en.toArray⟩, .string ⟨z.ed.toArray⟩] #[.slice none 0 0, .slice none 0 0, .string ⟨#[]⟩, .string ⟨#[]⟩, .string ⟨#[]⟩] u { z with cs := L }) => show u.cell? ⟨v1.heap.size, 0, none⟩ = some (.slice (some ⟨g, 0, none⟩) n z.c1) from by rw [← HGA.out]; exact cell_of_row _ _ 0 _ _ _ hu.box)
   have HST := hh (fun u c' (hu : InvP v hv v1.heap.size #[.slice z.A1 n z.c1, .slice z.A2 z.ns.length z.c2, .string ⟨z.ec.toArray⟩, .string ⟨z.en.toArray⟩, .string ⟨z.ed.toArray⟩] #[.slice none 0 0, .slice none 0 0, .string ⟨#[]⟩, .string ⟨#[]⟩, .string ⟨#[]⟩] u { z with cs := L }) (hc : OwC hv u (sortC c')) => st_cs hu HGA.out HGV.out HHV.out (y := sortC c') (q := t) (by rw [hLn]; exact hlt) hc)
   have HEN := hh (fun c' (hc : pC c' = pC y) => show (L.set t (sortC c')).length = n ∧ (L.set t (sortC c')).map pC = doneL P (t + 1) from ⟨by rw [List.length_set]; exact hLn, by rw [List.map_set, hLP, pC_sort, hc]; exact doneL_next hyP⟩)
   have HT := hh hlt
   have HCY := hh (fun u (hu : InvP v hv v1.heap.size #[.slice z.A1 n z.c1, .slice z.A2 z.ns.length z.c2, .string ⟨z.ec.toArray⟩, .string ⟨z.en.toArray⟩, .string ⟨z.ed.toArray⟩] #[.slice none 0 0, .slice none 0 0, .string ⟨#[]⟩, .string ⟨#[]⟩, .string ⟨#[]⟩] u { z with cs := L }) => show u.cell? ⟨g, t * 7, none⟩ = some (.string ⟨y.nm.toArray⟩) ∧ u.cell? ⟨g, t * 7 + 1, none⟩ = some (.string ⟨y.su.toArray⟩) ∧ u.cell? ⟨g, t * 7 + 2, none⟩ = some (.bool y.fc) ∧ u.cell? ⟨g, t * 7 + 3, none⟩ = some (.bool y.ab) ∧ u.cell? ⟨g, t * 7 + 4, none⟩ = some (.slice y.A1 y.is.length y.c1) ∧ u.cell? ⟨g, t * 7 + 5, none⟩ = some (.slice y.A2 y.fs.length y.c2) ∧ u.cell? ⟨g, t * 7 + 6, none⟩ = some (.slice y.A3 y.ms.length y.c3) from by
    have r := HRO.out u hu
    exact ⟨by simpa using r 0 _ rfl, r 1 _ rfl, r 2 _ rfl, r 3 _ rfl, r 4 _ rfl, r 5 _ rfl, r 6 _ rfl⟩)
   obtain ⟨g0, g1, g2, g3, g4, g5, g6⟩ := HCY.out _ hinv.drew
   have b0 := HB.out _ hinv
   have hs1 : IntKind.i64.wrap ((t : Int) + 1) = ((t + 1 : Nat) : Int) := by rw [show (t : Int) + 1 = ((t + 1 : Nat) : Int) by omega]; exact IntWalk.i64_in _ (by omega)
   have hp0 : (0 : Int) ≤ (t : Int) := by omega
   dsimp only [clC] at HSY
   clear bx hy hyP hyr hA hgv hrow hg0 hLn hLP htn hlt hltL HRO
   go_wp2_with fail
   refine wp_region_held_drew (S := (fun w' => w'.cell? ⟨v1.heap.size, 0, none⟩ = some (.slice (some ⟨g, 0, none⟩) n z.c1))) (by kernel_rfl) ?_ (fun hHeld => ?_)
   ·exact HB.out _ HIQ.out.drew
   clear b0
   refine tkp 0 rfl ?_
   refine tkp 1 rfl ?_
   refine tkp 2 rfl ?_
   refine tkp 3 rfl ?_
   refine tkp 4 rfl ?_
   refine tkp 5 rfl ?_
   refine tkp 6 rfl ?_
   refine rdy 7 rfl (fun K hK => ?_)
   go_simp
   refine hK.out _ _ (HB.out _ HIQ.out.drew) (fun hHeld => ?_)
   clear hK K g0 g1 g2 g3 g4 g5 g6
   try simp only [puts]
   refine rdy 8 rfl (fun K hK => ?_)
   go_simp
   refine (HSY.out wa.drew ⟨rfl, rfl, rfl, Nat.le_refl _, fun _ _ => rfl⟩).mono ?_
   rintro e v2 ⟨⟨c', rfl, hpc, hoc⟩, hb⟩
   have hbq : Below wa.heap.size wa v2 := (by first | exact hb | exact ⟨hb.os, hb.tape, hb.output, hb.size, hb.block⟩)
   have HI1 := hh (HIQ.out.below hbq)
   obtain ⟨cy, ecy⟩ : ∃ c, c = clC (sortC c') := ⟨_, rfl⟩
   have ocy : ∀ v ∈ cy, v.oneCell' = true := by rw [ecy]; exact one_cl _
   have lcy : cy.length = 7 := by rw [ecy]; rfl
   have hcy : (Tryz.prog.info? 35).map (·.size) = some cy.length := by rw [size_cl, lcy]
   have HFI := hh (show InvP v hv v1.heap.size #[.slice z.A1 n z.c1, .slice z.A2 z.ns.length z.c2, .string ⟨z.ec.toArray⟩, .string ⟨z.en.toArray⟩, .string ⟨z.ed.toArray⟩] #[.slice none 0 0, .slice none 0 0, .string ⟨#[]⟩, .string ⟨#[]⟩, .string ⟨#[]⟩] (v2.setCells g (t * 7) cy) { z with cs := L.set t (sortC c') } from by rw [ecy]; exact HST.out v2 c' HI1.out (OwC.mono hoc (by have := HIQ.out.siz; first | exact this | simpa using this)))
   have HEC := hh (HEN.out c' hpc)
   have HSB := hh (HB.out _ HFI.out)
   rw [show (#[.string ⟨(sortC c').nm.toArray⟩, .string ⟨(sortC c').su.toArray⟩, .bool (sortC c').fc, .bool (sortC c').ab, .slice (sortC c').A1 (sortC c').is.length (sortC c').c1, .slice (sortC c').A2 (sortC c').fs.length (sortC c').c2, .slice (sortC c').A3 (sortC c').ms.length (sortC c').c3] : Array Value) = cy.toArray from by rw [ecy]; rfl]
   clear ecy hpc hoc hb hbq HSY
   go_wp2_with fail
   refine hK.out _ _ (HB.out _ HI1.out) (fun hHeld => ?_)
   clear hK K
   try simp only [puts]
   refine tkp 9 rfl ?_
   have tq := HTH.out _ HI1.out
   refine tst 10 g (t * 7) cy rfl rfl rfl rfl (by rw [lcy]; exact tq) hcy ocy HSB.out (fun _ => ?_)
   try simp only [puts]
   refine wpAnyH_done (by kernel_rfl) ?_ _
   clear tq
   go_wp2
   go_roundw
   case rel => exact ⟨t + 1, by go_num, HT.out, L.set t (sortC c'), HEC.out.1, HEC.out.2, by first | exact HFI.out | exact HFI.out.drew⟩
   case measure => have := HT.out; simp [intOf]; omega
  ·have hltI : ¬ (t : Int) < (n : Int) := by omega
   obtain ⟨Q, hQ⟩ : ∃ Q, Q = L := ⟨_, rfl⟩
   subst hQ
   have HN_cs := hh (show n = Q.length from hLn.symm)
   have HQP := hh (show Q.map pC = P.map sortCP from by rw [hLP, doneL_all (by rw [HPN.out]; omega)])
   have HI2 := hh hinv
   have HNBX := hh (fun g (hA : z.A1 = some ⟨g, 0, none⟩) => show v1.heap.size ≠ g from by
    obtain ⟨-, cur, hg0⟩ := own_blk (hinv.row hA rfl).own
    exact ne_box hg0 hinv.box (by decide))
   clear hLn hLP htn hlt hinv
   go_wp2
   clear bx
   go_loopw [5] (fun i wr => ∃ t : Nat, i = .int .i64 (t : Int) ∧ 0 < t ∧ (t ≤ n ∨ t = 1) ∧ InvP v hv v1.heap.size #[.slice z.A1 n z.c1, .slice z.A2 z.ns.length z.c2, .string ⟨z.ec.toArray⟩, .string ⟨z.en.toArray⟩, .string ⟨z.ed.toArray⟩] #[.slice none 0 0, .slice none 0 0, .string ⟨#[]⟩, .string ⟨#[]⟩, .string ⟨#[]⟩] wr { z with cs := sortS ltC (Q.take t) ++ Q.drop t }) (fun i _ => n - (intOf i).toNat)
   case atStart => exact ⟨1, rfl, by omega, .inr rfl, by rw [one_sort]; exact HI2.out⟩
   case round =>
    obtain ⟨t, rfl, ht, htx, hinv⟩ := hrel
    obtain ⟨wa, hwa⟩ : ∃ u, u = wr := ⟨_, rfl⟩
    subst hwa
    have HV1 := hh hinv
    have bx : wa.cell? ⟨v1.heap.size, 0, none⟩ = some (.slice z.A1 n z.c1) := cell_of_row _ _ 0 _ _ _ hinv.box
    by_cases hlt : t < n
    ·have hltI : (t : Int) < (n : Int) := by omega
     have htl : t < Q.length := by rw [← HN_cs.out]; exact hlt
     obtain ⟨x, hx⟩ : ∃ x, Q[t]? = some x := ⟨Q[t]'htl, List.getElem?_eq_getElem _⟩
     obtain ⟨S, hS⟩ : ∃ S, S = sortS ltC (Q.take t) := ⟨_, rfl⟩
     have hSl : S.length = t := by rw [hS, sortS_length, List.length_take]; omega
     have HSA := hh (show Asc ltC S from by rw [hS]; exact asc_sortS swo_cl _)
     obtain ⟨R, hR⟩ : ∃ R, R = Q.drop (t + 1) := ⟨_, rfl⟩
     have hd : Q.drop t = x :: R := by rw [hR, List.drop_eq_getElem_cons htl]; congr 1; exact (List.getElem?_eq_some_iff.1 hx).2
     have HND := hh (show ∀ S1 S2, S = S1 ++ S2 → (∀ y ∈ S1, ltC x y = false) → (∀ y ∈ S2, ltC x y = true) → sortS ltC (Q.take (t + 1)) ++ Q.drop (t + 1) = S1 ++ x :: (S2 ++ R) from fun S1 S2 h1 h2 h3 => by
      rw [List.take_add_one, hx, Option.toList_some, sortS_snoc, ← hS, h1, ins_at S1 S2 x h2 h3, hR]; simp only [List.append_assoc, List.cons_append])
     have HLN := hh (show S.length + 1 + R.length = n from by rw [hSl, hR, List.length_drop, HN_cs.out]; omega)
     have HSM := hh (show ∀ m, m ∈ S ∨ m = x ∨ m ∈ R → m ∈ Q from fun m hm => by
      rcases hm with h | rfl | h
      ·rw [hS] at h; exact List.mem_of_mem_take ((mem_sortS _).1 h)
      ·exact List.mem_of_getElem? hx
      ·rw [hR] at h; exact List.mem_of_mem_drop h)
     have HT := hh (show t < n ∧ 0 < t ∧ t + 1 ≤ n from ⟨hlt, ht, hlt⟩)
     have HIN := hh (show InvP v hv v1.heap.size #[.slice z.A1 n z.c1, .slice z.A2 z.ns.length z.c2, .string ⟨z.ec.toArray⟩, .string ⟨z.en.toArray⟩, .string ⟨z.ed.toArray⟩] #[.slice none 0 0, .slice none 0 0, .string ⟨#[]⟩, .string ⟨#[]⟩, .string ⟨#[]⟩] wa { z with cs := S ++ x :: ([] ++ R) } from by rw [List.nil_append, ← hd, hS]; exact hinv)
     have HST := hh hSl
     have hs1 : IntKind.i64.wrap ((t : Int) + 1) = ((t + 1 : Nat) : Int) := by rw [show (t : Int) + 1 = ((t + 1 : Nat) : Int) by omega]; exact IntWalk.i64_in _ (by omega)
     obtain ⟨g, hA, hgv, -⟩ := keep.own_some HOA_cs.out (by omega)
     have HGA := hh hA; have HGV := hh hgv; have HNB := hh (HNBX.out g hA)
     clear hx hS hSl hR hd htl hlt ht htx hinv hA hgv
     go_wp2
     clear bx
     go_loopw [6] (fun i wr => ∃ q : Nat, i = .int .i64 (q : Int) ∧ ∃ S1 S2, S = S1 ++ S2 ∧ q = S1.length ∧ (∀ y ∈ S2, ltC x y = true) ∧ InvP v hv v1.heap.size #[.slice z.A1 n z.c1, .slice z.A2 z.ns.length z.c2, .string ⟨z.ec.toArray⟩, .string ⟨z.en.toArray⟩, .string ⟨z.ed.toArray⟩] #[.slice none 0 0, .slice none 0 0, .string ⟨#[]⟩, .string ⟨#[]⟩, .string ⟨#[]⟩] wr { z with cs := S1 ++ x :: (S2 ++ R) }) (fun i _ => (intOf i).toNat)
     case atStart => exact ⟨t, rfl, S, [], by simp, HST.out.symm, by simp, HIN.out⟩
     case round =>
      obtain ⟨q, rfl, S1, S2, hSS, hq, h2, hinv⟩ := hrel
      obtain ⟨wb, hwb⟩ : ∃ u, u = wr := ⟨_, rfl⟩
      subst hwb
      have HV2 := hh hinv
      have b0 : wb.cell? ⟨v1.heap.size, 0, none⟩ = some (.slice (some ⟨g, 0, none⟩) n z.c1) := by rw [← HGA.out]; exact cell_of_row _ _ 0 _ _ _ hinv.box
      rcases List.eq_nil_or_concat S1 with h0 | ⟨S1', y, h0⟩
      ·have hqi : ¬ (0 : Int) < (q : Int) := by rw [h0] at hq; simp at hq; omega
       have hqd : decide ((0 : Int) < (q : Int)) = false := decide_eq_false hqi
       have hqn : decide (0 < q) = false := decide_eq_false (by omega)
       have HRE := hh (show InvP v hv v1.heap.size #[.slice z.A1 n z.c1, .slice z.A2 z.ns.length z.c2, .string ⟨z.ec.toArray⟩, .string ⟨z.en.toArray⟩, .string ⟨z.ed.toArray⟩] #[.slice none 0 0, .slice none 0 0, .string ⟨#[]⟩, .string ⟨#[]⟩, .string ⟨#[]⟩] wb { z with cs := sortS ltC (Q.take (t + 1)) ++ Q.drop (t + 1) } from by rw [HND.out S1 S2 hSS (by rw [h0]; simp) h2]; exact hinv)
       clear hinv h0 hSS h2 hq
       go_wp2_with fail
       refine wp_region_held_drew (S := (fun _ => True)) (by kernel_rfl) ?_ (fun hHeld => ?_)
       ·exact trivial
       refine tkp 0 rfl ?_
       refine tkp 1 rfl ?_
       refine tkp 2 rfl ?_
       refine tup 3 rfl ?_
       refine tup 4 rfl ?_
       refine tup 5 rfl ?_
       refine tup 6 rfl ?_
       refine tup 7 rfl ?_
       refine tup 8 rfl ?_
       refine tup 9 rfl ?_
       refine tup 10 rfl ?_
       refine tup 11 rfl ?_
       refine tup 12 rfl ?_
       refine tup 13 rfl ?_
       refine tup 14 rfl ?_
       refine tup 15 rfl ?_
       refine tup 16 rfl ?_
       refine tkp 17 rfl ?_
       refine wpAnyH_done (by kernel_rfl) ?_ _
       clear b0
       go_wp2
       go_roundw
       case rel => exact ⟨t + 1, by go_num, by omega, .inl HT.out.2.2, HRE.out.drew⟩
       case measure => have := HT.out; simp [intOf]; omega
      ·rw [List.concat_eq_append] at h0
       subst h0
       obtain ⟨p, hp⟩ : ∃ p, p = S1'.length := ⟨_, rfl⟩
       have hpq : q = p + 1 := by rw [hp]; simp at hq; omega
       have hL : S1' ++ [y] ++ x :: (S2 ++ R) = S1' ++ y :: x :: (S2 ++ R) := by simp
       have hlen : (S1' ++ y :: x :: (S2 ++ R)).length = n := by have := HLN.out; rw [hSS] at this; simp at this ⊢; omega
       rw [hL] at hinv
       have hrow0 := hinv.own.1
       dsimp only at hrow0
       rw [HGA.out, hlen] at hrow0
       have hqn1 : q < n := by rw [← hlen, hpq, hp]; simp
       have hpn1 : p < n := by rw [← hlen, hp]; simp
       have hqi : (0 : Int) < (q : Int) := by omega
       have hqd : decide ((0 : Int) < (q : Int)) = true := decide_eq_true hqi
       have hqn : decide (0 < q) = true := decide_eq_true (by omega)
       have hpl : q < n := by rw [← hlen, hpq, hp]; simp
       have hpn : (p : Int) < (n : Int) := by omega
       have hqN : (q : Int) < (n : Int) := by omega
       have hp0 : (0 : Int) ≤ (p : Int) := by omega
       have hq0 : (0 : Int) ≤ (q : Int) := by omega
       have hsq : IntKind.i64.wrap ((q : Int) - 1) = (p : Int) := by rw [show (q : Int) - 1 = (p : Int) by omega]; exact IntWalk.i64_in _ (by omega)
       have ay : (S1' ++ y :: x :: (S2 ++ R))[p]? = some y := by rw [hp]; exact at_len _ _ _
       have ax : (S1' ++ y :: x :: (S2 ++ R))[q]? = some x := by rw [hpq, hp, List.getElem?_append_right (by omega), Nat.add_sub_cancel_left]; rfl
       have HRE := hh (show ∀ u, InvP v hv v1.heap.size #[.slice z.A1 n z.c1, .slice z.A2 z.ns.length z.c2, .string ⟨z.ec.toArray⟩, .string ⟨z.en.toArray⟩, .string ⟨z.ed.toArray⟩] #[.slice none 0 0, .slice none 0 0, .string ⟨#[]⟩, .string ⟨#[]⟩, .string ⟨#[]⟩] u { z with cs := S1' ++ y :: x :: (S2 ++ R) } → ltC x y = false → InvP v hv v1.heap.size #[.slice z.A1 n z.c1, .slice z.A2 z.ns.length z.c2, .string ⟨z.ec.toArray⟩, .string ⟨z.en.toArray⟩, .string ⟨z.ed.toArray⟩] #[.slice none 0 0, .slice none 0 0, .string ⟨#[]⟩, .string ⟨#[]⟩, .string ⟨#[]⟩] u { z with cs := sortS ltC (Q.take (t + 1)) ++ Q.drop (t + 1) } from fun u hu h => by
        have hA : Asc ltC (S1' ++ [y]) := by have := HSA.out; rw [hSS] at this; exact this.left
        rw [HND.out (S1' ++ [y]) S2 hSS (fun a ha => swo_cl.le (asc_last swo_cl hA a ha) h) h2, hL]
        exact hu)
       have HS2 := hh (show ltC x y = true → S = S1' ++ (y :: S2) ∧ p = S1'.length ∧ ∀ a ∈ y :: S2, ltC x a = true from fun h => ⟨by rw [hSS]; simp, hp, fun a ha => by
        rcases List.mem_cons.1 ha with rfl | ha
        ·exact h
        ·exact h2 a ha⟩)
       have HME := hh (show ∀ m ∈ S1' ++ x :: y :: (S2 ++ R), m ∈ Q from fun m hm => HSM.out m (by
        rw [hSS]
        simp only [List.mem_append, List.mem_cons, List.not_mem_nil, or_false] at hm ⊢
        rcases hm with h | h | h | h | h <;> simp [h]))
       have HPQ := hh hpq
       have HIQ := hh hinv
       have HSW := hh (fun u (hu : InvP v hv v1.heap.size #[.slice z.A1 n z.c1, .slice z.A2 z.ns.length z.c2, .string ⟨z.ec.toArray⟩, .string ⟨z.en.toArray⟩, .string ⟨z.ed.toArray⟩] #[.slice none 0 0, .slice none 0 0, .string ⟨#[]⟩, .string ⟨#[]⟩, .string ⟨#[]⟩] u { z with cs := S1' ++ y :: x :: (S2 ++ R) }) => sw_cs (x := x) (y := y) (p := p) (q := q) (z := z) hu HGA.out HGV.out HHV.out (by rw [hlen]; exact hpn1) (by rw [hlen]; exact hqn1) (by simp) (by simp))
       have HEQ := hh (show ((S1' ++ y :: x :: (S2 ++ R)).set q y).set p x = S1' ++ x :: y :: (S2 ++ R) from by rw [hpq, hp, set_back])
       have HAP := hh (show ((S1' ++ y :: x :: (S2 ++ R)).set q y)[p]? = some y from by rw [List.getElem?_set_ne (by omega)]; exact ay)
       have AX := hh ax; have AY := hh ay; have HLE := hh hlen
       have HB := hh (fun u (hu : InvP v hv v1.heap.size #[.slice z.A1 n z.c1, .slice z.A2 z.ns.length z.c2, .string ⟨z.ec.toArray⟩, .string ⟨z.en.toArray⟩, .string ⟨z.ed.toArray⟩] #[.slice none 0 0, .slice none 0 0, .string ⟨#[]⟩, .string ⟨#[]⟩, .string ⟨#[]⟩] u { z with cs := S1' ++ y :: x :: (S2 ++ R) }) => show u.cell? ⟨v1.heap.size, 0, none⟩ = some (.slice (some ⟨g, 0, none⟩) n z.c1) from by rw [← HGA.out]; exact cell_of_row _ _ 0 _ _ _ hu.box)
       have HCX := hh (fun u (hu : InvP v hv v1.heap.size #[.slice z.A1 n z.c1, .slice z.A2 z.ns.length z.c2, .string ⟨z.ec.toArray⟩, .string ⟨z.en.toArray⟩, .string ⟨z.ed.toArray⟩] #[.slice none 0 0, .slice none 0 0, .string ⟨#[]⟩, .string ⟨#[]⟩, .string ⟨#[]⟩] u { z with cs := S1' ++ y :: x :: (S2 ++ R) }) => show u.cell? ⟨g, q * 7, none⟩ = some (.string ⟨x.nm.toArray⟩) ∧ u.cell? ⟨g, q * 7 + 1, none⟩ = some (.string ⟨x.su.toArray⟩) ∧ u.cell? ⟨g, q * 7 + 2, none⟩ = some (.bool x.fc) ∧ u.cell? ⟨g, q * 7 + 3, none⟩ = some (.bool x.ab) ∧ u.cell? ⟨g, q * 7 + 4, none⟩ = some (.slice x.A1 x.is.length x.c1) ∧ u.cell? ⟨g, q * 7 + 5, none⟩ = some (.slice x.A2 x.fs.length x.c2) ∧ u.cell? ⟨g, q * 7 + 6, none⟩ = some (.slice x.A3 x.ms.length x.c3) from by
        have r := (HSW.out u hu).1.range len_cl AX.out
        exact ⟨by simpa using r 0 _ rfl, r 1 _ rfl, r 2 _ rfl, r 3 _ rfl, r 4 _ rfl, r 5 _ rfl, r 6 _ rfl⟩)
       have HCY := hh (fun u (hu : InvP v hv v1.heap.size #[.slice z.A1 n z.c1, .slice z.A2 z.ns.length z.c2, .string ⟨z.ec.toArray⟩, .string ⟨z.en.toArray⟩, .string ⟨z.ed.toArray⟩] #[.slice none 0 0, .slice none 0 0, .string ⟨#[]⟩, .string ⟨#[]⟩, .string ⟨#[]⟩] u { z with cs := S1' ++ y :: x :: (S2 ++ R) }) => show u.cell? ⟨g, p * 7, none⟩ = some (.string ⟨y.nm.toArray⟩) ∧ u.cell? ⟨g, p * 7 + 1, none⟩ = some (.string ⟨y.su.toArray⟩) ∧ u.cell? ⟨g, p * 7 + 2, none⟩ = some (.bool y.fc) ∧ u.cell? ⟨g, p * 7 + 3, none⟩ = some (.bool y.ab) ∧ u.cell? ⟨g, p * 7 + 4, none⟩ = some (.slice y.A1 y.is.length y.c1) ∧ u.cell? ⟨g, p * 7 + 5, none⟩ = some (.slice y.A2 y.fs.length y.c2) ∧ u.cell? ⟨g, p * 7 + 6, none⟩ = some (.slice y.A3 y.ms.length y.c3) from by
        have r := (HSW.out u hu).1.range len_cl AY.out
        exact ⟨by simpa using r 0 _ rfl, r 1 _ rfl, r 2 _ rfl, r 3 _ rfl, r 4 _ rfl, r 5 _ rfl, r 6 _ rfl⟩)
       have HGL := hh (show g < wb.heap.size from by obtain ⟨-, cur, hc⟩ := own_blk hrow0; exact blk_lt hc)
       obtain ⟨cx, ecx⟩ : ∃ c, c = clC x := ⟨_, rfl⟩
       obtain ⟨cy, ecy⟩ : ∃ c, c = clC y := ⟨_, rfl⟩
       have ocy : ∀ v ∈ cy, v.oneCell' = true := by rw [ecy]; exact one_cl y
       have lcx : cx.length = 7 := by rw [ecx]; rfl
       have lcy : cy.length = 7 := by rw [ecy]; rfl
       have hcx : (Tryz.prog.info? 35).map (·.size) = some cx.length := by rw [size_cl, lcx]
       have hcy : (Tryz.prog.info? 35).map (·.size) = some cy.length := by rw [size_cl, lcy]
       have hu := Tryz.underlying35
       have ECX := hh ecx; have ECY := hh ecy; have HUT := hh hu
       clear hrow0 hSS h2 hq hpq hp hlen hL ax ay ecx ecy hinv hu
       cases hxy : ltC x y with
       | false =>
        have HRF := hh (fun u h => HRE.out u h hxy)
        clear HRE HS2
        have hb1 : Op.bytesLess x.nm y.nm = false := by rw [less_mk]; exact hxy
        go_wp2_with fail
        refine wp_region_held_drew (S := (fun w' => w'.cell? ⟨v1.heap.size, 0, none⟩ = some (.slice (some ⟨g, 0, none⟩) n z.c1) ∧ w'.cell? ⟨g, q * 7, none⟩ = some (.string ⟨x.nm.toArray⟩) ∧ w'.cell? ⟨g, p * 7, none⟩ = some (.string ⟨y.nm.toArray⟩))) (by kernel_rfl) ?_ (fun hHeld => ?_)
        ·exact ⟨HB.out _ HIQ.out.drew, (HCX.out _ HIQ.out).1, (HCY.out _ HIQ.out).1⟩
        refine tkp 0 rfl ?_
        refine tkp 1 rfl ?_
        refine tkp 2 rfl ?_
        refine tkp 3 rfl ?_
        refine tkp 4 rfl ?_
        refine tkp 5 rfl ?_
        refine tkp 6 rfl ?_
        refine tkp 7 rfl ?_
        refine tkp 8 rfl ?_
        refine tkp 9 rfl ?_
        refine tkp 10 rfl ?_
        refine tkp 11 rfl ?_
        refine tkp 12 rfl ?_
        refine tkp 13 rfl ?_
        refine tkp 14 rfl ?_
        refine tkp 15 rfl ?_
        refine tkp 16 rfl ?_
        refine tkp 17 rfl ?_
        refine wpAnyH_done (by kernel_rfl) ?_ _
        clear b0
        go_wp2
        go_roundw
        case rel => exact ⟨t + 1, by go_num, by omega, .inl HT.out.2.2, HRF.out _ HIQ.out.drew⟩
        case measure => have := HT.out; simp [intOf]; omega
       | true =>
        have HS3 := hh (HS2.out hxy)
        clear HRE HS2
        have hb1 : Op.bytesLess x.nm y.nm = true := by rw [less_mk]; exact hxy
        go_wp2_with fail
        refine wp_region_held_drew (S := (fun w' => w'.cell? ⟨v1.heap.size, 0, none⟩ = some (.slice (some ⟨g, 0, none⟩) n z.c1) ∧ w'.cell? ⟨g, q * 7, none⟩ = some (.string ⟨x.nm.toArray⟩) ∧ w'.cell? ⟨g, p * 7, none⟩ = some (.string ⟨y.nm.toArray⟩))) (by kernel_rfl) ?_ (fun hHeld => ?_)
        ·exact ⟨HB.out _ HIQ.out.drew, (HCX.out _ HIQ.out).1, (HCY.out _ HIQ.out).1⟩
        refine tkp 0 rfl ?_
        refine tkp 1 rfl ?_
        refine tkp 2 rfl ?_
        refine tkp 3 rfl ?_
        refine tkp 4 rfl ?_
        refine tkp 5 rfl ?_
        refine tkp 6 rfl ?_
        refine tkp 7 rfl ?_
        refine tkp 8 rfl ?_
        refine tkp 9 rfl ?_
        refine tkp 10 rfl ?_
        refine tkp 11 rfl ?_
        refine tkp 12 rfl ?_
        refine tkp 13 rfl ?_
        refine tkp 14 rfl ?_
        refine tkp 15 rfl ?_
        refine tkp 16 rfl ?_
        refine tkp 17 rfl ?_
        refine wpAnyH_done (by kernel_rfl) ?_ _
        have HI0x := hh HIQ.out
        obtain ⟨x0, x1, x2, x3, x4, x5, x6⟩ := HCX.out _ HI0x.out
        have b1 := HB.out _ HI0x.out
        obtain ⟨wx, hwx⟩ : ∃ u, u = wb.alloc (.cells #[.string ⟨x.nm.toArray⟩, .string ⟨x.su.toArray⟩, .bool x.fc, .bool x.ab, .slice x.A1 x.is.length x.c1, .slice x.A2 x.fs.length x.c2, .slice x.A3 x.ms.length x.c3] 35) := ⟨_, rfl⟩
        have HIX := hh (show InvP v hv v1.heap.size #[.slice z.A1 n z.c1, .slice z.A2 z.ns.length z.c2, .string ⟨z.ec.toArray⟩, .string ⟨z.en.toArray⟩, .string ⟨z.ed.toArray⟩] #[.slice none 0 0, .slice none 0 0, .string ⟨#[]⟩, .string ⟨#[]⟩, .string ⟨#[]⟩] wx { z with cs := S1' ++ y :: x :: (S2 ++ R) } from by rw [hwx]; exact HI0x.out.below ((Below.refl _ _).alloc (Nat.le_refl _) _))
        have hxb0 : wx.heap[wb.heap.size]? = some (.cells #[.string ⟨x.nm.toArray⟩, .string ⟨x.su.toArray⟩, .bool x.fc, .bool x.ab, .slice x.A1 x.is.length x.c1, .slice x.A2 x.fs.length x.c2, .slice x.A3 x.ms.length x.c3] 35 (0, 0)) := by rw [hwx]; exact heap_alloc_new _ _
        have HXB := hh hxb0; have HWX := hh hwx
        have hne0 : wb.heap.size ≠ g := by have := HGL.out; omega
        have HNE := hh hne0
        clear hwx hxb0 hne0
        go_wp2_with fail
        rw [← HWX.out]
        clear x0 x1 x2 x3 x4 x5 x6 b0 b1
        have ry : wx.rangeAt g (p * 7) cy := by rw [ECY.out]; exact (HSW.out _ HIX.out).1.range len_cl AY.out
        have hS9 := HSW.out _ HIX.out
        have tq : wx.there g (q * 7) 7 := hS9.1.there len_cl (by rw [HLE.out]; exact hqn1)
        refine wp_region_held_drew (S := (fun w' => w'.cell? ⟨v1.heap.size, 0, none⟩ = some (.slice (some ⟨g, 0, none⟩) n z.c1) ∧ w'.rangeAt g (p * 7) cy)) (by kernel_rfl) ?_ (fun hHeld => ?_)
        ·exact ⟨HB.out _ HIX.out.drew.drew, ry⟩
        refine tkp 0 rfl ?_
        refine tkp 1 rfl ?_
        refine tkp 2 rfl ?_
        refine tkp 3 rfl ?_
        refine tkp 4 rfl ?_
        refine tkp 5 rfl ?_
        refine tkp 6 rfl ?_
        refine tkp 7 rfl ?_
        refine tld 8 g (p * 7) cy rfl rfl rfl (fun w hS => hS.2) HUT.out hcy ?_
        try simp only [puts]
        refine tkp 9 rfl ?_
        have hbox9 : (wx.drew.drew.setCells g (q * 7) cy).heap[v1.heap.size]? = _ := gb_at (by rw [ECY.out]; exact (HSW.out _ HIX.out.drew.drew).2.1) HIX.out.drew.drew.box HNB.out
        have hcell9 : (wx.drew.drew.setCells g (q * 7) cy).cell? ⟨v1.heap.size, 0, none⟩ = some (.slice (some ⟨g, 0, none⟩) n z.c1) := by rw [← HGA.out]; exact cell_of_row _ _ 0 _ _ _ hbox9
        have hrange9 : (wx.drew.drew.setCells g (q * 7) cy).rangeAt g (p * 7) cy := World.rangeAt_setCells_apart (w := wx.drew.drew) ry _ _ _ (.inr (.inl (by have := HPQ.out; rw [lcy]; omega)))
        refine tst 10 g (q * 7) cy rfl rfl rfl rfl (by rw [lcy]; exact tq) hcy ocy ⟨hcell9, hrange9⟩ (fun _ => ?_)
        try simp only [puts]
        refine wpAnyH_done (by kernel_rfl) ?_ _
        obtain ⟨w9, hw9⟩ : ∃ u, u = wx.drew.drew.setCells g (q * 7) cy := ⟨_, rfl⟩
        have hI := HIX.out.drew.drew
        have hS := HSW.out _ hI
        have hr9 : Row 35 7 clC hv g (S1' ++ y :: x :: (S2 ++ R)).length z.c1 w9 ((S1' ++ y :: x :: (S2 ++ R)).set q y) := by rw [hw9, ECY.out]; exact hS.2.2.1
        have hxb : w9.heap[wb.heap.size]? = some (.cells #[.string ⟨x.nm.toArray⟩, .string ⟨x.su.toArray⟩, .bool x.fc, .bool x.ab, .slice x.A1 x.is.length x.c1, .slice x.A2 x.fs.length x.c2, .slice x.A3 x.ms.length x.c3] 35 (0, 0)) := by rw [hw9, ECY.out]; exact gb_at hS.2.1 HXB.out HNE.out
        have h9 : w9.cell? ⟨v1.heap.size, 0, none⟩ = some (.slice (some ⟨g, 0, none⟩) n z.c1) := by rw [hw9]; exact hcell9
        have hend : InvP v hv v1.heap.size #[.slice z.A1 n z.c1, .slice z.A2 z.ns.length z.c2, .string ⟨z.ec.toArray⟩, .string ⟨z.en.toArray⟩, .string ⟨z.ed.toArray⟩] #[.slice none 0 0, .slice none 0 0, .string ⟨#[]⟩, .string ⟨#[]⟩, .string ⟨#[]⟩] (w9.setCells g (p * 7) (clC x)) { z with cs := S1' ++ x :: y :: (S2 ++ R) } := by rw [hw9, ECY.out, ← HEQ.out]; exact hS.2.2.2
        have HEND := hh hend
        rw [← hw9]
        obtain ⟨e0, e1, e2, e3, e4, e5, e6⟩ := c7q hxb
        have f0 := hr9.own.frozenAt (p * 7)
        have f1 := hr9.own.frozenAt (p * 7 + 1)
        have f2 := hr9.own.frozenAt (p * 7 + 2)
        have f3 := hr9.own.frozenAt (p * 7 + 3)
        have f4 := hr9.own.frozenAt (p * 7 + 4)
        have f5 := hr9.own.frozenAt (p * 7 + 5)
        have f6 := hr9.own.frozenAt (p * 7 + 6)
        obtain ⟨y0, y1, y2, y3, y4, y5, y6⟩ : w9.cell? ⟨g, p * 7, none⟩ = some (.string ⟨y.nm.toArray⟩) ∧ w9.cell? ⟨g, p * 7 + 1, none⟩ = some (.string ⟨y.su.toArray⟩) ∧ w9.cell? ⟨g, p * 7 + 2, none⟩ = some (.bool y.fc) ∧ w9.cell? ⟨g, p * 7 + 3, none⟩ = some (.bool y.ab) ∧ w9.cell? ⟨g, p * 7 + 4, none⟩ = some (.slice y.A1 y.is.length y.c1) ∧ w9.cell? ⟨g, p * 7 + 5, none⟩ = some (.slice y.A2 y.fs.length y.c2) ∧ w9.cell? ⟨g, p * 7 + 6, none⟩ = some (.slice y.A3 y.ms.length y.c3) := by
         have r := hr9.range len_cl HAP.out
         exact ⟨by simpa using r 0 _ rfl, r 1 _ rfl, r 2 _ rfl, r 3 _ rfl, r 4 _ rfl, r 5 _ rfl, r 6 _ rfl⟩
        clear hend hS hI hS9 hHeld hbox9 hcell9 hrange9 tq ry hxb hr9 hw9
        go_wp2
        go_roundw
        case rel => exact ⟨p, rfl, S1', y :: S2, HS3.out.1, HS3.out.2.1, HS3.out.2.2, by first | exact HEND.out | simpa [World.setCells, clC] using HEND.out⟩
        case measure => have := HPQ.out; simp [intOf]; omega
    ·have hltI : ¬ (t : Int) < (n : Int) := by omega
     have HE_cs := hh (show InvP v hv v1.heap.size #[.slice z.A1 n z.c1, .slice z.A2 z.ns.length z.c2, .string ⟨z.ec.toArray⟩, .string ⟨z.en.toArray⟩, .string ⟨z.ed.toArray⟩] #[.slice none 0 0, .slice none 0 0, .string ⟨#[]⟩, .string ⟨#[]⟩, .string ⟨#[]⟩] wa { z with cs := sortS ltC Q } from by
      have h := hinv
      rw [List.take_of_length_le (by rw [← HN_cs.out]; omega), List.drop_eq_nil_of_le (by rw [← HN_cs.out]; omega), List.append_nil] at h
      exact h)
     clear hinv htx ht hlt
     clear bx
     have hx9 := HE_cs.out.box
     have hy9 := HE_cs.out.ans
     obtain ⟨e0, e1, e2, e3, e4⟩ := c5q hx9
     have z0 : wa.cell? ⟨v.heap.size + 1, 0, none⟩ = some (.slice none 0 0) := cell_of_row _ _ 0 _ _ _ hy9
     have zf0 := frozen_of_row _ _ 0 _ _ hy9
     have z1 : wa.cell? ⟨v.heap.size + 1, 1, none⟩ = some (.slice none 0 0) := cell_of_row _ _ 1 _ _ _ hy9
     have zf1 := frozen_of_row _ _ 1 _ _ hy9
     have z2 : wa.cell? ⟨v.heap.size + 1, 2, none⟩ = some (.string ⟨#[]⟩) := cell_of_row _ _ 2 _ _ _ hy9
     have zf2 := frozen_of_row _ _ 2 _ _ hy9
     have z3 : wa.cell? ⟨v.heap.size + 1, 3, none⟩ = some (.string ⟨#[]⟩) := cell_of_row _ _ 3 _ _ _ hy9
     have zf3 := frozen_of_row _ _ 3 _ _ hy9
     have z4 : wa.cell? ⟨v.heap.size + 1, 4, none⟩ = some (.string ⟨#[]⟩) := cell_of_row _ _ 4 _ _ _ hy9
     have zf4 := frozen_of_row _ _ 4 _ _ hy9
     have s0 := heap_setCell_same _ (v.heap.size + 1) 0 _ _ (.slice z.A1 n z.c1) hy9
     have s1 := heap_setCell_same _ (v.heap.size + 1) 1 _ _ (.slice z.A2 z.ns.length z.c2) s0
     have s2 := heap_setCell_same _ (v.heap.size + 1) 2 _ _ (.string ⟨z.ec.toArray⟩) s1
     have s3 := heap_setCell_same _ (v.heap.size + 1) 3 _ _ (.string ⟨z.en.toArray⟩) s2
     have s4 := heap_setCell_same _ (v.heap.size + 1) 4 _ _ (.string ⟨z.ed.toArray⟩) s3
     obtain ⟨WF, hWF⟩ : ∃ WF, WF = (((((wa.setCell ⟨v.heap.size + 1, 0, none⟩ (.slice z.A1 n z.c1)).setCell ⟨v.heap.size + 1, 1, none⟩ (.slice z.A2 z.ns.length z.c2)).setCell ⟨v.heap.size + 1, 2, none⟩ (.string ⟨z.ec.toArray⟩)).setCell ⟨v.heap.size + 1, 3, none⟩ (.string ⟨z.en.toArray⟩)).setCell ⟨v.heap.size + 1, 4, none⟩ (.string ⟨z.ed.toArray⟩)) := ⟨_, rfl⟩
     rw [← hWF] at s4
     have sF : WF.heap[v.heap.size + 1]? = some (.cells #[.slice z.A1 n z.c1, .slice z.A2 z.ns.length z.c2, .string ⟨z.ec.toArray⟩, .string ⟨z.en.toArray⟩, .string ⟨z.ed.toArray⟩] 27 (0, 0)) := by rw [s4]; simp
     obtain ⟨r0, r1, r2, r3, r4⟩ := c5q sF
     have gB : wa.grownBy WF (some (v.heap.size + 1)) := by rw [hWF]; exact (gb_trans (gb_trans (gb_trans (gb_trans (gb_set _ ((v.heap.size + 1)) 0 _) (gb_set _ ((v.heap.size + 1)) 1 _)) (gb_set _ ((v.heap.size + 1)) 2 _)) (gb_set _ ((v.heap.size + 1)) 3 _)) (gb_set _ ((v.heap.size + 1)) 4 _))
     have hBF : Below v.heap.size v WF := by rw [hWF]; exact (((((HE_cs.out.bel.setCell (p := ⟨v.heap.size + 1, 0, none⟩) (by simp) _).setCell (p := ⟨v.heap.size + 1, 1, none⟩) (by simp) _).setCell (p := ⟨v.heap.size + 1, 2, none⟩) (by simp) _).setCell (p := ⟨v.heap.size + 1, 3, none⟩) (by simp) _).setCell (p := ⟨v.heap.size + 1, 4, none⟩) (by simp) _)
     have HRS := hh (HPZ.out Q HQP.out WF (HE_cs.out.own.gb HHV.out gB) hBF)
     have HWF := hh hWF
     have R0 := hh r0
     have R1 := hh r1
     have R2 := hh r2
     have R3 := hh r3
     have R4 := hh r4
     have HEQ := hh (show #[.slice z.A1 n z.c1, .slice z.A2 z.ns.length z.c2, .string ⟨z.ec.toArray⟩, .string ⟨z.en.toArray⟩, .string ⟨z.ed.toArray⟩] = (prC { z with cs := sortS ltC Q }).toArray from by unfold prC; dsimp only; rw [sortS_length, ← HN_cs.out])
     clear hx9 hy9 hWF gB sF hBF s0 r0 s1 r1 s2 r2 s3 r3 s4 r4
     go_wp2
     rw [← HWF.out]
     refine bodyPost_ret (v := .agg #[.slice z.A1 n z.c1, .slice z.A2 z.ns.length z.c2, .string ⟨z.ec.toArray⟩, .string ⟨z.en.toArray⟩, .string ⟨z.ed.toArray⟩]) ?_ rfl (HRS.out _ HEQ.out)
     simp [results, Tryz.results9, go_sem, R0.out, R1.out, R2.out, R3.out, R4.out]
end Go.Proofs.YtgociheckcpjkaaGreatDoor.prg

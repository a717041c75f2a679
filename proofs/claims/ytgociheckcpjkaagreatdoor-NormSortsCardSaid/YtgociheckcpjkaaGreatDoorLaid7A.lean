/- Laid7A -/
import Derived.Test.YtgociheckcpjkaaGreatDoorNormRg
import Derived.Test.YtgociheckcpjkaaGreatDoorNormLw
import Derived.Test.YtgociheckcpjkaaGreatDoorKind
import Derived.ChangeMaps5
import Derived.Test.YtgociheckcpjkaaGreatDoorProg
import Derived.Lib.Hide
import Derived.Deep.QuietTactic
import Derived.BigQuiet
import Derived.SliceStrings
import Derived.Test.YtgociheckcpjkaaGreatDoorRows
import Derived.Test.YtgociheckcpjkaaGreatDoorOpB
import Derived.Test.YtgociheckcpjkaaGreatDoorKindV
import Derived.ProofKit
import Derived.Deep.DeepHandedRow
import Derived.Lib.LaidTab
import Derived.Lib.SmallJoins
import Derived.Deep.Fields
namespace Go.Proofs.YtgociheckcpjkaaGreatDoor.normSorts
open Go.RowKit
open words kindp opp op kind word prg keep sorts
set_option maxRecDepth 100000
set_option maxHeartbeats 16000000
set_option linter.all false
theorem gr_sort {z : PrM} (h : GrP z) : GrP (sortPm z) := by
 refine ⟨⟨by unfold sortPm; simp only [List.length_map, sortS_length]; exact h.1.1, h.1.2⟩, fun c hc => ?_⟩
 obtain ⟨c', hc', rfl⟩ := List.mem_map.1 hc
 have k := h.2 c' ((mem_sortS _).1 hc')
 exact ⟨⟨by unfold sortC; simp only [sortS_length]; exact k.1.1, by unfold sortC; simp only [sortS_length]; exact k.1.2.1, by unfold sortC; simp only [sortS_length]; exact k.1.2.2.1, k.1.2.2.2.1, k.1.2.2.2.2⟩, fun y hy => k.2 y ((mem_sortS _).1 hy)⟩
theorem walk (x y : PrM) (w : World) (hk : PrOk w x) (hb : PrBd x) (hk2 : PrOk w y) (hb2 : PrBd y) (hs : Sh w) (hv : Vd w) (hm : Mx w) : Calls Tryz.prog 3 #[.agg (prC x).toArray, .agg (prC y).toArray] w fun e w' => e = .returned (.bool true) ∧ Below w.heap.size w w' := by
 have htw : Wd w := ⟨hs, hm, hv⟩
 obtain ⟨W, hW⟩ : ∃ W, W = (w.alloc (.cells (prC x).toArray 27)).alloc (.cells (prC y).toArray 27) := ⟨_, rfl⟩
 have hal : Below w.heap.size w W := by rw [hW]; exact ((Below.refl _ w).alloc (Nat.le_refl _) _).alloc (by simp) _
 have hbi : W.heap[w.heap.size]? = some (.cells (prC x).toArray 27 (0, 0)) := by rw [hW]; exact (Below.heap_alloc _ _ _ (by simp)).trans (heap_alloc_new w _)
 have hbj : W.heap[w.heap.size + 1]? = some (.cells (prC y).toArray 27 (0, 0)) := by
  have := heap_alloc_new (w.alloc (.cells (prC x).toArray 27)) (.cells (prC y).toArray 27)
  rw [World.size_alloc] at this
  rw [hW]; exact this
 have HAL := hh hal; have HBI := hh hbi; have HBJ := hh hbj
 have HKX := hh (fun v (hv : Below W.heap.size W v) => (hk.below hal).below hv)
 have HKY := hh (fun v (hv : Below W.heap.size W v) => (hk2.below hal).below hv)
 have HBX := hh hb; have HBY := hh hb2
 have HLW := hh (fun v (hv : Below W.heap.size W v) => live_w v ((htw.below hal).below hv))
 have HG1 := hh (fun v (hv : Below W.heap.size W v) => great_w x v ((hk.below hal).below hv) hb)
 have HG2 := hh (fun v (hv : Below W.heap.size W v) => great_w y v ((hk2.below hal).below hv) hb2)
 have HSO := hh (fun v (hv : Below W.heap.size W v) (hg : GrP x) => sorted_g x v ((hk.below hal).below hv) hg)
 have HCE := hh (show ∀ v : World, Below W.heap.size W v → (v.cell? ⟨w.heap.size, 0, none⟩ = some (.slice x.A1 x.cs.length x.c1) ∧ v.cell? ⟨w.heap.size, 1, none⟩ = some (.slice x.A2 x.ns.length x.c2) ∧ v.cell? ⟨w.heap.size, 2, none⟩ = some (.string ⟨x.ec.toArray⟩) ∧ v.cell? ⟨w.heap.size, 3, none⟩ = some (.string ⟨x.en.toArray⟩) ∧ v.cell? ⟨w.heap.size, 4, none⟩ = some (.string ⟨x.ed.toArray⟩)) ∧ (v.cell? ⟨w.heap.size + 1, 0, none⟩ = some (.slice y.A1 y.cs.length y.c1) ∧ v.cell? ⟨w.heap.size + 1, 1, none⟩ = some (.slice y.A2 y.ns.length y.c2) ∧ v.cell? ⟨w.heap.size + 1, 2, none⟩ = some (.string ⟨y.ec.toArray⟩) ∧ v.cell? ⟨w.heap.size + 1, 3, none⟩ = some (.string ⟨y.en.toArray⟩) ∧ v.cell? ⟨w.heap.size + 1, 4, none⟩ = some (.string ⟨y.ed.toArray⟩)) from fun v hv => ⟨pr_cells ((hv.block _ (blk_lt hbi)).trans hbi), pr_cells ((hv.block _ (blk_lt hbj)).trans hbj)⟩)
 have K0 := hh (Below.refl W.heap.size W)
 obtain ⟨⟨x0, x1, x2, x3, x4⟩, ⟨y0, y1, y2, y3, y4⟩⟩ := HCE.out _ K0.out
 unfold prC at hW HG1 HG2 HSO ⊢
 try dsimp only at hW HG1 HG2 HSO ⊢
 have HW := hh hW
 clear hal hbi hbj hW hk hk2 hb hb2 hs hv hm htw
 go_enter Tryz.func3, Tryz.ntmps3
 go_wp2_with fail
 try simp only [World.size_alloc]
 rw [← HW.out]
 (try go_wp2_with fail)
 clear x0 x1 x2 x3 x4 y0 y1 y2 y3 y4
 refine (HG1.out _ K0.out).mono ?_
 rintro e v1 ⟨g, rfl, hg, hb1⟩
 have K1 := hh hb1
 have HGA := hh hg
 clear hb1 hg
 cases g with
 | true =>
  go_wp2_with fail
  refine (HLW.out _ K1.out).mono ?_
  rintro e v4 ⟨rfl, hb4⟩
  have K4 := hh (then' K1.out hb4)
  clear hb4
  go_wp2
  go_ret
  exact ⟨rfl, HAL.out.trans (K4.out.mono HAL.out.size)⟩
 | false =>
  obtain ⟨⟨x0, x1, x2, x3, x4⟩, ⟨y0, y1, y2, y3, y4⟩⟩ := HCE.out _ K1.out
  go_wp2_with fail
  clear x0 x1 x2 x3 x4 y0 y1 y2 y3 y4
  refine (HG2.out _ K1.out).mono ?_
  rintro e v2 ⟨g, rfl, hg, hb2⟩
  have K2 := hh (then' K1.out hb2)
  have HGB := hh hg
  clear hb2 hg
  cases g with
  | true =>
   go_wp2_with fail
   refine (HLW.out _ K2.out).mono ?_
   rintro e v4 ⟨rfl, hb4⟩
   have K4 := hh (then' K2.out hb4)
   clear hb4
   go_wp2
   go_ret
   exact ⟨rfl, HAL.out.trans (K4.out.mono HAL.out.size)⟩
  | false =>
   have hgx := HGA.out (by first | rfl | trivial)
   obtain ⟨⟨x0, x1, x2, x3, x4⟩, ⟨y0, y1, y2, y3, y4⟩⟩ := HCE.out _ K2.out
   go_wp2_with fail
   clear x0 x1 x2 x3 x4 y0 y1 y2 y3 y4
   refine (HSO.out _ K2.out hgx).mono ?_
   rintro e v3 ⟨⟨z, rfl, hzp, hzo⟩, hb3⟩
   have k3 := then' K2.out hb3
   obtain ⟨s, hs⟩ : ∃ s, s = sortPm z := ⟨_, rfl⟩
   rw [← hs] at hzo ⊢
   obtain ⟨V3, hV3⟩ : ∃ V, V = v3.alloc (.cells #[.slice s.A1 s.cs.length s.c1, .slice s.A2 s.ns.length s.c2, .string ⟨s.ec.toArray⟩, .string ⟨s.en.toArray⟩, .string ⟨s.ed.toArray⟩] 27) := ⟨_, rfl⟩
   have b3 : Below v3.heap.size v3 V3 := by rw [hV3]; exact (Below.refl _ _).alloc (Nat.le_refl _) _
   have k5 : Below W.heap.size W V3 := k3.trans (b3.mono k3.size)
   have n3 : V3.heap[v3.heap.size]? = some (.cells (prC s).toArray 27 (0, 0)) := by rw [hV3]; exact heap_alloc_new v3 _
   have hso : PrOk V3 s := (hzo.below b3).ok
   have e1 : pP s = sortPP (pP x) := by rw [hs, pP_sort, hzp]
   have HBS := hh (show PrBd s from by rw [hs]; exact bd_sort (bd_pP hzp HBX.out))
   have HGS := hh (show GrP s from by rw [hs]; exact gr_sort (grP_of hzp hgx))
   have HS := hh (show ∀ u : World, Below V3.heap.size V3 u → (fun w' => w'.cell? ⟨w.heap.size, 0, none⟩ = some (.slice x.A1 x.cs.length x.c1) ∧ w'.cell? ⟨w.heap.size, 1, none⟩ = some (.slice x.A2 x.ns.length x.c2) ∧ w'.cell? ⟨w.heap.size, 2, none⟩ = some (.string ⟨x.ec.toArray⟩) ∧ w'.cell? ⟨w.heap.size, 3, none⟩ = some (.string ⟨x.en.toArray⟩) ∧ w'.cell? ⟨w.heap.size, 4, none⟩ = some (.string ⟨x.ed.toArray⟩) ∧ w'.cell? ⟨w.heap.size + 1, 0, none⟩ = some (.slice y.A1 y.cs.length y.c1) ∧ w'.cell? ⟨w.heap.size + 1, 1, none⟩ = some (.slice y.A2 y.ns.length y.c2) ∧ w'.cell? ⟨w.heap.size + 1, 2, none⟩ = some (.string ⟨y.ec.toArray⟩) ∧ w'.cell? ⟨w.heap.size + 1, 3, none⟩ = some (.string ⟨y.en.toArray⟩) ∧ w'.cell? ⟨w.heap.size + 1, 4, none⟩ = some (.string ⟨y.ed.toArray⟩) ∧ w'.cell? ⟨v3.heap.size, 0, none⟩ = some (.slice s.A1 s.cs.length s.c1) ∧ w'.cell? ⟨v3.heap.size, 1, none⟩ = some (.slice s.A2 s.ns.length s.c2) ∧ w'.cell? ⟨v3.heap.size, 2, none⟩ = some (.string ⟨s.ec.toArray⟩) ∧ w'.cell? ⟨v3.heap.size, 3, none⟩ = some (.string ⟨s.en.toArray⟩) ∧ w'.cell? ⟨v3.heap.size, 4, none⟩ = some (.string ⟨s.ed.toArray⟩)) u from fun u hu => by
    obtain ⟨a, b⟩ := HCE.out u (k5.trans (hu.mono k5.size))
    have c := pr_cells ((hu.block _ (blk_lt n3)).trans n3)
    exact ⟨a.1, a.2.1, a.2.2.1, a.2.2.2.1, a.2.2.2.2, b.1, b.2.1, b.2.2.1, b.2.2.2.1, b.2.2.2.2, c⟩)
   have hx5 : ∀ u : World, Below V3.heap.size V3 u → Below W.heap.size W u := fun u hu => k5.trans (hu.mono k5.size)
   have HLV := hh (fun u hu => HLW.out u (hx5 u hu))
   have HSM := hh (fun u hu => same_g x y u (HKX.out u (hx5 u hu)) (HKY.out u (hx5 u hu)) HBX.out HBY.out)
   have HRS := hh (fun u hu => rs_g x y u (HKX.out u (hx5 u hu)) (HKY.out u (hx5 u hu)) HBX.out HBY.out)
   have HRT := hh (fun u hu => srt_r x u (HKX.out u (hx5 u hu)) hgx)
   have HTX := hh (show ∀ t : PrM, pP t = sortPP (pP x) → pP s = pP t from fun t h => by rw [e1, h])
   have hrs : ∀ (a b : PrM) (u : World), PrOk u a → PrOk u b → PrBd a → PrBd b → pP a = pP b → Calls Tryz.prog 8 #[.agg (prC a).toArray, .agg (prC b).toArray] u fun e w' => e = .returned (.bool true) ∧ Below u.heap.size u w' := fun a b u h1 h2 h3 h4 h5 => by
    have := rs_g a b u h1 h2 h3 h4
    rw [decide_eq_true h5] at this
    exact this
   have HSS := hh (fun u t (hu : Below V3.heap.size V3 u) h1 h2 h3 => hrs s t u (hso.below hu) h1 HBS.out h2 h3)
   have HS2 := hh (fun u (hu : Below V3.heap.size V3 u) => sorted_g s u (hso.below hu) HGS.out)
   have HRX := hh (show ∀ r : PrM, pP r = pP s → pP (sortPm r) = pP s from fun r h => by rw [pP_sort, h, e1, sortPP_twice])
   have HSR := hh (fun u r (hu : Below V3.heap.size V3 u) h1 h2 h3 => hrs r s u h1 (hso.below hu) h2 HBS.out h3)
   have HOR := hh (fun u hu => order_w x u (HKX.out u (hx5 u hu)) HBX.out)
   have HOX := hh (show orderB x = true → pP s = pP x from fun h => by rw [e1, ← pP_sort, sort_order h])
   have HSX := hh (fun u (hu : Below V3.heap.size V3 u) h => hrs s x u (hso.below hu) (HKX.out u (hx5 u hu)) HBS.out HBX.out h)
   have HXX := hh (show ∀ u : World, Below V3.heap.size V3 u → Calls Tryz.prog 7 #[.agg (prC x).toArray, .agg (prC x).toArray] u fun e w' => e = .returned (.bool true) ∧ Below u.heap.size u w' from fun u hu => by
    have := same_g x x u (HKX.out u (hx5 u hu)) (HKX.out u (hx5 u hu)) HBX.out HBX.out
    rw [decide_eq_true rfl] at this
    exact this)
   have K5 := hh k5
   have HV3 := hh hV3
   have hcs : #[.slice s.A1 s.cs.length s.c1, .slice s.A2 s.ns.length s.c2, .string ⟨s.ec.toArray⟩, .string ⟨s.en.toArray⟩, .string ⟨s.ed.toArray⟩] = (prC s).toArray := rfl
   clear hzp hzo hb3 k3 hs b3 k5 n3 hso e1 hx5 hrs hV3 hgx hcs
   unfold prC at HSM HRS HRT HSS HS2 HSR HOR HSX HXX ⊢
   try dsimp only at HSM HRS HRT HSS HS2 HSR HOR HSX HXX ⊢
   go_wp2_with fail
   rw [← HV3.out]
   (try go_wp2_with fail)
   refine wp_region_held_drew (S := (fun w' => w'.cell? ⟨w.heap.size, 0, none⟩ = some (.slice x.A1 x.cs.length x.c1) ∧ w'.cell? ⟨w.heap.size, 1, none⟩ = some (.slice x.A2 x.ns.length x.c2) ∧ w'.cell? ⟨w.heap.size, 2, none⟩ = some (.string ⟨x.ec.toArray⟩) ∧ w'.cell? ⟨w.heap.size, 3, none⟩ = some (.string ⟨x.en.toArray⟩) ∧ w'.cell? ⟨w.heap.size, 4, none⟩ = some (.string ⟨x.ed.toArray⟩) ∧ w'.cell? ⟨w.heap.size + 1, 0, none⟩ = some (.slice y.A1 y.cs.length y.c1) ∧ w'.cell? ⟨w.heap.size + 1, 1, none⟩ = some (.slice y.A2 y.ns.length y.c2) ∧ w'.cell? ⟨w.heap.size + 1, 2, none⟩ = some (.string ⟨y.ec.toArray⟩) ∧ w'.cell? ⟨w.heap.size + 1, 3, none⟩ = some (.string ⟨y.en.toArray⟩) ∧ w'.cell? ⟨w.heap.size + 1, 4, none⟩ = some (.string ⟨y.ed.toArray⟩) ∧ w'.cell? ⟨v3.heap.size, 0, none⟩ = some (.slice s.A1 s.cs.length s.c1) ∧ w'.cell? ⟨v3.heap.size, 1, none⟩ = some (.slice s.A2 s.ns.length s.c2) ∧ w'.cell? ⟨v3.heap.size, 2, none⟩ = some (.string ⟨s.ec.toArray⟩) ∧ w'.cell? ⟨v3.heap.size, 3, none⟩ = some (.string ⟨s.en.toArray⟩) ∧ w'.cell? ⟨v3.heap.size, 4, none⟩ = some (.string ⟨s.ed.toArray⟩))) (by kernel_rfl) ?_ (fun hHeld => ?_)
   ·exact HS.out _ (by exact ⟨rfl, rfl, rfl, Nat.le_refl _, fun _ _ => rfl⟩)
   obtain ⟨u0, hWd⟩ : ∃ u, u = V3.drew := ⟨_, rfl⟩
   have HB0 := hh (show Below V3.heap.size V3 u0 from by rw [hWd]; exact ⟨rfl, rfl, rfl, Nat.le_refl _, fun _ _ => rfl⟩)
   rw [← hWd]
   have hS0 := HS.out _ HB0.out
   clear hWd
   clear hS0
   refine rdy 0 rfl (fun K hK => ?_)
   go_simp
   refine (HLV.out _ HB0.out).mono ?_
   rintro e u1 ⟨rfl, hb⟩
   have HB1 := hh (show Below V3.heap.size V3 u1 from HB0.out.trans ((show Below u0.heap.size u0 u1 from ⟨hb.os, hb.tape, hb.output, hb.size, hb.block⟩).mono HB0.out.size))
   clear hb
   go_wp2_with fail
   refine hK.out _ _ (HS.out _ HB1.out) (fun hHeld => ?_)
   clear hK K
   try simp only [puts]
   have hS1 := HS.out _ HB1.out
   refine tkp 1 rfl ?_
   refine tkp 2 rfl ?_
   refine tkp 3 rfl ?_
   refine tkp 5 rfl ?_
   refine tkp 6 rfl ?_
   clear hS1
   refine rdy 4 rfl (fun K hK => ?_)
   go_simp
   refine (HSM.out _ HB1.out).mono ?_
   rintro e u2 ⟨rfl, hb⟩
   have HB2 := hh (show Below V3.heap.size V3 u2 from HB1.out.trans ((show Below u1.heap.size u1 u2 from ⟨hb.os, hb.tape, hb.output, hb.size, hb.block⟩).mono HB1.out.size))
   clear hb
   go_wp2_with fail
   refine hK.out _ _ (HS.out _ HB2.out) (fun hHeld => ?_)
   clear hK K
   try simp only [puts]
   have hS2 := HS.out _ HB2.out
   clear hS2
   refine rdy 7 rfl (fun K hK => ?_)
   go_simp
   refine (HRS.out _ HB2.out).mono ?_
   rintro e u3 ⟨rfl, hb⟩
   have HB3 := hh (show Below V3.heap.size V3 u3 from HB2.out.trans ((show Below u2.heap.size u2 u3 from ⟨hb.os, hb.tape, hb.output, hb.size, hb.block⟩).mono HB2.out.size))
   clear hb
   go_wp2_with fail
   refine hK.out _ _ (HS.out _ HB3.out) (fun hHeld => ?_)
   clear hK K
   try simp only [puts]
   have hS3 := HS.out _ HB3.out
   have hbb : (decide (pP x = pP y) == decide (pP x = pP y)) = true := by simp
   refine tkp 8 rfl ?_
   refine tkp 9 rfl ?_
   refine tkp 10 rfl ?_
   refine tkp 11 rfl ?_
   refine tkp 12 rfl ?_
   clear hS3
   refine rdy 13 rfl (fun K hK => ?_)
   go_simp
   refine (HRT.out _ HB3.out).mono ?_
   rintro e u4 ⟨⟨t, rfl, htp, hto⟩, hb⟩
   have HB4 := hh (show Below V3.heap.size V3 u4 from HB3.out.trans ((show Below u3.heap.size u3 u4 from ⟨hb.os, hb.tape, hb.output, hb.size, hb.block⟩).mono HB3.out.size))
   have HTO := hh (show PrOk u4 t from hto.ok); have HTP := hh (show pP s = pP t from HTX.out t htp); have HTB := hh (show PrBd t from bd_pP (HTX.out t htp).symm HBS.out)
   clear htp hto
   dsimp only [prC]
   clear hb
   go_wp2_with fail
   refine hK.out _ _ (HS.out _ HB4.out) (fun hHeld => ?_)
   clear hK K
   try simp only [puts]
   have hS4 := HS.out _ HB4.out
   clear hS4
   refine rdy 14 rfl (fun K hK => ?_)
   go_simp
   refine (HSS.out _ t HB4.out (HTO.out) HTB.out HTP.out).mono ?_
   rintro e u5 ⟨rfl, hb⟩
   have HB5 := hh (show Below V3.heap.size V3 u5 from HB4.out.trans ((show Below u4.heap.size u4 u5 from ⟨hb.os, hb.tape, hb.output, hb.size, hb.block⟩).mono HB4.out.size))
   clear hb
   go_wp2_with fail
   refine hK.out _ _ (HS.out _ HB5.out) (fun hHeld => ?_)
   clear hK K
   try simp only [puts]
   have hS5 := HS.out _ HB5.out
   refine tkp 15 rfl ?_
   refine tkp 16 rfl ?_
   refine tkp 17 rfl ?_
   refine tkp 19 rfl ?_
   clear hS5
   refine rdy 18 rfl (fun K hK => ?_)
   go_simp
   refine (HS2.out _ HB5.out).mono ?_
   rintro e u6 ⟨⟨r, rfl, hrp, hro⟩, hb⟩
   have HB6 := hh (show Below V3.heap.size V3 u6 from HB5.out.trans ((show Below u5.heap.size u5 u6 from ⟨hb.os, hb.tape, hb.output, hb.size, hb.block⟩).mono HB5.out.size))
   have HRO := hh (show PrOk u6 (sortPm r) from hro.ok); have HRP := hh (show pP (sortPm r) = pP s from HRX.out r hrp); have HRB := hh (show PrBd (sortPm r) from bd_pP (HRX.out r hrp) HBS.out)
   clear hrp hro
   dsimp only [prC]
   clear hb
   go_wp2_with fail
   refine hK.out _ _ (HS.out _ HB6.out) (fun hHeld => ?_)
   clear hK K
   try simp only [puts]
   have hS6 := HS.out _ HB6.out
   clear hS6
   refine rdy 20 rfl (fun K hK => ?_)
   go_simp
   refine (HSR.out _ (sortPm r) HB6.out HRO.out HRB.out HRP.out).mono ?_
   rintro e u7 ⟨rfl, hb⟩
   have HB7 := hh (show Below V3.heap.size V3 u7 from HB6.out.trans ((show Below u6.heap.size u6 u7 from ⟨hb.os, hb.tape, hb.output, hb.size, hb.block⟩).mono HB6.out.size))
   clear hb
   go_wp2_with fail
   refine hK.out _ _ (HS.out _ HB7.out) (fun hHeld => ?_)
   clear hK K
   try simp only [puts]
   have hS7 := HS.out _ HB7.out
   refine tkp 21 rfl ?_
   refine tkp 22 rfl ?_
   refine tkp 23 rfl ?_
   clear hS7
   cases hor : orderB x with
   | true =>
    have HOC := hh (show ∀ v : World, Below V3.heap.size V3 v → Calls Tryz.prog 10 #[.agg #[.slice x.A1 x.cs.length x.c1, .slice x.A2 x.ns.length x.c2, .string ⟨x.ec.toArray⟩, .string ⟨x.en.toArray⟩, .string ⟨x.ed.toArray⟩]] v fun e w' => e = .returned (.bool true) ∧ Below v.heap.size v w' from fun v hv => by rw [← hor]; exact HOR.out v hv)
    refine rdy 24 rfl (fun K hK => ?_)
    go_simp
    refine (HOC.out _ HB7.out).mono ?_
    rintro e u8 ⟨rfl, hb⟩
    have HB8 := hh (show Below V3.heap.size V3 u8 from HB7.out.trans ((show Below u7.heap.size u7 u8 from ⟨hb.os, hb.tape, hb.output, hb.size, hb.block⟩).mono HB7.out.size))
    clear hb
    go_wp2_with fail
    refine hK.out _ _ (HS.out _ HB8.out) (fun hHeld => ?_)
    clear hK K
    try simp only [puts]
    have hS8 := HS.out _ HB8.out
    have HXO := hh (HOX.out hor)
    refine tkp 25 rfl ?_
    refine tkp 26 rfl ?_
    refine tkp 27 rfl ?_
    refine tkp 28 rfl ?_
    clear hS8
    refine rdy 29 rfl (fun K hK => ?_)
    go_simp
    refine (HSX.out _ HB8.out HXO.out).mono ?_
    rintro e u9 ⟨rfl, hb⟩
    have HB9 := hh (show Below V3.heap.size V3 u9 from HB8.out.trans ((show Below u8.heap.size u8 u9 from ⟨hb.os, hb.tape, hb.output, hb.size, hb.block⟩).mono HB8.out.size))
    clear hb
    go_wp2_with fail
    refine hK.out _ _ (HS.out _ HB9.out) (fun hHeld => ?_)
    clear hK K
    try simp only [puts]
    have hS9 := HS.out _ HB9.out
    refine tkp 30 rfl ?_
    refine tkp 31 rfl ?_
    refine tkp 32 rfl ?_
    refine tkp 33 rfl ?_
    refine tkp 34 rfl ?_
    clear hS9
    refine rdy 35 rfl (fun K hK => ?_)
    go_simp
    refine (HXX.out _ HB9.out).mono ?_
    rintro e u10 ⟨rfl, hb⟩
    have HB10 := hh (show Below V3.heap.size V3 u10 from HB9.out.trans ((show Below u9.heap.size u9 u10 from ⟨hb.os, hb.tape, hb.output, hb.size, hb.block⟩).mono HB9.out.size))
    clear hb
    go_wp2_with fail
    refine hK.out _ _ (HS.out _ HB10.out) (fun hHeld => ?_)
    clear hK K
    try simp only [puts]
    have hS10 := HS.out _ HB10.out
    refine tkp 36 rfl ?_
    refine tkp 37 rfl ?_
    clear hS10
    refine wpAnyH_done (by kernel_rfl) ?_ _
    go_wp2
    go_ret
    exact ⟨rfl, HAL.out.trans (K5.out.trans (HB10.out.mono K5.out.size) |>.mono HAL.out.size)⟩
   | false =>
    have HOC := hh (show ∀ v : World, Below V3.heap.size V3 v → Calls Tryz.prog 10 #[.agg #[.slice x.A1 x.cs.length x.c1, .slice x.A2 x.ns.length x.c2, .string ⟨x.ec.toArray⟩, .string ⟨x.en.toArray⟩, .string ⟨x.ed.toArray⟩]] v fun e w' => e = .returned (.bool false) ∧ Below v.heap.size v w' from fun v hv => by rw [← hor]; exact HOR.out v hv)
    refine rdy 24 rfl (fun K hK => ?_)
    go_simp
    refine (HOC.out _ HB7.out).mono ?_
    rintro e u8 ⟨rfl, hb⟩
    have HB8 := hh (show Below V3.heap.size V3 u8 from HB7.out.trans ((show Below u7.heap.size u7 u8 from ⟨hb.os, hb.tape, hb.output, hb.size, hb.block⟩).mono HB7.out.size))
    clear hb
    go_wp2_with fail
    refine hK.out _ _ (HS.out _ HB8.out) (fun hHeld => ?_)
    clear hK K
    try simp only [puts]
    have hS8 := HS.out _ HB8.out
    refine tkp 25 rfl ?_
    refine tkp 26 rfl ?_
    refine tup 27 rfl ?_
    refine tup 28 rfl ?_
    refine tup 29 rfl ?_
    refine tkp 30 rfl ?_
    refine tkp 31 rfl ?_
    refine tkp 32 rfl ?_
    refine tkp 33 rfl ?_
    refine tkp 34 rfl ?_
    clear hS8
    refine rdy 35 rfl (fun K hK => ?_)
    go_simp
    refine (HXX.out _ HB8.out).mono ?_
    rintro e u9 ⟨rfl, hb⟩
    have HB9 := hh (show Below V3.heap.size V3 u9 from HB8.out.trans ((show Below u8.heap.size u8 u9 from ⟨hb.os, hb.tape, hb.output, hb.size, hb.block⟩).mono HB8.out.size))
    clear hb
    go_wp2_with fail
    refine hK.out _ _ (HS.out _ HB9.out) (fun hHeld => ?_)
    clear hK K
    try simp only [puts]
    have hS9 := HS.out _ HB9.out
    refine tkp 36 rfl ?_
    refine tkp 37 rfl ?_
    clear hS9
    refine wpAnyH_done (by kernel_rfl) ?_ _
    go_wp2
    go_ret
    exact ⟨rfl, HAL.out.trans (K5.out.trans (HB9.out.mono K5.out.size) |>.mono HAL.out.size)⟩
end Go.Proofs.YtgociheckcpjkaaGreatDoor.normSorts
namespace Go.Proofs.YtgociheckcpjkaaGreatDoor.frame
open Go.ChangeShapes Go.WideShapes Go.ChangeAt Go.RowKit
end Go.Proofs.YtgociheckcpjkaaGreatDoor.frame
namespace Go.Proofs.YtgociheckcpjkaaGreatDoor.texts
open Go.RowKit
open words
def S (l : List ByteArray) : List Value := l.map Value.string
end Go.Proofs.YtgociheckcpjkaaGreatDoor.texts
namespace Go.Proofs.YtgociheckcpjkaaGreatDoor.frame
open Go.ChangeShapes Go.WideShapes Go.ChangeAt Go.RowKit
open words texts
theorem weights_all {H : Type} {P : Program} {e : TypeId} {y : DataW H} {n : Nat} (hn : n ∈ y.weights P e) : ∀ {l : List (DataW H)}, y ∈ l → n ∈ DataW.weightsAll P e l
 | [], h => by cases h
 | d :: r, h => by
  simp only [DataW.weightsAll, List.mem_append]
  rcases List.mem_cons.1 h with rfl | h
  ·exact .inl hn
  ·exact .inr (weights_all hn h)
end Go.Proofs.YtgociheckcpjkaaGreatDoor.frame
namespace Go.Proofs.YtgociheckcpjkaaGreatDoor.frame7
open Go.Joins Go.ChangeShapes Go.WideShapes Go.ChangeAt Go.RowKit Go.Deep
open words frame kindp opp op kind
section
variable {H : Type} {enc : TypeId × Value → H} {P : Program} {w : World} {base : Nat} {spare : Nat → Bool} {held : Bool}
end
end Go.Proofs.YtgociheckcpjkaaGreatDoor.frame7
namespace Go.Proofs.YtgociheckcpjkaaGreatDoor.Laid7
open Go.ChangeShapes Go.WideShapes Go.ChangeAt Go.RowKit
open kindp opp op kind
theorem open_two {H : Type} {enc : TypeId × Value → H} {P : Program} {w : World} {base : Nat} {spare : Nat → Bool} {held : Bool} {t : TypeId} {f0 f1 : Field} {fuel : Nat} {cs : List Value} {x : DataW H × List MemPlace} (ht : P.underlying t = some (.struct #[f0, f1])) (ce : P.cellsOf t = 2)
  (o0 : f0.offset = 0) (o1 : f1.offset = 1) (c0 : P.cellsOf f0.type = 1) (c1 : P.cellsOf f1.type = 1) (h : DataW.trod enc P w base spare held fuel t cs = some x) :
  ∃ (n : Nat) (v0 v1 : Value) (y0 y1 : DataW H × List MemPlace), cs = [v0, v1] ∧ x = (.agg [y0.1, y1.1], y0.2 ++ y1.2) ∧ DataW.trod enc P w base spare held n f0.type [v0] = some y0 ∧ DataW.trod enc P w base spare held n f1.type [v1] = some y1 := by
 obtain ⟨xs, n, _, hxy, hl, hxl, hf⟩ := DataW.trod_struct ht h
 rw [ce] at hl
 match xs, hxl, cs, hl with
 | [y0, y1], _, [v0, v1], _ =>
  have g0 := hf 0 f0 rfl
  have g1 := hf 1 f1 rfl
  simp [o0, o1, c0, c1] at g0 g1
  exact ⟨n, v0, v1, y0, y1, rfl, by rw [hxy]; simp, g0, g1⟩
end Go.Proofs.YtgociheckcpjkaaGreatDoor.Laid7

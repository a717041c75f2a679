/- JoinB -/
import Derived.Test.YtdifmgeicnndfaaJoinA
namespace Go.Proofs.Ytdifmgeicnndfaa.prg
open Go.RowKit
open words kindp opp op kind word
set_option maxRecDepth 100000
set_option maxHeartbeats 16000000
set_option linter.all false
theorem four (w : World) (o1 o2 o3 o4 : Obj) : ∀ W, W = (((w.alloc o1).alloc o2).alloc o3).alloc o4 → W.heap[w.heap.size]? = some o1 ∧ W.heap[w.heap.size + 1]? = some o2 ∧ W.heap[w.heap.size + 1 + 1]? = some o3 ∧ W.heap[w.heap.size + 1 + 1 + 1]? = some o4 ∧ Below w.heap.size w W := by
 rintro W rfl
 have n1 := heap_alloc_new w o1
 have n2 := heap_alloc_new (w.alloc o1) o2
 have n3 := heap_alloc_new ((w.alloc o1).alloc o2) o3
 have n4 := heap_alloc_new (((w.alloc o1).alloc o2).alloc o3) o4
 simp only [World.size_alloc] at n2 n3 n4
 refine ⟨?_, ?_, ?_, n4, (((((Below.refl _ w).alloc (Nat.le_refl _) _).alloc (by simp) _).alloc (by simp <;> omega) _).alloc (by simp <;> omega) _)⟩
 ·exact (Below.heap_alloc _ _ _ (by simp <;> omega)).trans ((Below.heap_alloc _ _ _ (by simp <;> omega)).trans ((Below.heap_alloc _ _ _ (by simp)).trans n1))
 ·exact (Below.heap_alloc _ _ _ (by simp <;> omega)).trans ((Below.heap_alloc _ _ _ (by simp)).trans n2)
 ·exact (Below.heap_alloc _ _ _ (by simp)).trans n3
theorem fa_set {w : World} {b : Nat} {t : TypeId} {k : Int} {c : Tx} (u : Fa) (h : w.heap[b]? = some (.cells #[.int .i64 k, .string ⟨c.toArray⟩] t (0, 0))) :
  ((w.setCell ⟨b, 0, none⟩ (.int .i64 u.1)).setCell ⟨b, 1, none⟩ (.string ⟨u.2.toArray⟩)).heap[b]? = some (.cells #[.int .i64 u.1, .string ⟨u.2.toArray⟩] t (0, 0)) := by
 have s0 := heap_setCell_same _ b 0 _ _ (.int .i64 u.1) h
 have s1 := heap_setCell_same _ b 1 _ _ (.string ⟨u.2.toArray⟩) s0
 rw [s1]; simp
theorem set_other {w : World} {b q : Nat} (u : Fa) (h : q ≠ b) : ((w.setCell ⟨b, 0, none⟩ (.int .i64 u.1)).setCell ⟨b, 1, none⟩ (.string ⟨u.2.toArray⟩)).heap[q]? = w.heap[q]? := by
 rw [heap_setCell_other _ _ _ _ (fun e => h (by simpa using e)), heap_setCell_other _ _ _ _ (fun e => h (by simpa using e))]
theorem set_below {w v : World} {b : Nat} (u : Fa) (h : Below w.heap.size w v) (hb : w.heap.size ≤ b) : Below w.heap.size w ((v.setCell ⟨b, 0, none⟩ (.int .i64 u.1)).setCell ⟨b, 1, none⟩ (.string ⟨u.2.toArray⟩)) := by
 refine ⟨h.os, h.tape, h.output, by simpa using h.size, fun q hq => ?_⟩
 rw [set_other u (by omega)]
 exact h.block q hq
theorem join_j (x : PrM) (Kn : List Tx) (a b : Fa) (w : World) (hpr : PrOk w x) (hgr : GrP x) (hH : KnH x Kn) (ha : a.1 = 3 → a.2 ∈ Kn) (hb : b.1 = 3 → b.2 ∈ Kn) :
  Calls Try.prog 18 #[.agg (prC x).toArray, .agg (faC a).toArray, .agg (faC b).toArray] w fun e w' => e = .returned (.agg (faC (joinF x.cs a b)).toArray) ∧ Below w.heap.size w w' := by
 obtain ⟨cs, A1, c1, ns, A2, c2, ec, en, ed⟩ := x
 obtain ⟨k, c⟩ := a
 obtain ⟨l, d⟩ := b
 obtain ⟨W, hW⟩ : ∃ W, W = (((w.alloc (.cells #[.slice A1 cs.length c1, .slice A2 ns.length c2, .string ⟨ec.toArray⟩, .string ⟨en.toArray⟩, .string ⟨ed.toArray⟩] 27)).alloc (.cells #[.int .i64 k, .string ⟨c.toArray⟩] 50)).alloc (.cells #[.int .i64 l, .string ⟨d.toArray⟩] 50)).alloc (.cells #[.int .i64 0, .string ⟨#[]⟩] 50) := ⟨_, rfl⟩
 obtain ⟨h1, h2, h3, h4, hal⟩ := four w _ _ _ _ W hW
 have hsz : W.heap.size = w.heap.size + 4 := by rw [hW]; simp
 have HOR := zh (fun v => order_j (k, c) (l, d) v)
 have HIR := zh (fun (a : Fa) v => isref_j a v)
 have HCO := fun (s t : Tx) (hs : s ∈ Kn) (ht : t ∈ Kn) v (hv : Below w.heap.size w v) => common_w ⟨cs, A1, c1, ns, A2, c2, ec, en, ed⟩ Kn s t v (hpr.below hv) hgr hH hs ht
 unfold prC at HCO ⊢
 try dsimp only [List.cons_append, List.nil_append] at HCO ⊢
 have HCO := zh HCO
 have HAL := zh hal; have HW := zh hW
 obtain ⟨x0, x1, x2, x3, x4⟩ := pr_cells (x := ⟨cs, A1, c1, ns, A2, c2, ec, en, ed⟩) h1
 obtain ⟨y0, y1⟩ := fa_cells (a := (k, c)) h2
 obtain ⟨z0, z1⟩ := fa_cells (a := (l, d)) h3
 dsimp only at x0 x1 x2 x3 x4 y0 y1 z0 z1
 have HH := zh (And.intro h1 (And.intro h2 (And.intro h3 h4)))
 have HSZ := zh hsz
 unfold faC
 dsimp only
 clear h1 h2 h3 h4 hal hW hsz
 go_enter Try.func18, Try.ntmps18
 go_wp2_with fail
 try simp only [World.size_alloc]
 rw [← HW.out]
 (try go_wp2_with fail)
 refine (HOR.out W).mono ?_
 rintro e v1 ⟨⟨r, rfl, hr⟩, hb1⟩
 have K1 := zh hb1
 clear x0 x1 x2 x3 x4 y0 y1 z0 z1
 have HC := zh (fun v (hv : Below W.heap.size W v) => And.intro ((hv.block _ (blk_lt HH.out.1)).trans HH.out.1) (And.intro ((hv.block _ (blk_lt HH.out.2.1)).trans HH.out.2.1) (And.intro ((hv.block _ (blk_lt HH.out.2.2.1)).trans HH.out.2.2.1) ((hv.block _ (blk_lt HH.out.2.2.2)).trans HH.out.2.2.2))))
 obtain ⟨q1, q2, q3, q4⟩ := HC.out v1 hb1
 obtain ⟨x0, x1, x2, x3, x4⟩ := pr_cells (x := ⟨cs, A1, c1, ns, A2, c2, ec, en, ed⟩) q1
 obtain ⟨y0, y1⟩ := fa_cells (a := (k, c)) q2
 obtain ⟨z0, z1⟩ := fa_cells (a := (l, d)) q3
 have f0 := frozen_of_row _ _ 0 _ _ q2; have f1 := frozen_of_row _ _ 1 _ _ q2
 have f2 := frozen_of_row _ _ 0 _ _ q3; have f3 := frozen_of_row _ _ 1 _ _ q3
 dsimp only at x0 x1 x2 x3 x4 y0 y1 z0 z1
 clear hb1 q1 q2 q3 q4
 have HMA := zh ha; have HMB := zh hb
 clear ha hb hpr hgr hH
 by_cases hkl : k = l
 ·subst hkl
  by_cases hcd : c = d
  ·subst hcd
   cases ho : ordF (k, c) (k, c) with
   | false =>
    have gg : decide (0 < r) = false := by rw [hr]; exact ho
    have HJ := zh (show joinF cs (k, c) (k, c) = joinR (k, c) (k, c) (commonE cs c c) from by unfold joinF joinS; rw [ho]; rfl)
    obtain ⟨V, hV⟩ : ∃ v, v = v1 := ⟨_, rfl⟩
    subst hV
    have KW := zh (HAL.out.trans (K1.out.mono HAL.out.size))
    have HF := zh (fun v (hv : Below V.heap.size V v) => HC.out v (K1.out.trans (hv.mono K1.out.size)))
    obtain ⟨e1, e2, e3, e4⟩ := HC.out V K1.out
    have k0 := cell_of_row _ _ 0 _ _ _ e4; have k1 := cell_of_row _ _ 1 _ _ _ e4; have l0 := frozen_of_row _ _ 0 _ _ e4; have l1 := frozen_of_row _ _ 1 _ _ e4
    clear e1 e2 e3 e4
    go_wp2_with fail
    have q4 := (HF.out V (Below.refl _ _)).2.2.2
    have s9 := fa_set (k, c) q4
    have b9 := set_below (b := w.heap.size + 1 + 1 + 1) (k, c) KW.out (by omega)
    dsimp only at s9 b9
    have t0 := cell_of_row _ _ 0 _ _ _ s9; have t1 := cell_of_row _ _ 1 _ _ _ s9
    refine bodyPost_ret (v := .agg #[.int .i64 k, .string ⟨c.toArray⟩]) ?_ rfl ⟨by rw [HJ.out, joinR_same], b9⟩
    simp [results, Try.results18, go_sem, t0, t1]
   | true =>
    have gg : decide (0 < r) = true := by rw [hr]; exact ho
    have HJ := zh (show joinF cs (k, c) (k, c) = joinR (k, c) (k, c) (commonE cs c c) from by unfold joinF joinS; rw [ho]; rfl)
    obtain ⟨V, hV⟩ : ∃ v, v = ((((v1.setCell ⟨w.heap.size + 1, 0, none⟩ (.int .i64 k)).setCell ⟨w.heap.size + 1, 1, none⟩ (.string ⟨c.toArray⟩)).setCell ⟨w.heap.size + 1 + 1, 0, none⟩ (.int .i64 k)).setCell ⟨w.heap.size + 1 + 1, 1, none⟩ (.string ⟨c.toArray⟩)) := ⟨_, rfl⟩
    obtain ⟨e1, e2, e3, e4⟩ := HC.out v1 K1.out
    have w2 := fa_set (k, c) e2
    have w3 := fa_set (w := ((v1.setCell ⟨w.heap.size + 1, 0, none⟩ (.int .i64 k)).setCell ⟨w.heap.size + 1, 1, none⟩ (.string ⟨c.toArray⟩))) (k, c) ((set_other (w := v1) (k, c) (by omega : w.heap.size + 1 + 1 ≠ w.heap.size + 1)).trans e3)
    have v_2 : V.heap[w.heap.size + 1]? = some (.cells #[.int .i64 k, .string ⟨c.toArray⟩] 50 (0, 0)) := by rw [hV]; exact (set_other (k, c) (by omega : w.heap.size + 1 ≠ w.heap.size + 1 + 1)).trans w2
    have v_3 : V.heap[w.heap.size + 1 + 1]? = some (.cells #[.int .i64 k, .string ⟨c.toArray⟩] 50 (0, 0)) := by rw [hV]; exact w3
    have v_1 := (set_other (w := ((v1.setCell ⟨w.heap.size + 1, 0, none⟩ (.int .i64 k)).setCell ⟨w.heap.size + 1, 1, none⟩ (.string ⟨c.toArray⟩))) (k, c) (by omega : w.heap.size ≠ w.heap.size + 1 + 1)).trans ((set_other (w := v1) (k, c) (by omega : w.heap.size ≠ w.heap.size + 1)).trans e1)
    have v_4 := (set_other (w := ((v1.setCell ⟨w.heap.size + 1, 0, none⟩ (.int .i64 k)).setCell ⟨w.heap.size + 1, 1, none⟩ (.string ⟨c.toArray⟩))) (k, c) (by omega : w.heap.size + 1 + 1 + 1 ≠ w.heap.size + 1 + 1)).trans ((set_other (w := v1) (k, c) (by omega : w.heap.size + 1 + 1 + 1 ≠ w.heap.size + 1)).trans e4)
    dsimp only at v_1 v_4
    rw [← hV] at v_1 v_4
    have KW := zh (show Below w.heap.size w V from by rw [hV]; exact set_below (k, c) (set_below (k, c) (HAL.out.trans (K1.out.mono HAL.out.size)) (by omega)) (by omega))
    have HF := zh (fun v (hv : Below V.heap.size V v) => And.intro ((hv.block _ (blk_lt v_1)).trans v_1) (And.intro ((hv.block _ (blk_lt v_2)).trans v_2) (And.intro ((hv.block _ (blk_lt v_3)).trans v_3) ((hv.block _ (blk_lt v_4)).trans v_4))))
    have HV := zh hV
    obtain ⟨i0, i1⟩ := fa_cells (a := (k, c)) v_2
    obtain ⟨j0, j1⟩ := fa_cells (a := (k, c)) v_3
    have k0 := cell_of_row _ _ 0 _ _ _ v_4; have k1 := cell_of_row _ _ 1 _ _ _ v_4; have l0 := frozen_of_row _ _ 0 _ _ v_4; have l1 := frozen_of_row _ _ 1 _ _ v_4
    try dsimp only at i0 i1 j0 j1
    rw [hV] at i0 i1 j0 j1 k0 k1 l0 l1
    clear w2 w3 v_1 v_2 v_3 v_4 hV e1 e2 e3 e4
    go_wp2_with fail
    rw [← HV.out]
    have q4 := (HF.out V (Below.refl _ _)).2.2.2
    have s9 := fa_set (k, c) q4
    have b9 := set_below (b := w.heap.size + 1 + 1 + 1) (k, c) KW.out (by omega)
    dsimp only at s9 b9
    have t0 := cell_of_row _ _ 0 _ _ _ s9; have t1 := cell_of_row _ _ 1 _ _ _ s9
    refine bodyPost_ret (v := .agg #[.int .i64 k, .string ⟨c.toArray⟩]) ?_ rfl ⟨by rw [HJ.out, joinR_same], b9⟩
    simp [results, Try.results18, go_sem, t0, t1]
  ·have hne := hcd
   have hdc : ¬ d = c := fun e => hcd e.symm
   cases ho : ordF (k, c) (k, d) with
   | false =>
    have gg : decide (0 < r) = false := by rw [hr]; exact ho
    have HJ := zh (show joinF cs (k, c) (k, d) = joinR (k, c) (k, d) (commonE cs c d) from by unfold joinF joinS; rw [ho]; rfl)
    obtain ⟨V, hV⟩ : ∃ v, v = v1 := ⟨_, rfl⟩
    subst hV
    have KW := zh (HAL.out.trans (K1.out.mono HAL.out.size))
    have HF := zh (fun v (hv : Below V.heap.size V v) => HC.out v (K1.out.trans (hv.mono K1.out.size)))
    obtain ⟨e1, e2, e3, e4⟩ := HC.out V K1.out
    have k0 := cell_of_row _ _ 0 _ _ _ e4; have k1 := cell_of_row _ _ 1 _ _ _ e4; have l0 := frozen_of_row _ _ 0 _ _ e4; have l1 := frozen_of_row _ _ 1 _ _ e4
    clear e1 e2 e3 e4
    go_wp2_with fail
    clear k0 k1 l0 l1
    try clear x0 x1 x2 x3 x4 y0 y1 z0 z1 f0 f1 f2 f3
    obtain ⟨q1, q2, q3, q4⟩ := HF.out V (Below.refl _ _)
    obtain ⟨x0, x1, x2, x3, x4⟩ := pr_cells (x := ⟨cs, A1, c1, ns, A2, c2, ec, en, ed⟩) q1
    obtain ⟨y0, y1⟩ := fa_cells (a := (k, c)) q2
    obtain ⟨z0, z1⟩ := fa_cells (a := (k, d)) q3
    have f4 := frozen_of_row _ _ 0 _ _ q4; have f5 := frozen_of_row _ _ 1 _ _ q4
    have r0 := cell_of_row _ _ 0 _ _ _ q4; have r1 := cell_of_row _ _ 1 _ _ _ q4
    try dsimp only at x0 x1 x2 x3 x4 y0 y1 z0 z1
    have Q4 := zh q4
    clear q1 q2 q3 q4
    have HNE := zh (show ((k, c) : Fa) ≠ (k, d) from by intro e; injection e with e1 e2; exact hne (e2))
    refine (HIR.out (k, c) V).mono ?_
    rintro e v2 ⟨rfl, hb⟩
    have K2 := zh (show Below V.heap.size V v2 from hb)
    clear hb Q4
    clear x0 x1 x2 x3 x4 y0 y1 z0 z1 f4 f5 r0 r1
    obtain ⟨q1, q2, q3, q4⟩ := HF.out v2 K2.out
    obtain ⟨x0, x1, x2, x3, x4⟩ := pr_cells (x := ⟨cs, A1, c1, ns, A2, c2, ec, en, ed⟩) q1
    obtain ⟨y0, y1⟩ := fa_cells (a := (k, c)) q2
    obtain ⟨z0, z1⟩ := fa_cells (a := (k, d)) q3
    have f4 := frozen_of_row _ _ 0 _ _ q4; have f5 := frozen_of_row _ _ 1 _ _ q4
    have r0 := cell_of_row _ _ 0 _ _ _ q4; have r1 := cell_of_row _ _ 1 _ _ _ q4
    try dsimp only at x0 x1 x2 x3 x4 y0 y1 z0 z1
    have Q4 := zh q4
    clear q1 q2 q3 q4
    dsimp only
    cases iA : isRB k with
    | false =>
     have s9 := fa_set (0, []) Q4.out
     have b9 := set_below (b := w.heap.size + 1 + 1 + 1) (0, []) (KW.out.trans (K2.out.mono KW.out.size)) (by omega)
     dsimp only at s9 b9
     have t0 := cell_of_row _ _ 0 _ _ _ s9; have t1 := cell_of_row _ _ 1 _ _ _ s9
     have B9 := zh b9; have T0 := zh t0; have T1 := zh t1
     clear s9 b9 t0 t1
     (try go_wp2_with fail)
     refine bodyPost_ret (v := .agg #[.int .i64 (0), .string ⟨List.toArray ([])⟩]) ?_ rfl ⟨by rw [HJ.out, joinR_no HNE.out (by simp [iA])], B9.out⟩
     simp [results, Try.results18, go_sem, T0.out, T1.out]
    | true =>
     (try go_wp2_with fail)
     refine (HIR.out (k, d) v2).mono ?_
     rintro e v3 ⟨rfl, hb⟩
     have K3 := zh (then' K2.out hb)
     clear hb Q4
     clear x0 x1 x2 x3 x4 y0 y1 z0 z1 f4 f5 r0 r1
     obtain ⟨q1, q2, q3, q4⟩ := HF.out v3 K3.out
     obtain ⟨x0, x1, x2, x3, x4⟩ := pr_cells (x := ⟨cs, A1, c1, ns, A2, c2, ec, en, ed⟩) q1
     obtain ⟨y0, y1⟩ := fa_cells (a := (k, c)) q2
     obtain ⟨z0, z1⟩ := fa_cells (a := (k, d)) q3
     have f4 := frozen_of_row _ _ 0 _ _ q4; have f5 := frozen_of_row _ _ 1 _ _ q4
     have r0 := cell_of_row _ _ 0 _ _ _ q4; have r1 := cell_of_row _ _ 1 _ _ _ q4
     try dsimp only at x0 x1 x2 x3 x4 y0 y1 z0 z1
     have Q4 := zh q4
     clear q1 q2 q3 q4
     dsimp only
     cases iB : isRB k with
     | false =>
      have s9 := fa_set (0, []) Q4.out
      have b9 := set_below (b := w.heap.size + 1 + 1 + 1) (0, []) (KW.out.trans (K3.out.mono KW.out.size)) (by omega)
      dsimp only at s9 b9
      have t0 := cell_of_row _ _ 0 _ _ _ s9; have t1 := cell_of_row _ _ 1 _ _ _ s9
      have B9 := zh b9; have T0 := zh t0; have T1 := zh t1
      clear s9 b9 t0 t1
      (try go_wp2_with fail)
      refine bodyPost_ret (v := .agg #[.int .i64 (0), .string ⟨List.toArray ([])⟩]) ?_ rfl ⟨by rw [HJ.out, joinR_no HNE.out (by simp [iB])], B9.out⟩
      simp [results, Try.results18, go_sem, T0.out, T1.out]
     | true =>
      have HI := zh (show (!isRB k || !isRB k) = false from by simp [iA, iB])
      cases p2 : (k == 2) with
      | true =>
       have HK := zh (show k = 2 from by simpa using p2)
       have s9 := fa_set (k, d) Q4.out
       have b9 := set_below (b := w.heap.size + 1 + 1 + 1) (k, d) (KW.out.trans (K3.out.mono KW.out.size)) (by omega)
       dsimp only at s9 b9
       have t0 := cell_of_row _ _ 0 _ _ _ s9; have t1 := cell_of_row _ _ 1 _ _ _ s9
       have B9 := zh b9; have T0 := zh t0; have T1 := zh t1
       clear s9 b9 t0 t1
       (try go_wp2_with fail)
       refine bodyPost_ret (v := .agg #[.int .i64 (k), .string ⟨List.toArray (d)⟩]) ?_ rfl ⟨by rw [HJ.out, joinR_nil HNE.out HI.out HK.out], B9.out⟩
       simp [results, Try.results18, go_sem, T0.out, T1.out]
      | false =>
       have HK := zh (show k ≠ 2 from by simpa using p2)
       cases p3 : (k == 3) with
       | false =>
        have HK3 := zh (show k ≠ 3 from by simpa using p3)
        have s9 := fa_set (6, []) Q4.out
        have b9 := set_below (b := w.heap.size + 1 + 1 + 1) (6, []) (KW.out.trans (K3.out.mono KW.out.size)) (by omega)
        dsimp only at s9 b9
        have t0 := cell_of_row _ _ 0 _ _ _ s9; have t1 := cell_of_row _ _ 1 _ _ _ s9
        have B9 := zh b9; have T0 := zh t0; have T1 := zh t1
        clear s9 b9 t0 t1
        (try go_wp2_with fail)
        refine bodyPost_ret (v := .agg #[.int .i64 (6), .string ⟨List.toArray ([])⟩]) ?_ rfl ⟨by rw [HJ.out, joinR_any HNE.out HI.out HK.out (fun h => HK3.out h.1)], B9.out⟩
        simp [results, Try.results18, go_sem, T0.out, T1.out]
       | true =>
        have HK3 := zh (show k = 3 from by simpa using p3)
        have HL3 := HK3
        (try go_wp2_with fail)
        refine (HCO.out c d (HMA.out HK3.out) (HMB.out HL3.out) v3 (KW.out.trans (K3.out.mono KW.out.size))).mono ?_
        rintro e v4 ⟨rfl, hb⟩
        have K4 := zh (then' K3.out hb)
        clear hb Q4
        clear x0 x1 x2 x3 x4 y0 y1 z0 z1 f4 f5 r0 r1
        obtain ⟨q1, q2, q3, q4⟩ := HF.out v4 K4.out
        obtain ⟨x0, x1, x2, x3, x4⟩ := pr_cells (x := ⟨cs, A1, c1, ns, A2, c2, ec, en, ed⟩) q1
        obtain ⟨y0, y1⟩ := fa_cells (a := (k, c)) q2
        obtain ⟨z0, z1⟩ := fa_cells (a := (k, d)) q3
        have f4 := frozen_of_row _ _ 0 _ _ q4; have f5 := frozen_of_row _ _ 1 _ _ q4
        have r0 := cell_of_row _ _ 0 _ _ _ q4; have r1 := cell_of_row _ _ 1 _ _ _ q4
        try dsimp only at x0 x1 x2 x3 x4 y0 y1 z0 z1
        have Q4 := zh q4
        clear q1 q2 q3 q4
        obtain ⟨R, hR⟩ : ∃ r, r = commonE cs c d := ⟨_, rfl⟩
        have HJJ := HJ.out
        rw [← hR] at HJJ ⊢
        have HJJ := zh HJJ
        clear hR
        cases hem : (R == []) with
        | true =>
         have g1 := e_empty hem
         have HEM := zh (show R = [] from by simpa using hem)
         have s9 := fa_set (6, []) Q4.out
         have b9 := set_below (b := w.heap.size + 1 + 1 + 1) (6, []) (KW.out.trans (K4.out.mono KW.out.size)) (by omega)
         dsimp only at s9 b9
         have t0 := cell_of_row _ _ 0 _ _ _ s9; have t1 := cell_of_row _ _ 1 _ _ _ s9
         have B9 := zh b9; have T0 := zh t0; have T1 := zh t1
         clear s9 b9 t0 t1
         (try go_wp2_with fail)
         refine bodyPost_ret (v := .agg #[.int .i64 (6), .string ⟨List.toArray ([])⟩]) ?_ rfl ⟨by rw [HJJ.out, joinR_any HNE.out HI.out HK.out (fun h => h.2.2 HEM.out)], B9.out⟩
         simp [results, Try.results18, go_sem, T0.out, T1.out]
        | false =>
         have g1 := e_empty hem
         have HEM := zh (show R ≠ [] from by intro e; rw [e] at hem; cases hem)
         have s9 := fa_set (3, R) Q4.out
         have b9 := set_below (b := w.heap.size + 1 + 1 + 1) (3, R) (KW.out.trans (K4.out.mono KW.out.size)) (by omega)
         dsimp only at s9 b9
         have t0 := cell_of_row _ _ 0 _ _ _ s9; have t1 := cell_of_row _ _ 1 _ _ _ s9
         have B9 := zh b9; have T0 := zh t0; have T1 := zh t1
         clear s9 b9 t0 t1
         (try go_wp2_with fail)
         refine bodyPost_ret (v := .agg #[.int .i64 (3), .string ⟨List.toArray (R)⟩]) ?_ rfl ⟨by rw [HJJ.out, joinR_ref HNE.out HI.out HK3.out HL3.out HEM.out], B9.out⟩
         simp [results, Try.results18, go_sem, T0.out, T1.out]
   | true =>
    have gg : decide (0 < r) = true := by rw [hr]; exact ho
    have HJ := zh (show joinF cs (k, c) (k, d) = joinR (k, d) (k, c) (commonE cs d c) from by unfold joinF joinS; rw [ho]; rfl)
    obtain ⟨V, hV⟩ : ∃ v, v = ((((v1.setCell ⟨w.heap.size + 1, 0, none⟩ (.int .i64 k)).setCell ⟨w.heap.size + 1, 1, none⟩ (.string ⟨d.toArray⟩)).setCell ⟨w.heap.size + 1 + 1, 0, none⟩ (.int .i64 k)).setCell ⟨w.heap.size + 1 + 1, 1, none⟩ (.string ⟨c.toArray⟩)) := ⟨_, rfl⟩
    obtain ⟨e1, e2, e3, e4⟩ := HC.out v1 K1.out
    have w2 := fa_set (k, d) e2
    have w3 := fa_set (w := ((v1.setCell ⟨w.heap.size + 1, 0, none⟩ (.int .i64 k)).setCell ⟨w.heap.size + 1, 1, none⟩ (.string ⟨d.toArray⟩))) (k, c) ((set_other (w := v1) (k, d) (by omega : w.heap.size + 1 + 1 ≠ w.heap.size + 1)).trans e3)
    have v_2 : V.heap[w.heap.size + 1]? = some (.cells #[.int .i64 k, .string ⟨d.toArray⟩] 50 (0, 0)) := by rw [hV]; exact (set_other (k, c) (by omega : w.heap.size + 1 ≠ w.heap.size + 1 + 1)).trans w2
    have v_3 : V.heap[w.heap.size + 1 + 1]? = some (.cells #[.int .i64 k, .string ⟨c.toArray⟩] 50 (0, 0)) := by rw [hV]; exact w3
    have v_1 := (set_other (w := ((v1.setCell ⟨w.heap.size + 1, 0, none⟩ (.int .i64 k)).setCell ⟨w.heap.size + 1, 1, none⟩ (.string ⟨d.toArray⟩))) (k, c) (by omega : w.heap.size ≠ w.heap.size + 1 + 1)).trans ((set_other (w := v1) (k, d) (by omega : w.heap.size ≠ w.heap.size + 1)).trans e1)
    have v_4 := (set_other (w := ((v1.setCell ⟨w.heap.size + 1, 0, none⟩ (.int .i64 k)).setCell ⟨w.heap.size + 1, 1, none⟩ (.string ⟨d.toArray⟩))) (k, c) (by omega : w.heap.size + 1 + 1 + 1 ≠ w.heap.size + 1 + 1)).trans ((set_other (w := v1) (k, d) (by omega : w.heap.size + 1 + 1 + 1 ≠ w.heap.size + 1)).trans e4)
    dsimp only at v_1 v_4
    rw [← hV] at v_1 v_4
    have KW := zh (show Below w.heap.size w V from by rw [hV]; exact set_below (k, c) (set_below (k, d) (HAL.out.trans (K1.out.mono HAL.out.size)) (by omega)) (by omega))
    have HF := zh (fun v (hv : Below V.heap.size V v) => And.intro ((hv.block _ (blk_lt v_1)).trans v_1) (And.intro ((hv.block _ (blk_lt v_2)).trans v_2) (And.intro ((hv.block _ (blk_lt v_3)).trans v_3) ((hv.block _ (blk_lt v_4)).trans v_4))))
    have HV := zh hV
    obtain ⟨i0, i1⟩ := fa_cells (a := (k, d)) v_2
    obtain ⟨j0, j1⟩ := fa_cells (a := (k, c)) v_3
    have k0 := cell_of_row _ _ 0 _ _ _ v_4; have k1 := cell_of_row _ _ 1 _ _ _ v_4; have l0 := frozen_of_row _ _ 0 _ _ v_4; have l1 := frozen_of_row _ _ 1 _ _ v_4
    try dsimp only at i0 i1 j0 j1
    rw [hV] at i0 i1 j0 j1 k0 k1 l0 l1
    clear w2 w3 v_1 v_2 v_3 v_4 hV e1 e2 e3 e4
    go_wp2_with fail
    rw [← HV.out]
    clear i0 i1 j0 j1 k0 k1 l0 l1
    try clear x0 x1 x2 x3 x4 y0 y1 z0 z1 f0 f1 f2 f3
    obtain ⟨q1, q2, q3, q4⟩ := HF.out V (Below.refl _ _)
    obtain ⟨x0, x1, x2, x3, x4⟩ := pr_cells (x := ⟨cs, A1, c1, ns, A2, c2, ec, en, ed⟩) q1
    obtain ⟨y0, y1⟩ := fa_cells (a := (k, d)) q2
    obtain ⟨z0, z1⟩ := fa_cells (a := (k, c)) q3
    have f4 := frozen_of_row _ _ 0 _ _ q4; have f5 := frozen_of_row _ _ 1 _ _ q4
    have r0 := cell_of_row _ _ 0 _ _ _ q4; have r1 := cell_of_row _ _ 1 _ _ _ q4
    try dsimp only at x0 x1 x2 x3 x4 y0 y1 z0 z1
    have Q4 := zh q4
    clear q1 q2 q3 q4
    have HNE := zh (show ((k, d) : Fa) ≠ (k, c) from by intro e; injection e with e1 e2; exact hne (e2.symm))
    refine (HIR.out (k, d) V).mono ?_
    rintro e v2 ⟨rfl, hb⟩
    have K2 := zh (show Below V.heap.size V v2 from hb)
    clear hb Q4
    clear x0 x1 x2 x3 x4 y0 y1 z0 z1 f4 f5 r0 r1
    obtain ⟨q1, q2, q3, q4⟩ := HF.out v2 K2.out
    obtain ⟨x0, x1, x2, x3, x4⟩ := pr_cells (x := ⟨cs, A1, c1, ns, A2, c2, ec, en, ed⟩) q1
    obtain ⟨y0, y1⟩ := fa_cells (a := (k, d)) q2
    obtain ⟨z0, z1⟩ := fa_cells (a := (k, c)) q3
    have f4 := frozen_of_row _ _ 0 _ _ q4; have f5 := frozen_of_row _ _ 1 _ _ q4
    have r0 := cell_of_row _ _ 0 _ _ _ q4; have r1 := cell_of_row _ _ 1 _ _ _ q4
    try dsimp only at x0 x1 x2 x3 x4 y0 y1 z0 z1
    have Q4 := zh q4
    clear q1 q2 q3 q4
    dsimp only
    cases iA : isRB k with
    | false =>
     have s9 := fa_set (0, []) Q4.out
     have b9 := set_below (b := w.heap.size + 1 + 1 + 1) (0, []) (KW.out.trans (K2.out.mono KW.out.size)) (by omega)
     dsimp only at s9 b9
     have t0 := cell_of_row _ _ 0 _ _ _ s9; have t1 := cell_of_row _ _ 1 _ _ _ s9
     have B9 := zh b9; have T0 := zh t0; have T1 := zh t1
     clear s9 b9 t0 t1
     (try go_wp2_with fail)
     refine bodyPost_ret (v := .agg #[.int .i64 (0), .string ⟨List.toArray ([])⟩]) ?_ rfl ⟨by rw [HJ.out, joinR_no HNE.out (by simp [iA])], B9.out⟩
     simp [results, Try.results18, go_sem, T0.out, T1.out]
    | true =>
     (try go_wp2_with fail)
     refine (HIR.out (k, c) v2).mono ?_
     rintro e v3 ⟨rfl, hb⟩
     have K3 := zh (then' K2.out hb)
     clear hb Q4
     clear x0 x1 x2 x3 x4 y0 y1 z0 z1 f4 f5 r0 r1
     obtain ⟨q1, q2, q3, q4⟩ := HF.out v3 K3.out
     obtain ⟨x0, x1, x2, x3, x4⟩ := pr_cells (x := ⟨cs, A1, c1, ns, A2, c2, ec, en, ed⟩) q1
     obtain ⟨y0, y1⟩ := fa_cells (a := (k, d)) q2
     obtain ⟨z0, z1⟩ := fa_cells (a := (k, c)) q3
     have f4 := frozen_of_row _ _ 0 _ _ q4; have f5 := frozen_of_row _ _ 1 _ _ q4
     have r0 := cell_of_row _ _ 0 _ _ _ q4; have r1 := cell_of_row _ _ 1 _ _ _ q4
     try dsimp only at x0 x1 x2 x3 x4 y0 y1 z0 z1
     have Q4 := zh q4
     clear q1 q2 q3 q4
     dsimp only
     cases iB : isRB k with
     | false =>
      have s9 := fa_set (0, []) Q4.out
      have b9 := set_below (b := w.heap.size + 1 + 1 + 1) (0, []) (KW.out.trans (K3.out.mono KW.out.size)) (by omega)
      dsimp only at s9 b9
      have t0 := cell_of_row _ _ 0 _ _ _ s9; have t1 := cell_of_row _ _ 1 _ _ _ s9
      have B9 := zh b9; have T0 := zh t0; have T1 := zh t1
      clear s9 b9 t0 t1
      (try go_wp2_with fail)
      refine bodyPost_ret (v := .agg #[.int .i64 (0), .string ⟨List.toArray ([])⟩]) ?_ rfl ⟨by rw [HJ.out, joinR_no HNE.out (by simp [iB])], B9.out⟩
      simp [results, Try.results18, go_sem, T0.out, T1.out]
     | true =>
      have HI := zh (show (!isRB k || !isRB k) = false from by simp [iA, iB])
      cases p2 : (k == 2) with
      | true =>
       have HK := zh (show k = 2 from by simpa using p2)
       have s9 := fa_set (k, c) Q4.out
       have b9 := set_below (b := w.heap.size + 1 + 1 + 1) (k, c) (KW.out.trans (K3.out.mono KW.out.size)) (by omega)
       dsimp only at s9 b9
       have t0 := cell_of_row _ _ 0 _ _ _ s9; have t1 := cell_of_row _ _ 1 _ _ _ s9
       have B9 := zh b9; have T0 := zh t0; have T1 := zh t1
       clear s9 b9 t0 t1
       (try go_wp2_with fail)
       refine bodyPost_ret (v := .agg #[.int .i64 (k), .string ⟨List.toArray (c)⟩]) ?_ rfl ⟨by rw [HJ.out, joinR_nil HNE.out HI.out HK.out], B9.out⟩
       simp [results, Try.results18, go_sem, T0.out, T1.out]
      | false =>
       have HK := zh (show k ≠ 2 from by simpa using p2)
       cases p3 : (k == 3) with
       | false =>
        have HK3 := zh (show k ≠ 3 from by simpa using p3)
        have s9 := fa_set (6, []) Q4.out
        have b9 := set_below (b := w.heap.size + 1 + 1 + 1) (6, []) (KW.out.trans (K3.out.mono KW.out.size)) (by omega)
        dsimp only at s9 b9
        have t0 := cell_of_row _ _ 0 _ _ _ s9; have t1 := cell_of_row _ _ 1 _ _ _ s9
        have B9 := zh b9; have T0 := zh t0; have T1 := zh t1
        clear s9 b9 t0 t1
        (try go_wp2_with fail)
        refine bodyPost_ret (v := .agg #[.int .i64 (6), .string ⟨List.toArray ([])⟩]) ?_ rfl ⟨by rw [HJ.out, joinR_any HNE.out HI.out HK.out (fun h => HK3.out h.1)], B9.out⟩
        simp [results, Try.results18, go_sem, T0.out, T1.out]
       | true =>
        have HK3 := zh (show k = 3 from by simpa using p3)
        have HL3 := HK3
        (try go_wp2_with fail)
        refine (HCO.out d c (HMB.out HK3.out) (HMA.out HL3.out) v3 (KW.out.trans (K3.out.mono KW.out.size))).mono ?_
        rintro e v4 ⟨rfl, hb⟩
        have K4 := zh (then' K3.out hb)
        clear hb Q4
        clear x0 x1 x2 x3 x4 y0 y1 z0 z1 f4 f5 r0 r1
        obtain ⟨q1, q2, q3, q4⟩ := HF.out v4 K4.out
        obtain ⟨x0, x1, x2, x3, x4⟩ := pr_cells (x := ⟨cs, A1, c1, ns, A2, c2, ec, en, ed⟩) q1
        obtain ⟨y0, y1⟩ := fa_cells (a := (k, d)) q2
        obtain ⟨z0, z1⟩ := fa_cells (a := (k, c)) q3
        have f4 := frozen_of_row _ _ 0 _ _ q4; have f5 := frozen_of_row _ _ 1 _ _ q4
        have r0 := cell_of_row _ _ 0 _ _ _ q4; have r1 := cell_of_row _ _ 1 _ _ _ q4
        try dsimp only at x0 x1 x2 x3 x4 y0 y1 z0 z1
        have Q4 := zh q4
        clear q1 q2 q3 q4
        obtain ⟨R, hR⟩ : ∃ r, r = commonE cs d c := ⟨_, rfl⟩
        have HJJ := HJ.out
        rw [← hR] at HJJ ⊢
        have HJJ := zh HJJ
        clear hR
        cases hem : (R == []) with
        | true =>
         have g1 := e_empty hem
         have HEM := zh (show R = [] from by simpa using hem)
         have s9 := fa_set (6, []) Q4.out
         have b9 := set_below (b := w.heap.size + 1 + 1 + 1) (6, []) (KW.out.trans (K4.out.mono KW.out.size)) (by omega)
         dsimp only at s9 b9
         have t0 := cell_of_row _ _ 0 _ _ _ s9; have t1 := cell_of_row _ _ 1 _ _ _ s9
         have B9 := zh b9; have T0 := zh t0; have T1 := zh t1
         clear s9 b9 t0 t1
         (try go_wp2_with fail)
         refine bodyPost_ret (v := .agg #[.int .i64 (6), .string ⟨List.toArray ([])⟩]) ?_ rfl ⟨by rw [HJJ.out, joinR_any HNE.out HI.out HK.out (fun h => h.2.2 HEM.out)], B9.out⟩
         simp [results, Try.results18, go_sem, T0.out, T1.out]
        | false =>
         have g1 := e_empty hem
         have HEM := zh (show R ≠ [] from by intro e; rw [e] at hem; cases hem)
         have s9 := fa_set (3, R) Q4.out
         have b9 := set_below (b := w.heap.size + 1 + 1 + 1) (3, R) (KW.out.trans (K4.out.mono KW.out.size)) (by omega)
         dsimp only at s9 b9
         have t0 := cell_of_row _ _ 0 _ _ _ s9; have t1 := cell_of_row _ _ 1 _ _ _ s9
         have B9 := zh b9; have T0 := zh t0; have T1 := zh t1
         clear s9 b9 t0 t1
         (try go_wp2_with fail)
         refine bodyPost_ret (v := .agg #[.int .i64 (3), .string ⟨List.toArray (R)⟩]) ?_ rfl ⟨by rw [HJJ.out, joinR_ref HNE.out HI.out HK3.out HL3.out HEM.out], B9.out⟩
         simp [results, Try.results18, go_sem, T0.out, T1.out]
 ·have hne := hkl
  have hlk : ¬ l = k := fun e => hkl e.symm
  cases ho : ordF (k, c) (l, d) with
  | false =>
   have gg : decide (0 < r) = false := by rw [hr]; exact ho
   have HJ := zh (show joinF cs (k, c) (l, d) = joinR (k, c) (l, d) (commonE cs c d) from by unfold joinF joinS; rw [ho]; rfl)
   obtain ⟨V, hV⟩ : ∃ v, v = v1 := ⟨_, rfl⟩
   subst hV
   have KW := zh (HAL.out.trans (K1.out.mono HAL.out.size))
   have HF := zh (fun v (hv : Below V.heap.size V v) => HC.out v (K1.out.trans (hv.mono K1.out.size)))
   obtain ⟨e1, e2, e3, e4⟩ := HC.out V K1.out
   have k0 := cell_of_row _ _ 0 _ _ _ e4; have k1 := cell_of_row _ _ 1 _ _ _ e4; have l0 := frozen_of_row _ _ 0 _ _ e4; have l1 := frozen_of_row _ _ 1 _ _ e4
   clear e1 e2 e3 e4
   go_wp2_with fail
   clear k0 k1 l0 l1
   try clear x0 x1 x2 x3 x4 y0 y1 z0 z1 f0 f1 f2 f3
   obtain ⟨q1, q2, q3, q4⟩ := HF.out V (Below.refl _ _)
   obtain ⟨x0, x1, x2, x3, x4⟩ := pr_cells (x := ⟨cs, A1, c1, ns, A2, c2, ec, en, ed⟩) q1
   obtain ⟨y0, y1⟩ := fa_cells (a := (k, c)) q2
   obtain ⟨z0, z1⟩ := fa_cells (a := (l, d)) q3
   have f4 := frozen_of_row _ _ 0 _ _ q4; have f5 := frozen_of_row _ _ 1 _ _ q4
   have r0 := cell_of_row _ _ 0 _ _ _ q4; have r1 := cell_of_row _ _ 1 _ _ _ q4
   try dsimp only at x0 x1 x2 x3 x4 y0 y1 z0 z1
   have Q4 := zh q4
   clear q1 q2 q3 q4
   have HNE := zh (show ((k, c) : Fa) ≠ (l, d) from by intro e; injection e with e1 e2; exact hne (e1))
   refine (HIR.out (k, c) V).mono ?_
   rintro e v2 ⟨rfl, hb⟩
   have K2 := zh (show Below V.heap.size V v2 from hb)
   clear hb Q4
   clear x0 x1 x2 x3 x4 y0 y1 z0 z1 f4 f5 r0 r1
   obtain ⟨q1, q2, q3, q4⟩ := HF.out v2 K2.out
   obtain ⟨x0, x1, x2, x3, x4⟩ := pr_cells (x := ⟨cs, A1, c1, ns, A2, c2, ec, en, ed⟩) q1
   obtain ⟨y0, y1⟩ := fa_cells (a := (k, c)) q2
   obtain ⟨z0, z1⟩ := fa_cells (a := (l, d)) q3
   have f4 := frozen_of_row _ _ 0 _ _ q4; have f5 := frozen_of_row _ _ 1 _ _ q4
   have r0 := cell_of_row _ _ 0 _ _ _ q4; have r1 := cell_of_row _ _ 1 _ _ _ q4
   try dsimp only at x0 x1 x2 x3 x4 y0 y1 z0 z1
   have Q4 := zh q4
   clear q1 q2 q3 q4
   dsimp only
   cases iA : isRB k with
   | false =>
    have s9 := fa_set (0, []) Q4.out
    have b9 := set_below (b := w.heap.size + 1 + 1 + 1) (0, []) (KW.out.trans (K2.out.mono KW.out.size)) (by omega)
    dsimp only at s9 b9
    have t0 := cell_of_row _ _ 0 _ _ _ s9; have t1 := cell_of_row _ _ 1 _ _ _ s9
    have B9 := zh b9; have T0 := zh t0; have T1 := zh t1
    clear s9 b9 t0 t1
    (try go_wp2_with fail)
    refine bodyPost_ret (v := .agg #[.int .i64 (0), .string ⟨List.toArray ([])⟩]) ?_ rfl ⟨by rw [HJ.out, joinR_no HNE.out (by simp [iA])], B9.out⟩
    simp [results, Try.results18, go_sem, T0.out, T1.out]
   | true =>
    (try go_wp2_with fail)
    refine (HIR.out (l, d) v2).mono ?_
    rintro e v3 ⟨rfl, hb⟩
    have K3 := zh (then' K2.out hb)
    clear hb Q4
    clear x0 x1 x2 x3 x4 y0 y1 z0 z1 f4 f5 r0 r1
    obtain ⟨q1, q2, q3, q4⟩ := HF.out v3 K3.out
    obtain ⟨x0, x1, x2, x3, x4⟩ := pr_cells (x := ⟨cs, A1, c1, ns, A2, c2, ec, en, ed⟩) q1
    obtain ⟨y0, y1⟩ := fa_cells (a := (k, c)) q2
    obtain ⟨z0, z1⟩ := fa_cells (a := (l, d)) q3
    have f4 := frozen_of_row _ _ 0 _ _ q4; have f5 := frozen_of_row _ _ 1 _ _ q4
    have r0 := cell_of_row _ _ 0 _ _ _ q4; have r1 := cell_of_row _ _ 1 _ _ _ q4
    try dsimp only at x0 x1 x2 x3 x4 y0 y1 z0 z1
    have Q4 := zh q4
    clear q1 q2 q3 q4
    dsimp only
    cases iB : isRB l with
    | false =>
     have s9 := fa_set (0, []) Q4.out
     have b9 := set_below (b := w.heap.size + 1 + 1 + 1) (0, []) (KW.out.trans (K3.out.mono KW.out.size)) (by omega)
     dsimp only at s9 b9
     have t0 := cell_of_row _ _ 0 _ _ _ s9; have t1 := cell_of_row _ _ 1 _ _ _ s9
     have B9 := zh b9; have T0 := zh t0; have T1 := zh t1
     clear s9 b9 t0 t1
     (try go_wp2_with fail)
     refine bodyPost_ret (v := .agg #[.int .i64 (0), .string ⟨List.toArray ([])⟩]) ?_ rfl ⟨by rw [HJ.out, joinR_no HNE.out (by simp [iB])], B9.out⟩
     simp [results, Try.results18, go_sem, T0.out, T1.out]
    | true =>
     have HI := zh (show (!isRB k || !isRB l) = false from by simp [iA, iB])
     cases p2 : (k == 2) with
     | true =>
      have HK := zh (show k = 2 from by simpa using p2)
      have s9 := fa_set (l, d) Q4.out
      have b9 := set_below (b := w.heap.size + 1 + 1 + 1) (l, d) (KW.out.trans (K3.out.mono KW.out.size)) (by omega)
      dsimp only at s9 b9
      have t0 := cell_of_row _ _ 0 _ _ _ s9; have t1 := cell_of_row _ _ 1 _ _ _ s9
      have B9 := zh b9; have T0 := zh t0; have T1 := zh t1
      clear s9 b9 t0 t1
      (try go_wp2_with fail)
      refine bodyPost_ret (v := .agg #[.int .i64 (l), .string ⟨List.toArray (d)⟩]) ?_ rfl ⟨by rw [HJ.out, joinR_nil HNE.out HI.out HK.out], B9.out⟩
      simp [results, Try.results18, go_sem, T0.out, T1.out]
     | false =>
      have HK := zh (show k ≠ 2 from by simpa using p2)
      cases p3 : (k == 3) with
      | false =>
       have HK3 := zh (show k ≠ 3 from by simpa using p3)
       have s9 := fa_set (6, []) Q4.out
       have b9 := set_below (b := w.heap.size + 1 + 1 + 1) (6, []) (KW.out.trans (K3.out.mono KW.out.size)) (by omega)
       dsimp only at s9 b9
       have t0 := cell_of_row _ _ 0 _ _ _ s9; have t1 := cell_of_row _ _ 1 _ _ _ s9
       have B9 := zh b9; have T0 := zh t0; have T1 := zh t1
       clear s9 b9 t0 t1
       (try go_wp2_with fail)
       refine bodyPost_ret (v := .agg #[.int .i64 (6), .string ⟨List.toArray ([])⟩]) ?_ rfl ⟨by rw [HJ.out, joinR_any HNE.out HI.out HK.out (fun h => HK3.out h.1)], B9.out⟩
       simp [results, Try.results18, go_sem, T0.out, T1.out]
      | true =>
       have HK3 := zh (show k = 3 from by simpa using p3)
       cases l3 : (l == 3) with
       | false =>
        have HL3 := zh (show l ≠ 3 from by simpa using l3)
        have s9 := fa_set (6, []) Q4.out
        have b9 := set_below (b := w.heap.size + 1 + 1 + 1) (6, []) (KW.out.trans (K3.out.mono KW.out.size)) (by omega)
        dsimp only at s9 b9
        have t0 := cell_of_row _ _ 0 _ _ _ s9; have t1 := cell_of_row _ _ 1 _ _ _ s9
        have B9 := zh b9; have T0 := zh t0; have T1 := zh t1
        clear s9 b9 t0 t1
        (try go_wp2_with fail)
        refine bodyPost_ret (v := .agg #[.int .i64 (6), .string ⟨List.toArray ([])⟩]) ?_ rfl ⟨by rw [HJ.out, joinR_any HNE.out HI.out HK.out (fun h => HL3.out h.2.1)], B9.out⟩
        simp [results, Try.results18, go_sem, T0.out, T1.out]
       | true =>
        have HL3 := zh (show l = 3 from by simpa using l3)
        (try go_wp2_with fail)
        refine (HCO.out c d (HMA.out HK3.out) (HMB.out HL3.out) v3 (KW.out.trans (K3.out.mono KW.out.size))).mono ?_
        rintro e v4 ⟨rfl, hb⟩
        have K4 := zh (then' K3.out hb)
        clear hb Q4
        clear x0 x1 x2 x3 x4 y0 y1 z0 z1 f4 f5 r0 r1
        obtain ⟨q1, q2, q3, q4⟩ := HF.out v4 K4.out
        obtain ⟨x0, x1, x2, x3, x4⟩ := pr_cells (x := ⟨cs, A1, c1, ns, A2, c2, ec, en, ed⟩) q1
        obtain ⟨y0, y1⟩ := fa_cells (a := (k, c)) q2
        obtain ⟨z0, z1⟩ := fa_cells (a := (l, d)) q3
        have f4 := frozen_of_row _ _ 0 _ _ q4; have f5 := frozen_of_row _ _ 1 _ _ q4
        have r0 := cell_of_row _ _ 0 _ _ _ q4; have r1 := cell_of_row _ _ 1 _ _ _ q4
        try dsimp only at x0 x1 x2 x3 x4 y0 y1 z0 z1
        have Q4 := zh q4
        clear q1 q2 q3 q4
        obtain ⟨R, hR⟩ : ∃ r, r = commonE cs c d := ⟨_, rfl⟩
        have HJJ := HJ.out
        rw [← hR] at HJJ ⊢
        have HJJ := zh HJJ
        clear hR
        cases hem : (R == []) with
        | true =>
         have g1 := e_empty hem
         have HEM := zh (show R = [] from by simpa using hem)
         have s9 := fa_set (6, []) Q4.out
         have b9 := set_below (b := w.heap.size + 1 + 1 + 1) (6, []) (KW.out.trans (K4.out.mono KW.out.size)) (by omega)
         dsimp only at s9 b9
         have t0 := cell_of_row _ _ 0 _ _ _ s9; have t1 := cell_of_row _ _ 1 _ _ _ s9
         have B9 := zh b9; have T0 := zh t0; have T1 := zh t1
         clear s9 b9 t0 t1
         (try go_wp2_with fail)
         refine bodyPost_ret (v := .agg #[.int .i64 (6), .string ⟨List.toArray ([])⟩]) ?_ rfl ⟨by rw [HJJ.out, joinR_any HNE.out HI.out HK.out (fun h => h.2.2 HEM.out)], B9.out⟩
         simp [results, Try.results18, go_sem, T0.out, T1.out]
        | false =>
         have g1 := e_empty hem
         have HEM := zh (show R ≠ [] from by intro e; rw [e] at hem; cases hem)
         have s9 := fa_set (3, R) Q4.out
         have b9 := set_below (b := w.heap.size + 1 + 1 + 1) (3, R) (KW.out.trans (K4.out.mono KW.out.size)) (by omega)
         dsimp only at s9 b9
         have t0 := cell_of_row _ _ 0 _ _ _ s9; have t1 := cell_of_row _ _ 1 _ _ _ s9
         have B9 := zh b9; have T0 := zh t0; have T1 := zh t1
         clear s9 b9 t0 t1
         (try go_wp2_with fail)
         refine bodyPost_ret (v := .agg #[.int .i64 (3), .string ⟨List.toArray (R)⟩]) ?_ rfl ⟨by rw [HJJ.out, joinR_ref HNE.out HI.out HK3.out HL3.out HEM.out], B9.out⟩
         simp [results, Try.results18, go_sem, T0.out, T1.out]
  | true =>
   have gg : decide (0 < r) = true := by rw [hr]; exact ho
   have HJ := zh (show joinF cs (k, c) (l, d) = joinR (l, d) (k, c) (commonE cs d c) from by unfold joinF joinS; rw [ho]; rfl)
   obtain ⟨V, hV⟩ : ∃ v, v = ((((v1.setCell ⟨w.heap.size + 1, 0, none⟩ (.int .i64 l)).setCell ⟨w.heap.size + 1, 1, none⟩ (.string ⟨d.toArray⟩)).setCell ⟨w.heap.size + 1 + 1, 0, none⟩ (.int .i64 k)).setCell ⟨w.heap.size + 1 + 1, 1, none⟩ (.string ⟨c.toArray⟩)) := ⟨_, rfl⟩
   obtain ⟨e1, e2, e3, e4⟩ := HC.out v1 K1.out
   have w2 := fa_set (l, d) e2
   have w3 := fa_set (w := ((v1.setCell ⟨w.heap.size + 1, 0, none⟩ (.int .i64 l)).setCell ⟨w.heap.size + 1, 1, none⟩ (.string ⟨d.toArray⟩))) (k, c) ((set_other (w := v1) (l, d) (by omega : w.heap.size + 1 + 1 ≠ w.heap.size + 1)).trans e3)
   have v_2 : V.heap[w.heap.size + 1]? = some (.cells #[.int .i64 l, .string ⟨d.toArray⟩] 50 (0, 0)) := by rw [hV]; exact (set_other (k, c) (by omega : w.heap.size + 1 ≠ w.heap.size + 1 + 1)).trans w2
   have v_3 : V.heap[w.heap.size + 1 + 1]? = some (.cells #[.int .i64 k, .string ⟨c.toArray⟩] 50 (0, 0)) := by rw [hV]; exact w3
   have v_1 := (set_other (w := ((v1.setCell ⟨w.heap.size + 1, 0, none⟩ (.int .i64 l)).setCell ⟨w.heap.size + 1, 1, none⟩ (.string ⟨d.toArray⟩))) (k, c) (by omega : w.heap.size ≠ w.heap.size + 1 + 1)).trans ((set_other (w := v1) (l, d) (by omega : w.heap.size ≠ w.heap.size + 1)).trans e1)
   have v_4 := (set_other (w := ((v1.setCell ⟨w.heap.size + 1, 0, none⟩ (.int .i64 l)).setCell ⟨w.heap.size + 1, 1, none⟩ (.string ⟨d.toArray⟩))) (k, c) (by omega : w.heap.size + 1 + 1 + 1 ≠ w.heap.size + 1 + 1)).trans ((set_other (w := v1) (l, d) (by omega : w.heap.size + 1 + 1 + 1 ≠ w.heap.size + 1)).trans e4)
   dsimp only at v_1 v_4
   rw [← hV] at v_1 v_4
   have KW := zh (show Below w.heap.size w V from by rw [hV]; exact set_below (k, c) (set_below (l, d) (HAL.out.trans (K1.out.mono HAL.out.size)) (by omega)) (by omega))
   have HF := zh (fun v (hv : Below V.heap.size V v) => And.intro ((hv.block _ (blk_lt v_1)).trans v_1) (And.intro ((hv.block _ (blk_lt v_2)).trans v_2) (And.intro ((hv.block _ (blk_lt v_3)).trans v_3) ((hv.block _ (blk_lt v_4)).trans v_4))))
   have HV := zh hV
   obtain ⟨i0, i1⟩ := fa_cells (a := (l, d)) v_2
   obtain ⟨j0, j1⟩ := fa_cells (a := (k, c)) v_3
   have k0 := cell_of_row _ _ 0 _ _ _ v_4; have k1 := cell_of_row _ _ 1 _ _ _ v_4; have l0 := frozen_of_row _ _ 0 _ _ v_4; have l1 := frozen_of_row _ _ 1 _ _ v_4
   try dsimp only at i0 i1 j0 j1
   rw [hV] at i0 i1 j0 j1 k0 k1 l0 l1
   clear w2 w3 v_1 v_2 v_3 v_4 hV e1 e2 e3 e4
   go_wp2_with fail
   rw [← HV.out]
   clear i0 i1 j0 j1 k0 k1 l0 l1
   try clear x0 x1 x2 x3 x4 y0 y1 z0 z1 f0 f1 f2 f3
   obtain ⟨q1, q2, q3, q4⟩ := HF.out V (Below.refl _ _)
   obtain ⟨x0, x1, x2, x3, x4⟩ := pr_cells (x := ⟨cs, A1, c1, ns, A2, c2, ec, en, ed⟩) q1
   obtain ⟨y0, y1⟩ := fa_cells (a := (l, d)) q2
   obtain ⟨z0, z1⟩ := fa_cells (a := (k, c)) q3
   have f4 := frozen_of_row _ _ 0 _ _ q4; have f5 := frozen_of_row _ _ 1 _ _ q4
   have r0 := cell_of_row _ _ 0 _ _ _ q4; have r1 := cell_of_row _ _ 1 _ _ _ q4
   try dsimp only at x0 x1 x2 x3 x4 y0 y1 z0 z1
   have Q4 := zh q4
   clear q1 q2 q3 q4
   have HNE := zh (show ((l, d) : Fa) ≠ (k, c) from by intro e; injection e with e1 e2; exact hne (e1.symm))
   refine (HIR.out (l, d) V).mono ?_
   rintro e v2 ⟨rfl, hb⟩
   have K2 := zh (show Below V.heap.size V v2 from hb)
   clear hb Q4
   clear x0 x1 x2 x3 x4 y0 y1 z0 z1 f4 f5 r0 r1
   obtain ⟨q1, q2, q3, q4⟩ := HF.out v2 K2.out
   obtain ⟨x0, x1, x2, x3, x4⟩ := pr_cells (x := ⟨cs, A1, c1, ns, A2, c2, ec, en, ed⟩) q1
   obtain ⟨y0, y1⟩ := fa_cells (a := (l, d)) q2
   obtain ⟨z0, z1⟩ := fa_cells (a := (k, c)) q3
   have f4 := frozen_of_row _ _ 0 _ _ q4; have f5 := frozen_of_row _ _ 1 _ _ q4
   have r0 := cell_of_row _ _ 0 _ _ _ q4; have r1 := cell_of_row _ _ 1 _ _ _ q4
   try dsimp only at x0 x1 x2 x3 x4 y0 y1 z0 z1
   have Q4 := zh q4
   clear q1 q2 q3 q4
   dsimp only
   cases iA : isRB l with
   | false =>
    have s9 := fa_set (0, []) Q4.out
    have b9 := set_below (b := w.heap.size + 1 + 1 + 1) (0, []) (KW.out.trans (K2.out.mono KW.out.size)) (by omega)
    dsimp only at s9 b9
    have t0 := cell_of_row _ _ 0 _ _ _ s9; have t1 := cell_of_row _ _ 1 _ _ _ s9
    have B9 := zh b9; have T0 := zh t0; have T1 := zh t1
    clear s9 b9 t0 t1
    (try go_wp2_with fail)
    refine bodyPost_ret (v := .agg #[.int .i64 (0), .string ⟨List.toArray ([])⟩]) ?_ rfl ⟨by rw [HJ.out, joinR_no HNE.out (by simp [iA])], B9.out⟩
    simp [results, Try.results18, go_sem, T0.out, T1.out]
   | true =>
    (try go_wp2_with fail)
    refine (HIR.out (k, c) v2).mono ?_
    rintro e v3 ⟨rfl, hb⟩
    have K3 := zh (then' K2.out hb)
    clear hb Q4
    clear x0 x1 x2 x3 x4 y0 y1 z0 z1 f4 f5 r0 r1
    obtain ⟨q1, q2, q3, q4⟩ := HF.out v3 K3.out
    obtain ⟨x0, x1, x2, x3, x4⟩ := pr_cells (x := ⟨cs, A1, c1, ns, A2, c2, ec, en, ed⟩) q1
    obtain ⟨y0, y1⟩ := fa_cells (a := (l, d)) q2
    obtain ⟨z0, z1⟩ := fa_cells (a := (k, c)) q3
    have f4 := frozen_of_row _ _ 0 _ _ q4; have f5 := frozen_of_row _ _ 1 _ _ q4
    have r0 := cell_of_row _ _ 0 _ _ _ q4; have r1 := cell_of_row _ _ 1 _ _ _ q4
    try dsimp only at x0 x1 x2 x3 x4 y0 y1 z0 z1
    have Q4 := zh q4
    clear q1 q2 q3 q4
    dsimp only
    cases iB : isRB k with
    | false =>
     have s9 := fa_set (0, []) Q4.out
     have b9 := set_below (b := w.heap.size + 1 + 1 + 1) (0, []) (KW.out.trans (K3.out.mono KW.out.size)) (by omega)
     dsimp only at s9 b9
     have t0 := cell_of_row _ _ 0 _ _ _ s9; have t1 := cell_of_row _ _ 1 _ _ _ s9
     have B9 := zh b9; have T0 := zh t0; have T1 := zh t1
     clear s9 b9 t0 t1
     (try go_wp2_with fail)
     refine bodyPost_ret (v := .agg #[.int .i64 (0), .string ⟨List.toArray ([])⟩]) ?_ rfl ⟨by rw [HJ.out, joinR_no HNE.out (by simp [iB])], B9.out⟩
     simp [results, Try.results18, go_sem, T0.out, T1.out]
    | true =>
     have HI := zh (show (!isRB l || !isRB k) = false from by simp [iA, iB])
     cases p2 : (l == 2) with
     | true =>
      have HK := zh (show l = 2 from by simpa using p2)
      have s9 := fa_set (k, c) Q4.out
      have b9 := set_below (b := w.heap.size + 1 + 1 + 1) (k, c) (KW.out.trans (K3.out.mono KW.out.size)) (by omega)
      dsimp only at s9 b9
      have t0 := cell_of_row _ _ 0 _ _ _ s9; have t1 := cell_of_row _ _ 1 _ _ _ s9
      have B9 := zh b9; have T0 := zh t0; have T1 := zh t1
      clear s9 b9 t0 t1
      (try go_wp2_with fail)
      refine bodyPost_ret (v := .agg #[.int .i64 (k), .string ⟨List.toArray (c)⟩]) ?_ rfl ⟨by rw [HJ.out, joinR_nil HNE.out HI.out HK.out], B9.out⟩
      simp [results, Try.results18, go_sem, T0.out, T1.out]
     | false =>
      have HK := zh (show l ≠ 2 from by simpa using p2)
      cases p3 : (l == 3) with
      | false =>
       have HK3 := zh (show l ≠ 3 from by simpa using p3)
       have s9 := fa_set (6, []) Q4.out
       have b9 := set_below (b := w.heap.size + 1 + 1 + 1) (6, []) (KW.out.trans (K3.out.mono KW.out.size)) (by omega)
       dsimp only at s9 b9
       have t0 := cell_of_row _ _ 0 _ _ _ s9; have t1 := cell_of_row _ _ 1 _ _ _ s9
       have B9 := zh b9; have T0 := zh t0; have T1 := zh t1
       clear s9 b9 t0 t1
       (try go_wp2_with fail)
       refine bodyPost_ret (v := .agg #[.int .i64 (6), .string ⟨List.toArray ([])⟩]) ?_ rfl ⟨by rw [HJ.out, joinR_any HNE.out HI.out HK.out (fun h => HK3.out h.1)], B9.out⟩
       simp [results, Try.results18, go_sem, T0.out, T1.out]
      | true =>
       have HK3 := zh (show l = 3 from by simpa using p3)
       cases l3 : (k == 3) with
       | false =>
        have HL3 := zh (show k ≠ 3 from by simpa using l3)
        have s9 := fa_set (6, []) Q4.out
        have b9 := set_below (b := w.heap.size + 1 + 1 + 1) (6, []) (KW.out.trans (K3.out.mono KW.out.size)) (by omega)
        dsimp only at s9 b9
        have t0 := cell_of_row _ _ 0 _ _ _ s9; have t1 := cell_of_row _ _ 1 _ _ _ s9
        have B9 := zh b9; have T0 := zh t0; have T1 := zh t1
        clear s9 b9 t0 t1
        (try go_wp2_with fail)
        refine bodyPost_ret (v := .agg #[.int .i64 (6), .string ⟨List.toArray ([])⟩]) ?_ rfl ⟨by rw [HJ.out, joinR_any HNE.out HI.out HK.out (fun h => HL3.out h.2.1)], B9.out⟩
        simp [results, Try.results18, go_sem, T0.out, T1.out]
       | true =>
        have HL3 := zh (show k = 3 from by simpa using l3)
        (try go_wp2_with fail)
        refine (HCO.out d c (HMB.out HK3.out) (HMA.out HL3.out) v3 (KW.out.trans (K3.out.mono KW.out.size))).mono ?_
        rintro e v4 ⟨rfl, hb⟩
        have K4 := zh (then' K3.out hb)
        clear hb Q4
        clear x0 x1 x2 x3 x4 y0 y1 z0 z1 f4 f5 r0 r1
        obtain ⟨q1, q2, q3, q4⟩ := HF.out v4 K4.out
        obtain ⟨x0, x1, x2, x3, x4⟩ := pr_cells (x := ⟨cs, A1, c1, ns, A2, c2, ec, en, ed⟩) q1
        obtain ⟨y0, y1⟩ := fa_cells (a := (l, d)) q2
        obtain ⟨z0, z1⟩ := fa_cells (a := (k, c)) q3
        have f4 := frozen_of_row _ _ 0 _ _ q4; have f5 := frozen_of_row _ _ 1 _ _ q4
        have r0 := cell_of_row _ _ 0 _ _ _ q4; have r1 := cell_of_row _ _ 1 _ _ _ q4
        try dsimp only at x0 x1 x2 x3 x4 y0 y1 z0 z1
        have Q4 := zh q4
        clear q1 q2 q3 q4
        obtain ⟨R, hR⟩ : ∃ r, r = commonE cs d c := ⟨_, rfl⟩
        have HJJ := HJ.out
        rw [← hR] at HJJ ⊢
        have HJJ := zh HJJ
        clear hR
        cases hem : (R == []) with
        | true =>
         have g1 := e_empty hem
         have HEM := zh (show R = [] from by simpa using hem)
         have s9 := fa_set (6, []) Q4.out
         have b9 := set_below (b := w.heap.size + 1 + 1 + 1) (6, []) (KW.out.trans (K4.out.mono KW.out.size)) (by omega)
         dsimp only at s9 b9
         have t0 := cell_of_row _ _ 0 _ _ _ s9; have t1 := cell_of_row _ _ 1 _ _ _ s9
         have B9 := zh b9; have T0 := zh t0; have T1 := zh t1
         clear s9 b9 t0 t1
         (try go_wp2_with fail)
         refine bodyPost_ret (v := .agg #[.int .i64 (6), .string ⟨List.toArray ([])⟩]) ?_ rfl ⟨by rw [HJJ.out, joinR_any HNE.out HI.out HK.out (fun h => h.2.2 HEM.out)], B9.out⟩
         simp [results, Try.results18, go_sem, T0.out, T1.out]
        | false =>
         have g1 := e_empty hem
         have HEM := zh (show R ≠ [] from by intro e; rw [e] at hem; cases hem)
         have s9 := fa_set (3, R) Q4.out
         have b9 := set_below (b := w.heap.size + 1 + 1 + 1) (3, R) (KW.out.trans (K4.out.mono KW.out.size)) (by omega)
         dsimp only at s9 b9
         have t0 := cell_of_row _ _ 0 _ _ _ s9; have t1 := cell_of_row _ _ 1 _ _ _ s9
         have B9 := zh b9; have T0 := zh t0; have T1 := zh t1
         clear s9 b9 t0 t1
         (try go_wp2_with fail)
         refine bodyPost_ret (v := .agg #[.int .i64 (3), .string ⟨List.toArray (R)⟩]) ?_ rfl ⟨by rw [HJJ.out, joinR_ref HNE.out HI.out HK3.out HL3.out HEM.out], B9.out⟩
         simp [results, Try.results18, go_sem, T0.out, T1.out]
end Go.Proofs.Ytdifmgeicnndfaa.prg

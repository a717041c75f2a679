/- JoinSidesW -/
import Derived.Test.YtapcnglnmlgocaaJoinE
namespace Go.Proofs.Ytapcnglnmlgocaa.joinSides
open Go.RowKit
open words kindp opp op kind word prg
set_option maxRecDepth 100000
set_option maxHeartbeats 64000000
set_option linter.all false
theorem overD {b : Nat} {a c : World} (h : Below b a c) : Below b a c.drew := ⟨h.os, h.tape, h.output, h.size, h.block⟩
theorem knJ_kn {x : PrM} (hg : GrP x) (hb : PrBd x) : KnH x (knJ x.cs) := by
 refine ⟨hg.1.1, fun c hc => by have := (hg.2 c hc).1.1; omega, ?_, fun s hs => ?_, fun c hc s hs => List.mem_cons_of_mem _ (List.mem_cons_of_mem _ (List.mem_flatMap.2 ⟨c, hc, by simp [hs]⟩))⟩
 ·have h70 := hg.1.1
  have key : ∀ (l : List ClM), (∀ c ∈ l, GrC c) → (l.flatMap fun c => c.nm :: abv c).length ≤ 42 * l.length := by
   intro l
   induction l with
   | nil => intro _; simp
   | cons c l ih =>
    intro h
    have h1 := (h c (by simp)).1.1
    have h2 := ih fun y hy => h y (by simp [hy])
    simp only [List.flatMap_cons, List.length_append, List.length_cons, abv] at *
    omega
  have := key x.cs hg.2
  unfold knJ
  simp only [List.length_cons]
  omega
 ·unfold knJ at hs
  rcases List.mem_cons.1 hs with rfl | hs
  ·simp
  ·rcases List.mem_cons.1 hs with rfl | hs
   ·simp
   ·obtain ⟨c, hc, h⟩ := List.mem_flatMap.1 hs
    have hbc := hb.1.2 c hc
    unfold ClBd at hbc
    simp only [abv, List.mem_cons] at h
    rcases h with rfl | rfl | h
    ·omega
    ·omega
    ·have := hbc.2.2.1.2 s h; omega
def PostS (w W : World) (z1 z2 : Fa) : Exit → Act → World → Prop
 | .normal, a, u => ∃ (b7 b8 : Nat) (t0 t1 t2 t9 t10 t11 t12 t13 t14 t15 t16 t17 t18 t19 t20 t21 t22 t23 t24 t25 t26 t27 t28 t29 t30 t31 t32 t33 t34 t35 t36 t37 t38 t39 t40 t41 t42 t43 t44 t45 t46 t47 t48 : Value), a = ⟨#[t0, t1, t2, .pointer (some ⟨w.heap.size, 0, none⟩), .pointer (some ⟨w.heap.size + 1, 0, none⟩), .pointer (some ⟨w.heap.size + 1 + 1, 0, none⟩), .bool false, .pointer (some ⟨b7, 0, none⟩), .pointer (some ⟨b8, 0, none⟩), t9, t10, t11, t12, t13, t14, t15, t16, t17, t18, t19, t20, t21, t22, t23, t24, t25, t26, t27, t28, t29, t30, t31, t32, t33, t34, t35, t36, t37, t38, t39, t40, t41, t42, t43, t44, t45, t46, t47, t48], []⟩ ∧ u.heap[b7]? = some (.cells (faC z1).toArray 50 (0, 0)) ∧ u.heap[b8]? = some (.cells (faC z2).toArray 50 (0, 0)) ∧ Below W.heap.size W u
 | _, _, _ => False
theorem walk (x : PrM) (k1 k2 : Int) (d1 d2 : Tx) (a1 a2 : Nat) (w : World) (hk : PrOk w x) (hb : PrBd x) (he : a1 < 256 ∧ a2 < 256) : Calls Try.prog 4 #[.agg (prC x).toArray, .agg #[.int .i64 k1, .string ⟨d1.toArray⟩, .int .i64 k2, .string ⟨d2.toArray⟩], .agg #[.int .u8 (a1 : Int), .int .u8 (a2 : Int)]] w fun e w' => e = .returned (.bool true) ∧ Below w.heap.size w w' := by
 obtain ⟨cs, A1, c1, ns, A2, c2, ec, en, ed⟩ := x
 obtain ⟨W, hW⟩ : ∃ W, W = ((w.alloc (.cells #[.slice A1 cs.length c1, .slice A2 ns.length c2, .string ⟨ec.toArray⟩, .string ⟨en.toArray⟩, .string ⟨ed.toArray⟩] 27)).alloc (.cells #[.int .i64 k1, .string ⟨d1.toArray⟩, .int .i64 k2, .string ⟨d2.toArray⟩] 51)).alloc (.cells #[.int .u8 (a1 : Int), .int .u8 (a2 : Int)] 52) := ⟨_, rfl⟩
 obtain ⟨h1, h2, h3, hal⟩ := three w _ _ _ W hW
 have HS := zh (show ∀ v, Below W.heap.size W v → (fun w' : World => (w'.cell? ⟨w.heap.size, 0, none⟩ = some (.slice A1 cs.length c1) ∧ w'.cell? ⟨w.heap.size, 1, none⟩ = some (.slice A2 ns.length c2) ∧ w'.cell? ⟨w.heap.size, 2, none⟩ = some (.string ⟨ec.toArray⟩) ∧ w'.cell? ⟨w.heap.size, 3, none⟩ = some (.string ⟨en.toArray⟩) ∧ w'.cell? ⟨w.heap.size, 4, none⟩ = some (.string ⟨ed.toArray⟩)) ∧ (w'.cell? ⟨w.heap.size + 1, 0, none⟩ = some (.int .i64 k1) ∧ w'.cell? ⟨w.heap.size + 1, 1, none⟩ = some (.string ⟨d1.toArray⟩) ∧ w'.cell? ⟨w.heap.size + 1, 2, none⟩ = some (.int .i64 k2) ∧ w'.cell? ⟨w.heap.size + 1, 3, none⟩ = some (.string ⟨d2.toArray⟩)) ∧ (w'.cell? ⟨w.heap.size + 1 + 1, 0, none⟩ = some (.int .u8 (a1 : Int)) ∧ w'.cell? ⟨w.heap.size + 1 + 1, 1, none⟩ = some (.int .u8 (a2 : Int)))) v from fun v hv => ⟨pr_cells (x := ⟨cs, A1, c1, ns, A2, c2, ec, en, ed⟩) ((hv.block _ (blk_lt h1)).trans h1), by
  have r := (hv.block _ (blk_lt h2)).trans h2
  have s := (hv.block _ (blk_lt h3)).trans h3
  exact ⟨⟨cell_of_row _ _ 0 _ _ _ r, cell_of_row _ _ 1 _ _ _ r, cell_of_row _ _ 2 _ _ _ r, cell_of_row _ _ 3 _ _ _ r⟩, ⟨cell_of_row _ _ 0 _ _ _ s, cell_of_row _ _ 1 _ _ _ s⟩⟩⟩)
 have hkW := hk.below hal
 have HGR := fun v (hv : Below W.heap.size W v) => great_w ⟨cs, A1, c1, ns, A2, c2, ec, en, ed⟩ v (hkW.below hv) hb
 have HSO := fun v (hv : Below W.heap.size W v) (hg : GrP ⟨cs, A1, c1, ns, A2, c2, ec, en, ed⟩) => sound_j ⟨cs, A1, c1, ns, A2, c2, ec, en, ed⟩ v (hkW.below hv) hb hg
 have HNR := fun (h70 : cs.length ≤ 70) (k : Int) (d : Tx) (m : Nat) (hm : m < 256) v (hv : Below W.heap.size W v) => near_j ⟨cs, A1, c1, ns, A2, c2, ec, en, ed⟩ (k, d) m v (hkW.below hv) h70 hm
 have HJN := fun (hg : GrP ⟨cs, A1, c1, ns, A2, c2, ec, en, ed⟩) (a b : Fa) (ha : a.1 = 3 → a.2 ∈ knJ cs) (hb2 : b.1 = 3 → b.2 ∈ knJ cs) v (hv : Below W.heap.size W v) => join_j ⟨cs, A1, c1, ns, A2, c2, ec, en, ed⟩ (knJ cs) a b v (hkW.below hv) hg (knJ_kn hg hb) ha hb2
 have HBJ := fun (hg : GrP ⟨cs, A1, c1, ns, A2, c2, ec, en, ed⟩) (a b : Fa) (ha : a.1 = 3 → a.2 ∈ knJ cs) (hb2 : b.1 = 3 → b.2 ∈ knJ cs) v (hv : Below W.heap.size W v) => below_j ⟨cs, A1, c1, ns, A2, c2, ec, en, ed⟩ (knJ cs) a b v (hkW.below hv) hg (knJ_kn hg hb) ha hb2
 unfold prC at HGR HSO HNR HJN HBJ ⊢
 try dsimp only [List.cons_append, List.nil_append] at HGR HSO HNR HJN HBJ ⊢
 have HGR := zh HGR; have HSO := zh HSO; have HNR := zh HNR; have HJN := zh HJN; have HBJ := zh HBJ
 have HAL := zh hal; have HW := zh hW; have HE := zh he
 have hmx : Try.prog.follows .mixedOrders = true := by kernel_rfl
 clear h1 h2 h3 hal hW hk hb he hkW
 obtain ⟨⟨x0, x1, x2, x3, x4⟩, -⟩ := HS.out W (Below.refl _ _)
 go_enter Try.func4, Try.ntmps4
 go_wp2_with fail
 try simp only [World.size_alloc]
 rw [← HW.out]
 (try go_wp2_with fail)
 refine (HGR.out W (Below.refl _ _)).mono ?_
 rintro e v1 ⟨g, rfl, hg, hb1⟩
 have K1 := zh hb1
 have HG := zh hg
 clear hb1 hg x0 x1 x2 x3 x4
 obtain ⟨⟨x0, x1, x2, x3, x4⟩, -⟩ := HS.out v1 K1.out
 cases g with
 | true =>
  go_wp2_with fail
  refine (live_j v1).mono ?_
  rintro e v2 ⟨rfl, hb2⟩
  have K2 := zh (then' K1.out hb2)
  clear hb2 x0 x1 x2 x3 x4
  go_wp2_with fail
  go_ret
  exact ⟨rfl, HAL.out.trans (K2.out.mono HAL.out.size)⟩
 | false =>
  have HGP := zh (HG.out rfl)
  have h70 : cs.length ≤ 70 := HGP.out.1.1
  go_wp2_with fail
  refine (HSO.out v1 K1.out HGP.out).mono ?_
  rintro e v2 ⟨b, rfl, hf, hb2⟩
  have K2 := zh (then' K1.out hb2)
  have HF := zh hf
  clear hb2 hf x0 x1 x2 x3 x4
  obtain ⟨⟨x0, x1, x2, x3, x4⟩, -⟩ := HS.out v2 K2.out
  cases b with
  | false =>
   go_wp2_with fail
   refine (live_j v2).mono ?_
   rintro e v3 ⟨rfl, hb3⟩
   have K3 := zh (then' K2.out hb3)
   clear hb3 x0 x1 x2 x3 x4
   go_wp2_with fail
   go_ret
   exact ⟨rfl, HAL.out.trans (K3.out.mono HAL.out.size)⟩
  | true =>
   have HFJ := zh (HF.out rfl)
   obtain ⟨f1, ef1, kf1⟩ := near_fk cs k1 a1
   have HN1 := HNR.out h70 k1 d1 a1 HE.out.1
   try dsimp only at HN1
   rw [ef1] at HN1
   obtain ⟨z1, ez1⟩ : ∃ z, z = toF f1 := ⟨_, rfl⟩
   rw [← ez1] at HN1 kf1
   unfold faC at HN1
   have HN1 := zh HN1; have KF1 := zh kf1; have EZ1 := zh ez1
   clear ef1 kf1 ez1
   obtain ⟨f2, ef2, kf2⟩ := near_fk cs k2 a2
   have HN2 := HNR.out h70 k2 d2 a2 HE.out.2
   try dsimp only at HN2
   rw [ef2] at HN2
   obtain ⟨z2, ez2⟩ : ∃ z, z = toF f2 := ⟨_, rfl⟩
   rw [← ez2] at HN2 kf2
   unfold faC at HN2
   have HN2 := zh HN2; have KF2 := zh kf2; have EZ2 := zh ez2
   clear ef2 kf2 ez2
   clear HGR HSO HNR h70
   go_wp2_with fail
   refine Code.wp_mono (Q := PostS w W z1 z2) ?_ ?_
   rotate_left 1
   focus
    refine wp_region_held_drew (S := fun w' : World => (w'.cell? ⟨w.heap.size, 0, none⟩ = some (.slice A1 cs.length c1) ∧ w'.cell? ⟨w.heap.size, 1, none⟩ = some (.slice A2 ns.length c2) ∧ w'.cell? ⟨w.heap.size, 2, none⟩ = some (.string ⟨ec.toArray⟩) ∧ w'.cell? ⟨w.heap.size, 3, none⟩ = some (.string ⟨en.toArray⟩) ∧ w'.cell? ⟨w.heap.size, 4, none⟩ = some (.string ⟨ed.toArray⟩)) ∧ (w'.cell? ⟨w.heap.size + 1, 0, none⟩ = some (.int .i64 k1) ∧ w'.cell? ⟨w.heap.size + 1, 1, none⟩ = some (.string ⟨d1.toArray⟩) ∧ w'.cell? ⟨w.heap.size + 1, 2, none⟩ = some (.int .i64 k2) ∧ w'.cell? ⟨w.heap.size + 1, 3, none⟩ = some (.string ⟨d2.toArray⟩)) ∧ (w'.cell? ⟨w.heap.size + 1 + 1, 0, none⟩ = some (.int .u8 (a1 : Int)) ∧ w'.cell? ⟨w.heap.size + 1 + 1, 1, none⟩ = some (.int .u8 (a2 : Int)))) (by kernel_rfl) ?_ (fun hHeld => ?_)
    ·exact HS.out _ (K2.out.trans ⟨rfl, rfl, rfl, by exact Nat.le_refl _, fun _ _ => rfl⟩)
    obtain ⟨u0, hWd⟩ : ∃ u, u = v2.drew := ⟨_, rfl⟩
    have HB0 := zh (show Below W.heap.size W u0 from by rw [hWd]; exact overD K2.out)
    rw [← hWd]
    have hS0 := HS.out _ HB0.out
    clear hWd x0 x1 x2 x3 x4
    refine tkp 0 rfl ?_
    refine tkp 1 rfl ?_
    refine tkp 2 rfl ?_
    refine tkp 3 rfl ?_
    refine tkp 4 rfl ?_
    refine tkp 6 rfl ?_
    refine tkp 7 rfl ?_
    refine tkp 8 rfl ?_
    refine tkp 9 rfl ?_
    refine tkp 10 rfl ?_
    clear hS0
    refine wpAnyH_ready (rs := [5, 12, 13]) (by kernel_rfl) (by simp) (AllReadyH.cons rfl (fun K hK => ?_) (AllReadyH.cons rfl (fun K hK => ?_) (AllReadyH.cons rfl (fun K hK => ?_) AllReadyH.nil)))
    ·skip
     go_simp
     refine (HN1.out u0 HB0.out).mono ?_
     rintro e u1 ⟨rfl, hb⟩
     have HL := zh (show Below u0.heap.size u0 u1 from hb)
     have HB1 := zh (then' HB0.out hb)
     clear hb
     go_wp2_with fail
     refine hK.out _ _ (HS.out _ HB1.out) (fun hHeld => ?_)
     clear hK K HL
     try simp only [puts]
     refine wpAnyH_ready (rs := [11, 12, 13]) (by kernel_rfl) (by simp) (AllReadyH.cons rfl (fun K hK => ?_) (AllReadyH.cons rfl (fun K hK => ?_) (AllReadyH.cons rfl (fun K hK => ?_) AllReadyH.nil)))
     ·skip
      go_simp
      refine (HN2.out u1 HB1.out).mono ?_
      rintro e u2 ⟨rfl, hb⟩
      have HL := zh (show Below u1.heap.size u1 u2 from hb)
      have HB2 := zh (then' HB1.out hb)
      clear hb
      go_wp2_with fail
      refine hK.out _ _ (HS.out _ HB2.out) (fun hHeld => ?_)
      clear hK K HL
      try simp only [puts]
      refine wpAnyH_ready (rs := [12, 13]) (by kernel_rfl) (by simp) (AllReadyH.cons rfl (fun K hK => ?_) (AllReadyH.cons rfl (fun K hK => ?_) AllReadyH.nil))
      ·skip
       go_simp
       obtain ⟨u3, hn1⟩ : ∃ v, v = u2.alloc (.cells #[.int .i64 0, .string ⟨#[]⟩] 50) := ⟨_, rfl⟩
       obtain ⟨b7, hbz⟩ : ∃ b, b = u2.heap.size := ⟨_, rfl⟩
       have hl : Below u2.heap.size u2 u3 := by rw [hn1]; exact (Below.refl _ _).alloc (Nat.le_refl _) _
       have HL := zh hl
       have HB3 := zh (then' HB2.out hl)
       have S0 := zh (show u3.heap[b7]? = some (.cells #[.int .i64 0, .string ⟨#[]⟩] 50 (0, 0)) from by rw [hn1, hbz]; exact heap_alloc_new _ _)
       have GE0 := zh (show W.heap.size ≤ b7 from by rw [hbz]; exact HB2.out.size)
       rw [← hn1, ← hbz]
       clear hn1 hbz hl
       refine hK.out _ _ (HS.out _ HB3.out) (fun hHeld => ?_)
       clear hK K HL
       try simp only [puts]
       refine rdy 13 rfl (fun K hK => ?_)
       go_simp
       obtain ⟨u4, hn1⟩ : ∃ v, v = u3.alloc (.cells #[.int .i64 0, .string ⟨#[]⟩] 50) := ⟨_, rfl⟩
       obtain ⟨b8, hbz⟩ : ∃ b, b = u3.heap.size := ⟨_, rfl⟩
       have hl : Below u3.heap.size u3 u4 := by rw [hn1]; exact (Below.refl _ _).alloc (Nat.le_refl _) _
       have HL := zh hl
       have HB4 := zh (then' HB3.out hl)
       have S1 := zh (show u4.heap[b8]? = some (.cells #[.int .i64 0, .string ⟨#[]⟩] 50 (0, 0)) from by rw [hn1, hbz]; exact heap_alloc_new _ _)
       have GE1 := zh (show W.heap.size ≤ b8 from by rw [hbz]; exact HB3.out.size)
       have N0_1 := zh (show b7 ≠ b8 from by rw [hbz]; have := blk_lt S0.out; omega)
       have N1_0 := zh (fun h => N0_1.out (Eq.symm h))
       have S0 := zh ((HL.out.block _ (blk_lt S0.out)).trans S0.out)
       rw [← hn1, ← hbz]
       clear hn1 hbz hl
       refine hK.out _ _ (HS.out _ HB4.out) (fun hHeld => ?_)
       clear hK K HL
       try simp only [puts]
       have ys := S0.out
       have y0 := cell_of_row _ _ 0 _ _ _ ys; have y1 := cell_of_row _ _ 1 _ _ _ ys
       have f0 := frozen_of_row _ _ 0 _ _ ys; have f1 := frozen_of_row _ _ 1 _ _ ys
       obtain ⟨u5, hV⟩ : ∃ v, v = (u4.setCell ⟨b7, 0, none⟩ (.int .i64 z1.1)).setCell ⟨b7, 1, none⟩ (.string ⟨z1.2.toArray⟩) := ⟨_, rfl⟩
       have HB5 := zh (show Below W.heap.size W u5 from by rw [hV]; exact set_below z1 HB4.out GE0.out)
       have T0 := zh (show u5.heap[b7]? = some (.cells (faC z1).toArray 50 (0, 0)) from by rw [hV]; exact fa_set z1 S0.out)
       have T1 := zh (show u5.heap[b8]? = some (.cells #[.int .i64 0, .string ⟨#[]⟩] 50 (0, 0)) from by rw [hV]; exact (set_other z1 N1_0.out).trans S1.out)
       clear ys
       refine rdy 14 rfl (fun K hK => ?_)
       go_simp
       rw [← hV]
       clear hV y0 y1 f0 f1
       refine hK.out _ _ (HS.out _ HB5.out) (fun hHeld => ?_)
       clear hK K
       try simp only [puts]
       clear S0
       have S0 := T0
       clear T0
       clear S1
       have S1 := T1
       clear T1
       have ys := S1.out
       have y0 := cell_of_row _ _ 0 _ _ _ ys; have y1 := cell_of_row _ _ 1 _ _ _ ys
       have f0 := frozen_of_row _ _ 0 _ _ ys; have f1 := frozen_of_row _ _ 1 _ _ ys
       obtain ⟨u6, hV⟩ : ∃ v, v = (u5.setCell ⟨b8, 0, none⟩ (.int .i64 z2.1)).setCell ⟨b8, 1, none⟩ (.string ⟨z2.2.toArray⟩) := ⟨_, rfl⟩
       have HB6 := zh (show Below W.heap.size W u6 from by rw [hV]; exact set_below z2 HB5.out GE1.out)
       have T0 := zh (show u6.heap[b7]? = some (.cells (faC z1).toArray 50 (0, 0)) from by rw [hV]; exact (set_other z2 N0_1.out).trans S0.out)
       have T1 := zh (show u6.heap[b8]? = some (.cells (faC z2).toArray 50 (0, 0)) from by rw [hV]; exact fa_set z2 S1.out)
       clear ys
       refine rdy 15 rfl (fun K hK => ?_)
       go_simp
       rw [← hV]
       clear hV y0 y1 f0 f1
       refine hK.out _ _ (HS.out _ HB6.out) (fun hHeld => ?_)
       clear hK K
       try simp only [puts]
       clear S0
       have S0 := T0
       clear T0
       clear S1
       have S1 := T1
       clear T1
       refine wpAnyH_done (by kernel_rfl) ?_ _
       exact ⟨b7, b8, _, _, _, _, _, _, _, _, _, _, _, _, _, _, _, _, _, _, _, _, _, _, _, _, _, _, _, _, _, _, _, _, _, _, _, _, _, _, _, _, _, _, _, rfl, S0.out, S1.out, HB6.out⟩
      ·skip
       go_simp
       obtain ⟨u3, hn1⟩ : ∃ v, v = u2.alloc (.cells #[.int .i64 0, .string ⟨#[]⟩] 50) := ⟨_, rfl⟩
       obtain ⟨b8, hbz⟩ : ∃ b, b = u2.heap.size := ⟨_, rfl⟩
       have hl : Below u2.heap.size u2 u3 := by rw [hn1]; exact (Below.refl _ _).alloc (Nat.le_refl _) _
       have HL := zh hl
       have HB3 := zh (then' HB2.out hl)
       have S1 := zh (show u3.heap[b8]? = some (.cells #[.int .i64 0, .string ⟨#[]⟩] 50 (0, 0)) from by rw [hn1, hbz]; exact heap_alloc_new _ _)
       have GE1 := zh (show W.heap.size ≤ b8 from by rw [hbz]; exact HB2.out.size)
       rw [← hn1, ← hbz]
       clear hn1 hbz hl
       refine hK.out _ _ (HS.out _ HB3.out) (fun hHeld => ?_)
       clear hK K HL
       try simp only [puts]
       refine rdy 12 rfl (fun K hK => ?_)
       go_simp
       obtain ⟨u4, hn1⟩ : ∃ v, v = u3.alloc (.cells #[.int .i64 0, .string ⟨#[]⟩] 50) := ⟨_, rfl⟩
       obtain ⟨b7, hbz⟩ : ∃ b, b = u3.heap.size := ⟨_, rfl⟩
       have hl : Below u3.heap.size u3 u4 := by rw [hn1]; exact (Below.refl _ _).alloc (Nat.le_refl _) _
       have HL := zh hl
       have HB4 := zh (then' HB3.out hl)
       have S0 := zh (show u4.heap[b7]? = some (.cells #[.int .i64 0, .string ⟨#[]⟩] 50 (0, 0)) from by rw [hn1, hbz]; exact heap_alloc_new _ _)
       have GE0 := zh (show W.heap.size ≤ b7 from by rw [hbz]; exact HB3.out.size)
       have N1_0 := zh (show b8 ≠ b7 from by rw [hbz]; have := blk_lt S1.out; omega)
       have N0_1 := zh (fun h => N1_0.out (Eq.symm h))
       have S1 := zh ((HL.out.block _ (blk_lt S1.out)).trans S1.out)
       rw [← hn1, ← hbz]
       clear hn1 hbz hl
       refine hK.out _ _ (HS.out _ HB4.out) (fun hHeld => ?_)
       clear hK K HL
       try simp only [puts]
       have ys := S0.out
       have y0 := cell_of_row _ _ 0 _ _ _ ys; have y1 := cell_of_row _ _ 1 _ _ _ ys
       have f0 := frozen_of_row _ _ 0 _ _ ys; have f1 := frozen_of_row _ _ 1 _ _ ys
       obtain ⟨u5, hV⟩ : ∃ v, v = (u4.setCell ⟨b7, 0, none⟩ (.int .i64 z1.1)).setCell ⟨b7, 1, none⟩ (.string ⟨z1.2.toArray⟩) := ⟨_, rfl⟩
       have HB5 := zh (show Below W.heap.size W u5 from by rw [hV]; exact set_below z1 HB4.out GE0.out)
       have T0 := zh (show u5.heap[b7]? = some (.cells (faC z1).toArray 50 (0, 0)) from by rw [hV]; exact fa_set z1 S0.out)
       have T1 := zh (show u5.heap[b8]? = some (.cells #[.int .i64 0, .string ⟨#[]⟩] 50 (0, 0)) from by rw [hV]; exact (set_other z1 N1_0.out).trans S1.out)
       clear ys
       refine rdy 14 rfl (fun K hK => ?_)
       go_simp
       rw [← hV]
       clear hV y0 y1 f0 f1
       refine hK.out _ _ (HS.out _ HB5.out) (fun hHeld => ?_)
       clear hK K
       try simp only [puts]
       clear S0
       have S0 := T0
       clear T0
       clear S1
       have S1 := T1
       clear T1
       have ys := S1.out
       have y0 := cell_of_row _ _ 0 _ _ _ ys; have y1 := cell_of_row _ _ 1 _ _ _ ys
       have f0 := frozen_of_row _ _ 0 _ _ ys; have f1 := frozen_of_row _ _ 1 _ _ ys
       obtain ⟨u6, hV⟩ : ∃ v, v = (u5.setCell ⟨b8, 0, none⟩ (.int .i64 z2.1)).setCell ⟨b8, 1, none⟩ (.string ⟨z2.2.toArray⟩) := ⟨_, rfl⟩
       have HB6 := zh (show Below W.heap.size W u6 from by rw [hV]; exact set_below z2 HB5.out GE1.out)
       have T0 := zh (show u6.heap[b7]? = some (.cells (faC z1).toArray 50 (0, 0)) from by rw [hV]; exact (set_other z2 N0_1.out).trans S0.out)
       have T1 := zh (show u6.heap[b8]? = some (.cells (faC z2).toArray 50 (0, 0)) from by rw [hV]; exact fa_set z2 S1.out)
       clear ys
       refine rdy 15 rfl (fun K hK => ?_)
       go_simp
       rw [← hV]
       clear hV y0 y1 f0 f1
       refine hK.out _ _ (HS.out _ HB6.out) (fun hHeld => ?_)
       clear hK K
       try simp only [puts]
       clear S0
       have S0 := T0
       clear T0
       clear S1
       have S1 := T1
       clear T1
       refine wpAnyH_done (by kernel_rfl) ?_ _
       exact ⟨b7, b8, _, _, _, _, _, _, _, _, _, _, _, _, _, _, _, _, _, _, _, _, _, _, _, _, _, _, _, _, _, _, _, _, _, _, _, _, _, _, _, _, _, _, _, rfl, S0.out, S1.out, HB6.out⟩
     ·skip
      go_simp
      obtain ⟨u2, hn1⟩ : ∃ v, v = u1.alloc (.cells #[.int .i64 0, .string ⟨#[]⟩] 50) := ⟨_, rfl⟩
      obtain ⟨b7, hbz⟩ : ∃ b, b = u1.heap.size := ⟨_, rfl⟩
      have hl : Below u1.heap.size u1 u2 := by rw [hn1]; exact (Below.refl _ _).alloc (Nat.le_refl _) _
      have HL := zh hl
      have HB2 := zh (then' HB1.out hl)
      have S0 := zh (show u2.heap[b7]? = some (.cells #[.int .i64 0, .string ⟨#[]⟩] 50 (0, 0)) from by rw [hn1, hbz]; exact heap_alloc_new _ _)
      have GE0 := zh (show W.heap.size ≤ b7 from by rw [hbz]; exact HB1.out.size)
      rw [← hn1, ← hbz]
      clear hn1 hbz hl
      refine hK.out _ _ (HS.out _ HB2.out) (fun hHeld => ?_)
      clear hK K HL
      try simp only [puts]
      refine wpAnyH_ready (rs := [11, 13]) (by kernel_rfl) (by simp) (AllReadyH.cons rfl (fun K hK => ?_) (AllReadyH.cons rfl (fun K hK => ?_) AllReadyH.nil))
      ·skip
       go_simp
       refine (HN2.out u2 HB2.out).mono ?_
       rintro e u3 ⟨rfl, hb⟩
       have HL := zh (show Below u2.heap.size u2 u3 from hb)
       have HB3 := zh (then' HB2.out hb)
       clear hb
       have S0 := zh ((HL.out.block _ (blk_lt S0.out)).trans S0.out)
       go_wp2_with fail
       refine hK.out _ _ (HS.out _ HB3.out) (fun hHeld => ?_)
       clear hK K HL
       try simp only [puts]
       refine rdy 13 rfl (fun K hK => ?_)
       go_simp
       obtain ⟨u4, hn1⟩ : ∃ v, v = u3.alloc (.cells #[.int .i64 0, .string ⟨#[]⟩] 50) := ⟨_, rfl⟩
       obtain ⟨b8, hbz⟩ : ∃ b, b = u3.heap.size := ⟨_, rfl⟩
       have hl : Below u3.heap.size u3 u4 := by rw [hn1]; exact (Below.refl _ _).alloc (Nat.le_refl _) _
       have HL := zh hl
       have HB4 := zh (then' HB3.out hl)
       have S1 := zh (show u4.heap[b8]? = some (.cells #[.int .i64 0, .string ⟨#[]⟩] 50 (0, 0)) from by rw [hn1, hbz]; exact heap_alloc_new _ _)
       have GE1 := zh (show W.heap.size ≤ b8 from by rw [hbz]; exact HB3.out.size)
       have N0_1 := zh (show b7 ≠ b8 from by rw [hbz]; have := blk_lt S0.out; omega)
       have N1_0 := zh (fun h => N0_1.out (Eq.symm h))
       have S0 := zh ((HL.out.block _ (blk_lt S0.out)).trans S0.out)
       rw [← hn1, ← hbz]
       clear hn1 hbz hl
       refine hK.out _ _ (HS.out _ HB4.out) (fun hHeld => ?_)
       clear hK K HL
       try simp only [puts]
       have ys := S0.out
       have y0 := cell_of_row _ _ 0 _ _ _ ys; have y1 := cell_of_row _ _ 1 _ _ _ ys
       have f0 := frozen_of_row _ _ 0 _ _ ys; have f1 := frozen_of_row _ _ 1 _ _ ys
       obtain ⟨u5, hV⟩ : ∃ v, v = (u4.setCell ⟨b7, 0, none⟩ (.int .i64 z1.1)).setCell ⟨b7, 1, none⟩ (.string ⟨z1.2.toArray⟩) := ⟨_, rfl⟩
       have HB5 := zh (show Below W.heap.size W u5 from by rw [hV]; exact set_below z1 HB4.out GE0.out)
       have T0 := zh (show u5.heap[b7]? = some (.cells (faC z1).toArray 50 (0, 0)) from by rw [hV]; exact fa_set z1 S0.out)
       have T1 := zh (show u5.heap[b8]? = some (.cells #[.int .i64 0, .string ⟨#[]⟩] 50 (0, 0)) from by rw [hV]; exact (set_other z1 N1_0.out).trans S1.out)
       clear ys
       refine rdy 14 rfl (fun K hK => ?_)
       go_simp
       rw [← hV]
       clear hV y0 y1 f0 f1
       refine hK.out _ _ (HS.out _ HB5.out) (fun hHeld => ?_)
       clear hK K
       try simp only [puts]
       clear S0
       have S0 := T0
       clear T0
       clear S1
       have S1 := T1
       clear T1
       have ys := S1.out
       have y0 := cell_of_row _ _ 0 _ _ _ ys; have y1 := cell_of_row _ _ 1 _ _ _ ys
       have f0 := frozen_of_row _ _ 0 _ _ ys; have f1 := frozen_of_row _ _ 1 _ _ ys
       obtain ⟨u6, hV⟩ : ∃ v, v = (u5.setCell ⟨b8, 0, none⟩ (.int .i64 z2.1)).setCell ⟨b8, 1, none⟩ (.string ⟨z2.2.toArray⟩) := ⟨_, rfl⟩
       have HB6 := zh (show Below W.heap.size W u6 from by rw [hV]; exact set_below z2 HB5.out GE1.out)
       have T0 := zh (show u6.heap[b7]? = some (.cells (faC z1).toArray 50 (0, 0)) from by rw [hV]; exact (set_other z2 N0_1.out).trans S0.out)
       have T1 := zh (show u6.heap[b8]? = some (.cells (faC z2).toArray 50 (0, 0)) from by rw [hV]; exact fa_set z2 S1.out)
       clear ys
       refine rdy 15 rfl (fun K hK => ?_)
       go_simp
       rw [← hV]
       clear hV y0 y1 f0 f1
       refine hK.out _ _ (HS.out _ HB6.out) (fun hHeld => ?_)
       clear hK K
       try simp only [puts]
       clear S0
       have S0 := T0
       clear T0
       clear S1
       have S1 := T1
       clear T1
       refine wpAnyH_done (by kernel_rfl) ?_ _
       exact ⟨b7, b8, _, _, _, _, _, _, _, _, _, _, _, _, _, _, _, _, _, _, _, _, _, _, _, _, _, _, _, _, _, _, _, _, _, _, _, _, _, _, _, _, _, _, _, rfl, S0.out, S1.out, HB6.out⟩
      ·skip
       go_simp
       obtain ⟨u3, hn1⟩ : ∃ v, v = u2.alloc (.cells #[.int .i64 0, .string ⟨#[]⟩] 50) := ⟨_, rfl⟩
       obtain ⟨b8, hbz⟩ : ∃ b, b = u2.heap.size := ⟨_, rfl⟩
       have hl : Below u2.heap.size u2 u3 := by rw [hn1]; exact (Below.refl _ _).alloc (Nat.le_refl _) _
       have HL := zh hl
       have HB3 := zh (then' HB2.out hl)
       have S1 := zh (show u3.heap[b8]? = some (.cells #[.int .i64 0, .string ⟨#[]⟩] 50 (0, 0)) from by rw [hn1, hbz]; exact heap_alloc_new _ _)
       have GE1 := zh (show W.heap.size ≤ b8 from by rw [hbz]; exact HB2.out.size)
       have N0_1 := zh (show b7 ≠ b8 from by rw [hbz]; have := blk_lt S0.out; omega)
       have N1_0 := zh (fun h => N0_1.out (Eq.symm h))
       have S0 := zh ((HL.out.block _ (blk_lt S0.out)).trans S0.out)
       rw [← hn1, ← hbz]
       clear hn1 hbz hl
       refine hK.out _ _ (HS.out _ HB3.out) (fun hHeld => ?_)
       clear hK K HL
       try simp only [puts]
       refine rdy 11 rfl (fun K hK => ?_)
       go_simp
       refine (HN2.out u3 HB3.out).mono ?_
       rintro e u4 ⟨rfl, hb⟩
       have HL := zh (show Below u3.heap.size u3 u4 from hb)
       have HB4 := zh (then' HB3.out hb)
       clear hb
       have S0 := zh ((HL.out.block _ (blk_lt S0.out)).trans S0.out)
       have S1 := zh ((HL.out.block _ (blk_lt S1.out)).trans S1.out)
       go_wp2_with fail
       refine hK.out _ _ (HS.out _ HB4.out) (fun hHeld => ?_)
       clear hK K HL
       try simp only [puts]
       have ys := S0.out
       have y0 := cell_of_row _ _ 0 _ _ _ ys; have y1 := cell_of_row _ _ 1 _ _ _ ys
       have f0 := frozen_of_row _ _ 0 _ _ ys; have f1 := frozen_of_row _ _ 1 _ _ ys
       obtain ⟨u5, hV⟩ : ∃ v, v = (u4.setCell ⟨b7, 0, none⟩ (.int .i64 z1.1)).setCell ⟨b7, 1, none⟩ (.string ⟨z1.2.toArray⟩) := ⟨_, rfl⟩
       have HB5 := zh (show Below W.heap.size W u5 from by rw [hV]; exact set_below z1 HB4.out GE0.out)
       have T0 := zh (show u5.heap[b7]? = some (.cells (faC z1).toArray 50 (0, 0)) from by rw [hV]; exact fa_set z1 S0.out)
       have T1 := zh (show u5.heap[b8]? = some (.cells #[.int .i64 0, .string ⟨#[]⟩] 50 (0, 0)) from by rw [hV]; exact (set_other z1 N1_0.out).trans S1.out)
       clear ys
       refine rdy 14 rfl (fun K hK => ?_)
       go_simp
       rw [← hV]
       clear hV y0 y1 f0 f1
       refine hK.out _ _ (HS.out _ HB5.out) (fun hHeld => ?_)
       clear hK K
       try simp only [puts]
       clear S0
       have S0 := T0
       clear T0
       clear S1
       have S1 := T1
       clear T1
       have ys := S1.out
       have y0 := cell_of_row _ _ 0 _ _ _ ys; have y1 := cell_of_row _ _ 1 _ _ _ ys
       have f0 := frozen_of_row _ _ 0 _ _ ys; have f1 := frozen_of_row _ _ 1 _ _ ys
       obtain ⟨u6, hV⟩ : ∃ v, v = (u5.setCell ⟨b8, 0, none⟩ (.int .i64 z2.1)).setCell ⟨b8, 1, none⟩ (.string ⟨z2.2.toArray⟩) := ⟨_, rfl⟩
       have HB6 := zh (show Below W.heap.size W u6 from by rw [hV]; exact set_below z2 HB5.out GE1.out)
       have T0 := zh (show u6.heap[b7]? = some (.cells (faC z1).toArray 50 (0, 0)) from by rw [hV]; exact (set_other z2 N0_1.out).trans S0.out)
       have T1 := zh (show u6.heap[b8]? = some (.cells (faC z2).toArray 50 (0, 0)) from by rw [hV]; exact fa_set z2 S1.out)
       clear ys
       refine rdy 15 rfl (fun K hK => ?_)
       go_simp
       rw [← hV]
       clear hV y0 y1 f0 f1
       refine hK.out _ _ (HS.out _ HB6.out) (fun hHeld => ?_)
       clear hK K
       try simp only [puts]
       clear S0
       have S0 := T0
       clear T0
       clear S1
       have S1 := T1
       clear T1
       refine wpAnyH_done (by kernel_rfl) ?_ _
       exact ⟨b7, b8, _, _, _, _, _, _, _, _, _, _, _, _, _, _, _, _, _, _, _, _, _, _, _, _, _, _, _, _, _, _, _, _, _, _, _, _, _, _, _, _, _, _, _, rfl, S0.out, S1.out, HB6.out⟩
     ·skip
      go_simp
      obtain ⟨u2, hn1⟩ : ∃ v, v = u1.alloc (.cells #[.int .i64 0, .string ⟨#[]⟩] 50) := ⟨_, rfl⟩
      obtain ⟨b8, hbz⟩ : ∃ b, b = u1.heap.size := ⟨_, rfl⟩
      have hl : Below u1.heap.size u1 u2 := by rw [hn1]; exact (Below.refl _ _).alloc (Nat.le_refl _) _
      have HL := zh hl
      have HB2 := zh (then' HB1.out hl)
      have S1 := zh (show u2.heap[b8]? = some (.cells #[.int .i64 0, .string ⟨#[]⟩] 50 (0, 0)) from by rw [hn1, hbz]; exact heap_alloc_new _ _)
      have GE1 := zh (show W.heap.size ≤ b8 from by rw [hbz]; exact HB1.out.size)
      rw [← hn1, ← hbz]
      clear hn1 hbz hl
      refine hK.out _ _ (HS.out _ HB2.out) (fun hHeld => ?_)
      clear hK K HL
      try simp only [puts]
      refine wpAnyH_ready (rs := [11, 12]) (by kernel_rfl) (by simp) (AllReadyH.cons rfl (fun K hK => ?_) (AllReadyH.cons rfl (fun K hK => ?_) AllReadyH.nil))
      ·skip
       go_simp
       refine (HN2.out u2 HB2.out).mono ?_
       rintro e u3 ⟨rfl, hb⟩
       have HL := zh (show Below u2.heap.size u2 u3 from hb)
       have HB3 := zh (then' HB2.out hb)
       clear hb
       have S1 := zh ((HL.out.block _ (blk_lt S1.out)).trans S1.out)
       go_wp2_with fail
       refine hK.out _ _ (HS.out _ HB3.out) (fun hHeld => ?_)
       clear hK K HL
       try simp only [puts]
       refine rdy 12 rfl (fun K hK => ?_)
       go_simp
       obtain ⟨u4, hn1⟩ : ∃ v, v = u3.alloc (.cells #[.int .i64 0, .string ⟨#[]⟩] 50) := ⟨_, rfl⟩
       obtain ⟨b7, hbz⟩ : ∃ b, b = u3.heap.size := ⟨_, rfl⟩
       have hl : Below u3.heap.size u3 u4 := by rw [hn1]; exact (Below.refl _ _).alloc (Nat.le_refl _) _
       have HL := zh hl
       have HB4 := zh (then' HB3.out hl)
       have S0 := zh (show u4.heap[b7]? = some (.cells #[.int .i64 0, .string ⟨#[]⟩] 50 (0, 0)) from by rw [hn1, hbz]; exact heap_alloc_new _ _)
       have GE0 := zh (show W.heap.size ≤ b7 from by rw [hbz]; exact HB3.out.size)
       have N1_0 := zh (show b8 ≠ b7 from by rw [hbz]; have := blk_lt S1.out; omega)
       have N0_1 := zh (fun h => N1_0.out (Eq.symm h))
       have S1 := zh ((HL.out.block _ (blk_lt S1.out)).trans S1.out)
       rw [← hn1, ← hbz]
       clear hn1 hbz hl
       refine hK.out _ _ (HS.out _ HB4.out) (fun hHeld => ?_)
       clear hK K HL
       try simp only [puts]
       have ys := S0.out
       have y0 := cell_of_row _ _ 0 _ _ _ ys; have y1 := cell_of_row _ _ 1 _ _ _ ys
       have f0 := frozen_of_row _ _ 0 _ _ ys; have f1 := frozen_of_row _ _ 1 _ _ ys
       obtain ⟨u5, hV⟩ : ∃ v, v = (u4.setCell ⟨b7, 0, none⟩ (.int .i64 z1.1)).setCell ⟨b7, 1, none⟩ (.string ⟨z1.2.toArray⟩) := ⟨_, rfl⟩
       have HB5 := zh (show Below W.heap.size W u5 from by rw [hV]; exact set_below z1 HB4.out GE0.out)
       have T0 := zh (show u5.heap[b7]? = some (.cells (faC z1).toArray 50 (0, 0)) from by rw [hV]; exact fa_set z1 S0.out)
       have T1 := zh (show u5.heap[b8]? = some (.cells #[.int .i64 0, .string ⟨#[]⟩] 50 (0, 0)) from by rw [hV]; exact (set_other z1 N1_0.out).trans S1.out)
       clear ys
       refine rdy 14 rfl (fun K hK => ?_)
       go_simp
       rw [← hV]
       clear hV y0 y1 f0 f1
       refine hK.out _ _ (HS.out _ HB5.out) (fun hHeld => ?_)
       clear hK K
       try simp only [puts]
       clear S0
       have S0 := T0
       clear T0
       clear S1
       have S1 := T1
       clear T1
       have ys := S1.out
       have y0 := cell_of_row _ _ 0 _ _ _ ys; have y1 := cell_of_row _ _ 1 _ _ _ ys
       have f0 := frozen_of_row _ _ 0 _ _ ys; have f1 := frozen_of_row _ _ 1 _ _ ys
       obtain ⟨u6, hV⟩ : ∃ v, v = (u5.setCell ⟨b8, 0, none⟩ (.int .i64 z2.1)).setCell ⟨b8, 1, none⟩ (.string ⟨z2.2.toArray⟩) := ⟨_, rfl⟩
       have HB6 := zh (show Below W.heap.size W u6 from by rw [hV]; exact set_below z2 HB5.out GE1.out)
       have T0 := zh (show u6.heap[b7]? = some (.cells (faC z1).toArray 50 (0, 0)) from by rw [hV]; exact (set_other z2 N0_1.out).trans S0.out)
       have T1 := zh (show u6.heap[b8]? = some (.cells (faC z2).toArray 50 (0, 0)) from by rw [hV]; exact fa_set z2 S1.out)
       clear ys
       refine rdy 15 rfl (fun K hK => ?_)
       go_simp
       rw [← hV]
       clear hV y0 y1 f0 f1
       refine hK.out _ _ (HS.out _ HB6.out) (fun hHeld => ?_)
       clear hK K
       try simp only [puts]
       clear S0
       have S0 := T0
       clear T0
       clear S1
       have S1 := T1
       clear T1
       refine wpAnyH_done (by kernel_rfl) ?_ _
       exact ⟨b7, b8, _, _, _, _, _, _, _, _, _, _, _, _, _, _, _, _, _, _, _, _, _, _, _, _, _, _, _, _, _, _, _, _, _, _, _, _, _, _, _, _, _, _, _, rfl, S0.out, S1.out, HB6.out⟩
      ·skip
       go_simp
       obtain ⟨u3, hn1⟩ : ∃ v, v = u2.alloc (.cells #[.int .i64 0, .string ⟨#[]⟩] 50) := ⟨_, rfl⟩
       obtain ⟨b7, hbz⟩ : ∃ b, b = u2.heap.size := ⟨_, rfl⟩
       have hl : Below u2.heap.size u2 u3 := by rw [hn1]; exact (Below.refl _ _).alloc (Nat.le_refl _) _
       have HL := zh hl
       have HB3 := zh (then' HB2.out hl)
       have S0 := zh (show u3.heap[b7]? = some (.cells #[.int .i64 0, .string ⟨#[]⟩] 50 (0, 0)) from by rw [hn1, hbz]; exact heap_alloc_new _ _)
       have GE0 := zh (show W.heap.size ≤ b7 from by rw [hbz]; exact HB2.out.size)
       have N1_0 := zh (show b8 ≠ b7 from by rw [hbz]; have := blk_lt S1.out; omega)
       have N0_1 := zh (fun h => N1_0.out (Eq.symm h))
       have S1 := zh ((HL.out.block _ (blk_lt S1.out)).trans S1.out)
       rw [← hn1, ← hbz]
       clear hn1 hbz hl
       refine hK.out _ _ (HS.out _ HB3.out) (fun hHeld => ?_)
       clear hK K HL
       try simp only [puts]
       refine rdy 11 rfl (fun K hK => ?_)
       go_simp
       refine (HN2.out u3 HB3.out).mono ?_
       rintro e u4 ⟨rfl, hb⟩
       have HL := zh (show Below u3.heap.size u3 u4 from hb)
       have HB4 := zh (then' HB3.out hb)
       clear hb
       have S1 := zh ((HL.out.block _ (blk_lt S1.out)).trans S1.out)
       have S0 := zh ((HL.out.block _ (blk_lt S0.out)).trans S0.out)
       go_wp2_with fail
       refine hK.out _ _ (HS.out _ HB4.out) (fun hHeld => ?_)
       clear hK K HL
       try simp only [puts]
       have ys := S0.out
       have y0 := cell_of_row _ _ 0 _ _ _ ys; have y1 := cell_of_row _ _ 1 _ _ _ ys
       have f0 := frozen_of_row _ _ 0 _ _ ys; have f1 := frozen_of_row _ _ 1 _ _ ys
       obtain ⟨u5, hV⟩ : ∃ v, v = (u4.setCell ⟨b7, 0, none⟩ (.int .i64 z1.1)).setCell ⟨b7, 1, none⟩ (.string ⟨z1.2.toArray⟩) := ⟨_, rfl⟩
       have HB5 := zh (show Below W.heap.size W u5 from by rw [hV]; exact set_below z1 HB4.out GE0.out)
       have T0 := zh (show u5.heap[b7]? = some (.cells (faC z1).toArray 50 (0, 0)) from by rw [hV]; exact fa_set z1 S0.out)
       have T1 := zh (show u5.heap[b8]? = some (.cells #[.int .i64 0, .string ⟨#[]⟩] 50 (0, 0)) from by rw [hV]; exact (set_other z1 N1_0.out).trans S1.out)
       clear ys
       refine rdy 14 rfl (fun K hK => ?_)
       go_simp
       rw [← hV]
       clear hV y0 y1 f0 f1
       refine hK.out _ _ (HS.out _ HB5.out) (fun hHeld => ?_)
       clear hK K
       try simp only [puts]
       clear S0
       have S0 := T0
       clear T0
       clear S1
       have S1 := T1
       clear T1
       have ys := S1.out
       have y0 := cell_of_row _ _ 0 _ _ _ ys; have y1 := cell_of_row _ _ 1 _ _ _ ys
       have f0 := frozen_of_row _ _ 0 _ _ ys; have f1 := frozen_of_row _ _ 1 _ _ ys
       obtain ⟨u6, hV⟩ : ∃ v, v = (u5.setCell ⟨b8, 0, none⟩ (.int .i64 z2.1)).setCell ⟨b8, 1, none⟩ (.string ⟨z2.2.toArray⟩) := ⟨_, rfl⟩
       have HB6 := zh (show Below W.heap.size W u6 from by rw [hV]; exact set_below z2 HB5.out GE1.out)
       have T0 := zh (show u6.heap[b7]? = some (.cells (faC z1).toArray 50 (0, 0)) from by rw [hV]; exact (set_other z2 N0_1.out).trans S0.out)
       have T1 := zh (show u6.heap[b8]? = some (.cells (faC z2).toArray 50 (0, 0)) from by rw [hV]; exact fa_set z2 S1.out)
       clear ys
       refine rdy 15 rfl (fun K hK => ?_)
       go_simp
       rw [← hV]
       clear hV y0 y1 f0 f1
       refine hK.out _ _ (HS.out _ HB6.out) (fun hHeld => ?_)
       clear hK K
       try simp only [puts]
       clear S0
       have S0 := T0
       clear T0
       clear S1
       have S1 := T1
       clear T1
       refine wpAnyH_done (by kernel_rfl) ?_ _
       exact ⟨b7, b8, _, _, _, _, _, _, _, _, _, _, _, _, _, _, _, _, _, _, _, _, _, _, _, _, _, _, _, _, _, _, _, _, _, _, _, _, _, _, _, _, _, _, _, rfl, S0.out, S1.out, HB6.out⟩
    ·skip
     go_simp
     obtain ⟨u1, hn1⟩ : ∃ v, v = u0.alloc (.cells #[.int .i64 0, .string ⟨#[]⟩] 50) := ⟨_, rfl⟩
     obtain ⟨b7, hbz⟩ : ∃ b, b = u0.heap.size := ⟨_, rfl⟩
     have hl : Below u0.heap.size u0 u1 := by rw [hn1]; exact (Below.refl _ _).alloc (Nat.le_refl _) _
     have HL := zh hl
     have HB1 := zh (then' HB0.out hl)
     have S0 := zh (show u1.heap[b7]? = some (.cells #[.int .i64 0, .string ⟨#[]⟩] 50 (0, 0)) from by rw [hn1, hbz]; exact heap_alloc_new _ _)
     have GE0 := zh (show W.heap.size ≤ b7 from by rw [hbz]; exact HB0.out.size)
     rw [← hn1, ← hbz]
     clear hn1 hbz hl
     refine hK.out _ _ (HS.out _ HB1.out) (fun hHeld => ?_)
     clear hK K HL
     try simp only [puts]
     refine wpAnyH_ready (rs := [5, 13]) (by kernel_rfl) (by simp) (AllReadyH.cons rfl (fun K hK => ?_) (AllReadyH.cons rfl (fun K hK => ?_) AllReadyH.nil))
     ·skip
      go_simp
      refine (HN1.out u1 HB1.out).mono ?_
      rintro e u2 ⟨rfl, hb⟩
      have HL := zh (show Below u1.heap.size u1 u2 from hb)
      have HB2 := zh (then' HB1.out hb)
      clear hb
      have S0 := zh ((HL.out.block _ (blk_lt S0.out)).trans S0.out)
      go_wp2_with fail
      refine hK.out _ _ (HS.out _ HB2.out) (fun hHeld => ?_)
      clear hK K HL
      try simp only [puts]
      refine wpAnyH_ready (rs := [11, 13]) (by kernel_rfl) (by simp) (AllReadyH.cons rfl (fun K hK => ?_) (AllReadyH.cons rfl (fun K hK => ?_) AllReadyH.nil))
      ·skip
       go_simp
       refine (HN2.out u2 HB2.out).mono ?_
       rintro e u3 ⟨rfl, hb⟩
       have HL := zh (show Below u2.heap.size u2 u3 from hb)
       have HB3 := zh (then' HB2.out hb)
       clear hb
       have S0 := zh ((HL.out.block _ (blk_lt S0.out)).trans S0.out)
       go_wp2_with fail
       refine hK.out _ _ (HS.out _ HB3.out) (fun hHeld => ?_)
       clear hK K HL
       try simp only [puts]
       refine rdy 13 rfl (fun K hK => ?_)
       go_simp
       obtain ⟨u4, hn1⟩ : ∃ v, v = u3.alloc (.cells #[.int .i64 0, .string ⟨#[]⟩] 50) := ⟨_, rfl⟩
       obtain ⟨b8, hbz⟩ : ∃ b, b = u3.heap.size := ⟨_, rfl⟩
       have hl : Below u3.heap.size u3 u4 := by rw [hn1]; exact (Below.refl _ _).alloc (Nat.le_refl _) _
       have HL := zh hl
       have HB4 := zh (then' HB3.out hl)
       have S1 := zh (show u4.heap[b8]? = some (.cells #[.int .i64 0, .string ⟨#[]⟩] 50 (0, 0)) from by rw [hn1, hbz]; exact heap_alloc_new _ _)
       have GE1 := zh (show W.heap.size ≤ b8 from by rw [hbz]; exact HB3.out.size)
       have N0_1 := zh (show b7 ≠ b8 from by rw [hbz]; have := blk_lt S0.out; omega)
       have N1_0 := zh (fun h => N0_1.out (Eq.symm h))
       have S0 := zh ((HL.out.block _ (blk_lt S0.out)).trans S0.out)
       rw [← hn1, ← hbz]
       clear hn1 hbz hl
       refine hK.out _ _ (HS.out _ HB4.out) (fun hHeld => ?_)
       clear hK K HL
       try simp only [puts]
       have ys := S0.out
       have y0 := cell_of_row _ _ 0 _ _ _ ys; have y1 := cell_of_row _ _ 1 _ _ _ ys
       have f0 := frozen_of_row _ _ 0 _ _ ys; have f1 := frozen_of_row _ _ 1 _ _ ys
       obtain ⟨u5, hV⟩ : ∃ v, v = (u4.setCell ⟨b7, 0, none⟩ (.int .i64 z1.1)).setCell ⟨b7, 1, none⟩ (.string ⟨z1.2.toArray⟩) := ⟨_, rfl⟩
       have HB5 := zh (show Below W.heap.size W u5 from by rw [hV]; exact set_below z1 HB4.out GE0.out)
       have T0 := zh (show u5.heap[b7]? = some (.cells (faC z1).toArray 50 (0, 0)) from by rw [hV]; exact fa_set z1 S0.out)
       have T1 := zh (show u5.heap[b8]? = some (.cells #[.int .i64 0, .string ⟨#[]⟩] 50 (0, 0)) from by rw [hV]; exact (set_other z1 N1_0.out).trans S1.out)
       clear ys
       refine rdy 14 rfl (fun K hK => ?_)
       go_simp
       rw [← hV]
       clear hV y0 y1 f0 f1
       refine hK.out _ _ (HS.out _ HB5.out) (fun hHeld => ?_)
       clear hK K
       try simp only [puts]
       clear S0
       have S0 := T0
       clear T0
       clear S1
       have S1 := T1
       clear T1
       have ys := S1.out
       have y0 := cell_of_row _ _ 0 _ _ _ ys; have y1 := cell_of_row _ _ 1 _ _ _ ys
       have f0 := frozen_of_row _ _ 0 _ _ ys; have f1 := frozen_of_row _ _ 1 _ _ ys
       obtain ⟨u6, hV⟩ : ∃ v, v = (u5.setCell ⟨b8, 0, none⟩ (.int .i64 z2.1)).setCell ⟨b8, 1, none⟩ (.string ⟨z2.2.toArray⟩) := ⟨_, rfl⟩
       have HB6 := zh (show Below W.heap.size W u6 from by rw [hV]; exact set_below z2 HB5.out GE1.out)
       have T0 := zh (show u6.heap[b7]? = some (.cells (faC z1).toArray 50 (0, 0)) from by rw [hV]; exact (set_other z2 N0_1.out).trans S0.out)
       have T1 := zh (show u6.heap[b8]? = some (.cells (faC z2).toArray 50 (0, 0)) from by rw [hV]; exact fa_set z2 S1.out)
       clear ys
       refine rdy 15 rfl (fun K hK => ?_)
       go_simp
       rw [← hV]
       clear hV y0 y1 f0 f1
       refine hK.out _ _ (HS.out _ HB6.out) (fun hHeld => ?_)
       clear hK K
       try simp only [puts]
       clear S0
       have S0 := T0
       clear T0
       clear S1
       have S1 := T1
       clear T1
       refine wpAnyH_done (by kernel_rfl) ?_ _
       exact ⟨b7, b8, _, _, _, _, _, _, _, _, _, _, _, _, _, _, _, _, _, _, _, _, _, _, _, _, _, _, _, _, _, _, _, _, _, _, _, _, _, _, _, _, _, _, _, rfl, S0.out, S1.out, HB6.out⟩
      ·skip
       go_simp
       obtain ⟨u3, hn1⟩ : ∃ v, v = u2.alloc (.cells #[.int .i64 0, .string ⟨#[]⟩] 50) := ⟨_, rfl⟩
       obtain ⟨b8, hbz⟩ : ∃ b, b = u2.heap.size := ⟨_, rfl⟩
       have hl : Below u2.heap.size u2 u3 := by rw [hn1]; exact (Below.refl _ _).alloc (Nat.le_refl _) _
       have HL := zh hl
       have HB3 := zh (then' HB2.out hl)
       have S1 := zh (show u3.heap[b8]? = some (.cells #[.int .i64 0, .string ⟨#[]⟩] 50 (0, 0)) from by rw [hn1, hbz]; exact heap_alloc_new _ _)
       have GE1 := zh (show W.heap.size ≤ b8 from by rw [hbz]; exact HB2.out.size)
       have N0_1 := zh (show b7 ≠ b8 from by rw [hbz]; have := blk_lt S0.out; omega)
       have N1_0 := zh (fun h => N0_1.out (Eq.symm h))
       have S0 := zh ((HL.out.block _ (blk_lt S0.out)).trans S0.out)
       rw [← hn1, ← hbz]
       clear hn1 hbz hl
       refine hK.out _ _ (HS.out _ HB3.out) (fun hHeld => ?_)
       clear hK K HL
       try simp only [puts]
       refine rdy 11 rfl (fun K hK => ?_)
       go_simp
       refine (HN2.out u3 HB3.out).mono ?_
       rintro e u4 ⟨rfl, hb⟩
       have HL := zh (show Below u3.heap.size u3 u4 from hb)
       have HB4 := zh (then' HB3.out hb)
       clear hb
       have S0 := zh ((HL.out.block _ (blk_lt S0.out)).trans S0.out)
       have S1 := zh ((HL.out.block _ (blk_lt S1.out)).trans S1.out)
       go_wp2_with fail
       refine hK.out _ _ (HS.out _ HB4.out) (fun hHeld => ?_)
       clear hK K HL
       try simp only [puts]
       have ys := S0.out
       have y0 := cell_of_row _ _ 0 _ _ _ ys; have y1 := cell_of_row _ _ 1 _ _ _ ys
       have f0 := frozen_of_row _ _ 0 _ _ ys; have f1 := frozen_of_row _ _ 1 _ _ ys
       obtain ⟨u5, hV⟩ : ∃ v, v = (u4.setCell ⟨b7, 0, none⟩ (.int .i64 z1.1)).setCell ⟨b7, 1, none⟩ (.string ⟨z1.2.toArray⟩) := ⟨_, rfl⟩
       have HB5 := zh (show Below W.heap.size W u5 from by rw [hV]; exact set_below z1 HB4.out GE0.out)
       have T0 := zh (show u5.heap[b7]? = some (.cells (faC z1).toArray 50 (0, 0)) from by rw [hV]; exact fa_set z1 S0.out)
       have T1 := zh (show u5.heap[b8]? = some (.cells #[.int .i64 0, .string ⟨#[]⟩] 50 (0, 0)) from by rw [hV]; exact (set_other z1 N1_0.out).trans S1.out)
       clear ys
       refine rdy 14 rfl (fun K hK => ?_)
       go_simp
       rw [← hV]
       clear hV y0 y1 f0 f1
       refine hK.out _ _ (HS.out _ HB5.out) (fun hHeld => ?_)
       clear hK K
       try simp only [puts]
       clear S0
       have S0 := T0
       clear T0
       clear S1
       have S1 := T1
       clear T1
       have ys := S1.out
       have y0 := cell_of_row _ _ 0 _ _ _ ys; have y1 := cell_of_row _ _ 1 _ _ _ ys
       have f0 := frozen_of_row _ _ 0 _ _ ys; have f1 := frozen_of_row _ _ 1 _ _ ys
       obtain ⟨u6, hV⟩ : ∃ v, v = (u5.setCell ⟨b8, 0, none⟩ (.int .i64 z2.1)).setCell ⟨b8, 1, none⟩ (.string ⟨z2.2.toArray⟩) := ⟨_, rfl⟩
       have HB6 := zh (show Below W.heap.size W u6 from by rw [hV]; exact set_below z2 HB5.out GE1.out)
       have T0 := zh (show u6.heap[b7]? = some (.cells (faC z1).toArray 50 (0, 0)) from by rw [hV]; exact (set_other z2 N0_1.out).trans S0.out)
       have T1 := zh (show u6.heap[b8]? = some (.cells (faC z2).toArray 50 (0, 0)) from by rw [hV]; exact fa_set z2 S1.out)
       clear ys
       refine rdy 15 rfl (fun K hK => ?_)
       go_simp
       rw [← hV]
       clear hV y0 y1 f0 f1
       refine hK.out _ _ (HS.out _ HB6.out) (fun hHeld => ?_)
       clear hK K
       try simp only [puts]
       clear S0
       have S0 := T0
       clear T0
       clear S1
       have S1 := T1
       clear T1
       refine wpAnyH_done (by kernel_rfl) ?_ _
       exact ⟨b7, b8, _, _, _, _, _, _, _, _, _, _, _, _, _, _, _, _, _, _, _, _, _, _, _, _, _, _, _, _, _, _, _, _, _, _, _, _, _, _, _, _, _, _, _, rfl, S0.out, S1.out, HB6.out⟩
     ·skip
      go_simp
      obtain ⟨u2, hn1⟩ : ∃ v, v = u1.alloc (.cells #[.int .i64 0, .string ⟨#[]⟩] 50) := ⟨_, rfl⟩
      obtain ⟨b8, hbz⟩ : ∃ b, b = u1.heap.size := ⟨_, rfl⟩
      have hl : Below u1.heap.size u1 u2 := by rw [hn1]; exact (Below.refl _ _).alloc (Nat.le_refl _) _
      have HL := zh hl
      have HB2 := zh (then' HB1.out hl)
      have S1 := zh (show u2.heap[b8]? = some (.cells #[.int .i64 0, .string ⟨#[]⟩] 50 (0, 0)) from by rw [hn1, hbz]; exact heap_alloc_new _ _)
      have GE1 := zh (show W.heap.size ≤ b8 from by rw [hbz]; exact HB1.out.size)
      have N0_1 := zh (show b7 ≠ b8 from by rw [hbz]; have := blk_lt S0.out; omega)
      have N1_0 := zh (fun h => N0_1.out (Eq.symm h))
      have S0 := zh ((HL.out.block _ (blk_lt S0.out)).trans S0.out)
      rw [← hn1, ← hbz]
      clear hn1 hbz hl
      refine hK.out _ _ (HS.out _ HB2.out) (fun hHeld => ?_)
      clear hK K HL
      try simp only [puts]
      refine rdy 5 rfl (fun K hK => ?_)
      go_simp
      refine (HN1.out u2 HB2.out).mono ?_
      rintro e u3 ⟨rfl, hb⟩
      have HL := zh (show Below u2.heap.size u2 u3 from hb)
      have HB3 := zh (then' HB2.out hb)
      clear hb
      have S0 := zh ((HL.out.block _ (blk_lt S0.out)).trans S0.out)
      have S1 := zh ((HL.out.block _ (blk_lt S1.out)).trans S1.out)
      go_wp2_with fail
      refine hK.out _ _ (HS.out _ HB3.out) (fun hHeld => ?_)
      clear hK K HL
      try simp only [puts]
      refine rdy 11 rfl (fun K hK => ?_)
      go_simp
      refine (HN2.out u3 HB3.out).mono ?_
      rintro e u4 ⟨rfl, hb⟩
      have HL := zh (show Below u3.heap.size u3 u4 from hb)
      have HB4 := zh (then' HB3.out hb)
      clear hb
      have S0 := zh ((HL.out.block _ (blk_lt S0.out)).trans S0.out)
      have S1 := zh ((HL.out.block _ (blk_lt S1.out)).trans S1.out)
      go_wp2_with fail
      refine hK.out _ _ (HS.out _ HB4.out) (fun hHeld => ?_)
      clear hK K HL
      try simp only [puts]
      have ys := S0.out
      have y0 := cell_of_row _ _ 0 _ _ _ ys; have y1 := cell_of_row _ _ 1 _ _ _ ys
      have f0 := frozen_of_row _ _ 0 _ _ ys; have f1 := frozen_of_row _ _ 1 _ _ ys
      obtain ⟨u5, hV⟩ : ∃ v, v = (u4.setCell ⟨b7, 0, none⟩ (.int .i64 z1.1)).setCell ⟨b7, 1, none⟩ (.string ⟨z1.2.toArray⟩) := ⟨_, rfl⟩
      have HB5 := zh (show Below W.heap.size W u5 from by rw [hV]; exact set_below z1 HB4.out GE0.out)
      have T0 := zh (show u5.heap[b7]? = some (.cells (faC z1).toArray 50 (0, 0)) from by rw [hV]; exact fa_set z1 S0.out)
      have T1 := zh (show u5.heap[b8]? = some (.cells #[.int .i64 0, .string ⟨#[]⟩] 50 (0, 0)) from by rw [hV]; exact (set_other z1 N1_0.out).trans S1.out)
      clear ys
      refine rdy 14 rfl (fun K hK => ?_)
      go_simp
      rw [← hV]
      clear hV y0 y1 f0 f1
      refine hK.out _ _ (HS.out _ HB5.out) (fun hHeld => ?_)
      clear hK K
      try simp only [puts]
      clear S0
      have S0 := T0
      clear T0
      clear S1
      have S1 := T1
      clear T1
      have ys := S1.out
      have y0 := cell_of_row _ _ 0 _ _ _ ys; have y1 := cell_of_row _ _ 1 _ _ _ ys
      have f0 := frozen_of_row _ _ 0 _ _ ys; have f1 := frozen_of_row _ _ 1 _ _ ys
      obtain ⟨u6, hV⟩ : ∃ v, v = (u5.setCell ⟨b8, 0, none⟩ (.int .i64 z2.1)).setCell ⟨b8, 1, none⟩ (.string ⟨z2.2.toArray⟩) := ⟨_, rfl⟩
      have HB6 := zh (show Below W.heap.size W u6 from by rw [hV]; exact set_below z2 HB5.out GE1.out)
      have T0 := zh (show u6.heap[b7]? = some (.cells (faC z1).toArray 50 (0, 0)) from by rw [hV]; exact (set_other z2 N0_1.out).trans S0.out)
      have T1 := zh (show u6.heap[b8]? = some (.cells (faC z2).toArray 50 (0, 0)) from by rw [hV]; exact fa_set z2 S1.out)
      clear ys
      refine rdy 15 rfl (fun K hK => ?_)
      go_simp
      rw [← hV]
      clear hV y0 y1 f0 f1
      refine hK.out _ _ (HS.out _ HB6.out) (fun hHeld => ?_)
      clear hK K
      try simp only [puts]
      clear S0
      have S0 := T0
      clear T0
      clear S1
      have S1 := T1
      clear T1
      refine wpAnyH_done (by kernel_rfl) ?_ _
      exact ⟨b7, b8, _, _, _, _, _, _, _, _, _, _, _, _, _, _, _, _, _, _, _, _, _, _, _, _, _, _, _, _, _, _, _, _, _, _, _, _, _, _, _, _, _, _, _, rfl, S0.out, S1.out, HB6.out⟩
    ·skip
     go_simp
     obtain ⟨u1, hn1⟩ : ∃ v, v = u0.alloc (.cells #[.int .i64 0, .string ⟨#[]⟩] 50) := ⟨_, rfl⟩
     obtain ⟨b8, hbz⟩ : ∃ b, b = u0.heap.size := ⟨_, rfl⟩
     have hl : Below u0.heap.size u0 u1 := by rw [hn1]; exact (Below.refl _ _).alloc (Nat.le_refl _) _
     have HL := zh hl
     have HB1 := zh (then' HB0.out hl)
     have S1 := zh (show u1.heap[b8]? = some (.cells #[.int .i64 0, .string ⟨#[]⟩] 50 (0, 0)) from by rw [hn1, hbz]; exact heap_alloc_new _ _)
     have GE1 := zh (show W.heap.size ≤ b8 from by rw [hbz]; exact HB0.out.size)
     rw [← hn1, ← hbz]
     clear hn1 hbz hl
     refine hK.out _ _ (HS.out _ HB1.out) (fun hHeld => ?_)
     clear hK K HL
     try simp only [puts]
     refine wpAnyH_ready (rs := [5, 12]) (by kernel_rfl) (by simp) (AllReadyH.cons rfl (fun K hK => ?_) (AllReadyH.cons rfl (fun K hK => ?_) AllReadyH.nil))
     ·skip
      go_simp
      refine (HN1.out u1 HB1.out).mono ?_
      rintro e u2 ⟨rfl, hb⟩
      have HL := zh (show Below u1.heap.size u1 u2 from hb)
      have HB2 := zh (then' HB1.out hb)
      clear hb
      have S1 := zh ((HL.out.block _ (blk_lt S1.out)).trans S1.out)
      go_wp2_with fail
      refine hK.out _ _ (HS.out _ HB2.out) (fun hHeld => ?_)
      clear hK K HL
      try simp only [puts]
      refine wpAnyH_ready (rs := [11, 12]) (by kernel_rfl) (by simp) (AllReadyH.cons rfl (fun K hK => ?_) (AllReadyH.cons rfl (fun K hK => ?_) AllReadyH.nil))
      ·skip
       go_simp
       refine (HN2.out u2 HB2.out).mono ?_
       rintro e u3 ⟨rfl, hb⟩
       have HL := zh (show Below u2.heap.size u2 u3 from hb)
       have HB3 := zh (then' HB2.out hb)
       clear hb
       have S1 := zh ((HL.out.block _ (blk_lt S1.out)).trans S1.out)
       go_wp2_with fail
       refine hK.out _ _ (HS.out _ HB3.out) (fun hHeld => ?_)
       clear hK K HL
       try simp only [puts]
       refine rdy 12 rfl (fun K hK => ?_)
       go_simp
       obtain ⟨u4, hn1⟩ : ∃ v, v = u3.alloc (.cells #[.int .i64 0, .string ⟨#[]⟩] 50) := ⟨_, rfl⟩
       obtain ⟨b7, hbz⟩ : ∃ b, b = u3.heap.size := ⟨_, rfl⟩
       have hl : Below u3.heap.size u3 u4 := by rw [hn1]; exact (Below.refl _ _).alloc (Nat.le_refl _) _
       have HL := zh hl
       have HB4 := zh (then' HB3.out hl)
       have S0 := zh (show u4.heap[b7]? = some (.cells #[.int .i64 0, .string ⟨#[]⟩] 50 (0, 0)) from by rw [hn1, hbz]; exact heap_alloc_new _ _)
       have GE0 := zh (show W.heap.size ≤ b7 from by rw [hbz]; exact HB3.out.size)
       have N1_0 := zh (show b8 ≠ b7 from by rw [hbz]; have := blk_lt S1.out; omega)
       have N0_1 := zh (fun h => N1_0.out (Eq.symm h))
       have S1 := zh ((HL.out.block _ (blk_lt S1.out)).trans S1.out)
       rw [← hn1, ← hbz]
       clear hn1 hbz hl
       refine hK.out _ _ (HS.out _ HB4.out) (fun hHeld => ?_)
       clear hK K HL
       try simp only [puts]
       have ys := S0.out
       have y0 := cell_of_row _ _ 0 _ _ _ ys; have y1 := cell_of_row _ _ 1 _ _ _ ys
       have f0 := frozen_of_row _ _ 0 _ _ ys; have f1 := frozen_of_row _ _ 1 _ _ ys
       obtain ⟨u5, hV⟩ : ∃ v, v = (u4.setCell ⟨b7, 0, none⟩ (.int .i64 z1.1)).setCell ⟨b7, 1, none⟩ (.string ⟨z1.2.toArray⟩) := ⟨_, rfl⟩
       have HB5 := zh (show Below W.heap.size W u5 from by rw [hV]; exact set_below z1 HB4.out GE0.out)
       have T0 := zh (show u5.heap[b7]? = some (.cells (faC z1).toArray 50 (0, 0)) from by rw [hV]; exact fa_set z1 S0.out)
       have T1 := zh (show u5.heap[b8]? = some (.cells #[.int .i64 0, .string ⟨#[]⟩] 50 (0, 0)) from by rw [hV]; exact (set_other z1 N1_0.out).trans S1.out)
       clear ys
       refine rdy 14 rfl (fun K hK => ?_)
       go_simp
       rw [← hV]
       clear hV y0 y1 f0 f1
       refine hK.out _ _ (HS.out _ HB5.out) (fun hHeld => ?_)
       clear hK K
       try simp only [puts]
       clear S0
       have S0 := T0
       clear T0
       clear S1
       have S1 := T1
       clear T1
       have ys := S1.out
       have y0 := cell_of_row _ _ 0 _ _ _ ys; have y1 := cell_of_row _ _ 1 _ _ _ ys
       have f0 := frozen_of_row _ _ 0 _ _ ys; have f1 := frozen_of_row _ _ 1 _ _ ys
       obtain ⟨u6, hV⟩ : ∃ v, v = (u5.setCell ⟨b8, 0, none⟩ (.int .i64 z2.1)).setCell ⟨b8, 1, none⟩ (.string ⟨z2.2.toArray⟩) := ⟨_, rfl⟩
       have HB6 := zh (show Below W.heap.size W u6 from by rw [hV]; exact set_below z2 HB5.out GE1.out)
       have T0 := zh (show u6.heap[b7]? = some (.cells (faC z1).toArray 50 (0, 0)) from by rw [hV]; exact (set_other z2 N0_1.out).trans S0.out)
       have T1 := zh (show u6.heap[b8]? = some (.cells (faC z2).toArray 50 (0, 0)) from by rw [hV]; exact fa_set z2 S1.out)
       clear ys
       refine rdy 15 rfl (fun K hK => ?_)
       go_simp
       rw [← hV]
       clear hV y0 y1 f0 f1
       refine hK.out _ _ (HS.out _ HB6.out) (fun hHeld => ?_)
       clear hK K
       try simp only [puts]
       clear S0
       have S0 := T0
       clear T0
       clear S1
       have S1 := T1
       clear T1
       refine wpAnyH_done (by kernel_rfl) ?_ _
       exact ⟨b7, b8, _, _, _, _, _, _, _, _, _, _, _, _, _, _, _, _, _, _, _, _, _, _, _, _, _, _, _, _, _, _, _, _, _, _, _, _, _, _, _, _, _, _, _, rfl, S0.out, S1.out, HB6.out⟩
      ·skip
       go_simp
       obtain ⟨u3, hn1⟩ : ∃ v, v = u2.alloc (.cells #[.int .i64 0, .string ⟨#[]⟩] 50) := ⟨_, rfl⟩
       obtain ⟨b7, hbz⟩ : ∃ b, b = u2.heap.size := ⟨_, rfl⟩
       have hl : Below u2.heap.size u2 u3 := by rw [hn1]; exact (Below.refl _ _).alloc (Nat.le_refl _) _
       have HL := zh hl
       have HB3 := zh (then' HB2.out hl)
       have S0 := zh (show u3.heap[b7]? = some (.cells #[.int .i64 0, .string ⟨#[]⟩] 50 (0, 0)) from by rw [hn1, hbz]; exact heap_alloc_new _ _)
       have GE0 := zh (show W.heap.size ≤ b7 from by rw [hbz]; exact HB2.out.size)
       have N1_0 := zh (show b8 ≠ b7 from by rw [hbz]; have := blk_lt S1.out; omega)
       have N0_1 := zh (fun h => N1_0.out (Eq.symm h))
       have S1 := zh ((HL.out.block _ (blk_lt S1.out)).trans S1.out)
       rw [← hn1, ← hbz]
       clear hn1 hbz hl
       refine hK.out _ _ (HS.out _ HB3.out) (fun hHeld => ?_)
       clear hK K HL
       try simp only [puts]
       refine rdy 11 rfl (fun K hK => ?_)
       go_simp
       refine (HN2.out u3 HB3.out).mono ?_
       rintro e u4 ⟨rfl, hb⟩
       have HL := zh (show Below u3.heap.size u3 u4 from hb)
       have HB4 := zh (then' HB3.out hb)
       clear hb
       have S1 := zh ((HL.out.block _ (blk_lt S1.out)).trans S1.out)
       have S0 := zh ((HL.out.block _ (blk_lt S0.out)).trans S0.out)
       go_wp2_with fail
       refine hK.out _ _ (HS.out _ HB4.out) (fun hHeld => ?_)
       clear hK K HL
       try simp only [puts]
       have ys := S0.out
       have y0 := cell_of_row _ _ 0 _ _ _ ys; have y1 := cell_of_row _ _ 1 _ _ _ ys
       have f0 := frozen_of_row _ _ 0 _ _ ys; have f1 := frozen_of_row _ _ 1 _ _ ys
       obtain ⟨u5, hV⟩ : ∃ v, v = (u4.setCell ⟨b7, 0, none⟩ (.int .i64 z1.1)).setCell ⟨b7, 1, none⟩ (.string ⟨z1.2.toArray⟩) := ⟨_, rfl⟩
       have HB5 := zh (show Below W.heap.size W u5 from by rw [hV]; exact set_below z1 HB4.out GE0.out)
       have T0 := zh (show u5.heap[b7]? = some (.cells (faC z1).toArray 50 (0, 0)) from by rw [hV]; exact fa_set z1 S0.out)
       have T1 := zh (show u5.heap[b8]? = some (.cells #[.int .i64 0, .string ⟨#[]⟩] 50 (0, 0)) from by rw [hV]; exact (set_other z1 N1_0.out).trans S1.out)
       clear ys
       refine rdy 14 rfl (fun K hK => ?_)
       go_simp
       rw [← hV]
       clear hV y0 y1 f0 f1
       refine hK.out _ _ (HS.out _ HB5.out) (fun hHeld => ?_)
       clear hK K
       try simp only [puts]
       clear S0
       have S0 := T0
       clear T0
       clear S1
       have S1 := T1
       clear T1
       have ys := S1.out
       have y0 := cell_of_row _ _ 0 _ _ _ ys; have y1 := cell_of_row _ _ 1 _ _ _ ys
       have f0 := frozen_of_row _ _ 0 _ _ ys; have f1 := frozen_of_row _ _ 1 _ _ ys
       obtain ⟨u6, hV⟩ : ∃ v, v = (u5.setCell ⟨b8, 0, none⟩ (.int .i64 z2.1)).setCell ⟨b8, 1, none⟩ (.string ⟨z2.2.toArray⟩) := ⟨_, rfl⟩
       have HB6 := zh (show Below W.heap.size W u6 from by rw [hV]; exact set_below z2 HB5.out GE1.out)
       have T0 := zh (show u6.heap[b7]? = some (.cells (faC z1).toArray 50 (0, 0)) from by rw [hV]; exact (set_other z2 N0_1.out).trans S0.out)
       have T1 := zh (show u6.heap[b8]? = some (.cells (faC z2).toArray 50 (0, 0)) from by rw [hV]; exact fa_set z2 S1.out)
       clear ys
       refine rdy 15 rfl (fun K hK => ?_)
       go_simp
       rw [← hV]
       clear hV y0 y1 f0 f1
       refine hK.out _ _ (HS.out _ HB6.out) (fun hHeld => ?_)
       clear hK K
       try simp only [puts]
       clear S0
       have S0 := T0
       clear T0
       clear S1
       have S1 := T1
       clear T1
       refine wpAnyH_done (by kernel_rfl) ?_ _
       exact ⟨b7, b8, _, _, _, _, _, _, _, _, _, _, _, _, _, _, _, _, _, _, _, _, _, _, _, _, _, _, _, _, _, _, _, _, _, _, _, _, _, _, _, _, _, _, _, rfl, S0.out, S1.out, HB6.out⟩
     ·skip
      go_simp
      obtain ⟨u2, hn1⟩ : ∃ v, v = u1.alloc (.cells #[.int .i64 0, .string ⟨#[]⟩] 50) := ⟨_, rfl⟩
      obtain ⟨b7, hbz⟩ : ∃ b, b = u1.heap.size := ⟨_, rfl⟩
      have hl : Below u1.heap.size u1 u2 := by rw [hn1]; exact (Below.refl _ _).alloc (Nat.le_refl _) _
      have HL := zh hl
      have HB2 := zh (then' HB1.out hl)
      have S0 := zh (show u2.heap[b7]? = some (.cells #[.int .i64 0, .string ⟨#[]⟩] 50 (0, 0)) from by rw [hn1, hbz]; exact heap_alloc_new _ _)
      have GE0 := zh (show W.heap.size ≤ b7 from by rw [hbz]; exact HB1.out.size)
      have N1_0 := zh (show b8 ≠ b7 from by rw [hbz]; have := blk_lt S1.out; omega)
      have N0_1 := zh (fun h => N1_0.out (Eq.symm h))
      have S1 := zh ((HL.out.block _ (blk_lt S1.out)).trans S1.out)
      rw [← hn1, ← hbz]
      clear hn1 hbz hl
      refine hK.out _ _ (HS.out _ HB2.out) (fun hHeld => ?_)
      clear hK K HL
      try simp only [puts]
      refine rdy 5 rfl (fun K hK => ?_)
      go_simp
      refine (HN1.out u2 HB2.out).mono ?_
      rintro e u3 ⟨rfl, hb⟩
      have HL := zh (show Below u2.heap.size u2 u3 from hb)
      have HB3 := zh (then' HB2.out hb)
      clear hb
      have S1 := zh ((HL.out.block _ (blk_lt S1.out)).trans S1.out)
      have S0 := zh ((HL.out.block _ (blk_lt S0.out)).trans S0.out)
      go_wp2_with fail
      refine hK.out _ _ (HS.out _ HB3.out) (fun hHeld => ?_)
      clear hK K HL
      try simp only [puts]
      refine rdy 11 rfl (fun K hK => ?_)
      go_simp
      refine (HN2.out u3 HB3.out).mono ?_
      rintro e u4 ⟨rfl, hb⟩
      have HL := zh (show Below u3.heap.size u3 u4 from hb)
      have HB4 := zh (then' HB3.out hb)
      clear hb
      have S1 := zh ((HL.out.block _ (blk_lt S1.out)).trans S1.out)
      have S0 := zh ((HL.out.block _ (blk_lt S0.out)).trans S0.out)
      go_wp2_with fail
      refine hK.out _ _ (HS.out _ HB4.out) (fun hHeld => ?_)
      clear hK K HL
      try simp only [puts]
      have ys := S0.out
      have y0 := cell_of_row _ _ 0 _ _ _ ys; have y1 := cell_of_row _ _ 1 _ _ _ ys
      have f0 := frozen_of_row _ _ 0 _ _ ys; have f1 := frozen_of_row _ _ 1 _ _ ys
      obtain ⟨u5, hV⟩ : ∃ v, v = (u4.setCell ⟨b7, 0, none⟩ (.int .i64 z1.1)).setCell ⟨b7, 1, none⟩ (.string ⟨z1.2.toArray⟩) := ⟨_, rfl⟩
      have HB5 := zh (show Below W.heap.size W u5 from by rw [hV]; exact set_below z1 HB4.out GE0.out)
      have T0 := zh (show u5.heap[b7]? = some (.cells (faC z1).toArray 50 (0, 0)) from by rw [hV]; exact fa_set z1 S0.out)
      have T1 := zh (show u5.heap[b8]? = some (.cells #[.int .i64 0, .string ⟨#[]⟩] 50 (0, 0)) from by rw [hV]; exact (set_other z1 N1_0.out).trans S1.out)
      clear ys
      refine rdy 14 rfl (fun K hK => ?_)
      go_simp
      rw [← hV]
      clear hV y0 y1 f0 f1
      refine hK.out _ _ (HS.out _ HB5.out) (fun hHeld => ?_)
      clear hK K
      try simp only [puts]
      clear S0
      have S0 := T0
      clear T0
      clear S1
      have S1 := T1
      clear T1
      have ys := S1.out
      have y0 := cell_of_row _ _ 0 _ _ _ ys; have y1 := cell_of_row _ _ 1 _ _ _ ys
      have f0 := frozen_of_row _ _ 0 _ _ ys; have f1 := frozen_of_row _ _ 1 _ _ ys
      obtain ⟨u6, hV⟩ : ∃ v, v = (u5.setCell ⟨b8, 0, none⟩ (.int .i64 z2.1)).setCell ⟨b8, 1, none⟩ (.string ⟨z2.2.toArray⟩) := ⟨_, rfl⟩
      have HB6 := zh (show Below W.heap.size W u6 from by rw [hV]; exact set_below z2 HB5.out GE1.out)
      have T0 := zh (show u6.heap[b7]? = some (.cells (faC z1).toArray 50 (0, 0)) from by rw [hV]; exact (set_other z2 N0_1.out).trans S0.out)
      have T1 := zh (show u6.heap[b8]? = some (.cells (faC z2).toArray 50 (0, 0)) from by rw [hV]; exact fa_set z2 S1.out)
      clear ys
      refine rdy 15 rfl (fun K hK => ?_)
      go_simp
      rw [← hV]
      clear hV y0 y1 f0 f1
      refine hK.out _ _ (HS.out _ HB6.out) (fun hHeld => ?_)
      clear hK K
      try simp only [puts]
      clear S0
      have S0 := T0
      clear T0
      clear S1
      have S1 := T1
      clear T1
      refine wpAnyH_done (by kernel_rfl) ?_ _
      exact ⟨b7, b8, _, _, _, _, _, _, _, _, _, _, _, _, _, _, _, _, _, _, _, _, _, _, _, _, _, _, _, _, _, _, _, _, _, _, _, _, _, _, _, _, _, _, _, rfl, S0.out, S1.out, HB6.out⟩
   rintro e a u hP
   cases e <;> try exact hP.elim
   obtain ⟨b7, b8, t0, t1, t2, t9, t10, t11, t12, t13, t14, t15, t16, t17, t18, t19, t20, t21, t22, t23, t24, t25, t26, t27, t28, t29, t30, t31, t32, t33, t34, t35, t36, t37, t38, t39, t40, t41, t42, t43, t44, t45, t46, t47, t48, rfl, S0, S1, hB⟩ := hP
   have HT := zh (show ∀ v, Below u.heap.size u v → (fun w' : World => (w'.cell? ⟨w.heap.size, 0, none⟩ = some (.slice A1 cs.length c1) ∧ w'.cell? ⟨w.heap.size, 1, none⟩ = some (.slice A2 ns.length c2) ∧ w'.cell? ⟨w.heap.size, 2, none⟩ = some (.string ⟨ec.toArray⟩) ∧ w'.cell? ⟨w.heap.size, 3, none⟩ = some (.string ⟨en.toArray⟩) ∧ w'.cell? ⟨w.heap.size, 4, none⟩ = some (.string ⟨ed.toArray⟩)) ∧ (w'.cell? ⟨b7, 0, none⟩ = some (.int .i64 z1.1) ∧ w'.cell? ⟨b7, 1, none⟩ = some (.string ⟨z1.2.toArray⟩)) ∧ (w'.cell? ⟨b8, 0, none⟩ = some (.int .i64 z2.1) ∧ w'.cell? ⟨b8, 1, none⟩ = some (.string ⟨z2.2.toArray⟩))) v from fun v hv => ⟨(HS.out v (hB.trans (hv.mono hB.size))).1, fa_cells ((hv.block _ (blk_lt S0)).trans S0), fa_cells ((hv.block _ (blk_lt S1)).trans S1)⟩)
   have HU := zh hB
   have hff := HFJ.out
   have e12 : joinF cs z2 z1 = joinF cs z1 z2 := by rw [EZ1.out, EZ2.out, join_toF hff.fine, join_toF hff.fine, JK_comm hff]
   have e11 : joinF cs z1 z1 = z1 := by rw [EZ1.out, join_toF hff.fine, JK_self]
   have h1 := HJN.out HGP.out z1 z2 KF1.out KF2.out
   have h2 := HJN.out HGP.out z2 z1 KF2.out KF1.out
   have h3 := HJN.out HGP.out z1 z1 KF1.out KF1.out
   try dsimp only at h1 h2 h3
   rw [e12] at h2
   rw [e11] at h3
   obtain ⟨J, hJ⟩ : ∃ j, j = joinF cs z1 z2 := ⟨_, rfl⟩
   rw [← hJ] at h1 h2
   unfold faC at h1 h2 h3
   have H1 := zh h1; have H2 := zh h2; have H3 := zh h3
   clear h1 h2 h3 e12 e11 hff hJ S0 S1 hB HJN HBJ
   go_wp2_with fail
   refine wp_region_held_drew (S := fun w' : World => (w'.cell? ⟨w.heap.size, 0, none⟩ = some (.slice A1 cs.length c1) ∧ w'.cell? ⟨w.heap.size, 1, none⟩ = some (.slice A2 ns.length c2) ∧ w'.cell? ⟨w.heap.size, 2, none⟩ = some (.string ⟨ec.toArray⟩) ∧ w'.cell? ⟨w.heap.size, 3, none⟩ = some (.string ⟨en.toArray⟩) ∧ w'.cell? ⟨w.heap.size, 4, none⟩ = some (.string ⟨ed.toArray⟩)) ∧ (w'.cell? ⟨b7, 0, none⟩ = some (.int .i64 z1.1) ∧ w'.cell? ⟨b7, 1, none⟩ = some (.string ⟨z1.2.toArray⟩)) ∧ (w'.cell? ⟨b8, 0, none⟩ = some (.int .i64 z2.1) ∧ w'.cell? ⟨b8, 1, none⟩ = some (.string ⟨z2.2.toArray⟩))) (by kernel_rfl) ?_ (fun hHeld => ?_)
   ·exact HT.out _ ⟨rfl, rfl, rfl, Nat.le_refl _, fun _ _ => rfl⟩
   obtain ⟨r0, hWd⟩ : ∃ r, r = u.drew := ⟨_, rfl⟩
   have HC0 := zh (show Below u.heap.size u r0 from by rw [hWd]; exact ⟨rfl, rfl, rfl, Nat.le_refl _, fun _ _ => rfl⟩)
   rw [← hWd]
   clear hWd
   refine rdy 0 rfl (fun K hK => ?_)
   go_simp
   refine (live_j r0).mono ?_
   rintro e r1 ⟨rfl, hb⟩
   have HC1 := zh (then' HC0.out hb)
   clear hb
   go_wp2_with fail
   refine hK.out _ _ (HT.out _ HC1.out) (fun hHeld => ?_)
   clear hK K
   try simp only [puts]
   have hS1 := HT.out _ HC1.out
   refine tkp 1 rfl ?_
   refine tkp 2 rfl ?_
   refine tkp 3 rfl ?_
   refine tkp 4 rfl ?_
   refine tkp 6 rfl ?_
   refine tkp 7 rfl ?_
   refine tkp 8 rfl ?_
   clear hS1
   refine rdy 5 rfl (fun K hK => ?_)
   go_simp
   refine (H1.out r1 (HU.out.trans (HC1.out.mono HU.out.size))).mono ?_
   rintro e r2 ⟨rfl, hb⟩
   have HC2 := zh (then' HC1.out hb)
   clear hb
   go_wp2_with fail
   refine hK.out _ _ (HT.out _ HC2.out) (fun hHeld => ?_)
   clear hK K
   try simp only [puts]
   have hS2 := HT.out _ HC2.out
   clear hS2
   refine rdy 9 rfl (fun K hK => ?_)
   go_simp
   refine (H2.out r2 (HU.out.trans (HC2.out.mono HU.out.size))).mono ?_
   rintro e r3 ⟨rfl, hb⟩
   have HC3 := zh (then' HC2.out hb)
   clear hb
   go_wp2_with fail
   refine hK.out _ _ (HT.out _ HC3.out) (fun hHeld => ?_)
   clear hK K
   try simp only [puts]
   have hS3 := HT.out _ HC3.out
   refine tkp 10 rfl ?_
   refine tkp 11 rfl ?_
   refine tkp 12 rfl ?_
   refine tkp 13 rfl ?_
   refine tkp 14 rfl ?_
   refine tkp 15 rfl ?_
   refine tkp 17 rfl ?_
   clear hS3
   refine rdy 16 rfl (fun K hK => ?_)
   go_simp
   refine (H3.out r3 (HU.out.trans (HC3.out.mono HU.out.size))).mono ?_
   rintro e r4 ⟨rfl, hb⟩
   have HC4 := zh (then' HC3.out hb)
   clear hb
   go_wp2_with fail
   refine hK.out _ _ (HT.out _ HC4.out) (fun hHeld => ?_)
   clear hK K
   try simp only [puts]
   have hS4 := HT.out _ HC4.out
   refine tkp 18 rfl ?_
   refine tkp 19 rfl ?_
   refine tkp 20 rfl ?_
   clear hS4
   refine wpAnyH_done (by kernel_rfl) ?_ _
   go_wp2
   go_ret
   exact ⟨rfl, HAL.out.trans ((HU.out.trans (HC4.out.mono HU.out.size)).mono HAL.out.size)⟩
end Go.Proofs.Ytapcnglnmlgocaa.joinSides

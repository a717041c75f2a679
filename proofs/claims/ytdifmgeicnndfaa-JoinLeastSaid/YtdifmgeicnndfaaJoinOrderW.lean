/- JoinOrderW -/
import Derived.Test.YtdifmgeicnndfaaJoinE
namespace Go.Proofs.Ytdifmgeicnndfaa.joinOrder
open Go.RowKit
open words kindp opp op kind word prg
set_option maxRecDepth 100000
set_option maxHeartbeats 64000000
set_option linter.all false
theorem overD {b : Nat} {a c : World} (h : Below b a c) : Below b a c.drew := ⟨h.os, h.tape, h.output, h.size, h.block⟩
theorem knJ_kn {x : PrM} (hg : GrP x) (hb : PrBd x) : KnH x (knJ x.cs) := by
 refine ⟨hg.1.1, fun c hc => by have := (hg.2 c hc).1.1; omega, ?_, fun s hs => ?_, fun c hc s hs => List.mem_cons_of_mem _ (List.mem_cons_of_mem _ (List.mem_flatMap.2 ⟨c, hc, by simp [hs]⟩))⟩
 ·have h70 := hg.1.1
  have key : ∀ (l : List ClM), (∀ c ∈ l, GrC c) → (l.flatMap fun c => c.nm :: abv c).length ≤ 42 * l.length := by
   intro l
   induction l with
   | nil => intro _; simp
   | cons c l ih =>
    intro h
    have h1 := (h c (by simp)).1.1
    have h2 := ih fun y hy => h y (by simp [hy])
    simp only [List.flatMap_cons, List.length_append, List.length_cons, abv] at *
    omega
  have := key x.cs hg.2
  unfold knJ
  simp only [List.length_cons]
  omega
 ·unfold knJ at hs
  rcases List.mem_cons.1 hs with rfl | hs
  ·simp
  ·rcases List.mem_cons.1 hs with rfl | hs
   ·simp
   ·obtain ⟨c, hc, h⟩ := List.mem_flatMap.1 hs
    have hbc := hb.1.2 c hc
    unfold ClBd at hbc
    simp only [abv, List.mem_cons] at h
    rcases h with rfl | rfl | h
    ·omega
    ·omega
    ·have := hbc.2.2.1.2 s h; omega
theorem cutH {T G : Prop} (pf : T) (f : T → G) : G := f pf
theorem listedH {P : Program} {md : Region.Mode} {ops : Array Oper} {Q : Exit → Act → World → Prop} {S : World → Prop} {fuel : Nat} {l L : Array Bool} {a : Act} {w : World} (h : l = L) (H : wpAnyH P md ops Q S fuel L a w) : wpAnyH P md ops Q S fuel l a w := h ▸ H
def PostS (w W : World) (z1 z2 z3 : Fa) : Exit → Act → World → Prop
 | .normal, a, u => ∃ (b7 b8 b9 : Nat) (t0 t1 t2 t10 t11 t12 t13 t14 t15 t16 t17 t18 t19 t20 t21 t22 t23 t24 t25 t26 t27 t28 t29 t30 t31 t32 t33 t34 t35 t36 t37 t38 t39 t40 t41 t42 t43 t44 t45 t46 t47 t48 t49 t50 t51 t52 t53 : Value), a = ⟨#[t0, t1, t2, .pointer (some ⟨w.heap.size, 0, none⟩), .pointer (some ⟨w.heap.size + 1, 0, none⟩), .pointer (some ⟨w.heap.size + 1 + 1, 0, none⟩), .bool false, .pointer (some ⟨b7, 0, none⟩), .pointer (some ⟨b8, 0, none⟩), .pointer (some ⟨b9, 0, none⟩), t10, t11, t12, t13, t14, t15, t16, t17, t18, t19, t20, t21, t22, t23, t24, t25, t26, t27, t28, t29, t30, t31, t32, t33, t34, t35, t36, t37, t38, t39, t40, t41, t42, t43, t44, t45, t46, t47, t48, t49, t50, t51, t52, t53], []⟩ ∧ u.heap[b7]? = some (.cells (faC z1).toArray 50 (0, 0)) ∧ u.heap[b8]? = some (.cells (faC z2).toArray 50 (0, 0)) ∧ u.heap[b9]? = some (.cells (faC z3).toArray 50 (0, 0)) ∧ Below W.heap.size W u
 | _, _, _ => False
theorem walk (x : PrM) (k1 k2 k3 : Int) (d1 d2 d3 : Tx) (a1 a2 a3 : Nat) (w : World) (hk : PrOk w x) (hb : PrBd x) (he : a1 < 256 ∧ a2 < 256 ∧ a3 < 256) : Calls Try.prog 4 #[.agg (prC x).toArray, .agg #[.int .i64 k1, .string ⟨d1.toArray⟩, .int .i64 k2, .string ⟨d2.toArray⟩, .int .i64 k3, .string ⟨d3.toArray⟩], .agg #[.int .u8 (a1 : Int), .int .u8 (a2 : Int), .int .u8 (a3 : Int)]] w fun e w' => e = .returned (.bool true) ∧ Below w.heap.size w w' := by
 obtain ⟨cs, A1, c1, ns, A2, c2, ec, en, ed⟩ := x
 obtain ⟨W, hW⟩ : ∃ W, W = ((w.alloc (.cells #[.slice A1 cs.length c1, .slice A2 ns.length c2, .string ⟨ec.toArray⟩, .string ⟨en.toArray⟩, .string ⟨ed.toArray⟩] 27)).alloc (.cells #[.int .i64 k1, .string ⟨d1.toArray⟩, .int .i64 k2, .string ⟨d2.toArray⟩, .int .i64 k3, .string ⟨d3.toArray⟩] 51)).alloc (.cells #[.int .u8 (a1 : Int), .int .u8 (a2 : Int), .int .u8 (a3 : Int)] 28) := ⟨_, rfl⟩
 obtain ⟨h1, h2, h3, hal⟩ := three w _ _ _ W hW
 have HS := zh (show ∀ v, Below W.heap.size W v → (fun w' : World => (w'.cell? ⟨w.heap.size, 0, none⟩ = some (.slice A1 cs.length c1) ∧ w'.cell? ⟨w.heap.size, 1, none⟩ = some (.slice A2 ns.length c2) ∧ w'.cell? ⟨w.heap.size, 2, none⟩ = some (.string ⟨ec.toArray⟩) ∧ w'.cell? ⟨w.heap.size, 3, none⟩ = some (.string ⟨en.toArray⟩) ∧ w'.cell? ⟨w.heap.size, 4, none⟩ = some (.string ⟨ed.toArray⟩)) ∧ (w'.cell? ⟨w.heap.size + 1, 0, none⟩ = some (.int .i64 k1) ∧ w'.cell? ⟨w.heap.size + 1, 1, none⟩ = some (.string ⟨d1.toArray⟩) ∧ w'.cell? ⟨w.heap.size + 1, 2, none⟩ = some (.int .i64 k2) ∧ w'.cell? ⟨w.heap.size + 1, 3, none⟩ = some (.string ⟨d2.toArray⟩) ∧ w'.cell? ⟨w.heap.size + 1, 4, none⟩ = some (.int .i64 k3) ∧ w'.cell? ⟨w.heap.size + 1, 5, none⟩ = some (.string ⟨d3.toArray⟩)) ∧ (w'.cell? ⟨w.heap.size + 1 + 1, 0, none⟩ = some (.int .u8 (a1 : Int)) ∧ w'.cell? ⟨w.heap.size + 1 + 1, 1, none⟩ = some (.int .u8 (a2 : Int)) ∧ w'.cell? ⟨w.heap.size + 1 + 1, 2, none⟩ = some (.int .u8 (a3 : Int)))) v from fun v hv => ⟨pr_cells (x := ⟨cs, A1, c1, ns, A2, c2, ec, en, ed⟩) ((hv.block _ (blk_lt h1)).trans h1), by
  have r := (hv.block _ (blk_lt h2)).trans h2
  have s := (hv.block _ (blk_lt h3)).trans h3
  exact ⟨⟨cell_of_row _ _ 0 _ _ _ r, cell_of_row _ _ 1 _ _ _ r, cell_of_row _ _ 2 _ _ _ r, cell_of_row _ _ 3 _ _ _ r, cell_of_row _ _ 4 _ _ _ r, cell_of_row _ _ 5 _ _ _ r⟩, ⟨cell_of_row _ _ 0 _ _ _ s, cell_of_row _ _ 1 _ _ _ s, cell_of_row _ _ 2 _ _ _ s⟩⟩⟩)
 have hkW := hk.below hal
 have HGR := fun v (hv : Below W.heap.size W v) => great_w ⟨cs, A1, c1, ns, A2, c2, ec, en, ed⟩ v (hkW.below hv) hb
 have HSO := fun v (hv : Below W.heap.size W v) (hg : GrP ⟨cs, A1, c1, ns, A2, c2, ec, en, ed⟩) => sound_j ⟨cs, A1, c1, ns, A2, c2, ec, en, ed⟩ v (hkW.below hv) hb hg
 have HNR := fun (h70 : cs.length ≤ 70) (k : Int) (d : Tx) (m : Nat) (hm : m < 256) v (hv : Below W.heap.size W v) => near_j ⟨cs, A1, c1, ns, A2, c2, ec, en, ed⟩ (k, d) m v (hkW.below hv) h70 hm
 have HJN := fun (hg : GrP ⟨cs, A1, c1, ns, A2, c2, ec, en, ed⟩) (a b : Fa) (ha : a.1 = 3 → a.2 ∈ knJ cs) (hb2 : b.1 = 3 → b.2 ∈ knJ cs) v (hv : Below W.heap.size W v) => join_j ⟨cs, A1, c1, ns, A2, c2, ec, en, ed⟩ (knJ cs) a b v (hkW.below hv) hg (knJ_kn hg hb) ha hb2
 have HBJ := fun (hg : GrP ⟨cs, A1, c1, ns, A2, c2, ec, en, ed⟩) (a b : Fa) (ha : a.1 = 3 → a.2 ∈ knJ cs) (hb2 : b.1 = 3 → b.2 ∈ knJ cs) v (hv : Below W.heap.size W v) => below_j ⟨cs, A1, c1, ns, A2, c2, ec, en, ed⟩ (knJ cs) a b v (hkW.below hv) hg (knJ_kn hg hb) ha hb2
 unfold prC at HGR HSO HNR HJN HBJ ⊢
 try dsimp only [List.cons_append, List.nil_append] at HGR HSO HNR HJN HBJ ⊢
 have HGR := zh HGR; have HSO := zh HSO; have HNR := zh HNR; have HJN := zh HJN; have HBJ := zh HBJ
 have HAL := zh hal; have HW := zh hW; have HE := zh he
 have hmx : Try.prog.follows .mixedOrders = true := by kernel_rfl
 clear h1 h2 h3 hal hW hk hb he hkW
 obtain ⟨⟨x0, x1, x2, x3, x4⟩, -⟩ := HS.out W (Below.refl _ _)
 go_enter Try.func4, Try.ntmps4
 go_wp2_with fail
 try simp only [World.size_alloc]
 rw [← HW.out]
 (try go_wp2_with fail)
 refine (HGR.out W (Below.refl _ _)).mono ?_
 rintro e v1 ⟨g, rfl, hg, hb1⟩
 have K1 := zh hb1
 have HG := zh hg
 clear hb1 hg x0 x1 x2 x3 x4
 obtain ⟨⟨x0, x1, x2, x3, x4⟩, -⟩ := HS.out v1 K1.out
 cases g with
 | true =>
  go_wp2_with fail
  refine (live_j v1).mono ?_
  rintro e v2 ⟨rfl, hb2⟩
  have K2 := zh (then' K1.out hb2)
  clear hb2 x0 x1 x2 x3 x4
  go_wp2_with fail
  go_ret
  exact ⟨rfl, HAL.out.trans (K2.out.mono HAL.out.size)⟩
 | false =>
  have HGP := zh (HG.out rfl)
  have h70 : cs.length ≤ 70 := HGP.out.1.1
  go_wp2_with fail
  refine (HSO.out v1 K1.out HGP.out).mono ?_
  rintro e v2 ⟨b, rfl, hf, hb2⟩
  have K2 := zh (then' K1.out hb2)
  have HF := zh hf
  clear hb2 hf x0 x1 x2 x3 x4
  obtain ⟨⟨x0, x1, x2, x3, x4⟩, -⟩ := HS.out v2 K2.out
  cases b with
  | false =>
   go_wp2_with fail
   refine (live_j v2).mono ?_
   rintro e v3 ⟨rfl, hb3⟩
   have K3 := zh (then' K2.out hb3)
   clear hb3 x0 x1 x2 x3 x4
   go_wp2_with fail
   go_ret
   exact ⟨rfl, HAL.out.trans (K3.out.mono HAL.out.size)⟩
  | true =>
   have HFJ := zh (HF.out rfl)
   obtain ⟨f1, ef1, kf1⟩ := near_fk cs k1 a1
   have HN1 := HNR.out h70 k1 d1 a1 HE.out.1
   try dsimp only at HN1
   rw [ef1] at HN1
   obtain ⟨z1, ez1⟩ : ∃ z, z = toF f1 := ⟨_, rfl⟩
   rw [← ez1] at HN1 kf1
   unfold faC at HN1
   have HN1 := zh HN1; have KF1 := zh kf1; have EZ1 := zh ez1
   clear ef1 kf1 ez1
   obtain ⟨f2, ef2, kf2⟩ := near_fk cs k2 a2
   have HN2 := HNR.out h70 k2 d2 a2 HE.out.2.1
   try dsimp only at HN2
   rw [ef2] at HN2
   obtain ⟨z2, ez2⟩ : ∃ z, z = toF f2 := ⟨_, rfl⟩
   rw [← ez2] at HN2 kf2
   unfold faC at HN2
   have HN2 := zh HN2; have KF2 := zh kf2; have EZ2 := zh ez2
   clear ef2 kf2 ez2
   obtain ⟨f3, ef3, kf3⟩ := near_fk cs k3 a3
   have HN3 := HNR.out h70 k3 d3 a3 HE.out.2.2
   try dsimp only at HN3
   rw [ef3] at HN3
   obtain ⟨z3, ez3⟩ : ∃ z, z = toF f3 := ⟨_, rfl⟩
   rw [← ez3] at HN3 kf3
   unfold faC at HN3
   have HN3 := zh HN3; have KF3 := zh kf3; have EZ3 := zh ez3
   clear ef3 kf3 ez3
   clear HGR HSO HNR h70
   go_wp2_with fail
   refine Code.wp_mono (Q := PostS w W z1 z2 z3) ?_ ?_
   rotate_left 1
   focus
    refine wp_region_held_drew (S := fun w' : World => (w'.cell? ⟨w.heap.size, 0, none⟩ = some (.slice A1 cs.length c1) ∧ w'.cell? ⟨w.heap.size, 1, none⟩ = some (.slice A2 ns.length c2) ∧ w'.cell? ⟨w.heap.size, 2, none⟩ = some (.string ⟨ec.toArray⟩) ∧ w'.cell? ⟨w.heap.size, 3, none⟩ = some (.string ⟨en.toArray⟩) ∧ w'.cell? ⟨w.heap.size, 4, none⟩ = some (.string ⟨ed.toArray⟩)) ∧ (w'.cell? ⟨w.heap.size + 1, 0, none⟩ = some (.int .i64 k1) ∧ w'.cell? ⟨w.heap.size + 1, 1, none⟩ = some (.string ⟨d1.toArray⟩) ∧ w'.cell? ⟨w.heap.size + 1, 2, none⟩ = some (.int .i64 k2) ∧ w'.cell? ⟨w.heap.size + 1, 3, none⟩ = some (.string ⟨d2.toArray⟩) ∧ w'.cell? ⟨w.heap.size + 1, 4, none⟩ = some (.int .i64 k3) ∧ w'.cell? ⟨w.heap.size + 1, 5, none⟩ = some (.string ⟨d3.toArray⟩)) ∧ (w'.cell? ⟨w.heap.size + 1 + 1, 0, none⟩ = some (.int .u8 (a1 : Int)) ∧ w'.cell? ⟨w.heap.size + 1 + 1, 1, none⟩ = some (.int .u8 (a2 : Int)) ∧ w'.cell? ⟨w.heap.size + 1 + 1, 2, none⟩ = some (.int .u8 (a3 : Int)))) (by kernel_rfl) ?_ (fun hHeld => ?_)
    ·exact HS.out _ (K2.out.trans ⟨rfl, rfl, rfl, by exact Nat.le_refl _, fun _ _ => rfl⟩)
    clear x0 x1 x2 x3 x4
    refine' cutH (T := _) ?pK3_012 ?fK3_012
    case' fK3_012 => intro K3_012
    refine' cutH (T := _) ?pK2_012 ?fK2_012
    case' fK2_012 => intro K2_012
    refine' cutH (T := _) ?pK3_12 ?fK3_12
    case' fK3_12 => intro K3_12
    refine' cutH (T := _) ?pK3_02 ?fK3_02
    case' fK3_02 => intro K3_02
    refine' cutH (T := _) ?pK3_01 ?fK3_01
    case' fK3_01 => intro K3_01
    refine' cutH (T := _) ?pK1_012 ?fK1_012
    case' fK1_012 => intro K1_012
    refine' cutH (T := _) ?pK2_12 ?fK2_12
    case' fK2_12 => intro K2_12
    refine' cutH (T := _) ?pK2_02 ?fK2_02
    case' fK2_02 => intro K2_02
    refine' cutH (T := _) ?pK2_01 ?fK2_01
    case' fK2_01 => intro K2_01
    refine' cutH (T := _) ?pK3_2 ?fK3_2
    case' fK3_2 => intro K3_2
    refine' cutH (T := _) ?pK3_1 ?fK3_1
    case' fK3_1 => intro K3_1
    refine' cutH (T := _) ?pK3_0 ?fK3_0
    case' fK3_0 => intro K3_0
    refine' cutH (T := _) ?pK0_012 ?fK0_012
    case' fK0_012 => intro K0_012
    refine' cutH (T := _) ?pK1_12 ?fK1_12
    case' fK1_12 => intro K1_12
    refine' cutH (T := _) ?pK1_02 ?fK1_02
    case' fK1_02 => intro K1_02
    refine' cutH (T := _) ?pK1_01 ?fK1_01
    case' fK1_01 => intro K1_01
    refine' cutH (T := _) ?pK2_2 ?fK2_2
    case' fK2_2 => intro K2_2
    refine' cutH (T := _) ?pK2_1 ?fK2_1
    case' fK2_1 => intro K2_1
    refine' cutH (T := _) ?pK2_0 ?fK2_0
    case' fK2_0 => intro K2_0
    refine' cutH (T := _) ?pK3_ ?fK3_
    case' fK3_ => intro K3_
    refine' cutH (T := _) ?pK0_12 ?fK0_12
    case' fK0_12 => intro K0_12
    refine' cutH (T := _) ?pK0_02 ?fK0_02
    case' fK0_02 => intro K0_02
    refine' cutH (T := _) ?pK0_01 ?fK0_01
    case' fK0_01 => intro K0_01
    refine' cutH (T := _) ?pK1_2 ?fK1_2
    case' fK1_2 => intro K1_2
    refine' cutH (T := _) ?pK1_1 ?fK1_1
    case' fK1_1 => intro K1_1
    refine' cutH (T := _) ?pK1_0 ?fK1_0
    case' fK1_0 => intro K1_0
    refine' cutH (T := _) ?pK2_ ?fK2_
    case' fK2_ => intro K2_
    refine' cutH (T := _) ?pK0_2 ?fK0_2
    case' fK0_2 => intro K0_2
    refine' cutH (T := _) ?pK0_1 ?fK0_1
    case' fK0_1 => intro K0_1
    refine' cutH (T := _) ?pK0_0 ?fK0_0
    case' fK0_0 => intro K0_0
    refine' cutH (T := _) ?pK1_ ?fK1_
    case' fK1_ => intro K1_
    obtain ⟨u0, hWd⟩ : ∃ u, u = v2.drew := ⟨_, rfl⟩
    have HB0 := zh (show Below W.heap.size W u0 from by rw [hWd]; exact overD K2.out)
    rw [← hWd]
    have hS0 := HS.out _ HB0.out
    clear hWd
    refine tkp 0 rfl ?_
    refine tkp 1 rfl ?_
    refine tkp 2 rfl ?_
    refine tkp 3 rfl ?_
    refine tkp 4 rfl ?_
    refine tkp 6 rfl ?_
    refine tkp 7 rfl ?_
    refine tkp 8 rfl ?_
    refine tkp 9 rfl ?_
    refine tkp 10 rfl ?_
    refine tkp 12 rfl ?_
    refine tkp 13 rfl ?_
    refine tkp 14 rfl ?_
    refine tkp 15 rfl ?_
    refine tkp 16 rfl ?_
    clear hS0
    ·have HB := HB0
     clear HB0
     obtain ⟨u, huu⟩ : ∃ u, u = u0 := ⟨_, rfl⟩
     rw [← huu] at HB ⊢
     clear huu
     refine listedH (L := #[true, true, true, true, true, false, true, true, true, true, true, false, true, true, true, true, true, false, false, false, false, false, false, false]) (by kernel_rfl) ?_
     refine wpAnyH_ready (rs := [5, 18, 19, 20]) (by kernel_rfl) (by simp) (AllReadyH.cons rfl (fun K hK => ?_) (AllReadyH.cons rfl (fun K hK => ?_) (AllReadyH.cons rfl (fun K hK => ?_) (AllReadyH.cons rfl (fun K hK => ?_) AllReadyH.nil))))
     ·skip
      go_simp
      refine (HN1.out u HB.out).mono ?_
      rintro e v ⟨rfl, hb⟩
      have HL := zh (show Below u.heap.size u v from hb)
      have HC := zh (then' HB.out hb)
      clear hb HB
      have HB := HC
      clear HC
      go_wp2_with fail
      refine hK.out _ _ (HS.out _ HB.out) (fun hHeld => ?_)
      clear hK K HL hHeld
      try simp only [puts]
      refine listedH (L := #[true, true, true, true, true, true, true, true, true, true, true, false, true, true, true, true, true, false, false, false, false, false, false, false]) (by kernel_rfl) ?_
      revert HB
      revert v
      exact K1_
     ·skip
      go_simp
      obtain ⟨v, hn1⟩ : ∃ v, v = u.alloc (.cells #[.int .i64 0, .string ⟨#[]⟩] 50) := ⟨_, rfl⟩
      obtain ⟨b7, hbz⟩ : ∃ b, b = u.heap.size := ⟨_, rfl⟩
      have hl : Below u.heap.size u v := by rw [hn1]; exact (Below.refl _ _).alloc (Nat.le_refl _) _
      have HL := zh hl
      have HC := zh (then' HB.out hl)
      have S0 := zh (show v.heap[b7]? = some (.cells #[.int .i64 0, .string ⟨#[]⟩] 50 (0, 0)) from by rw [hn1, hbz]; exact heap_alloc_new _ _)
      have GE0 := zh (show W.heap.size ≤ b7 from by rw [hbz]; exact HB.out.size)
      rw [← hn1, ← hbz]
      clear hn1 hbz hl HB
      have HB := HC
      clear HC
      refine hK.out _ _ (HS.out _ HB.out) (fun hHeld => ?_)
      clear hK K HL hHeld
      try simp only [puts]
      refine listedH (L := #[true, true, true, true, true, false, true, true, true, true, true, false, true, true, true, true, true, false, true, false, false, false, false, false]) (by kernel_rfl) ?_
      revert GE0
      revert S0
      revert HB
      revert b7
      revert v
      exact K0_0
     ·skip
      go_simp
      obtain ⟨v, hn1⟩ : ∃ v, v = u.alloc (.cells #[.int .i64 0, .string ⟨#[]⟩] 50) := ⟨_, rfl⟩
      obtain ⟨b8, hbz⟩ : ∃ b, b = u.heap.size := ⟨_, rfl⟩
      have hl : Below u.heap.size u v := by rw [hn1]; exact (Below.refl _ _).alloc (Nat.le_refl _) _
      have HL := zh hl
      have HC := zh (then' HB.out hl)
      have S1 := zh (show v.heap[b8]? = some (.cells #[.int .i64 0, .string ⟨#[]⟩] 50 (0, 0)) from by rw [hn1, hbz]; exact heap_alloc_new _ _)
      have GE1 := zh (show W.heap.size ≤ b8 from by rw [hbz]; exact HB.out.size)
      rw [← hn1, ← hbz]
      clear hn1 hbz hl HB
      have HB := HC
      clear HC
      refine hK.out _ _ (HS.out _ HB.out) (fun hHeld => ?_)
      clear hK K HL hHeld
      try simp only [puts]
      refine listedH (L := #[true, true, true, true, true, false, true, true, true, true, true, false, true, true, true, true, true, false, false, true, false, false, false, false]) (by kernel_rfl) ?_
      revert GE1
      revert S1
      revert HB
      revert b8
      revert v
      exact K0_1
     ·skip
      go_simp
      obtain ⟨v, hn1⟩ : ∃ v, v = u.alloc (.cells #[.int .i64 0, .string ⟨#[]⟩] 50) := ⟨_, rfl⟩
      obtain ⟨b9, hbz⟩ : ∃ b, b = u.heap.size := ⟨_, rfl⟩
      have hl : Below u.heap.size u v := by rw [hn1]; exact (Below.refl _ _).alloc (Nat.le_refl _) _
      have HL := zh hl
      have HC := zh (then' HB.out hl)
      have S2 := zh (show v.heap[b9]? = some (.cells #[.int .i64 0, .string ⟨#[]⟩] 50 (0, 0)) from by rw [hn1, hbz]; exact heap_alloc_new _ _)
      have GE2 := zh (show W.heap.size ≤ b9 from by rw [hbz]; exact HB.out.size)
      rw [← hn1, ← hbz]
      clear hn1 hbz hl HB
      have HB := HC
      clear HC
      refine hK.out _ _ (HS.out _ HB.out) (fun hHeld => ?_)
      clear hK K HL hHeld
      try simp only [puts]
      refine listedH (L := #[true, true, true, true, true, false, true, true, true, true, true, false, true, true, true, true, true, false, false, false, true, false, false, false]) (by kernel_rfl) ?_
      revert GE2
      revert S2
      revert HB
      revert b9
      revert v
      exact K0_2
    case pK1_ =>
     intro u  HB
     refine wpAnyH_ready (rs := [11, 18, 19, 20]) (by kernel_rfl) (by simp) (AllReadyH.cons rfl (fun K hK => ?_) (AllReadyH.cons rfl (fun K hK => ?_) (AllReadyH.cons rfl (fun K hK => ?_) (AllReadyH.cons rfl (fun K hK => ?_) AllReadyH.nil))))
     ·skip
      go_simp
      refine (HN2.out u HB.out).mono ?_
      rintro e v ⟨rfl, hb⟩
      have HL := zh (show Below u.heap.size u v from hb)
      have HC := zh (then' HB.out hb)
      clear hb HB
      have HB := HC
      clear HC
      go_wp2_with fail
      refine hK.out _ _ (HS.out _ HB.out) (fun hHeld => ?_)
      clear hK K HL hHeld
      try simp only [puts]
      refine listedH (L := #[true, true, true, true, true, true, true, true, true, true, true, true, true, true, true, true, true, false, false, false, false, false, false, false]) (by kernel_rfl) ?_
      revert HB
      revert v
      exact K2_
     ·skip
      go_simp
      obtain ⟨v, hn1⟩ : ∃ v, v = u.alloc (.cells #[.int .i64 0, .string ⟨#[]⟩] 50) := ⟨_, rfl⟩
      obtain ⟨b7, hbz⟩ : ∃ b, b = u.heap.size := ⟨_, rfl⟩
      have hl : Below u.heap.size u v := by rw [hn1]; exact (Below.refl _ _).alloc (Nat.le_refl _) _
      have HL := zh hl
      have HC := zh (then' HB.out hl)
      have S0 := zh (show v.heap[b7]? = some (.cells #[.int .i64 0, .string ⟨#[]⟩] 50 (0, 0)) from by rw [hn1, hbz]; exact heap_alloc_new _ _)
      have GE0 := zh (show W.heap.size ≤ b7 from by rw [hbz]; exact HB.out.size)
      rw [← hn1, ← hbz]
      clear hn1 hbz hl HB
      have HB := HC
      clear HC
      refine hK.out _ _ (HS.out _ HB.out) (fun hHeld => ?_)
      clear hK K HL hHeld
      try simp only [puts]
      refine listedH (L := #[true, true, true, true, true, true, true, true, true, true, true, false, true, true, true, true, true, false, true, false, false, false, false, false]) (by kernel_rfl) ?_
      revert GE0
      revert S0
      revert HB
      revert b7
      revert v
      exact K1_0
     ·skip
      go_simp
      obtain ⟨v, hn1⟩ : ∃ v, v = u.alloc (.cells #[.int .i64 0, .string ⟨#[]⟩] 50) := ⟨_, rfl⟩
      obtain ⟨b8, hbz⟩ : ∃ b, b = u.heap.size := ⟨_, rfl⟩
      have hl : Below u.heap.size u v := by rw [hn1]; exact (Below.refl _ _).alloc (Nat.le_refl _) _
      have HL := zh hl
      have HC := zh (then' HB.out hl)
      have S1 := zh (show v.heap[b8]? = some (.cells #[.int .i64 0, .string ⟨#[]⟩] 50 (0, 0)) from by rw [hn1, hbz]; exact heap_alloc_new _ _)
      have GE1 := zh (show W.heap.size ≤ b8 from by rw [hbz]; exact HB.out.size)
      rw [← hn1, ← hbz]
      clear hn1 hbz hl HB
      have HB := HC
      clear HC
      refine hK.out _ _ (HS.out _ HB.out) (fun hHeld => ?_)
      clear hK K HL hHeld
      try simp only [puts]
      refine listedH (L := #[true, true, true, true, true, true, true, true, true, true, true, false, true, true, true, true, true, false, false, true, false, false, false, false]) (by kernel_rfl) ?_
      revert GE1
      revert S1
      revert HB
      revert b8
      revert v
      exact K1_1
     ·skip
      go_simp
      obtain ⟨v, hn1⟩ : ∃ v, v = u.alloc (.cells #[.int .i64 0, .string ⟨#[]⟩] 50) := ⟨_, rfl⟩
      obtain ⟨b9, hbz⟩ : ∃ b, b = u.heap.size := ⟨_, rfl⟩
      have hl : Below u.heap.size u v := by rw [hn1]; exact (Below.refl _ _).alloc (Nat.le_refl _) _
      have HL := zh hl
      have HC := zh (then' HB.out hl)
      have S2 := zh (show v.heap[b9]? = some (.cells #[.int .i64 0, .string ⟨#[]⟩] 50 (0, 0)) from by rw [hn1, hbz]; exact heap_alloc_new _ _)
      have GE2 := zh (show W.heap.size ≤ b9 from by rw [hbz]; exact HB.out.size)
      rw [← hn1, ← hbz]
      clear hn1 hbz hl HB
      have HB := HC
      clear HC
      refine hK.out _ _ (HS.out _ HB.out) (fun hHeld => ?_)
      clear hK K HL hHeld
      try simp only [puts]
      refine listedH (L := #[true, true, true, true, true, true, true, true, true, true, true, false, true, true, true, true, true, false, false, false, true, false, false, false]) (by kernel_rfl) ?_
      revert GE2
      revert S2
      revert HB
      revert b9
      revert v
      exact K1_2
    case pK0_0 =>
     intro u b7 HB S0 GE0
     refine wpAnyH_ready (rs := [5, 19, 20]) (by kernel_rfl) (by simp) (AllReadyH.cons rfl (fun K hK => ?_) (AllReadyH.cons rfl (fun K hK => ?_) (AllReadyH.cons rfl (fun K hK => ?_) AllReadyH.nil)))
     ·skip
      go_simp
      refine (HN1.out u HB.out).mono ?_
      rintro e v ⟨rfl, hb⟩
      have HL := zh (show Below u.heap.size u v from hb)
      have HC := zh (then' HB.out hb)
      clear hb HB
      have HB := HC
      clear HC
      have T := zh ((HL.out.block _ (blk_lt S0.out)).trans S0.out)
      clear S0
      have S0 := T
      clear T
      go_wp2_with fail
      refine hK.out _ _ (HS.out _ HB.out) (fun hHeld => ?_)
      clear hK K HL hHeld
      try simp only [puts]
      refine listedH (L := #[true, true, true, true, true, true, true, true, true, true, true, false, true, true, true, true, true, false, true, false, false, false, false, false]) (by kernel_rfl) ?_
      revert GE0
      revert S0
      revert HB
      revert b7
      revert v
      exact K1_0
     ·skip
      go_simp
      obtain ⟨v, hn1⟩ : ∃ v, v = u.alloc (.cells #[.int .i64 0, .string ⟨#[]⟩] 50) := ⟨_, rfl⟩
      obtain ⟨b8, hbz⟩ : ∃ b, b = u.heap.size := ⟨_, rfl⟩
      have hl : Below u.heap.size u v := by rw [hn1]; exact (Below.refl _ _).alloc (Nat.le_refl _) _
      have HL := zh hl
      have HC := zh (then' HB.out hl)
      have S1 := zh (show v.heap[b8]? = some (.cells #[.int .i64 0, .string ⟨#[]⟩] 50 (0, 0)) from by rw [hn1, hbz]; exact heap_alloc_new _ _)
      have GE1 := zh (show W.heap.size ≤ b8 from by rw [hbz]; exact HB.out.size)
      have N0_1 := zh (show b7 ≠ b8 from by rw [hbz]; have := blk_lt S0.out; omega)
      have N1_0 := zh (fun h => N0_1.out (Eq.symm h))
      have T := zh ((HL.out.block _ (blk_lt S0.out)).trans S0.out)
      clear S0
      have S0 := T
      clear T
      rw [← hn1, ← hbz]
      clear hn1 hbz hl HB
      have HB := HC
      clear HC
      refine hK.out _ _ (HS.out _ HB.out) (fun hHeld => ?_)
      clear hK K HL hHeld
      try simp only [puts]
      refine listedH (L := #[true, true, true, true, true, false, true, true, true, true, true, false, true, true, true, true, true, false, true, true, false, false, false, false]) (by kernel_rfl) ?_
      revert N1_0
      revert N0_1
      revert GE1
      revert GE0
      revert S1
      revert S0
      revert HB
      revert b8
      revert b7
      revert v
      exact K0_01
     ·skip
      go_simp
      obtain ⟨v, hn1⟩ : ∃ v, v = u.alloc (.cells #[.int .i64 0, .string ⟨#[]⟩] 50) := ⟨_, rfl⟩
      obtain ⟨b9, hbz⟩ : ∃ b, b = u.heap.size := ⟨_, rfl⟩
      have hl : Below u.heap.size u v := by rw [hn1]; exact (Below.refl _ _).alloc (Nat.le_refl _) _
      have HL := zh hl
      have HC := zh (then' HB.out hl)
      have S2 := zh (show v.heap[b9]? = some (.cells #[.int .i64 0, .string ⟨#[]⟩] 50 (0, 0)) from by rw [hn1, hbz]; exact heap_alloc_new _ _)
      have GE2 := zh (show W.heap.size ≤ b9 from by rw [hbz]; exact HB.out.size)
      have N0_2 := zh (show b7 ≠ b9 from by rw [hbz]; have := blk_lt S0.out; omega)
      have N2_0 := zh (fun h => N0_2.out (Eq.symm h))
      have T := zh ((HL.out.block _ (blk_lt S0.out)).trans S0.out)
      clear S0
      have S0 := T
      clear T
      rw [← hn1, ← hbz]
      clear hn1 hbz hl HB
      have HB := HC
      clear HC
      refine hK.out _ _ (HS.out _ HB.out) (fun hHeld => ?_)
      clear hK K HL hHeld
      try simp only [puts]
      refine listedH (L := #[true, true, true, true, true, false, true, true, true, true, true, false, true, true, true, true, true, false, true, false, true, false, false, false]) (by kernel_rfl) ?_
      revert N2_0
      revert N0_2
      revert GE2
      revert GE0
      revert S2
      revert S0
      revert HB
      revert b9
      revert b7
      revert v
      exact K0_02
    case pK0_1 =>
     intro u b8 HB S1 GE1
     refine wpAnyH_ready (rs := [5, 18, 20]) (by kernel_rfl) (by simp) (AllReadyH.cons rfl (fun K hK => ?_) (AllReadyH.cons rfl (fun K hK => ?_) (AllReadyH.cons rfl (fun K hK => ?_) AllReadyH.nil)))
     ·skip
      go_simp
      refine (HN1.out u HB.out).mono ?_
      rintro e v ⟨rfl, hb⟩
      have HL := zh (show Below u.heap.size u v from hb)
      have HC := zh (then' HB.out hb)
      clear hb HB
      have HB := HC
      clear HC
      have T := zh ((HL.out.block _ (blk_lt S1.out)).trans S1.out)
      clear S1
      have S1 := T
      clear T
      go_wp2_with fail
      refine hK.out _ _ (HS.out _ HB.out) (fun hHeld => ?_)
      clear hK K HL hHeld
      try simp only [puts]
      refine listedH (L := #[true, true, true, true, true, true, true, true, true, true, true, false, true, true, true, true, true, false, false, true, false, false, false, false]) (by kernel_rfl) ?_
      revert GE1
      revert S1
      revert HB
      revert b8
      revert v
      exact K1_1
     ·skip
      go_simp
      obtain ⟨v, hn1⟩ : ∃ v, v = u.alloc (.cells #[.int .i64 0, .string ⟨#[]⟩] 50) := ⟨_, rfl⟩
      obtain ⟨b7, hbz⟩ : ∃ b, b = u.heap.size := ⟨_, rfl⟩
      have hl : Below u.heap.size u v := by rw [hn1]; exact (Below.refl _ _).alloc (Nat.le_refl _) _
      have HL := zh hl
      have HC := zh (then' HB.out hl)
      have S0 := zh (show v.heap[b7]? = some (.cells #[.int .i64 0, .string ⟨#[]⟩] 50 (0, 0)) from by rw [hn1, hbz]; exact heap_alloc_new _ _)
      have GE0 := zh (show W.heap.size ≤ b7 from by rw [hbz]; exact HB.out.size)
      have N1_0 := zh (show b8 ≠ b7 from by rw [hbz]; have := blk_lt S1.out; omega)
      have N0_1 := zh (fun h => N1_0.out (Eq.symm h))
      have T := zh ((HL.out.block _ (blk_lt S1.out)).trans S1.out)
      clear S1
      have S1 := T
      clear T
      rw [← hn1, ← hbz]
      clear hn1 hbz hl HB
      have HB := HC
      clear HC
      refine hK.out _ _ (HS.out _ HB.out) (fun hHeld => ?_)
      clear hK K HL hHeld
      try simp only [puts]
      refine listedH (L := #[true, true, true, true, true, false, true, true, true, true, true, false, true, true, true, true, true, false, true, true, false, false, false, false]) (by kernel_rfl) ?_
      revert N1_0
      revert N0_1
      revert GE1
      revert GE0
      revert S1
      revert S0
      revert HB
      revert b8
      revert b7
      revert v
      exact K0_01
     ·skip
      go_simp
      obtain ⟨v, hn1⟩ : ∃ v, v = u.alloc (.cells #[.int .i64 0, .string ⟨#[]⟩] 50) := ⟨_, rfl⟩
      obtain ⟨b9, hbz⟩ : ∃ b, b = u.heap.size := ⟨_, rfl⟩
      have hl : Below u.heap.size u v := by rw [hn1]; exact (Below.refl _ _).alloc (Nat.le_refl _) _
      have HL := zh hl
      have HC := zh (then' HB.out hl)
      have S2 := zh (show v.heap[b9]? = some (.cells #[.int .i64 0, .string ⟨#[]⟩] 50 (0, 0)) from by rw [hn1, hbz]; exact heap_alloc_new _ _)
      have GE2 := zh (show W.heap.size ≤ b9 from by rw [hbz]; exact HB.out.size)
      have N1_2 := zh (show b8 ≠ b9 from by rw [hbz]; have := blk_lt S1.out; omega)
      have N2_1 := zh (fun h => N1_2.out (Eq.symm h))
      have T := zh ((HL.out.block _ (blk_lt S1.out)).trans S1.out)
      clear S1
      have S1 := T
      clear T
      rw [← hn1, ← hbz]
      clear hn1 hbz hl HB
      have HB := HC
      clear HC
      refine hK.out _ _ (HS.out _ HB.out) (fun hHeld => ?_)
      clear hK K HL hHeld
      try simp only [puts]
      refine listedH (L := #[true, true, true, true, true, false, true, true, true, true, true, false, true, true, true, true, true, false, false, true, true, false, false, false]) (by kernel_rfl) ?_
      revert N2_1
      revert N1_2
      revert GE2
      revert GE1
      revert S2
      revert S1
      revert HB
      revert b9
      revert b8
      revert v
      exact K0_12
    case pK0_2 =>
     intro u b9 HB S2 GE2
     refine wpAnyH_ready (rs := [5, 18, 19]) (by kernel_rfl) (by simp) (AllReadyH.cons rfl (fun K hK => ?_) (AllReadyH.cons rfl (fun K hK => ?_) (AllReadyH.cons rfl (fun K hK => ?_) AllReadyH.nil)))
     ·skip
      go_simp
      refine (HN1.out u HB.out).mono ?_
      rintro e v ⟨rfl, hb⟩
      have HL := zh (show Below u.heap.size u v from hb)
      have HC := zh (then' HB.out hb)
      clear hb HB
      have HB := HC
      clear HC
      have T := zh ((HL.out.block _ (blk_lt S2.out)).trans S2.out)
      clear S2
      have S2 := T
      clear T
      go_wp2_with fail
      refine hK.out _ _ (HS.out _ HB.out) (fun hHeld => ?_)
      clear hK K HL hHeld
      try simp only [puts]
      refine listedH (L := #[true, true, true, true, true, true, true, true, true, true, true, false, true, true, true, true, true, false, false, false, true, false, false, false]) (by kernel_rfl) ?_
      revert GE2
      revert S2
      revert HB
      revert b9
      revert v
      exact K1_2
     ·skip
      go_simp
      obtain ⟨v, hn1⟩ : ∃ v, v = u.alloc (.cells #[.int .i64 0, .string ⟨#[]⟩] 50) := ⟨_, rfl⟩
      obtain ⟨b7, hbz⟩ : ∃ b, b = u.heap.size := ⟨_, rfl⟩
      have hl : Below u.heap.size u v := by rw [hn1]; exact (Below.refl _ _).alloc (Nat.le_refl _) _
      have HL := zh hl
      have HC := zh (then' HB.out hl)
      have S0 := zh (show v.heap[b7]? = some (.cells #[.int .i64 0, .string ⟨#[]⟩] 50 (0, 0)) from by rw [hn1, hbz]; exact heap_alloc_new _ _)
      have GE0 := zh (show W.heap.size ≤ b7 from by rw [hbz]; exact HB.out.size)
      have N2_0 := zh (show b9 ≠ b7 from by rw [hbz]; have := blk_lt S2.out; omega)
      have N0_2 := zh (fun h => N2_0.out (Eq.symm h))
      have T := zh ((HL.out.block _ (blk_lt S2.out)).trans S2.out)
      clear S2
      have S2 := T
      clear T
      rw [← hn1, ← hbz]
      clear hn1 hbz hl HB
      have HB := HC
      clear HC
      refine hK.out _ _ (HS.out _ HB.out) (fun hHeld => ?_)
      clear hK K HL hHeld
      try simp only [puts]
      refine listedH (L := #[true, true, true, true, true, false, true, true, true, true, true, false, true, true, true, true, true, false, true, false, true, false, false, false]) (by kernel_rfl) ?_
      revert N2_0
      revert N0_2
      revert GE2
      revert GE0
      revert S2
      revert S0
      revert HB
      revert b9
      revert b7
      revert v
      exact K0_02
     ·skip
      go_simp
      obtain ⟨v, hn1⟩ : ∃ v, v = u.alloc (.cells #[.int .i64 0, .string ⟨#[]⟩] 50) := ⟨_, rfl⟩
      obtain ⟨b8, hbz⟩ : ∃ b, b = u.heap.size := ⟨_, rfl⟩
      have hl : Below u.heap.size u v := by rw [hn1]; exact (Below.refl _ _).alloc (Nat.le_refl _) _
      have HL := zh hl
      have HC := zh (then' HB.out hl)
      have S1 := zh (show v.heap[b8]? = some (.cells #[.int .i64 0, .string ⟨#[]⟩] 50 (0, 0)) from by rw [hn1, hbz]; exact heap_alloc_new _ _)
      have GE1 := zh (show W.heap.size ≤ b8 from by rw [hbz]; exact HB.out.size)
      have N2_1 := zh (show b9 ≠ b8 from by rw [hbz]; have := blk_lt S2.out; omega)
      have N1_2 := zh (fun h => N2_1.out (Eq.symm h))
      have T := zh ((HL.out.block _ (blk_lt S2.out)).trans S2.out)
      clear S2
      have S2 := T
      clear T
      rw [← hn1, ← hbz]
      clear hn1 hbz hl HB
      have HB := HC
      clear HC
      refine hK.out _ _ (HS.out _ HB.out) (fun hHeld => ?_)
      clear hK K HL hHeld
      try simp only [puts]
      refine listedH (L := #[true, true, true, true, true, false, true, true, true, true, true, false, true, true, true, true, true, false, false, true, true, false, false, false]) (by kernel_rfl) ?_
      revert N2_1
      revert N1_2
      revert GE2
      revert GE1
      revert S2
      revert S1
      revert HB
      revert b9
      revert b8
      revert v
      exact K0_12
    case pK2_ =>
     intro u  HB
     refine wpAnyH_ready (rs := [17, 18, 19, 20]) (by kernel_rfl) (by simp) (AllReadyH.cons rfl (fun K hK => ?_) (AllReadyH.cons rfl (fun K hK => ?_) (AllReadyH.cons rfl (fun K hK => ?_) (AllReadyH.cons rfl (fun K hK => ?_) AllReadyH.nil))))
     ·skip
      go_simp
      refine (HN3.out u HB.out).mono ?_
      rintro e v ⟨rfl, hb⟩
      have HL := zh (show Below u.heap.size u v from hb)
      have HC := zh (then' HB.out hb)
      clear hb HB
      have HB := HC
      clear HC
      go_wp2_with fail
      refine hK.out _ _ (HS.out _ HB.out) (fun hHeld => ?_)
      clear hK K HL hHeld
      try simp only [puts]
      refine listedH (L := #[true, true, true, true, true, true, true, true, true, true, true, true, true, true, true, true, true, true, false, false, false, false, false, false]) (by kernel_rfl) ?_
      revert HB
      revert v
      exact K3_
     ·skip
      go_simp
      obtain ⟨v, hn1⟩ : ∃ v, v = u.alloc (.cells #[.int .i64 0, .string ⟨#[]⟩] 50) := ⟨_, rfl⟩
      obtain ⟨b7, hbz⟩ : ∃ b, b = u.heap.size := ⟨_, rfl⟩
      have hl : Below u.heap.size u v := by rw [hn1]; exact (Below.refl _ _).alloc (Nat.le_refl _) _
      have HL := zh hl
      have HC := zh (then' HB.out hl)
      have S0 := zh (show v.heap[b7]? = some (.cells #[.int .i64 0, .string ⟨#[]⟩] 50 (0, 0)) from by rw [hn1, hbz]; exact heap_alloc_new _ _)
      have GE0 := zh (show W.heap.size ≤ b7 from by rw [hbz]; exact HB.out.size)
      rw [← hn1, ← hbz]
      clear hn1 hbz hl HB
      have HB := HC
      clear HC
      refine hK.out _ _ (HS.out _ HB.out) (fun hHeld => ?_)
      clear hK K HL hHeld
      try simp only [puts]
      refine listedH (L := #[true, true, true, true, true, true, true, true, true, true, true, true, true, true, true, true, true, false, true, false, false, false, false, false]) (by kernel_rfl) ?_
      revert GE0
      revert S0
      revert HB
      revert b7
      revert v
      exact K2_0
     ·skip
      go_simp
      obtain ⟨v, hn1⟩ : ∃ v, v = u.alloc (.cells #[.int .i64 0, .string ⟨#[]⟩] 50) := ⟨_, rfl⟩
      obtain ⟨b8, hbz⟩ : ∃ b, b = u.heap.size := ⟨_, rfl⟩
      have hl : Below u.heap.size u v := by rw [hn1]; exact (Below.refl _ _).alloc (Nat.le_refl _) _
      have HL := zh hl
      have HC := zh (then' HB.out hl)
      have S1 := zh (show v.heap[b8]? = some (.cells #[.int .i64 0, .string ⟨#[]⟩] 50 (0, 0)) from by rw [hn1, hbz]; exact heap_alloc_new _ _)
      have GE1 := zh (show W.heap.size ≤ b8 from by rw [hbz]; exact HB.out.size)
      rw [← hn1, ← hbz]
      clear hn1 hbz hl HB
      have HB := HC
      clear HC
      refine hK.out _ _ (HS.out _ HB.out) (fun hHeld => ?_)
      clear hK K HL hHeld
      try simp only [puts]
      refine listedH (L := #[true, true, true, true, true, true, true, true, true, true, true, true, true, true, true, true, true, false, false, true, false, false, false, false]) (by kernel_rfl) ?_
      revert GE1
      revert S1
      revert HB
      revert b8
      revert v
      exact K2_1
     ·skip
      go_simp
      obtain ⟨v, hn1⟩ : ∃ v, v = u.alloc (.cells #[.int .i64 0, .string ⟨#[]⟩] 50) := ⟨_, rfl⟩
      obtain ⟨b9, hbz⟩ : ∃ b, b = u.heap.size := ⟨_, rfl⟩
      have hl : Below u.heap.size u v := by rw [hn1]; exact (Below.refl _ _).alloc (Nat.le_refl _) _
      have HL := zh hl
      have HC := zh (then' HB.out hl)
      have S2 := zh (show v.heap[b9]? = some (.cells #[.int .i64 0, .string ⟨#[]⟩] 50 (0, 0)) from by rw [hn1, hbz]; exact heap_alloc_new _ _)
      have GE2 := zh (show W.heap.size ≤ b9 from by rw [hbz]; exact HB.out.size)
      rw [← hn1, ← hbz]
      clear hn1 hbz hl HB
      have HB := HC
      clear HC
      refine hK.out _ _ (HS.out _ HB.out) (fun hHeld => ?_)
      clear hK K HL hHeld
      try simp only [puts]
      refine listedH (L := #[true, true, true, true, true, true, true, true, true, true, true, true, true, true, true, true, true, false, false, false, true, false, false, false]) (by kernel_rfl) ?_
      revert GE2
      revert S2
      revert HB
      revert b9
      revert v
      exact K2_2
    case pK1_0 =>
     intro u b7 HB S0 GE0
     refine wpAnyH_ready (rs := [11, 19, 20]) (by kernel_rfl) (by simp) (AllReadyH.cons rfl (fun K hK => ?_) (AllReadyH.cons rfl (fun K hK => ?_) (AllReadyH.cons rfl (fun K hK => ?_) AllReadyH.nil)))
     ·skip
      go_simp
      refine (HN2.out u HB.out).mono ?_
      rintro e v ⟨rfl, hb⟩
      have HL := zh (show Below u.heap.size u v from hb)
      have HC := zh (then' HB.out hb)
      clear hb HB
      have HB := HC
      clear HC
      have T := zh ((HL.out.block _ (blk_lt S0.out)).trans S0.out)
      clear S0
      have S0 := T
      clear T
      go_wp2_with fail
      refine hK.out _ _ (HS.out _ HB.out) (fun hHeld => ?_)
      clear hK K HL hHeld
      try simp only [puts]
      refine listedH (L := #[true, true, true, true, true, true, true, true, true, true, true, true, true, true, true, true, true, false, true, false, false, false, false, false]) (by kernel_rfl) ?_
      revert GE0
      revert S0
      revert HB
      revert b7
      revert v
      exact K2_0
     ·skip
      go_simp
      obtain ⟨v, hn1⟩ : ∃ v, v = u.alloc (.cells #[.int .i64 0, .string ⟨#[]⟩] 50) := ⟨_, rfl⟩
      obtain ⟨b8, hbz⟩ : ∃ b, b = u.heap.size := ⟨_, rfl⟩
      have hl : Below u.heap.size u v := by rw [hn1]; exact (Below.refl _ _).alloc (Nat.le_refl _) _
      have HL := zh hl
      have HC := zh (then' HB.out hl)
      have S1 := zh (show v.heap[b8]? = some (.cells #[.int .i64 0, .string ⟨#[]⟩] 50 (0, 0)) from by rw [hn1, hbz]; exact heap_alloc_new _ _)
      have GE1 := zh (show W.heap.size ≤ b8 from by rw [hbz]; exact HB.out.size)
      have N0_1 := zh (show b7 ≠ b8 from by rw [hbz]; have := blk_lt S0.out; omega)
      have N1_0 := zh (fun h => N0_1.out (Eq.symm h))
      have T := zh ((HL.out.block _ (blk_lt S0.out)).trans S0.out)
      clear S0
      have S0 := T
      clear T
      rw [← hn1, ← hbz]
      clear hn1 hbz hl HB
      have HB := HC
      clear HC
      refine hK.out _ _ (HS.out _ HB.out) (fun hHeld => ?_)
      clear hK K HL hHeld
      try simp only [puts]
      refine listedH (L := #[true, true, true, true, true, true, true, true, true, true, true, false, true, true, true, true, true, false, true, true, false, false, false, false]) (by kernel_rfl) ?_
      revert N1_0
      revert N0_1
      revert GE1
      revert GE0
      revert S1
      revert S0
      revert HB
      revert b8
      revert b7
      revert v
      exact K1_01
     ·skip
      go_simp
      obtain ⟨v, hn1⟩ : ∃ v, v = u.alloc (.cells #[.int .i64 0, .string ⟨#[]⟩] 50) := ⟨_, rfl⟩
      obtain ⟨b9, hbz⟩ : ∃ b, b = u.heap.size := ⟨_, rfl⟩
      have hl : Below u.heap.size u v := by rw [hn1]; exact (Below.refl _ _).alloc (Nat.le_refl _) _
      have HL := zh hl
      have HC := zh (then' HB.out hl)
      have S2 := zh (show v.heap[b9]? = some (.cells #[.int .i64 0, .string ⟨#[]⟩] 50 (0, 0)) from by rw [hn1, hbz]; exact heap_alloc_new _ _)
      have GE2 := zh (show W.heap.size ≤ b9 from by rw [hbz]; exact HB.out.size)
      have N0_2 := zh (show b7 ≠ b9 from by rw [hbz]; have := blk_lt S0.out; omega)
      have N2_0 := zh (fun h => N0_2.out (Eq.symm h))
      have T := zh ((HL.out.block _ (blk_lt S0.out)).trans S0.out)
      clear S0
      have S0 := T
      clear T
      rw [← hn1, ← hbz]
      clear hn1 hbz hl HB
      have HB := HC
      clear HC
      refine hK.out _ _ (HS.out _ HB.out) (fun hHeld => ?_)
      clear hK K HL hHeld
      try simp only [puts]
      refine listedH (L := #[true, true, true, true, true, true, true, true, true, true, true, false, true, true, true, true, true, false, true, false, true, false, false, false]) (by kernel_rfl) ?_
      revert N2_0
      revert N0_2
      revert GE2
      revert GE0
      revert S2
      revert S0
      revert HB
      revert b9
      revert b7
      revert v
      exact K1_02
    case pK1_1 =>
     intro u b8 HB S1 GE1
     refine wpAnyH_ready (rs := [11, 18, 20]) (by kernel_rfl) (by simp) (AllReadyH.cons rfl (fun K hK => ?_) (AllReadyH.cons rfl (fun K hK => ?_) (AllReadyH.cons rfl (fun K hK => ?_) AllReadyH.nil)))
     ·skip
      go_simp
      refine (HN2.out u HB.out).mono ?_
      rintro e v ⟨rfl, hb⟩
      have HL := zh (show Below u.heap.size u v from hb)
      have HC := zh (then' HB.out hb)
      clear hb HB
      have HB := HC
      clear HC
      have T := zh ((HL.out.block _ (blk_lt S1.out)).trans S1.out)
      clear S1
      have S1 := T
      clear T
      go_wp2_with fail
      refine hK.out _ _ (HS.out _ HB.out) (fun hHeld => ?_)
      clear hK K HL hHeld
      try simp only [puts]
      refine listedH (L := #[true, true, true, true, true, true, true, true, true, true, true, true, true, true, true, true, true, false, false, true, false, false, false, false]) (by kernel_rfl) ?_
      revert GE1
      revert S1
      revert HB
      revert b8
      revert v
      exact K2_1
     ·skip
      go_simp
      obtain ⟨v, hn1⟩ : ∃ v, v = u.alloc (.cells #[.int .i64 0, .string ⟨#[]⟩] 50) := ⟨_, rfl⟩
      obtain ⟨b7, hbz⟩ : ∃ b, b = u.heap.size := ⟨_, rfl⟩
      have hl : Below u.heap.size u v := by rw [hn1]; exact (Below.refl _ _).alloc (Nat.le_refl _) _
      have HL := zh hl
      have HC := zh (then' HB.out hl)
      have S0 := zh (show v.heap[b7]? = some (.cells #[.int .i64 0, .string ⟨#[]⟩] 50 (0, 0)) from by rw [hn1, hbz]; exact heap_alloc_new _ _)
      have GE0 := zh (show W.heap.size ≤ b7 from by rw [hbz]; exact HB.out.size)
      have N1_0 := zh (show b8 ≠ b7 from by rw [hbz]; have := blk_lt S1.out; omega)
      have N0_1 := zh (fun h => N1_0.out (Eq.symm h))
      have T := zh ((HL.out.block _ (blk_lt S1.out)).trans S1.out)
      clear S1
      have S1 := T
      clear T
      rw [← hn1, ← hbz]
      clear hn1 hbz hl HB
      have HB := HC
      clear HC
      refine hK.out _ _ (HS.out _ HB.out) (fun hHeld => ?_)
      clear hK K HL hHeld
      try simp only [puts]
      refine listedH (L := #[true, true, true, true, true, true, true, true, true, true, true, false, true, true, true, true, true, false, true, true, false, false, false, false]) (by kernel_rfl) ?_
      revert N1_0
      revert N0_1
      revert GE1
      revert GE0
      revert S1
      revert S0
      revert HB
      revert b8
      revert b7
      revert v
      exact K1_01
     ·skip
      go_simp
      obtain ⟨v, hn1⟩ : ∃ v, v = u.alloc (.cells #[.int .i64 0, .string ⟨#[]⟩] 50) := ⟨_, rfl⟩
      obtain ⟨b9, hbz⟩ : ∃ b, b = u.heap.size := ⟨_, rfl⟩
      have hl : Below u.heap.size u v := by rw [hn1]; exact (Below.refl _ _).alloc (Nat.le_refl _) _
      have HL := zh hl
      have HC := zh (then' HB.out hl)
      have S2 := zh (show v.heap[b9]? = some (.cells #[.int .i64 0, .string ⟨#[]⟩] 50 (0, 0)) from by rw [hn1, hbz]; exact heap_alloc_new _ _)
      have GE2 := zh (show W.heap.size ≤ b9 from by rw [hbz]; exact HB.out.size)
      have N1_2 := zh (show b8 ≠ b9 from by rw [hbz]; have := blk_lt S1.out; omega)
      have N2_1 := zh (fun h => N1_2.out (Eq.symm h))
      have T := zh ((HL.out.block _ (blk_lt S1.out)).trans S1.out)
      clear S1
      have S1 := T
      clear T
      rw [← hn1, ← hbz]
      clear hn1 hbz hl HB
      have HB := HC
      clear HC
      refine hK.out _ _ (HS.out _ HB.out) (fun hHeld => ?_)
      clear hK K HL hHeld
      try simp only [puts]
      refine listedH (L := #[true, true, true, true, true, true, true, true, true, true, true, false, true, true, true, true, true, false, false, true, true, false, false, false]) (by kernel_rfl) ?_
      revert N2_1
      revert N1_2
      revert GE2
      revert GE1
      revert S2
      revert S1
      revert HB
      revert b9
      revert b8
      revert v
      exact K1_12
    case pK1_2 =>
     intro u b9 HB S2 GE2
     refine wpAnyH_ready (rs := [11, 18, 19]) (by kernel_rfl) (by simp) (AllReadyH.cons rfl (fun K hK => ?_) (AllReadyH.cons rfl (fun K hK => ?_) (AllReadyH.cons rfl (fun K hK => ?_) AllReadyH.nil)))
     ·skip
      go_simp
      refine (HN2.out u HB.out).mono ?_
      rintro e v ⟨rfl, hb⟩
      have HL := zh (show Below u.heap.size u v from hb)
      have HC := zh (then' HB.out hb)
      clear hb HB
      have HB := HC
      clear HC
      have T := zh ((HL.out.block _ (blk_lt S2.out)).trans S2.out)
      clear S2
      have S2 := T
      clear T
      go_wp2_with fail
      refine hK.out _ _ (HS.out _ HB.out) (fun hHeld => ?_)
      clear hK K HL hHeld
      try simp only [puts]
      refine listedH (L := #[true, true, true, true, true, true, true, true, true, true, true, true, true, true, true, true, true, false, false, false, true, false, false, false]) (by kernel_rfl) ?_
      revert GE2
      revert S2
      revert HB
      revert b9
      revert v
      exact K2_2
     ·skip
      go_simp
      obtain ⟨v, hn1⟩ : ∃ v, v = u.alloc (.cells #[.int .i64 0, .string ⟨#[]⟩] 50) := ⟨_, rfl⟩
      obtain ⟨b7, hbz⟩ : ∃ b, b = u.heap.size := ⟨_, rfl⟩
      have hl : Below u.heap.size u v := by rw [hn1]; exact (Below.refl _ _).alloc (Nat.le_refl _) _
      have HL := zh hl
      have HC := zh (then' HB.out hl)
      have S0 := zh (show v.heap[b7]? = some (.cells #[.int .i64 0, .string ⟨#[]⟩] 50 (0, 0)) from by rw [hn1, hbz]; exact heap_alloc_new _ _)
      have GE0 := zh (show W.heap.size ≤ b7 from by rw [hbz]; exact HB.out.size)
      have N2_0 := zh (show b9 ≠ b7 from by rw [hbz]; have := blk_lt S2.out; omega)
      have N0_2 := zh (fun h => N2_0.out (Eq.symm h))
      have T := zh ((HL.out.block _ (blk_lt S2.out)).trans S2.out)
      clear S2
      have S2 := T
      clear T
      rw [← hn1, ← hbz]
      clear hn1 hbz hl HB
      have HB := HC
      clear HC
      refine hK.out _ _ (HS.out _ HB.out) (fun hHeld => ?_)
      clear hK K HL hHeld
      try simp only [puts]
      refine listedH (L := #[true, true, true, true, true, true, true, true, true, true, true, false, true, true, true, true, true, false, true, false, true, false, false, false]) (by kernel_rfl) ?_
      revert N2_0
      revert N0_2
      revert GE2
      revert GE0
      revert S2
      revert S0
      revert HB
      revert b9
      revert b7
      revert v
      exact K1_02
     ·skip
      go_simp
      obtain ⟨v, hn1⟩ : ∃ v, v = u.alloc (.cells #[.int .i64 0, .string ⟨#[]⟩] 50) := ⟨_, rfl⟩
      obtain ⟨b8, hbz⟩ : ∃ b, b = u.heap.size := ⟨_, rfl⟩
      have hl : Below u.heap.size u v := by rw [hn1]; exact (Below.refl _ _).alloc (Nat.le_refl _) _
      have HL := zh hl
      have HC := zh (then' HB.out hl)
      have S1 := zh (show v.heap[b8]? = some (.cells #[.int .i64 0, .string ⟨#[]⟩] 50 (0, 0)) from by rw [hn1, hbz]; exact heap_alloc_new _ _)
      have GE1 := zh (show W.heap.size ≤ b8 from by rw [hbz]; exact HB.out.size)
      have N2_1 := zh (show b9 ≠ b8 from by rw [hbz]; have := blk_lt S2.out; omega)
      have N1_2 := zh (fun h => N2_1.out (Eq.symm h))
      have T := zh ((HL.out.block _ (blk_lt S2.out)).trans S2.out)
      clear S2
      have S2 := T
      clear T
      rw [← hn1, ← hbz]
      clear hn1 hbz hl HB
      have HB := HC
      clear HC
      refine hK.out _ _ (HS.out _ HB.out) (fun hHeld => ?_)
      clear hK K HL hHeld
      try simp only [puts]
      refine listedH (L := #[true, true, true, true, true, true, true, true, true, true, true, false, true, true, true, true, true, false, false, true, true, false, false, false]) (by kernel_rfl) ?_
      revert N2_1
      revert N1_2
      revert GE2
      revert GE1
      revert S2
      revert S1
      revert HB
      revert b9
      revert b8
      revert v
      exact K1_12
    case pK0_01 =>
     intro u b7 b8 HB S0 S1 GE0 GE1 N0_1 N1_0
     refine wpAnyH_ready (rs := [5, 20]) (by kernel_rfl) (by simp) (AllReadyH.cons rfl (fun K hK => ?_) (AllReadyH.cons rfl (fun K hK => ?_) AllReadyH.nil))
     ·skip
      go_simp
      refine (HN1.out u HB.out).mono ?_
      rintro e v ⟨rfl, hb⟩
      have HL := zh (show Below u.heap.size u v from hb)
      have HC := zh (then' HB.out hb)
      clear hb HB
      have HB := HC
      clear HC
      have T := zh ((HL.out.block _ (blk_lt S0.out)).trans S0.out)
      clear S0
      have S0 := T
      clear T
      have T := zh ((HL.out.block _ (blk_lt S1.out)).trans S1.out)
      clear S1
      have S1 := T
      clear T
      go_wp2_with fail
      refine hK.out _ _ (HS.out _ HB.out) (fun hHeld => ?_)
      clear hK K HL hHeld
      try simp only [puts]
      refine listedH (L := #[true, true, true, true, true, true, true, true, true, true, true, false, true, true, true, true, true, false, true, true, false, false, false, false]) (by kernel_rfl) ?_
      revert N1_0
      revert N0_1
      revert GE1
      revert GE0
      revert S1
      revert S0
      revert HB
      revert b8
      revert b7
      revert v
      exact K1_01
     ·skip
      go_simp
      obtain ⟨v, hn1⟩ : ∃ v, v = u.alloc (.cells #[.int .i64 0, .string ⟨#[]⟩] 50) := ⟨_, rfl⟩
      obtain ⟨b9, hbz⟩ : ∃ b, b = u.heap.size := ⟨_, rfl⟩
      have hl : Below u.heap.size u v := by rw [hn1]; exact (Below.refl _ _).alloc (Nat.le_refl _) _
      have HL := zh hl
      have HC := zh (then' HB.out hl)
      have S2 := zh (show v.heap[b9]? = some (.cells #[.int .i64 0, .string ⟨#[]⟩] 50 (0, 0)) from by rw [hn1, hbz]; exact heap_alloc_new _ _)
      have GE2 := zh (show W.heap.size ≤ b9 from by rw [hbz]; exact HB.out.size)
      have N0_2 := zh (show b7 ≠ b9 from by rw [hbz]; have := blk_lt S0.out; omega)
      have N2_0 := zh (fun h => N0_2.out (Eq.symm h))
      have T := zh ((HL.out.block _ (blk_lt S0.out)).trans S0.out)
      clear S0
      have S0 := T
      clear T
      have N1_2 := zh (show b8 ≠ b9 from by rw [hbz]; have := blk_lt S1.out; omega)
      have N2_1 := zh (fun h => N1_2.out (Eq.symm h))
      have T := zh ((HL.out.block _ (blk_lt S1.out)).trans S1.out)
      clear S1
      have S1 := T
      clear T
      rw [← hn1, ← hbz]
      clear hn1 hbz hl HB
      have HB := HC
      clear HC
      refine hK.out _ _ (HS.out _ HB.out) (fun hHeld => ?_)
      clear hK K HL hHeld
      try simp only [puts]
      refine listedH (L := #[true, true, true, true, true, false, true, true, true, true, true, false, true, true, true, true, true, false, true, true, true, false, false, false]) (by kernel_rfl) ?_
      revert N2_1
      revert N2_0
      revert N1_2
      revert N1_0
      revert N0_2
      revert N0_1
      revert GE2
      revert GE1
      revert GE0
      revert S2
      revert S1
      revert S0
      revert HB
      revert b9
      revert b8
      revert b7
      revert v
      exact K0_012
    case pK0_02 =>
     intro u b7 b9 HB S0 S2 GE0 GE2 N0_2 N2_0
     refine wpAnyH_ready (rs := [5, 19]) (by kernel_rfl) (by simp) (AllReadyH.cons rfl (fun K hK => ?_) (AllReadyH.cons rfl (fun K hK => ?_) AllReadyH.nil))
     ·skip
      go_simp
      refine (HN1.out u HB.out).mono ?_
      rintro e v ⟨rfl, hb⟩
      have HL := zh (show Below u.heap.size u v from hb)
      have HC := zh (then' HB.out hb)
      clear hb HB
      have HB := HC
      clear HC
      have T := zh ((HL.out.block _ (blk_lt S0.out)).trans S0.out)
      clear S0
      have S0 := T
      clear T
      have T := zh ((HL.out.block _ (blk_lt S2.out)).trans S2.out)
      clear S2
      have S2 := T
      clear T
      go_wp2_with fail
      refine hK.out _ _ (HS.out _ HB.out) (fun hHeld => ?_)
      clear hK K HL hHeld
      try simp only [puts]
      refine listedH (L := #[true, true, true, true, true, true, true, true, true, true, true, false, true, true, true, true, true, false, true, false, true, false, false, false]) (by kernel_rfl) ?_
      revert N2_0
      revert N0_2
      revert GE2
      revert GE0
      revert S2
      revert S0
      revert HB
      revert b9
      revert b7
      revert v
      exact K1_02
     ·skip
      go_simp
      obtain ⟨v, hn1⟩ : ∃ v, v = u.alloc (.cells #[.int .i64 0, .string ⟨#[]⟩] 50) := ⟨_, rfl⟩
      obtain ⟨b8, hbz⟩ : ∃ b, b = u.heap.size := ⟨_, rfl⟩
      have hl : Below u.heap.size u v := by rw [hn1]; exact (Below.refl _ _).alloc (Nat.le_refl _) _
      have HL := zh hl
      have HC := zh (then' HB.out hl)
      have S1 := zh (show v.heap[b8]? = some (.cells #[.int .i64 0, .string ⟨#[]⟩] 50 (0, 0)) from by rw [hn1, hbz]; exact heap_alloc_new _ _)
      have GE1 := zh (show W.heap.size ≤ b8 from by rw [hbz]; exact HB.out.size)
      have N0_1 := zh (show b7 ≠ b8 from by rw [hbz]; have := blk_lt S0.out; omega)
      have N1_0 := zh (fun h => N0_1.out (Eq.symm h))
      have T := zh ((HL.out.block _ (blk_lt S0.out)).trans S0.out)
      clear S0
      have S0 := T
      clear T
      have N2_1 := zh (show b9 ≠ b8 from by rw [hbz]; have := blk_lt S2.out; omega)
      have N1_2 := zh (fun h => N2_1.out (Eq.symm h))
      have T := zh ((HL.out.block _ (blk_lt S2.out)).trans S2.out)
      clear S2
      have S2 := T
      clear T
      rw [← hn1, ← hbz]
      clear hn1 hbz hl HB
      have HB := HC
      clear HC
      refine hK.out _ _ (HS.out _ HB.out) (fun hHeld => ?_)
      clear hK K HL hHeld
      try simp only [puts]
      refine listedH (L := #[true, true, true, true, true, false, true, true, true, true, true, false, true, true, true, true, true, false, true, true, true, false, false, false]) (by kernel_rfl) ?_
      revert N2_1
      revert N2_0
      revert N1_2
      revert N1_0
      revert N0_2
      revert N0_1
      revert GE2
      revert GE1
      revert GE0
      revert S2
      revert S1
      revert S0
      revert HB
      revert b9
      revert b8
      revert b7
      revert v
      exact K0_012
    case pK0_12 =>
     intro u b8 b9 HB S1 S2 GE1 GE2 N1_2 N2_1
     refine wpAnyH_ready (rs := [5, 18]) (by kernel_rfl) (by simp) (AllReadyH.cons rfl (fun K hK => ?_) (AllReadyH.cons rfl (fun K hK => ?_) AllReadyH.nil))
     ·skip
      go_simp
      refine (HN1.out u HB.out).mono ?_
      rintro e v ⟨rfl, hb⟩
      have HL := zh (show Below u.heap.size u v from hb)
      have HC := zh (then' HB.out hb)
      clear hb HB
      have HB := HC
      clear HC
      have T := zh ((HL.out.block _ (blk_lt S1.out)).trans S1.out)
      clear S1
      have S1 := T
      clear T
      have T := zh ((HL.out.block _ (blk_lt S2.out)).trans S2.out)
      clear S2
      have S2 := T
      clear T
      go_wp2_with fail
      refine hK.out _ _ (HS.out _ HB.out) (fun hHeld => ?_)
      clear hK K HL hHeld
      try simp only [puts]
      refine listedH (L := #[true, true, true, true, true, true, true, true, true, true, true, false, true, true, true, true, true, false, false, true, true, false, false, false]) (by kernel_rfl) ?_
      revert N2_1
      revert N1_2
      revert GE2
      revert GE1
      revert S2
      revert S1
      revert HB
      revert b9
      revert b8
      revert v
      exact K1_12
     ·skip
      go_simp
      obtain ⟨v, hn1⟩ : ∃ v, v = u.alloc (.cells #[.int .i64 0, .string ⟨#[]⟩] 50) := ⟨_, rfl⟩
      obtain ⟨b7, hbz⟩ : ∃ b, b = u.heap.size := ⟨_, rfl⟩
      have hl : Below u.heap.size u v := by rw [hn1]; exact (Below.refl _ _).alloc (Nat.le_refl _) _
      have HL := zh hl
      have HC := zh (then' HB.out hl)
      have S0 := zh (show v.heap[b7]? = some (.cells #[.int .i64 0, .string ⟨#[]⟩] 50 (0, 0)) from by rw [hn1, hbz]; exact heap_alloc_new _ _)
      have GE0 := zh (show W.heap.size ≤ b7 from by rw [hbz]; exact HB.out.size)
      have N1_0 := zh (show b8 ≠ b7 from by rw [hbz]; have := blk_lt S1.out; omega)
      have N0_1 := zh (fun h => N1_0.out (Eq.symm h))
      have T := zh ((HL.out.block _ (blk_lt S1.out)).trans S1.out)
      clear S1
      have S1 := T
      clear T
      have N2_0 := zh (show b9 ≠ b7 from by rw [hbz]; have := blk_lt S2.out; omega)
      have N0_2 := zh (fun h => N2_0.out (Eq.symm h))
      have T := zh ((HL.out.block _ (blk_lt S2.out)).trans S2.out)
      clear S2
      have S2 := T
      clear T
      rw [← hn1, ← hbz]
      clear hn1 hbz hl HB
      have HB := HC
      clear HC
      refine hK.out _ _ (HS.out _ HB.out) (fun hHeld => ?_)
      clear hK K HL hHeld
      try simp only [puts]
      refine listedH (L := #[true, true, true, true, true, false, true, true, true, true, true, false, true, true, true, true, true, false, true, true, true, false, false, false]) (by kernel_rfl) ?_
      revert N2_1
      revert N2_0
      revert N1_2
      revert N1_0
      revert N0_2
      revert N0_1
      revert GE2
      revert GE1
      revert GE0
      revert S2
      revert S1
      revert S0
      revert HB
      revert b9
      revert b8
      revert b7
      revert v
      exact K0_012
    case pK3_ =>
     intro u  HB
     refine wpAnyH_ready (rs := [18, 19, 20]) (by kernel_rfl) (by simp) (AllReadyH.cons rfl (fun K hK => ?_) (AllReadyH.cons rfl (fun K hK => ?_) (AllReadyH.cons rfl (fun K hK => ?_) AllReadyH.nil)))
     ·skip
      go_simp
      obtain ⟨v, hn1⟩ : ∃ v, v = u.alloc (.cells #[.int .i64 0, .string ⟨#[]⟩] 50) := ⟨_, rfl⟩
      obtain ⟨b7, hbz⟩ : ∃ b, b = u.heap.size := ⟨_, rfl⟩
      have hl : Below u.heap.size u v := by rw [hn1]; exact (Below.refl _ _).alloc (Nat.le_refl _) _
      have HL := zh hl
      have HC := zh (then' HB.out hl)
      have S0 := zh (show v.heap[b7]? = some (.cells #[.int .i64 0, .string ⟨#[]⟩] 50 (0, 0)) from by rw [hn1, hbz]; exact heap_alloc_new _ _)
      have GE0 := zh (show W.heap.size ≤ b7 from by rw [hbz]; exact HB.out.size)
      rw [← hn1, ← hbz]
      clear hn1 hbz hl HB
      have HB := HC
      clear HC
      refine hK.out _ _ (HS.out _ HB.out) (fun hHeld => ?_)
      clear hK K HL hHeld
      try simp only [puts]
      refine listedH (L := #[true, true, true, true, true, true, true, true, true, true, true, true, true, true, true, true, true, true, true, false, false, false, false, false]) (by kernel_rfl) ?_
      revert GE0
      revert S0
      revert HB
      revert b7
      revert v
      exact K3_0
     ·skip
      go_simp
      obtain ⟨v, hn1⟩ : ∃ v, v = u.alloc (.cells #[.int .i64 0, .string ⟨#[]⟩] 50) := ⟨_, rfl⟩
      obtain ⟨b8, hbz⟩ : ∃ b, b = u.heap.size := ⟨_, rfl⟩
      have hl : Below u.heap.size u v := by rw [hn1]; exact (Below.refl _ _).alloc (Nat.le_refl _) _
      have HL := zh hl
      have HC := zh (then' HB.out hl)
      have S1 := zh (show v.heap[b8]? = some (.cells #[.int .i64 0, .string ⟨#[]⟩] 50 (0, 0)) from by rw [hn1, hbz]; exact heap_alloc_new _ _)
      have GE1 := zh (show W.heap.size ≤ b8 from by rw [hbz]; exact HB.out.size)
      rw [← hn1, ← hbz]
      clear hn1 hbz hl HB
      have HB := HC
      clear HC
      refine hK.out _ _ (HS.out _ HB.out) (fun hHeld => ?_)
      clear hK K HL hHeld
      try simp only [puts]
      refine listedH (L := #[true, true, true, true, true, true, true, true, true, true, true, true, true, true, true, true, true, true, false, true, false, false, false, false]) (by kernel_rfl) ?_
      revert GE1
      revert S1
      revert HB
      revert b8
      revert v
      exact K3_1
     ·skip
      go_simp
      obtain ⟨v, hn1⟩ : ∃ v, v = u.alloc (.cells #[.int .i64 0, .string ⟨#[]⟩] 50) := ⟨_, rfl⟩
      obtain ⟨b9, hbz⟩ : ∃ b, b = u.heap.size := ⟨_, rfl⟩
      have hl : Below u.heap.size u v := by rw [hn1]; exact (Below.refl _ _).alloc (Nat.le_refl _) _
      have HL := zh hl
      have HC := zh (then' HB.out hl)
      have S2 := zh (show v.heap[b9]? = some (.cells #[.int .i64 0, .string ⟨#[]⟩] 50 (0, 0)) from by rw [hn1, hbz]; exact heap_alloc_new _ _)
      have GE2 := zh (show W.heap.size ≤ b9 from by rw [hbz]; exact HB.out.size)
      rw [← hn1, ← hbz]
      clear hn1 hbz hl HB
      have HB := HC
      clear HC
      refine hK.out _ _ (HS.out _ HB.out) (fun hHeld => ?_)
      clear hK K HL hHeld
      try simp only [puts]
      refine listedH (L := #[true, true, true, true, true, true, true, true, true, true, true, true, true, true, true, true, true, true, false, false, true, false, false, false]) (by kernel_rfl) ?_
      revert GE2
      revert S2
      revert HB
      revert b9
      revert v
      exact K3_2
    case pK2_0 =>
     intro u b7 HB S0 GE0
     refine wpAnyH_ready (rs := [17, 19, 20]) (by kernel_rfl) (by simp) (AllReadyH.cons rfl (fun K hK => ?_) (AllReadyH.cons rfl (fun K hK => ?_) (AllReadyH.cons rfl (fun K hK => ?_) AllReadyH.nil)))
     ·skip
      go_simp
      refine (HN3.out u HB.out).mono ?_
      rintro e v ⟨rfl, hb⟩
      have HL := zh (show Below u.heap.size u v from hb)
      have HC := zh (then' HB.out hb)
      clear hb HB
      have HB := HC
      clear HC
      have T := zh ((HL.out.block _ (blk_lt S0.out)).trans S0.out)
      clear S0
      have S0 := T
      clear T
      go_wp2_with fail
      refine hK.out _ _ (HS.out _ HB.out) (fun hHeld => ?_)
      clear hK K HL hHeld
      try simp only [puts]
      refine listedH (L := #[true, true, true, true, true, true, true, true, true, true, true, true, true, true, true, true, true, true, true, false, false, false, false, false]) (by kernel_rfl) ?_
      revert GE0
      revert S0
      revert HB
      revert b7
      revert v
      exact K3_0
     ·skip
      go_simp
      obtain ⟨v, hn1⟩ : ∃ v, v = u.alloc (.cells #[.int .i64 0, .string ⟨#[]⟩] 50) := ⟨_, rfl⟩
      obtain ⟨b8, hbz⟩ : ∃ b, b = u.heap.size := ⟨_, rfl⟩
      have hl : Below u.heap.size u v := by rw [hn1]; exact (Below.refl _ _).alloc (Nat.le_refl _) _
      have HL := zh hl
      have HC := zh (then' HB.out hl)
      have S1 := zh (show v.heap[b8]? = some (.cells #[.int .i64 0, .string ⟨#[]⟩] 50 (0, 0)) from by rw [hn1, hbz]; exact heap_alloc_new _ _)
      have GE1 := zh (show W.heap.size ≤ b8 from by rw [hbz]; exact HB.out.size)
      have N0_1 := zh (show b7 ≠ b8 from by rw [hbz]; have := blk_lt S0.out; omega)
      have N1_0 := zh (fun h => N0_1.out (Eq.symm h))
      have T := zh ((HL.out.block _ (blk_lt S0.out)).trans S0.out)
      clear S0
      have S0 := T
      clear T
      rw [← hn1, ← hbz]
      clear hn1 hbz hl HB
      have HB := HC
      clear HC
      refine hK.out _ _ (HS.out _ HB.out) (fun hHeld => ?_)
      clear hK K HL hHeld
      try simp only [puts]
      refine listedH (L := #[true, true, true, true, true, true, true, true, true, true, true, true, true, true, true, true, true, false, true, true, false, false, false, false]) (by kernel_rfl) ?_
      revert N1_0
      revert N0_1
      revert GE1
      revert GE0
      revert S1
      revert S0
      revert HB
      revert b8
      revert b7
      revert v
      exact K2_01
     ·skip
      go_simp
      obtain ⟨v, hn1⟩ : ∃ v, v = u.alloc (.cells #[.int .i64 0, .string ⟨#[]⟩] 50) := ⟨_, rfl⟩
      obtain ⟨b9, hbz⟩ : ∃ b, b = u.heap.size := ⟨_, rfl⟩
      have hl : Below u.heap.size u v := by rw [hn1]; exact (Below.refl _ _).alloc (Nat.le_refl _) _
      have HL := zh hl
      have HC := zh (then' HB.out hl)
      have S2 := zh (show v.heap[b9]? = some (.cells #[.int .i64 0, .string ⟨#[]⟩] 50 (0, 0)) from by rw [hn1, hbz]; exact heap_alloc_new _ _)
      have GE2 := zh (show W.heap.size ≤ b9 from by rw [hbz]; exact HB.out.size)
      have N0_2 := zh (show b7 ≠ b9 from by rw [hbz]; have := blk_lt S0.out; omega)
      have N2_0 := zh (fun h => N0_2.out (Eq.symm h))
      have T := zh ((HL.out.block _ (blk_lt S0.out)).trans S0.out)
      clear S0
      have S0 := T
      clear T
      rw [← hn1, ← hbz]
      clear hn1 hbz hl HB
      have HB := HC
      clear HC
      refine hK.out _ _ (HS.out _ HB.out) (fun hHeld => ?_)
      clear hK K HL hHeld
      try simp only [puts]
      refine listedH (L := #[true, true, true, true, true, true, true, true, true, true, true, true, true, true, true, true, true, false, true, false, true, false, false, false]) (by kernel_rfl) ?_
      revert N2_0
      revert N0_2
      revert GE2
      revert GE0
      revert S2
      revert S0
      revert HB
      revert b9
      revert b7
      revert v
      exact K2_02
    case pK2_1 =>
     intro u b8 HB S1 GE1
     refine wpAnyH_ready (rs := [17, 18, 20]) (by kernel_rfl) (by simp) (AllReadyH.cons rfl (fun K hK => ?_) (AllReadyH.cons rfl (fun K hK => ?_) (AllReadyH.cons rfl (fun K hK => ?_) AllReadyH.nil)))
     ·skip
      go_simp
      refine (HN3.out u HB.out).mono ?_
      rintro e v ⟨rfl, hb⟩
      have HL := zh (show Below u.heap.size u v from hb)
      have HC := zh (then' HB.out hb)
      clear hb HB
      have HB := HC
      clear HC
      have T := zh ((HL.out.block _ (blk_lt S1.out)).trans S1.out)
      clear S1
      have S1 := T
      clear T
      go_wp2_with fail
      refine hK.out _ _ (HS.out _ HB.out) (fun hHeld => ?_)
      clear hK K HL hHeld
      try simp only [puts]
      refine listedH (L := #[true, true, true, true, true, true, true, true, true, true, true, true, true, true, true, true, true, true, false, true, false, false, false, false]) (by kernel_rfl) ?_
      revert GE1
      revert S1
      revert HB
      revert b8
      revert v
      exact K3_1
     ·skip
      go_simp
      obtain ⟨v, hn1⟩ : ∃ v, v = u.alloc (.cells #[.int .i64 0, .string ⟨#[]⟩] 50) := ⟨_, rfl⟩
      obtain ⟨b7, hbz⟩ : ∃ b, b = u.heap.size := ⟨_, rfl⟩
      have hl : Below u.heap.size u v := by rw [hn1]; exact (Below.refl _ _).alloc (Nat.le_refl _) _
      have HL := zh hl
      have HC := zh (then' HB.out hl)
      have S0 := zh (show v.heap[b7]? = some (.cells #[.int .i64 0, .string ⟨#[]⟩] 50 (0, 0)) from by rw [hn1, hbz]; exact heap_alloc_new _ _)
      have GE0 := zh (show W.heap.size ≤ b7 from by rw [hbz]; exact HB.out.size)
      have N1_0 := zh (show b8 ≠ b7 from by rw [hbz]; have := blk_lt S1.out; omega)
      have N0_1 := zh (fun h => N1_0.out (Eq.symm h))
      have T := zh ((HL.out.block _ (blk_lt S1.out)).trans S1.out)
      clear S1
      have S1 := T
      clear T
      rw [← hn1, ← hbz]
      clear hn1 hbz hl HB
      have HB := HC
      clear HC
      refine hK.out _ _ (HS.out _ HB.out) (fun hHeld => ?_)
      clear hK K HL hHeld
      try simp only [puts]
      refine listedH (L := #[true, true, true, true, true, true, true, true, true, true, true, true, true, true, true, true, true, false, true, true, false, false, false, false]) (by kernel_rfl) ?_
      revert N1_0
      revert N0_1
      revert GE1
      revert GE0
      revert S1
      revert S0
      revert HB
      revert b8
      revert b7
      revert v
      exact K2_01
     ·skip
      go_simp
      obtain ⟨v, hn1⟩ : ∃ v, v = u.alloc (.cells #[.int .i64 0, .string ⟨#[]⟩] 50) := ⟨_, rfl⟩
      obtain ⟨b9, hbz⟩ : ∃ b, b = u.heap.size := ⟨_, rfl⟩
      have hl : Below u.heap.size u v := by rw [hn1]; exact (Below.refl _ _).alloc (Nat.le_refl _) _
      have HL := zh hl
      have HC := zh (then' HB.out hl)
      have S2 := zh (show v.heap[b9]? = some (.cells #[.int .i64 0, .string ⟨#[]⟩] 50 (0, 0)) from by rw [hn1, hbz]; exact heap_alloc_new _ _)
      have GE2 := zh (show W.heap.size ≤ b9 from by rw [hbz]; exact HB.out.size)
      have N1_2 := zh (show b8 ≠ b9 from by rw [hbz]; have := blk_lt S1.out; omega)
      have N2_1 := zh (fun h => N1_2.out (Eq.symm h))
      have T := zh ((HL.out.block _ (blk_lt S1.out)).trans S1.out)
      clear S1
      have S1 := T
      clear T
      rw [← hn1, ← hbz]
      clear hn1 hbz hl HB
      have HB := HC
      clear HC
      refine hK.out _ _ (HS.out _ HB.out) (fun hHeld => ?_)
      clear hK K HL hHeld
      try simp only [puts]
      refine listedH (L := #[true, true, true, true, true, true, true, true, true, true, true, true, true, true, true, true, true, false, false, true, true, false, false, false]) (by kernel_rfl) ?_
      revert N2_1
      revert N1_2
      revert GE2
      revert GE1
      revert S2
      revert S1
      revert HB
      revert b9
      revert b8
      revert v
      exact K2_12
    case pK2_2 =>
     intro u b9 HB S2 GE2
     refine wpAnyH_ready (rs := [17, 18, 19]) (by kernel_rfl) (by simp) (AllReadyH.cons rfl (fun K hK => ?_) (AllReadyH.cons rfl (fun K hK => ?_) (AllReadyH.cons rfl (fun K hK => ?_) AllReadyH.nil)))
     ·skip
      go_simp
      refine (HN3.out u HB.out).mono ?_
      rintro e v ⟨rfl, hb⟩
      have HL := zh (show Below u.heap.size u v from hb)
      have HC := zh (then' HB.out hb)
      clear hb HB
      have HB := HC
      clear HC
      have T := zh ((HL.out.block _ (blk_lt S2.out)).trans S2.out)
      clear S2
      have S2 := T
      clear T
      go_wp2_with fail
      refine hK.out _ _ (HS.out _ HB.out) (fun hHeld => ?_)
      clear hK K HL hHeld
      try simp only [puts]
      refine listedH (L := #[true, true, true, true, true, true, true, true, true, true, true, true, true, true, true, true, true, true, false, false, true, false, false, false]) (by kernel_rfl) ?_
      revert GE2
      revert S2
      revert HB
      revert b9
      revert v
      exact K3_2
     ·skip
      go_simp
      obtain ⟨v, hn1⟩ : ∃ v, v = u.alloc (.cells #[.int .i64 0, .string ⟨#[]⟩] 50) := ⟨_, rfl⟩
      obtain ⟨b7, hbz⟩ : ∃ b, b = u.heap.size := ⟨_, rfl⟩
      have hl : Below u.heap.size u v := by rw [hn1]; exact (Below.refl _ _).alloc (Nat.le_refl _) _
      have HL := zh hl
      have HC := zh (then' HB.out hl)
      have S0 := zh (show v.heap[b7]? = some (.cells #[.int .i64 0, .string ⟨#[]⟩] 50 (0, 0)) from by rw [hn1, hbz]; exact heap_alloc_new _ _)
      have GE0 := zh (show W.heap.size ≤ b7 from by rw [hbz]; exact HB.out.size)
      have N2_0 := zh (show b9 ≠ b7 from by rw [hbz]; have := blk_lt S2.out; omega)
      have N0_2 := zh (fun h => N2_0.out (Eq.symm h))
      have T := zh ((HL.out.block _ (blk_lt S2.out)).trans S2.out)
      clear S2
      have S2 := T
      clear T
      rw [← hn1, ← hbz]
      clear hn1 hbz hl HB
      have HB := HC
      clear HC
      refine hK.out _ _ (HS.out _ HB.out) (fun hHeld => ?_)
      clear hK K HL hHeld
      try simp only [puts]
      refine listedH (L := #[true, true, true, true, true, true, true, true, true, true, true, true, true, true, true, true, true, false, true, false, true, false, false, false]) (by kernel_rfl) ?_
      revert N2_0
      revert N0_2
      revert GE2
      revert GE0
      revert S2
      revert S0
      revert HB
      revert b9
      revert b7
      revert v
      exact K2_02
     ·skip
      go_simp
      obtain ⟨v, hn1⟩ : ∃ v, v = u.alloc (.cells #[.int .i64 0, .string ⟨#[]⟩] 50) := ⟨_, rfl⟩
      obtain ⟨b8, hbz⟩ : ∃ b, b = u.heap.size := ⟨_, rfl⟩
      have hl : Below u.heap.size u v := by rw [hn1]; exact (Below.refl _ _).alloc (Nat.le_refl _) _
      have HL := zh hl
      have HC := zh (then' HB.out hl)
      have S1 := zh (show v.heap[b8]? = some (.cells #[.int .i64 0, .string ⟨#[]⟩] 50 (0, 0)) from by rw [hn1, hbz]; exact heap_alloc_new _ _)
      have GE1 := zh (show W.heap.size ≤ b8 from by rw [hbz]; exact HB.out.size)
      have N2_1 := zh (show b9 ≠ b8 from by rw [hbz]; have := blk_lt S2.out; omega)
      have N1_2 := zh (fun h => N2_1.out (Eq.symm h))
      have T := zh ((HL.out.block _ (blk_lt S2.out)).trans S2.out)
      clear S2
      have S2 := T
      clear T
      rw [← hn1, ← hbz]
      clear hn1 hbz hl HB
      have HB := HC
      clear HC
      refine hK.out _ _ (HS.out _ HB.out) (fun hHeld => ?_)
      clear hK K HL hHeld
      try simp only [puts]
      refine listedH (L := #[true, true, true, true, true, true, true, true, true, true, true, true, true, true, true, true, true, false, false, true, true, false, false, false]) (by kernel_rfl) ?_
      revert N2_1
      revert N1_2
      revert GE2
      revert GE1
      revert S2
      revert S1
      revert HB
      revert b9
      revert b8
      revert v
      exact K2_12
    case pK1_01 =>
     intro u b7 b8 HB S0 S1 GE0 GE1 N0_1 N1_0
     refine wpAnyH_ready (rs := [11, 20]) (by kernel_rfl) (by simp) (AllReadyH.cons rfl (fun K hK => ?_) (AllReadyH.cons rfl (fun K hK => ?_) AllReadyH.nil))
     ·skip
      go_simp
      refine (HN2.out u HB.out).mono ?_
      rintro e v ⟨rfl, hb⟩
      have HL := zh (show Below u.heap.size u v from hb)
      have HC := zh (then' HB.out hb)
      clear hb HB
      have HB := HC
      clear HC
      have T := zh ((HL.out.block _ (blk_lt S0.out)).trans S0.out)
      clear S0
      have S0 := T
      clear T
      have T := zh ((HL.out.block _ (blk_lt S1.out)).trans S1.out)
      clear S1
      have S1 := T
      clear T
      go_wp2_with fail
      refine hK.out _ _ (HS.out _ HB.out) (fun hHeld => ?_)
      clear hK K HL hHeld
      try simp only [puts]
      refine listedH (L := #[true, true, true, true, true, true, true, true, true, true, true, true, true, true, true, true, true, false, true, true, false, false, false, false]) (by kernel_rfl) ?_
      revert N1_0
      revert N0_1
      revert GE1
      revert GE0
      revert S1
      revert S0
      revert HB
      revert b8
      revert b7
      revert v
      exact K2_01
     ·skip
      go_simp
      obtain ⟨v, hn1⟩ : ∃ v, v = u.alloc (.cells #[.int .i64 0, .string ⟨#[]⟩] 50) := ⟨_, rfl⟩
      obtain ⟨b9, hbz⟩ : ∃ b, b = u.heap.size := ⟨_, rfl⟩
      have hl : Below u.heap.size u v := by rw [hn1]; exact (Below.refl _ _).alloc (Nat.le_refl _) _
      have HL := zh hl
      have HC := zh (then' HB.out hl)
      have S2 := zh (show v.heap[b9]? = some (.cells #[.int .i64 0, .string ⟨#[]⟩] 50 (0, 0)) from by rw [hn1, hbz]; exact heap_alloc_new _ _)
      have GE2 := zh (show W.heap.size ≤ b9 from by rw [hbz]; exact HB.out.size)
      have N0_2 := zh (show b7 ≠ b9 from by rw [hbz]; have := blk_lt S0.out; omega)
      have N2_0 := zh (fun h => N0_2.out (Eq.symm h))
      have T := zh ((HL.out.block _ (blk_lt S0.out)).trans S0.out)
      clear S0
      have S0 := T
      clear T
      have N1_2 := zh (show b8 ≠ b9 from by rw [hbz]; have := blk_lt S1.out; omega)
      have N2_1 := zh (fun h => N1_2.out (Eq.symm h))
      have T := zh ((HL.out.block _ (blk_lt S1.out)).trans S1.out)
      clear S1
      have S1 := T
      clear T
      rw [← hn1, ← hbz]
      clear hn1 hbz hl HB
      have HB := HC
      clear HC
      refine hK.out _ _ (HS.out _ HB.out) (fun hHeld => ?_)
      clear hK K HL hHeld
      try simp only [puts]
      refine listedH (L := #[true, true, true, true, true, true, true, true, true, true, true, false, true, true, true, true, true, false, true, true, true, false, false, false]) (by kernel_rfl) ?_
      revert N2_1
      revert N2_0
      revert N1_2
      revert N1_0
      revert N0_2
      revert N0_1
      revert GE2
      revert GE1
      revert GE0
      revert S2
      revert S1
      revert S0
      revert HB
      revert b9
      revert b8
      revert b7
      revert v
      exact K1_012
    case pK1_02 =>
     intro u b7 b9 HB S0 S2 GE0 GE2 N0_2 N2_0
     refine wpAnyH_ready (rs := [11, 19]) (by kernel_rfl) (by simp) (AllReadyH.cons rfl (fun K hK => ?_) (AllReadyH.cons rfl (fun K hK => ?_) AllReadyH.nil))
     ·skip
      go_simp
      refine (HN2.out u HB.out).mono ?_
      rintro e v ⟨rfl, hb⟩
      have HL := zh (show Below u.heap.size u v from hb)
      have HC := zh (then' HB.out hb)
      clear hb HB
      have HB := HC
      clear HC
      have T := zh ((HL.out.block _ (blk_lt S0.out)).trans S0.out)
      clear S0
      have S0 := T
      clear T
      have T := zh ((HL.out.block _ (blk_lt S2.out)).trans S2.out)
      clear S2
      have S2 := T
      clear T
      go_wp2_with fail
      refine hK.out _ _ (HS.out _ HB.out) (fun hHeld => ?_)
      clear hK K HL hHeld
      try simp only [puts]
      refine listedH (L := #[true, true, true, true, true, true, true, true, true, true, true, true, true, true, true, true, true, false, true, false, true, false, false, false]) (by kernel_rfl) ?_
      revert N2_0
      revert N0_2
      revert GE2
      revert GE0
      revert S2
      revert S0
      revert HB
      revert b9
      revert b7
      revert v
      exact K2_02
     ·skip
      go_simp
      obtain ⟨v, hn1⟩ : ∃ v, v = u.alloc (.cells #[.int .i64 0, .string ⟨#[]⟩] 50) := ⟨_, rfl⟩
      obtain ⟨b8, hbz⟩ : ∃ b, b = u.heap.size := ⟨_, rfl⟩
      have hl : Below u.heap.size u v := by rw [hn1]; exact (Below.refl _ _).alloc (Nat.le_refl _) _
      have HL := zh hl
      have HC := zh (then' HB.out hl)
      have S1 := zh (show v.heap[b8]? = some (.cells #[.int .i64 0, .string ⟨#[]⟩] 50 (0, 0)) from by rw [hn1, hbz]; exact heap_alloc_new _ _)
      have GE1 := zh (show W.heap.size ≤ b8 from by rw [hbz]; exact HB.out.size)
      have N0_1 := zh (show b7 ≠ b8 from by rw [hbz]; have := blk_lt S0.out; omega)
      have N1_0 := zh (fun h => N0_1.out (Eq.symm h))
      have T := zh ((HL.out.block _ (blk_lt S0.out)).trans S0.out)
      clear S0
      have S0 := T
      clear T
      have N2_1 := zh (show b9 ≠ b8 from by rw [hbz]; have := blk_lt S2.out; omega)
      have N1_2 := zh (fun h => N2_1.out (Eq.symm h))
      have T := zh ((HL.out.block _ (blk_lt S2.out)).trans S2.out)
      clear S2
      have S2 := T
      clear T
      rw [← hn1, ← hbz]
      clear hn1 hbz hl HB
      have HB := HC
      clear HC
      refine hK.out _ _ (HS.out _ HB.out) (fun hHeld => ?_)
      clear hK K HL hHeld
      try simp only [puts]
      refine listedH (L := #[true, true, true, true, true, true, true, true, true, true, true, false, true, true, true, true, true, false, true, true, true, false, false, false]) (by kernel_rfl) ?_
      revert N2_1
      revert N2_0
      revert N1_2
      revert N1_0
      revert N0_2
      revert N0_1
      revert GE2
      revert GE1
      revert GE0
      revert S2
      revert S1
      revert S0
      revert HB
      revert b9
      revert b8
      revert b7
      revert v
      exact K1_012
    case pK1_12 =>
     intro u b8 b9 HB S1 S2 GE1 GE2 N1_2 N2_1
     refine wpAnyH_ready (rs := [11, 18]) (by kernel_rfl) (by simp) (AllReadyH.cons rfl (fun K hK => ?_) (AllReadyH.cons rfl (fun K hK => ?_) AllReadyH.nil))
     ·skip
      go_simp
      refine (HN2.out u HB.out).mono ?_
      rintro e v ⟨rfl, hb⟩
      have HL := zh (show Below u.heap.size u v from hb)
      have HC := zh (then' HB.out hb)
      clear hb HB
      have HB := HC
      clear HC
      have T := zh ((HL.out.block _ (blk_lt S1.out)).trans S1.out)
      clear S1
      have S1 := T
      clear T
      have T := zh ((HL.out.block _ (blk_lt S2.out)).trans S2.out)
      clear S2
      have S2 := T
      clear T
      go_wp2_with fail
      refine hK.out _ _ (HS.out _ HB.out) (fun hHeld => ?_)
      clear hK K HL hHeld
      try simp only [puts]
      refine listedH (L := #[true, true, true, true, true, true, true, true, true, true, true, true, true, true, true, true, true, false, false, true, true, false, false, false]) (by kernel_rfl) ?_
      revert N2_1
      revert N1_2
      revert GE2
      revert GE1
      revert S2
      revert S1
      revert HB
      revert b9
      revert b8
      revert v
      exact K2_12
     ·skip
      go_simp
      obtain ⟨v, hn1⟩ : ∃ v, v = u.alloc (.cells #[.int .i64 0, .string ⟨#[]⟩] 50) := ⟨_, rfl⟩
      obtain ⟨b7, hbz⟩ : ∃ b, b = u.heap.size := ⟨_, rfl⟩
      have hl : Below u.heap.size u v := by rw [hn1]; exact (Below.refl _ _).alloc (Nat.le_refl _) _
      have HL := zh hl
      have HC := zh (then' HB.out hl)
      have S0 := zh (show v.heap[b7]? = some (.cells #[.int .i64 0, .string ⟨#[]⟩] 50 (0, 0)) from by rw [hn1, hbz]; exact heap_alloc_new _ _)
      have GE0 := zh (show W.heap.size ≤ b7 from by rw [hbz]; exact HB.out.size)
      have N1_0 := zh (show b8 ≠ b7 from by rw [hbz]; have := blk_lt S1.out; omega)
      have N0_1 := zh (fun h => N1_0.out (Eq.symm h))
      have T := zh ((HL.out.block _ (blk_lt S1.out)).trans S1.out)
      clear S1
      have S1 := T
      clear T
      have N2_0 := zh (show b9 ≠ b7 from by rw [hbz]; have := blk_lt S2.out; omega)
      have N0_2 := zh (fun h => N2_0.out (Eq.symm h))
      have T := zh ((HL.out.block _ (blk_lt S2.out)).trans S2.out)
      clear S2
      have S2 := T
      clear T
      rw [← hn1, ← hbz]
      clear hn1 hbz hl HB
      have HB := HC
      clear HC
      refine hK.out _ _ (HS.out _ HB.out) (fun hHeld => ?_)
      clear hK K HL hHeld
      try simp only [puts]
      refine listedH (L := #[true, true, true, true, true, true, true, true, true, true, true, false, true, true, true, true, true, false, true, true, true, false, false, false]) (by kernel_rfl) ?_
      revert N2_1
      revert N2_0
      revert N1_2
      revert N1_0
      revert N0_2
      revert N0_1
      revert GE2
      revert GE1
      revert GE0
      revert S2
      revert S1
      revert S0
      revert HB
      revert b9
      revert b8
      revert b7
      revert v
      exact K1_012
    case pK0_012 =>
     intro u b7 b8 b9 HB S0 S1 S2 GE0 GE1 GE2 N0_1 N0_2 N1_0 N1_2 N2_0 N2_1
     refine rdy 5 rfl (fun K hK => ?_)
     go_simp
     refine (HN1.out u HB.out).mono ?_
     rintro e v ⟨rfl, hb⟩
     have HL := zh (show Below u.heap.size u v from hb)
     have HC := zh (then' HB.out hb)
     clear hb HB
     have HB := HC
     clear HC
     have T := zh ((HL.out.block _ (blk_lt S0.out)).trans S0.out)
     clear S0
     have S0 := T
     clear T
     have T := zh ((HL.out.block _ (blk_lt S1.out)).trans S1.out)
     clear S1
     have S1 := T
     clear T
     have T := zh ((HL.out.block _ (blk_lt S2.out)).trans S2.out)
     clear S2
     have S2 := T
     clear T
     go_wp2_with fail
     refine hK.out _ _ (HS.out _ HB.out) (fun hHeld => ?_)
     clear hK K HL hHeld
     try simp only [puts]
     refine listedH (L := #[true, true, true, true, true, true, true, true, true, true, true, false, true, true, true, true, true, false, true, true, true, false, false, false]) (by kernel_rfl) ?_
     revert N2_1
     revert N2_0
     revert N1_2
     revert N1_0
     revert N0_2
     revert N0_1
     revert GE2
     revert GE1
     revert GE0
     revert S2
     revert S1
     revert S0
     revert HB
     revert b9
     revert b8
     revert b7
     revert v
     exact K1_012
    case pK3_0 =>
     intro u b7 HB S0 GE0
     refine wpAnyH_ready (rs := [19, 20]) (by kernel_rfl) (by simp) (AllReadyH.cons rfl (fun K hK => ?_) (AllReadyH.cons rfl (fun K hK => ?_) AllReadyH.nil))
     ·skip
      go_simp
      obtain ⟨v, hn1⟩ : ∃ v, v = u.alloc (.cells #[.int .i64 0, .string ⟨#[]⟩] 50) := ⟨_, rfl⟩
      obtain ⟨b8, hbz⟩ : ∃ b, b = u.heap.size := ⟨_, rfl⟩
      have hl : Below u.heap.size u v := by rw [hn1]; exact (Below.refl _ _).alloc (Nat.le_refl _) _
      have HL := zh hl
      have HC := zh (then' HB.out hl)
      have S1 := zh (show v.heap[b8]? = some (.cells #[.int .i64 0, .string ⟨#[]⟩] 50 (0, 0)) from by rw [hn1, hbz]; exact heap_alloc_new _ _)
      have GE1 := zh (show W.heap.size ≤ b8 from by rw [hbz]; exact HB.out.size)
      have N0_1 := zh (show b7 ≠ b8 from by rw [hbz]; have := blk_lt S0.out; omega)
      have N1_0 := zh (fun h => N0_1.out (Eq.symm h))
      have T := zh ((HL.out.block _ (blk_lt S0.out)).trans S0.out)
      clear S0
      have S0 := T
      clear T
      rw [← hn1, ← hbz]
      clear hn1 hbz hl HB
      have HB := HC
      clear HC
      refine hK.out _ _ (HS.out _ HB.out) (fun hHeld => ?_)
      clear hK K HL hHeld
      try simp only [puts]
      refine listedH (L := #[true, true, true, true, true, true, true, true, true, true, true, true, true, true, true, true, true, true, true, true, false, false, false, false]) (by kernel_rfl) ?_
      revert N1_0
      revert N0_1
      revert GE1
      revert GE0
      revert S1
      revert S0
      revert HB
      revert b8
      revert b7
      revert v
      exact K3_01
     ·skip
      go_simp
      obtain ⟨v, hn1⟩ : ∃ v, v = u.alloc (.cells #[.int .i64 0, .string ⟨#[]⟩] 50) := ⟨_, rfl⟩
      obtain ⟨b9, hbz⟩ : ∃ b, b = u.heap.size := ⟨_, rfl⟩
      have hl : Below u.heap.size u v := by rw [hn1]; exact (Below.refl _ _).alloc (Nat.le_refl _) _
      have HL := zh hl
      have HC := zh (then' HB.out hl)
      have S2 := zh (show v.heap[b9]? = some (.cells #[.int .i64 0, .string ⟨#[]⟩] 50 (0, 0)) from by rw [hn1, hbz]; exact heap_alloc_new _ _)
      have GE2 := zh (show W.heap.size ≤ b9 from by rw [hbz]; exact HB.out.size)
      have N0_2 := zh (show b7 ≠ b9 from by rw [hbz]; have := blk_lt S0.out; omega)
      have N2_0 := zh (fun h => N0_2.out (Eq.symm h))
      have T := zh ((HL.out.block _ (blk_lt S0.out)).trans S0.out)
      clear S0
      have S0 := T
      clear T
      rw [← hn1, ← hbz]
      clear hn1 hbz hl HB
      have HB := HC
      clear HC
      refine hK.out _ _ (HS.out _ HB.out) (fun hHeld => ?_)
      clear hK K HL hHeld
      try simp only [puts]
      refine listedH (L := #[true, true, true, true, true, true, true, true, true, true, true, true, true, true, true, true, true, true, true, false, true, false, false, false]) (by kernel_rfl) ?_
      revert N2_0
      revert N0_2
      revert GE2
      revert GE0
      revert S2
      revert S0
      revert HB
      revert b9
      revert b7
      revert v
      exact K3_02
    case pK3_1 =>
     intro u b8 HB S1 GE1
     refine wpAnyH_ready (rs := [18, 20]) (by kernel_rfl) (by simp) (AllReadyH.cons rfl (fun K hK => ?_) (AllReadyH.cons rfl (fun K hK => ?_) AllReadyH.nil))
     ·skip
      go_simp
      obtain ⟨v, hn1⟩ : ∃ v, v = u.alloc (.cells #[.int .i64 0, .string ⟨#[]⟩] 50) := ⟨_, rfl⟩
      obtain ⟨b7, hbz⟩ : ∃ b, b = u.heap.size := ⟨_, rfl⟩
      have hl : Below u.heap.size u v := by rw [hn1]; exact (Below.refl _ _).alloc (Nat.le_refl _) _
      have HL := zh hl
      have HC := zh (then' HB.out hl)
      have S0 := zh (show v.heap[b7]? = some (.cells #[.int .i64 0, .string ⟨#[]⟩] 50 (0, 0)) from by rw [hn1, hbz]; exact heap_alloc_new _ _)
      have GE0 := zh (show W.heap.size ≤ b7 from by rw [hbz]; exact HB.out.size)
      have N1_0 := zh (show b8 ≠ b7 from by rw [hbz]; have := blk_lt S1.out; omega)
      have N0_1 := zh (fun h => N1_0.out (Eq.symm h))
      have T := zh ((HL.out.block _ (blk_lt S1.out)).trans S1.out)
      clear S1
      have S1 := T
      clear T
      rw [← hn1, ← hbz]
      clear hn1 hbz hl HB
      have HB := HC
      clear HC
      refine hK.out _ _ (HS.out _ HB.out) (fun hHeld => ?_)
      clear hK K HL hHeld
      try simp only [puts]
      refine listedH (L := #[true, true, true, true, true, true, true, true, true, true, true, true, true, true, true, true, true, true, true, true, false, false, false, false]) (by kernel_rfl) ?_
      revert N1_0
      revert N0_1
      revert GE1
      revert GE0
      revert S1
      revert S0
      revert HB
      revert b8
      revert b7
      revert v
      exact K3_01
     ·skip
      go_simp
      obtain ⟨v, hn1⟩ : ∃ v, v = u.alloc (.cells #[.int .i64 0, .string ⟨#[]⟩] 50) := ⟨_, rfl⟩
      obtain ⟨b9, hbz⟩ : ∃ b, b = u.heap.size := ⟨_, rfl⟩
      have hl : Below u.heap.size u v := by rw [hn1]; exact (Below.refl _ _).alloc (Nat.le_refl _) _
      have HL := zh hl
      have HC := zh (then' HB.out hl)
      have S2 := zh (show v.heap[b9]? = some (.cells #[.int .i64 0, .string ⟨#[]⟩] 50 (0, 0)) from by rw [hn1, hbz]; exact heap_alloc_new _ _)
      have GE2 := zh (show W.heap.size ≤ b9 from by rw [hbz]; exact HB.out.size)
      have N1_2 := zh (show b8 ≠ b9 from by rw [hbz]; have := blk_lt S1.out; omega)
      have N2_1 := zh (fun h => N1_2.out (Eq.symm h))
      have T := zh ((HL.out.block _ (blk_lt S1.out)).trans S1.out)
      clear S1
      have S1 := T
      clear T
      rw [← hn1, ← hbz]
      clear hn1 hbz hl HB
      have HB := HC
      clear HC
      refine hK.out _ _ (HS.out _ HB.out) (fun hHeld => ?_)
      clear hK K HL hHeld
      try simp only [puts]
      refine listedH (L := #[true, true, true, true, true, true, true, true, true, true, true, true, true, true, true, true, true, true, false, true, true, false, false, false]) (by kernel_rfl) ?_
      revert N2_1
      revert N1_2
      revert GE2
      revert GE1
      revert S2
      revert S1
      revert HB
      revert b9
      revert b8
      revert v
      exact K3_12
    case pK3_2 =>
     intro u b9 HB S2 GE2
     refine wpAnyH_ready (rs := [18, 19]) (by kernel_rfl) (by simp) (AllReadyH.cons rfl (fun K hK => ?_) (AllReadyH.cons rfl (fun K hK => ?_) AllReadyH.nil))
     ·skip
      go_simp
      obtain ⟨v, hn1⟩ : ∃ v, v = u.alloc (.cells #[.int .i64 0, .string ⟨#[]⟩] 50) := ⟨_, rfl⟩
      obtain ⟨b7, hbz⟩ : ∃ b, b = u.heap.size := ⟨_, rfl⟩
      have hl : Below u.heap.size u v := by rw [hn1]; exact (Below.refl _ _).alloc (Nat.le_refl _) _
      have HL := zh hl
      have HC := zh (then' HB.out hl)
      have S0 := zh (show v.heap[b7]? = some (.cells #[.int .i64 0, .string ⟨#[]⟩] 50 (0, 0)) from by rw [hn1, hbz]; exact heap_alloc_new _ _)
      have GE0 := zh (show W.heap.size ≤ b7 from by rw [hbz]; exact HB.out.size)
      have N2_0 := zh (show b9 ≠ b7 from by rw [hbz]; have := blk_lt S2.out; omega)
      have N0_2 := zh (fun h => N2_0.out (Eq.symm h))
      have T := zh ((HL.out.block _ (blk_lt S2.out)).trans S2.out)
      clear S2
      have S2 := T
      clear T
      rw [← hn1, ← hbz]
      clear hn1 hbz hl HB
      have HB := HC
      clear HC
      refine hK.out _ _ (HS.out _ HB.out) (fun hHeld => ?_)
      clear hK K HL hHeld
      try simp only [puts]
      refine listedH (L := #[true, true, true, true, true, true, true, true, true, true, true, true, true, true, true, true, true, true, true, false, true, false, false, false]) (by kernel_rfl) ?_
      revert N2_0
      revert N0_2
      revert GE2
      revert GE0
      revert S2
      revert S0
      revert HB
      revert b9
      revert b7
      revert v
      exact K3_02
     ·skip
      go_simp
      obtain ⟨v, hn1⟩ : ∃ v, v = u.alloc (.cells #[.int .i64 0, .string ⟨#[]⟩] 50) := ⟨_, rfl⟩
      obtain ⟨b8, hbz⟩ : ∃ b, b = u.heap.size := ⟨_, rfl⟩
      have hl : Below u.heap.size u v := by rw [hn1]; exact (Below.refl _ _).alloc (Nat.le_refl _) _
      have HL := zh hl
      have HC := zh (then' HB.out hl)
      have S1 := zh (show v.heap[b8]? = some (.cells #[.int .i64 0, .string ⟨#[]⟩] 50 (0, 0)) from by rw [hn1, hbz]; exact heap_alloc_new _ _)
      have GE1 := zh (show W.heap.size ≤ b8 from by rw [hbz]; exact HB.out.size)
      have N2_1 := zh (show b9 ≠ b8 from by rw [hbz]; have := blk_lt S2.out; omega)
      have N1_2 := zh (fun h => N2_1.out (Eq.symm h))
      have T := zh ((HL.out.block _ (blk_lt S2.out)).trans S2.out)
      clear S2
      have S2 := T
      clear T
      rw [← hn1, ← hbz]
      clear hn1 hbz hl HB
      have HB := HC
      clear HC
      refine hK.out _ _ (HS.out _ HB.out) (fun hHeld => ?_)
      clear hK K HL hHeld
      try simp only [puts]
      refine listedH (L := #[true, true, true, true, true, true, true, true, true, true, true, true, true, true, true, true, true, true, false, true, true, false, false, false]) (by kernel_rfl) ?_
      revert N2_1
      revert N1_2
      revert GE2
      revert GE1
      revert S2
      revert S1
      revert HB
      revert b9
      revert b8
      revert v
      exact K3_12
    case pK2_01 =>
     intro u b7 b8 HB S0 S1 GE0 GE1 N0_1 N1_0
     refine wpAnyH_ready (rs := [17, 20]) (by kernel_rfl) (by simp) (AllReadyH.cons rfl (fun K hK => ?_) (AllReadyH.cons rfl (fun K hK => ?_) AllReadyH.nil))
     ·skip
      go_simp
      refine (HN3.out u HB.out).mono ?_
      rintro e v ⟨rfl, hb⟩
      have HL := zh (show Below u.heap.size u v from hb)
      have HC := zh (then' HB.out hb)
      clear hb HB
      have HB := HC
      clear HC
      have T := zh ((HL.out.block _ (blk_lt S0.out)).trans S0.out)
      clear S0
      have S0 := T
      clear T
      have T := zh ((HL.out.block _ (blk_lt S1.out)).trans S1.out)
      clear S1
      have S1 := T
      clear T
      go_wp2_with fail
      refine hK.out _ _ (HS.out _ HB.out) (fun hHeld => ?_)
      clear hK K HL hHeld
      try simp only [puts]
      refine listedH (L := #[true, true, true, true, true, true, true, true, true, true, true, true, true, true, true, true, true, true, true, true, false, false, false, false]) (by kernel_rfl) ?_
      revert N1_0
      revert N0_1
      revert GE1
      revert GE0
      revert S1
      revert S0
      revert HB
      revert b8
      revert b7
      revert v
      exact K3_01
     ·skip
      go_simp
      obtain ⟨v, hn1⟩ : ∃ v, v = u.alloc (.cells #[.int .i64 0, .string ⟨#[]⟩] 50) := ⟨_, rfl⟩
      obtain ⟨b9, hbz⟩ : ∃ b, b = u.heap.size := ⟨_, rfl⟩
      have hl : Below u.heap.size u v := by rw [hn1]; exact (Below.refl _ _).alloc (Nat.le_refl _) _
      have HL := zh hl
      have HC := zh (then' HB.out hl)
      have S2 := zh (show v.heap[b9]? = some (.cells #[.int .i64 0, .string ⟨#[]⟩] 50 (0, 0)) from by rw [hn1, hbz]; exact heap_alloc_new _ _)
      have GE2 := zh (show W.heap.size ≤ b9 from by rw [hbz]; exact HB.out.size)
      have N0_2 := zh (show b7 ≠ b9 from by rw [hbz]; have := blk_lt S0.out; omega)
      have N2_0 := zh (fun h => N0_2.out (Eq.symm h))
      have T := zh ((HL.out.block _ (blk_lt S0.out)).trans S0.out)
      clear S0
      have S0 := T
      clear T
      have N1_2 := zh (show b8 ≠ b9 from by rw [hbz]; have := blk_lt S1.out; omega)
      have N2_1 := zh (fun h => N1_2.out (Eq.symm h))
      have T := zh ((HL.out.block _ (blk_lt S1.out)).trans S1.out)
      clear S1
      have S1 := T
      clear T
      rw [← hn1, ← hbz]
      clear hn1 hbz hl HB
      have HB := HC
      clear HC
      refine hK.out _ _ (HS.out _ HB.out) (fun hHeld => ?_)
      clear hK K HL hHeld
      try simp only [puts]
      refine listedH (L := #[true, true, true, true, true, true, true, true, true, true, true, true, true, true, true, true, true, false, true, true, true, false, false, false]) (by kernel_rfl) ?_
      revert N2_1
      revert N2_0
      revert N1_2
      revert N1_0
      revert N0_2
      revert N0_1
      revert GE2
      revert GE1
      revert GE0
      revert S2
      revert S1
      revert S0
      revert HB
      revert b9
      revert b8
      revert b7
      revert v
      exact K2_012
    case pK2_02 =>
     intro u b7 b9 HB S0 S2 GE0 GE2 N0_2 N2_0
     refine wpAnyH_ready (rs := [17, 19]) (by kernel_rfl) (by simp) (AllReadyH.cons rfl (fun K hK => ?_) (AllReadyH.cons rfl (fun K hK => ?_) AllReadyH.nil))
     ·skip
      go_simp
      refine (HN3.out u HB.out).mono ?_
      rintro e v ⟨rfl, hb⟩
      have HL := zh (show Below u.heap.size u v from hb)
      have HC := zh (then' HB.out hb)
      clear hb HB
      have HB := HC
      clear HC
      have T := zh ((HL.out.block _ (blk_lt S0.out)).trans S0.out)
      clear S0
      have S0 := T
      clear T
      have T := zh ((HL.out.block _ (blk_lt S2.out)).trans S2.out)
      clear S2
      have S2 := T
      clear T
      go_wp2_with fail
      refine hK.out _ _ (HS.out _ HB.out) (fun hHeld => ?_)
      clear hK K HL hHeld
      try simp only [puts]
      refine listedH (L := #[true, true, true, true, true, true, true, true, true, true, true, true, true, true, true, true, true, true, true, false, true, false, false, false]) (by kernel_rfl) ?_
      revert N2_0
      revert N0_2
      revert GE2
      revert GE0
      revert S2
      revert S0
      revert HB
      revert b9
      revert b7
      revert v
      exact K3_02
     ·skip
      go_simp
      obtain ⟨v, hn1⟩ : ∃ v, v = u.alloc (.cells #[.int .i64 0, .string ⟨#[]⟩] 50) := ⟨_, rfl⟩
      obtain ⟨b8, hbz⟩ : ∃ b, b = u.heap.size := ⟨_, rfl⟩
      have hl : Below u.heap.size u v := by rw [hn1]; exact (Below.refl _ _).alloc (Nat.le_refl _) _
      have HL := zh hl
      have HC := zh (then' HB.out hl)
      have S1 := zh (show v.heap[b8]? = some (.cells #[.int .i64 0, .string ⟨#[]⟩] 50 (0, 0)) from by rw [hn1, hbz]; exact heap_alloc_new _ _)
      have GE1 := zh (show W.heap.size ≤ b8 from by rw [hbz]; exact HB.out.size)
      have N0_1 := zh (show b7 ≠ b8 from by rw [hbz]; have := blk_lt S0.out; omega)
      have N1_0 := zh (fun h => N0_1.out (Eq.symm h))
      have T := zh ((HL.out.block _ (blk_lt S0.out)).trans S0.out)
      clear S0
      have S0 := T
      clear T
      have N2_1 := zh (show b9 ≠ b8 from by rw [hbz]; have := blk_lt S2.out; omega)
      have N1_2 := zh (fun h => N2_1.out (Eq.symm h))
      have T := zh ((HL.out.block _ (blk_lt S2.out)).trans S2.out)
      clear S2
      have S2 := T
      clear T
      rw [← hn1, ← hbz]
      clear hn1 hbz hl HB
      have HB := HC
      clear HC
      refine hK.out _ _ (HS.out _ HB.out) (fun hHeld => ?_)
      clear hK K HL hHeld
      try simp only [puts]
      refine listedH (L := #[true, true, true, true, true, true, true, true, true, true, true, true, true, true, true, true, true, false, true, true, true, false, false, false]) (by kernel_rfl) ?_
      revert N2_1
      revert N2_0
      revert N1_2
      revert N1_0
      revert N0_2
      revert N0_1
      revert GE2
      revert GE1
      revert GE0
      revert S2
      revert S1
      revert S0
      revert HB
      revert b9
      revert b8
      revert b7
      revert v
      exact K2_012
    case pK2_12 =>
     intro u b8 b9 HB S1 S2 GE1 GE2 N1_2 N2_1
     refine wpAnyH_ready (rs := [17, 18]) (by kernel_rfl) (by simp) (AllReadyH.cons rfl (fun K hK => ?_) (AllReadyH.cons rfl (fun K hK => ?_) AllReadyH.nil))
     ·skip
      go_simp
      refine (HN3.out u HB.out).mono ?_
      rintro e v ⟨rfl, hb⟩
      have HL := zh (show Below u.heap.size u v from hb)
      have HC := zh (then' HB.out hb)
      clear hb HB
      have HB := HC
      clear HC
      have T := zh ((HL.out.block _ (blk_lt S1.out)).trans S1.out)
      clear S1
      have S1 := T
      clear T
      have T := zh ((HL.out.block _ (blk_lt S2.out)).trans S2.out)
      clear S2
      have S2 := T
      clear T
      go_wp2_with fail
      refine hK.out _ _ (HS.out _ HB.out) (fun hHeld => ?_)
      clear hK K HL hHeld
      try simp only [puts]
      refine listedH (L := #[true, true, true, true, true, true, true, true, true, true, true, true, true, true, true, true, true, true, false, true, true, false, false, false]) (by kernel_rfl) ?_
      revert N2_1
      revert N1_2
      revert GE2
      revert GE1
      revert S2
      revert S1
      revert HB
      revert b9
      revert b8
      revert v
      exact K3_12
     ·skip
      go_simp
      obtain ⟨v, hn1⟩ : ∃ v, v = u.alloc (.cells #[.int .i64 0, .string ⟨#[]⟩] 50) := ⟨_, rfl⟩
      obtain ⟨b7, hbz⟩ : ∃ b, b = u.heap.size := ⟨_, rfl⟩
      have hl : Below u.heap.size u v := by rw [hn1]; exact (Below.refl _ _).alloc (Nat.le_refl _) _
      have HL := zh hl
      have HC := zh (then' HB.out hl)
      have S0 := zh (show v.heap[b7]? = some (.cells #[.int .i64 0, .string ⟨#[]⟩] 50 (0, 0)) from by rw [hn1, hbz]; exact heap_alloc_new _ _)
      have GE0 := zh (show W.heap.size ≤ b7 from by rw [hbz]; exact HB.out.size)
      have N1_0 := zh (show b8 ≠ b7 from by rw [hbz]; have := blk_lt S1.out; omega)
      have N0_1 := zh (fun h => N1_0.out (Eq.symm h))
      have T := zh ((HL.out.block _ (blk_lt S1.out)).trans S1.out)
      clear S1
      have S1 := T
      clear T
      have N2_0 := zh (show b9 ≠ b7 from by rw [hbz]; have := blk_lt S2.out; omega)
      have N0_2 := zh (fun h => N2_0.out (Eq.symm h))
      have T := zh ((HL.out.block _ (blk_lt S2.out)).trans S2.out)
      clear S2
      have S2 := T
      clear T
      rw [← hn1, ← hbz]
      clear hn1 hbz hl HB
      have HB := HC
      clear HC
      refine hK.out _ _ (HS.out _ HB.out) (fun hHeld => ?_)
      clear hK K HL hHeld
      try simp only [puts]
      refine listedH (L := #[true, true, true, true, true, true, true, true, true, true, true, true, true, true, true, true, true, false, true, true, true, false, false, false]) (by kernel_rfl) ?_
      revert N2_1
      revert N2_0
      revert N1_2
      revert N1_0
      revert N0_2
      revert N0_1
      revert GE2
      revert GE1
      revert GE0
      revert S2
      revert S1
      revert S0
      revert HB
      revert b9
      revert b8
      revert b7
      revert v
      exact K2_012
    case pK1_012 =>
     intro u b7 b8 b9 HB S0 S1 S2 GE0 GE1 GE2 N0_1 N0_2 N1_0 N1_2 N2_0 N2_1
     refine rdy 11 rfl (fun K hK => ?_)
     go_simp
     refine (HN2.out u HB.out).mono ?_
     rintro e v ⟨rfl, hb⟩
     have HL := zh (show Below u.heap.size u v from hb)
     have HC := zh (then' HB.out hb)
     clear hb HB
     have HB := HC
     clear HC
     have T := zh ((HL.out.block _ (blk_lt S0.out)).trans S0.out)
     clear S0
     have S0 := T
     clear T
     have T := zh ((HL.out.block _ (blk_lt S1.out)).trans S1.out)
     clear S1
     have S1 := T
     clear T
     have T := zh ((HL.out.block _ (blk_lt S2.out)).trans S2.out)
     clear S2
     have S2 := T
     clear T
     go_wp2_with fail
     refine hK.out _ _ (HS.out _ HB.out) (fun hHeld => ?_)
     clear hK K HL hHeld
     try simp only [puts]
     refine listedH (L := #[true, true, true, true, true, true, true, true, true, true, true, true, true, true, true, true, true, false, true, true, true, false, false, false]) (by kernel_rfl) ?_
     revert N2_1
     revert N2_0
     revert N1_2
     revert N1_0
     revert N0_2
     revert N0_1
     revert GE2
     revert GE1
     revert GE0
     revert S2
     revert S1
     revert S0
     revert HB
     revert b9
     revert b8
     revert b7
     revert v
     exact K2_012
    case pK3_01 =>
     intro u b7 b8 HB S0 S1 GE0 GE1 N0_1 N1_0
     refine rdy 20 rfl (fun K hK => ?_)
     go_simp
     obtain ⟨v, hn1⟩ : ∃ v, v = u.alloc (.cells #[.int .i64 0, .string ⟨#[]⟩] 50) := ⟨_, rfl⟩
     obtain ⟨b9, hbz⟩ : ∃ b, b = u.heap.size := ⟨_, rfl⟩
     have hl : Below u.heap.size u v := by rw [hn1]; exact (Below.refl _ _).alloc (Nat.le_refl _) _
     have HL := zh hl
     have HC := zh (then' HB.out hl)
     have S2 := zh (show v.heap[b9]? = some (.cells #[.int .i64 0, .string ⟨#[]⟩] 50 (0, 0)) from by rw [hn1, hbz]; exact heap_alloc_new _ _)
     have GE2 := zh (show W.heap.size ≤ b9 from by rw [hbz]; exact HB.out.size)
     have N0_2 := zh (show b7 ≠ b9 from by rw [hbz]; have := blk_lt S0.out; omega)
     have N2_0 := zh (fun h => N0_2.out (Eq.symm h))
     have T := zh ((HL.out.block _ (blk_lt S0.out)).trans S0.out)
     clear S0
     have S0 := T
     clear T
     have N1_2 := zh (show b8 ≠ b9 from by rw [hbz]; have := blk_lt S1.out; omega)
     have N2_1 := zh (fun h => N1_2.out (Eq.symm h))
     have T := zh ((HL.out.block _ (blk_lt S1.out)).trans S1.out)
     clear S1
     have S1 := T
     clear T
     rw [← hn1, ← hbz]
     clear hn1 hbz hl HB
     have HB := HC
     clear HC
     refine hK.out _ _ (HS.out _ HB.out) (fun hHeld => ?_)
     clear hK K HL hHeld
     try simp only [puts]
     refine listedH (L := #[true, true, true, true, true, true, true, true, true, true, true, true, true, true, true, true, true, true, true, true, true, false, false, false]) (by kernel_rfl) ?_
     revert N2_1
     revert N2_0
     revert N1_2
     revert N1_0
     revert N0_2
     revert N0_1
     revert GE2
     revert GE1
     revert GE0
     revert S2
     revert S1
     revert S0
     revert HB
     revert b9
     revert b8
     revert b7
     revert v
     exact K3_012
    case pK3_02 =>
     intro u b7 b9 HB S0 S2 GE0 GE2 N0_2 N2_0
     refine rdy 19 rfl (fun K hK => ?_)
     go_simp
     obtain ⟨v, hn1⟩ : ∃ v, v = u.alloc (.cells #[.int .i64 0, .string ⟨#[]⟩] 50) := ⟨_, rfl⟩
     obtain ⟨b8, hbz⟩ : ∃ b, b = u.heap.size := ⟨_, rfl⟩
     have hl : Below u.heap.size u v := by rw [hn1]; exact (Below.refl _ _).alloc (Nat.le_refl _) _
     have HL := zh hl
     have HC := zh (then' HB.out hl)
     have S1 := zh (show v.heap[b8]? = some (.cells #[.int .i64 0, .string ⟨#[]⟩] 50 (0, 0)) from by rw [hn1, hbz]; exact heap_alloc_new _ _)
     have GE1 := zh (show W.heap.size ≤ b8 from by rw [hbz]; exact HB.out.size)
     have N0_1 := zh (show b7 ≠ b8 from by rw [hbz]; have := blk_lt S0.out; omega)
     have N1_0 := zh (fun h => N0_1.out (Eq.symm h))
     have T := zh ((HL.out.block _ (blk_lt S0.out)).trans S0.out)
     clear S0
     have S0 := T
     clear T
     have N2_1 := zh (show b9 ≠ b8 from by rw [hbz]; have := blk_lt S2.out; omega)
     have N1_2 := zh (fun h => N2_1.out (Eq.symm h))
     have T := zh ((HL.out.block _ (blk_lt S2.out)).trans S2.out)
     clear S2
     have S2 := T
     clear T
     rw [← hn1, ← hbz]
     clear hn1 hbz hl HB
     have HB := HC
     clear HC
     refine hK.out _ _ (HS.out _ HB.out) (fun hHeld => ?_)
     clear hK K HL hHeld
     try simp only [puts]
     refine listedH (L := #[true, true, true, true, true, true, true, true, true, true, true, true, true, true, true, true, true, true, true, true, true, false, false, false]) (by kernel_rfl) ?_
     revert N2_1
     revert N2_0
     revert N1_2
     revert N1_0
     revert N0_2
     revert N0_1
     revert GE2
     revert GE1
     revert GE0
     revert S2
     revert S1
     revert S0
     revert HB
     revert b9
     revert b8
     revert b7
     revert v
     exact K3_012
    case pK3_12 =>
     intro u b8 b9 HB S1 S2 GE1 GE2 N1_2 N2_1
     refine rdy 18 rfl (fun K hK => ?_)
     go_simp
     obtain ⟨v, hn1⟩ : ∃ v, v = u.alloc (.cells #[.int .i64 0, .string ⟨#[]⟩] 50) := ⟨_, rfl⟩
     obtain ⟨b7, hbz⟩ : ∃ b, b = u.heap.size := ⟨_, rfl⟩
     have hl : Below u.heap.size u v := by rw [hn1]; exact (Below.refl _ _).alloc (Nat.le_refl _) _
     have HL := zh hl
     have HC := zh (then' HB.out hl)
     have S0 := zh (show v.heap[b7]? = some (.cells #[.int .i64 0, .string ⟨#[]⟩] 50 (0, 0)) from by rw [hn1, hbz]; exact heap_alloc_new _ _)
     have GE0 := zh (show W.heap.size ≤ b7 from by rw [hbz]; exact HB.out.size)
     have N1_0 := zh (show b8 ≠ b7 from by rw [hbz]; have := blk_lt S1.out; omega)
     have N0_1 := zh (fun h => N1_0.out (Eq.symm h))
     have T := zh ((HL.out.block _ (blk_lt S1.out)).trans S1.out)
     clear S1
     have S1 := T
     clear T
     have N2_0 := zh (show b9 ≠ b7 from by rw [hbz]; have := blk_lt S2.out; omega)
     have N0_2 := zh (fun h => N2_0.out (Eq.symm h))
     have T := zh ((HL.out.block _ (blk_lt S2.out)).trans S2.out)
     clear S2
     have S2 := T
     clear T
     rw [← hn1, ← hbz]
     clear hn1 hbz hl HB
     have HB := HC
     clear HC
     refine hK.out _ _ (HS.out _ HB.out) (fun hHeld => ?_)
     clear hK K HL hHeld
     try simp only [puts]
     refine listedH (L := #[true, true, true, true, true, true, true, true, true, true, true, true, true, true, true, true, true, true, true, true, true, false, false, false]) (by kernel_rfl) ?_
     revert N2_1
     revert N2_0
     revert N1_2
     revert N1_0
     revert N0_2
     revert N0_1
     revert GE2
     revert GE1
     revert GE0
     revert S2
     revert S1
     revert S0
     revert HB
     revert b9
     revert b8
     revert b7
     revert v
     exact K3_012
    case pK2_012 =>
     intro u b7 b8 b9 HB S0 S1 S2 GE0 GE1 GE2 N0_1 N0_2 N1_0 N1_2 N2_0 N2_1
     refine rdy 17 rfl (fun K hK => ?_)
     go_simp
     refine (HN3.out u HB.out).mono ?_
     rintro e v ⟨rfl, hb⟩
     have HL := zh (show Below u.heap.size u v from hb)
     have HC := zh (then' HB.out hb)
     clear hb HB
     have HB := HC
     clear HC
     have T := zh ((HL.out.block _ (blk_lt S0.out)).trans S0.out)
     clear S0
     have S0 := T
     clear T
     have T := zh ((HL.out.block _ (blk_lt S1.out)).trans S1.out)
     clear S1
     have S1 := T
     clear T
     have T := zh ((HL.out.block _ (blk_lt S2.out)).trans S2.out)
     clear S2
     have S2 := T
     clear T
     go_wp2_with fail
     refine hK.out _ _ (HS.out _ HB.out) (fun hHeld => ?_)
     clear hK K HL hHeld
     try simp only [puts]
     refine listedH (L := #[true, true, true, true, true, true, true, true, true, true, true, true, true, true, true, true, true, true, true, true, true, false, false, false]) (by kernel_rfl) ?_
     revert N2_1
     revert N2_0
     revert N1_2
     revert N1_0
     revert N0_2
     revert N0_1
     revert GE2
     revert GE1
     revert GE0
     revert S2
     revert S1
     revert S0
     revert HB
     revert b9
     revert b8
     revert b7
     revert v
     exact K3_012
    case pK3_012 =>
     intro u b7 b8 b9 HB S0 S1 S2 GE0 GE1 GE2 N0_1 N0_2 N1_0 N1_2 N2_0 N2_1
     have ys := S0.out
     have y0 := cell_of_row _ _ 0 _ _ _ ys; have y1 := cell_of_row _ _ 1 _ _ _ ys
     have f0 := frozen_of_row _ _ 0 _ _ ys; have f1 := frozen_of_row _ _ 1 _ _ ys
     obtain ⟨u1, hV⟩ : ∃ v, v = (u.setCell ⟨b7, 0, none⟩ (.int .i64 z1.1)).setCell ⟨b7, 1, none⟩ (.string ⟨z1.2.toArray⟩) := ⟨_, rfl⟩
     have HC := zh (show Below W.heap.size W u1 from by rw [hV]; exact set_below z1 HB.out GE0.out)
     have T0 := zh (show u1.heap[b7]? = some (.cells (faC z1).toArray 50 (0, 0)) from by rw [hV]; exact fa_set z1 S0.out)
     have T1 := zh (show u1.heap[b8]? = some (.cells #[.int .i64 0, .string ⟨#[]⟩] 50 (0, 0)) from by rw [hV]; exact (set_other z1 N1_0.out).trans S1.out)
     have T2 := zh (show u1.heap[b9]? = some (.cells #[.int .i64 0, .string ⟨#[]⟩] 50 (0, 0)) from by rw [hV]; exact (set_other z1 N2_0.out).trans S2.out)
     clear ys HB
     have HB := HC
     clear HC
     refine rdy 21 rfl (fun K hK => ?_)
     go_simp
     rw [← hV]
     clear hV y0 y1 f0 f1
     refine hK.out _ _ (HS.out _ HB.out) (fun hHeld => ?_)
     clear hK K
     try simp only [puts]
     clear S0
     have S0 := T0
     clear T0
     clear S1
     have S1 := T1
     clear T1
     clear S2
     have S2 := T2
     clear T2
     have ys := S1.out
     have y0 := cell_of_row _ _ 0 _ _ _ ys; have y1 := cell_of_row _ _ 1 _ _ _ ys
     have f0 := frozen_of_row _ _ 0 _ _ ys; have f1 := frozen_of_row _ _ 1 _ _ ys
     obtain ⟨u2, hV⟩ : ∃ v, v = (u1.setCell ⟨b8, 0, none⟩ (.int .i64 z2.1)).setCell ⟨b8, 1, none⟩ (.string ⟨z2.2.toArray⟩) := ⟨_, rfl⟩
     have HC := zh (show Below W.heap.size W u2 from by rw [hV]; exact set_below z2 HB.out GE1.out)
     have T0 := zh (show u2.heap[b7]? = some (.cells (faC z1).toArray 50 (0, 0)) from by rw [hV]; exact (set_other z2 N0_1.out).trans S0.out)
     have T1 := zh (show u2.heap[b8]? = some (.cells (faC z2).toArray 50 (0, 0)) from by rw [hV]; exact fa_set z2 S1.out)
     have T2 := zh (show u2.heap[b9]? = some (.cells #[.int .i64 0, .string ⟨#[]⟩] 50 (0, 0)) from by rw [hV]; exact (set_other z2 N2_1.out).trans S2.out)
     clear ys HB
     have HB := HC
     clear HC
     refine rdy 22 rfl (fun K hK => ?_)
     go_simp
     rw [← hV]
     clear hV y0 y1 f0 f1
     refine hK.out _ _ (HS.out _ HB.out) (fun hHeld => ?_)
     clear hK K
     try simp only [puts]
     clear S0
     have S0 := T0
     clear T0
     clear S1
     have S1 := T1
     clear T1
     clear S2
     have S2 := T2
     clear T2
     have ys := S2.out
     have y0 := cell_of_row _ _ 0 _ _ _ ys; have y1 := cell_of_row _ _ 1 _ _ _ ys
     have f0 := frozen_of_row _ _ 0 _ _ ys; have f1 := frozen_of_row _ _ 1 _ _ ys
     obtain ⟨u3, hV⟩ : ∃ v, v = (u2.setCell ⟨b9, 0, none⟩ (.int .i64 z3.1)).setCell ⟨b9, 1, none⟩ (.string ⟨z3.2.toArray⟩) := ⟨_, rfl⟩
     have HC := zh (show Below W.heap.size W u3 from by rw [hV]; exact set_below z3 HB.out GE2.out)
     have T0 := zh (show u3.heap[b7]? = some (.cells (faC z1).toArray 50 (0, 0)) from by rw [hV]; exact (set_other z3 N0_2.out).trans S0.out)
     have T1 := zh (show u3.heap[b8]? = some (.cells (faC z2).toArray 50 (0, 0)) from by rw [hV]; exact (set_other z3 N1_2.out).trans S1.out)
     have T2 := zh (show u3.heap[b9]? = some (.cells (faC z3).toArray 50 (0, 0)) from by rw [hV]; exact fa_set z3 S2.out)
     clear ys HB
     have HB := HC
     clear HC
     refine rdy 23 rfl (fun K hK => ?_)
     go_simp
     rw [← hV]
     clear hV y0 y1 f0 f1
     refine hK.out _ _ (HS.out _ HB.out) (fun hHeld => ?_)
     clear hK K
     try simp only [puts]
     clear S0
     have S0 := T0
     clear T0
     clear S1
     have S1 := T1
     clear T1
     clear S2
     have S2 := T2
     clear T2
     refine wpAnyH_done (by kernel_rfl) ?_ _
     exact ⟨b7, b8, b9, _, _, _, _, _, _, _, _, _, _, _, _, _, _, _, _, _, _, _, _, _, _, _, _, _, _, _, _, _, _, _, _, _, _, _, _, _, _, _, _, _, _, _, _, _, _, _, rfl, S0.out, S1.out, S2.out, HB.out⟩
   rintro e a u hP
   cases e <;> try exact hP.elim
   obtain ⟨b7, b8, b9, t0, t1, t2, t10, t11, t12, t13, t14, t15, t16, t17, t18, t19, t20, t21, t22, t23, t24, t25, t26, t27, t28, t29, t30, t31, t32, t33, t34, t35, t36, t37, t38, t39, t40, t41, t42, t43, t44, t45, t46, t47, t48, t49, t50, t51, t52, t53, rfl, S0, S1, S2, hB⟩ := hP
   have HT := zh (show ∀ v, Below u.heap.size u v → (fun w' : World => (w'.cell? ⟨w.heap.size, 0, none⟩ = some (.slice A1 cs.length c1) ∧ w'.cell? ⟨w.heap.size, 1, none⟩ = some (.slice A2 ns.length c2) ∧ w'.cell? ⟨w.heap.size, 2, none⟩ = some (.string ⟨ec.toArray⟩) ∧ w'.cell? ⟨w.heap.size, 3, none⟩ = some (.string ⟨en.toArray⟩) ∧ w'.cell? ⟨w.heap.size, 4, none⟩ = some (.string ⟨ed.toArray⟩)) ∧ (w'.cell? ⟨b7, 0, none⟩ = some (.int .i64 z1.1) ∧ w'.cell? ⟨b7, 1, none⟩ = some (.string ⟨z1.2.toArray⟩)) ∧ (w'.cell? ⟨b8, 0, none⟩ = some (.int .i64 z2.1) ∧ w'.cell? ⟨b8, 1, none⟩ = some (.string ⟨z2.2.toArray⟩)) ∧ (w'.cell? ⟨b9, 0, none⟩ = some (.int .i64 z3.1) ∧ w'.cell? ⟨b9, 1, none⟩ = some (.string ⟨z3.2.toArray⟩))) v from fun v hv => ⟨(HS.out v (hB.trans (hv.mono hB.size))).1, fa_cells ((hv.block _ (blk_lt S0)).trans S0), fa_cells ((hv.block _ (blk_lt S1)).trans S1), fa_cells ((hv.block _ (blk_lt S2)).trans S2)⟩)
   have HU := zh hB
   have hff := HFJ.out
   have hnm : ∀ c ∈ cs, c.nm ∈ knJ cs := fun c hc => knJ_nm hc
   obtain ⟨J, hJ⟩ : ∃ j, j = joinF cs z1 z2 := ⟨_, rfl⟩
   obtain ⟨M, hM⟩ : ∃ j, j = joinF cs z2 z3 := ⟨_, rfl⟩
   have eJ : J = toF (JK cs f1 f2) := by rw [hJ, EZ1.out, EZ2.out, join_toF hff.fine]
   have eM : M = toF (JK cs f2 f3) := by rw [hM, EZ2.out, EZ3.out, join_toF hff.fine]
   have kj : J.1 = 3 → J.2 ∈ knJ cs := by rw [eJ]; exact JK_kn hnm (by rw [← EZ1.out]; exact KF1.out) (by rw [← EZ2.out]; exact KF2.out)
   have km : M.1 = 3 → M.2 ∈ knJ cs := by rw [eM]; exact JK_kn hnm (by rw [← EZ2.out]; exact KF2.out) (by rw [← EZ3.out]; exact KF3.out)
   have e12 : joinF cs z1 M = joinF cs J z3 := by rw [eJ, eM, EZ1.out, EZ3.out, join_toF hff.fine, join_toF hff.fine, JK_assoc hff]
   have h1 := HJN.out HGP.out z1 z2 KF1.out KF2.out
   have h2 := HJN.out HGP.out J z3 kj KF3.out
   have h3 := HJN.out HGP.out z2 z3 KF2.out KF3.out
   have h4 := HJN.out HGP.out z1 M KF1.out km
   try dsimp only at h1 h2 h3 h4
   rw [e12] at h4
   obtain ⟨R, hR⟩ : ∃ j, j = joinF cs J z3 := ⟨_, rfl⟩
   rw [← hJ] at h1
   rw [← hM] at h3
   rw [← hR] at h2 h4
   unfold faC at h1 h2 h3 h4
   have H1 := zh h1; have H2 := zh h2; have H3 := zh h3; have H4 := zh h4
   clear h1 h2 h3 h4 e12 eJ eM kj km hff hnm hJ hM hR S0 S1 S2 hB HJN HBJ
   go_wp2_with fail
   refine wp_region_held_drew (S := fun w' : World => (w'.cell? ⟨w.heap.size, 0, none⟩ = some (.slice A1 cs.length c1) ∧ w'.cell? ⟨w.heap.size, 1, none⟩ = some (.slice A2 ns.length c2) ∧ w'.cell? ⟨w.heap.size, 2, none⟩ = some (.string ⟨ec.toArray⟩) ∧ w'.cell? ⟨w.heap.size, 3, none⟩ = some (.string ⟨en.toArray⟩) ∧ w'.cell? ⟨w.heap.size, 4, none⟩ = some (.string ⟨ed.toArray⟩)) ∧ (w'.cell? ⟨b7, 0, none⟩ = some (.int .i64 z1.1) ∧ w'.cell? ⟨b7, 1, none⟩ = some (.string ⟨z1.2.toArray⟩)) ∧ (w'.cell? ⟨b8, 0, none⟩ = some (.int .i64 z2.1) ∧ w'.cell? ⟨b8, 1, none⟩ = some (.string ⟨z2.2.toArray⟩)) ∧ (w'.cell? ⟨b9, 0, none⟩ = some (.int .i64 z3.1) ∧ w'.cell? ⟨b9, 1, none⟩ = some (.string ⟨z3.2.toArray⟩))) (by kernel_rfl) ?_ (fun hHeld => ?_)
   ·exact HT.out _ ⟨rfl, rfl, rfl, Nat.le_refl _, fun _ _ => rfl⟩
   obtain ⟨r0, hWd⟩ : ∃ r, r = u.drew := ⟨_, rfl⟩
   have HC0 := zh (show Below u.heap.size u r0 from by rw [hWd]; exact ⟨rfl, rfl, rfl, Nat.le_refl _, fun _ _ => rfl⟩)
   rw [← hWd]
   clear hWd
   refine rdy 0 rfl (fun K hK => ?_)
   go_simp
   refine (live_j r0).mono ?_
   rintro e r1 ⟨rfl, hb⟩
   have HC1 := zh (then' HC0.out hb)
   clear hb
   go_wp2_with fail
   refine hK.out _ _ (HT.out _ HC1.out) (fun hHeld => ?_)
   clear hK K
   try simp only [puts]
   have hS1 := HT.out _ HC1.out
   refine tkp 1 rfl ?_
   refine tkp 2 rfl ?_
   refine tkp 3 rfl ?_
   refine tkp 4 rfl ?_
   refine tkp 5 rfl ?_
   refine tkp 7 rfl ?_
   refine tkp 9 rfl ?_
   refine tkp 10 rfl ?_
   refine tkp 11 rfl ?_
   refine tkp 12 rfl ?_
   refine tkp 13 rfl ?_
   clear hS1
   refine rdy 6 rfl (fun K hK => ?_)
   go_simp
   refine (H1.out r1 (HU.out.trans (HC1.out.mono HU.out.size))).mono ?_
   rintro e r2 ⟨rfl, hb⟩
   have HC2 := zh (then' HC1.out hb)
   clear hb
   go_wp2_with fail
   refine hK.out _ _ (HT.out _ HC2.out) (fun hHeld => ?_)
   clear hK K
   try simp only [puts]
   have hS2 := HT.out _ HC2.out
   clear hS2
   refine rdy 8 rfl (fun K hK => ?_)
   go_simp
   refine (H2.out r2 (HU.out.trans (HC2.out.mono HU.out.size))).mono ?_
   rintro e r3 ⟨rfl, hb⟩
   have HC3 := zh (then' HC2.out hb)
   clear hb
   go_wp2_with fail
   refine hK.out _ _ (HT.out _ HC3.out) (fun hHeld => ?_)
   clear hK K
   try simp only [puts]
   have hS3 := HT.out _ HC3.out
   clear hS3
   refine rdy 14 rfl (fun K hK => ?_)
   go_simp
   refine (H3.out r3 (HU.out.trans (HC3.out.mono HU.out.size))).mono ?_
   rintro e r4 ⟨rfl, hb⟩
   have HC4 := zh (then' HC3.out hb)
   clear hb
   go_wp2_with fail
   refine hK.out _ _ (HT.out _ HC4.out) (fun hHeld => ?_)
   clear hK K
   try simp only [puts]
   have hS4 := HT.out _ HC4.out
   clear hS4
   refine rdy 15 rfl (fun K hK => ?_)
   go_simp
   refine (H4.out r4 (HU.out.trans (HC4.out.mono HU.out.size))).mono ?_
   rintro e r5 ⟨rfl, hb⟩
   have HC5 := zh (then' HC4.out hb)
   clear hb
   go_wp2_with fail
   refine hK.out _ _ (HT.out _ HC5.out) (fun hHeld => ?_)
   clear hK K
   try simp only [puts]
   have hS5 := HT.out _ HC5.out
   refine tkp 16 rfl ?_
   refine tkp 17 rfl ?_
   refine tkp 18 rfl ?_
   clear hS5
   refine wpAnyH_done (by kernel_rfl) ?_ _
   go_wp2
   go_ret
   exact ⟨rfl, HAL.out.trans ((HU.out.trans (HC5.out.mono HU.out.size)).mono HAL.out.size)⟩
end Go.Proofs.Ytdifmgeicnndfaa.joinOrder

/- JoinFitsW -/
import Derived.Test.YtapcnglnmlgocaaJoinE
namespace Go.Proofs.Ytapcnglnmlgocaa.prg
open Go.RowKit
open words kindp opp op kind word
set_option linter.all false
theorem sub_trans {cs : List ClM} {a b c : Tx} (h : subB cs a b = true) (k : subB cs b c = true) : subB cs a c = true :=
 sub_reach.2 ((sub_reach.1 h).trans (sub_reach.1 k))
theorem toF_inj {x y : FK} (h : toF x = toF y) : x = y := by
 cases x <;> cases y <;> simp [toF] at h ⊢ <;> exact h
theorem leK_refl (cs : List ClM) (x : FK) : leK cs x x := by cases x <;> simp [leK]
theorem JK_below {cs : List ClM} (f : FinJ cs) (x y : FK) : JK cs x y = y ↔ leK cs x y :=
 ⟨fun h => by have := (JK_ub f x y).1; rw [h] at this; exact this, fun h => leK_anti f.fine (JK_least f h (leK_refl cs y)) (JK_ub f x y).2⟩
theorem fit_le {cs : List ClM} {x y : FK} {t : Ty} (h : leK cs x y) (k : fitF cs (toF y) t = true) : fitF cs (toF x) t = true := by
 obtain ⟨tk, tc⟩ := t
 cases x <;> cases y <;> simp [leK] at h <;> simp only [toF, fitF] at k ⊢ <;> (try exact k) <;> (try (subst h; exact k)) <;> (try (split at k <;> simp_all; done))
 rcases h with rfl | h
 ·exact k
 ·by_cases h2 : tk = 2
  ·rw [if_pos h2] at k; cases k
  ·rw [if_neg h2] at k ⊢
   by_cases h3 : tk = 3
   ·rw [if_pos h3] at k ⊢
    have k2 := sub_trans h.2.2 (by simpa using k)
    rw [k2]; rfl
   ·rw [if_neg h3] at k ⊢
    by_cases h4 : tk = 4
    ·rw [if_pos h4] at k; cases k
    ·rw [if_neg h4] at k ⊢
     by_cases h5 : tk = 5
     ·rw [if_pos h5] at k; simp at k
     ·rw [if_neg h5] at k; cases k
end Go.Proofs.Ytapcnglnmlgocaa.prg
namespace Go.Proofs.Ytapcnglnmlgocaa.joinFits
open Go.RowKit
open words kindp opp op kind word prg
set_option maxRecDepth 100000
set_option maxHeartbeats 64000000
set_option linter.all false
theorem overD {b : Nat} {a c : World} (h : Below b a c) : Below b a c.drew := ⟨h.os, h.tape, h.output, h.size, h.block⟩
theorem knJ_kn {x : PrM} (hg : GrP x) (hb : PrBd x) : KnH x (knJ x.cs) := by
 refine ⟨hg.1.1, fun c hc => by have := (hg.2 c hc).1.1; omega, ?_, fun s hs => ?_, fun c hc s hs => List.mem_cons_of_mem _ (List.mem_cons_of_mem _ (List.mem_flatMap.2 ⟨c, hc, by simp [hs]⟩))⟩
 ·have h70 := hg.1.1
  have key : ∀ (l : List ClM), (∀ c ∈ l, GrC c) → (l.flatMap fun c => c.nm :: abv c).length ≤ 42 * l.length := by
   intro l
   induction l with
   | nil => intro _; simp
   | cons c l ih =>
    intro h
    have h1 := (h c (by simp)).1.1
    have h2 := ih fun y hy => h y (by simp [hy])
    simp only [List.flatMap_cons, List.length_append, List.length_cons, abv] at *
    omega
  have := key x.cs hg.2
  unfold knJ
  simp only [List.length_cons]
  omega
 ·unfold knJ at hs
  rcases List.mem_cons.1 hs with rfl | hs
  ·simp
  ·rcases List.mem_cons.1 hs with rfl | hs
   ·simp
   ·obtain ⟨c, hc, h⟩ := List.mem_flatMap.1 hs
    have hbc := hb.1.2 c hc
    unfold ClBd at hbc
    simp only [abv, List.mem_cons] at h
    rcases h with rfl | rfl | h
    ·omega
    ·omega
    ·have := hbc.2.2.1.2 s h; omega
def PostS (w W : World) (b7 : Nat) (z1 z2 : Fa) : Exit → Act → World → Prop
 | .normal, a, u => ∃ (b8 b9 : Nat) (t0 t1 t2 t10 t11 t12 t13 t14 t15 t16 t17 t18 t19 t20 t21 t22 t23 t24 t25 t26 t27 t28 t29 t30 t31 t32 t33 t34 t35 t36 t37 t38 t39 t40 t41 t42 t43 t44 t45 t46 t47 t48 t49 t50 t51 t52 t53 t54 t55 t56 t57 t58 t59 t60 t61 t62 t63 t64 t65 t66 t67 t68 t69 t70 t71 t72 t73 t74 t75 t76 t77 t78 t79 t80 t81 : Value), a = ⟨#[t0, t1, t2, .pointer (some ⟨w.heap.size, 0, none⟩), .pointer (some ⟨w.heap.size + 1, 0, none⟩), .pointer (some ⟨w.heap.size + 1 + 1, 0, none⟩), .bool false, .pointer (some ⟨b7, 0, none⟩), .pointer (some ⟨b8, 0, none⟩), .pointer (some ⟨b9, 0, none⟩), t10, t11, t12, t13, t14, t15, t16, t17, t18, t19, t20, t21, t22, t23, t24, t25, t26, t27, t28, t29, t30, t31, t32, t33, t34, t35, t36, t37, t38, t39, t40, t41, t42, t43, t44, t45, t46, t47, t48, t49, t50, t51, t52, t53, t54, t55, t56, t57, t58, t59, t60, t61, t62, t63, t64, t65, t66, t67, t68, t69, t70, t71, t72, t73, t74, t75, t76, t77, t78, t79, t80, t81], []⟩ ∧ u.heap[b8]? = some (.cells (faC z1).toArray 50 (0, 0)) ∧ u.heap[b9]? = some (.cells (faC z2).toArray 50 (0, 0)) ∧ (b8 ≠ b7 ∧ b9 ≠ b7) ∧ Below W.heap.size W u
 | _, _, _ => False
theorem walk (x : PrM) (k1 k2 k3 : Int) (d1 d2 d3 : Tx) (a1 a2 a3 : Nat) (w : World) (hk : PrOk w x) (hb : PrBd x) (he : a1 < 256 ∧ a2 < 256 ∧ a3 < 256) : Calls Try.prog 7 #[.agg (prC x).toArray, .agg #[.int .i64 k1, .string ⟨d1.toArray⟩, .int .i64 k2, .string ⟨d2.toArray⟩, .int .i64 k3, .string ⟨d3.toArray⟩], .agg #[.int .u8 (a1 : Int), .int .u8 (a2 : Int), .int .u8 (a3 : Int)]] w fun e w' => e = .returned (.bool true) ∧ Below w.heap.size w w' := by
 obtain ⟨cs, A1, c1, ns, A2, c2, ec, en, ed⟩ := x
 obtain ⟨W, hW⟩ : ∃ W, W = ((w.alloc (.cells #[.slice A1 cs.length c1, .slice A2 ns.length c2, .string ⟨ec.toArray⟩, .string ⟨en.toArray⟩, .string ⟨ed.toArray⟩] 27)).alloc (.cells #[.int .i64 k1, .string ⟨d1.toArray⟩, .int .i64 k2, .string ⟨d2.toArray⟩, .int .i64 k3, .string ⟨d3.toArray⟩] 63)).alloc (.cells #[.int .u8 (a1 : Int), .int .u8 (a2 : Int), .int .u8 (a3 : Int)] 28) := ⟨_, rfl⟩
 obtain ⟨h1, h2, h3, hal⟩ := three w _ _ _ W hW
 have HS := zh (show ∀ v, Below W.heap.size W v → (fun w' : World => (w'.cell? ⟨w.heap.size, 0, none⟩ = some (.slice A1 cs.length c1) ∧ w'.cell? ⟨w.heap.size, 1, none⟩ = some (.slice A2 ns.length c2) ∧ w'.cell? ⟨w.heap.size, 2, none⟩ = some (.string ⟨ec.toArray⟩) ∧ w'.cell? ⟨w.heap.size, 3, none⟩ = some (.string ⟨en.toArray⟩) ∧ w'.cell? ⟨w.heap.size, 4, none⟩ = some (.string ⟨ed.toArray⟩)) ∧ (w'.cell? ⟨w.heap.size + 1, 0, none⟩ = some (.int .i64 k1) ∧ w'.cell? ⟨w.heap.size + 1, 1, none⟩ = some (.string ⟨d1.toArray⟩) ∧ w'.cell? ⟨w.heap.size + 1, 2, none⟩ = some (.int .i64 k2) ∧ w'.cell? ⟨w.heap.size + 1, 3, none⟩ = some (.string ⟨d2.toArray⟩) ∧ w'.cell? ⟨w.heap.size + 1, 4, none⟩ = some (.int .i64 k3) ∧ w'.cell? ⟨w.heap.size + 1, 5, none⟩ = some (.string ⟨d3.toArray⟩)) ∧ (w'.cell? ⟨w.heap.size + 1 + 1, 0, none⟩ = some (.int .u8 (a1 : Int)) ∧ w'.cell? ⟨w.heap.size + 1 + 1, 1, none⟩ = some (.int .u8 (a2 : Int)) ∧ w'.cell? ⟨w.heap.size + 1 + 1, 2, none⟩ = some (.int .u8 (a3 : Int)))) v from fun v hv => ⟨pr_cells (x := ⟨cs, A1, c1, ns, A2, c2, ec, en, ed⟩) ((hv.block _ (blk_lt h1)).trans h1), by
  have r := (hv.block _ (blk_lt h2)).trans h2
  have s := (hv.block _ (blk_lt h3)).trans h3
  exact ⟨⟨cell_of_row _ _ 0 _ _ _ r, cell_of_row _ _ 1 _ _ _ r, cell_of_row _ _ 2 _ _ _ r, cell_of_row _ _ 3 _ _ _ r, cell_of_row _ _ 4 _ _ _ r, cell_of_row _ _ 5 _ _ _ r⟩, ⟨cell_of_row _ _ 0 _ _ _ s, cell_of_row _ _ 1 _ _ _ s, cell_of_row _ _ 2 _ _ _ s⟩⟩⟩)
 have hkW := hk.below hal
 have HGR := fun v (hv : Below W.heap.size W v) => great_w ⟨cs, A1, c1, ns, A2, c2, ec, en, ed⟩ v (hkW.below hv) hb
 have HSO := fun v (hv : Below W.heap.size W v) (hg : GrP ⟨cs, A1, c1, ns, A2, c2, ec, en, ed⟩) => sound_j ⟨cs, A1, c1, ns, A2, c2, ec, en, ed⟩ v (hkW.below hv) hb hg
 have HNR := fun (h70 : cs.length ≤ 70) (k : Int) (d : Tx) (m : Nat) (hm : m < 256) v (hv : Below W.heap.size W v) => near_j ⟨cs, A1, c1, ns, A2, c2, ec, en, ed⟩ (k, d) m v (hkW.below hv) h70 hm
 have HJN := fun (hg : GrP ⟨cs, A1, c1, ns, A2, c2, ec, en, ed⟩) (a b : Fa) (ha : a.1 = 3 → a.2 ∈ knJ cs) (hb2 : b.1 = 3 → b.2 ∈ knJ cs) v (hv : Below W.heap.size W v) => join_j ⟨cs, A1, c1, ns, A2, c2, ec, en, ed⟩ (knJ cs) a b v (hkW.below hv) hg (knJ_kn hg hb) ha hb2
 have HBJ := fun (hg : GrP ⟨cs, A1, c1, ns, A2, c2, ec, en, ed⟩) (a b : Fa) (ha : a.1 = 3 → a.2 ∈ knJ cs) (hb2 : b.1 = 3 → b.2 ∈ knJ cs) v (hv : Below W.heap.size W v) => below_j ⟨cs, A1, c1, ns, A2, c2, ec, en, ed⟩ (knJ cs) a b v (hkW.below hv) hg (knJ_kn hg hb) ha hb2
 have HFT := fun (hg : GrP ⟨cs, A1, c1, ns, A2, c2, ec, en, ed⟩) (a : Fa) (t : Ty) (ha : a.1 = 3 → a.2 ∈ knJ cs) v (hv : Below W.heap.size W v) => fits_j ⟨cs, A1, c1, ns, A2, c2, ec, en, ed⟩ (knJ cs) a t v (hkW.below hv) (knJ_kn hg hb) ha
 have HPO := zh (fun v (hv : Below W.heap.size W v) => hkW.below hv)
 unfold prC at HGR HSO HNR HJN HBJ HFT ⊢
 try dsimp only [List.cons_append, List.nil_append] at HGR HSO HNR HJN HBJ HFT ⊢
 have HFT := zh HFT; have HGR := zh HGR; have HSO := zh HSO; have HNR := zh HNR; have HJN := zh HJN; have HBJ := zh HBJ
 have HAL := zh hal; have HW := zh hW; have HE := zh he
 have hmx : Try.prog.follows .mixedOrders = true := by kernel_rfl
 clear h1 h2 h3 hal hW hk hb he hkW
 obtain ⟨⟨x0, x1, x2, x3, x4⟩, -⟩ := HS.out W (Below.refl _ _)
 go_enter Try.func7, Try.ntmps7
 go_wp2_with fail
 try simp only [World.size_alloc]
 rw [← HW.out]
 (try go_wp2_with fail)
 refine (HGR.out W (Below.refl _ _)).mono ?_
 rintro e v1 ⟨g, rfl, hg, hb1⟩
 have K1 := zh hb1
 have HG := zh hg
 clear hb1 hg x0 x1 x2 x3 x4
 obtain ⟨⟨x0, x1, x2, x3, x4⟩, -⟩ := HS.out v1 K1.out
 cases g with
 | true =>
  go_wp2_with fail
  refine (live_j v1).mono ?_
  rintro e v2 ⟨rfl, hb2⟩
  have K2 := zh (then' K1.out hb2)
  clear hb2 x0 x1 x2 x3 x4
  go_wp2_with fail
  go_ret
  exact ⟨rfl, HAL.out.trans (K2.out.mono HAL.out.size)⟩
 | false =>
  have HGP := zh (HG.out rfl)
  have h70 : cs.length ≤ 70 := HGP.out.1.1
  go_wp2_with fail
  refine (HSO.out v1 K1.out HGP.out).mono ?_
  rintro e v2 ⟨b, rfl, hf, hb2⟩
  have K2 := zh (then' K1.out hb2)
  have HF := zh hf
  clear hb2 hf x0 x1 x2 x3 x4
  obtain ⟨⟨x0, x1, x2, x3, x4⟩, -⟩ := HS.out v2 K2.out
  cases b with
  | false =>
   go_wp2_with fail
   refine (live_j v2).mono ?_
   rintro e v3 ⟨rfl, hb3⟩
   have K3 := zh (then' K2.out hb3)
   clear hb3 x0 x1 x2 x3 x4
   go_wp2_with fail
   go_ret
   exact ⟨rfl, HAL.out.trans (K3.out.mono HAL.out.size)⟩
  | true =>
   have HFJ := zh (HF.out rfl)
   obtain ⟨f1, ef1, kf1⟩ := near_fk cs k1 a1
   have HN1 := HNR.out h70 k1 d1 a1 HE.out.1
   try dsimp only at HN1
   rw [ef1] at HN1
   obtain ⟨z1, ez1⟩ : ∃ z, z = toF f1 := ⟨_, rfl⟩
   rw [← ez1] at HN1 kf1
   unfold faC at HN1
   have HN1 := zh HN1; have KF1 := zh kf1; have EZ1 := zh ez1
   clear ef1 kf1 ez1
   obtain ⟨f2, ef2, kf2⟩ := near_fk cs k2 a2
   have HN2 := HNR.out h70 k2 d2 a2 HE.out.2.1
   try dsimp only at HN2
   rw [ef2] at HN2
   obtain ⟨z2, ez2⟩ : ∃ z, z = toF f2 := ⟨_, rfl⟩
   rw [← ez2] at HN2 kf2
   unfold faC at HN2
   have HN2 := zh HN2; have KF2 := zh kf2; have EZ2 := zh ez2
   clear ef2 kf2 ez2
   clear HGR HSO HNR
   have HW2 := zh (HS.out v2 K2.out)
   obtain ⟨-, ⟨-, -, -, -, p4, p5⟩, -⟩ := HW2.out
   obtain ⟨V, hV⟩ : ∃ v, v = v2.alloc (.cells #[.int .i64 k3, .string ⟨d3.toArray⟩] 61) := ⟨_, rfl⟩
   obtain ⟨b7, hb7⟩ : ∃ b, b = v2.heap.size := ⟨_, rfl⟩
   have hlV : Below v2.heap.size v2 V := by rw [hV]; exact (Below.refl _ _).alloc (Nat.le_refl _) _
   have hKV := then' K2.out hlV
   have s7 : V.heap[b7]? = some (.cells #[.int .i64 k3, .string ⟨d3.toArray⟩] 61 (0, 0)) := by rw [hV, hb7]; exact heap_alloc_new _ _
   have HKV := zh hKV; have S7 := zh s7
   have HL7 := zh (show b7 < V.heap.size from blk_lt s7)
   have HG7 := zh (show W.heap.size ≤ b7 from by rw [hb7]; exact K2.out.size)
   have HT := zh (show ∀ v, Below V.heap.size V v → (fun w' : World => (w'.cell? ⟨w.heap.size, 0, none⟩ = some (.slice A1 cs.length c1) ∧ w'.cell? ⟨w.heap.size, 1, none⟩ = some (.slice A2 ns.length c2) ∧ w'.cell? ⟨w.heap.size, 2, none⟩ = some (.string ⟨ec.toArray⟩) ∧ w'.cell? ⟨w.heap.size, 3, none⟩ = some (.string ⟨en.toArray⟩) ∧ w'.cell? ⟨w.heap.size, 4, none⟩ = some (.string ⟨ed.toArray⟩)) ∧ (w'.cell? ⟨w.heap.size + 1, 0, none⟩ = some (.int .i64 k1) ∧ w'.cell? ⟨w.heap.size + 1, 1, none⟩ = some (.string ⟨d1.toArray⟩) ∧ w'.cell? ⟨w.heap.size + 1, 2, none⟩ = some (.int .i64 k2) ∧ w'.cell? ⟨w.heap.size + 1, 3, none⟩ = some (.string ⟨d2.toArray⟩) ∧ w'.cell? ⟨w.heap.size + 1, 4, none⟩ = some (.int .i64 k3) ∧ w'.cell? ⟨w.heap.size + 1, 5, none⟩ = some (.string ⟨d3.toArray⟩)) ∧ (w'.cell? ⟨w.heap.size + 1 + 1, 0, none⟩ = some (.int .u8 (a1 : Int)) ∧ w'.cell? ⟨w.heap.size + 1 + 1, 1, none⟩ = some (.int .u8 (a2 : Int)) ∧ w'.cell? ⟨w.heap.size + 1 + 1, 2, none⟩ = some (.int .u8 (a3 : Int))) ∧ (w'.cell? ⟨b7, 0, none⟩ = some (.int .i64 k3) ∧ w'.cell? ⟨b7, 1, none⟩ = some (.string ⟨d3.toArray⟩))) v from fun v hv => by
    obtain ⟨h1, h2, h3⟩ := HS.out v (hKV.trans (hv.mono hKV.size))
    have s := (hv.block _ (blk_lt s7)).trans s7
    exact ⟨h1, h2, h3, cell_of_row _ _ 0 _ _ _ s, cell_of_row _ _ 1 _ _ _ s⟩)
   have HV := zh hV; have HB7 := zh hb7
   clear hV hb7 hlV hKV s7 HW2
   go_wp2_with fail
   rw [← HV.out, ← HB7.out]
   clear p4 p5 x0 x1 x2 x3 x4
   (try go_wp2_with fail)
   refine Code.wp_mono (Q := PostS w V b7 z1 z2) ?_ ?_
   rotate_left 1
   focus
    refine wp_region_held_drew (S := fun w' : World => (w'.cell? ⟨w.heap.size, 0, none⟩ = some (.slice A1 cs.length c1) ∧ w'.cell? ⟨w.heap.size, 1, none⟩ = some (.slice A2 ns.length c2) ∧ w'.cell? ⟨w.heap.size, 2, none⟩ = some (.string ⟨ec.toArray⟩) ∧ w'.cell? ⟨w.heap.size, 3, none⟩ = some (.string ⟨en.toArray⟩) ∧ w'.cell? ⟨w.heap.size, 4, none⟩ = some (.string ⟨ed.toArray⟩)) ∧ (w'.cell? ⟨w.heap.size + 1, 0, none⟩ = some (.int .i64 k1) ∧ w'.cell? ⟨w.heap.size + 1, 1, none⟩ = some (.string ⟨d1.toArray⟩) ∧ w'.cell? ⟨w.heap.size + 1, 2, none⟩ = some (.int .i64 k2) ∧ w'.cell? ⟨w.heap.size + 1, 3, none⟩ = some (.string ⟨d2.toArray⟩) ∧ w'.cell? ⟨w.heap.size + 1, 4, none⟩ = some (.int .i64 k3) ∧ w'.cell? ⟨w.heap.size + 1, 5, none⟩ = some (.string ⟨d3.toArray⟩)) ∧ (w'.cell? ⟨w.heap.size + 1 + 1, 0, none⟩ = some (.int .u8 (a1 : Int)) ∧ w'.cell? ⟨w.heap.size + 1 + 1, 1, none⟩ = some (.int .u8 (a2 : Int)) ∧ w'.cell? ⟨w.heap.size + 1 + 1, 2, none⟩ = some (.int .u8 (a3 : Int))) ∧ (w'.cell? ⟨b7, 0, none⟩ = some (.int .i64 k3) ∧ w'.cell? ⟨b7, 1, none⟩ = some (.string ⟨d3.toArray⟩))) (by kernel_rfl) ?_ (fun hHeld => ?_)
    ·exact HT.out _ ⟨rfl, rfl, rfl, Nat.le_refl _, fun _ _ => rfl⟩
    obtain ⟨u0, hWd⟩ : ∃ u, u = V.drew := ⟨_, rfl⟩
    have HB0 := zh (show Below V.heap.size V u0 from by rw [hWd]; exact ⟨rfl, rfl, rfl, Nat.le_refl _, fun _ _ => rfl⟩)
    rw [← hWd]
    have hS0 := HT.out _ HB0.out
    clear hWd
    refine tkp 0 rfl ?_
    refine tkp 1 rfl ?_
    refine tkp 2 rfl ?_
    refine tkp 3 rfl ?_
    refine tkp 4 rfl ?_
    refine tkp 5 rfl ?_
    refine tkp 7 rfl ?_
    refine tkp 8 rfl ?_
    refine tkp 9 rfl ?_
    refine tkp 10 rfl ?_
    refine tkp 11 rfl ?_
    refine tkp 12 rfl ?_
    clear hS0
    refine wpAnyH_ready (rs := [6, 14, 15]) (by kernel_rfl) (by simp) (AllReadyH.cons rfl (fun K hK => ?_) (AllReadyH.cons rfl (fun K hK => ?_) (AllReadyH.cons rfl (fun K hK => ?_) AllReadyH.nil)))
    ·skip
     go_simp
     refine (HN1.out u0 (HKV.out.trans (HB0.out.mono HKV.out.size))).mono ?_
     rintro e u1 ⟨rfl, hb⟩
     have HL := zh (show Below u0.heap.size u0 u1 from hb)
     have HB1 := zh (then' HB0.out hb)
     clear hb
     go_wp2_with fail
     refine hK.out _ _ (HT.out _ HB1.out) (fun hHeld => ?_)
     clear hK K HL
     try simp only [puts]
     refine wpAnyH_ready (rs := [13, 14, 15]) (by kernel_rfl) (by simp) (AllReadyH.cons rfl (fun K hK => ?_) (AllReadyH.cons rfl (fun K hK => ?_) (AllReadyH.cons rfl (fun K hK => ?_) AllReadyH.nil)))
     ·skip
      go_simp
      refine (HN2.out u1 (HKV.out.trans (HB1.out.mono HKV.out.size))).mono ?_
      rintro e u2 ⟨rfl, hb⟩
      have HL := zh (show Below u1.heap.size u1 u2 from hb)
      have HB2 := zh (then' HB1.out hb)
      clear hb
      go_wp2_with fail
      refine hK.out _ _ (HT.out _ HB2.out) (fun hHeld => ?_)
      clear hK K HL
      try simp only [puts]
      refine wpAnyH_ready (rs := [14, 15]) (by kernel_rfl) (by simp) (AllReadyH.cons rfl (fun K hK => ?_) (AllReadyH.cons rfl (fun K hK => ?_) AllReadyH.nil))
      ·skip
       go_simp
       obtain ⟨u3, hn1⟩ : ∃ v, v = u2.alloc (.cells #[.int .i64 0, .string ⟨#[]⟩] 50) := ⟨_, rfl⟩
       obtain ⟨b8, hbz⟩ : ∃ b, b = u2.heap.size := ⟨_, rfl⟩
       have hl : Below u2.heap.size u2 u3 := by rw [hn1]; exact (Below.refl _ _).alloc (Nat.le_refl _) _
       have HL := zh hl
       have HB3 := zh (then' HB2.out hl)
       have S0 := zh (show u3.heap[b8]? = some (.cells #[.int .i64 0, .string ⟨#[]⟩] 50 (0, 0)) from by rw [hn1, hbz]; exact heap_alloc_new _ _)
       have GE0 := zh (show V.heap.size ≤ b8 from by rw [hbz]; exact HB2.out.size)
       rw [← hn1, ← hbz]
       clear hn1 hbz hl
       refine hK.out _ _ (HT.out _ HB3.out) (fun hHeld => ?_)
       clear hK K HL
       try simp only [puts]
       refine rdy 15 rfl (fun K hK => ?_)
       go_simp
       obtain ⟨u4, hn1⟩ : ∃ v, v = u3.alloc (.cells #[.int .i64 0, .string ⟨#[]⟩] 50) := ⟨_, rfl⟩
       obtain ⟨b9, hbz⟩ : ∃ b, b = u3.heap.size := ⟨_, rfl⟩
       have hl : Below u3.heap.size u3 u4 := by rw [hn1]; exact (Below.refl _ _).alloc (Nat.le_refl _) _
       have HL := zh hl
       have HB4 := zh (then' HB3.out hl)
       have S1 := zh (show u4.heap[b9]? = some (.cells #[.int .i64 0, .string ⟨#[]⟩] 50 (0, 0)) from by rw [hn1, hbz]; exact heap_alloc_new _ _)
       have GE1 := zh (show V.heap.size ≤ b9 from by rw [hbz]; exact HB3.out.size)
       have N0_1 := zh (show b8 ≠ b9 from by rw [hbz]; have := blk_lt S0.out; omega)
       have N1_0 := zh (fun h => N0_1.out (Eq.symm h))
       have S0 := zh ((HL.out.block _ (blk_lt S0.out)).trans S0.out)
       rw [← hn1, ← hbz]
       clear hn1 hbz hl
       refine hK.out _ _ (HT.out _ HB4.out) (fun hHeld => ?_)
       clear hK K HL
       try simp only [puts]
       have ys := S0.out
       have y0 := cell_of_row _ _ 0 _ _ _ ys; have y1 := cell_of_row _ _ 1 _ _ _ ys
       have f0 := frozen_of_row _ _ 0 _ _ ys; have f1 := frozen_of_row _ _ 1 _ _ ys
       obtain ⟨u5, hV⟩ : ∃ v, v = (u4.setCell ⟨b8, 0, none⟩ (.int .i64 z1.1)).setCell ⟨b8, 1, none⟩ (.string ⟨z1.2.toArray⟩) := ⟨_, rfl⟩
       have HB5 := zh (show Below V.heap.size V u5 from by rw [hV]; exact set_below z1 HB4.out GE0.out)
       have T0 := zh (show u5.heap[b8]? = some (.cells (faC z1).toArray 50 (0, 0)) from by rw [hV]; exact fa_set z1 S0.out)
       have T1 := zh (show u5.heap[b9]? = some (.cells #[.int .i64 0, .string ⟨#[]⟩] 50 (0, 0)) from by rw [hV]; exact (set_other z1 N1_0.out).trans S1.out)
       clear ys
       refine rdy 16 rfl (fun K hK => ?_)
       go_simp
       rw [← hV]
       clear hV y0 y1 f0 f1
       refine hK.out _ _ (HT.out _ HB5.out) (fun hHeld => ?_)
       clear hK K
       try simp only [puts]
       clear S0
       have S0 := T0
       clear T0
       clear S1
       have S1 := T1
       clear T1
       have ys := S1.out
       have y0 := cell_of_row _ _ 0 _ _ _ ys; have y1 := cell_of_row _ _ 1 _ _ _ ys
       have f0 := frozen_of_row _ _ 0 _ _ ys; have f1 := frozen_of_row _ _ 1 _ _ ys
       obtain ⟨u6, hV⟩ : ∃ v, v = (u5.setCell ⟨b9, 0, none⟩ (.int .i64 z2.1)).setCell ⟨b9, 1, none⟩ (.string ⟨z2.2.toArray⟩) := ⟨_, rfl⟩
       have HB6 := zh (show Below V.heap.size V u6 from by rw [hV]; exact set_below z2 HB5.out GE1.out)
       have T0 := zh (show u6.heap[b8]? = some (.cells (faC z1).toArray 50 (0, 0)) from by rw [hV]; exact (set_other z2 N0_1.out).trans S0.out)
       have T1 := zh (show u6.heap[b9]? = some (.cells (faC z2).toArray 50 (0, 0)) from by rw [hV]; exact fa_set z2 S1.out)
       clear ys
       refine rdy 17 rfl (fun K hK => ?_)
       go_simp
       rw [← hV]
       clear hV y0 y1 f0 f1
       refine hK.out _ _ (HT.out _ HB6.out) (fun hHeld => ?_)
       clear hK K
       try simp only [puts]
       clear S0
       have S0 := T0
       clear T0
       clear S1
       have S1 := T1
       clear T1
       refine wpAnyH_done (by kernel_rfl) ?_ _
       exact ⟨b8, b9, _, _, _, _, _, _, _, _, _, _, _, _, _, _, _, _, _, _, _, _, _, _, _, _, _, _, _, _, _, _, _, _, _, _, _, _, _, _, _, _, _, _, _, _, _, _, _, _, _, _, _, _, _, _, _, _, _, _, _, _, _, _, _, _, _, _, _, _, _, _, _, _, _, _, _, rfl, S0.out, S1.out, ⟨by have := GE0.out; have := HL7.out; omega, by have := GE1.out; have := HL7.out; omega⟩, HB6.out⟩
      ·skip
       go_simp
       obtain ⟨u3, hn1⟩ : ∃ v, v = u2.alloc (.cells #[.int .i64 0, .string ⟨#[]⟩] 50) := ⟨_, rfl⟩
       obtain ⟨b9, hbz⟩ : ∃ b, b = u2.heap.size := ⟨_, rfl⟩
       have hl : Below u2.heap.size u2 u3 := by rw [hn1]; exact (Below.refl _ _).alloc (Nat.le_refl _) _
       have HL := zh hl
       have HB3 := zh (then' HB2.out hl)
       have S1 := zh (show u3.heap[b9]? = some (.cells #[.int .i64 0, .string ⟨#[]⟩] 50 (0, 0)) from by rw [hn1, hbz]; exact heap_alloc_new _ _)
       have GE1 := zh (show V.heap.size ≤ b9 from by rw [hbz]; exact HB2.out.size)
       rw [← hn1, ← hbz]
       clear hn1 hbz hl
       refine hK.out _ _ (HT.out _ HB3.out) (fun hHeld => ?_)
       clear hK K HL
       try simp only [puts]
       refine rdy 14 rfl (fun K hK => ?_)
       go_simp
       obtain ⟨u4, hn1⟩ : ∃ v, v = u3.alloc (.cells #[.int .i64 0, .string ⟨#[]⟩] 50) := ⟨_, rfl⟩
       obtain ⟨b8, hbz⟩ : ∃ b, b = u3.heap.size := ⟨_, rfl⟩
       have hl : Below u3.heap.size u3 u4 := by rw [hn1]; exact (Below.refl _ _).alloc (Nat.le_refl _) _
       have HL := zh hl
       have HB4 := zh (then' HB3.out hl)
       have S0 := zh (show u4.heap[b8]? = some (.cells #[.int .i64 0, .string ⟨#[]⟩] 50 (0, 0)) from by rw [hn1, hbz]; exact heap_alloc_new _ _)
       have GE0 := zh (show V.heap.size ≤ b8 from by rw [hbz]; exact HB3.out.size)
       have N1_0 := zh (show b9 ≠ b8 from by rw [hbz]; have := blk_lt S1.out; omega)
       have N0_1 := zh (fun h => N1_0.out (Eq.symm h))
       have S1 := zh ((HL.out.block _ (blk_lt S1.out)).trans S1.out)
       rw [← hn1, ← hbz]
       clear hn1 hbz hl
       refine hK.out _ _ (HT.out _ HB4.out) (fun hHeld => ?_)
       clear hK K HL
       try simp only [puts]
       have ys := S0.out
       have y0 := cell_of_row _ _ 0 _ _ _ ys; have y1 := cell_of_row _ _ 1 _ _ _ ys
       have f0 := frozen_of_row _ _ 0 _ _ ys; have f1 := frozen_of_row _ _ 1 _ _ ys
       obtain ⟨u5, hV⟩ : ∃ v, v = (u4.setCell ⟨b8, 0, none⟩ (.int .i64 z1.1)).setCell ⟨b8, 1, none⟩ (.string ⟨z1.2.toArray⟩) := ⟨_, rfl⟩
       have HB5 := zh (show Below V.heap.size V u5 from by rw [hV]; exact set_below z1 HB4.out GE0.out)
       have T0 := zh (show u5.heap[b8]? = some (.cells (faC z1).toArray 50 (0, 0)) from by rw [hV]; exact fa_set z1 S0.out)
       have T1 := zh (show u5.heap[b9]? = some (.cells #[.int .i64 0, .string ⟨#[]⟩] 50 (0, 0)) from by rw [hV]; exact (set_other z1 N1_0.out).trans S1.out)
       clear ys
       refine rdy 16 rfl (fun K hK => ?_)
       go_simp
       rw [← hV]
       clear hV y0 y1 f0 f1
       refine hK.out _ _ (HT.out _ HB5.out) (fun hHeld => ?_)
       clear hK K
       try simp only [puts]
       clear S0
       have S0 := T0
       clear T0
       clear S1
       have S1 := T1
       clear T1
       have ys := S1.out
       have y0 := cell_of_row _ _ 0 _ _ _ ys; have y1 := cell_of_row _ _ 1 _ _ _ ys
       have f0 := frozen_of_row _ _ 0 _ _ ys; have f1 := frozen_of_row _ _ 1 _ _ ys
       obtain ⟨u6, hV⟩ : ∃ v, v = (u5.setCell ⟨b9, 0, none⟩ (.int .i64 z2.1)).setCell ⟨b9, 1, none⟩ (.string ⟨z2.2.toArray⟩) := ⟨_, rfl⟩
       have HB6 := zh (show Below V.heap.size V u6 from by rw [hV]; exact set_below z2 HB5.out GE1.out)
       have T0 := zh (show u6.heap[b8]? = some (.cells (faC z1).toArray 50 (0, 0)) from by rw [hV]; exact (set_other z2 N0_1.out).trans S0.out)
       have T1 := zh (show u6.heap[b9]? = some (.cells (faC z2).toArray 50 (0, 0)) from by rw [hV]; exact fa_set z2 S1.out)
       clear ys
       refine rdy 17 rfl (fun K hK => ?_)
       go_simp
       rw [← hV]
       clear hV y0 y1 f0 f1
       refine hK.out _ _ (HT.out _ HB6.out) (fun hHeld => ?_)
       clear hK K
       try simp only [puts]
       clear S0
       have S0 := T0
       clear T0
       clear S1
       have S1 := T1
       clear T1
       refine wpAnyH_done (by kernel_rfl) ?_ _
       exact ⟨b8, b9, _, _, _, _, _, _, _, _, _, _, _, _, _, _, _, _, _, _, _, _, _, _, _, _, _, _, _, _, _, _, _, _, _, _, _, _, _, _, _, _, _, _, _, _, _, _, _, _, _, _, _, _, _, _, _, _, _, _, _, _, _, _, _, _, _, _, _, _, _, _, _, _, _, _, _, rfl, S0.out, S1.out, ⟨by have := GE0.out; have := HL7.out; omega, by have := GE1.out; have := HL7.out; omega⟩, HB6.out⟩
     ·skip
      go_simp
      obtain ⟨u2, hn1⟩ : ∃ v, v = u1.alloc (.cells #[.int .i64 0, .string ⟨#[]⟩] 50) := ⟨_, rfl⟩
      obtain ⟨b8, hbz⟩ : ∃ b, b = u1.heap.size := ⟨_, rfl⟩
      have hl : Below u1.heap.size u1 u2 := by rw [hn1]; exact (Below.refl _ _).alloc (Nat.le_refl _) _
      have HL := zh hl
      have HB2 := zh (then' HB1.out hl)
      have S0 := zh (show u2.heap[b8]? = some (.cells #[.int .i64 0, .string ⟨#[]⟩] 50 (0, 0)) from by rw [hn1, hbz]; exact heap_alloc_new _ _)
      have GE0 := zh (show V.heap.size ≤ b8 from by rw [hbz]; exact HB1.out.size)
      rw [← hn1, ← hbz]
      clear hn1 hbz hl
      refine hK.out _ _ (HT.out _ HB2.out) (fun hHeld => ?_)
      clear hK K HL
      try simp only [puts]
      refine wpAnyH_ready (rs := [13, 15]) (by kernel_rfl) (by simp) (AllReadyH.cons rfl (fun K hK => ?_) (AllReadyH.cons rfl (fun K hK => ?_) AllReadyH.nil))
      ·skip
       go_simp
       refine (HN2.out u2 (HKV.out.trans (HB2.out.mono HKV.out.size))).mono ?_
       rintro e u3 ⟨rfl, hb⟩
       have HL := zh (show Below u2.heap.size u2 u3 from hb)
       have HB3 := zh (then' HB2.out hb)
       clear hb
       have S0 := zh ((HL.out.block _ (blk_lt S0.out)).trans S0.out)
       go_wp2_with fail
       refine hK.out _ _ (HT.out _ HB3.out) (fun hHeld => ?_)
       clear hK K HL
       try simp only [puts]
       refine rdy 15 rfl (fun K hK => ?_)
       go_simp
       obtain ⟨u4, hn1⟩ : ∃ v, v = u3.alloc (.cells #[.int .i64 0, .string ⟨#[]⟩] 50) := ⟨_, rfl⟩
       obtain ⟨b9, hbz⟩ : ∃ b, b = u3.heap.size := ⟨_, rfl⟩
       have hl : Below u3.heap.size u3 u4 := by rw [hn1]; exact (Below.refl _ _).alloc (Nat.le_refl _) _
       have HL := zh hl
       have HB4 := zh (then' HB3.out hl)
       have S1 := zh (show u4.heap[b9]? = some (.cells #[.int .i64 0, .string ⟨#[]⟩] 50 (0, 0)) from by rw [hn1, hbz]; exact heap_alloc_new _ _)
       have GE1 := zh (show V.heap.size ≤ b9 from by rw [hbz]; exact HB3.out.size)
       have N0_1 := zh (show b8 ≠ b9 from by rw [hbz]; have := blk_lt S0.out; omega)
       have N1_0 := zh (fun h => N0_1.out (Eq.symm h))
       have S0 := zh ((HL.out.block _ (blk_lt S0.out)).trans S0.out)
       rw [← hn1, ← hbz]
       clear hn1 hbz hl
       refine hK.out _ _ (HT.out _ HB4.out) (fun hHeld => ?_)
       clear hK K HL
       try simp only [puts]
       have ys := S0.out
       have y0 := cell_of_row _ _ 0 _ _ _ ys; have y1 := cell_of_row _ _ 1 _ _ _ ys
       have f0 := frozen_of_row _ _ 0 _ _ ys; have f1 := frozen_of_row _ _ 1 _ _ ys
       obtain ⟨u5, hV⟩ : ∃ v, v = (u4.setCell ⟨b8, 0, none⟩ (.int .i64 z1.1)).setCell ⟨b8, 1, none⟩ (.string ⟨z1.2.toArray⟩) := ⟨_, rfl⟩
       have HB5 := zh (show Below V.heap.size V u5 from by rw [hV]; exact set_below z1 HB4.out GE0.out)
       have T0 := zh (show u5.heap[b8]? = some (.cells (faC z1).toArray 50 (0, 0)) from by rw [hV]; exact fa_set z1 S0.out)
       have T1 := zh (show u5.heap[b9]? = some (.cells #[.int .i64 0, .string ⟨#[]⟩] 50 (0, 0)) from by rw [hV]; exact (set_other z1 N1_0.out).trans S1.out)
       clear ys
       refine rdy 16 rfl (fun K hK => ?_)
       go_simp
       rw [← hV]
       clear hV y0 y1 f0 f1
       refine hK.out _ _ (HT.out _ HB5.out) (fun hHeld => ?_)
       clear hK K
       try simp only [puts]
       clear S0
       have S0 := T0
       clear T0
       clear S1
       have S1 := T1
       clear T1
       have ys := S1.out
       have y0 := cell_of_row _ _ 0 _ _ _ ys; have y1 := cell_of_row _ _ 1 _ _ _ ys
       have f0 := frozen_of_row _ _ 0 _ _ ys; have f1 := frozen_of_row _ _ 1 _ _ ys
       obtain ⟨u6, hV⟩ : ∃ v, v = (u5.setCell ⟨b9, 0, none⟩ (.int .i64 z2.1)).setCell ⟨b9, 1, none⟩ (.string ⟨z2.2.toArray⟩) := ⟨_, rfl⟩
       have HB6 := zh (show Below V.heap.size V u6 from by rw [hV]; exact set_below z2 HB5.out GE1.out)
       have T0 := zh (show u6.heap[b8]? = some (.cells (faC z1).toArray 50 (0, 0)) from by rw [hV]; exact (set_other z2 N0_1.out).trans S0.out)
       have T1 := zh (show u6.heap[b9]? = some (.cells (faC z2).toArray 50 (0, 0)) from by rw [hV]; exact fa_set z2 S1.out)
       clear ys
       refine rdy 17 rfl (fun K hK => ?_)
       go_simp
       rw [← hV]
       clear hV y0 y1 f0 f1
       refine hK.out _ _ (HT.out _ HB6.out) (fun hHeld => ?_)
       clear hK K
       try simp only [puts]
       clear S0
       have S0 := T0
       clear T0
       clear S1
       have S1 := T1
       clear T1
       refine wpAnyH_done (by kernel_rfl) ?_ _
       exact ⟨b8, b9, _, _, _, _, _, _, _, _, _, _, _, _, _, _, _, _, _, _, _, _, _, _, _, _, _, _, _, _, _, _, _, _, _, _, _, _, _, _, _, _, _, _, _, _, _, _, _, _, _, _, _, _, _, _, _, _, _, _, _, _, _, _, _, _, _, _, _, _, _, _, _, _, _, _, _, rfl, S0.out, S1.out, ⟨by have := GE0.out; have := HL7.out; omega, by have := GE1.out; have := HL7.out; omega⟩, HB6.out⟩
      ·skip
       go_simp
       obtain ⟨u3, hn1⟩ : ∃ v, v = u2.alloc (.cells #[.int .i64 0, .string ⟨#[]⟩] 50) := ⟨_, rfl⟩
       obtain ⟨b9, hbz⟩ : ∃ b, b = u2.heap.size := ⟨_, rfl⟩
       have hl : Below u2.heap.size u2 u3 := by rw [hn1]; exact (Below.refl _ _).alloc (Nat.le_refl _) _
       have HL := zh hl
       have HB3 := zh (then' HB2.out hl)
       have S1 := zh (show u3.heap[b9]? = some (.cells #[.int .i64 0, .string ⟨#[]⟩] 50 (0, 0)) from by rw [hn1, hbz]; exact heap_alloc_new _ _)
       have GE1 := zh (show V.heap.size ≤ b9 from by rw [hbz]; exact HB2.out.size)
       have N0_1 := zh (show b8 ≠ b9 from by rw [hbz]; have := blk_lt S0.out; omega)
       have N1_0 := zh (fun h => N0_1.out (Eq.symm h))
       have S0 := zh ((HL.out.block _ (blk_lt S0.out)).trans S0.out)
       rw [← hn1, ← hbz]
       clear hn1 hbz hl
       refine hK.out _ _ (HT.out _ HB3.out) (fun hHeld => ?_)
       clear hK K HL
       try simp only [puts]
       refine rdy 13 rfl (fun K hK => ?_)
       go_simp
       refine (HN2.out u3 (HKV.out.trans (HB3.out.mono HKV.out.size))).mono ?_
       rintro e u4 ⟨rfl, hb⟩
       have HL := zh (show Below u3.heap.size u3 u4 from hb)
       have HB4 := zh (then' HB3.out hb)
       clear hb
       have S0 := zh ((HL.out.block _ (blk_lt S0.out)).trans S0.out)
       have S1 := zh ((HL.out.block _ (blk_lt S1.out)).trans S1.out)
       go_wp2_with fail
       refine hK.out _ _ (HT.out _ HB4.out) (fun hHeld => ?_)
       clear hK K HL
       try simp only [puts]
       have ys := S0.out
       have y0 := cell_of_row _ _ 0 _ _ _ ys; have y1 := cell_of_row _ _ 1 _ _ _ ys
       have f0 := frozen_of_row _ _ 0 _ _ ys; have f1 := frozen_of_row _ _ 1 _ _ ys
       obtain ⟨u5, hV⟩ : ∃ v, v = (u4.setCell ⟨b8, 0, none⟩ (.int .i64 z1.1)).setCell ⟨b8, 1, none⟩ (.string ⟨z1.2.toArray⟩) := ⟨_, rfl⟩
       have HB5 := zh (show Below V.heap.size V u5 from by rw [hV]; exact set_below z1 HB4.out GE0.out)
       have T0 := zh (show u5.heap[b8]? = some (.cells (faC z1).toArray 50 (0, 0)) from by rw [hV]; exact fa_set z1 S0.out)
       have T1 := zh (show u5.heap[b9]? = some (.cells #[.int .i64 0, .string ⟨#[]⟩] 50 (0, 0)) from by rw [hV]; exact (set_other z1 N1_0.out).trans S1.out)
       clear ys
       refine rdy 16 rfl (fun K hK => ?_)
       go_simp
       rw [← hV]
       clear hV y0 y1 f0 f1
       refine hK.out _ _ (HT.out _ HB5.out) (fun hHeld => ?_)
       clear hK K
       try simp only [puts]
       clear S0
       have S0 := T0
       clear T0
       clear S1
       have S1 := T1
       clear T1
       have ys := S1.out
       have y0 := cell_of_row _ _ 0 _ _ _ ys; have y1 := cell_of_row _ _ 1 _ _ _ ys
       have f0 := frozen_of_row _ _ 0 _ _ ys; have f1 := frozen_of_row _ _ 1 _ _ ys
       obtain ⟨u6, hV⟩ : ∃ v, v = (u5.setCell ⟨b9, 0, none⟩ (.int .i64 z2.1)).setCell ⟨b9, 1, none⟩ (.string ⟨z2.2.toArray⟩) := ⟨_, rfl⟩
       have HB6 := zh (show Below V.heap.size V u6 from by rw [hV]; exact set_below z2 HB5.out GE1.out)
       have T0 := zh (show u6.heap[b8]? = some (.cells (faC z1).toArray 50 (0, 0)) from by rw [hV]; exact (set_other z2 N0_1.out).trans S0.out)
       have T1 := zh (show u6.heap[b9]? = some (.cells (faC z2).toArray 50 (0, 0)) from by rw [hV]; exact fa_set z2 S1.out)
       clear ys
       refine rdy 17 rfl (fun K hK => ?_)
       go_simp
       rw [← hV]
       clear hV y0 y1 f0 f1
       refine hK.out _ _ (HT.out _ HB6.out) (fun hHeld => ?_)
       clear hK K
       try simp only [puts]
       clear S0
       have S0 := T0
       clear T0
       clear S1
       have S1 := T1
       clear T1
       refine wpAnyH_done (by kernel_rfl) ?_ _
       exact ⟨b8, b9, _, _, _, _, _, _, _, _, _, _, _, _, _, _, _, _, _, _, _, _, _, _, _, _, _, _, _, _, _, _, _, _, _, _, _, _, _, _, _, _, _, _, _, _, _, _, _, _, _, _, _, _, _, _, _, _, _, _, _, _, _, _, _, _, _, _, _, _, _, _, _, _, _, _, _, rfl, S0.out, S1.out, ⟨by have := GE0.out; have := HL7.out; omega, by have := GE1.out; have := HL7.out; omega⟩, HB6.out⟩
     ·skip
      go_simp
      obtain ⟨u2, hn1⟩ : ∃ v, v = u1.alloc (.cells #[.int .i64 0, .string ⟨#[]⟩] 50) := ⟨_, rfl⟩
      obtain ⟨b9, hbz⟩ : ∃ b, b = u1.heap.size := ⟨_, rfl⟩
      have hl : Below u1.heap.size u1 u2 := by rw [hn1]; exact (Below.refl _ _).alloc (Nat.le_refl _) _
      have HL := zh hl
      have HB2 := zh (then' HB1.out hl)
      have S1 := zh (show u2.heap[b9]? = some (.cells #[.int .i64 0, .string ⟨#[]⟩] 50 (0, 0)) from by rw [hn1, hbz]; exact heap_alloc_new _ _)
      have GE1 := zh (show V.heap.size ≤ b9 from by rw [hbz]; exact HB1.out.size)
      rw [← hn1, ← hbz]
      clear hn1 hbz hl
      refine hK.out _ _ (HT.out _ HB2.out) (fun hHeld => ?_)
      clear hK K HL
      try simp only [puts]
      refine wpAnyH_ready (rs := [13, 14]) (by kernel_rfl) (by simp) (AllReadyH.cons rfl (fun K hK => ?_) (AllReadyH.cons rfl (fun K hK => ?_) AllReadyH.nil))
      ·skip
       go_simp
       refine (HN2.out u2 (HKV.out.trans (HB2.out.mono HKV.out.size))).mono ?_
       rintro e u3 ⟨rfl, hb⟩
       have HL := zh (show Below u2.heap.size u2 u3 from hb)
       have HB3 := zh (then' HB2.out hb)
       clear hb
       have S1 := zh ((HL.out.block _ (blk_lt S1.out)).trans S1.out)
       go_wp2_with fail
       refine hK.out _ _ (HT.out _ HB3.out) (fun hHeld => ?_)
       clear hK K HL
       try simp only [puts]
       refine rdy 14 rfl (fun K hK => ?_)
       go_simp
       obtain ⟨u4, hn1⟩ : ∃ v, v = u3.alloc (.cells #[.int .i64 0, .string ⟨#[]⟩] 50) := ⟨_, rfl⟩
       obtain ⟨b8, hbz⟩ : ∃ b, b = u3.heap.size := ⟨_, rfl⟩
       have hl : Below u3.heap.size u3 u4 := by rw [hn1]; exact (Below.refl _ _).alloc (Nat.le_refl _) _
       have HL := zh hl
       have HB4 := zh (then' HB3.out hl)
       have S0 := zh (show u4.heap[b8]? = some (.cells #[.int .i64 0, .string ⟨#[]⟩] 50 (0, 0)) from by rw [hn1, hbz]; exact heap_alloc_new _ _)
       have GE0 := zh (show V.heap.size ≤ b8 from by rw [hbz]; exact HB3.out.size)
       have N1_0 := zh (show b9 ≠ b8 from by rw [hbz]; have := blk_lt S1.out; omega)
       have N0_1 := zh (fun h => N1_0.out (Eq.symm h))
       have S1 := zh ((HL.out.block _ (blk_lt S1.out)).trans S1.out)
       rw [← hn1, ← hbz]
       clear hn1 hbz hl
       refine hK.out _ _ (HT.out _ HB4.out) (fun hHeld => ?_)
       clear hK K HL
       try simp only [puts]
       have ys := S0.out
       have y0 := cell_of_row _ _ 0 _ _ _ ys; have y1 := cell_of_row _ _ 1 _ _ _ ys
       have f0 := frozen_of_row _ _ 0 _ _ ys; have f1 := frozen_of_row _ _ 1 _ _ ys
       obtain ⟨u5, hV⟩ : ∃ v, v = (u4.setCell ⟨b8, 0, none⟩ (.int .i64 z1.1)).setCell ⟨b8, 1, none⟩ (.string ⟨z1.2.toArray⟩) := ⟨_, rfl⟩
       have HB5 := zh (show Below V.heap.size V u5 from by rw [hV]; exact set_below z1 HB4.out GE0.out)
       have T0 := zh (show u5.heap[b8]? = some (.cells (faC z1).toArray 50 (0, 0)) from by rw [hV]; exact fa_set z1 S0.out)
       have T1 := zh (show u5.heap[b9]? = some (.cells #[.int .i64 0, .string ⟨#[]⟩] 50 (0, 0)) from by rw [hV]; exact (set_other z1 N1_0.out).trans S1.out)
       clear ys
       refine rdy 16 rfl (fun K hK => ?_)
       go_simp
       rw [← hV]
       clear hV y0 y1 f0 f1
       refine hK.out _ _ (HT.out _ HB5.out) (fun hHeld => ?_)
       clear hK K
       try simp only [puts]
       clear S0
       have S0 := T0
       clear T0
       clear S1
       have S1 := T1
       clear T1
       have ys := S1.out
       have y0 := cell_of_row _ _ 0 _ _ _ ys; have y1 := cell_of_row _ _ 1 _ _ _ ys
       have f0 := frozen_of_row _ _ 0 _ _ ys; have f1 := frozen_of_row _ _ 1 _ _ ys
       obtain ⟨u6, hV⟩ : ∃ v, v = (u5.setCell ⟨b9, 0, none⟩ (.int .i64 z2.1)).setCell ⟨b9, 1, none⟩ (.string ⟨z2.2.toArray⟩) := ⟨_, rfl⟩
       have HB6 := zh (show Below V.heap.size V u6 from by rw [hV]; exact set_below z2 HB5.out GE1.out)
       have T0 := zh (show u6.heap[b8]? = some (.cells (faC z1).toArray 50 (0, 0)) from by rw [hV]; exact (set_other z2 N0_1.out).trans S0.out)
       have T1 := zh (show u6.heap[b9]? = some (.cells (faC z2).toArray 50 (0, 0)) from by rw [hV]; exact fa_set z2 S1.out)
       clear ys
       refine rdy 17 rfl (fun K hK => ?_)
       go_simp
       rw [← hV]
       clear hV y0 y1 f0 f1
       refine hK.out _ _ (HT.out _ HB6.out) (fun hHeld => ?_)
       clear hK K
       try simp only [puts]
       clear S0
       have S0 := T0
       clear T0
       clear S1
       have S1 := T1
       clear T1
       refine wpAnyH_done (by kernel_rfl) ?_ _
       exact ⟨b8, b9, _, _, _, _, _, _, _, _, _, _, _, _, _, _, _, _, _, _, _, _, _, _, _, _, _, _, _, _, _, _, _, _, _, _, _, _, _, _, _, _, _, _, _, _, _, _, _, _, _, _, _, _, _, _, _, _, _, _, _, _, _, _, _, _, _, _, _, _, _, _, _, _, _, _, _, rfl, S0.out, S1.out, ⟨by have := GE0.out; have := HL7.out; omega, by have := GE1.out; have := HL7.out; omega⟩, HB6.out⟩
      ·skip
       go_simp
       obtain ⟨u3, hn1⟩ : ∃ v, v = u2.alloc (.cells #[.int .i64 0, .string ⟨#[]⟩] 50) := ⟨_, rfl⟩
       obtain ⟨b8, hbz⟩ : ∃ b, b = u2.heap.size := ⟨_, rfl⟩
       have hl : Below u2.heap.size u2 u3 := by rw [hn1]; exact (Below.refl _ _).alloc (Nat.le_refl _) _
       have HL := zh hl
       have HB3 := zh (then' HB2.out hl)
       have S0 := zh (show u3.heap[b8]? = some (.cells #[.int .i64 0, .string ⟨#[]⟩] 50 (0, 0)) from by rw [hn1, hbz]; exact heap_alloc_new _ _)
       have GE0 := zh (show V.heap.size ≤ b8 from by rw [hbz]; exact HB2.out.size)
       have N1_0 := zh (show b9 ≠ b8 from by rw [hbz]; have := blk_lt S1.out; omega)
       have N0_1 := zh (fun h => N1_0.out (Eq.symm h))
       have S1 := zh ((HL.out.block _ (blk_lt S1.out)).trans S1.out)
       rw [← hn1, ← hbz]
       clear hn1 hbz hl
       refine hK.out _ _ (HT.out _ HB3.out) (fun hHeld => ?_)
       clear hK K HL
       try simp only [puts]
       refine rdy 13 rfl (fun K hK => ?_)
       go_simp
       refine (HN2.out u3 (HKV.out.trans (HB3.out.mono HKV.out.size))).mono ?_
       rintro e u4 ⟨rfl, hb⟩
       have HL := zh (show Below u3.heap.size u3 u4 from hb)
       have HB4 := zh (then' HB3.out hb)
       clear hb
       have S1 := zh ((HL.out.block _ (blk_lt S1.out)).trans S1.out)
       have S0 := zh ((HL.out.block _ (blk_lt S0.out)).trans S0.out)
       go_wp2_with fail
       refine hK.out _ _ (HT.out _ HB4.out) (fun hHeld => ?_)
       clear hK K HL
       try simp only [puts]
       have ys := S0.out
       have y0 := cell_of_row _ _ 0 _ _ _ ys; have y1 := cell_of_row _ _ 1 _ _ _ ys
       have f0 := frozen_of_row _ _ 0 _ _ ys; have f1 := frozen_of_row _ _ 1 _ _ ys
       obtain ⟨u5, hV⟩ : ∃ v, v = (u4.setCell ⟨b8, 0, none⟩ (.int .i64 z1.1)).setCell ⟨b8, 1, none⟩ (.string ⟨z1.2.toArray⟩) := ⟨_, rfl⟩
       have HB5 := zh (show Below V.heap.size V u5 from by rw [hV]; exact set_below z1 HB4.out GE0.out)
       have T0 := zh (show u5.heap[b8]? = some (.cells (faC z1).toArray 50 (0, 0)) from by rw [hV]; exact fa_set z1 S0.out)
       have T1 := zh (show u5.heap[b9]? = some (.cells #[.int .i64 0, .string ⟨#[]⟩] 50 (0, 0)) from by rw [hV]; exact (set_other z1 N1_0.out).trans S1.out)
       clear ys
       refine rdy 16 rfl (fun K hK => ?_)
       go_simp
       rw [← hV]
       clear hV y0 y1 f0 f1
       refine hK.out _ _ (HT.out _ HB5.out) (fun hHeld => ?_)
       clear hK K
       try simp only [puts]
       clear S0
       have S0 := T0
       clear T0
       clear S1
       have S1 := T1
       clear T1
       have ys := S1.out
       have y0 := cell_of_row _ _ 0 _ _ _ ys; have y1 := cell_of_row _ _ 1 _ _ _ ys
       have f0 := frozen_of_row _ _ 0 _ _ ys; have f1 := frozen_of_row _ _ 1 _ _ ys
       obtain ⟨u6, hV⟩ : ∃ v, v = (u5.setCell ⟨b9, 0, none⟩ (.int .i64 z2.1)).setCell ⟨b9, 1, none⟩ (.string ⟨z2.2.toArray⟩) := ⟨_, rfl⟩
       have HB6 := zh (show Below V.heap.size V u6 from by rw [hV]; exact set_below z2 HB5.out GE1.out)
       have T0 := zh (show u6.heap[b8]? = some (.cells (faC z1).toArray 50 (0, 0)) from by rw [hV]; exact (set_other z2 N0_1.out).trans S0.out)
       have T1 := zh (show u6.heap[b9]? = some (.cells (faC z2).toArray 50 (0, 0)) from by rw [hV]; exact fa_set z2 S1.out)
       clear ys
       refine rdy 17 rfl (fun K hK => ?_)
       go_simp
       rw [← hV]
       clear hV y0 y1 f0 f1
       refine hK.out _ _ (HT.out _ HB6.out) (fun hHeld => ?_)
       clear hK K
       try simp only [puts]
       clear S0
       have S0 := T0
       clear T0
       clear S1
       have S1 := T1
       clear T1
       refine wpAnyH_done (by kernel_rfl) ?_ _
       exact ⟨b8, b9, _, _, _, _, _, _, _, _, _, _, _, _, _, _, _, _, _, _, _, _, _, _, _, _, _, _, _, _, _, _, _, _, _, _, _, _, _, _, _, _, _, _, _, _, _, _, _, _, _, _, _, _, _, _, _, _, _, _, _, _, _, _, _, _, _, _, _, _, _, _, _, _, _, _, _, rfl, S0.out, S1.out, ⟨by have := GE0.out; have := HL7.out; omega, by have := GE1.out; have := HL7.out; omega⟩, HB6.out⟩
    ·skip
     go_simp
     obtain ⟨u1, hn1⟩ : ∃ v, v = u0.alloc (.cells #[.int .i64 0, .string ⟨#[]⟩] 50) := ⟨_, rfl⟩
     obtain ⟨b8, hbz⟩ : ∃ b, b = u0.heap.size := ⟨_, rfl⟩
     have hl : Below u0.heap.size u0 u1 := by rw [hn1]; exact (Below.refl _ _).alloc (Nat.le_refl _) _
     have HL := zh hl
     have HB1 := zh (then' HB0.out hl)
     have S0 := zh (show u1.heap[b8]? = some (.cells #[.int .i64 0, .string ⟨#[]⟩] 50 (0, 0)) from by rw [hn1, hbz]; exact heap_alloc_new _ _)
     have GE0 := zh (show V.heap.size ≤ b8 from by rw [hbz]; exact HB0.out.size)
     rw [← hn1, ← hbz]
     clear hn1 hbz hl
     refine hK.out _ _ (HT.out _ HB1.out) (fun hHeld => ?_)
     clear hK K HL
     try simp only [puts]
     refine wpAnyH_ready (rs := [6, 15]) (by kernel_rfl) (by simp) (AllReadyH.cons rfl (fun K hK => ?_) (AllReadyH.cons rfl (fun K hK => ?_) AllReadyH.nil))
     ·skip
      go_simp
      refine (HN1.out u1 (HKV.out.trans (HB1.out.mono HKV.out.size))).mono ?_
      rintro e u2 ⟨rfl, hb⟩
      have HL := zh (show Below u1.heap.size u1 u2 from hb)
      have HB2 := zh (then' HB1.out hb)
      clear hb
      have S0 := zh ((HL.out.block _ (blk_lt S0.out)).trans S0.out)
      go_wp2_with fail
      refine hK.out _ _ (HT.out _ HB2.out) (fun hHeld => ?_)
      clear hK K HL
      try simp only [puts]
      refine wpAnyH_ready (rs := [13, 15]) (by kernel_rfl) (by simp) (AllReadyH.cons rfl (fun K hK => ?_) (AllReadyH.cons rfl (fun K hK => ?_) AllReadyH.nil))
      ·skip
       go_simp
       refine (HN2.out u2 (HKV.out.trans (HB2.out.mono HKV.out.size))).mono ?_
       rintro e u3 ⟨rfl, hb⟩
       have HL := zh (show Below u2.heap.size u2 u3 from hb)
       have HB3 := zh (then' HB2.out hb)
       clear hb
       have S0 := zh ((HL.out.block _ (blk_lt S0.out)).trans S0.out)
       go_wp2_with fail
       refine hK.out _ _ (HT.out _ HB3.out) (fun hHeld => ?_)
       clear hK K HL
       try simp only [puts]
       refine rdy 15 rfl (fun K hK => ?_)
       go_simp
       obtain ⟨u4, hn1⟩ : ∃ v, v = u3.alloc (.cells #[.int .i64 0, .string ⟨#[]⟩] 50) := ⟨_, rfl⟩
       obtain ⟨b9, hbz⟩ : ∃ b, b = u3.heap.size := ⟨_, rfl⟩
       have hl : Below u3.heap.size u3 u4 := by rw [hn1]; exact (Below.refl _ _).alloc (Nat.le_refl _) _
       have HL := zh hl
       have HB4 := zh (then' HB3.out hl)
       have S1 := zh (show u4.heap[b9]? = some (.cells #[.int .i64 0, .string ⟨#[]⟩] 50 (0, 0)) from by rw [hn1, hbz]; exact heap_alloc_new _ _)
       have GE1 := zh (show V.heap.size ≤ b9 from by rw [hbz]; exact HB3.out.size)
       have N0_1 := zh (show b8 ≠ b9 from by rw [hbz]; have := blk_lt S0.out; omega)
       have N1_0 := zh (fun h => N0_1.out (Eq.symm h))
       have S0 := zh ((HL.out.block _ (blk_lt S0.out)).trans S0.out)
       rw [← hn1, ← hbz]
       clear hn1 hbz hl
       refine hK.out _ _ (HT.out _ HB4.out) (fun hHeld => ?_)
       clear hK K HL
       try simp only [puts]
       have ys := S0.out
       have y0 := cell_of_row _ _ 0 _ _ _ ys; have y1 := cell_of_row _ _ 1 _ _ _ ys
       have f0 := frozen_of_row _ _ 0 _ _ ys; have f1 := frozen_of_row _ _ 1 _ _ ys
       obtain ⟨u5, hV⟩ : ∃ v, v = (u4.setCell ⟨b8, 0, none⟩ (.int .i64 z1.1)).setCell ⟨b8, 1, none⟩ (.string ⟨z1.2.toArray⟩) := ⟨_, rfl⟩
       have HB5 := zh (show Below V.heap.size V u5 from by rw [hV]; exact set_below z1 HB4.out GE0.out)
       have T0 := zh (show u5.heap[b8]? = some (.cells (faC z1).toArray 50 (0, 0)) from by rw [hV]; exact fa_set z1 S0.out)
       have T1 := zh (show u5.heap[b9]? = some (.cells #[.int .i64 0, .string ⟨#[]⟩] 50 (0, 0)) from by rw [hV]; exact (set_other z1 N1_0.out).trans S1.out)
       clear ys
       refine rdy 16 rfl (fun K hK => ?_)
       go_simp
       rw [← hV]
       clear hV y0 y1 f0 f1
       refine hK.out _ _ (HT.out _ HB5.out) (fun hHeld => ?_)
       clear hK K
       try simp only [puts]
       clear S0
       have S0 := T0
       clear T0
       clear S1
       have S1 := T1
       clear T1
       have ys := S1.out
       have y0 := cell_of_row _ _ 0 _ _ _ ys; have y1 := cell_of_row _ _ 1 _ _ _ ys
       have f0 := frozen_of_row _ _ 0 _ _ ys; have f1 := frozen_of_row _ _ 1 _ _ ys
       obtain ⟨u6, hV⟩ : ∃ v, v = (u5.setCell ⟨b9, 0, none⟩ (.int .i64 z2.1)).setCell ⟨b9, 1, none⟩ (.string ⟨z2.2.toArray⟩) := ⟨_, rfl⟩
       have HB6 := zh (show Below V.heap.size V u6 from by rw [hV]; exact set_below z2 HB5.out GE1.out)
       have T0 := zh (show u6.heap[b8]? = some (.cells (faC z1).toArray 50 (0, 0)) from by rw [hV]; exact (set_other z2 N0_1.out).trans S0.out)
       have T1 := zh (show u6.heap[b9]? = some (.cells (faC z2).toArray 50 (0, 0)) from by rw [hV]; exact fa_set z2 S1.out)
       clear ys
       refine rdy 17 rfl (fun K hK => ?_)
       go_simp
       rw [← hV]
       clear hV y0 y1 f0 f1
       refine hK.out _ _ (HT.out _ HB6.out) (fun hHeld => ?_)
       clear hK K
       try simp only [puts]
       clear S0
       have S0 := T0
       clear T0
       clear S1
       have S1 := T1
       clear T1
       refine wpAnyH_done (by kernel_rfl) ?_ _
       exact ⟨b8, b9, _, _, _, _, _, _, _, _, _, _, _, _, _, _, _, _, _, _, _, _, _, _, _, _, _, _, _, _, _, _, _, _, _, _, _, _, _, _, _, _, _, _, _, _, _, _, _, _, _, _, _, _, _, _, _, _, _, _, _, _, _, _, _, _, _, _, _, _, _, _, _, _, _, _, _, rfl, S0.out, S1.out, ⟨by have := GE0.out; have := HL7.out; omega, by have := GE1.out; have := HL7.out; omega⟩, HB6.out⟩
      ·skip
       go_simp
       obtain ⟨u3, hn1⟩ : ∃ v, v = u2.alloc (.cells #[.int .i64 0, .string ⟨#[]⟩] 50) := ⟨_, rfl⟩
       obtain ⟨b9, hbz⟩ : ∃ b, b = u2.heap.size := ⟨_, rfl⟩
       have hl : Below u2.heap.size u2 u3 := by rw [hn1]; exact (Below.refl _ _).alloc (Nat.le_refl _) _
       have HL := zh hl
       have HB3 := zh (then' HB2.out hl)
       have S1 := zh (show u3.heap[b9]? = some (.cells #[.int .i64 0, .string ⟨#[]⟩] 50 (0, 0)) from by rw [hn1, hbz]; exact heap_alloc_new _ _)
       have GE1 := zh (show V.heap.size ≤ b9 from by rw [hbz]; exact HB2.out.size)
       have N0_1 := zh (show b8 ≠ b9 from by rw [hbz]; have := blk_lt S0.out; omega)
       have N1_0 := zh (fun h => N0_1.out (Eq.symm h))
       have S0 := zh ((HL.out.block _ (blk_lt S0.out)).trans S0.out)
       rw [← hn1, ← hbz]
       clear hn1 hbz hl
       refine hK.out _ _ (HT.out _ HB3.out) (fun hHeld => ?_)
       clear hK K HL
       try simp only [puts]
       refine rdy 13 rfl (fun K hK => ?_)
       go_simp
       refine (HN2.out u3 (HKV.out.trans (HB3.out.mono HKV.out.size))).mono ?_
       rintro e u4 ⟨rfl, hb⟩
       have HL := zh (show Below u3.heap.size u3 u4 from hb)
       have HB4 := zh (then' HB3.out hb)
       clear hb
       have S0 := zh ((HL.out.block _ (blk_lt S0.out)).trans S0.out)
       have S1 := zh ((HL.out.block _ (blk_lt S1.out)).trans S1.out)
       go_wp2_with fail
       refine hK.out _ _ (HT.out _ HB4.out) (fun hHeld => ?_)
       clear hK K HL
       try simp only [puts]
       have ys := S0.out
       have y0 := cell_of_row _ _ 0 _ _ _ ys; have y1 := cell_of_row _ _ 1 _ _ _ ys
       have f0 := frozen_of_row _ _ 0 _ _ ys; have f1 := frozen_of_row _ _ 1 _ _ ys
       obtain ⟨u5, hV⟩ : ∃ v, v = (u4.setCell ⟨b8, 0, none⟩ (.int .i64 z1.1)).setCell ⟨b8, 1, none⟩ (.string ⟨z1.2.toArray⟩) := ⟨_, rfl⟩
       have HB5 := zh (show Below V.heap.size V u5 from by rw [hV]; exact set_below z1 HB4.out GE0.out)
       have T0 := zh (show u5.heap[b8]? = some (.cells (faC z1).toArray 50 (0, 0)) from by rw [hV]; exact fa_set z1 S0.out)
       have T1 := zh (show u5.heap[b9]? = some (.cells #[.int .i64 0, .string ⟨#[]⟩] 50 (0, 0)) from by rw [hV]; exact (set_other z1 N1_0.out).trans S1.out)
       clear ys
       refine rdy 16 rfl (fun K hK => ?_)
       go_simp
       rw [← hV]
       clear hV y0 y1 f0 f1
       refine hK.out _ _ (HT.out _ HB5.out) (fun hHeld => ?_)
       clear hK K
       try simp only [puts]
       clear S0
       have S0 := T0
       clear T0
       clear S1
       have S1 := T1
       clear T1
       have ys := S1.out
       have y0 := cell_of_row _ _ 0 _ _ _ ys; have y1 := cell_of_row _ _ 1 _ _ _ ys
       have f0 := frozen_of_row _ _ 0 _ _ ys; have f1 := frozen_of_row _ _ 1 _ _ ys
       obtain ⟨u6, hV⟩ : ∃ v, v = (u5.setCell ⟨b9, 0, none⟩ (.int .i64 z2.1)).setCell ⟨b9, 1, none⟩ (.string ⟨z2.2.toArray⟩) := ⟨_, rfl⟩
       have HB6 := zh (show Below V.heap.size V u6 from by rw [hV]; exact set_below z2 HB5.out GE1.out)
       have T0 := zh (show u6.heap[b8]? = some (.cells (faC z1).toArray 50 (0, 0)) from by rw [hV]; exact (set_other z2 N0_1.out).trans S0.out)
       have T1 := zh (show u6.heap[b9]? = some (.cells (faC z2).toArray 50 (0, 0)) from by rw [hV]; exact fa_set z2 S1.out)
       clear ys
       refine rdy 17 rfl (fun K hK => ?_)
       go_simp
       rw [← hV]
       clear hV y0 y1 f0 f1
       refine hK.out _ _ (HT.out _ HB6.out) (fun hHeld => ?_)
       clear hK K
       try simp only [puts]
       clear S0
       have S0 := T0
       clear T0
       clear S1
       have S1 := T1
       clear T1
       refine wpAnyH_done (by kernel_rfl) ?_ _
       exact ⟨b8, b9, _, _, _, _, _, _, _, _, _, _, _, _, _, _, _, _, _, _, _, _, _, _, _, _, _, _, _, _, _, _, _, _, _, _, _, _, _, _, _, _, _, _, _, _, _, _, _, _, _, _, _, _, _, _, _, _, _, _, _, _, _, _, _, _, _, _, _, _, _, _, _, _, _, _, _, rfl, S0.out, S1.out, ⟨by have := GE0.out; have := HL7.out; omega, by have := GE1.out; have := HL7.out; omega⟩, HB6.out⟩
     ·skip
      go_simp
      obtain ⟨u2, hn1⟩ : ∃ v, v = u1.alloc (.cells #[.int .i64 0, .string ⟨#[]⟩] 50) := ⟨_, rfl⟩
      obtain ⟨b9, hbz⟩ : ∃ b, b = u1.heap.size := ⟨_, rfl⟩
      have hl : Below u1.heap.size u1 u2 := by rw [hn1]; exact (Below.refl _ _).alloc (Nat.le_refl _) _
      have HL := zh hl
      have HB2 := zh (then' HB1.out hl)
      have S1 := zh (show u2.heap[b9]? = some (.cells #[.int .i64 0, .string ⟨#[]⟩] 50 (0, 0)) from by rw [hn1, hbz]; exact heap_alloc_new _ _)
      have GE1 := zh (show V.heap.size ≤ b9 from by rw [hbz]; exact HB1.out.size)
      have N0_1 := zh (show b8 ≠ b9 from by rw [hbz]; have := blk_lt S0.out; omega)
      have N1_0 := zh (fun h => N0_1.out (Eq.symm h))
      have S0 := zh ((HL.out.block _ (blk_lt S0.out)).trans S0.out)
      rw [← hn1, ← hbz]
      clear hn1 hbz hl
      refine hK.out _ _ (HT.out _ HB2.out) (fun hHeld => ?_)
      clear hK K HL
      try simp only [puts]
      refine rdy 6 rfl (fun K hK => ?_)
      go_simp
      refine (HN1.out u2 (HKV.out.trans (HB2.out.mono HKV.out.size))).mono ?_
      rintro e u3 ⟨rfl, hb⟩
      have HL := zh (show Below u2.heap.size u2 u3 from hb)
      have HB3 := zh (then' HB2.out hb)
      clear hb
      have S0 := zh ((HL.out.block _ (blk_lt S0.out)).trans S0.out)
      have S1 := zh ((HL.out.block _ (blk_lt S1.out)).trans S1.out)
      go_wp2_with fail
      refine hK.out _ _ (HT.out _ HB3.out) (fun hHeld => ?_)
      clear hK K HL
      try simp only [puts]
      refine rdy 13 rfl (fun K hK => ?_)
      go_simp
      refine (HN2.out u3 (HKV.out.trans (HB3.out.mono HKV.out.size))).mono ?_
      rintro e u4 ⟨rfl, hb⟩
      have HL := zh (show Below u3.heap.size u3 u4 from hb)
      have HB4 := zh (then' HB3.out hb)
      clear hb
      have S0 := zh ((HL.out.block _ (blk_lt S0.out)).trans S0.out)
      have S1 := zh ((HL.out.block _ (blk_lt S1.out)).trans S1.out)
      go_wp2_with fail
      refine hK.out _ _ (HT.out _ HB4.out) (fun hHeld => ?_)
      clear hK K HL
      try simp only [puts]
      have ys := S0.out
      have y0 := cell_of_row _ _ 0 _ _ _ ys; have y1 := cell_of_row _ _ 1 _ _ _ ys
      have f0 := frozen_of_row _ _ 0 _ _ ys; have f1 := frozen_of_row _ _ 1 _ _ ys
      obtain ⟨u5, hV⟩ : ∃ v, v = (u4.setCell ⟨b8, 0, none⟩ (.int .i64 z1.1)).setCell ⟨b8, 1, none⟩ (.string ⟨z1.2.toArray⟩) := ⟨_, rfl⟩
      have HB5 := zh (show Below V.heap.size V u5 from by rw [hV]; exact set_below z1 HB4.out GE0.out)
      have T0 := zh (show u5.heap[b8]? = some (.cells (faC z1).toArray 50 (0, 0)) from by rw [hV]; exact fa_set z1 S0.out)
      have T1 := zh (show u5.heap[b9]? = some (.cells #[.int .i64 0, .string ⟨#[]⟩] 50 (0, 0)) from by rw [hV]; exact (set_other z1 N1_0.out).trans S1.out)
      clear ys
      refine rdy 16 rfl (fun K hK => ?_)
      go_simp
      rw [← hV]
      clear hV y0 y1 f0 f1
      refine hK.out _ _ (HT.out _ HB5.out) (fun hHeld => ?_)
      clear hK K
      try simp only [puts]
      clear S0
      have S0 := T0
      clear T0
      clear S1
      have S1 := T1
      clear T1
      have ys := S1.out
      have y0 := cell_of_row _ _ 0 _ _ _ ys; have y1 := cell_of_row _ _ 1 _ _ _ ys
      have f0 := frozen_of_row _ _ 0 _ _ ys; have f1 := frozen_of_row _ _ 1 _ _ ys
      obtain ⟨u6, hV⟩ : ∃ v, v = (u5.setCell ⟨b9, 0, none⟩ (.int .i64 z2.1)).setCell ⟨b9, 1, none⟩ (.string ⟨z2.2.toArray⟩) := ⟨_, rfl⟩
      have HB6 := zh (show Below V.heap.size V u6 from by rw [hV]; exact set_below z2 HB5.out GE1.out)
      have T0 := zh (show u6.heap[b8]? = some (.cells (faC z1).toArray 50 (0, 0)) from by rw [hV]; exact (set_other z2 N0_1.out).trans S0.out)
      have T1 := zh (show u6.heap[b9]? = some (.cells (faC z2).toArray 50 (0, 0)) from by rw [hV]; exact fa_set z2 S1.out)
      clear ys
      refine rdy 17 rfl (fun K hK => ?_)
      go_simp
      rw [← hV]
      clear hV y0 y1 f0 f1
      refine hK.out _ _ (HT.out _ HB6.out) (fun hHeld => ?_)
      clear hK K
      try simp only [puts]
      clear S0
      have S0 := T0
      clear T0
      clear S1
      have S1 := T1
      clear T1
      refine wpAnyH_done (by kernel_rfl) ?_ _
      exact ⟨b8, b9, _, _, _, _, _, _, _, _, _, _, _, _, _, _, _, _, _, _, _, _, _, _, _, _, _, _, _, _, _, _, _, _, _, _, _, _, _, _, _, _, _, _, _, _, _, _, _, _, _, _, _, _, _, _, _, _, _, _, _, _, _, _, _, _, _, _, _, _, _, _, _, _, _, _, _, rfl, S0.out, S1.out, ⟨by have := GE0.out; have := HL7.out; omega, by have := GE1.out; have := HL7.out; omega⟩, HB6.out⟩
    ·skip
     go_simp
     obtain ⟨u1, hn1⟩ : ∃ v, v = u0.alloc (.cells #[.int .i64 0, .string ⟨#[]⟩] 50) := ⟨_, rfl⟩
     obtain ⟨b9, hbz⟩ : ∃ b, b = u0.heap.size := ⟨_, rfl⟩
     have hl : Below u0.heap.size u0 u1 := by rw [hn1]; exact (Below.refl _ _).alloc (Nat.le_refl _) _
     have HL := zh hl
     have HB1 := zh (then' HB0.out hl)
     have S1 := zh (show u1.heap[b9]? = some (.cells #[.int .i64 0, .string ⟨#[]⟩] 50 (0, 0)) from by rw [hn1, hbz]; exact heap_alloc_new _ _)
     have GE1 := zh (show V.heap.size ≤ b9 from by rw [hbz]; exact HB0.out.size)
     rw [← hn1, ← hbz]
     clear hn1 hbz hl
     refine hK.out _ _ (HT.out _ HB1.out) (fun hHeld => ?_)
     clear hK K HL
     try simp only [puts]
     refine wpAnyH_ready (rs := [6, 14]) (by kernel_rfl) (by simp) (AllReadyH.cons rfl (fun K hK => ?_) (AllReadyH.cons rfl (fun K hK => ?_) AllReadyH.nil))
     ·skip
      go_simp
      refine (HN1.out u1 (HKV.out.trans (HB1.out.mono HKV.out.size))).mono ?_
      rintro e u2 ⟨rfl, hb⟩
      have HL := zh (show Below u1.heap.size u1 u2 from hb)
      have HB2 := zh (then' HB1.out hb)
      clear hb
      have S1 := zh ((HL.out.block _ (blk_lt S1.out)).trans S1.out)
      go_wp2_with fail
      refine hK.out _ _ (HT.out _ HB2.out) (fun hHeld => ?_)
      clear hK K HL
      try simp only [puts]
      refine wpAnyH_ready (rs := [13, 14]) (by kernel_rfl) (by simp) (AllReadyH.cons rfl (fun K hK => ?_) (AllReadyH.cons rfl (fun K hK => ?_) AllReadyH.nil))
      ·skip
       go_simp
       refine (HN2.out u2 (HKV.out.trans (HB2.out.mono HKV.out.size))).mono ?_
       rintro e u3 ⟨rfl, hb⟩
       have HL := zh (show Below u2.heap.size u2 u3 from hb)
       have HB3 := zh (then' HB2.out hb)
       clear hb
       have S1 := zh ((HL.out.block _ (blk_lt S1.out)).trans S1.out)
       go_wp2_with fail
       refine hK.out _ _ (HT.out _ HB3.out) (fun hHeld => ?_)
       clear hK K HL
       try simp only [puts]
       refine rdy 14 rfl (fun K hK => ?_)
       go_simp
       obtain ⟨u4, hn1⟩ : ∃ v, v = u3.alloc (.cells #[.int .i64 0, .string ⟨#[]⟩] 50) := ⟨_, rfl⟩
       obtain ⟨b8, hbz⟩ : ∃ b, b = u3.heap.size := ⟨_, rfl⟩
       have hl : Below u3.heap.size u3 u4 := by rw [hn1]; exact (Below.refl _ _).alloc (Nat.le_refl _) _
       have HL := zh hl
       have HB4 := zh (then' HB3.out hl)
       have S0 := zh (show u4.heap[b8]? = some (.cells #[.int .i64 0, .string ⟨#[]⟩] 50 (0, 0)) from by rw [hn1, hbz]; exact heap_alloc_new _ _)
       have GE0 := zh (show V.heap.size ≤ b8 from by rw [hbz]; exact HB3.out.size)
       have N1_0 := zh (show b9 ≠ b8 from by rw [hbz]; have := blk_lt S1.out; omega)
       have N0_1 := zh (fun h => N1_0.out (Eq.symm h))
       have S1 := zh ((HL.out.block _ (blk_lt S1.out)).trans S1.out)
       rw [← hn1, ← hbz]
       clear hn1 hbz hl
       refine hK.out _ _ (HT.out _ HB4.out) (fun hHeld => ?_)
       clear hK K HL
       try simp only [puts]
       have ys := S0.out
       have y0 := cell_of_row _ _ 0 _ _ _ ys; have y1 := cell_of_row _ _ 1 _ _ _ ys
       have f0 := frozen_of_row _ _ 0 _ _ ys; have f1 := frozen_of_row _ _ 1 _ _ ys
       obtain ⟨u5, hV⟩ : ∃ v, v = (u4.setCell ⟨b8, 0, none⟩ (.int .i64 z1.1)).setCell ⟨b8, 1, none⟩ (.string ⟨z1.2.toArray⟩) := ⟨_, rfl⟩
       have HB5 := zh (show Below V.heap.size V u5 from by rw [hV]; exact set_below z1 HB4.out GE0.out)
       have T0 := zh (show u5.heap[b8]? = some (.cells (faC z1).toArray 50 (0, 0)) from by rw [hV]; exact fa_set z1 S0.out)
       have T1 := zh (show u5.heap[b9]? = some (.cells #[.int .i64 0, .string ⟨#[]⟩] 50 (0, 0)) from by rw [hV]; exact (set_other z1 N1_0.out).trans S1.out)
       clear ys
       refine rdy 16 rfl (fun K hK => ?_)
       go_simp
       rw [← hV]
       clear hV y0 y1 f0 f1
       refine hK.out _ _ (HT.out _ HB5.out) (fun hHeld => ?_)
       clear hK K
       try simp only [puts]
       clear S0
       have S0 := T0
       clear T0
       clear S1
       have S1 := T1
       clear T1
       have ys := S1.out
       have y0 := cell_of_row _ _ 0 _ _ _ ys; have y1 := cell_of_row _ _ 1 _ _ _ ys
       have f0 := frozen_of_row _ _ 0 _ _ ys; have f1 := frozen_of_row _ _ 1 _ _ ys
       obtain ⟨u6, hV⟩ : ∃ v, v = (u5.setCell ⟨b9, 0, none⟩ (.int .i64 z2.1)).setCell ⟨b9, 1, none⟩ (.string ⟨z2.2.toArray⟩) := ⟨_, rfl⟩
       have HB6 := zh (show Below V.heap.size V u6 from by rw [hV]; exact set_below z2 HB5.out GE1.out)
       have T0 := zh (show u6.heap[b8]? = some (.cells (faC z1).toArray 50 (0, 0)) from by rw [hV]; exact (set_other z2 N0_1.out).trans S0.out)
       have T1 := zh (show u6.heap[b9]? = some (.cells (faC z2).toArray 50 (0, 0)) from by rw [hV]; exact fa_set z2 S1.out)
       clear ys
       refine rdy 17 rfl (fun K hK => ?_)
       go_simp
       rw [← hV]
       clear hV y0 y1 f0 f1
       refine hK.out _ _ (HT.out _ HB6.out) (fun hHeld => ?_)
       clear hK K
       try simp only [puts]
       clear S0
       have S0 := T0
       clear T0
       clear S1
       have S1 := T1
       clear T1
       refine wpAnyH_done (by kernel_rfl) ?_ _
       exact ⟨b8, b9, _, _, _, _, _, _, _, _, _, _, _, _, _, _, _, _, _, _, _, _, _, _, _, _, _, _, _, _, _, _, _, _, _, _, _, _, _, _, _, _, _, _, _, _, _, _, _, _, _, _, _, _, _, _, _, _, _, _, _, _, _, _, _, _, _, _, _, _, _, _, _, _, _, _, _, rfl, S0.out, S1.out, ⟨by have := GE0.out; have := HL7.out; omega, by have := GE1.out; have := HL7.out; omega⟩, HB6.out⟩
      ·skip
       go_simp
       obtain ⟨u3, hn1⟩ : ∃ v, v = u2.alloc (.cells #[.int .i64 0, .string ⟨#[]⟩] 50) := ⟨_, rfl⟩
       obtain ⟨b8, hbz⟩ : ∃ b, b = u2.heap.size := ⟨_, rfl⟩
       have hl : Below u2.heap.size u2 u3 := by rw [hn1]; exact (Below.refl _ _).alloc (Nat.le_refl _) _
       have HL := zh hl
       have HB3 := zh (then' HB2.out hl)
       have S0 := zh (show u3.heap[b8]? = some (.cells #[.int .i64 0, .string ⟨#[]⟩] 50 (0, 0)) from by rw [hn1, hbz]; exact heap_alloc_new _ _)
       have GE0 := zh (show V.heap.size ≤ b8 from by rw [hbz]; exact HB2.out.size)
       have N1_0 := zh (show b9 ≠ b8 from by rw [hbz]; have := blk_lt S1.out; omega)
       have N0_1 := zh (fun h => N1_0.out (Eq.symm h))
       have S1 := zh ((HL.out.block _ (blk_lt S1.out)).trans S1.out)
       rw [← hn1, ← hbz]
       clear hn1 hbz hl
       refine hK.out _ _ (HT.out _ HB3.out) (fun hHeld => ?_)
       clear hK K HL
       try simp only [puts]
       refine rdy 13 rfl (fun K hK => ?_)
       go_simp
       refine (HN2.out u3 (HKV.out.trans (HB3.out.mono HKV.out.size))).mono ?_
       rintro e u4 ⟨rfl, hb⟩
       have HL := zh (show Below u3.heap.size u3 u4 from hb)
       have HB4 := zh (then' HB3.out hb)
       clear hb
       have S1 := zh ((HL.out.block _ (blk_lt S1.out)).trans S1.out)
       have S0 := zh ((HL.out.block _ (blk_lt S0.out)).trans S0.out)
       go_wp2_with fail
       refine hK.out _ _ (HT.out _ HB4.out) (fun hHeld => ?_)
       clear hK K HL
       try simp only [puts]
       have ys := S0.out
       have y0 := cell_of_row _ _ 0 _ _ _ ys; have y1 := cell_of_row _ _ 1 _ _ _ ys
       have f0 := frozen_of_row _ _ 0 _ _ ys; have f1 := frozen_of_row _ _ 1 _ _ ys
       obtain ⟨u5, hV⟩ : ∃ v, v = (u4.setCell ⟨b8, 0, none⟩ (.int .i64 z1.1)).setCell ⟨b8, 1, none⟩ (.string ⟨z1.2.toArray⟩) := ⟨_, rfl⟩
       have HB5 := zh (show Below V.heap.size V u5 from by rw [hV]; exact set_below z1 HB4.out GE0.out)
       have T0 := zh (show u5.heap[b8]? = some (.cells (faC z1).toArray 50 (0, 0)) from by rw [hV]; exact fa_set z1 S0.out)
       have T1 := zh (show u5.heap[b9]? = some (.cells #[.int .i64 0, .string ⟨#[]⟩] 50 (0, 0)) from by rw [hV]; exact (set_other z1 N1_0.out).trans S1.out)
       clear ys
       refine rdy 16 rfl (fun K hK => ?_)
       go_simp
       rw [← hV]
       clear hV y0 y1 f0 f1
       refine hK.out _ _ (HT.out _ HB5.out) (fun hHeld => ?_)
       clear hK K
       try simp only [puts]
       clear S0
       have S0 := T0
       clear T0
       clear S1
       have S1 := T1
       clear T1
       have ys := S1.out
       have y0 := cell_of_row _ _ 0 _ _ _ ys; have y1 := cell_of_row _ _ 1 _ _ _ ys
       have f0 := frozen_of_row _ _ 0 _ _ ys; have f1 := frozen_of_row _ _ 1 _ _ ys
       obtain ⟨u6, hV⟩ : ∃ v, v = (u5.setCell ⟨b9, 0, none⟩ (.int .i64 z2.1)).setCell ⟨b9, 1, none⟩ (.string ⟨z2.2.toArray⟩) := ⟨_, rfl⟩
       have HB6 := zh (show Below V.heap.size V u6 from by rw [hV]; exact set_below z2 HB5.out GE1.out)
       have T0 := zh (show u6.heap[b8]? = some (.cells (faC z1).toArray 50 (0, 0)) from by rw [hV]; exact (set_other z2 N0_1.out).trans S0.out)
       have T1 := zh (show u6.heap[b9]? = some (.cells (faC z2).toArray 50 (0, 0)) from by rw [hV]; exact fa_set z2 S1.out)
       clear ys
       refine rdy 17 rfl (fun K hK => ?_)
       go_simp
       rw [← hV]
       clear hV y0 y1 f0 f1
       refine hK.out _ _ (HT.out _ HB6.out) (fun hHeld => ?_)
       clear hK K
       try simp only [puts]
       clear S0
       have S0 := T0
       clear T0
       clear S1
       have S1 := T1
       clear T1
       refine wpAnyH_done (by kernel_rfl) ?_ _
       exact ⟨b8, b9, _, _, _, _, _, _, _, _, _, _, _, _, _, _, _, _, _, _, _, _, _, _, _, _, _, _, _, _, _, _, _, _, _, _, _, _, _, _, _, _, _, _, _, _, _, _, _, _, _, _, _, _, _, _, _, _, _, _, _, _, _, _, _, _, _, _, _, _, _, _, _, _, _, _, _, rfl, S0.out, S1.out, ⟨by have := GE0.out; have := HL7.out; omega, by have := GE1.out; have := HL7.out; omega⟩, HB6.out⟩
     ·skip
      go_simp
      obtain ⟨u2, hn1⟩ : ∃ v, v = u1.alloc (.cells #[.int .i64 0, .string ⟨#[]⟩] 50) := ⟨_, rfl⟩
      obtain ⟨b8, hbz⟩ : ∃ b, b = u1.heap.size := ⟨_, rfl⟩
      have hl : Below u1.heap.size u1 u2 := by rw [hn1]; exact (Below.refl _ _).alloc (Nat.le_refl _) _
      have HL := zh hl
      have HB2 := zh (then' HB1.out hl)
      have S0 := zh (show u2.heap[b8]? = some (.cells #[.int .i64 0, .string ⟨#[]⟩] 50 (0, 0)) from by rw [hn1, hbz]; exact heap_alloc_new _ _)
      have GE0 := zh (show V.heap.size ≤ b8 from by rw [hbz]; exact HB1.out.size)
      have N1_0 := zh (show b9 ≠ b8 from by rw [hbz]; have := blk_lt S1.out; omega)
      have N0_1 := zh (fun h => N1_0.out (Eq.symm h))
      have S1 := zh ((HL.out.block _ (blk_lt S1.out)).trans S1.out)
      rw [← hn1, ← hbz]
      clear hn1 hbz hl
      refine hK.out _ _ (HT.out _ HB2.out) (fun hHeld => ?_)
      clear hK K HL
      try simp only [puts]
      refine rdy 6 rfl (fun K hK => ?_)
      go_simp
      refine (HN1.out u2 (HKV.out.trans (HB2.out.mono HKV.out.size))).mono ?_
      rintro e u3 ⟨rfl, hb⟩
      have HL := zh (show Below u2.heap.size u2 u3 from hb)
      have HB3 := zh (then' HB2.out hb)
      clear hb
      have S1 := zh ((HL.out.block _ (blk_lt S1.out)).trans S1.out)
      have S0 := zh ((HL.out.block _ (blk_lt S0.out)).trans S0.out)
      go_wp2_with fail
      refine hK.out _ _ (HT.out _ HB3.out) (fun hHeld => ?_)
      clear hK K HL
      try simp only [puts]
      refine rdy 13 rfl (fun K hK => ?_)
      go_simp
      refine (HN2.out u3 (HKV.out.trans (HB3.out.mono HKV.out.size))).mono ?_
      rintro e u4 ⟨rfl, hb⟩
      have HL := zh (show Below u3.heap.size u3 u4 from hb)
      have HB4 := zh (then' HB3.out hb)
      clear hb
      have S1 := zh ((HL.out.block _ (blk_lt S1.out)).trans S1.out)
      have S0 := zh ((HL.out.block _ (blk_lt S0.out)).trans S0.out)
      go_wp2_with fail
      refine hK.out _ _ (HT.out _ HB4.out) (fun hHeld => ?_)
      clear hK K HL
      try simp only [puts]
      have ys := S0.out
      have y0 := cell_of_row _ _ 0 _ _ _ ys; have y1 := cell_of_row _ _ 1 _ _ _ ys
      have f0 := frozen_of_row _ _ 0 _ _ ys; have f1 := frozen_of_row _ _ 1 _ _ ys
      obtain ⟨u5, hV⟩ : ∃ v, v = (u4.setCell ⟨b8, 0, none⟩ (.int .i64 z1.1)).setCell ⟨b8, 1, none⟩ (.string ⟨z1.2.toArray⟩) := ⟨_, rfl⟩
      have HB5 := zh (show Below V.heap.size V u5 from by rw [hV]; exact set_below z1 HB4.out GE0.out)
      have T0 := zh (show u5.heap[b8]? = some (.cells (faC z1).toArray 50 (0, 0)) from by rw [hV]; exact fa_set z1 S0.out)
      have T1 := zh (show u5.heap[b9]? = some (.cells #[.int .i64 0, .string ⟨#[]⟩] 50 (0, 0)) from by rw [hV]; exact (set_other z1 N1_0.out).trans S1.out)
      clear ys
      refine rdy 16 rfl (fun K hK => ?_)
      go_simp
      rw [← hV]
      clear hV y0 y1 f0 f1
      refine hK.out _ _ (HT.out _ HB5.out) (fun hHeld => ?_)
      clear hK K
      try simp only [puts]
      clear S0
      have S0 := T0
      clear T0
      clear S1
      have S1 := T1
      clear T1
      have ys := S1.out
      have y0 := cell_of_row _ _ 0 _ _ _ ys; have y1 := cell_of_row _ _ 1 _ _ _ ys
      have f0 := frozen_of_row _ _ 0 _ _ ys; have f1 := frozen_of_row _ _ 1 _ _ ys
      obtain ⟨u6, hV⟩ : ∃ v, v = (u5.setCell ⟨b9, 0, none⟩ (.int .i64 z2.1)).setCell ⟨b9, 1, none⟩ (.string ⟨z2.2.toArray⟩) := ⟨_, rfl⟩
      have HB6 := zh (show Below V.heap.size V u6 from by rw [hV]; exact set_below z2 HB5.out GE1.out)
      have T0 := zh (show u6.heap[b8]? = some (.cells (faC z1).toArray 50 (0, 0)) from by rw [hV]; exact (set_other z2 N0_1.out).trans S0.out)
      have T1 := zh (show u6.heap[b9]? = some (.cells (faC z2).toArray 50 (0, 0)) from by rw [hV]; exact fa_set z2 S1.out)
      clear ys
      refine rdy 17 rfl (fun K hK => ?_)
      go_simp
      rw [← hV]
      clear hV y0 y1 f0 f1
      refine hK.out _ _ (HT.out _ HB6.out) (fun hHeld => ?_)
      clear hK K
      try simp only [puts]
      clear S0
      have S0 := T0
      clear T0
      clear S1
      have S1 := T1
      clear T1
      refine wpAnyH_done (by kernel_rfl) ?_ _
      exact ⟨b8, b9, _, _, _, _, _, _, _, _, _, _, _, _, _, _, _, _, _, _, _, _, _, _, _, _, _, _, _, _, _, _, _, _, _, _, _, _, _, _, _, _, _, _, _, _, _, _, _, _, _, _, _, _, _, _, _, _, _, _, _, _, _, _, _, _, _, _, _, _, _, _, _, _, _, _, _, rfl, S0.out, S1.out, ⟨by have := GE0.out; have := HL7.out; omega, by have := GE1.out; have := HL7.out; omega⟩, HB6.out⟩
   rintro e a u hP
   cases e <;> try exact hP.elim
   obtain ⟨b8, b9, t0, t1, t2, t10, t11, t12, t13, t14, t15, t16, t17, t18, t19, t20, t21, t22, t23, t24, t25, t26, t27, t28, t29, t30, t31, t32, t33, t34, t35, t36, t37, t38, t39, t40, t41, t42, t43, t44, t45, t46, t47, t48, t49, t50, t51, t52, t53, t54, t55, t56, t57, t58, t59, t60, t61, t62, t63, t64, t65, t66, t67, t68, t69, t70, t71, t72, t73, t74, t75, t76, t77, t78, t79, t80, t81, rfl, S0, S1, ⟨hn8, hn9⟩, hB⟩ := hP
   have HN87 := zh hn8; have HN97 := zh hn9
   clear hn8 hn9
   have HU := zh hB
   have HS0 := zh S0; have HS1 := zh S1
   clear hB S0 S1
   have HKU := zh (HKV.out.trans (HU.out.mono HKV.out.size))
   obtain ⟨L, hL⟩ : ∃ l, l = cs.length := ⟨_, rfl⟩
   have HLL := zh hL
   have hL70 : L ≤ 70 := by rw [hL]; exact h70
   clear hL
   have HT1 := zh (HT.out u HU.out)
   by_cases hL0 : 0 < L
   ·cases g3 : (k3 == 3) with
    | true =>
     have hk3 : k3 = 3 := by simpa using g3
     subst hk3
     obtain ⟨j, hjj⟩ : ∃ j, j = a3 % L := ⟨_, rfl⟩
     have hjL : j < L := by rw [hjj]; exact Nat.mod_lt _ (by omega)
     have hjLI : (j : Int) < (L : Int) := by omega
     have hj0I : (0 : Int) ≤ (j : Int) := by omega
     have hL0I : (0 : Int) < (L : Int) := by omega
     obtain ⟨y, hy⟩ : ∃ y, cs[j]? = some y := ⟨cs[j]'(by rw [← HLL.out]; exact hjL), List.getElem?_eq_getElem _⟩
     have h256 := HE.out.2.2
     have hma : (a3 : Int).tmod (L : Int) = (j : Int) := by rw [hjj]; rfl
     have hea : (a3 : Int) % (L : Int) = (j : Int) := by rw [hjj]; rfl
     have hLnI : ¬ (L : Int) = 0 := by omega
     have hwa : IntKind.i64.wrap (a3 : Int) = (a3 : Int) := IntWalk.i64_in _ (by omega)
     have hwj : IntKind.i64.wrap (j : Int) = (j : Int) := IntWalk.i64_in _ (by omega)
     clear hjj h256
     obtain ⟨⟨x0, x1, x2, x3, x4⟩, -, ⟨-, -, n2⟩, y4, y5⟩ := HT1.out
     rw [← HLL.out] at x0
     have s7 := (HU.out.block _ HL7.out).trans S7.out
     have f4 := frozen_of_row _ _ 0 _ _ s7; have f5 := frozen_of_row _ _ 1 _ _ s7
     have hrd := (HPO.out u HKU.out).1.2
     obtain ⟨a, ha, -, p0, -⟩ := cl_at hrd hy
     dsimp only at ha
     subst ha
     clear hy hrd s7
     go_wp2_with fail
     go_region
     obtain ⟨X, hX⟩ : ∃ v, v = (u.setCell ⟨b7, 1, none⟩ (.string ⟨y.nm.toArray⟩)).drew := ⟨_, rfl⟩
     have t1 := heap_setCell_same _ b7 1 _ _ (.string ⟨y.nm.toArray⟩) ((HU.out.block _ HL7.out).trans S7.out)
     have v7 : X.heap[b7]? = some (.cells #[.int .i64 3, .string ⟨y.nm.toArray⟩] 61 (0, 0)) := by rw [hX]; show (u.setCell _ _).heap[_]? = _; rw [t1]; simp
     have vo : ∀ q, q ≠ b7 → X.heap[q]? = u.heap[q]? := fun q hq => by rw [hX]; exact heap_setCell_other _ _ _ _ (by simpa using hq)
     have KWU := zh (show Below W.heap.size W X from by rw [hX]; exact ⟨HKU.out.os, HKU.out.tape, HKU.out.output, by simpa using HKU.out.size, fun q hq => (heap_setCell_other _ _ _ _ (by have := HG7.out; simp; omega)).trans (HKU.out.block q hq)⟩)
     have n8 : b8 ≠ b7 := HN87.out
     have n9 : b9 ≠ b7 := HN97.out
     have v8 := (vo b8 n8).trans HS0.out
     have v9 := (vo b9 n9).trans HS1.out
     rw [← hX]
     clear hX t1 vo x0 x1 x2 x3 x4 n2 y4 y5 f4 f5 p0 n8 n9
     have HX := zh (show ∀ v, Below X.heap.size X v → (fun w' : World => (w'.cell? ⟨w.heap.size, 0, none⟩ = some (.slice (some a) cs.length c1) ∧ w'.cell? ⟨w.heap.size, 1, none⟩ = some (.slice A2 ns.length c2) ∧ w'.cell? ⟨w.heap.size, 2, none⟩ = some (.string ⟨ec.toArray⟩) ∧ w'.cell? ⟨w.heap.size, 3, none⟩ = some (.string ⟨en.toArray⟩) ∧ w'.cell? ⟨w.heap.size, 4, none⟩ = some (.string ⟨ed.toArray⟩)) ∧ (w'.cell? ⟨b8, 0, none⟩ = some (.int .i64 z1.1) ∧ w'.cell? ⟨b8, 1, none⟩ = some (.string ⟨z1.2.toArray⟩)) ∧ (w'.cell? ⟨b9, 0, none⟩ = some (.int .i64 z2.1) ∧ w'.cell? ⟨b9, 1, none⟩ = some (.string ⟨z2.2.toArray⟩)) ∧ (w'.cell? ⟨b7, 0, none⟩ = some (.int .i64 3) ∧ w'.cell? ⟨b7, 1, none⟩ = some (.string ⟨y.nm.toArray⟩))) v from fun v hv => ⟨(HS.out v (KWU.out.trans (hv.mono KWU.out.size))).1, fa_cells ((hv.block _ (blk_lt v8)).trans v8), fa_cells ((hv.block _ (blk_lt v9)).trans v9), by
      have s := (hv.block _ (blk_lt v7)).trans v7
      exact ⟨cell_of_row _ _ 0 _ _ _ s, cell_of_row _ _ 1 _ _ _ s⟩⟩)
     clear v7 v8 v9
     obtain ⟨⟨x0, x1, x2, x3, x4⟩, ⟨y0, y1⟩, ⟨y2, y3⟩, y4, y5⟩ := HX.out X (Below.refl _ _)
     have hff := HFJ.out
     have h1 := fun v hv => HBJ.out HGP.out z1 z2 KF1.out KF2.out v hv
     have h2 := fun v hv => HFT.out HGP.out z2 (3, y.nm) KF2.out v hv
     have h3 := fun v hv => HFT.out HGP.out z1 (3, y.nm) KF1.out v hv
     obtain ⟨r1, e1⟩ : ∃ r, r = decide (joinF cs z1 z2 = z2) := ⟨_, rfl⟩
     obtain ⟨r2, e2⟩ : ∃ r, r = fitF cs z2 (3, y.nm) := ⟨_, rfl⟩
     obtain ⟨r3, e3⟩ : ∃ r, r = fitF cs z1 (3, y.nm) := ⟨_, rfl⟩
     have HR := zh (show r1 = true → r2 = true → r3 = true from fun q1 q2 => by
      rw [e3, EZ1.out]
      rw [e2, EZ2.out] at q2
      refine fit_le ((JK_below hff f1 f2).1 (toF_inj ?_)) q2
      rw [e1, EZ1.out, EZ2.out, join_toF hff.fine] at q1
      exact of_decide_eq_true q1)
     try dsimp only at h1 h2 h3
     simp only [← e1] at h1
     simp only [← e2] at h2
     simp only [← e3] at h3
     unfold faC at h1 h2 h3
     have H1 := zh h1; have H2 := zh h2; have H3 := zh h3
     clear h1 h2 h3 e1 e2 e3 hff
     (try go_wp2_with fail)
     refine (live_j X).mono ?_
     rintro e s1 ⟨rfl, hb⟩
     have C1 := zh (show Below X.heap.size X s1 from hb)
     clear hb
     clear x0 x1 x2 x3 x4 y0 y1 y2 y3 y4 y5
     obtain ⟨⟨x0, x1, x2, x3, x4⟩, ⟨y0, y1⟩, ⟨y2, y3⟩, y4, y5⟩ := HX.out s1 C1.out
     (try go_wp2_with fail)
     refine (H1.out s1 (KWU.out.trans (C1.out.mono KWU.out.size))).mono ?_
     rintro e s2 ⟨rfl, hb⟩
     have C2 := zh (then' C1.out hb)
     clear hb
     clear x0 x1 x2 x3 x4 y0 y1 y2 y3 y4 y5
     obtain ⟨⟨x0, x1, x2, x3, x4⟩, ⟨y0, y1⟩, ⟨y2, y3⟩, y4, y5⟩ := HX.out s2 C2.out
     cases r1 with
     | false =>
      (try go_wp2_with fail)
      go_ret
      exact ⟨rfl, HAL.out.trans ((KWU.out.trans (C2.out.mono KWU.out.size)).mono HAL.out.size)⟩
     | true =>
      (try go_wp2_with fail)
      refine (H2.out s2 (KWU.out.trans (C2.out.mono KWU.out.size))).mono ?_
      rintro e s3 ⟨rfl, hb⟩
      have C3 := zh (then' C2.out hb)
      clear hb
      clear x0 x1 x2 x3 x4 y0 y1 y2 y3 y4 y5
      obtain ⟨⟨x0, x1, x2, x3, x4⟩, ⟨y0, y1⟩, ⟨y2, y3⟩, y4, y5⟩ := HX.out s3 C3.out
      cases r2 with
      | false =>
       (try go_wp2_with fail)
       go_ret
       exact ⟨rfl, HAL.out.trans ((KWU.out.trans (C3.out.mono KWU.out.size)).mono HAL.out.size)⟩
      | true =>
       have h3t := HR.out (by first | rfl | trivial) (by first | rfl | trivial)
       subst h3t
       (try go_wp2_with fail)
       refine (H3.out s3 (KWU.out.trans (C3.out.mono KWU.out.size))).mono ?_
       rintro e s4 ⟨rfl, hb⟩
       have C4 := zh (then' C3.out hb)
       clear hb
       (try go_wp2_with fail)
       go_ret
       exact ⟨rfl, HAL.out.trans ((KWU.out.trans (C4.out.mono KWU.out.size)).mono HAL.out.size)⟩
    | false =>
     cases g5 : (k3 == 5) with
     | true =>
      have hk5 : k3 = 5 := by simpa using g5
      subst hk5
      obtain ⟨j, hjj⟩ : ∃ j, j = a3 % L := ⟨_, rfl⟩
      have hjL : j < L := by rw [hjj]; exact Nat.mod_lt _ (by omega)
      have hjLI : (j : Int) < (L : Int) := by omega
      have hj0I : (0 : Int) ≤ (j : Int) := by omega
      have hL0I : (0 : Int) < (L : Int) := by omega
      obtain ⟨y, hy⟩ : ∃ y, cs[j]? = some y := ⟨cs[j]'(by rw [← HLL.out]; exact hjL), List.getElem?_eq_getElem _⟩
      have h256 := HE.out.2.2
      have hma : (a3 : Int).tmod (L : Int) = (j : Int) := by rw [hjj]; rfl
      have hea : (a3 : Int) % (L : Int) = (j : Int) := by rw [hjj]; rfl
      have hLnI : ¬ (L : Int) = 0 := by omega
      have hwa : IntKind.i64.wrap (a3 : Int) = (a3 : Int) := IntWalk.i64_in _ (by omega)
      have hwj : IntKind.i64.wrap (j : Int) = (j : Int) := IntWalk.i64_in _ (by omega)
      clear hjj h256
      obtain ⟨⟨x0, x1, x2, x3, x4⟩, -, ⟨-, -, n2⟩, y4, y5⟩ := HT1.out
      rw [← HLL.out] at x0
      have s7 := (HU.out.block _ HL7.out).trans S7.out
      have f4 := frozen_of_row _ _ 0 _ _ s7; have f5 := frozen_of_row _ _ 1 _ _ s7
      have hrd := (HPO.out u HKU.out).1.2
      obtain ⟨a, ha, -, p0, -⟩ := cl_at hrd hy
      dsimp only at ha
      subst ha
      clear hy hrd s7
      go_wp2_with fail
      go_region
      obtain ⟨X, hX⟩ : ∃ v, v = (u.setCell ⟨b7, 1, none⟩ (.string ⟨y.nm.toArray⟩)).drew := ⟨_, rfl⟩
      have t1 := heap_setCell_same _ b7 1 _ _ (.string ⟨y.nm.toArray⟩) ((HU.out.block _ HL7.out).trans S7.out)
      have v7 : X.heap[b7]? = some (.cells #[.int .i64 5, .string ⟨y.nm.toArray⟩] 61 (0, 0)) := by rw [hX]; show (u.setCell _ _).heap[_]? = _; rw [t1]; simp
      have vo : ∀ q, q ≠ b7 → X.heap[q]? = u.heap[q]? := fun q hq => by rw [hX]; exact heap_setCell_other _ _ _ _ (by simpa using hq)
      have KWU := zh (show Below W.heap.size W X from by rw [hX]; exact ⟨HKU.out.os, HKU.out.tape, HKU.out.output, by simpa using HKU.out.size, fun q hq => (heap_setCell_other _ _ _ _ (by have := HG7.out; simp; omega)).trans (HKU.out.block q hq)⟩)
      have n8 : b8 ≠ b7 := HN87.out
      have n9 : b9 ≠ b7 := HN97.out
      have v8 := (vo b8 n8).trans HS0.out
      have v9 := (vo b9 n9).trans HS1.out
      rw [← hX]
      clear hX t1 vo x0 x1 x2 x3 x4 n2 y4 y5 f4 f5 p0 n8 n9
      have HX := zh (show ∀ v, Below X.heap.size X v → (fun w' : World => (w'.cell? ⟨w.heap.size, 0, none⟩ = some (.slice (some a) cs.length c1) ∧ w'.cell? ⟨w.heap.size, 1, none⟩ = some (.slice A2 ns.length c2) ∧ w'.cell? ⟨w.heap.size, 2, none⟩ = some (.string ⟨ec.toArray⟩) ∧ w'.cell? ⟨w.heap.size, 3, none⟩ = some (.string ⟨en.toArray⟩) ∧ w'.cell? ⟨w.heap.size, 4, none⟩ = some (.string ⟨ed.toArray⟩)) ∧ (w'.cell? ⟨b8, 0, none⟩ = some (.int .i64 z1.1) ∧ w'.cell? ⟨b8, 1, none⟩ = some (.string ⟨z1.2.toArray⟩)) ∧ (w'.cell? ⟨b9, 0, none⟩ = some (.int .i64 z2.1) ∧ w'.cell? ⟨b9, 1, none⟩ = some (.string ⟨z2.2.toArray⟩)) ∧ (w'.cell? ⟨b7, 0, none⟩ = some (.int .i64 5) ∧ w'.cell? ⟨b7, 1, none⟩ = some (.string ⟨y.nm.toArray⟩))) v from fun v hv => ⟨(HS.out v (KWU.out.trans (hv.mono KWU.out.size))).1, fa_cells ((hv.block _ (blk_lt v8)).trans v8), fa_cells ((hv.block _ (blk_lt v9)).trans v9), by
       have s := (hv.block _ (blk_lt v7)).trans v7
       exact ⟨cell_of_row _ _ 0 _ _ _ s, cell_of_row _ _ 1 _ _ _ s⟩⟩)
      clear v7 v8 v9
      obtain ⟨⟨x0, x1, x2, x3, x4⟩, ⟨y0, y1⟩, ⟨y2, y3⟩, y4, y5⟩ := HX.out X (Below.refl _ _)
      have hff := HFJ.out
      have h1 := fun v hv => HBJ.out HGP.out z1 z2 KF1.out KF2.out v hv
      have h2 := fun v hv => HFT.out HGP.out z2 (5, y.nm) KF2.out v hv
      have h3 := fun v hv => HFT.out HGP.out z1 (5, y.nm) KF1.out v hv
      obtain ⟨r1, e1⟩ : ∃ r, r = decide (joinF cs z1 z2 = z2) := ⟨_, rfl⟩
      obtain ⟨r2, e2⟩ : ∃ r, r = fitF cs z2 (5, y.nm) := ⟨_, rfl⟩
      obtain ⟨r3, e3⟩ : ∃ r, r = fitF cs z1 (5, y.nm) := ⟨_, rfl⟩
      have HR := zh (show r1 = true → r2 = true → r3 = true from fun q1 q2 => by
       rw [e3, EZ1.out]
       rw [e2, EZ2.out] at q2
       refine fit_le ((JK_below hff f1 f2).1 (toF_inj ?_)) q2
       rw [e1, EZ1.out, EZ2.out, join_toF hff.fine] at q1
       exact of_decide_eq_true q1)
      try dsimp only at h1 h2 h3
      simp only [← e1] at h1
      simp only [← e2] at h2
      simp only [← e3] at h3
      unfold faC at h1 h2 h3
      have H1 := zh h1; have H2 := zh h2; have H3 := zh h3
      clear h1 h2 h3 e1 e2 e3 hff
      (try go_wp2_with fail)
      refine (live_j X).mono ?_
      rintro e s1 ⟨rfl, hb⟩
      have C1 := zh (show Below X.heap.size X s1 from hb)
      clear hb
      clear x0 x1 x2 x3 x4 y0 y1 y2 y3 y4 y5
      obtain ⟨⟨x0, x1, x2, x3, x4⟩, ⟨y0, y1⟩, ⟨y2, y3⟩, y4, y5⟩ := HX.out s1 C1.out
      (try go_wp2_with fail)
      refine (H1.out s1 (KWU.out.trans (C1.out.mono KWU.out.size))).mono ?_
      rintro e s2 ⟨rfl, hb⟩
      have C2 := zh (then' C1.out hb)
      clear hb
      clear x0 x1 x2 x3 x4 y0 y1 y2 y3 y4 y5
      obtain ⟨⟨x0, x1, x2, x3, x4⟩, ⟨y0, y1⟩, ⟨y2, y3⟩, y4, y5⟩ := HX.out s2 C2.out
      cases r1 with
      | false =>
       (try go_wp2_with fail)
       go_ret
       exact ⟨rfl, HAL.out.trans ((KWU.out.trans (C2.out.mono KWU.out.size)).mono HAL.out.size)⟩
      | true =>
       (try go_wp2_with fail)
       refine (H2.out s2 (KWU.out.trans (C2.out.mono KWU.out.size))).mono ?_
       rintro e s3 ⟨rfl, hb⟩
       have C3 := zh (then' C2.out hb)
       clear hb
       clear x0 x1 x2 x3 x4 y0 y1 y2 y3 y4 y5
       obtain ⟨⟨x0, x1, x2, x3, x4⟩, ⟨y0, y1⟩, ⟨y2, y3⟩, y4, y5⟩ := HX.out s3 C3.out
       cases r2 with
       | false =>
        (try go_wp2_with fail)
        go_ret
        exact ⟨rfl, HAL.out.trans ((KWU.out.trans (C3.out.mono KWU.out.size)).mono HAL.out.size)⟩
       | true =>
        have h3t := HR.out (by first | rfl | trivial) (by first | rfl | trivial)
        subst h3t
        (try go_wp2_with fail)
        refine (H3.out s3 (KWU.out.trans (C3.out.mono KWU.out.size))).mono ?_
        rintro e s4 ⟨rfl, hb⟩
        have C4 := zh (then' C3.out hb)
        clear hb
        (try go_wp2_with fail)
        go_ret
        exact ⟨rfl, HAL.out.trans ((KWU.out.trans (C4.out.mono KWU.out.size)).mono HAL.out.size)⟩
     | false =>
      have hcl : 0 < cs.length := by rw [← HLL.out]; exact hL0
      have HX := zh (show ∀ v, Below u.heap.size u v → (fun w' : World => (w'.cell? ⟨w.heap.size, 0, none⟩ = some (.slice A1 cs.length c1) ∧ w'.cell? ⟨w.heap.size, 1, none⟩ = some (.slice A2 ns.length c2) ∧ w'.cell? ⟨w.heap.size, 2, none⟩ = some (.string ⟨ec.toArray⟩) ∧ w'.cell? ⟨w.heap.size, 3, none⟩ = some (.string ⟨en.toArray⟩) ∧ w'.cell? ⟨w.heap.size, 4, none⟩ = some (.string ⟨ed.toArray⟩)) ∧ (w'.cell? ⟨b8, 0, none⟩ = some (.int .i64 z1.1) ∧ w'.cell? ⟨b8, 1, none⟩ = some (.string ⟨z1.2.toArray⟩)) ∧ (w'.cell? ⟨b9, 0, none⟩ = some (.int .i64 z2.1) ∧ w'.cell? ⟨b9, 1, none⟩ = some (.string ⟨z2.2.toArray⟩)) ∧ (w'.cell? ⟨b7, 0, none⟩ = some (.int .i64 k3) ∧ w'.cell? ⟨b7, 1, none⟩ = some (.string ⟨d3.toArray⟩))) v from fun v hv => ⟨(HT.out v (HU.out.trans (hv.mono HU.out.size))).1, fa_cells ((hv.block _ (blk_lt HS0.out)).trans HS0.out), fa_cells ((hv.block _ (blk_lt HS1.out)).trans HS1.out), (HT.out v (HU.out.trans (hv.mono HU.out.size))).2.2.2⟩)
      have KWU := HKU
      obtain ⟨⟨x0, x1, x2, x3, x4⟩, ⟨y0, y1⟩, ⟨y2, y3⟩, y4, y5⟩ := HX.out u (Below.refl _ _)
      have hff := HFJ.out
      have h1 := fun v hv => HBJ.out HGP.out z1 z2 KF1.out KF2.out v hv
      have h2 := fun v hv => HFT.out HGP.out z2 (k3, d3) KF2.out v hv
      have h3 := fun v hv => HFT.out HGP.out z1 (k3, d3) KF1.out v hv
      obtain ⟨r1, e1⟩ : ∃ r, r = decide (joinF cs z1 z2 = z2) := ⟨_, rfl⟩
      obtain ⟨r2, e2⟩ : ∃ r, r = fitF cs z2 (k3, d3) := ⟨_, rfl⟩
      obtain ⟨r3, e3⟩ : ∃ r, r = fitF cs z1 (k3, d3) := ⟨_, rfl⟩
      have HR := zh (show r1 = true → r2 = true → r3 = true from fun q1 q2 => by
       rw [e3, EZ1.out]
       rw [e2, EZ2.out] at q2
       refine fit_le ((JK_below hff f1 f2).1 (toF_inj ?_)) q2
       rw [e1, EZ1.out, EZ2.out, join_toF hff.fine] at q1
       exact of_decide_eq_true q1)
      try dsimp only at h1 h2 h3
      simp only [← e1] at h1
      simp only [← e2] at h2
      simp only [← e3] at h3
      unfold faC at h1 h2 h3
      have H1 := zh h1; have H2 := zh h2; have H3 := zh h3
      clear h1 h2 h3 e1 e2 e3 hff
      (try go_wp2_with fail)
      refine (live_j u).mono ?_
      rintro e s1 ⟨rfl, hb⟩
      have C1 := zh (show Below u.heap.size u s1 from hb)
      clear hb
      clear x0 x1 x2 x3 x4 y0 y1 y2 y3 y4 y5
      obtain ⟨⟨x0, x1, x2, x3, x4⟩, ⟨y0, y1⟩, ⟨y2, y3⟩, y4, y5⟩ := HX.out s1 C1.out
      (try go_wp2_with fail)
      refine (H1.out s1 (KWU.out.trans (C1.out.mono KWU.out.size))).mono ?_
      rintro e s2 ⟨rfl, hb⟩
      have C2 := zh (then' C1.out hb)
      clear hb
      clear x0 x1 x2 x3 x4 y0 y1 y2 y3 y4 y5
      obtain ⟨⟨x0, x1, x2, x3, x4⟩, ⟨y0, y1⟩, ⟨y2, y3⟩, y4, y5⟩ := HX.out s2 C2.out
      cases r1 with
      | false =>
       (try go_wp2_with fail)
       go_ret
       exact ⟨rfl, HAL.out.trans ((KWU.out.trans (C2.out.mono KWU.out.size)).mono HAL.out.size)⟩
      | true =>
       (try go_wp2_with fail)
       refine (H2.out s2 (KWU.out.trans (C2.out.mono KWU.out.size))).mono ?_
       rintro e s3 ⟨rfl, hb⟩
       have C3 := zh (then' C2.out hb)
       clear hb
       clear x0 x1 x2 x3 x4 y0 y1 y2 y3 y4 y5
       obtain ⟨⟨x0, x1, x2, x3, x4⟩, ⟨y0, y1⟩, ⟨y2, y3⟩, y4, y5⟩ := HX.out s3 C3.out
       cases r2 with
       | false =>
        (try go_wp2_with fail)
        go_ret
        exact ⟨rfl, HAL.out.trans ((KWU.out.trans (C3.out.mono KWU.out.size)).mono HAL.out.size)⟩
       | true =>
        have h3t := HR.out (by first | rfl | trivial) (by first | rfl | trivial)
        subst h3t
        (try go_wp2_with fail)
        refine (H3.out s3 (KWU.out.trans (C3.out.mono KWU.out.size))).mono ?_
        rintro e s4 ⟨rfl, hb⟩
        have C4 := zh (then' C3.out hb)
        clear hb
        (try go_wp2_with fail)
        go_ret
        exact ⟨rfl, HAL.out.trans ((KWU.out.trans (C4.out.mono KWU.out.size)).mono HAL.out.size)⟩
   ·have hcl : ¬ 0 < cs.length := by rw [← HLL.out]; exact hL0
    have HX := zh (show ∀ v, Below u.heap.size u v → (fun w' : World => (w'.cell? ⟨w.heap.size, 0, none⟩ = some (.slice A1 cs.length c1) ∧ w'.cell? ⟨w.heap.size, 1, none⟩ = some (.slice A2 ns.length c2) ∧ w'.cell? ⟨w.heap.size, 2, none⟩ = some (.string ⟨ec.toArray⟩) ∧ w'.cell? ⟨w.heap.size, 3, none⟩ = some (.string ⟨en.toArray⟩) ∧ w'.cell? ⟨w.heap.size, 4, none⟩ = some (.string ⟨ed.toArray⟩)) ∧ (w'.cell? ⟨b8, 0, none⟩ = some (.int .i64 z1.1) ∧ w'.cell? ⟨b8, 1, none⟩ = some (.string ⟨z1.2.toArray⟩)) ∧ (w'.cell? ⟨b9, 0, none⟩ = some (.int .i64 z2.1) ∧ w'.cell? ⟨b9, 1, none⟩ = some (.string ⟨z2.2.toArray⟩)) ∧ (w'.cell? ⟨b7, 0, none⟩ = some (.int .i64 k3) ∧ w'.cell? ⟨b7, 1, none⟩ = some (.string ⟨d3.toArray⟩))) v from fun v hv => ⟨(HT.out v (HU.out.trans (hv.mono HU.out.size))).1, fa_cells ((hv.block _ (blk_lt HS0.out)).trans HS0.out), fa_cells ((hv.block _ (blk_lt HS1.out)).trans HS1.out), (HT.out v (HU.out.trans (hv.mono HU.out.size))).2.2.2⟩)
    have KWU := HKU
    obtain ⟨⟨x0, x1, x2, x3, x4⟩, ⟨y0, y1⟩, ⟨y2, y3⟩, y4, y5⟩ := HX.out u (Below.refl _ _)
    have hff := HFJ.out
    have h1 := fun v hv => HBJ.out HGP.out z1 z2 KF1.out KF2.out v hv
    have h2 := fun v hv => HFT.out HGP.out z2 (k3, d3) KF2.out v hv
    have h3 := fun v hv => HFT.out HGP.out z1 (k3, d3) KF1.out v hv
    obtain ⟨r1, e1⟩ : ∃ r, r = decide (joinF cs z1 z2 = z2) := ⟨_, rfl⟩
    obtain ⟨r2, e2⟩ : ∃ r, r = fitF cs z2 (k3, d3) := ⟨_, rfl⟩
    obtain ⟨r3, e3⟩ : ∃ r, r = fitF cs z1 (k3, d3) := ⟨_, rfl⟩
    have HR := zh (show r1 = true → r2 = true → r3 = true from fun q1 q2 => by
     rw [e3, EZ1.out]
     rw [e2, EZ2.out] at q2
     refine fit_le ((JK_below hff f1 f2).1 (toF_inj ?_)) q2
     rw [e1, EZ1.out, EZ2.out, join_toF hff.fine] at q1
     exact of_decide_eq_true q1)
    try dsimp only at h1 h2 h3
    simp only [← e1] at h1
    simp only [← e2] at h2
    simp only [← e3] at h3
    unfold faC at h1 h2 h3
    have H1 := zh h1; have H2 := zh h2; have H3 := zh h3
    clear h1 h2 h3 e1 e2 e3 hff
    (try go_wp2_with fail)
    refine (live_j u).mono ?_
    rintro e s1 ⟨rfl, hb⟩
    have C1 := zh (show Below u.heap.size u s1 from hb)
    clear hb
    clear x0 x1 x2 x3 x4 y0 y1 y2 y3 y4 y5
    obtain ⟨⟨x0, x1, x2, x3, x4⟩, ⟨y0, y1⟩, ⟨y2, y3⟩, y4, y5⟩ := HX.out s1 C1.out
    (try go_wp2_with fail)
    refine (H1.out s1 (KWU.out.trans (C1.out.mono KWU.out.size))).mono ?_
    rintro e s2 ⟨rfl, hb⟩
    have C2 := zh (then' C1.out hb)
    clear hb
    clear x0 x1 x2 x3 x4 y0 y1 y2 y3 y4 y5
    obtain ⟨⟨x0, x1, x2, x3, x4⟩, ⟨y0, y1⟩, ⟨y2, y3⟩, y4, y5⟩ := HX.out s2 C2.out
    cases r1 with
    | false =>
     (try go_wp2_with fail)
     go_ret
     exact ⟨rfl, HAL.out.trans ((KWU.out.trans (C2.out.mono KWU.out.size)).mono HAL.out.size)⟩
    | true =>
     (try go_wp2_with fail)
     refine (H2.out s2 (KWU.out.trans (C2.out.mono KWU.out.size))).mono ?_
     rintro e s3 ⟨rfl, hb⟩
     have C3 := zh (then' C2.out hb)
     clear hb
     clear x0 x1 x2 x3 x4 y0 y1 y2 y3 y4 y5
     obtain ⟨⟨x0, x1, x2, x3, x4⟩, ⟨y0, y1⟩, ⟨y2, y3⟩, y4, y5⟩ := HX.out s3 C3.out
     cases r2 with
     | false =>
      (try go_wp2_with fail)
      go_ret
      exact ⟨rfl, HAL.out.trans ((KWU.out.trans (C3.out.mono KWU.out.size)).mono HAL.out.size)⟩
     | true =>
      have h3t := HR.out (by first | rfl | trivial) (by first | rfl | trivial)
      subst h3t
      (try go_wp2_with fail)
      refine (H3.out s3 (KWU.out.trans (C3.out.mono KWU.out.size))).mono ?_
      rintro e s4 ⟨rfl, hb⟩
      have C4 := zh (then' C3.out hb)
      clear hb
      (try go_wp2_with fail)
      go_ret
      exact ⟨rfl, HAL.out.trans ((KWU.out.trans (C4.out.mono KWU.out.size)).mono HAL.out.size)⟩
end Go.Proofs.Ytapcnglnmlgocaa.joinFits

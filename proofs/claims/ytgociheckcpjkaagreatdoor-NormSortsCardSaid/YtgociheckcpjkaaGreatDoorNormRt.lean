/- NormRt -/
import Derived.Test.YtgociheckcpjkaaGreatDoorNormRu
namespace Go.Proofs.YtgociheckcpjkaaGreatDoor.prg
open Go.RowKit
open words kindp opp op kind word
set_option maxRecDepth 100000
set_option maxHeartbeats 8000000
set_option linter.all false
theorem rs_h (x y : PrM) (w : World) (h : ¬ (y.ec = x.ec ∧ y.en = x.en ∧ y.ed = x.ed ∧ y.cs.length = x.cs.length ∧ y.ns.length = x.ns.length)) : Calls Tryz.prog 8 #[.agg (prC x).toArray, .agg (prC y).toArray] w fun e w' => e = .returned (.bool false) ∧ Below w.heap.size w w' := by
 obtain ⟨cs, A1, c1, ns, A2, c2, ec, en, ed⟩ := x
 obtain ⟨ks, E1, z1, ns', E2, z2, ec', en', ed'⟩ := y
 dsimp only at h
 obtain ⟨n1, hn1⟩ : ∃ n, n = cs.length := ⟨_, rfl⟩
 obtain ⟨m1, hm1⟩ : ∃ n, n = ks.length := ⟨_, rfl⟩
 obtain ⟨n2, hn2⟩ : ∃ n, n = ns.length := ⟨_, rfl⟩
 obtain ⟨m2, hm2⟩ : ∃ n, n = ns'.length := ⟨_, rfl⟩
 unfold prC
 dsimp only
 rw [← hn1, ← hm1, ← hn2, ← hm2] at h ⊢
 clear hn1 hm1 hn2 hm2
 obtain ⟨W, hW⟩ : ∃ W, W = (w.alloc (.cells #[.slice A1 n1 c1, .slice A2 n2 c2, .string ⟨ec.toArray⟩, .string ⟨en.toArray⟩, .string ⟨ed.toArray⟩] 27)).alloc (.cells #[.slice E1 m1 z1, .slice E2 m2 z2, .string ⟨ec'.toArray⟩, .string ⟨en'.toArray⟩, .string ⟨ed'.toArray⟩] 27) := ⟨_, rfl⟩
 have hal : Below w.heap.size w W := by rw [hW]; exact ((Below.refl _ w).alloc (Nat.le_refl _) _).alloc (by simp) _
 have hbi : W.heap[w.heap.size]? = some (.cells #[.slice A1 n1 c1, .slice A2 n2 c2, .string ⟨ec.toArray⟩, .string ⟨en.toArray⟩, .string ⟨ed.toArray⟩] 27 (0, 0)) := by rw [hW]; exact (Below.heap_alloc _ _ _ (by simp)).trans (heap_alloc_new w _)
 have hbj : W.heap[w.heap.size + 1]? = some (.cells #[.slice E1 m1 z1, .slice E2 m2 z2, .string ⟨ec'.toArray⟩, .string ⟨en'.toArray⟩, .string ⟨ed'.toArray⟩] 27 (0, 0)) := by
  rw [hW]
  have := heap_alloc_new (w.alloc (.cells #[.slice A1 n1 c1, .slice A2 n2 c2, .string ⟨ec.toArray⟩, .string ⟨en.toArray⟩, .string ⟨ed.toArray⟩] 27)) (.cells #[.slice E1 m1 z1, .slice E2 m2 z2, .string ⟨ec'.toArray⟩, .string ⟨en'.toArray⟩, .string ⟨ed'.toArray⟩] 27)
  rwa [World.size_alloc] at this
 have HW := hh hW; have HAL := hh hal
 have d0 : W.cell? ⟨w.heap.size, 0, none⟩ = some (.slice A1 n1 c1) := cell_of_row _ _ 0 _ _ _ hbi
 have f0 : W.cell? ⟨w.heap.size + 1, 0, none⟩ = some (.slice E1 m1 z1) := cell_of_row _ _ 0 _ _ _ hbj
 have d1 : W.cell? ⟨w.heap.size, 1, none⟩ = some (.slice A2 n2 c2) := cell_of_row _ _ 1 _ _ _ hbi
 have f1 : W.cell? ⟨w.heap.size + 1, 1, none⟩ = some (.slice E2 m2 z2) := cell_of_row _ _ 1 _ _ _ hbj
 have d2 : W.cell? ⟨w.heap.size, 2, none⟩ = some (.string ⟨ec.toArray⟩) := cell_of_row _ _ 2 _ _ _ hbi
 have f2 : W.cell? ⟨w.heap.size + 1, 2, none⟩ = some (.string ⟨ec'.toArray⟩) := cell_of_row _ _ 2 _ _ _ hbj
 have d3 : W.cell? ⟨w.heap.size, 3, none⟩ = some (.string ⟨en.toArray⟩) := cell_of_row _ _ 3 _ _ _ hbi
 have f3 : W.cell? ⟨w.heap.size + 1, 3, none⟩ = some (.string ⟨en'.toArray⟩) := cell_of_row _ _ 3 _ _ _ hbj
 have d4 : W.cell? ⟨w.heap.size, 4, none⟩ = some (.string ⟨ed.toArray⟩) := cell_of_row _ _ 4 _ _ _ hbi
 have f4 : W.cell? ⟨w.heap.size + 1, 4, none⟩ = some (.string ⟨ed'.toArray⟩) := cell_of_row _ _ 4 _ _ _ hbj
 have hd : ((ec == ec') = false) ∨ ((ec == ec') = true ∧ (en == en') = false) ∨ ((ec == ec') = true ∧ (en == en') = true ∧ (ed == ed') = false) ∨ ((ec == ec') = true ∧ (en == en') = true ∧ (ed == ed') = true ∧ ((n1 : Int) != (m1 : Int)) = true) ∨ ((ec == ec') = true ∧ (en == en') = true ∧ (ed == ed') = true ∧ ((n1 : Int) != (m1 : Int)) = false ∧ ((n2 : Int) != (m2 : Int)) = true) := by
  cases k1 : (ec == ec') with
  | false => exact .inl rfl
  | true =>
   cases k2 : (en == en') with
   | false => exact .inr (.inl ⟨rfl, rfl⟩)
   | true =>
    cases k3 : (ed == ed') with
    | false => exact .inr (.inr (.inl ⟨rfl, rfl, rfl⟩))
    | true =>
     cases k4 : ((n1 : Int) != (m1 : Int)) with
     | true => exact .inr (.inr (.inr (.inl ⟨rfl, rfl, rfl, rfl⟩)))
     | false =>
      cases k5 : ((n2 : Int) != (m2 : Int)) with
      | true => exact .inr (.inr (.inr (.inr (⟨rfl, rfl, rfl, rfl, rfl⟩))))
      | false =>
       refine absurd ?_ h
       simp at k1 k2 k3 k4 k5
       refine ⟨?_, ?_, ?_, ?_, ?_⟩ <;> first | omega | (simp_all; done) | (symm; assumption)
 clear hW hal hbi hbj h
 rcases hd with k1 | ⟨k1, k2⟩ | ⟨k1, k2, k3⟩ | ⟨k1, k2, k3, k4⟩ | ⟨k1, k2, k3, k4, k5⟩
 ·go_enter Tryz.func8, Tryz.ntmps8
  go_wp2_with fail
  (try simp only [World.size_alloc])
  (try rw [← HW.out])
  (try go_wp2_with fail)
  go_ret
  first | exact ⟨rfl, HAL.out⟩ | exact ⟨rfl, ((Below.refl _ w).alloc (Nat.le_refl _) _).alloc (by simp) _⟩
 ·go_enter Tryz.func8, Tryz.ntmps8
  go_wp2_with fail
  (try simp only [World.size_alloc])
  (try rw [← HW.out])
  (try go_wp2_with fail)
  go_ret
  first | exact ⟨rfl, HAL.out⟩ | exact ⟨rfl, ((Below.refl _ w).alloc (Nat.le_refl _) _).alloc (by simp) _⟩
 ·go_enter Tryz.func8, Tryz.ntmps8
  go_wp2_with fail
  (try simp only [World.size_alloc])
  (try rw [← HW.out])
  (try go_wp2_with fail)
  go_ret
  first | exact ⟨rfl, HAL.out⟩ | exact ⟨rfl, ((Below.refl _ w).alloc (Nat.le_refl _) _).alloc (by simp) _⟩
 ·have j4 : ((n1 : Int) == (m1 : Int)) = false := by cases h : ((n1 : Int) == (m1 : Int)) <;> simp_all
  go_enter Tryz.func8, Tryz.ntmps8
  go_wp2_with fail
  (try simp only [World.size_alloc])
  (try rw [← HW.out])
  (try go_wp2_with fail)
  go_ret
  first | exact ⟨rfl, HAL.out⟩ | exact ⟨rfl, ((Below.refl _ w).alloc (Nat.le_refl _) _).alloc (by simp) _⟩
 ·have j4 : ((n1 : Int) == (m1 : Int)) = true := by cases h : ((n1 : Int) == (m1 : Int)) <;> simp_all
  have j5 : ((n2 : Int) == (m2 : Int)) = false := by cases h : ((n2 : Int) == (m2 : Int)) <;> simp_all
  go_enter Tryz.func8, Tryz.ntmps8
  go_wp2_with fail
  (try simp only [World.size_alloc])
  (try rw [← HW.out])
  (try go_wp2_with fail)
  go_ret
  first | exact ⟨rfl, HAL.out⟩ | exact ⟨rfl, ((Below.refl _ w).alloc (Nat.le_refl _) _).alloc (by simp) _⟩
theorem rs_t (x y : PrM) (w : World) (hx : PrOk w x) (hy : PrOk w y) (bx : PrBd x) (by' : PrBd y) (h : y.ec = x.ec ∧ y.en = x.en ∧ y.ed = x.ed ∧ y.cs.length = x.cs.length ∧ y.ns.length = x.ns.length) : Calls Tryz.prog 8 #[.agg (prC x).toArray, .agg (prC y).toArray] w fun e w' => e = .returned (.bool (decide (pP x = pP y))) ∧ Below w.heap.size w w' := by
 have HX := hh (fun v (hv : Below w.heap.size w v) => hx.below hv); have HY := hh (fun v (hv : Below w.heap.size w v) => hy.below hv)
 have HBX := hh bx; have HBY := hh by'
 obtain ⟨e3, e4, e5, l1, l2⟩ := h
 obtain ⟨R, hR⟩ : ∃ R : Bool, R = decide (pP x = pP y) := ⟨_, rfl⟩
 have HRT : x.cs.map pC = y.cs.map pC → x.ns = y.ns → R = true := fun k1 k2 => by rw [hR]; exact decide_eq_true (by unfold pP; rw [e3, e4, e5, k1, k2])
 have HRA : x.cs.map pC ≠ y.cs.map pC → R = false := fun k => by rw [hR]; exact decide_eq_false (fun e => k (congrArg PrP.cs e))
 have HRB : x.ns ≠ y.ns → R = false := fun k => by rw [hR]; exact decide_eq_false (fun e => k (congrArg PrP.ns e))
 rw [← hR]
 clear hR hx hy bx by'
 obtain ⟨cs, A1, c1, ns, A2, c2, ec, en, ed⟩ := x
 obtain ⟨ks, E1, z1, ns', E2, z2, ec', en', ed'⟩ := y
 dsimp only at e3 e4 e5 l1 l2 HRT HRA HRB
 subst e3; subst e4; subst e5
 obtain ⟨n1, hn1⟩ : ∃ n, n = cs.length := ⟨_, rfl⟩
 obtain ⟨n2, hn2⟩ : ∃ n, n = ns.length := ⟨_, rfl⟩
 have n1I : (n1 : Int) ≤ 281474976710656 := by have := HBX.out.1.1; dsimp only at this; omega
 have n2I : (n2 : Int) ≤ 281474976710656 := by have := HBX.out.2.1.1; dsimp only at this; omega
 have HT := hh HRT; have HFA := hh HRA; have HFB := hh HRB
 have HK1 := hh (show n1 = ks.length from by rw [l1]; exact hn1); have HK2 := hh (show n2 = ns'.length from by rw [l2]; exact hn2)
 clear HRT HRA HRB
 unfold prC
 dsimp only
 rw [l1, l2, ← hn1, ← hn2]
 obtain ⟨W, hW⟩ : ∃ W, W = (w.alloc (.cells #[.slice A1 n1 c1, .slice A2 n2 c2, .string ⟨ec'.toArray⟩, .string ⟨en'.toArray⟩, .string ⟨ed'.toArray⟩] 27)).alloc (.cells #[.slice E1 n1 z1, .slice E2 n2 z2, .string ⟨ec'.toArray⟩, .string ⟨en'.toArray⟩, .string ⟨ed'.toArray⟩] 27) := ⟨_, rfl⟩
 have hal : Below w.heap.size w W := by rw [hW]; exact ((Below.refl _ w).alloc (Nat.le_refl _) _).alloc (by simp) _
 have hbi : W.heap[w.heap.size]? = some (.cells #[.slice A1 n1 c1, .slice A2 n2 c2, .string ⟨ec'.toArray⟩, .string ⟨en'.toArray⟩, .string ⟨ed'.toArray⟩] 27 (0, 0)) := by rw [hW]; exact (Below.heap_alloc _ _ _ (by simp)).trans (heap_alloc_new w _)
 have hbj : W.heap[w.heap.size + 1]? = some (.cells #[.slice E1 n1 z1, .slice E2 n2 z2, .string ⟨ec'.toArray⟩, .string ⟨en'.toArray⟩, .string ⟨ed'.toArray⟩] 27 (0, 0)) := by
  rw [hW]
  have := heap_alloc_new (w.alloc (.cells #[.slice A1 n1 c1, .slice A2 n2 c2, .string ⟨ec'.toArray⟩, .string ⟨en'.toArray⟩, .string ⟨ed'.toArray⟩] 27)) (.cells #[.slice E1 n1 z1, .slice E2 n2 z2, .string ⟨ec'.toArray⟩, .string ⟨en'.toArray⟩, .string ⟨ed'.toArray⟩] 27)
  rwa [World.size_alloc] at this
 have HW := hh hW; have HAL := hh hal; have HBI := hh hbi; have HBJ := hh hbj; have G1 := hh (blk_lt hbi); have G2 := hh (blk_lt hbj)
 have d0 : W.cell? ⟨w.heap.size, 0, none⟩ = some (.slice A1 n1 c1) := cell_of_row _ _ 0 _ _ _ hbi
 have f0 : W.cell? ⟨w.heap.size + 1, 0, none⟩ = some (.slice E1 n1 z1) := cell_of_row _ _ 0 _ _ _ hbj
 have d1 : W.cell? ⟨w.heap.size, 1, none⟩ = some (.slice A2 n2 c2) := cell_of_row _ _ 1 _ _ _ hbi
 have f1 : W.cell? ⟨w.heap.size + 1, 1, none⟩ = some (.slice E2 n2 z2) := cell_of_row _ _ 1 _ _ _ hbj
 have d2 : W.cell? ⟨w.heap.size, 2, none⟩ = some (.string ⟨ec'.toArray⟩) := cell_of_row _ _ 2 _ _ _ hbi
 have f2 : W.cell? ⟨w.heap.size + 1, 2, none⟩ = some (.string ⟨ec'.toArray⟩) := cell_of_row _ _ 2 _ _ _ hbj
 have d3 : W.cell? ⟨w.heap.size, 3, none⟩ = some (.string ⟨en'.toArray⟩) := cell_of_row _ _ 3 _ _ _ hbi
 have f3 : W.cell? ⟨w.heap.size + 1, 3, none⟩ = some (.string ⟨en'.toArray⟩) := cell_of_row _ _ 3 _ _ _ hbj
 have d4 : W.cell? ⟨w.heap.size, 4, none⟩ = some (.string ⟨ed'.toArray⟩) := cell_of_row _ _ 4 _ _ _ hbi
 have f4 : W.cell? ⟨w.heap.size + 1, 4, none⟩ = some (.string ⟨ed'.toArray⟩) := cell_of_row _ _ 4 _ _ _ hbj
 have HC := hh (show ∀ v : World, Below W.heap.size W v → v.cell? ⟨w.heap.size, 0, none⟩ = some (.slice A1 n1 c1) ∧ v.cell? ⟨w.heap.size + 1, 0, none⟩ = some (.slice E1 n1 z1) from fun v hv => ⟨cell_of_row _ _ 0 _ _ _ ((hv.block _ G1.out).trans HBI.out), cell_of_row _ _ 0 _ _ _ ((hv.block _ G2.out).trans HBJ.out)⟩)
 have HCa := hh (show ∀ v : World, Below W.heap.size W v → v.cell? ⟨w.heap.size, 1, none⟩ = some (.slice A2 n2 c2) ∧ v.cell? ⟨w.heap.size + 1, 1, none⟩ = some (.slice E2 n2 z2) from fun v hv => ⟨cell_of_row _ _ 1 _ _ _ ((hv.block _ G1.out).trans HBI.out), cell_of_row _ _ 1 _ _ _ ((hv.block _ G2.out).trans HBJ.out)⟩)
 have Ra1 := hh (fun v (hv : Below W.heap.size W v) => (HX.out _ (hal.trans (hv.mono hal.size))).2.1.2)
 have Ra2 := hh (fun v (hv : Below W.heap.size W v) => (HY.out _ (hal.trans (hv.mono hal.size))).2.1.2)
 have HR1 := hh (fun v (hv : Below W.heap.size W v) => (HX.out _ (hal.trans (hv.mono hal.size))).1.2)
 have HR2 := hh (fun v (hv : Below W.heap.size W v) => (HY.out _ (hal.trans (hv.mono hal.size))).1.2)
 dsimp only at Ra1 Ra2 HR1 HR2
 have k1 : (ec' == ec') = true := by simp
 have k2 : (en' == en') = true := by simp
 have k3 : (ed' == ed') = true := by simp
 have k5 : ((n1 : Int) != (n1 : Int)) = false := by simp
 have k6 : ((n2 : Int) != (n2 : Int)) = false := by simp
 have HN1 := hh hn1; have HN2 := hh hn2
 clear hW hal hbi hbj l1 l2 hn1 hn2
 go_enter Tryz.func8, Tryz.ntmps8
 go_wp2_with fail
 try simp only [World.size_alloc]
 rw [← HW.out]
 (try go_wp2_with fail)
 clear d0 f0 d1 f1 d2 f2 d3 f3 d4 f4
 go_loopw [5] (fun i wr => ∃ k : Nat, i = .int .i64 (k : Int) ∧ k ≤ n1 ∧ (cs.take k).map pC = (ks.take k).map pC ∧ Below W.heap.size W wr) (fun i _ => n1 - (intOf i).toNat)
 case atStart => exact ⟨0, rfl, Nat.zero_le _, rfl, Below.refl _ _⟩
 case round =>
  obtain ⟨k, rfl, hk, hpre, hbw⟩ := hrel
  have HP := hh hpre
  clear hpre
  obtain ⟨wa, hwa⟩ : ∃ u, u = wr := ⟨_, rfl⟩
  subst hwa
  have Bwa := hh hbw
  obtain ⟨g0, g1⟩ := HC.out _ hbw
  by_cases hlt : k < n1
  ·have hltI : (k : Int) < (n1 : Int) := by omega
   obtain ⟨x, hx⟩ : ∃ x, cs[k]? = some x := ⟨cs[k]'(by rw [← HN1.out]; exact hlt), List.getElem?_eq_getElem _⟩
   obtain ⟨y, hy⟩ : ∃ y, ks[k]? = some y := ⟨ks[k]'(by rw [← HK1.out]; exact hlt), List.getElem?_eq_getElem _⟩
   have HX1 := hh hx; have HY1 := hh hy
   obtain ⟨a, ea, ha, s0, s1, s2, s3, s4, s5, s6⟩ := cl_at (HR1.out _ hbw) hx
   obtain ⟨b, eb, hb, t0, t1, t2, t3, t4, t5, t6⟩ := cl_at (HR2.out _ hbw) hy
   subst ea
   subst eb
   have HF := hh (show ∀ u : World, Below W.heap.size W u → u.cell? ⟨w.heap.size, 0, none⟩ = some (.slice (some a) n1 c1) ∧ u.cell? ⟨w.heap.size + 1, 0, none⟩ = some (.slice (some b) n1 z1) ∧ u.cell? (a.add (k * 7)) = some (.string ⟨x.nm.toArray⟩) ∧ u.cell? ⟨(a.add (k * 7)).block, (a.add (k * 7)).off + 1, none⟩ = some (.string ⟨x.su.toArray⟩) ∧ u.cell? ⟨(a.add (k * 7)).block, (a.add (k * 7)).off + 2, none⟩ = some (.bool x.fc) ∧ u.cell? ⟨(a.add (k * 7)).block, (a.add (k * 7)).off + 3, none⟩ = some (.bool x.ab) ∧ u.cell? ⟨(a.add (k * 7)).block, (a.add (k * 7)).off + 4, none⟩ = some (.slice x.A1 x.is.length x.c1) ∧ u.cell? ⟨(a.add (k * 7)).block, (a.add (k * 7)).off + 5, none⟩ = some (.slice x.A2 x.fs.length x.c2) ∧ u.cell? ⟨(a.add (k * 7)).block, (a.add (k * 7)).off + 6, none⟩ = some (.slice x.A3 x.ms.length x.c3) ∧ u.cell? (b.add (k * 7)) = some (.string ⟨y.nm.toArray⟩) ∧ u.cell? ⟨(b.add (k * 7)).block, (b.add (k * 7)).off + 1, none⟩ = some (.string ⟨y.su.toArray⟩) ∧ u.cell? ⟨(b.add (k * 7)).block, (b.add (k * 7)).off + 2, none⟩ = some (.bool y.fc) ∧ u.cell? ⟨(b.add (k * 7)).block, (b.add (k * 7)).off + 3, none⟩ = some (.bool y.ab) ∧ u.cell? ⟨(b.add (k * 7)).block, (b.add (k * 7)).off + 4, none⟩ = some (.slice y.A1 y.is.length y.c1) ∧ u.cell? ⟨(b.add (k * 7)).block, (b.add (k * 7)).off + 5, none⟩ = some (.slice y.A2 y.fs.length y.c2) ∧ u.cell? ⟨(b.add (k * 7)).block, (b.add (k * 7)).off + 6, none⟩ = some (.slice y.A3 y.ms.length y.c3) from fun u hu => by
    obtain ⟨_, e1, _, p0, p1, p2, p3, p4, p5, p6⟩ := cl_at (HR1.out _ hu) hx
    obtain ⟨_, e2, _, r0, r1, r2, r3, r4, r5, r6⟩ := cl_at (HR2.out _ hu) hy
    cases e1; cases e2
    exact ⟨(HC.out _ hu).1, (HC.out _ hu).2, p0, p1, p2, p3, p4, p5, p6, r0, r1, r2, r3, r4, r5, r6⟩)
   cases hie : decide (pC x = pC y) with
   | true =>
     have HS := hh (fun u (hu : Below wa.heap.size wa u) => rsC_g x y u ((HX.out _ (HAL.out.trans ((Bwa.out.trans (hu.mono Bwa.out.size)).mono HAL.out.size))).2.2 x (List.mem_of_getElem? hx)) ((HY.out _ (HAL.out.trans ((Bwa.out.trans (hu.mono Bwa.out.size)).mono HAL.out.size))).2.2 y (List.mem_of_getElem? hy)) (HBX.out.1.2 x (List.mem_of_getElem? hx)) (HBY.out.1.2 y (List.mem_of_getElem? hy)))
     rw [hie] at HS
     dsimp only [clC] at HS
     clear s0 t0 s1 t1 s2 t2 s3 t3 s4 t4 s5 t5 s6 t6 g0 g1 hx hy ha hb hbw
     obtain ⟨g0, g1, s0, s1, s2, s3, s4, s5, s6, t0, t1, t2, t3, t4, t5, t6⟩ := HF.out _ Bwa.out
     go_wp2_with fail
     refine wp_region_held_drew (S := (fun w' => w'.cell? ⟨w.heap.size, 0, none⟩ = some (.slice (some a) n1 c1) ∧ w'.cell? ⟨w.heap.size + 1, 0, none⟩ = some (.slice (some b) n1 z1) ∧ w'.cell? (a.add (k * 7)) = some (.string ⟨x.nm.toArray⟩) ∧ w'.cell? ⟨(a.add (k * 7)).block, (a.add (k * 7)).off + 1, none⟩ = some (.string ⟨x.su.toArray⟩) ∧ w'.cell? ⟨(a.add (k * 7)).block, (a.add (k * 7)).off + 2, none⟩ = some (.bool x.fc) ∧ w'.cell? ⟨(a.add (k * 7)).block, (a.add (k * 7)).off + 3, none⟩ = some (.bool x.ab) ∧ w'.cell? ⟨(a.add (k * 7)).block, (a.add (k * 7)).off + 4, none⟩ = some (.slice x.A1 x.is.length x.c1) ∧ w'.cell? ⟨(a.add (k * 7)).block, (a.add (k * 7)).off + 5, none⟩ = some (.slice x.A2 x.fs.length x.c2) ∧ w'.cell? ⟨(a.add (k * 7)).block, (a.add (k * 7)).off + 6, none⟩ = some (.slice x.A3 x.ms.length x.c3) ∧ w'.cell? (b.add (k * 7)) = some (.string ⟨y.nm.toArray⟩) ∧ w'.cell? ⟨(b.add (k * 7)).block, (b.add (k * 7)).off + 1, none⟩ = some (.string ⟨y.su.toArray⟩) ∧ w'.cell? ⟨(b.add (k * 7)).block, (b.add (k * 7)).off + 2, none⟩ = some (.bool y.fc) ∧ w'.cell? ⟨(b.add (k * 7)).block, (b.add (k * 7)).off + 3, none⟩ = some (.bool y.ab) ∧ w'.cell? ⟨(b.add (k * 7)).block, (b.add (k * 7)).off + 4, none⟩ = some (.slice y.A1 y.is.length y.c1) ∧ w'.cell? ⟨(b.add (k * 7)).block, (b.add (k * 7)).off + 5, none⟩ = some (.slice y.A2 y.fs.length y.c2) ∧ w'.cell? ⟨(b.add (k * 7)).block, (b.add (k * 7)).off + 6, none⟩ = some (.slice y.A3 y.ms.length y.c3))) (by kernel_rfl) ?_ (fun hHeld => ?_)
     ·exact HF.out wa Bwa.out
     refine tkp 0 rfl ?_
     refine tkp 1 rfl ?_
     refine tkp 2 rfl ?_
     refine tkp 3 rfl ?_
     refine tkp 4 rfl ?_
     refine tkp 5 rfl ?_
     refine tkp 6 rfl ?_
     refine tkp 7 rfl ?_
     refine tkp 8 rfl ?_
     refine tkp 9 rfl ?_
     refine rdy 10 rfl (fun K hK => ?_)
     go_simp
     refine (HS.out _ (by first | exact Below.refl _ _ | exact overD (Below.refl _ _))).mono ?_; rintro e u1 ⟨rfl, hb⟩; have B1 := hh (show Below W.heap.size W u1 from (by first | exact Bwa.out.trans (hb.mono Bwa.out.size) | exact Bwa.out.trans (Below.mono (under hb) Bwa.out.size))); clear hb; go_wp2_with fail
     refine hK.out _ _ (HF.out _ B1.out) (fun hHeld => ?_)
     clear hK K
     try simp only [puts]
     refine tkp 11 rfl ?_
     refine wpAnyH_done (by kernel_rfl) ?_ _
     clear g0 g1 s0 t0 s1 t1 s2 t2 s3 t3 s4 t4 s5 t5 s6 t6
     go_wp2
     go_roundw
     case rel => exact ⟨k + 1, by go_num, by omega, by rw [List.take_add_one, List.take_add_one, List.map_append, List.map_append, HP.out, HX1.out, HY1.out]; simp [of_decide_eq_true hie], B1.out⟩
     case measure => simp [intOf]; omega
   | false =>
     have hf : R = false := HFA.out (fun e => by
      have h1 : (cs.map pC)[k]? = some (pC x) := by rw [List.getElem?_map, hx]; rfl
      rw [e, List.getElem?_map, hy] at h1
      exact of_decide_eq_false hie (Option.some.inj h1).symm)
     have HS := hh (fun u (hu : Below wa.heap.size wa u) => rsC_g x y u ((HX.out _ (HAL.out.trans ((Bwa.out.trans (hu.mono Bwa.out.size)).mono HAL.out.size))).2.2 x (List.mem_of_getElem? hx)) ((HY.out _ (HAL.out.trans ((Bwa.out.trans (hu.mono Bwa.out.size)).mono HAL.out.size))).2.2 y (List.mem_of_getElem? hy)) (HBX.out.1.2 x (List.mem_of_getElem? hx)) (HBY.out.1.2 y (List.mem_of_getElem? hy)))
     rw [hie] at HS
     dsimp only [clC] at HS
     clear s0 t0 s1 t1 s2 t2 s3 t3 s4 t4 s5 t5 s6 t6 g0 g1 hx hy ha hb hbw
     obtain ⟨g0, g1, s0, s1, s2, s3, s4, s5, s6, t0, t1, t2, t3, t4, t5, t6⟩ := HF.out _ Bwa.out
     go_wp2_with fail
     refine wp_region_held_drew (S := (fun w' => w'.cell? ⟨w.heap.size, 0, none⟩ = some (.slice (some a) n1 c1) ∧ w'.cell? ⟨w.heap.size + 1, 0, none⟩ = some (.slice (some b) n1 z1) ∧ w'.cell? (a.add (k * 7)) = some (.string ⟨x.nm.toArray⟩) ∧ w'.cell? ⟨(a.add (k * 7)).block, (a.add (k * 7)).off + 1, none⟩ = some (.string ⟨x.su.toArray⟩) ∧ w'.cell? ⟨(a.add (k * 7)).block, (a.add (k * 7)).off + 2, none⟩ = some (.bool x.fc) ∧ w'.cell? ⟨(a.add (k * 7)).block, (a.add (k * 7)).off + 3, none⟩ = some (.bool x.ab) ∧ w'.cell? ⟨(a.add (k * 7)).block, (a.add (k * 7)).off + 4, none⟩ = some (.slice x.A1 x.is.length x.c1) ∧ w'.cell? ⟨(a.add (k * 7)).block, (a.add (k * 7)).off + 5, none⟩ = some (.slice x.A2 x.fs.length x.c2) ∧ w'.cell? ⟨(a.add (k * 7)).block, (a.add (k * 7)).off + 6, none⟩ = some (.slice x.A3 x.ms.length x.c3) ∧ w'.cell? (b.add (k * 7)) = some (.string ⟨y.nm.toArray⟩) ∧ w'.cell? ⟨(b.add (k * 7)).block, (b.add (k * 7)).off + 1, none⟩ = some (.string ⟨y.su.toArray⟩) ∧ w'.cell? ⟨(b.add (k * 7)).block, (b.add (k * 7)).off + 2, none⟩ = some (.bool y.fc) ∧ w'.cell? ⟨(b.add (k * 7)).block, (b.add (k * 7)).off + 3, none⟩ = some (.bool y.ab) ∧ w'.cell? ⟨(b.add (k * 7)).block, (b.add (k * 7)).off + 4, none⟩ = some (.slice y.A1 y.is.length y.c1) ∧ w'.cell? ⟨(b.add (k * 7)).block, (b.add (k * 7)).off + 5, none⟩ = some (.slice y.A2 y.fs.length y.c2) ∧ w'.cell? ⟨(b.add (k * 7)).block, (b.add (k * 7)).off + 6, none⟩ = some (.slice y.A3 y.ms.length y.c3))) (by kernel_rfl) ?_ (fun hHeld => ?_)
     ·exact HF.out wa Bwa.out
     refine tkp 0 rfl ?_
     refine tkp 1 rfl ?_
     refine tkp 2 rfl ?_
     refine tkp 3 rfl ?_
     refine tkp 4 rfl ?_
     refine tkp 5 rfl ?_
     refine tkp 6 rfl ?_
     refine tkp 7 rfl ?_
     refine tkp 8 rfl ?_
     refine tkp 9 rfl ?_
     refine rdy 10 rfl (fun K hK => ?_)
     go_simp
     refine (HS.out _ (by first | exact Below.refl _ _ | exact overD (Below.refl _ _))).mono ?_; rintro e u1 ⟨rfl, hb⟩; have B1 := hh (show Below W.heap.size W u1 from (by first | exact Bwa.out.trans (hb.mono Bwa.out.size) | exact Bwa.out.trans (Below.mono (under hb) Bwa.out.size))); clear hb; go_wp2_with fail
     refine hK.out _ _ (HF.out _ B1.out) (fun hHeld => ?_)
     clear hK K
     try simp only [puts]
     refine tkp 11 rfl ?_
     refine wpAnyH_done (by kernel_rfl) ?_ _
     clear g0 g1 s0 t0 s1 t1 s2 t2 s3 t3 s4 t4 s5 t5 s6 t6
     go_wp2
     go_ret
     exact ⟨by first | rfl | (rw [hf]; rfl) | rw [hf], HAL.out.trans (B1.out.mono HAL.out.size)⟩
  ·have hltI : ¬ (k : Int) < (n1 : Int) := by omega
   have HQ1 := hh (show cs.map pC = ks.map pC from by
    have h := HP.out
    rw [List.take_of_length_le (by rw [← HN1.out]; omega), List.take_of_length_le (by rw [← HK1.out]; omega)] at h
    exact h)
   clear hbw hk hlt HP
   go_wp2_with fail
   go_loopw [6] (fun i wr => ∃ k : Nat, i = .int .i64 (k : Int) ∧ k ≤ n2 ∧ ns.take k = ns'.take k ∧ Below W.heap.size W wr) (fun i _ => n2 - (intOf i).toNat)
   case atStart => exact ⟨0, rfl, Nat.zero_le _, rfl, Bwa.out⟩
   case round =>
    obtain ⟨k, rfl, hk, hpre, hbw⟩ := hrel
    have HP := hh hpre
    clear hpre
    obtain ⟨wb, hwb⟩ : ∃ u, u = wr := ⟨_, rfl⟩
    subst hwb
    have Bwb := hh hbw
    obtain ⟨g0, g1⟩ := HCa.out _ hbw
    by_cases hlt : k < n2
    ·have hltI : (k : Int) < (n2 : Int) := by omega
     obtain ⟨s, hs⟩ : ∃ s, ns[k]? = some s := ⟨ns[k]'(by rw [← HN2.out]; exact hlt), List.getElem?_eq_getElem _⟩
     obtain ⟨s', hs'⟩ : ∃ s, ns'[k]? = some s := ⟨ns'[k]'(by rw [← HK2.out]; exact hlt), List.getElem?_eq_getElem _⟩
     obtain ⟨a, ea, ha, s0⟩ := (Ra1.out _ hbw).at_ (sx_get hs)
     obtain ⟨b, eb, hb, t0⟩ := (Ra2.out _ hbw).at_ (sx_get hs')
     subst ea
     subst eb
     have HX1 := hh hs; have HY1 := hh hs'
     by_cases hss : s = s'
     ·subst hss
      have kk : (s == s) = true := by simp
      clear hs hs' ha hb hbw
      go_wp2
      go_quiet (fail)
      go_wp2
      go_roundw
      case rel => exact ⟨k + 1, by go_num, by omega, by rw [List.take_add_one, List.take_add_one, HP.out, HX1.out, HY1.out], over Bwb.out⟩
      case measure => simp [intOf]; omega
     ·have kk : (s == s') = false := by simpa using hss
      have hf : R = false := HFB.out (fun e => hss (by rw [e, hs'] at hs; exact (Option.some.inj hs).symm))
      clear hs hs' ha hb hbw hss
      go_wp2
      go_quiet (fail)
      go_wp2
      go_ret
      exact ⟨by first | rfl | (rw [hf]; rfl) | rw [hf], HAL.out.trans ((over Bwb.out).mono HAL.out.size)⟩
    ·have hltI : ¬ (k : Int) < (n2 : Int) := by omega
     have hR : R = true := HT.out HQ1.out (by
      have h := HP.out
      rw [List.take_of_length_le (by rw [← HN2.out]; omega), List.take_of_length_le (by rw [← HK2.out]; omega)] at h
      exact h)
     clear hbw
     go_wp2
     go_ret
     exact ⟨by first | rfl | (rw [hR]; rfl) | rw [hR], HAL.out.trans (Bwb.out.mono HAL.out.size)⟩
theorem rs_g (x y : PrM) (w : World) (hx : PrOk w x) (hy : PrOk w y) (bx : PrBd x) (by' : PrBd y) : Calls Tryz.prog 8 #[.agg (prC x).toArray, .agg (prC y).toArray] w fun e w' => e = .returned (.bool (decide (pP x = pP y))) ∧ Below w.heap.size w w' := by
 by_cases h : y.ec = x.ec ∧ y.en = x.en ∧ y.ed = x.ed ∧ y.cs.length = x.cs.length ∧ y.ns.length = x.ns.length
 ·exact rs_t x y w hx hy bx by' h
 ·rw [show decide (pP x = pP y) = false from decide_eq_false (fun e => h ⟨(congrArg PrP.ec e).symm, (congrArg PrP.en e).symm, (congrArg PrP.ed e).symm, by have := congrArg (fun p => (PrP.cs p).length) e; simpa [pP] using this.symm, by have := congrArg (fun p => (PrP.ns p).length) e; simpa [pP] using this.symm⟩)]
  exact rs_h x y w h
end Go.Proofs.YtgociheckcpjkaaGreatDoor.prg

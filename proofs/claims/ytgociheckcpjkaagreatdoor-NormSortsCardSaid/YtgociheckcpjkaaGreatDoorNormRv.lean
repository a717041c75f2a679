/- NormRv -/
import Derived.Test.YtgociheckcpjkaaGreatDoorNormRw
namespace Go.Proofs.YtgociheckcpjkaaGreatDoor.prg
open Go.RowKit
open words kindp opp op kind word
set_option maxRecDepth 100000
set_option maxHeartbeats 8000000
set_option linter.all false
theorem rsM_h (x y : MeM) (w : World) (h : ¬ (y.nm = x.nm ∧ y.ds = x.ds ∧ y.st = x.st ∧ y.ab = x.ab ∧ y.rg = x.rg ∧ y.co.length = x.co.length)) : Calls Tryz.prog 68 #[.agg (meC x).toArray, .agg (meC y).toArray] w fun e w' => e = .returned (.bool false) ∧ Below w.heap.size w w' := by
 obtain ⟨nm, ds, st, ab, rg, co, A, c⟩ := x
 obtain ⟨nm', ds', st', ab', rg', ko, E, z⟩ := y
 dsimp only at h
 obtain ⟨n, hn⟩ : ∃ n, n = co.length := ⟨_, rfl⟩
 obtain ⟨m, hm⟩ : ∃ n, n = ko.length := ⟨_, rfl⟩
 unfold meC
 dsimp only
 rw [← hn, ← hm] at h ⊢
 clear hn hm
 obtain ⟨W, hW⟩ : ∃ W, W = (w.alloc (.cells #[.string ⟨nm.toArray⟩, .string ⟨ds.toArray⟩, .bool st, .bool ab, .int .i64 rg, .slice A n c] 38)).alloc (.cells #[.string ⟨nm'.toArray⟩, .string ⟨ds'.toArray⟩, .bool st', .bool ab', .int .i64 rg', .slice E m z] 38) := ⟨_, rfl⟩
 have hal : Below w.heap.size w W := by rw [hW]; exact ((Below.refl _ w).alloc (Nat.le_refl _) _).alloc (by simp) _
 have hbi : W.heap[w.heap.size]? = some (.cells #[.string ⟨nm.toArray⟩, .string ⟨ds.toArray⟩, .bool st, .bool ab, .int .i64 rg, .slice A n c] 38 (0, 0)) := by rw [hW]; exact (Below.heap_alloc _ _ _ (by simp)).trans (heap_alloc_new w _)
 have hbj : W.heap[w.heap.size + 1]? = some (.cells #[.string ⟨nm'.toArray⟩, .string ⟨ds'.toArray⟩, .bool st', .bool ab', .int .i64 rg', .slice E m z] 38 (0, 0)) := by
  rw [hW]
  have := heap_alloc_new (w.alloc (.cells #[.string ⟨nm.toArray⟩, .string ⟨ds.toArray⟩, .bool st, .bool ab, .int .i64 rg, .slice A n c] 38)) (.cells #[.string ⟨nm'.toArray⟩, .string ⟨ds'.toArray⟩, .bool st', .bool ab', .int .i64 rg', .slice E m z] 38)
  rwa [World.size_alloc] at this
 have HW := hh hW; have HAL := hh hal
 have d0 : W.cell? ⟨w.heap.size, 0, none⟩ = some (.string ⟨nm.toArray⟩) := cell_of_row _ _ 0 _ _ _ hbi
 have f0 : W.cell? ⟨w.heap.size + 1, 0, none⟩ = some (.string ⟨nm'.toArray⟩) := cell_of_row _ _ 0 _ _ _ hbj
 have d1 : W.cell? ⟨w.heap.size, 1, none⟩ = some (.string ⟨ds.toArray⟩) := cell_of_row _ _ 1 _ _ _ hbi
 have f1 : W.cell? ⟨w.heap.size + 1, 1, none⟩ = some (.string ⟨ds'.toArray⟩) := cell_of_row _ _ 1 _ _ _ hbj
 have d2 : W.cell? ⟨w.heap.size, 2, none⟩ = some (.bool st) := cell_of_row _ _ 2 _ _ _ hbi
 have f2 : W.cell? ⟨w.heap.size + 1, 2, none⟩ = some (.bool st') := cell_of_row _ _ 2 _ _ _ hbj
 have d3 : W.cell? ⟨w.heap.size, 3, none⟩ = some (.bool ab) := cell_of_row _ _ 3 _ _ _ hbi
 have f3 : W.cell? ⟨w.heap.size + 1, 3, none⟩ = some (.bool ab') := cell_of_row _ _ 3 _ _ _ hbj
 have d4 : W.cell? ⟨w.heap.size, 4, none⟩ = some (.int .i64 rg) := cell_of_row _ _ 4 _ _ _ hbi
 have f4 : W.cell? ⟨w.heap.size + 1, 4, none⟩ = some (.int .i64 rg') := cell_of_row _ _ 4 _ _ _ hbj
 have d5 : W.cell? ⟨w.heap.size, 5, none⟩ = some (.slice A n c) := cell_of_row _ _ 5 _ _ _ hbi
 have f5 : W.cell? ⟨w.heap.size + 1, 5, none⟩ = some (.slice E m z) := cell_of_row _ _ 5 _ _ _ hbj
 have hd : ((nm == nm') = false) ∨ ((nm == nm') = true ∧ (ds == ds') = false) ∨ ((nm == nm') = true ∧ (ds == ds') = true ∧ (st != st') = true) ∨ ((nm == nm') = true ∧ (ds == ds') = true ∧ (st != st') = false ∧ (ab != ab') = true) ∨ ((nm == nm') = true ∧ (ds == ds') = true ∧ (st != st') = false ∧ (ab != ab') = false ∧ (rg != rg') = true) ∨ ((nm == nm') = true ∧ (ds == ds') = true ∧ (st != st') = false ∧ (ab != ab') = false ∧ (rg != rg') = false ∧ ((n : Int) != (m : Int)) = true) := by
  cases k1 : (nm == nm') with
  | false => exact .inl rfl
  | true =>
   cases k2 : (ds == ds') with
   | false => exact .inr (.inl ⟨rfl, rfl⟩)
   | true =>
    cases k3 : (st != st') with
    | true => exact .inr (.inr (.inl ⟨rfl, rfl, rfl⟩))
    | false =>
     cases k4 : (ab != ab') with
     | true => exact .inr (.inr (.inr (.inl ⟨rfl, rfl, rfl, rfl⟩)))
     | false =>
      cases k5 : (rg != rg') with
      | true => exact .inr (.inr (.inr (.inr (.inl ⟨rfl, rfl, rfl, rfl, rfl⟩))))
      | false =>
       cases k6 : ((n : Int) != (m : Int)) with
       | true => exact .inr (.inr (.inr (.inr (.inr ⟨rfl, rfl, rfl, rfl, rfl, rfl⟩))))
       | false =>
        refine absurd ?_ h
        simp at k1 k2 k3 k4 k5 k6
        exact ⟨k1.symm, k2.symm, k3.symm, k4.symm, k5.symm, by omega⟩
 clear hW hal hbi hbj h
 rcases hd with k1 | ⟨k1, k2⟩ | ⟨k1, k2, k3⟩ | ⟨k1, k2, k3, k4⟩ | ⟨k1, k2, k3, k4, k5⟩ | ⟨k1, k2, k3, k4, k5, k6⟩
 ·go_enter Tryz.func68, Tryz.ntmps68
  go_wp2_with fail
  (try simp only [World.size_alloc])
  (try rw [← HW.out])
  (try go_wp2_with fail)
  go_ret
  first | exact ⟨rfl, HAL.out⟩ | exact ⟨rfl, ((Below.refl _ w).alloc (Nat.le_refl _) _).alloc (by simp) _⟩
 ·go_enter Tryz.func68, Tryz.ntmps68
  go_wp2_with fail
  (try simp only [World.size_alloc])
  (try rw [← HW.out])
  (try go_wp2_with fail)
  go_ret
  first | exact ⟨rfl, HAL.out⟩ | exact ⟨rfl, ((Below.refl _ w).alloc (Nat.le_refl _) _).alloc (by simp) _⟩
 ·have j3 : (st == st') = false := by cases h : (st == st') <;> simp_all
  go_enter Tryz.func68, Tryz.ntmps68
  go_wp2_with fail
  (try simp only [World.size_alloc])
  (try rw [← HW.out])
  (try go_wp2_with fail)
  go_ret
  first | exact ⟨rfl, HAL.out⟩ | exact ⟨rfl, ((Below.refl _ w).alloc (Nat.le_refl _) _).alloc (by simp) _⟩
 ·have j3 : (st == st') = true := by cases h : (st == st') <;> simp_all
  have j4 : (ab == ab') = false := by cases h : (ab == ab') <;> simp_all
  go_enter Tryz.func68, Tryz.ntmps68
  go_wp2_with fail
  (try simp only [World.size_alloc])
  (try rw [← HW.out])
  (try go_wp2_with fail)
  go_ret
  first | exact ⟨rfl, HAL.out⟩ | exact ⟨rfl, ((Below.refl _ w).alloc (Nat.le_refl _) _).alloc (by simp) _⟩
 ·have j3 : (st == st') = true := by cases h : (st == st') <;> simp_all
  have j4 : (ab == ab') = true := by cases h : (ab == ab') <;> simp_all
  have j5 : (rg == rg') = false := by cases h : (rg == rg') <;> simp_all
  go_enter Tryz.func68, Tryz.ntmps68
  go_wp2_with fail
  (try simp only [World.size_alloc])
  (try rw [← HW.out])
  (try go_wp2_with fail)
  go_ret
  first | exact ⟨rfl, HAL.out⟩ | exact ⟨rfl, ((Below.refl _ w).alloc (Nat.le_refl _) _).alloc (by simp) _⟩
 ·have j3 : (st == st') = true := by cases h : (st == st') <;> simp_all
  have j4 : (ab == ab') = true := by cases h : (ab == ab') <;> simp_all
  have j5 : (rg == rg') = true := by cases h : (rg == rg') <;> simp_all
  have j6 : ((n : Int) == (m : Int)) = false := by cases h : ((n : Int) == (m : Int)) <;> simp_all
  go_enter Tryz.func68, Tryz.ntmps68
  go_wp2_with fail
  (try simp only [World.size_alloc])
  (try rw [← HW.out])
  (try go_wp2_with fail)
  go_ret
  first | exact ⟨rfl, HAL.out⟩ | exact ⟨rfl, ((Below.refl _ w).alloc (Nat.le_refl _) _).alloc (by simp) _⟩
theorem rsM_t (x y : MeM) (w : World) (hx : MeOk w x) (hy : MeOk w y) (bx : MeBd x) (by' : MeBd y) (h : y.nm = x.nm ∧ y.ds = x.ds ∧ y.st = x.st ∧ y.ab = x.ab ∧ y.rg = x.rg ∧ y.co.length = x.co.length) : Calls Tryz.prog 68 #[.agg (meC x).toArray, .agg (meC y).toArray] w fun e w' => e = .returned (.bool (decide (pM x = pM y))) ∧ Below w.heap.size w w' := by
 have HX := hh (fun v (hv : Below w.heap.size w v) => hx.below hv); have HY := hh (fun v (hv : Below w.heap.size w v) => hy.below hv)
 have HBX := hh bx; have HBY := hh by'
 obtain ⟨e1, e2, e3, e4, e5, hl⟩ := h
 obtain ⟨R, hR⟩ : ∃ R : Bool, R = decide (pM x = pM y) := ⟨_, rfl⟩
 have HRT : x.co.map pI = y.co.map pI → R = true := fun k => by rw [hR]; exact decide_eq_true (by unfold pM; rw [e1, e2, e3, e4, e5, k])
 have HRF : x.co.map pI ≠ y.co.map pI → R = false := fun k => by rw [hR]; exact decide_eq_false (fun e => k (congrArg MeP.co e))
 rw [← hR]
 clear hR
 clear hx hy bx by'
 obtain ⟨nm, ds, st, ab, rg, co, A, c⟩ := x
 obtain ⟨nm', ds', st', ab', rg', ko, E, z⟩ := y
 dsimp only at e1 e2 e3 e4 e5 hl HRT HRF
 subst e1; subst e2; subst e3; subst e4; subst e5
 obtain ⟨n, hn⟩ : ∃ n, n = co.length := ⟨_, rfl⟩
 have nI : (n : Int) ≤ 281474976710656 := by have := HBX.out.2.2.1; dsimp only at this; omega
 have HT := hh HRT; have HFF := hh HRF; have HNK := hh (show n = ko.length from by rw [hl]; exact hn)
 clear HRT HRF
 unfold meC
 dsimp only
 rw [hl, ← hn]
 obtain ⟨W, hW⟩ : ∃ W, W = (w.alloc (.cells #[.string ⟨nm'.toArray⟩, .string ⟨ds'.toArray⟩, .bool st', .bool ab', .int .i64 rg', .slice A n c] 38)).alloc (.cells #[.string ⟨nm'.toArray⟩, .string ⟨ds'.toArray⟩, .bool st', .bool ab', .int .i64 rg', .slice E n z] 38) := ⟨_, rfl⟩
 have hal : Below w.heap.size w W := by rw [hW]; exact ((Below.refl _ w).alloc (Nat.le_refl _) _).alloc (by simp) _
 have hbi : W.heap[w.heap.size]? = some (.cells #[.string ⟨nm'.toArray⟩, .string ⟨ds'.toArray⟩, .bool st', .bool ab', .int .i64 rg', .slice A n c] 38 (0, 0)) := by rw [hW]; exact (Below.heap_alloc _ _ _ (by simp)).trans (heap_alloc_new w _)
 have hbj : W.heap[w.heap.size + 1]? = some (.cells #[.string ⟨nm'.toArray⟩, .string ⟨ds'.toArray⟩, .bool st', .bool ab', .int .i64 rg', .slice E n z] 38 (0, 0)) := by
  rw [hW]
  have := heap_alloc_new (w.alloc (.cells #[.string ⟨nm'.toArray⟩, .string ⟨ds'.toArray⟩, .bool st', .bool ab', .int .i64 rg', .slice A n c] 38)) (.cells #[.string ⟨nm'.toArray⟩, .string ⟨ds'.toArray⟩, .bool st', .bool ab', .int .i64 rg', .slice E n z] 38)
  rwa [World.size_alloc] at this
 have HW := hh hW; have HAL := hh hal; have HBI := hh hbi; have HBJ := hh hbj; have G1 := hh (blk_lt hbi); have G2 := hh (blk_lt hbj)
 have d0 : W.cell? ⟨w.heap.size, 0, none⟩ = some (.string ⟨nm'.toArray⟩) := cell_of_row _ _ 0 _ _ _ hbi
 have f0 : W.cell? ⟨w.heap.size + 1, 0, none⟩ = some (.string ⟨nm'.toArray⟩) := cell_of_row _ _ 0 _ _ _ hbj
 have d1 : W.cell? ⟨w.heap.size, 1, none⟩ = some (.string ⟨ds'.toArray⟩) := cell_of_row _ _ 1 _ _ _ hbi
 have f1 : W.cell? ⟨w.heap.size + 1, 1, none⟩ = some (.string ⟨ds'.toArray⟩) := cell_of_row _ _ 1 _ _ _ hbj
 have d2 : W.cell? ⟨w.heap.size, 2, none⟩ = some (.bool st') := cell_of_row _ _ 2 _ _ _ hbi
 have f2 : W.cell? ⟨w.heap.size + 1, 2, none⟩ = some (.bool st') := cell_of_row _ _ 2 _ _ _ hbj
 have d3 : W.cell? ⟨w.heap.size, 3, none⟩ = some (.bool ab') := cell_of_row _ _ 3 _ _ _ hbi
 have f3 : W.cell? ⟨w.heap.size + 1, 3, none⟩ = some (.bool ab') := cell_of_row _ _ 3 _ _ _ hbj
 have d4 : W.cell? ⟨w.heap.size, 4, none⟩ = some (.int .i64 rg') := cell_of_row _ _ 4 _ _ _ hbi
 have f4 : W.cell? ⟨w.heap.size + 1, 4, none⟩ = some (.int .i64 rg') := cell_of_row _ _ 4 _ _ _ hbj
 have d5 : W.cell? ⟨w.heap.size, 5, none⟩ = some (.slice A n c) := cell_of_row _ _ 5 _ _ _ hbi
 have f5 : W.cell? ⟨w.heap.size + 1, 5, none⟩ = some (.slice E n z) := cell_of_row _ _ 5 _ _ _ hbj
 have HC := hh (show ∀ v : World, Below W.heap.size W v → v.cell? ⟨w.heap.size, 5, none⟩ = some (.slice A n c) ∧ v.cell? ⟨w.heap.size + 1, 5, none⟩ = some (.slice E n z) from fun v hv => ⟨cell_of_row _ _ 5 _ _ _ ((hv.block _ G1.out).trans HBI.out), cell_of_row _ _ 5 _ _ _ ((hv.block _ G2.out).trans HBJ.out)⟩)
 have HR1 := hh (fun v (hv : Below W.heap.size W v) => (HX.out _ (hal.trans (hv.mono hal.size))).2.1)
 have HR2 := hh (fun v (hv : Below W.heap.size W v) => (HY.out _ (hal.trans (hv.mono hal.size))).2.1)
 dsimp only at HR1 HR2
 have k1 : (nm' == nm') = true := by simp
 have k2 : (ds' == ds') = true := by simp
 have k3 : (st' != st') = false := by simp
 have k4 : (ab' != ab') = false := by simp
 have k5 : (rg' != rg') = false := by simp
 have k6 : ((n : Int) != (n : Int)) = false := by simp
 have HN := hh hn
 clear hW hal hbi hbj hl hn
 go_enter Tryz.func68, Tryz.ntmps68
 go_wp2_with fail
 try simp only [World.size_alloc]
 rw [← HW.out]
 (try go_wp2_with fail)
 clear d0 f0 d1 f1 d2 f2 d3 f3 d4 f4 d5 f5
 go_loopw [5] (fun i wr => ∃ k : Nat, i = .int .i64 (k : Int) ∧ k ≤ n ∧ (co.take k).map pI = (ko.take k).map pI ∧ Below W.heap.size W wr) (fun i _ => n - (intOf i).toNat)
 case atStart => exact ⟨0, rfl, Nat.zero_le _, rfl, Below.refl _ _⟩
 case round =>
  obtain ⟨k, rfl, hk, hpre, hbw⟩ := hrel
  have HP := hh hpre
  clear hpre
  obtain ⟨wa, hwa⟩ : ∃ u, u = wr := ⟨_, rfl⟩
  subst hwa
  have Bwa := hh hbw
  obtain ⟨g0, g1⟩ := HC.out _ hbw
  by_cases hlt : k < n
  ·have hltI : (k : Int) < (n : Int) := by omega
   obtain ⟨x, hx⟩ : ∃ x, co[k]? = some x := ⟨co[k]'(by rw [← HN.out]; exact hlt), List.getElem?_eq_getElem _⟩
   obtain ⟨y, hy⟩ : ∃ y, ko[k]? = some y := ⟨ko[k]'(by rw [← HNK.out]; exact hlt), List.getElem?_eq_getElem _⟩
   have HX1 := hh hx; have HY1 := hh hy
   obtain ⟨a, ea, ha, s0, s1, s2, s3, s4, s5, s6, s7, s8⟩ := in_at (HR1.out _ hbw) hx
   obtain ⟨b, eb, hb, t0, t1, t2, t3, t4, t5, t6, t7, t8⟩ := in_at (HR2.out _ hbw) hy
   subst ea
   subst eb
   have HF := hh (show ∀ u : World, Below W.heap.size W u → u.cell? ⟨w.heap.size, 5, none⟩ = some (.slice (some a) n c) ∧ u.cell? ⟨w.heap.size + 1, 5, none⟩ = some (.slice (some b) n z) ∧ u.cell? (a.add (k * 9)) = some (.int .i64 x.i.o) ∧ u.cell? ⟨(a.add (k * 9)).block, (a.add (k * 9)).off + 1, none⟩ = some (.int .i64 x.i.a) ∧ u.cell? ⟨(a.add (k * 9)).block, (a.add (k * 9)).off + 2, none⟩ = some (.int .i64 x.i.b) ∧ u.cell? ⟨(a.add (k * 9)).block, (a.add (k * 9)).off + 3, none⟩ = some (.int .i64 x.i.c) ∧ u.cell? ⟨(a.add (k * 9)).block, (a.add (k * 9)).off + 4, none⟩ = some (.int .i64 x.i.k) ∧ u.cell? ⟨(a.add (k * 9)).block, (a.add (k * 9)).off + 5, none⟩ = some (.string ⟨x.i.cl.toArray⟩) ∧ u.cell? ⟨(a.add (k * 9)).block, (a.add (k * 9)).off + 6, none⟩ = some (.string ⟨x.i.nm.toArray⟩) ∧ u.cell? ⟨(a.add (k * 9)).block, (a.add (k * 9)).off + 7, none⟩ = some (.string ⟨x.i.ds.toArray⟩) ∧ u.cell? ⟨(a.add (k * 9)).block, (a.add (k * 9)).off + 8, none⟩ = some (.slice x.A x.i.ar.length x.c) ∧ u.cell? (b.add (k * 9)) = some (.int .i64 y.i.o) ∧ u.cell? ⟨(b.add (k * 9)).block, (b.add (k * 9)).off + 1, none⟩ = some (.int .i64 y.i.a) ∧ u.cell? ⟨(b.add (k * 9)).block, (b.add (k * 9)).off + 2, none⟩ = some (.int .i64 y.i.b) ∧ u.cell? ⟨(b.add (k * 9)).block, (b.add (k * 9)).off + 3, none⟩ = some (.int .i64 y.i.c) ∧ u.cell? ⟨(b.add (k * 9)).block, (b.add (k * 9)).off + 4, none⟩ = some (.int .i64 y.i.k) ∧ u.cell? ⟨(b.add (k * 9)).block, (b.add (k * 9)).off + 5, none⟩ = some (.string ⟨y.i.cl.toArray⟩) ∧ u.cell? ⟨(b.add (k * 9)).block, (b.add (k * 9)).off + 6, none⟩ = some (.string ⟨y.i.nm.toArray⟩) ∧ u.cell? ⟨(b.add (k * 9)).block, (b.add (k * 9)).off + 7, none⟩ = some (.string ⟨y.i.ds.toArray⟩) ∧ u.cell? ⟨(b.add (k * 9)).block, (b.add (k * 9)).off + 8, none⟩ = some (.slice y.A y.i.ar.length y.c) from fun u hu => by
    obtain ⟨_, e1, _, p0, p1, p2, p3, p4, p5, p6, p7, p8⟩ := in_at (HR1.out _ hu) hx
    obtain ⟨_, e2, _, r0, r1, r2, r3, r4, r5, r6, r7, r8⟩ := in_at (HR2.out _ hu) hy
    cases e1; cases e2
    exact ⟨(HC.out _ hu).1, (HC.out _ hu).2, p0, p1, p2, p3, p4, p5, p6, p7, p8, r0, r1, r2, r3, r4, r5, r6, r7, r8⟩)
   cases hie : decide (x.i = y.i) with
   | true =>
     have HS := hh (fun u (hu : Below wa.heap.size wa u) => show Calls Tryz.prog 106 #[.agg (inC x).toArray, .agg (inC y).toArray] u fun e w' => e = .returned (.bool true) ∧ Below u.heap.size u w' from by
      have kx := (HX.out _ (HAL.out.trans ((Bwa.out.trans (hu.mono Bwa.out.size)).mono HAL.out.size))).2.2 x (List.mem_of_getElem? hx)
      have ky := (HY.out _ (HAL.out.trans ((Bwa.out.trans (hu.mono Bwa.out.size)).mono HAL.out.size))).2.2 y (List.mem_of_getElem? hy)
      have h := Go.Proofs.YtgociheckcpjkaaGreatDoor.op.same_r x.i y.i x.A y.A x.c y.c u kx.2 ky.2 (by have := (HBX.out.2.2.2 x (List.mem_of_getElem? hx)).1; omega) (by have := (HBY.out.2.2.2 y (List.mem_of_getElem? hy)).1; omega)
      rw [hie] at h
      exact h)
     dsimp only [inC] at HS
     clear s0 t0 s1 t1 s2 t2 s3 t3 s4 t4 s5 t5 s6 t6 s7 t7 s8 t8 g0 g1 hx hy ha hb hbw
     obtain ⟨g0, g1, s0, s1, s2, s3, s4, s5, s6, s7, s8, t0, t1, t2, t3, t4, t5, t6, t7, t8⟩ := HF.out _ Bwa.out
     go_wp2_with fail
     refine wp_region_held_drew (S := (fun w' => w'.cell? ⟨w.heap.size, 5, none⟩ = some (.slice (some a) n c) ∧ w'.cell? ⟨w.heap.size + 1, 5, none⟩ = some (.slice (some b) n z) ∧ w'.cell? (a.add (k * 9)) = some (.int .i64 x.i.o) ∧ w'.cell? ⟨(a.add (k * 9)).block, (a.add (k * 9)).off + 1, none⟩ = some (.int .i64 x.i.a) ∧ w'.cell? ⟨(a.add (k * 9)).block, (a.add (k * 9)).off + 2, none⟩ = some (.int .i64 x.i.b) ∧ w'.cell? ⟨(a.add (k * 9)).block, (a.add (k * 9)).off + 3, none⟩ = some (.int .i64 x.i.c) ∧ w'.cell? ⟨(a.add (k * 9)).block, (a.add (k * 9)).off + 4, none⟩ = some (.int .i64 x.i.k) ∧ w'.cell? ⟨(a.add (k * 9)).block, (a.add (k * 9)).off + 5, none⟩ = some (.string ⟨x.i.cl.toArray⟩) ∧ w'.cell? ⟨(a.add (k * 9)).block, (a.add (k * 9)).off + 6, none⟩ = some (.string ⟨x.i.nm.toArray⟩) ∧ w'.cell? ⟨(a.add (k * 9)).block, (a.add (k * 9)).off + 7, none⟩ = some (.string ⟨x.i.ds.toArray⟩) ∧ w'.cell? ⟨(a.add (k * 9)).block, (a.add (k * 9)).off + 8, none⟩ = some (.slice x.A x.i.ar.length x.c) ∧ w'.cell? (b.add (k * 9)) = some (.int .i64 y.i.o) ∧ w'.cell? ⟨(b.add (k * 9)).block, (b.add (k * 9)).off + 1, none⟩ = some (.int .i64 y.i.a) ∧ w'.cell? ⟨(b.add (k * 9)).block, (b.add (k * 9)).off + 2, none⟩ = some (.int .i64 y.i.b) ∧ w'.cell? ⟨(b.add (k * 9)).block, (b.add (k * 9)).off + 3, none⟩ = some (.int .i64 y.i.c) ∧ w'.cell? ⟨(b.add (k * 9)).block, (b.add (k * 9)).off + 4, none⟩ = some (.int .i64 y.i.k) ∧ w'.cell? ⟨(b.add (k * 9)).block, (b.add (k * 9)).off + 5, none⟩ = some (.string ⟨y.i.cl.toArray⟩) ∧ w'.cell? ⟨(b.add (k * 9)).block, (b.add (k * 9)).off + 6, none⟩ = some (.string ⟨y.i.nm.toArray⟩) ∧ w'.cell? ⟨(b.add (k * 9)).block, (b.add (k * 9)).off + 7, none⟩ = some (.string ⟨y.i.ds.toArray⟩) ∧ w'.cell? ⟨(b.add (k * 9)).block, (b.add (k * 9)).off + 8, none⟩ = some (.slice y.A y.i.ar.length y.c))) (by kernel_rfl) ?_ (fun hHeld => ?_)
     ·exact HF.out wa Bwa.out
     refine tkp 0 rfl ?_
     refine tkp 1 rfl ?_
     refine tkp 2 rfl ?_
     refine tkp 3 rfl ?_
     refine tkp 4 rfl ?_
     refine tkp 5 rfl ?_
     refine tkp 6 rfl ?_
     refine tkp 7 rfl ?_
     refine tkp 8 rfl ?_
     refine tkp 9 rfl ?_
     refine rdy 10 rfl (fun K hK => ?_)
     go_simp
     refine (HS.out _ (by first | exact Below.refl _ _ | exact overD (Below.refl _ _))).mono ?_; rintro e u1 ⟨rfl, hb⟩; have B1 := hh (show Below W.heap.size W u1 from (by first | exact Bwa.out.trans (hb.mono Bwa.out.size) | exact Bwa.out.trans (Below.mono (under hb) Bwa.out.size))); clear hb; go_wp2_with fail
     refine hK.out _ _ (HF.out _ B1.out) (fun hHeld => ?_)
     clear hK K
     try simp only [puts]
     refine tkp 11 rfl ?_
     refine wpAnyH_done (by kernel_rfl) ?_ _
     clear g0 g1 s0 t0 s1 t1 s2 t2 s3 t3 s4 t4 s5 t5 s6 t6 s7 t7 s8 t8
     go_wp2
     go_roundw
     case rel => exact ⟨k + 1, by go_num, by omega, by rw [List.take_add_one, List.take_add_one, List.map_append, List.map_append, HP.out, HX1.out, HY1.out]; simp [pI, of_decide_eq_true hie], B1.out⟩
     case measure => simp [intOf]; omega
   | false =>
     have hf : R = false := HFF.out (fun e => by
      have h1 : (co.map pI)[k]? = some (pI x) := by rw [List.getElem?_map, hx]; rfl
      rw [e, List.getElem?_map, hy] at h1
      exact of_decide_eq_false hie (Option.some.inj h1).symm)
     have HS := hh (fun u (hu : Below wa.heap.size wa u) => show Calls Tryz.prog 106 #[.agg (inC x).toArray, .agg (inC y).toArray] u fun e w' => e = .returned (.bool false) ∧ Below u.heap.size u w' from by
      have kx := (HX.out _ (HAL.out.trans ((Bwa.out.trans (hu.mono Bwa.out.size)).mono HAL.out.size))).2.2 x (List.mem_of_getElem? hx)
      have ky := (HY.out _ (HAL.out.trans ((Bwa.out.trans (hu.mono Bwa.out.size)).mono HAL.out.size))).2.2 y (List.mem_of_getElem? hy)
      have h := Go.Proofs.YtgociheckcpjkaaGreatDoor.op.same_r x.i y.i x.A y.A x.c y.c u kx.2 ky.2 (by have := (HBX.out.2.2.2 x (List.mem_of_getElem? hx)).1; omega) (by have := (HBY.out.2.2.2 y (List.mem_of_getElem? hy)).1; omega)
      rw [hie] at h
      exact h)
     dsimp only [inC] at HS
     clear s0 t0 s1 t1 s2 t2 s3 t3 s4 t4 s5 t5 s6 t6 s7 t7 s8 t8 g0 g1 hx hy ha hb hbw
     obtain ⟨g0, g1, s0, s1, s2, s3, s4, s5, s6, s7, s8, t0, t1, t2, t3, t4, t5, t6, t7, t8⟩ := HF.out _ Bwa.out
     go_wp2_with fail
     refine wp_region_held_drew (S := (fun w' => w'.cell? ⟨w.heap.size, 5, none⟩ = some (.slice (some a) n c) ∧ w'.cell? ⟨w.heap.size + 1, 5, none⟩ = some (.slice (some b) n z) ∧ w'.cell? (a.add (k * 9)) = some (.int .i64 x.i.o) ∧ w'.cell? ⟨(a.add (k * 9)).block, (a.add (k * 9)).off + 1, none⟩ = some (.int .i64 x.i.a) ∧ w'.cell? ⟨(a.add (k * 9)).block, (a.add (k * 9)).off + 2, none⟩ = some (.int .i64 x.i.b) ∧ w'.cell? ⟨(a.add (k * 9)).block, (a.add (k * 9)).off + 3, none⟩ = some (.int .i64 x.i.c) ∧ w'.cell? ⟨(a.add (k * 9)).block, (a.add (k * 9)).off + 4, none⟩ = some (.int .i64 x.i.k) ∧ w'.cell? ⟨(a.add (k * 9)).block, (a.add (k * 9)).off + 5, none⟩ = some (.string ⟨x.i.cl.toArray⟩) ∧ w'.cell? ⟨(a.add (k * 9)).block, (a.add (k * 9)).off + 6, none⟩ = some (.string ⟨x.i.nm.toArray⟩) ∧ w'.cell? ⟨(a.add (k * 9)).block, (a.add (k * 9)).off + 7, none⟩ = some (.string ⟨x.i.ds.toArray⟩) ∧ w'.cell? ⟨(a.add (k * 9)).block, (a.add (k * 9)).off + 8, none⟩ = some (.slice x.A x.i.ar.length x.c) ∧ w'.cell? (b.add (k * 9)) = some (.int .i64 y.i.o) ∧ w'.cell? ⟨(b.add (k * 9)).block, (b.add (k * 9)).off + 1, none⟩ = some (.int .i64 y.i.a) ∧ w'.cell? ⟨(b.add (k * 9)).block, (b.add (k * 9)).off + 2, none⟩ = some (.int .i64 y.i.b) ∧ w'.cell? ⟨(b.add (k * 9)).block, (b.add (k * 9)).off + 3, none⟩ = some (.int .i64 y.i.c) ∧ w'.cell? ⟨(b.add (k * 9)).block, (b.add (k * 9)).off + 4, none⟩ = some (.int .i64 y.i.k) ∧ w'.cell? ⟨(b.add (k * 9)).block, (b.add (k * 9)).off + 5, none⟩ = some (.string ⟨y.i.cl.toArray⟩) ∧ w'.cell? ⟨(b.add (k * 9)).block, (b.add (k * 9)).off + 6, none⟩ = some (.string ⟨y.i.nm.toArray⟩) ∧ w'.cell? ⟨(b.add (k * 9)).block, (b.add (k * 9)).off + 7, none⟩ = some (.string ⟨y.i.ds.toArray⟩) ∧ w'.cell? ⟨(b.add (k * 9)).block, (b.add (k * 9)).off + 8, none⟩ = some (.slice y.A y.i.ar.length y.c))) (by kernel_rfl) ?_ (fun hHeld => ?_)
     ·exact HF.out wa Bwa.out
     refine tkp 0 rfl ?_
     refine tkp 1 rfl ?_
     refine tkp 2 rfl ?_
     refine tkp 3 rfl ?_
     refine tkp 4 rfl ?_
     refine tkp 5 rfl ?_
     refine tkp 6 rfl ?_
     refine tkp 7 rfl ?_
     refine tkp 8 rfl ?_
     refine tkp 9 rfl ?_
     refine rdy 10 rfl (fun K hK => ?_)
     go_simp
     refine (HS.out _ (by first | exact Below.refl _ _ | exact overD (Below.refl _ _))).mono ?_; rintro e u1 ⟨rfl, hb⟩; have B1 := hh (show Below W.heap.size W u1 from (by first | exact Bwa.out.trans (hb.mono Bwa.out.size) | exact Bwa.out.trans (Below.mono (under hb) Bwa.out.size))); clear hb; go_wp2_with fail
     refine hK.out _ _ (HF.out _ B1.out) (fun hHeld => ?_)
     clear hK K
     try simp only [puts]
     refine tkp 11 rfl ?_
     refine wpAnyH_done (by kernel_rfl) ?_ _
     clear g0 g1 s0 t0 s1 t1 s2 t2 s3 t3 s4 t4 s5 t5 s6 t6 s7 t7 s8 t8
     go_wp2
     go_ret
     exact ⟨by first | rfl | (rw [hf]; rfl) | (rw [hf]; done) | rw [hf], HAL.out.trans (B1.out.mono HAL.out.size)⟩
  ·have hltI : ¬ (k : Int) < (n : Int) := by omega
   have hR : R = true := HT.out (by
    have h := HP.out
    rw [List.take_of_length_le (by rw [← HN.out]; omega), List.take_of_length_le (by rw [← HNK.out]; omega)] at h
    exact h)
   clear hbw
   go_wp2
   go_ret
   exact ⟨by first | rfl | (rw [hR]; rfl) | (rw [hR]; done) | rw [hR], HAL.out.trans (Bwa.out.mono HAL.out.size)⟩
theorem rsM_g (x y : MeM) (w : World) (hx : MeOk w x) (hy : MeOk w y) (bx : MeBd x) (by' : MeBd y) : Calls Tryz.prog 68 #[.agg (meC x).toArray, .agg (meC y).toArray] w fun e w' => e = .returned (.bool (decide (pM x = pM y))) ∧ Below w.heap.size w w' := by
 by_cases h : y.nm = x.nm ∧ y.ds = x.ds ∧ y.st = x.st ∧ y.ab = x.ab ∧ y.rg = x.rg ∧ y.co.length = x.co.length
 ·exact rsM_t x y w hx hy bx by' h
 ·rw [show decide (pM x = pM y) = false from decide_eq_false (fun e => h ⟨(congrArg MeP.nm e).symm, (congrArg MeP.ds e).symm, (congrArg MeP.st e).symm, (congrArg MeP.ab e).symm, (congrArg MeP.rg e).symm, by have := congrArg (fun p => (MeP.co p).length) e; simpa [pM] using this.symm⟩)]
  exact rsM_h x y w h
end Go.Proofs.YtgociheckcpjkaaGreatDoor.prg

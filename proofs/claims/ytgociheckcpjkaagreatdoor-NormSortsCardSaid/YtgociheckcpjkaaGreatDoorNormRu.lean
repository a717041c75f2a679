/- NormRu -/
import Derived.Test.YtgociheckcpjkaaGreatDoorNormRv
namespace Go.Proofs.YtgociheckcpjkaaGreatDoor.prg
open Go.RowKit
open words kindp opp op kind word
set_option maxRecDepth 100000
set_option maxHeartbeats 8000000
set_option linter.all false
theorem rsC_h (x y : ClM) (w : World) (h : ¬ (y.nm = x.nm ∧ y.su = x.su ∧ y.fc = x.fc ∧ y.ab = x.ab ∧ y.is.length = x.is.length ∧ y.fs.length = x.fs.length ∧ y.ms.length = x.ms.length)) : Calls Tryz.prog 28 #[.agg (clC x).toArray, .agg (clC y).toArray] w fun e w' => e = .returned (.bool false) ∧ Below w.heap.size w w' := by
 obtain ⟨nm, su, fc, ab, is, A1, c1, fs, A2, c2, ms, A3, c3⟩ := x
 obtain ⟨nm', su', fc', ab', is', E1, z1, fs', E2, z2, ks, E3, z3⟩ := y
 dsimp only at h
 obtain ⟨n1, hn1⟩ : ∃ n, n = is.length := ⟨_, rfl⟩
 obtain ⟨m1, hm1⟩ : ∃ n, n = is'.length := ⟨_, rfl⟩
 obtain ⟨n2, hn2⟩ : ∃ n, n = fs.length := ⟨_, rfl⟩
 obtain ⟨m2, hm2⟩ : ∃ n, n = fs'.length := ⟨_, rfl⟩
 obtain ⟨n3, hn3⟩ : ∃ n, n = ms.length := ⟨_, rfl⟩
 obtain ⟨m3, hm3⟩ : ∃ n, n = ks.length := ⟨_, rfl⟩
 unfold clC
 dsimp only
 rw [← hn1, ← hm1, ← hn2, ← hm2, ← hn3, ← hm3] at h ⊢
 clear hn1 hm1 hn2 hm2 hn3 hm3
 obtain ⟨W, hW⟩ : ∃ W, W = (w.alloc (.cells #[.string ⟨nm.toArray⟩, .string ⟨su.toArray⟩, .bool fc, .bool ab, .slice A1 n1 c1, .slice A2 n2 c2, .slice A3 n3 c3] 35)).alloc (.cells #[.string ⟨nm'.toArray⟩, .string ⟨su'.toArray⟩, .bool fc', .bool ab', .slice E1 m1 z1, .slice E2 m2 z2, .slice E3 m3 z3] 35) := ⟨_, rfl⟩
 have hal : Below w.heap.size w W := by rw [hW]; exact ((Below.refl _ w).alloc (Nat.le_refl _) _).alloc (by simp) _
 have hbi : W.heap[w.heap.size]? = some (.cells #[.string ⟨nm.toArray⟩, .string ⟨su.toArray⟩, .bool fc, .bool ab, .slice A1 n1 c1, .slice A2 n2 c2, .slice A3 n3 c3] 35 (0, 0)) := by rw [hW]; exact (Below.heap_alloc _ _ _ (by simp)).trans (heap_alloc_new w _)
 have hbj : W.heap[w.heap.size + 1]? = some (.cells #[.string ⟨nm'.toArray⟩, .string ⟨su'.toArray⟩, .bool fc', .bool ab', .slice E1 m1 z1, .slice E2 m2 z2, .slice E3 m3 z3] 35 (0, 0)) := by
  rw [hW]
  have := heap_alloc_new (w.alloc (.cells #[.string ⟨nm.toArray⟩, .string ⟨su.toArray⟩, .bool fc, .bool ab, .slice A1 n1 c1, .slice A2 n2 c2, .slice A3 n3 c3] 35)) (.cells #[.string ⟨nm'.toArray⟩, .string ⟨su'.toArray⟩, .bool fc', .bool ab', .slice E1 m1 z1, .slice E2 m2 z2, .slice E3 m3 z3] 35)
  rwa [World.size_alloc] at this
 have HW := hh hW; have HAL := hh hal
 have d0 : W.cell? ⟨w.heap.size, 0, none⟩ = some (.string ⟨nm.toArray⟩) := cell_of_row _ _ 0 _ _ _ hbi
 have f0 : W.cell? ⟨w.heap.size + 1, 0, none⟩ = some (.string ⟨nm'.toArray⟩) := cell_of_row _ _ 0 _ _ _ hbj
 have d1 : W.cell? ⟨w.heap.size, 1, none⟩ = some (.string ⟨su.toArray⟩) := cell_of_row _ _ 1 _ _ _ hbi
 have f1 : W.cell? ⟨w.heap.size + 1, 1, none⟩ = some (.string ⟨su'.toArray⟩) := cell_of_row _ _ 1 _ _ _ hbj
 have d2 : W.cell? ⟨w.heap.size, 2, none⟩ = some (.bool fc) := cell_of_row _ _ 2 _ _ _ hbi
 have f2 : W.cell? ⟨w.heap.size + 1, 2, none⟩ = some (.bool fc') := cell_of_row _ _ 2 _ _ _ hbj
 have d3 : W.cell? ⟨w.heap.size, 3, none⟩ = some (.bool ab) := cell_of_row _ _ 3 _ _ _ hbi
 have f3 : W.cell? ⟨w.heap.size + 1, 3, none⟩ = some (.bool ab') := cell_of_row _ _ 3 _ _ _ hbj
 have d4 : W.cell? ⟨w.heap.size, 4, none⟩ = some (.slice A1 n1 c1) := cell_of_row _ _ 4 _ _ _ hbi
 have f4 : W.cell? ⟨w.heap.size + 1, 4, none⟩ = some (.slice E1 m1 z1) := cell_of_row _ _ 4 _ _ _ hbj
 have d5 : W.cell? ⟨w.heap.size, 5, none⟩ = some (.slice A2 n2 c2) := cell_of_row _ _ 5 _ _ _ hbi
 have f5 : W.cell? ⟨w.heap.size + 1, 5, none⟩ = some (.slice E2 m2 z2) := cell_of_row _ _ 5 _ _ _ hbj
 have d6 : W.cell? ⟨w.heap.size, 6, none⟩ = some (.slice A3 n3 c3) := cell_of_row _ _ 6 _ _ _ hbi
 have f6 : W.cell? ⟨w.heap.size + 1, 6, none⟩ = some (.slice E3 m3 z3) := cell_of_row _ _ 6 _ _ _ hbj
 have hd : ((nm == nm') = false) ∨ ((nm == nm') = true ∧ (su == su') = false) ∨ ((nm == nm') = true ∧ (su == su') = true ∧ (fc != fc') = true) ∨ ((nm == nm') = true ∧ (su == su') = true ∧ (fc != fc') = false ∧ (ab != ab') = true) ∨ ((nm == nm') = true ∧ (su == su') = true ∧ (fc != fc') = false ∧ (ab != ab') = false ∧ ((n1 : Int) != (m1 : Int)) = true) ∨ ((nm == nm') = true ∧ (su == su') = true ∧ (fc != fc') = false ∧ (ab != ab') = false ∧ ((n1 : Int) != (m1 : Int)) = false ∧ ((n2 : Int) != (m2 : Int)) = true) ∨ ((nm == nm') = true ∧ (su == su') = true ∧ (fc != fc') = false ∧ (ab != ab') = false ∧ ((n1 : Int) != (m1 : Int)) = false ∧ ((n2 : Int) != (m2 : Int)) = false ∧ ((n3 : Int) != (m3 : Int)) = true) := by
  cases k1 : (nm == nm') with
  | false => exact .inl rfl
  | true =>
   cases k2 : (su == su') with
   | false => exact .inr (.inl ⟨rfl, rfl⟩)
   | true =>
    cases k3 : (fc != fc') with
    | true => exact .inr (.inr (.inl ⟨rfl, rfl, rfl⟩))
    | false =>
     cases k4 : (ab != ab') with
     | true => exact .inr (.inr (.inr (.inl ⟨rfl, rfl, rfl, rfl⟩)))
     | false =>
      cases k5 : ((n1 : Int) != (m1 : Int)) with
      | true => exact .inr (.inr (.inr (.inr (.inl ⟨rfl, rfl, rfl, rfl, rfl⟩))))
      | false =>
       cases k6 : ((n2 : Int) != (m2 : Int)) with
       | true => exact .inr (.inr (.inr (.inr (.inr (.inl ⟨rfl, rfl, rfl, rfl, rfl, rfl⟩)))))
       | false =>
        cases k7 : ((n3 : Int) != (m3 : Int)) with
        | true => exact .inr (.inr (.inr (.inr (.inr (.inr (⟨rfl, rfl, rfl, rfl, rfl, rfl, rfl⟩))))))
        | false =>
         refine absurd ?_ h
         simp at k1 k2 k3 k4 k5 k6 k7
         refine ⟨?_, ?_, ?_, ?_, ?_, ?_, ?_⟩ <;> first | omega | (simp_all; done) | (symm; assumption)
 clear hW hal hbi hbj h
 rcases hd with k1 | ⟨k1, k2⟩ | ⟨k1, k2, k3⟩ | ⟨k1, k2, k3, k4⟩ | ⟨k1, k2, k3, k4, k5⟩ | ⟨k1, k2, k3, k4, k5, k6⟩ | ⟨k1, k2, k3, k4, k5, k6, k7⟩
 ·go_enter Tryz.func28, Tryz.ntmps28
  go_wp2_with fail
  (try simp only [World.size_alloc])
  (try rw [← HW.out])
  (try go_wp2_with fail)
  go_ret
  first | exact ⟨rfl, HAL.out⟩ | exact ⟨rfl, ((Below.refl _ w).alloc (Nat.le_refl _) _).alloc (by simp) _⟩
 ·go_enter Tryz.func28, Tryz.ntmps28
  go_wp2_with fail
  (try simp only [World.size_alloc])
  (try rw [← HW.out])
  (try go_wp2_with fail)
  go_ret
  first | exact ⟨rfl, HAL.out⟩ | exact ⟨rfl, ((Below.refl _ w).alloc (Nat.le_refl _) _).alloc (by simp) _⟩
 ·have j3 : (fc == fc') = false := by cases h : (fc == fc') <;> simp_all
  go_enter Tryz.func28, Tryz.ntmps28
  go_wp2_with fail
  (try simp only [World.size_alloc])
  (try rw [← HW.out])
  (try go_wp2_with fail)
  go_ret
  first | exact ⟨rfl, HAL.out⟩ | exact ⟨rfl, ((Below.refl _ w).alloc (Nat.le_refl _) _).alloc (by simp) _⟩
 ·have j3 : (fc == fc') = true := by cases h : (fc == fc') <;> simp_all
  have j4 : (ab == ab') = false := by cases h : (ab == ab') <;> simp_all
  go_enter Tryz.func28, Tryz.ntmps28
  go_wp2_with fail
  (try simp only [World.size_alloc])
  (try rw [← HW.out])
  (try go_wp2_with fail)
  go_ret
  first | exact ⟨rfl, HAL.out⟩ | exact ⟨rfl, ((Below.refl _ w).alloc (Nat.le_refl _) _).alloc (by simp) _⟩
 ·have j3 : (fc == fc') = true := by cases h : (fc == fc') <;> simp_all
  have j4 : (ab == ab') = true := by cases h : (ab == ab') <;> simp_all
  have j5 : ((n1 : Int) == (m1 : Int)) = false := by cases h : ((n1 : Int) == (m1 : Int)) <;> simp_all
  go_enter Tryz.func28, Tryz.ntmps28
  go_wp2_with fail
  (try simp only [World.size_alloc])
  (try rw [← HW.out])
  (try go_wp2_with fail)
  go_ret
  first | exact ⟨rfl, HAL.out⟩ | exact ⟨rfl, ((Below.refl _ w).alloc (Nat.le_refl _) _).alloc (by simp) _⟩
 ·have j3 : (fc == fc') = true := by cases h : (fc == fc') <;> simp_all
  have j4 : (ab == ab') = true := by cases h : (ab == ab') <;> simp_all
  have j5 : ((n1 : Int) == (m1 : Int)) = true := by cases h : ((n1 : Int) == (m1 : Int)) <;> simp_all
  have j6 : ((n2 : Int) == (m2 : Int)) = false := by cases h : ((n2 : Int) == (m2 : Int)) <;> simp_all
  go_enter Tryz.func28, Tryz.ntmps28
  go_wp2_with fail
  (try simp only [World.size_alloc])
  (try rw [← HW.out])
  (try go_wp2_with fail)
  go_ret
  first | exact ⟨rfl, HAL.out⟩ | exact ⟨rfl, ((Below.refl _ w).alloc (Nat.le_refl _) _).alloc (by simp) _⟩
 ·have j3 : (fc == fc') = true := by cases h : (fc == fc') <;> simp_all
  have j4 : (ab == ab') = true := by cases h : (ab == ab') <;> simp_all
  have j5 : ((n1 : Int) == (m1 : Int)) = true := by cases h : ((n1 : Int) == (m1 : Int)) <;> simp_all
  have j6 : ((n2 : Int) == (m2 : Int)) = true := by cases h : ((n2 : Int) == (m2 : Int)) <;> simp_all
  have j7 : ((n3 : Int) == (m3 : Int)) = false := by cases h : ((n3 : Int) == (m3 : Int)) <;> simp_all
  go_enter Tryz.func28, Tryz.ntmps28
  go_wp2_with fail
  (try simp only [World.size_alloc])
  (try rw [← HW.out])
  (try go_wp2_with fail)
  go_ret
  first | exact ⟨rfl, HAL.out⟩ | exact ⟨rfl, ((Below.refl _ w).alloc (Nat.le_refl _) _).alloc (by simp) _⟩
theorem rsC_t (x y : ClM) (w : World) (hx : ClOk w x) (hy : ClOk w y) (bx : ClBd x) (by' : ClBd y) (h : y.nm = x.nm ∧ y.su = x.su ∧ y.fc = x.fc ∧ y.ab = x.ab ∧ y.is.length = x.is.length ∧ y.fs.length = x.fs.length ∧ y.ms.length = x.ms.length) : Calls Tryz.prog 28 #[.agg (clC x).toArray, .agg (clC y).toArray] w fun e w' => e = .returned (.bool (decide (pC x = pC y))) ∧ Below w.heap.size w w' := by
 have HX := hh (fun v (hv : Below w.heap.size w v) => hx.below hv); have HY := hh (fun v (hv : Below w.heap.size w v) => hy.below hv)
 have HBX := hh bx; have HBY := hh by'
 obtain ⟨e1, e2, e3, e4, l1, l2, l3⟩ := h
 obtain ⟨R, hR⟩ : ∃ R : Bool, R = decide (pC x = pC y) := ⟨_, rfl⟩
 have HRT : x.is = y.is → x.fs.map pF = y.fs.map pF → x.ms.map pM = y.ms.map pM → R = true := fun k1 k2 k3 => by rw [hR]; exact decide_eq_true (by unfold pC; rw [e1, e2, e3, e4, k1, k2, k3])
 have HRA : x.is ≠ y.is → R = false := fun k => by rw [hR]; exact decide_eq_false (fun e => k (congrArg ClP.is e))
 have HRB : x.fs.map pF ≠ y.fs.map pF → R = false := fun k => by rw [hR]; exact decide_eq_false (fun e => k (congrArg ClP.fs e))
 have HRC : x.ms.map pM ≠ y.ms.map pM → R = false := fun k => by rw [hR]; exact decide_eq_false (fun e => k (congrArg ClP.ms e))
 rw [← hR]
 clear hR hx hy bx by'
 obtain ⟨nm, su, fc, ab, is, A1, c1, fs, A2, c2, ms, A3, c3⟩ := x
 obtain ⟨nm', su', fc', ab', is', E1, z1, fs', E2, z2, ks, E3, z3⟩ := y
 dsimp only at e1 e2 e3 e4 l1 l2 l3 HRT HRA HRB HRC
 subst e1; subst e2; subst e3; subst e4
 obtain ⟨n1, hn1⟩ : ∃ n, n = is.length := ⟨_, rfl⟩
 obtain ⟨n2, hn2⟩ : ∃ n, n = fs.length := ⟨_, rfl⟩
 obtain ⟨n3, hn3⟩ : ∃ n, n = ms.length := ⟨_, rfl⟩
 have n1I : (n1 : Int) ≤ 281474976710656 := by have := HBX.out.2.2.1.1; dsimp only at this; omega
 have n2I : (n2 : Int) ≤ 281474976710656 := by have := HBX.out.2.2.2.1.1; dsimp only at this; omega
 have n3I : (n3 : Int) ≤ 281474976710656 := by have := HBX.out.2.2.2.2.1; dsimp only at this; omega
 have HT := hh HRT; have HFA := hh HRA; have HFB := hh HRB; have HFC := hh HRC
 have HK1 := hh (show n1 = is'.length from by rw [l1]; exact hn1); have HK2 := hh (show n2 = fs'.length from by rw [l2]; exact hn2); have HK3 := hh (show n3 = ks.length from by rw [l3]; exact hn3)
 clear HRT HRA HRB HRC
 unfold clC
 dsimp only
 rw [l1, l2, l3, ← hn1, ← hn2, ← hn3]
 obtain ⟨W, hW⟩ : ∃ W, W = (w.alloc (.cells #[.string ⟨nm'.toArray⟩, .string ⟨su'.toArray⟩, .bool fc', .bool ab', .slice A1 n1 c1, .slice A2 n2 c2, .slice A3 n3 c3] 35)).alloc (.cells #[.string ⟨nm'.toArray⟩, .string ⟨su'.toArray⟩, .bool fc', .bool ab', .slice E1 n1 z1, .slice E2 n2 z2, .slice E3 n3 z3] 35) := ⟨_, rfl⟩
 have hal : Below w.heap.size w W := by rw [hW]; exact ((Below.refl _ w).alloc (Nat.le_refl _) _).alloc (by simp) _
 have hbi : W.heap[w.heap.size]? = some (.cells #[.string ⟨nm'.toArray⟩, .string ⟨su'.toArray⟩, .bool fc', .bool ab', .slice A1 n1 c1, .slice A2 n2 c2, .slice A3 n3 c3] 35 (0, 0)) := by rw [hW]; exact (Below.heap_alloc _ _ _ (by simp)).trans (heap_alloc_new w _)
 have hbj : W.heap[w.heap.size + 1]? = some (.cells #[.string ⟨nm'.toArray⟩, .string ⟨su'.toArray⟩, .bool fc', .bool ab', .slice E1 n1 z1, .slice E2 n2 z2, .slice E3 n3 z3] 35 (0, 0)) := by
  rw [hW]
  have := heap_alloc_new (w.alloc (.cells #[.string ⟨nm'.toArray⟩, .string ⟨su'.toArray⟩, .bool fc', .bool ab', .slice A1 n1 c1, .slice A2 n2 c2, .slice A3 n3 c3] 35)) (.cells #[.string ⟨nm'.toArray⟩, .string ⟨su'.toArray⟩, .bool fc', .bool ab', .slice E1 n1 z1, .slice E2 n2 z2, .slice E3 n3 z3] 35)
  rwa [World.size_alloc] at this
 have HW := hh hW; have HAL := hh hal; have HBI := hh hbi; have HBJ := hh hbj; have G1 := hh (blk_lt hbi); have G2 := hh (blk_lt hbj)
 have d0 : W.cell? ⟨w.heap.size, 0, none⟩ = some (.string ⟨nm'.toArray⟩) := cell_of_row _ _ 0 _ _ _ hbi
 have f0 : W.cell? ⟨w.heap.size + 1, 0, none⟩ = some (.string ⟨nm'.toArray⟩) := cell_of_row _ _ 0 _ _ _ hbj
 have d1 : W.cell? ⟨w.heap.size, 1, none⟩ = some (.string ⟨su'.toArray⟩) := cell_of_row _ _ 1 _ _ _ hbi
 have f1 : W.cell? ⟨w.heap.size + 1, 1, none⟩ = some (.string ⟨su'.toArray⟩) := cell_of_row _ _ 1 _ _ _ hbj
 have d2 : W.cell? ⟨w.heap.size, 2, none⟩ = some (.bool fc') := cell_of_row _ _ 2 _ _ _ hbi
 have f2 : W.cell? ⟨w.heap.size + 1, 2, none⟩ = some (.bool fc') := cell_of_row _ _ 2 _ _ _ hbj
 have d3 : W.cell? ⟨w.heap.size, 3, none⟩ = some (.bool ab') := cell_of_row _ _ 3 _ _ _ hbi
 have f3 : W.cell? ⟨w.heap.size + 1, 3, none⟩ = some (.bool ab') := cell_of_row _ _ 3 _ _ _ hbj
 have d4 : W.cell? ⟨w.heap.size, 4, none⟩ = some (.slice A1 n1 c1) := cell_of_row _ _ 4 _ _ _ hbi
 have f4 : W.cell? ⟨w.heap.size + 1, 4, none⟩ = some (.slice E1 n1 z1) := cell_of_row _ _ 4 _ _ _ hbj
 have d5 : W.cell? ⟨w.heap.size, 5, none⟩ = some (.slice A2 n2 c2) := cell_of_row _ _ 5 _ _ _ hbi
 have f5 : W.cell? ⟨w.heap.size + 1, 5, none⟩ = some (.slice E2 n2 z2) := cell_of_row _ _ 5 _ _ _ hbj
 have d6 : W.cell? ⟨w.heap.size, 6, none⟩ = some (.slice A3 n3 c3) := cell_of_row _ _ 6 _ _ _ hbi
 have f6 : W.cell? ⟨w.heap.size + 1, 6, none⟩ = some (.slice E3 n3 z3) := cell_of_row _ _ 6 _ _ _ hbj
 have HCa := hh (show ∀ v : World, Below W.heap.size W v → v.cell? ⟨w.heap.size, 4, none⟩ = some (.slice A1 n1 c1) ∧ v.cell? ⟨w.heap.size + 1, 4, none⟩ = some (.slice E1 n1 z1) from fun v hv => ⟨cell_of_row _ _ 4 _ _ _ ((hv.block _ G1.out).trans HBI.out), cell_of_row _ _ 4 _ _ _ ((hv.block _ G2.out).trans HBJ.out)⟩)
 have HCb := hh (show ∀ v : World, Below W.heap.size W v → v.cell? ⟨w.heap.size, 5, none⟩ = some (.slice A2 n2 c2) ∧ v.cell? ⟨w.heap.size + 1, 5, none⟩ = some (.slice E2 n2 z2) from fun v hv => ⟨cell_of_row _ _ 5 _ _ _ ((hv.block _ G1.out).trans HBI.out), cell_of_row _ _ 5 _ _ _ ((hv.block _ G2.out).trans HBJ.out)⟩)
 have HC := hh (show ∀ v : World, Below W.heap.size W v → v.cell? ⟨w.heap.size, 6, none⟩ = some (.slice A3 n3 c3) ∧ v.cell? ⟨w.heap.size + 1, 6, none⟩ = some (.slice E3 n3 z3) from fun v hv => ⟨cell_of_row _ _ 6 _ _ _ ((hv.block _ G1.out).trans HBI.out), cell_of_row _ _ 6 _ _ _ ((hv.block _ G2.out).trans HBJ.out)⟩)
 have Ra1 := hh (fun v (hv : Below W.heap.size W v) => (HX.out _ (hal.trans (hv.mono hal.size))).1.2)
 have Ra2 := hh (fun v (hv : Below W.heap.size W v) => (HY.out _ (hal.trans (hv.mono hal.size))).1.2)
 have Rb1 := hh (fun v (hv : Below W.heap.size W v) => (HX.out _ (hal.trans (hv.mono hal.size))).2.1.2)
 have Rb2 := hh (fun v (hv : Below W.heap.size W v) => (HY.out _ (hal.trans (hv.mono hal.size))).2.1.2)
 have HR1 := hh (fun v (hv : Below W.heap.size W v) => (HX.out _ (hal.trans (hv.mono hal.size))).2.2.1.2)
 have HR2 := hh (fun v (hv : Below W.heap.size W v) => (HY.out _ (hal.trans (hv.mono hal.size))).2.2.1.2)
 dsimp only at Ra1 Ra2 Rb1 Rb2 HR1 HR2
 have k1 : (nm' == nm') = true := by simp
 have k2 : (su' == su') = true := by simp
 have k3 : (fc' != fc') = false := by simp
 have k4 : (ab' != ab') = false := by simp
 have k5 : ((n1 : Int) != (n1 : Int)) = false := by simp
 have k6 : ((n2 : Int) != (n2 : Int)) = false := by simp
 have k7 : ((n3 : Int) != (n3 : Int)) = false := by simp
 have HN1 := hh hn1; have HN2 := hh hn2; have HN3 := hh hn3
 clear hW hal hbi hbj l1 l2 l3 hn1 hn2 hn3
 go_enter Tryz.func28, Tryz.ntmps28
 go_wp2_with fail
 try simp only [World.size_alloc]
 rw [← HW.out]
 (try go_wp2_with fail)
 clear d0 f0 d1 f1 d2 f2 d3 f3 d4 f4 d5 f5 d6 f6
 go_loopw [5] (fun i wr => ∃ k : Nat, i = .int .i64 (k : Int) ∧ k ≤ n1 ∧ is.take k = is'.take k ∧ Below W.heap.size W wr) (fun i _ => n1 - (intOf i).toNat)
 case atStart => exact ⟨0, rfl, Nat.zero_le _, rfl, Below.refl _ _⟩
 case round =>
  obtain ⟨k, rfl, hk, hpre, hbw⟩ := hrel
  have HP := hh hpre
  clear hpre
  obtain ⟨wa, hwa⟩ : ∃ u, u = wr := ⟨_, rfl⟩
  subst hwa
  have Bwa := hh hbw
  obtain ⟨g0, g1⟩ := HCa.out _ hbw
  by_cases hlt : k < n1
  ·have hltI : (k : Int) < (n1 : Int) := by omega
   obtain ⟨s, hs⟩ : ∃ s, is[k]? = some s := ⟨is[k]'(by rw [← HN1.out]; exact hlt), List.getElem?_eq_getElem _⟩
   obtain ⟨s', hs'⟩ : ∃ s, is'[k]? = some s := ⟨is'[k]'(by rw [← HK1.out]; exact hlt), List.getElem?_eq_getElem _⟩
   obtain ⟨a, ea, ha, s0⟩ := (Ra1.out _ hbw).at_ (sx_get hs)
   obtain ⟨b, eb, hb, t0⟩ := (Ra2.out _ hbw).at_ (sx_get hs')
   subst ea
   subst eb
   have HX1 := hh hs; have HY1 := hh hs'
   by_cases hss : s = s'
   ·subst hss
    have kk : (s == s) = true := by simp
    clear hs hs' ha hb hbw
    go_wp2
    go_quiet (fail)
    go_wp2
    go_roundw
    case rel => exact ⟨k + 1, by go_num, by omega, by rw [List.take_add_one, List.take_add_one, HP.out, HX1.out, HY1.out], over Bwa.out⟩
    case measure => simp [intOf]; omega
   ·have kk : (s == s') = false := by simpa using hss
    have hf : R = false := HFA.out (fun e => hss (by rw [e, hs'] at hs; exact (Option.some.inj hs).symm))
    clear hs hs' ha hb hbw hss
    go_wp2
    go_quiet (fail)
    go_wp2
    go_ret
    exact ⟨by first | rfl | (rw [hf]; rfl) | rw [hf], HAL.out.trans ((over Bwa.out).mono HAL.out.size)⟩
  ·have hltI : ¬ (k : Int) < (n1 : Int) := by omega
   have HQ1 := hh (show is = is' from by
    have h := HP.out
    rw [List.take_of_length_le (by rw [← HN1.out]; omega), List.take_of_length_le (by rw [← HK1.out]; omega)] at h
    exact h)
   clear hbw hk hlt HP
   go_wp2_with fail
   go_loopw [6] (fun i wr => ∃ k : Nat, i = .int .i64 (k : Int) ∧ k ≤ n2 ∧ (fs.take k).map pF = (fs'.take k).map pF ∧ Below W.heap.size W wr) (fun i _ => n2 - (intOf i).toNat)
   case atStart => exact ⟨0, rfl, Nat.zero_le _, rfl, Bwa.out⟩
   case round =>
    obtain ⟨k, rfl, hk, hpre, hbw⟩ := hrel
    have HP := hh hpre
    clear hpre
    obtain ⟨wb, hwb⟩ : ∃ u, u = wr := ⟨_, rfl⟩
    subst hwb
    have Bwb := hh hbw
    obtain ⟨g0, g1⟩ := HCb.out _ hbw
    by_cases hlt : k < n2
    ·have hltI : (k : Int) < (n2 : Int) := by omega
     obtain ⟨x, hx⟩ : ∃ s, fs[k]? = some s := ⟨fs[k]'(by rw [← HN2.out]; exact hlt), List.getElem?_eq_getElem _⟩
     obtain ⟨y, hy⟩ : ∃ s, fs'[k]? = some s := ⟨fs'[k]'(by rw [← HK2.out]; exact hlt), List.getElem?_eq_getElem _⟩
     obtain ⟨a, ea, ha, s0, s1, s2, s3⟩ := fi_at (Rb1.out _ hbw) hx
     obtain ⟨b, eb, hb, t0, t1, t2, t3⟩ := fi_at (Rb2.out _ hbw) hy
     subst ea
     subst eb
     have HX1 := hh hx; have HY1 := hh hy
     by_cases hxy : x = y
     ·subst hxy
      have j1 : (x.nm == x.nm) = true := by simp
      have j2 : (x.k == x.k) = true := by simp
      have j3 : (x.cl == x.cl) = true := by simp
      have j4 : (x.st == x.st) = true := by simp
      clear hx hy ha hb hbw
      go_wp2
      go_quiet (fail)
      go_wp2
      go_roundw
      case rel => exact ⟨k + 1, by go_num, by omega, by rw [List.take_add_one, List.take_add_one, List.map_append, List.map_append, HP.out, HX1.out, HY1.out], over Bwb.out⟩
      case measure => simp [intOf]; omega
     ·have hf : R = false := HFB.out (fun e => hxy (by
       have h1 : (fs.map pF)[k]? = some (pF x) := by rw [List.getElem?_map, hx]; rfl
       have h2 : (fs'.map pF)[k]? = some (pF y) := by rw [List.getElem?_map, hy]; rfl
       rw [e, h2] at h1
       have h3 := fs_same (l := [x]) (k := [y]) (by simp only [List.map_cons, List.map_nil]; rw [Option.some.inj h1])
       exact List.head_eq_of_cons_eq h3))
      have hd : ((x.nm == y.nm) = false) ∨ ((x.nm == y.nm) = true ∧ (x.k == y.k) = false) ∨ ((x.nm == y.nm) = true ∧ (x.k == y.k) = true ∧ (x.cl == y.cl) = false) ∨ ((x.nm == y.nm) = true ∧ (x.k == y.k) = true ∧ (x.cl == y.cl) = true ∧ (x.st == y.st) = false) := by
       cases k1 : (x.nm == y.nm) with
       | false => exact .inl rfl
       | true =>
        cases k2 : (x.k == y.k) with
        | false => exact .inr (.inl ⟨rfl, rfl⟩)
        | true =>
         cases k3 : (x.cl == y.cl) with
         | false => exact .inr (.inr (.inl ⟨rfl, rfl, rfl⟩))
         | true =>
          cases k4 : (x.st == y.st) with
          | false => exact .inr (.inr (.inr ⟨rfl, rfl, rfl, rfl⟩))
          | true =>
           refine absurd ?_ hxy
           cases x; cases y
           simp at k1 k2 k3 k4
           subst k1; subst k2; subst k3; subst k4; rfl
      clear hx hy ha hb hbw hxy
      rcases hd with j1 | ⟨j1, j2⟩ | ⟨j1, j2, j3⟩ | ⟨j1, j2, j3, j4⟩
      all_goals (go_wp2; go_quiet (fail); go_wp2; go_ret; exact ⟨by first | rfl | (rw [hf]; rfl) | rw [hf], HAL.out.trans ((over Bwb.out).mono HAL.out.size)⟩)
    ·have hltI : ¬ (k : Int) < (n2 : Int) := by omega
     have HQ2 := hh (show fs.map pF = fs'.map pF from by
      have h := HP.out
      rw [List.take_of_length_le (by rw [← HN2.out]; omega), List.take_of_length_le (by rw [← HK2.out]; omega)] at h
      exact h)
     clear hbw hk hlt HP
     go_wp2_with fail
     go_loopw [7] (fun i wr => ∃ k : Nat, i = .int .i64 (k : Int) ∧ k ≤ n3 ∧ (ms.take k).map pM = (ks.take k).map pM ∧ Below W.heap.size W wr) (fun i _ => n3 - (intOf i).toNat)
     case atStart => exact ⟨0, rfl, Nat.zero_le _, rfl, Bwb.out⟩
     case round =>
      obtain ⟨k, rfl, hk, hpre, hbw⟩ := hrel
      have HP := hh hpre
      clear hpre
      obtain ⟨wc, hwc⟩ : ∃ u, u = wr := ⟨_, rfl⟩
      subst hwc
      have Bwc := hh hbw
      obtain ⟨g0, g1⟩ := HC.out _ hbw
      by_cases hlt : k < n3
      ·have hltI : (k : Int) < (n3 : Int) := by omega
       obtain ⟨x, hx⟩ : ∃ x, ms[k]? = some x := ⟨ms[k]'(by rw [← HN3.out]; exact hlt), List.getElem?_eq_getElem _⟩
       obtain ⟨y, hy⟩ : ∃ y, ks[k]? = some y := ⟨ks[k]'(by rw [← HK3.out]; exact hlt), List.getElem?_eq_getElem _⟩
       have HX1 := hh hx; have HY1 := hh hy
       obtain ⟨a, ea, ha, s0, s1, s2, s3, s4, s5⟩ := me_at (HR1.out _ hbw) hx
       obtain ⟨b, eb, hb, t0, t1, t2, t3, t4, t5⟩ := me_at (HR2.out _ hbw) hy
       subst ea
       subst eb
       have HF := hh (show ∀ u : World, Below W.heap.size W u → u.cell? ⟨w.heap.size, 6, none⟩ = some (.slice (some a) n3 c3) ∧ u.cell? ⟨w.heap.size + 1, 6, none⟩ = some (.slice (some b) n3 z3) ∧ u.cell? (a.add (k * 6)) = some (.string ⟨x.nm.toArray⟩) ∧ u.cell? ⟨(a.add (k * 6)).block, (a.add (k * 6)).off + 1, none⟩ = some (.string ⟨x.ds.toArray⟩) ∧ u.cell? ⟨(a.add (k * 6)).block, (a.add (k * 6)).off + 2, none⟩ = some (.bool x.st) ∧ u.cell? ⟨(a.add (k * 6)).block, (a.add (k * 6)).off + 3, none⟩ = some (.bool x.ab) ∧ u.cell? ⟨(a.add (k * 6)).block, (a.add (k * 6)).off + 4, none⟩ = some (.int .i64 x.rg) ∧ u.cell? ⟨(a.add (k * 6)).block, (a.add (k * 6)).off + 5, none⟩ = some (.slice x.A x.co.length x.c) ∧ u.cell? (b.add (k * 6)) = some (.string ⟨y.nm.toArray⟩) ∧ u.cell? ⟨(b.add (k * 6)).block, (b.add (k * 6)).off + 1, none⟩ = some (.string ⟨y.ds.toArray⟩) ∧ u.cell? ⟨(b.add (k * 6)).block, (b.add (k * 6)).off + 2, none⟩ = some (.bool y.st) ∧ u.cell? ⟨(b.add (k * 6)).block, (b.add (k * 6)).off + 3, none⟩ = some (.bool y.ab) ∧ u.cell? ⟨(b.add (k * 6)).block, (b.add (k * 6)).off + 4, none⟩ = some (.int .i64 y.rg) ∧ u.cell? ⟨(b.add (k * 6)).block, (b.add (k * 6)).off + 5, none⟩ = some (.slice y.A y.co.length y.c) from fun u hu => by
        obtain ⟨_, e1, _, p0, p1, p2, p3, p4, p5⟩ := me_at (HR1.out _ hu) hx
        obtain ⟨_, e2, _, r0, r1, r2, r3, r4, r5⟩ := me_at (HR2.out _ hu) hy
        cases e1; cases e2
        exact ⟨(HC.out _ hu).1, (HC.out _ hu).2, p0, p1, p2, p3, p4, p5, r0, r1, r2, r3, r4, r5⟩)
       cases hie : decide (pM x = pM y) with
       | true =>
         have HS := hh (fun u (hu : Below wc.heap.size wc u) => rsM_g x y u ((HX.out _ (HAL.out.trans ((Bwc.out.trans (hu.mono Bwc.out.size)).mono HAL.out.size))).2.2.2 x (List.mem_of_getElem? hx)) ((HY.out _ (HAL.out.trans ((Bwc.out.trans (hu.mono Bwc.out.size)).mono HAL.out.size))).2.2.2 y (List.mem_of_getElem? hy)) (HBX.out.2.2.2.2.2 x (List.mem_of_getElem? hx)) (HBY.out.2.2.2.2.2 y (List.mem_of_getElem? hy)))
         rw [hie] at HS
         dsimp only [meC] at HS
         clear s0 t0 s1 t1 s2 t2 s3 t3 s4 t4 s5 t5 g0 g1 hx hy ha hb hbw
         obtain ⟨g0, g1, s0, s1, s2, s3, s4, s5, t0, t1, t2, t3, t4, t5⟩ := HF.out _ Bwc.out
         go_wp2_with fail
         refine wp_region_held_drew (S := (fun w' => w'.cell? ⟨w.heap.size, 6, none⟩ = some (.slice (some a) n3 c3) ∧ w'.cell? ⟨w.heap.size + 1, 6, none⟩ = some (.slice (some b) n3 z3) ∧ w'.cell? (a.add (k * 6)) = some (.string ⟨x.nm.toArray⟩) ∧ w'.cell? ⟨(a.add (k * 6)).block, (a.add (k * 6)).off + 1, none⟩ = some (.string ⟨x.ds.toArray⟩) ∧ w'.cell? ⟨(a.add (k * 6)).block, (a.add (k * 6)).off + 2, none⟩ = some (.bool x.st) ∧ w'.cell? ⟨(a.add (k * 6)).block, (a.add (k * 6)).off + 3, none⟩ = some (.bool x.ab) ∧ w'.cell? ⟨(a.add (k * 6)).block, (a.add (k * 6)).off + 4, none⟩ = some (.int .i64 x.rg) ∧ w'.cell? ⟨(a.add (k * 6)).block, (a.add (k * 6)).off + 5, none⟩ = some (.slice x.A x.co.length x.c) ∧ w'.cell? (b.add (k * 6)) = some (.string ⟨y.nm.toArray⟩) ∧ w'.cell? ⟨(b.add (k * 6)).block, (b.add (k * 6)).off + 1, none⟩ = some (.string ⟨y.ds.toArray⟩) ∧ w'.cell? ⟨(b.add (k * 6)).block, (b.add (k * 6)).off + 2, none⟩ = some (.bool y.st) ∧ w'.cell? ⟨(b.add (k * 6)).block, (b.add (k * 6)).off + 3, none⟩ = some (.bool y.ab) ∧ w'.cell? ⟨(b.add (k * 6)).block, (b.add (k * 6)).off + 4, none⟩ = some (.int .i64 y.rg) ∧ w'.cell? ⟨(b.add (k * 6)).block, (b.add (k * 6)).off + 5, none⟩ = some (.slice y.A y.co.length y.c))) (by kernel_rfl) ?_ (fun hHeld => ?_)
         ·exact HF.out wc Bwc.out
         refine tkp 0 rfl ?_
         refine tkp 1 rfl ?_
         refine tkp 2 rfl ?_
         refine tkp 3 rfl ?_
         refine tkp 4 rfl ?_
         refine tkp 5 rfl ?_
         refine tkp 6 rfl ?_
         refine tkp 7 rfl ?_
         refine tkp 8 rfl ?_
         refine tkp 9 rfl ?_
         refine rdy 10 rfl (fun K hK => ?_)
         go_simp
         refine (HS.out _ (by first | exact Below.refl _ _ | exact overD (Below.refl _ _))).mono ?_; rintro e u1 ⟨rfl, hb⟩; have B1 := hh (show Below W.heap.size W u1 from (by first | exact Bwc.out.trans (hb.mono Bwc.out.size) | exact Bwc.out.trans (Below.mono (under hb) Bwc.out.size))); clear hb; go_wp2_with fail
         refine hK.out _ _ (HF.out _ B1.out) (fun hHeld => ?_)
         clear hK K
         try simp only [puts]
         refine tkp 11 rfl ?_
         refine wpAnyH_done (by kernel_rfl) ?_ _
         clear g0 g1 s0 t0 s1 t1 s2 t2 s3 t3 s4 t4 s5 t5
         go_wp2
         go_roundw
         case rel => exact ⟨k + 1, by go_num, by omega, by rw [List.take_add_one, List.take_add_one, List.map_append, List.map_append, HP.out, HX1.out, HY1.out]; simp [of_decide_eq_true hie], B1.out⟩
         case measure => simp [intOf]; omega
       | false =>
         have hf : R = false := HFC.out (fun e => by
          have h1 : (ms.map pM)[k]? = some (pM x) := by rw [List.getElem?_map, hx]; rfl
          rw [e, List.getElem?_map, hy] at h1
          exact of_decide_eq_false hie (Option.some.inj h1).symm)
         have HS := hh (fun u (hu : Below wc.heap.size wc u) => rsM_g x y u ((HX.out _ (HAL.out.trans ((Bwc.out.trans (hu.mono Bwc.out.size)).mono HAL.out.size))).2.2.2 x (List.mem_of_getElem? hx)) ((HY.out _ (HAL.out.trans ((Bwc.out.trans (hu.mono Bwc.out.size)).mono HAL.out.size))).2.2.2 y (List.mem_of_getElem? hy)) (HBX.out.2.2.2.2.2 x (List.mem_of_getElem? hx)) (HBY.out.2.2.2.2.2 y (List.mem_of_getElem? hy)))
         rw [hie] at HS
         dsimp only [meC] at HS
         clear s0 t0 s1 t1 s2 t2 s3 t3 s4 t4 s5 t5 g0 g1 hx hy ha hb hbw
         obtain ⟨g0, g1, s0, s1, s2, s3, s4, s5, t0, t1, t2, t3, t4, t5⟩ := HF.out _ Bwc.out
         go_wp2_with fail
         refine wp_region_held_drew (S := (fun w' => w'.cell? ⟨w.heap.size, 6, none⟩ = some (.slice (some a) n3 c3) ∧ w'.cell? ⟨w.heap.size + 1, 6, none⟩ = some (.slice (some b) n3 z3) ∧ w'.cell? (a.add (k * 6)) = some (.string ⟨x.nm.toArray⟩) ∧ w'.cell? ⟨(a.add (k * 6)).block, (a.add (k * 6)).off + 1, none⟩ = some (.string ⟨x.ds.toArray⟩) ∧ w'.cell? ⟨(a.add (k * 6)).block, (a.add (k * 6)).off + 2, none⟩ = some (.bool x.st) ∧ w'.cell? ⟨(a.add (k * 6)).block, (a.add (k * 6)).off + 3, none⟩ = some (.bool x.ab) ∧ w'.cell? ⟨(a.add (k * 6)).block, (a.add (k * 6)).off + 4, none⟩ = some (.int .i64 x.rg) ∧ w'.cell? ⟨(a.add (k * 6)).block, (a.add (k * 6)).off + 5, none⟩ = some (.slice x.A x.co.length x.c) ∧ w'.cell? (b.add (k * 6)) = some (.string ⟨y.nm.toArray⟩) ∧ w'.cell? ⟨(b.add (k * 6)).block, (b.add (k * 6)).off + 1, none⟩ = some (.string ⟨y.ds.toArray⟩) ∧ w'.cell? ⟨(b.add (k * 6)).block, (b.add (k * 6)).off + 2, none⟩ = some (.bool y.st) ∧ w'.cell? ⟨(b.add (k * 6)).block, (b.add (k * 6)).off + 3, none⟩ = some (.bool y.ab) ∧ w'.cell? ⟨(b.add (k * 6)).block, (b.add (k * 6)).off + 4, none⟩ = some (.int .i64 y.rg) ∧ w'.cell? ⟨(b.add (k * 6)).block, (b.add (k * 6)).off + 5, none⟩ = some (.slice y.A y.co.length y.c))) (by kernel_rfl) ?_ (fun hHeld => ?_)
         ·exact HF.out wc Bwc.out
         refine tkp 0 rfl ?_
         refine tkp 1 rfl ?_
         refine tkp 2 rfl ?_
         refine tkp 3 rfl ?_
         refine tkp 4 rfl ?_
         refine tkp 5 rfl ?_
         refine tkp 6 rfl ?_
         refine tkp 7 rfl ?_
         refine tkp 8 rfl ?_
         refine tkp 9 rfl ?_
         refine rdy 10 rfl (fun K hK => ?_)
         go_simp
         refine (HS.out _ (by first | exact Below.refl _ _ | exact overD (Below.refl _ _))).mono ?_; rintro e u1 ⟨rfl, hb⟩; have B1 := hh (show Below W.heap.size W u1 from (by first | exact Bwc.out.trans (hb.mono Bwc.out.size) | exact Bwc.out.trans (Below.mono (under hb) Bwc.out.size))); clear hb; go_wp2_with fail
         refine hK.out _ _ (HF.out _ B1.out) (fun hHeld => ?_)
         clear hK K
         try simp only [puts]
         refine tkp 11 rfl ?_
         refine wpAnyH_done (by kernel_rfl) ?_ _
         clear g0 g1 s0 t0 s1 t1 s2 t2 s3 t3 s4 t4 s5 t5
         go_wp2
         go_ret
         exact ⟨by first | rfl | (rw [hf]; rfl) | rw [hf], HAL.out.trans (B1.out.mono HAL.out.size)⟩
      ·have hltI : ¬ (k : Int) < (n3 : Int) := by omega
       have hR : R = true := HT.out HQ1.out HQ2.out (by
        have h := HP.out
        rw [List.take_of_length_le (by rw [← HN3.out]; omega), List.take_of_length_le (by rw [← HK3.out]; omega)] at h
        exact h)
       clear hbw
       go_wp2
       go_ret
       exact ⟨by first | rfl | (rw [hR]; rfl) | rw [hR], HAL.out.trans (Bwc.out.mono HAL.out.size)⟩
theorem rsC_g (x y : ClM) (w : World) (hx : ClOk w x) (hy : ClOk w y) (bx : ClBd x) (by' : ClBd y) : Calls Tryz.prog 28 #[.agg (clC x).toArray, .agg (clC y).toArray] w fun e w' => e = .returned (.bool (decide (pC x = pC y))) ∧ Below w.heap.size w w' := by
 by_cases h : y.nm = x.nm ∧ y.su = x.su ∧ y.fc = x.fc ∧ y.ab = x.ab ∧ y.is.length = x.is.length ∧ y.fs.length = x.fs.length ∧ y.ms.length = x.ms.length
 ·exact rsC_t x y w hx hy bx by' h
 ·rw [show decide (pC x = pC y) = false from decide_eq_false (fun e => h ⟨(congrArg ClP.nm e).symm, (congrArg ClP.su e).symm, (congrArg ClP.fc e).symm, (congrArg ClP.ab e).symm, (congrArg (fun p => (ClP.is p).length) e).symm, by have := congrArg (fun p => (ClP.fs p).length) e; simpa [pC] using this.symm, by have := congrArg (fun p => (ClP.ms p).length) e; simpa [pC] using this.symm⟩)]
  exact rsC_h x y w h
end Go.Proofs.YtgociheckcpjkaaGreatDoor.prg

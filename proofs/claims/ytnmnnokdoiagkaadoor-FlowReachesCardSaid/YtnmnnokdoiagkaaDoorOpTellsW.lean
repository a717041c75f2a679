/-
 What an instruction reads and sets, and where it may jump, is as the document says, and whether two are the same: the document's answers, and the walk of OpTells.
-/
import Derived.Test.YtnmnnokdoiagkaaDoorOpL
import Derived.Test.YtnmnnokdoiagkaaDoorOpU
import Derived.Test.YtnmnnokdoiagkaaDoorOpG
import Derived.Test.YtnmnnokdoiagkaaDoorRef
import Derived.Deep.RegionHeld3
/- Layer 7: the document's answers: what an instruction reads, sets, and where it may jump; whether two are the same. -/
namespace Go.Proofs.YtnmnnokdoiagkaaDoor.op
open Go.RowKit
open words kindp opp kind


set_option maxRecDepth 100000 in
set_option maxHeartbeats 4000000 in
theorem target_r (i : In) (A : Option Addr) (c : Nat) (w : World) :
  Calls Tryd.prog 32 #[.agg (InV i A c)] w fun e w' => e = .returned (.tuple #[.int .i64 (targetL i).1, .bool (targetL i).2]) ∧ Below w.heap.size w w' := by
 obtain ⟨W, hW⟩ : ∃ W, W = w.alloc (.cells (InV i A c) 36) := ⟨_, rfl⟩
 have hal : Below w.heap.size w W := by rw [hW]; exact (Below.refl _ w).alloc (Nat.le_refl _) _
 have HAL := Lib.hid hal
 have hblk : W.heap[w.heap.size]? = some (.cells (InV i A c) 36 (0, 0)) := by rw [hW]; exact heap_alloc_new w _
 have HBK := Lib.hid hblk; have HLT := Lib.hid (blk_lt hblk)
 obtain ⟨g0, g1, g2, g3, g4, g5, g6, g7, g8⟩ := in_cells hblk
 have hT : targetL i = if hasL (shapeL i.o) 116 = true ∧ 0 ≤ i.k ∧ i.k ≤ 256 then (i.k, true) else (0, false) := rfl
 rw [jump_shape] at hT
 obtain ⟨T, hT2⟩ : ∃ T, T = targetL i := ⟨_, rfl⟩
 rw [← hT2] at hT ⊢
 dsimp only [InV] at hW ⊢
 have HW := Lib.hid hW
 clear hal hblk hW hT2
 by_cases ho : i.o = 6
 ·have e1 : (i.o == 6) = true := by simpa using ho
  by_cases h0 : 0 ≤ i.k
  ·by_cases h1 : i.k ≤ 256
   ·obtain rfl : T = (i.k, true) := by rw [hT, if_pos ⟨by simp [ho], h0, h1⟩]
    clear ho
    clear hT
    go_enter Tryd.func32, Tryd.ntmps32
    go_wp2_with fail
    rw [← HW.out]
    go_wp2
    go_ret2
    exact ⟨rfl, HAL.out⟩
   ·obtain rfl : T = (0, false) := by rw [hT, if_neg (fun h => h1 h.2.2)]
    have hd : decide (i.k ≤ 256) = false := decide_eq_false h1
    clear ho
    clear hT
    go_enter Tryd.func32, Tryd.ntmps32
    go_wp2_with fail
    rw [← HW.out]
    go_wp2
    go_ret2
    exact ⟨rfl, HAL.out⟩
  ·obtain rfl : T = (0, false) := by rw [hT, if_neg (fun h => h0 h.2.1)]
   clear ho
   clear hT
   go_enter Tryd.func32, Tryd.ntmps32
   go_wp2_with fail
   rw [← HW.out]
   go_wp2
   go_ret2
   exact ⟨rfl, HAL.out⟩
 have e1 : (i.o == 6) = false := by simpa using ho
 have n1 := Lib.hid ho
 clear ho
 by_cases ho : i.o = 7
 ·have e2 : (i.o == 7) = true := by simpa using ho
  by_cases h0 : 0 ≤ i.k
  ·by_cases h1 : i.k ≤ 256
   ·obtain rfl : T = (i.k, true) := by rw [hT, if_pos ⟨by simp [ho], h0, h1⟩]
    clear ho
    clear hT
    go_enter Tryd.func32, Tryd.ntmps32
    go_wp2_with fail
    rw [← HW.out]
    go_wp2
    go_ret2
    exact ⟨rfl, HAL.out⟩
   ·obtain rfl : T = (0, false) := by rw [hT, if_neg (fun h => h1 h.2.2)]
    have hd : decide (i.k ≤ 256) = false := decide_eq_false h1
    clear ho
    clear hT
    go_enter Tryd.func32, Tryd.ntmps32
    go_wp2_with fail
    rw [← HW.out]
    go_wp2
    go_ret2
    exact ⟨rfl, HAL.out⟩
  ·obtain rfl : T = (0, false) := by rw [hT, if_neg (fun h => h0 h.2.1)]
   clear ho
   clear hT
   go_enter Tryd.func32, Tryd.ntmps32
   go_wp2_with fail
   rw [← HW.out]
   go_wp2
   go_ret2
   exact ⟨rfl, HAL.out⟩
 have e2 : (i.o == 7) = false := by simpa using ho
 have n2 := Lib.hid ho
 clear ho
 by_cases ho : i.o = 8
 ·have e3 : (i.o == 8) = true := by simpa using ho
  by_cases h0 : 0 ≤ i.k
  ·by_cases h1 : i.k ≤ 256
   ·obtain rfl : T = (i.k, true) := by rw [hT, if_pos ⟨by simp [ho], h0, h1⟩]
    clear ho
    clear hT
    go_enter Tryd.func32, Tryd.ntmps32
    go_wp2_with fail
    rw [← HW.out]
    go_wp2
    go_ret2
    exact ⟨rfl, HAL.out⟩
   ·obtain rfl : T = (0, false) := by rw [hT, if_neg (fun h => h1 h.2.2)]
    have hd : decide (i.k ≤ 256) = false := decide_eq_false h1
    clear ho
    clear hT
    go_enter Tryd.func32, Tryd.ntmps32
    go_wp2_with fail
    rw [← HW.out]
    go_wp2
    go_ret2
    exact ⟨rfl, HAL.out⟩
  ·obtain rfl : T = (0, false) := by rw [hT, if_neg (fun h => h0 h.2.1)]
   clear ho
   clear hT
   go_enter Tryd.func32, Tryd.ntmps32
   go_wp2_with fail
   rw [← HW.out]
   go_wp2
   go_ret2
   exact ⟨rfl, HAL.out⟩
 have e3 : (i.o == 8) = false := by simpa using ho
 obtain rfl : T = (0, false) := by rw [hT, if_neg (fun h => by have := of_decide_eq_true h.1; have a1 := n1.out; have a2 := n2.out; omega)]
 clear ho
 clear hT
 go_enter Tryd.func32, Tryd.ntmps32
 go_wp2_with fail
 rw [← HW.out]
 go_wp2
 go_ret2
 exact ⟨rfl, HAL.out⟩

end Go.Proofs.YtnmnnokdoiagkaaDoor.op

/- Layer 7: the document's answers: the registers that an instruction reads. -/
namespace Go.Proofs.YtnmnnokdoiagkaaDoor.op
open Go.RowKit
open words kindp opp kind
end Go.Proofs.YtnmnnokdoiagkaaDoor.op

/- Layer 7: the document's answers: whether two instructions are the same. -/
namespace Go.Proofs.YtnmnnokdoiagkaaDoor.op
open Go.RowKit
open words kindp opp kind

theorem in_eq {i j : In} (h : i.ar = j.ar) (e0 : (i.o == j.o) = true) (e1 : (i.a == j.a) = true) (e2 : (i.b == j.b) = true) (e3 : (i.c == j.c) = true) (e4 : (i.k == j.k) = true) (e5 : (i.cl == j.cl) = true) (e6 : (i.nm == j.nm) = true) (e7 : (i.ds == j.ds) = true) : i = j := by
 obtain ⟨o, a, b, c, k, cl, nm, ds, ar⟩ := i
 obtain ⟨o', a', b', c', k', cl', nm', ds', ar'⟩ := j
 simp only [beq_iff_eq] at e0 e1 e2 e3 e4 e5 e6 e7
 subst e0 e1 e2 e3 e4 e5 e6 e7 h
 rfl
end Go.Proofs.YtnmnnokdoiagkaaDoor.op

/- The walk of OpTells: what an instruction reads and sets, and where it may jump, is as the document says; and so is whether two are the same. -/
namespace Go.Proofs.YtnmnnokdoiagkaaDoor.opTells
open Go.RowKit
open words kindp opp op kind

theorem overD {b : Nat} {a c : World} (h : Below b a c) : Below b a c.drew := ⟨h.os, h.tape, h.output, h.size, h.block⟩
end Go.Proofs.YtnmnnokdoiagkaaDoor.opTells

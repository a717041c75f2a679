/- NormRw -/
import Derived.Test.YtgociheckcpjkaaGreatDoorNormK
import Derived.Test.YtgociheckcpjkaaGreatDoorNormXg
import Derived.Test.YtgociheckcpjkaaGreatDoorOpTellsW
namespace Go.Proofs.YtgociheckcpjkaaGreatDoor.prg
open Go.RowKit
open words kindp opp op kind word
set_option maxRecDepth 100000
set_option maxHeartbeats 8000000
set_option linter.all false
theorem below_r (x y : MeM) (w : World) : Calls Tryz.prog 70 #[.agg (meC x).toArray, .agg (meC y).toArray] w fun e w' => e = .returned (.bool (ltM x y)) ∧ Below w.heap.size w w' := by
 obtain ⟨W, hW⟩ : ∃ W, W = (w.alloc (.cells (meC x).toArray 38)).alloc (.cells (meC y).toArray 38) := ⟨_, rfl⟩
 have hal : Below w.heap.size w W := by rw [hW]; exact ((Below.refl _ w).alloc (Nat.le_refl _) _).alloc (by simp) _
 have HAL := hh hal
 have hnw := two_new w (.cells (meC x).toArray 38) (.cells (meC y).toArray 38)
 rw [← hW] at hnw
 obtain ⟨c0, c1, c2, c3, c4, c5⟩ := me_cells hnw.1
 obtain ⟨d0, d1, d2, d3, d4, d5⟩ := me_cells hnw.2
 unfold ltM ltT
 have l1 := less_mk x.nm y.nm
 have l2 := less_mk x.ds y.ds
 unfold meC at hW ⊢
 try dsimp only at hW ⊢
 have HW := hh hW
 clear hal hnw hW
 cases h1 : decide (x.nm < y.nm) with
 | true =>
  rw [h1] at l1
  go_enter Tryz.func70, Tryz.ntmps70
  go_wp2_with fail
  rw [← HW.out]
  (try go_wp2_with fail)
  go_ret
  exact ⟨by first | rfl | (simp only [h1, Bool.true_or, Bool.false_or, Bool.true_and, Bool.false_and]; done) | (simp only [h1, Bool.true_or, Bool.false_or, Bool.true_and, Bool.false_and]; rfl), HAL.out⟩
 | false =>
  rw [h1] at l1
  cases h2 : (x.nm == y.nm) with
  | false =>
   go_enter Tryz.func70, Tryz.ntmps70
   go_wp2_with fail
   rw [← HW.out]
   (try go_wp2_with fail)
   go_ret
   exact ⟨by first | rfl | (simp only [h1, h2, Bool.true_or, Bool.false_or, Bool.true_and, Bool.false_and]; done) | (simp only [h1, h2, Bool.true_or, Bool.false_or, Bool.true_and, Bool.false_and]; rfl), HAL.out⟩
  | true =>
   cases h3 : decide (x.ds < y.ds) with
   | false =>
    rw [h3] at l2
    go_enter Tryz.func70, Tryz.ntmps70
    go_wp2_with fail
    rw [← HW.out]
    (try go_wp2_with fail)
    go_ret
    exact ⟨by first | rfl | (simp only [h1, h2, h3, Bool.true_or, Bool.false_or, Bool.true_and, Bool.false_and]; done) | (simp only [h1, h2, h3, Bool.true_or, Bool.false_or, Bool.true_and, Bool.false_and]; rfl), HAL.out⟩
   | true =>
    rw [h3] at l2
    go_enter Tryz.func70, Tryz.ntmps70
    go_wp2_with fail
    rw [← HW.out]
    (try go_wp2_with fail)
    go_ret
    exact ⟨by first | rfl | (simp only [h1, h2, h3, Bool.true_or, Bool.false_or, Bool.true_and, Bool.false_and]; done) | (simp only [h1, h2, h3, Bool.true_or, Bool.false_or, Bool.true_and, Bool.false_and]; rfl), HAL.out⟩
end Go.Proofs.YtgociheckcpjkaaGreatDoor.prg
namespace Go.Proofs.YtgociheckcpjkaaGreatDoor.prg
open Go.RowKit
open words kindp opp op kind word
set_option maxRecDepth 100000
set_option maxHeartbeats 8000000
set_option linter.all false
end Go.Proofs.YtgociheckcpjkaaGreatDoor.prg
namespace Go.Proofs.YtgociheckcpjkaaGreatDoor.prg
open Go.RowKit
open words kindp opp op kind word
set_option maxRecDepth 100000
set_option maxHeartbeats 8000000
set_option linter.all false
end Go.Proofs.YtgociheckcpjkaaGreatDoor.prg
namespace Go.Proofs.YtgociheckcpjkaaGreatDoor.prg
open Go.RowKit
open words kindp opp op kind word
set_option maxRecDepth 100000
set_option maxHeartbeats 8000000
set_option linter.all false
end Go.Proofs.YtgociheckcpjkaaGreatDoor.prg
namespace Go.Proofs.YtgociheckcpjkaaGreatDoor.prg
open Go.RowKit
open words kindp opp op kind word
set_option maxRecDepth 100000
set_option maxHeartbeats 8000000
set_option linter.all false
end Go.Proofs.YtgociheckcpjkaaGreatDoor.prg
namespace Go.Proofs.YtgociheckcpjkaaGreatDoor.prg
open Go.RowKit
open words kindp opp op kind word
set_option maxRecDepth 100000
set_option maxHeartbeats 8000000
set_option linter.all false
end Go.Proofs.YtgociheckcpjkaaGreatDoor.prg
namespace Go.Proofs.YtgociheckcpjkaaGreatDoor.prg
open Go.RowKit
open words kindp opp op kind word
theorem fs_same {l k : List FiM} (h : l.map pF = k.map pF) : l = k := by
 induction l generalizing k with
 | nil => cases k with
  | nil => rfl
  | cons _ _ => simp at h
 | cons x l ih => cases k with
  | nil => simp at h
  | cons y k =>
   simp only [List.map_cons, List.cons.injEq] at h
   obtain ⟨h1, h2⟩ := h
   rw [ih h2]
   unfold pF at h1
   simp only [FiP.mk.injEq] at h1
   obtain ⟨a, b, c, d⟩ := x; obtain ⟨a', b', c', d'⟩ := y
   obtain ⟨rfl, rfl, rfl, rfl⟩ := h1; rfl
end Go.Proofs.YtgociheckcpjkaaGreatDoor.prg

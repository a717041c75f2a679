/-
 Layer 12: the method that the first of some classes declares, if it may be that one: the program's answers.
-/
import Derived.Test.YtokaecnhjdgjgaaFindF
namespace Go.Proofs.Ytokaecnhjdgjgaa.find
open Go.RowKit
open words kindp opp op kind word prg

/-- texts that are gone through -/
def SeqP (L : List Tx) (w : World) (e : Ending) (w' : World) : Prop := (∃ B A c, e = .returned (.func (.func 75) #[] #[.pointer (some ⟨B, 0, none⟩)]) ∧ w'.cell? ⟨B, 0, none⟩ = some (.slice A L.length c) ∧ Rd w' A (SX L)) ∧ Below w.heap.size w w'

set_option maxRecDepth 100000 in
set_option maxHeartbeats 4000000 in
set_option linter.all false in
theorem supers_f (x : PrM) (s : Tx) (w : World) (hk : PrOk w x) (hg : GrP x) : Calls Try.prog 38 #[.agg (prC x).toArray, .string ⟨s.toArray⟩] w (SeqP (supersL x.cs s) w) := by
  obtain ⟨W, hW⟩ : ∃ W, W = w.alloc (.cells (prC x).toArray 27) := ⟨_, rfl⟩
  have hal : Below w.heap.size w W := by rw [hW]; exact (Below.refl _ w).alloc (Nat.le_refl _) _
  have hblk : W.heap[w.heap.size]? = some (.cells (prC x).toArray 27 (0, 0)) := by rw [hW]; exact heap_alloc_new w _
  obtain ⟨x0, x1, x2, x3, x4⟩ := pr_cells hblk
  have HSU := Lib.hid (supers_w x s W (hk.below hal) hg)
  have HAL := Lib.hid hal
  unfold prC at hW HSU ⊢
  try dsimp only at hW HSU ⊢
  have HW := Lib.hid hW
  clear hal hblk hW hk hg
  go_enter Try.func38, Try.ntmps38
  go_wp2_with fail
  rw [← HW.out]
  (try go_wp2_with fail)
  refine HSU.out.mono ?_
  rintro e w1 ⟨⟨A, c, rfl, hc, hr⟩, hb⟩
  have HR := Lib.hid hr; have HB := Lib.hid hb
  clear hr hb x0 x1 x2 x3 x4
  go_wp2_with fail
  refine (vals_w _ _ _ _).mono ?_
  rintro e w2 ⟨rfl, rfl⟩
  have hb2 : Below w1.heap.size w1 (w1.alloc (.cells #[.slice A (supersL x.cs s).length c] 23)) := (Below.refl _ _).alloc (Nat.le_refl _) _
  have HP := Lib.hid (show SeqP (supersL x.cs s) w (.returned (.func (.func 75) #[] #[.pointer (some ⟨w1.heap.size, 0, none⟩)])) (w1.alloc (.cells #[.slice A (supersL x.cs s).length c] 23)) from ⟨⟨_, A, c, rfl, cell_of_row _ _ 0 _ _ _ (heap_alloc_new w1 _), HR.out.below hb2⟩, HAL.out.trans ((HB.out.mono HAL.out.size).trans (hb2.mono (Nat.le_trans HAL.out.size HB.out.size)))⟩)
  clear hb2
  go_wp2
  go_ret
  exact HP.out

set_option maxRecDepth 100000 in
set_option maxHeartbeats 4000000 in
set_option linter.all false in
theorem only_w (s : Tx) (w : World) : Calls Try.prog 41 #[.string ⟨s.toArray⟩] w (SeqP [s] w) := by
  go_enter Try.func41, Try.ntmps41
  go_wp2_with fail
  refine (vals_w _ _ _ _).mono ?_
  rintro e w2 ⟨rfl, rfl⟩
  obtain ⟨w1, h1⟩ : ∃ u, u = w.alloc (.cells #[.string ⟨s.toArray⟩] 9) := ⟨_, rfl⟩
  have hal : Below w.heap.size w w1 := by rw [h1]; exact (Below.refl _ w).alloc (Nat.le_refl _) _
  have hb2 : Below w1.heap.size w1 (w1.alloc (.cells #[.slice (some ⟨w.heap.size, 0, none⟩) 1 1] 23)) := (Below.refl _ _).alloc (Nat.le_refl _) _
  have hrd : Rd w1 (some ⟨w.heap.size, 0, none⟩) (SX [s]) := by rw [h1]; exact rd_blk (heap_alloc_new w _) (k := 1) rfl
  have HP := Lib.hid (show SeqP [s] w (.returned (.func (.func 75) #[] #[.pointer (some ⟨w1.heap.size, 0, none⟩)])) (w1.alloc (.cells #[.slice (some ⟨w.heap.size, 0, none⟩) 1 1] 23)) from ⟨⟨_, _, _, rfl, cell_of_row _ _ 0 _ _ _ (heap_alloc_new w1 _), hrd.below hb2⟩, hal.trans (hb2.mono hal.size)⟩)
  clear hb2 hal hrd
  rw [← h1]
  clear h1
  go_wp2
  go_ret
  exact HP.out

set_option maxRecDepth 100000 in
set_option maxHeartbeats 4000000 in
set_option linter.all false in
theorem runs_w (m : MeM) (w : World) : Calls Try.prog 39 #[.agg (meC m).toArray] w fun e w' => e = .returned (.bool (!m.st && !m.ab)) ∧ Below w.heap.size w w' := by
  obtain ⟨W, hW⟩ : ∃ W, W = w.alloc (.cells (meC m).toArray 48) := ⟨_, rfl⟩
  have hal : Below w.heap.size w W := by rw [hW]; exact (Below.refl _ w).alloc (Nat.le_refl _) _
  have hblk : W.heap[w.heap.size]? = some (.cells (meC m).toArray 48 (0, 0)) := by rw [hW]; exact heap_alloc_new w _
  obtain ⟨x0, x1, x2, x3, x4, x5⟩ := me_cells hblk
  have HAL := Lib.hid hal
  obtain ⟨nm, ds, st, ab, rg, co, A, c⟩ := m
  unfold meC at hW ⊢
  dsimp only at *
  have HW := Lib.hid hW
  clear hal hblk hW
  cases st <;> cases ab <;>
  · go_enter Try.func39, Try.ntmps39
    go_wp2_with fail
    (try rw [← HW.out])
    (try go_wp2_with fail)
    go_ret
    exact ⟨rfl, HAL.out⟩

/-- what declared answers -/
def declR (may : MeM → Bool) (cs : List ClM) (L : List Tx) (s d : Tx) : Option Tx := match firstM cs L s d with
  | none => none
  | some (c, k) => match c.ms[k]? with
    | none => none
    | some m => if may m then some c.nm else none
def refV (o : Option Tx) (s d : Tx) : Value := match o with
  | none => .tuple #[.agg #[.string ⟨#[]⟩, .string ⟨#[]⟩, .string ⟨#[]⟩], .bool false]
  | some n => .tuple #[.agg #[.string ⟨n.toArray⟩, .string ⟨s.toArray⟩, .string ⟨d.toArray⟩], .bool true]

end Go.Proofs.Ytokaecnhjdgjgaa.find

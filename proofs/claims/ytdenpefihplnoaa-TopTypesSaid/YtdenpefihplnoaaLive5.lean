/-
  Layer 5: what must be whatever is asked; and a part of a list.
-/
import Derived.Test.YtdenpefihplnoaaPoolW
namespace Go.Proofs.Ytdenpefihplnoaa.pool
open Go.RowKit Go.Maps
open Go.Proofs.Ytdenpefihplnoaa.num Go.Proofs.Ytdenpefihplnoaa.words Go.Proofs.Ytdenpefihplnoaa.poolp Go.Proofs.Ytdenpefihplnoaa.give Go.Proofs.Ytdenpefihplnoaa.write

theorem SL_S (l : List Str) : SL l = texts.S (l.map fun x => ⟨x.toArray⟩) := by simp [SL, texts.S, Function.comp_def]
theorem S_SL (xs : List ByteArray) : texts.S xs = SL (xs.map (·.data.toList)) := by simp [SL, texts.S, Function.comp_def]
def bab : List Str := [[98], [97], [98]]
def ab : List Str := [[97], [98]]
theorem ab_right : rightB ab = true := by decide +kernel
theorem ba_wrong : rightB [[98], [97]] = false := by decide +kernel
theorem bab_ok : bad bab = false := by decide +kernel
theorem bab_make : makeL bab = ab := up_ext (make_pool bab).1 (right_pool ab_right).1 fun y => by
  rw [mem_make bab_ok]; simp [bab, ab]
  exact Or.inr
theorem ab_find : findI ab [98] = 1 := find_at ab_right (k := 1) rfl
theorem ab_miss : findI ab [99] = -1 := find_no fun h => by have := h.2; simp [ab] at this
theorem ab_bytes : (putB ab).length = 5 := by
  unfold putB
  rw [if_pos ab_right]
  show (putL 2 ++ (putL 1 ++ [97] ++ (putL 1 ++ [98] ++ []))).length = 5
  rw [show putL 2 = [2] by unfold putL; rfl, show putL 1 = [1] by unfold putL; rfl]
  rfl
theorem ab_e : putE ab = 0 := by unfold putE; rw [if_pos ab_right]
theorem ba_e : putE [[98], [97]] = 5 := by unfold putE; rw [if_neg (by rw [ba_wrong]; simp)]

/-- the first of a list -/
def fewL (l : List Str) : List Str := l.take 1100
end Go.Proofs.Ytdenpefihplnoaa.pool

/-
  Layer 5: two pools together.
-/
import Derived.Test.YtchhibicbgimcaaPool5C
namespace Go.Proofs.Ytchhibicbgimcaa.pool
open Go.RowKit Go.Maps
open Go.Proofs.Ytchhibicbgimcaa.num Go.Proofs.Ytchhibicbgimcaa.words Go.Proofs.Ytchhibicbgimcaa.poolp
/-- two pools together -/
def mergeOk (a b : List Str) : Bool := rightB a && rightB b
def mergeL (a b : List Str) : List Str := if mergeOk a b = true then makeL (a ++ b) else []
def mergeE (a b : List Str) : Int := if mergeOk a b = true then (if bad (a ++ b) = true then 3 else 0) else 5
def Merged (a b : List Str) (w : World) (e : Ending) (w' : World) : Prop :=
  (∃ A c, e = .returned (.tuple #[.slice A (mergeL a b).length c, .int .i64 (mergeE a b)]) ∧ (mergeL a b).length ≤ c ∧ Rd w' A (SL (mergeL a b))) ∧ Below w.heap.size w w'
theorem merged_no {a b : List Str} (h : mergeOk a b = false) {w w' : World} (hb : Below w.heap.size w w') : Merged a b w (.returned (.tuple #[.slice none 0 0, .int .i64 5])) w' := by
  unfold Merged mergeL mergeE
  rw [if_neg (by rw [h]; simp), if_neg (by rw [h]; simp)]
  exact ⟨⟨none, 0, rfl, Nat.le_refl _, .inl rfl⟩, hb⟩

end Go.Proofs.Ytchhibicbgimcaa.pool

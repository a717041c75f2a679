/-
  Layer 5: two lists of strings, one behind the other (slices.Concat), and two pools together.
-/
import Derived.Test.YtchhibicbgimcaaPool5F
import Derived.Lib.AppendZerosOnto
namespace Go.Proofs.Ytchhibicbgimcaa.pool
open Go.RowKit Go.Maps
open Go.Proofs.Ytchhibicbgimcaa.num Go.Proofs.Ytchhibicbgimcaa.words Go.Proofs.Ytchhibicbgimcaa.poolp

theorem SL_one (l : List Str) : ∀ u ∈ SL l, u.oneCell' = true := by
  intro u hu
  obtain ⟨x, _, rfl⟩ := List.mem_map.1 hu
  simp [Value.oneCell']
/-- a new list -/
def NewS (w : World) (l : List Str) (e : Ending) (w' : World) : Prop := ∃ v, e = .returned v ∧ w'.ownsRow w.heap.size 9 1 v l.length (SL l) ∧ Below w.heap.size w w'
/-- a row with room, that holds nothing yet -/
theorem own_emptyS (w : World) (cur : Array Value) (cap : Nat) (hm : cap ≤ maxLen) (hs : cur.size = cap) : (w.alloc (.cells cur 9)).ownsRow w.heap.size 9 1 (.slice (some ⟨w.heap.size, 0, none⟩) 0 cap) 0 [] :=
  ⟨by simp, .inr ⟨w.heap.size, cap, cur, rfl, Nat.le_refl _, heap_alloc_new w _, Nat.zero_le _, hm, by rw [hs, Nat.mul_one], by simp⟩⟩
end Go.Proofs.Ytchhibicbgimcaa.pool

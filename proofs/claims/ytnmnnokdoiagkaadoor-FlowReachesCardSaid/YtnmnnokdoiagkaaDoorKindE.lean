/-
 Layer 6: what an array has in it, and a class that stands first in a text: the program's answers.
-/
import Derived.Test.YtnmnnokdoiagkaaDoorKindR
import Derived.Test.YtnmnnokdoiagkaaDoorShelf
namespace Go.Proofs.YtnmnnokdoiagkaaDoor.kind
open Go.RowKit
open words kindp word

def elemT (t : Ty) : Ty := if t.1 = 4 then (2, []) else if t.1 = 5 then (3, t.2) else (0, [])

/-- the length of the longest pattern is there -/
def Mx (w : World) : Prop := ∃ m, w.cell? ⟨1, 0, none⟩ = some (.int .i64 m)
theorem Mx.below {w w' : World} (h : Mx w) (hb : Below w.heap.size w w') : Mx w' := by
 obtain ⟨m, hm⟩ := h
 exact ⟨m, (hb.cell (World.block_lt_of_cell? _ _ hm)).trans hm⟩
theorem Mx.drewN {w : World} {n : Nat} (h : Mx w) : Mx (w.drewN n) := h
theorem cut_le (s : Tx) : (Lib.cut s [59]).1.length ≤ s.length := by
 unfold Lib.cut
 split
 ·dsimp only; rw [List.length_take]; omega
 ·exact Nat.le_refl _
end Go.Proofs.YtnmnnokdoiagkaaDoor.kind

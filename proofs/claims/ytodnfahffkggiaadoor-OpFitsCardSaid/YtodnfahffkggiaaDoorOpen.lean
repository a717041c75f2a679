/-
  What Open of crc hands back: the bytes that were sealed, or the error.
-/
import Derived.Test.YtodnfahffkggiaaDoorSeal
import Derived.Deep.RegionHeld3
import Derived.ChangeKeysEq
namespace Go.Proofs.YtodnfahffkggiaaDoor.sealing
open Go.RowKit
open Go.Proofs.YtodnfahffkggiaaDoor.crcnum Go.Proofs.YtodnfahffkggiaaDoor.words

theorem four_of {l : List Nat} (h : l.length = 4) : ∃ a b c d, l = [a, b, c, d] := by
  match l, h with
  | [a, b, c, d], _ => exact ⟨a, b, c, d, rfl⟩

set_option maxRecDepth 100000 in
theorem info5 : ∃ i, Tryd.prog.info? 5 = some i := ⟨_, rfl⟩
set_option maxRecDepth 100000 in
theorem cells5 : Tryd.prog.cellsOf 5 = 1 := by kernel_rfl
/-- OPEN: the bytes that were sealed, or the error. -/
def NewO (w : World) (s : List Nat × Nat) (e : Ending) (w' : World) : Prop :=
  ∃ v, e = .returned (.tuple #[v, .int .i64 (s.2 : Int)]) ∧ w'.ownsRow w.heap.size 5 1 v s.1.length (B s.1) ∧ Below w.heap.size w w'
end Go.Proofs.YtodnfahffkggiaaDoor.sealing

/-
  Layer 6: a descriptor's parameters, and its answer: the program's.
-/
import Derived.Test.YtnmnnokdoiagkaaDoorKindS
namespace Go.Proofs.YtnmnnokdoiagkaaDoor.kind
open Go.RowKit
open words kindp word rdr
/-- what a reading of a signature comes to -/
def outS (q : Option (List Ty × Ty)) : List Ty × Ty × Nat := match q with | some (p, t) => (p, t, 0) | none => ([], (0, []), 1)
theorem split_out {d : Tx} (h : ¬ 64 < d.length) : splitT d = if 8 < (outS (sigD d)).1.length then ([], (0, []), 3) else outS (sigD d) := by
  unfold splitT
  rw [if_neg h]
  cases sigD d with
  | none => rfl
  | some q => rfl

end Go.Proofs.YtnmnnokdoiagkaaDoor.kind

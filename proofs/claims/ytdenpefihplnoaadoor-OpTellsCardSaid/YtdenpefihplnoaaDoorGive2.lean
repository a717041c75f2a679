/-
  What the program's inner reads do, on: the next n bytes, a text, a section.
-/
import Derived.Test.YtdenpefihplnoaaDoorGive
import Derived.Test.YtdenpefihplnoaaDoorOpen
namespace Go.Proofs.YtdenpefihplnoaaDoor.give
open Go.RowKit
open Go.Proofs.YtdenpefihplnoaaDoor.num Go.Proofs.YtdenpefihplnoaaDoor.words Go.Proofs.YtdenpefihplnoaaDoor.rdnum Go.Proofs.YtdenpefihplnoaaDoor.rdr Go.Proofs.YtdenpefihplnoaaDoor.sealing

set_option maxRecDepth 100000 in
/-- bytes as a text -/
def S (l : List Nat) : Value := .string ⟨(l.map UInt8.ofNat).toArray⟩
end Go.Proofs.YtdenpefihplnoaaDoor.give

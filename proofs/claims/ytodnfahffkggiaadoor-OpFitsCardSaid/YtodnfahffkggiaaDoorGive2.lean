/-
  What the program's inner reads do, on: the next n bytes, a text, a section.
-/
import Derived.Test.YtodnfahffkggiaaDoorGive
import Derived.Test.YtodnfahffkggiaaDoorOpen
namespace Go.Proofs.YtodnfahffkggiaaDoor.give
open Go.RowKit
open Go.Proofs.YtodnfahffkggiaaDoor.num Go.Proofs.YtodnfahffkggiaaDoor.words Go.Proofs.YtodnfahffkggiaaDoor.rdnum Go.Proofs.YtodnfahffkggiaaDoor.rdr Go.Proofs.YtodnfahffkggiaaDoor.sealing

set_option maxRecDepth 100000 in
/-- bytes as a text -/
def S (l : List Nat) : Value := .string ⟨(l.map UInt8.ofNat).toArray⟩
end Go.Proofs.YtodnfahffkggiaaDoor.give

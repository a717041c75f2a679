/-
  What the program's inner reads do, on: the next n bytes, a text, a section.
-/
import Derived.Test.YtchhibicbgimcaaDoorGive
import Derived.Test.YtchhibicbgimcaaDoorOpen
namespace Go.Proofs.YtchhibicbgimcaaDoor.give
open Go.RowKit
open Go.Proofs.YtchhibicbgimcaaDoor.num Go.Proofs.YtchhibicbgimcaaDoor.words Go.Proofs.YtchhibicbgimcaaDoor.rdnum Go.Proofs.YtchhibicbgimcaaDoor.rdr Go.Proofs.YtchhibicbgimcaaDoor.sealing

set_option maxRecDepth 100000 in
/-- bytes as a text -/
def S (l : List Nat) : Value := .string ⟨(l.map UInt8.ofNat).toArray⟩
end Go.Proofs.YtchhibicbgimcaaDoor.give

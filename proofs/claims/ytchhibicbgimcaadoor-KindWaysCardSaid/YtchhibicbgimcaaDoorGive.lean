/-
  What the program's inner reads do: each answers, or gives up with a panic that bears the error and its place.
-/
import Derived.Test.YtchhibicbgimcaaDoorRdr
import Derived.Test.YtchhibicbgimcaaDoorTake
import Derived.Deep.QuietTactic
import Derived.BigQuiet
import Derived.IntWalk
import Derived.Deep.RegionHeld3
namespace Go.Proofs.YtchhibicbgimcaaDoor.give
open Go.RowKit
open Go.Proofs.YtchhibicbgimcaaDoor.num Go.Proofs.YtchhibicbgimcaaDoor.words Go.Proofs.YtchhibicbgimcaaDoor.rdnum Go.Proofs.YtchhibicbgimcaaDoor.rdr
end Go.Proofs.YtchhibicbgimcaaDoor.give

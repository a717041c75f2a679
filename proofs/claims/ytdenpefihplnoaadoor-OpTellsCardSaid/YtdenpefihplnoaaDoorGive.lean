/-
  What the program's inner reads do: each answers, or gives up with a panic that bears the error and its place.
-/
import Derived.Test.YtdenpefihplnoaaDoorRdr
import Derived.Test.YtdenpefihplnoaaDoorTake
import Derived.Deep.QuietTactic
import Derived.BigQuiet
import Derived.IntWalk
import Derived.Deep.RegionHeld3
namespace Go.Proofs.YtdenpefihplnoaaDoor.give
open Go.RowKit
open Go.Proofs.YtdenpefihplnoaaDoor.num Go.Proofs.YtdenpefihplnoaaDoor.words Go.Proofs.YtdenpefihplnoaaDoor.rdnum Go.Proofs.YtdenpefihplnoaaDoor.rdr
end Go.Proofs.YtdenpefihplnoaaDoor.give

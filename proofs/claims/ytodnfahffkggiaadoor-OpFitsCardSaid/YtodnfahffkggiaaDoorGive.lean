/-
  What the program's inner reads do: each answers, or gives up with a panic that bears the error and its place.
-/
import Derived.Test.YtodnfahffkggiaaDoorRdr
import Derived.Test.YtodnfahffkggiaaDoorTake
import Derived.Deep.QuietTactic
import Derived.BigQuiet
import Derived.IntWalk
import Derived.Deep.RegionHeld3
namespace Go.Proofs.YtodnfahffkggiaaDoor.give
open Go.RowKit
open Go.Proofs.YtodnfahffkggiaaDoor.num Go.Proofs.YtodnfahffkggiaaDoor.words Go.Proofs.YtodnfahffkggiaaDoor.rdnum Go.Proofs.YtodnfahffkggiaaDoor.rdr
end Go.Proofs.YtodnfahffkggiaaDoor.give

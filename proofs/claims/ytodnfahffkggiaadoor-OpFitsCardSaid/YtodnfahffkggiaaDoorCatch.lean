/-
  What the deferred function of a read does: it catches a failure, and sets the reader to where that lies; without a failure it does nothing.
-/
import Derived.Test.YtodnfahffkggiaaDoorGive3
import Derived.Defers
import Derived.Recover
namespace Go.Proofs.YtodnfahffkggiaaDoor.catching
open Go.RowKit
open Go.Proofs.YtodnfahffkggiaaDoor.num Go.Proofs.YtodnfahffkggiaaDoor.words Go.Proofs.YtodnfahffkggiaaDoor.rdnum Go.Proofs.YtodnfahffkggiaaDoor.rdr Go.Proofs.YtodnfahffkggiaaDoor.give

end Go.Proofs.YtodnfahffkggiaaDoor.catching

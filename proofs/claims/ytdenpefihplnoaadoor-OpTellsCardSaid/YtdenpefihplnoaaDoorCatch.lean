/-
  What the deferred function of a read does: it catches a failure, and sets the reader to where that lies; without a failure it does nothing.
-/
import Derived.Test.YtdenpefihplnoaaDoorGive3
import Derived.Defers
import Derived.Recover
namespace Go.Proofs.YtdenpefihplnoaaDoor.catching
open Go.RowKit
open Go.Proofs.YtdenpefihplnoaaDoor.num Go.Proofs.YtdenpefihplnoaaDoor.words Go.Proofs.YtdenpefihplnoaaDoor.rdnum Go.Proofs.YtdenpefihplnoaaDoor.rdr Go.Proofs.YtdenpefihplnoaaDoor.give

end Go.Proofs.YtdenpefihplnoaaDoor.catching

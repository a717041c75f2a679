/-
  What the deferred function of a read does: it catches a failure, and sets the reader to where that lies; without a failure it does nothing.
-/
import Derived.Test.YtchhibicbgimcaaDoorGive3
import Derived.Defers
import Derived.Recover
namespace Go.Proofs.YtchhibicbgimcaaDoor.catching
open Go.RowKit
open Go.Proofs.YtchhibicbgimcaaDoor.num Go.Proofs.YtchhibicbgimcaaDoor.words Go.Proofs.YtchhibicbgimcaaDoor.rdnum Go.Proofs.YtchhibicbgimcaaDoor.rdr Go.Proofs.YtchhibicbgimcaaDoor.give

end Go.Proofs.YtchhibicbgimcaaDoor.catching

/-
  What a read does: nothing, if something had failed; else what its inner read answers, or its zero value, and the failure is kept.
-/
import Derived.Test.YtdenpefihplnoaaDoorCatch
namespace Go.Proofs.YtdenpefihplnoaaDoor.reading
open Go.RowKit
open Go.Proofs.YtdenpefihplnoaaDoor.num Go.Proofs.YtdenpefihplnoaaDoor.words Go.Proofs.YtdenpefihplnoaaDoor.rdnum Go.Proofs.YtdenpefihplnoaaDoor.rdr Go.Proofs.YtdenpefihplnoaaDoor.give Go.Proofs.YtdenpefihplnoaaDoor.catching

end Go.Proofs.YtdenpefihplnoaaDoor.reading

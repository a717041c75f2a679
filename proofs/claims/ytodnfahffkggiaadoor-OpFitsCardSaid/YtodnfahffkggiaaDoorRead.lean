/-
  What a read does: nothing, if something had failed; else what its inner read answers, or its zero value, and the failure is kept.
-/
import Derived.Test.YtodnfahffkggiaaDoorCatch
namespace Go.Proofs.YtodnfahffkggiaaDoor.reading
open Go.RowKit
open Go.Proofs.YtodnfahffkggiaaDoor.num Go.Proofs.YtodnfahffkggiaaDoor.words Go.Proofs.YtodnfahffkggiaaDoor.rdnum Go.Proofs.YtodnfahffkggiaaDoor.rdr Go.Proofs.YtodnfahffkggiaaDoor.give Go.Proofs.YtodnfahffkggiaaDoor.catching

end Go.Proofs.YtodnfahffkggiaaDoor.reading

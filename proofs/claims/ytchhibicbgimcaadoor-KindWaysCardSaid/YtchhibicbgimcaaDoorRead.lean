/-
  What a read does: nothing, if something had failed; else what its inner read answers, or its zero value, and the failure is kept.
-/
import Derived.Test.YtchhibicbgimcaaDoorCatch
namespace Go.Proofs.YtchhibicbgimcaaDoor.reading
open Go.RowKit
open Go.Proofs.YtchhibicbgimcaaDoor.num Go.Proofs.YtchhibicbgimcaaDoor.words Go.Proofs.YtchhibicbgimcaaDoor.rdnum Go.Proofs.YtchhibicbgimcaaDoor.rdr Go.Proofs.YtchhibicbgimcaaDoor.give Go.Proofs.YtchhibicbgimcaaDoor.catching

end Go.Proofs.YtchhibicbgimcaaDoor.reading

/-
  Layer 5, the document's answer: two pools together.
-/
import Derived.Test.YtchhibicbgimcaaPool5G
namespace Go.Proofs.Ytchhibicbgimcaa.pool
open Go.RowKit Go.Maps
open Go.Proofs.Ytchhibicbgimcaa.num Go.Proofs.Ytchhibicbgimcaa.words Go.Proofs.Ytchhibicbgimcaa.poolp
end Go.Proofs.Ytchhibicbgimcaa.pool

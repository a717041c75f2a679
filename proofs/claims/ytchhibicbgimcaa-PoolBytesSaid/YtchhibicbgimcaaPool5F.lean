/-
  Layer 5, the document's answer: a string's place in a pool.
-/
import Derived.Test.YtchhibicbgimcaaPool5M
namespace Go.Proofs.Ytchhibicbgimcaa.pool
open Go.RowKit Go.Maps
open Go.Proofs.Ytchhibicbgimcaa.num Go.Proofs.Ytchhibicbgimcaa.words Go.Proofs.Ytchhibicbgimcaa.poolp
end Go.Proofs.Ytchhibicbgimcaa.pool

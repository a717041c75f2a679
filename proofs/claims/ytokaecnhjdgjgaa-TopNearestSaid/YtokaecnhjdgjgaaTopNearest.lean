/-
  An object's code for a method is that of the first class, from its own one up, that declares it.
-/
import Derived.Test.YtokaecnhjdgjgaaFrame
import Derived.Test.YtokaecnhjdgjgaaTopNearestW
import Derived.Test.YtokaecnhjdgjgaaPrgO
import Derived.Test.YtokaecnhjdgjgaaFrame3
namespace Go.Proofs.Ytokaecnhjdgjgaa.topNearest
open Go.ChangeShapes Go.WideShapes Go.ChangeAt Go.RowKit
open Go.Proofs.Ytokaecnhjdgjgaa.words Go.Proofs.Ytokaecnhjdgjgaa.frame
end Go.Proofs.Ytokaecnhjdgjgaa.topNearest

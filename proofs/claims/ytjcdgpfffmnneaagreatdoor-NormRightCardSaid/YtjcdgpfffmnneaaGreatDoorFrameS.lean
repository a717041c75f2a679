/-
 How an argument that is a text is bounded.
-/
import Derived.Test.YtjcdgpfffmnneaaGreatDoorFrame
import Derived.ChangeMaps5
namespace Go.Proofs.YtjcdgpfffmnneaaGreatDoor.frame
open Go.ChangeShapes Go.WideShapes Go.ChangeAt Go.RowKit

end Go.Proofs.YtjcdgpfffmnneaaGreatDoor.frame

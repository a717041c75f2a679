/-
 Layer 6, of no program: types and descriptors with other classes' names, which classes a descriptor names, and the way back.
-/
import Derived.Test.YtjcdgpfffmnneaaGreatDoorKindP
namespace Go.Proofs.YtjcdgpfffmnneaaGreatDoor.kindp
end Go.Proofs.YtjcdgpfffmnneaaGreatDoor.kindp

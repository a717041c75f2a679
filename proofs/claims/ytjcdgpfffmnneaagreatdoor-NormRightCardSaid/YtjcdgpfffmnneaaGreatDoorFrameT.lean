/-
 How an argument that is a slice of texts is opened: what it holds, how long it is, and what its size is bounded by.
-/
import Derived.Test.YtjcdgpfffmnneaaGreatDoorFrame
import Derived.Test.YtjcdgpfffmnneaaGreatDoorTexts
import Derived.SliceStrings
namespace Go.Proofs.YtjcdgpfffmnneaaGreatDoor.frame
open Go.ChangeShapes Go.WideShapes Go.ChangeAt Go.RowKit
open words texts
theorem weights_all {H : Type} {P : Program} {e : TypeId} {y : DataW H} {n : Nat} (hn : n ∈ y.weights P e) : ∀ {l : List (DataW H)}, y ∈ l → n ∈ DataW.weightsAll P e l
 | [], h => by cases h
 | d :: r, h => by
  simp only [DataW.weightsAll, List.mem_append]
  rcases List.mem_cons.1 h with rfl | h
  ·exact .inl hn
  ·exact .inr (weights_all hn h)
end Go.Proofs.YtjcdgpfffmnneaaGreatDoor.frame

/-
 What the reference's SameTexts answers of two slices that hold the same texts: true; it only reads.
-/
import Derived.Test.YtjcdgpfffmnneaaGreatDoorProg
import Derived.Test.YtjcdgpfffmnneaaGreatDoorWords
import Derived.Lib.Hide
import Derived.Deep.QuietTactic
import Derived.BigQuiet
namespace Go.Proofs.YtjcdgpfffmnneaaGreatDoor.texts
open Go.RowKit
open words

/-- texts, as cells -/
def S (l : List ByteArray) : List Value := l.map Value.string
end Go.Proofs.YtjcdgpfffmnneaaGreatDoor.texts

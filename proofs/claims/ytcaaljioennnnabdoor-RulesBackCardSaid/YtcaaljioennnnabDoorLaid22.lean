/-
  The library's tables as the program's text lays them, for the laws of rules: a world in which they lie so, and the library's bound on short texts.
-/
import Derived.ProofKit
import Derived.Deep.DeepHandedRow
import Derived.Lib.LaidTab
import Derived.Test.YtcaaljioennnnabDoorRows
import Derived.Test.YtcaaljioennnnabDoorRulG
namespace Go.Proofs.YtcaaljioennnnabDoor.Laid22
open Go.ChangeShapes Go.WideShapes Go.ChangeAt Go.RowKit
open Go.Proofs.YtcaaljioennnnabDoor.rul
def laidL : List (String × DataW Unit) := [("unicode/utf8.acceptRanges", Rows.laid_unicode_utf8_acceptRanges), ("unicode/utf8.first", Rows.laid_unicode_utf8_first)]
theorem most {W : World} (hs : W.ShapedOpen Tryd.prog) : Mc W := Tryd.laysM145.s1_3 W hs
def cellsAgg : DataW Unit → Array Value
 | .agg l => (l.map fun | .lit x => x.value | _ => .nilFunc).toArray
 | _ => #[]
def cellsAgg2 : DataW Unit → Array Value
  | .agg l => (l.flatMap fun | .agg m => m.map (fun | .lit x => x.value | _ => .nilFunc) | _ => []).toArray
  | _ => #[]
def setRow (cs : Array Value) : Obj → Obj
 | .cells _ t fz => .cells cs t fz
 | o => o
/-- A WORLD FOR THE WITNESS -/
noncomputable def laidWorld (os : Os) : World :=
 { World.holding Tryd.prog os ⟨#[], #[], []⟩ with heap := ((World.holding Tryd.prog os ⟨#[], #[], []⟩).heap.modify 2 (setRow (cellsAgg2 Rows.laid_unicode_utf8_acceptRanges))).modify 1 (setRow (cellsAgg Rows.laid_unicode_utf8_first)) }
end Go.Proofs.YtcaaljioennnnabDoor.Laid22

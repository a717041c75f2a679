/-
 Layer 6: what an array has in it, and a class that stands first in a text: the program's answers.
-/
import Derived.Test.YtgpfohpmgbnimaaKindR
import Derived.Test.YtgpfohpmgbnimaaShelf
namespace Go.Proofs.Ytgpfohpmgbnimaa.kind
open Go.RowKit
open words kindp word

def elemT (t : Ty) : Ty := if t.1 = 4 then (2, []) else if t.1 = 5 then (3, t.2) else (0, [])

theorem cut_le (s : Tx) : (Lib.cut s [59]).1.length ≤ s.length := by
 unfold Lib.cut
 split
 ·dsimp only; rw [List.length_take]; omega
 ·exact Nat.le_refl _
end Go.Proofs.Ytgpfohpmgbnimaa.kind

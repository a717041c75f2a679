/-
 Layer 4: which texts are names: the reference's answers are the program's.
-/
import Derived.Test.YtgpfohpmgbnimaaWordN
namespace Go.Proofs.Ytgpfohpmgbnimaa.word
open Go.RowKit
open num words give write
theorem letter95 : letterB 95 = true := by decide
theorem class47 : classB 47 = true := by decide
end Go.Proofs.Ytgpfohpmgbnimaa.word

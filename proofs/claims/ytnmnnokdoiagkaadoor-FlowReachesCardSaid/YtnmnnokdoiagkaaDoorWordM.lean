/-
 Layer 4: which texts are names: the reference's answers are the program's.
-/
import Derived.Test.YtnmnnokdoiagkaaDoorWordN
namespace Go.Proofs.YtnmnnokdoiagkaaDoor.word
open Go.RowKit
open num words give write
theorem letter95 : letterB 95 = true := by decide
theorem class47 : classB 47 = true := by decide
end Go.Proofs.YtnmnnokdoiagkaaDoor.word

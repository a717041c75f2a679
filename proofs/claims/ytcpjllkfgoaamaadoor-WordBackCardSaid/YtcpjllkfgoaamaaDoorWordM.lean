/-
  Layer 4: which texts are names: the reference's answers are the program's.
-/
import Derived.Test.YtcpjllkfgoaamaaDoorWordN
namespace Go.Proofs.YtcpjllkfgoaamaaDoor.word
open Go.RowKit
open Go.Proofs.YtcpjllkfgoaamaaDoor.num Go.Proofs.YtcpjllkfgoaamaaDoor.words Go.Proofs.YtcpjllkfgoaamaaDoor.give Go.Proofs.YtcpjllkfgoaamaaDoor.write
theorem letter95 : letterB 95 = true := by decide
theorem class47 : classB 47 = true := by decide
end Go.Proofs.YtcpjllkfgoaamaaDoor.word

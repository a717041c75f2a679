/-
  Layer 4: the reference's answer to what stands on both sides of the last point is the program's.
-/
import Derived.Test.YtcpjllkfgoaamaaDoorWordS
namespace Go.Proofs.YtcpjllkfgoaamaaDoor.word
open Go.RowKit
open Go.Proofs.YtcpjllkfgoaamaaDoor.num Go.Proofs.YtcpjllkfgoaamaaDoor.words Go.Proofs.YtcpjllkfgoaamaaDoor.give Go.Proofs.YtcpjllkfgoaamaaDoor.write
end Go.Proofs.YtcpjllkfgoaamaaDoor.word

/-
  What the reference writes: a text's bytes, and a section's.
-/
import Derived.Test.YtcpjllkfgoaamaaDoorWrite
namespace Go.Proofs.YtcpjllkfgoaamaaDoor.write
open Go.RowKit
open Go.Proofs.YtcpjllkfgoaamaaDoor.num Go.Proofs.YtcpjllkfgoaamaaDoor.words Go.Proofs.YtcpjllkfgoaamaaDoor.rdnum Go.Proofs.YtcpjllkfgoaamaaDoor.rdr Go.Proofs.YtcpjllkfgoaamaaDoor.give Go.Proofs.YtcpjllkfgoaamaaDoor.reading Go.Proofs.YtcpjllkfgoaamaaDoor.meth Go.Proofs.YtcpjllkfgoaamaaDoor.sealing Go.Proofs.YtcpjllkfgoaamaaDoor.crcnum
end Go.Proofs.YtcpjllkfgoaamaaDoor.write

/-
  The table of sums and the library's variable, as the row's list and the memory's shape give them, for TopLines.
-/
import Derived.Test.YtcpjllkfgoaamaaDoorLaid
import Derived.Test.YtcpjllkfgoaamaaDoorTopLinesW
namespace Go.Proofs.YtcpjllkfgoaamaaDoor.LaidH
open Go.ChangeShapes Go.WideShapes Go.ChangeAt Go.RowKit
theorem have_ {W : World} (h : laidMetH Tryd.prog [("secateur/crc.four", Rows.laid_secateur_crc_four)] W) (hs : W.ShapedOpen Tryd.prog) : topLines.Have W := by
  obtain ⟨m, hm⟩ := Tryd.laysM145.s1_3 W hs
  exact ⟨Laid.table h, Lib.lt_of_cell hm, m, hm⟩
noncomputable def laidWorld (os : Os) : World := Laid.laidWorld os
end Go.Proofs.YtcpjllkfgoaamaaDoor.LaidH

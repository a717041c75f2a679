/-
  The library's tables and variables as the program's text lays them, for the laws that cut texts: what the row's list gives, and a world in which they lie so.
-/
import Derived.Test.YtcpjllkfgoaamaaDoorLaid4
namespace Go.Proofs.YtcpjllkfgoaamaaDoor.Laid4L
open Go.ChangeShapes Go.WideShapes Go.ChangeAt Go.RowKit
open Go.Proofs.YtcpjllkfgoaamaaDoor.word Go.Proofs.YtcpjllkfgoaamaaDoor.Laid4

def laidL : List (String × DataW Unit) := [("math/bits.deBruijn32tab", Rows.laid_math_bits_deBruijn32tab), ("math/bits.deBruijn64tab", Rows.laid_math_bits_deBruijn64tab), ("internal/strconv.uint64pow10", Rows.laid_internal_strconv_uint64pow10), ("unicode/utf8.acceptRanges", Rows.laid_unicode_utf8_acceptRanges), ("strconv.ErrRange", Rows.laid_strconv_ErrRange), ("strconv.ErrSyntax", Rows.laid_strconv_ErrSyntax), ("unicode/utf8.first", Rows.laid_unicode_utf8_first)]
set_option maxRecDepth 100000 in
theorem table {W : World} (h : laidMetH Tryd.prog laidL W) (hs : W.ShapedOpen Tryd.prog) : Tabs W := by
  have hp : Lib.TabIs Tryd.prog W "internal/strconv.uint64pow10" .u64 Lib.pow10Tab :=
    Lib.tabIs_of_head live4.gPow tPow Tryd.underlying131 Tryd.underlying90 cellsE cellsT (laid_tail (laid_tail h))
  obtain ⟨m, hm⟩ := Tryd.laysM145.s1_3 W hs
  refine ⟨hp, Lib.lt_of_cell hm, ?_, m, hm⟩
  have hc := hp.cell live4.gPow 0 (by decide)
  exact Lib.lt_of_cell hc
theorem errs {W : World} (h : laidMetH Tryd.prog laidL W) : Errs W := by
  obtain ⟨te, pe, hc⟩ := err_of (laid_tail (laid_tail (laid_tail (laid_tail h)))) gErr tErr Tryd.underlying52
  exact ⟨_, hc, .inr ⟨te, pe, rfl⟩⟩
def cellsAgg2 : DataW Unit → Array Value
  | .agg l => (l.flatMap fun | .agg m => m.map (fun | .lit x => x.value | _ => .nilFunc) | _ => []).toArray
  | _ => #[]
/-- A WORLD FOR THE WITNESS -/
noncomputable def laidWorld (os : Os) : World :=
  { Laid4.laidWorld os with heap := ((Laid4.laidWorld os).heap.modify 6 (setRow (cellsAgg2 Rows.laid_unicode_utf8_acceptRanges))).modify 5 (setRow (cellsAgg Rows.laid_unicode_utf8_first)) }
set_option maxRecDepth 100000 in
theorem laid_met (os : Os) : laidMet Tryd.prog laidL ((laidWorld os).forCall (fun _ _ => 0) ⟨#[], #[.string ⟨#[]⟩], []⟩).memory :=
  laidMet_of_run' 8 (by kernel_rfl) (by kernel_rfl)
end Go.Proofs.YtcpjllkfgoaamaaDoor.Laid4L

/-
  The library's tables and variables as the program's text lays them: what the row's list gives, and a world in which they lie so.
-/
import Derived.Test.YtbapalgikfllkaaDoorRows
import Derived.Test.YtbapalgikfllkaaDoorLive4
import Derived.ProofKit
import Derived.Deep.DeepHandedRow
import Derived.Lib.LaidTab
namespace Go.Proofs.YtbapalgikfllkaaDoor.Laid4
open Go.ChangeShapes Go.WideShapes Go.ChangeAt Go.RowKit
open Go.Proofs.YtbapalgikfllkaaDoor.word

theorem laid_tail {P : Program} {x : String × DataW Unit} {l : List (String × DataW Unit)} {w : World} (h : laidMet P (x :: l) w) : laidMet P l w := by
  obtain ⟨ps, ⟨g, t, cs, fuel, p, q, _, _, _, _, hq, rfl⟩, hn, hc⟩ := h
  exact ⟨q, hq, (List.nodup_append.1 hn).2.1, fun b off hm => hc b off (List.mem_append_right _ hm)⟩
set_option maxRecDepth 100000 in
theorem tPow : (Tryd.prog.globals[4]?).map (·.type) = some 166 := by kernel_rfl
set_option maxRecDepth 100000 in
theorem cellsT : Tryd.prog.cellsOf 166 = 20 := by kernel_rfl
set_option maxRecDepth 100000 in
theorem cellsE : Tryd.prog.cellsOf 39 = 1 := by kernel_rfl
def laidL : List (String × DataW Unit) := [("math/bits.deBruijn32tab", Rows.laid_math_bits_deBruijn32tab), ("math/bits.deBruijn64tab", Rows.laid_math_bits_deBruijn64tab), ("internal/strconv.uint64pow10", Rows.laid_internal_strconv_uint64pow10), ("strconv.ErrRange", Rows.laid_strconv_ErrRange), ("strconv.ErrSyntax", Rows.laid_strconv_ErrSyntax)]
set_option maxRecDepth 100000 in
theorem table {W : World} (h : laidMetH Tryd.prog laidL W) (hs : W.ShapedOpen Tryd.prog) : Tabs W := by
  have hp : Lib.TabIs Tryd.prog W "internal/strconv.uint64pow10" .u64 Lib.pow10Tab :=
    Lib.tabIs_of_head live4.gPow tPow Tryd.underlying166 Tryd.underlying39 cellsE cellsT (laid_tail (laid_tail h))
  obtain ⟨m, hm⟩ := Tryd.laysM145.s1_3 W hs
  refine ⟨hp, Lib.lt_of_cell hm, ?_, m, hm⟩
  have hc := hp.cell live4.gPow 0 (by decide)
  exact Lib.lt_of_cell hc
def cellsAgg : DataW Unit → Array Value
  | .agg l => (l.map fun | .lit x => x.value | _ => .nilFunc).toArray
  | _ => #[]
def setRow (cs : Array Value) : Obj → Obj
  | .cells _ t fz => .cells cs t fz
  | o => o
def textOf : DataW Unit → Array Value
  | .iface _ (.ptr (.agg [.lit x])) => #[x.value]
  | _ => #[]
/-- A WORLD FOR THE WITNESS -/
noncomputable def laidWorld (os : Os) : World :=
  { World.holding Tryd.prog os ⟨#[], #[], []⟩ with heap := (((((((World.holding Tryd.prog os ⟨#[], #[], []⟩).heap.modify 7 (setRow (cellsAgg Rows.laid_math_bits_deBruijn32tab))).modify 8 (setRow (cellsAgg Rows.laid_math_bits_deBruijn64tab))).modify 4 (setRow (cellsAgg Rows.laid_internal_strconv_uint64pow10))).modify 3 (setRow #[.iface 162 (.pointer (some ⟨(World.holding Tryd.prog os ⟨#[], #[], []⟩).heap.size, 0, none⟩))])).modify 2 (setRow #[.iface 162 (.pointer (some ⟨(World.holding Tryd.prog os ⟨#[], #[], []⟩).heap.size + 1, 0, none⟩))])).push (.cells (textOf Rows.laid_strconv_ErrRange) 164 (0, 0))).push (.cells (textOf Rows.laid_strconv_ErrSyntax) 164 (0, 0)) }
set_option maxRecDepth 100000 in
theorem laid_met (os : Os) : laidMet Tryd.prog laidL ((laidWorld os).forCall (fun _ _ => 0) ⟨#[], #[.string ⟨#[]⟩], []⟩).memory :=
  laidMet_of_run' 8 (by kernel_rfl) (by kernel_rfl)
end Go.Proofs.YtbapalgikfllkaaDoor.Laid4

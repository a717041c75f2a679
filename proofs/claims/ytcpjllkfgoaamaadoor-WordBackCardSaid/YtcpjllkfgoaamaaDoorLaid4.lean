/-
  The library's tables and variables as the program's text lays them: what the row's list gives, and a world in which they lie so.
-/
import Derived.Test.YtcpjllkfgoaamaaDoorRows
import Derived.Test.YtcpjllkfgoaamaaDoorLive4
import Derived.Test.YtcpjllkfgoaamaaDoorParse
import Derived.ProofKit
import Derived.Deep.DeepHandedRow
import Derived.Lib.LaidTab
namespace Go.Proofs.YtcpjllkfgoaamaaDoor.Laid4
open Go.ChangeShapes Go.WideShapes Go.ChangeAt Go.RowKit
open Go.Proofs.YtcpjllkfgoaamaaDoor.word

theorem laid_tail {P : Program} {x : String × DataW Unit} {l : List (String × DataW Unit)} {w : World} (h : laidMet P (x :: l) w) : laidMet P l w := by
  obtain ⟨ps, ⟨g, t, cs, fuel, p, q, _, _, _, _, hq, rfl⟩, hn, hc⟩ := h
  exact ⟨q, hq, (List.nodup_append.1 hn).2.1, fun b off hm => hc b off (List.mem_append_right _ hm)⟩
set_option maxRecDepth 100000 in
theorem tPow : (Tryd.prog.globals[3]?).map (·.type) = some 131 := by kernel_rfl
set_option maxRecDepth 100000 in
theorem cellsT : Tryd.prog.cellsOf 131 = 20 := by kernel_rfl
set_option maxRecDepth 100000 in
theorem cellsE : Tryd.prog.cellsOf 90 = 1 := by kernel_rfl
def laidL : List (String × DataW Unit) := [("math/bits.deBruijn32tab", Rows.laid_math_bits_deBruijn32tab), ("math/bits.deBruijn64tab", Rows.laid_math_bits_deBruijn64tab), ("internal/strconv.uint64pow10", Rows.laid_internal_strconv_uint64pow10), ("strconv.ErrRange", Rows.laid_strconv_ErrRange), ("strconv.ErrSyntax", Rows.laid_strconv_ErrSyntax)]
set_option maxRecDepth 100000 in
theorem table {W : World} (h : laidMetH Tryd.prog laidL W) (hs : W.ShapedOpen Tryd.prog) : Tabs W := by
  have hp : Lib.TabIs Tryd.prog W "internal/strconv.uint64pow10" .u64 Lib.pow10Tab :=
    Lib.tabIs_of_head live4.gPow tPow Tryd.underlying131 Tryd.underlying90 cellsE cellsT (laid_tail (laid_tail h))
  obtain ⟨m, hm⟩ := Tryd.laysM145.s1_3 W hs
  refine ⟨hp, Lib.lt_of_cell hm, ?_, m, hm⟩
  have hc := hp.cell live4.gPow 0 (by decide)
  exact Lib.lt_of_cell hc
theorem err_of {P : Program} {W : World} {name nm : String} {d : DataW Unit} {rest : List (String × DataW Unit)} {g : Nat} {ti : TypeId} {ms : Array (String × TypeId)} (h : laidMet P ((name, .iface nm d) :: rest) W)
    (hg : P.globalNamed name = some g) (ht : (P.globals[g]?).map (·.type) = some ti) (hu : P.underlying ti = some (.interface ms)) : ∃ te pe, W.cell? ⟨g, 0, none⟩ = some (.iface te pe) := by
  obtain ⟨ps, ⟨g', t, cs, fuel, p, q, h1, h2, h3, h4, -, rfl⟩, -, -⟩ := h
  rw [hg] at h1; cases h1
  rw [ht] at h2; cases h2
  obtain ⟨tp, v, e⟩ : ∃ tp v, cs.toList = [.iface tp v] := by
    obtain ⟨_, tp, v, he, _⟩ := iface_of_trod hu h4
    exact ⟨tp, v, he⟩
  refine ⟨tp, v, ?_⟩
  have hc := World.var?_cell hg h3 0
  rw [show cs = #[.iface tp v] from Array.toList_inj.1 e] at hc
  simpa using hc
set_option maxRecDepth 100000 in
theorem gErr : Tryd.prog.globalNamed "strconv.ErrRange" = some 2 := by kernel_rfl
set_option maxRecDepth 100000 in
theorem tErr : (Tryd.prog.globals[2]?).map (·.type) = some 52 := by kernel_rfl
theorem errs {W : World} (h : laidMetH Tryd.prog laidL W) : Errs W := by
  obtain ⟨te, pe, hc⟩ := err_of (laid_tail (laid_tail (laid_tail h))) gErr tErr Tryd.underlying52
  exact ⟨_, hc, .inr ⟨te, pe, rfl⟩⟩
def cellsAgg : DataW Unit → Array Value
  | .agg l => (l.map fun | .lit x => x.value | _ => .nilFunc).toArray
  | _ => #[]
def setRow (cs : Array Value) : Obj → Obj
  | .cells _ t fz => .cells cs t fz
  | o => o
def textOf : DataW Unit → Array Value
  | .iface _ (.ptr (.agg [.lit x])) => #[x.value]
  | _ => #[]
/-- A WORLD FOR THE WITNESS -/
noncomputable def laidWorld (os : Os) : World :=
  { World.holding Tryd.prog os ⟨#[], #[], []⟩ with heap := (((((((World.holding Tryd.prog os ⟨#[], #[], []⟩).heap.modify 7 (setRow (cellsAgg Rows.laid_math_bits_deBruijn32tab))).modify 8 (setRow (cellsAgg Rows.laid_math_bits_deBruijn64tab))).modify 3 (setRow (cellsAgg Rows.laid_internal_strconv_uint64pow10))).modify 2 (setRow #[.iface 127 (.pointer (some ⟨(World.holding Tryd.prog os ⟨#[], #[], []⟩).heap.size, 0, none⟩))])).modify 1 (setRow #[.iface 127 (.pointer (some ⟨(World.holding Tryd.prog os ⟨#[], #[], []⟩).heap.size + 1, 0, none⟩))])).push (.cells (textOf Rows.laid_strconv_ErrRange) 129 (0, 0))).push (.cells (textOf Rows.laid_strconv_ErrSyntax) 129 (0, 0)) }
set_option maxRecDepth 100000 in
theorem laid_met (os : Os) : laidMet Tryd.prog laidL ((laidWorld os).forCall (fun _ _ => 0) ⟨#[], #[.string ⟨#[]⟩], []⟩).memory :=
  laidMet_of_run' 8 (by kernel_rfl) (by kernel_rfl)
end Go.Proofs.YtcpjllkfgoaamaaDoor.Laid4

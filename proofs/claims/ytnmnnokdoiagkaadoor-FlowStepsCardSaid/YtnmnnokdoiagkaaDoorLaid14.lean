/-
 The variable that layer 14 lists, as the program's text lays them.
-/
import Derived.Test.YtnmnnokdoiagkaaDoorLaid7A
namespace Go.Proofs.YtnmnnokdoiagkaaDoor.Laid14
open Go.ChangeShapes Go.WideShapes Go.ChangeAt Go.RowKit
open kindp opp op kind
def laidL : List (String × DataW Unit) := [("secateur/op.shapes", Rows.laid_secateur_op_shapes)]
set_option maxRecDepth 100000 in
theorem gShapes : Tryd.prog.globalNamed "secateur/op.shapes" = some 0 := by kernel_rfl
set_option maxRecDepth 100000 in
theorem tShapes : (Tryd.prog.globals[0]?).map (·.type) = some 61 := by kernel_rfl
set_option maxRecDepth 100000 in
theorem table7 {W : World} {rest : List (String × DataW Unit)} (h : laidMet Tryd.prog (("secateur/op.shapes", Rows.laid_secateur_op_shapes) :: rest) W) : Sh W := by
 obtain ⟨ps, ⟨g', t, cs, fuel, p, q, h1, h2, h3, h4, -, rfl⟩, -, -⟩ := h
 rw [gShapes] at h1; cases h1
 rw [tShapes] at h2; cases h2
 obtain ⟨xs, n, -, hx, hcl, hxl, hat⟩ := DataW.trod_array Tryd.underlying61 h4
 have e1 : Tryd.prog.cellsOf 9 = 1 := by kernel_rfl
 have e33 : Tryd.prog.cellsOf 61 = 33 := by kernel_rfl
 rw [e33] at hcl
 simp only [Prod.mk.injEq] at hx
 have hd : (shapes.map fun s => (DataW.lit (.string s) : DataW Unit)) = xs.map (·.1) := by
  have h5 := hx.1
  simp only [Rows.laid_secateur_op_shapes, DataW.agg.injEq] at h5
  exact h5
 have hc : ∀ j, j < 33 → W.cell? ⟨0, j, none⟩ = some (.string ⟨(shapes.getD j []).toArray⟩) := fun j hj => by
  have ha := hat j hj
  rw [e1, Nat.mul_one] at ha
  have hy : xs[j]? = some (xs[j]'(by omega)) := List.getElem?_eq_getElem _
  rw [hy] at ha
  obtain ⟨s, e0, x0, -⟩ := DataW.trod_string Tryd.underlying9 ha
  have hcj : cs.toList[j]? = some (.string s) := by
   have := congrArg (·[0]?) e0
   simpa [List.getElem?_take, List.getElem?_drop] using this
  have hsj : (shapes.map fun s => (DataW.lit (.string s) : DataW Unit))[j]? = some (.lit (.string s.data.toList)) := by
   rw [hd, List.getElem?_map, hy, Option.map_some, x0]
  rw [List.getElem?_map] at hsj
  obtain ⟨u, hu, hue⟩ := Option.map_eq_some_iff.1 hsj
  simp only [DataW.lit.injEq, Lit.string.injEq] at hue
  have hg : shapes.getD j [] = s.data.toList := by rw [List.getD_eq_getElem?_getD, hu]; exact hue
  have hv := World.var?_cell gShapes h3 j
  rw [hv, ← Array.getElem?_toList, hcj, hg]
 refine ⟨?_, hc⟩
 have h0 := hc 0 (by omega)
 rcases Nat.lt_or_ge 0 W.heap.size with h1 | h1
 ·exact h1
 ·simp [World.cell?, Array.getElem?_eq_none h1] at h0
theorem table {W : World} (h : laidMetH Tryd.prog laidL W) : Sh W := table7 h
theorem most {W : World} (hs : W.ShapedOpen Tryd.prog) : Mx W := Tryd.laysM144.s1_3 W hs
def cellsAgg : DataW Unit → Array Value
 | .agg l => (l.map fun | .lit x => x.value | _ => .nilFunc).toArray
 | _ => #[]
def setRow (cs : Array Value) : Obj → Obj
 | .cells _ t fz => .cells cs t fz
 | o => o
/-- A WORLD FOR THE WITNESS -/
noncomputable def laidWorld (os : Os) : World :=
 { World.holding Tryd.prog os ⟨#[], #[], []⟩ with heap := (World.holding Tryd.prog os ⟨#[], #[], []⟩).heap.modify 0 (setRow (cellsAgg Rows.laid_secateur_op_shapes)) }
set_option maxRecDepth 100000 in
theorem laid_met (os : Os) : laidMet Tryd.prog laidL ((laidWorld os).forCall (fun _ _ => 0) ⟨#[], #[.slice none 0 0], []⟩).memory :=
 laidMet_of_run' 8 (by kernel_rfl) (by kernel_rfl)
end Go.Proofs.YtnmnnokdoiagkaaDoor.Laid14

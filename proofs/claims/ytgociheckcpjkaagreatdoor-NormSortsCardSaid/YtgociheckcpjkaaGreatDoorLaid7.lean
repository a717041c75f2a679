/- Laid7 -/
import Derived.Test.YtgociheckcpjkaaGreatDoorLaid7A
namespace Go.Proofs.YtgociheckcpjkaaGreatDoor.Laid7
open Go.ChangeShapes Go.WideShapes Go.ChangeAt Go.RowKit
open kindp opp op kind
set_option maxRecDepth 100000
theorem laid_tail {P : Program} {x : String × DataW Unit} {l : List (String × DataW Unit)} {w : World} (h : laidMet P (x :: l) w) : laidMet P l w := by
 obtain ⟨ps, ⟨g, t, cs, fuel, p, q, _, _, _, _, hq, rfl⟩, hn, hc⟩ := h
 exact ⟨q, hq, (List.nodup_append.1 hn).2.1, fun b off hm => hc b off (List.mem_append_right _ hm)⟩
def laidL : List (String × DataW Unit) := [("secateur/kind.void", Rows.laid_secateur_kind_void), ("secateur/op.shapes", Rows.laid_secateur_op_shapes)]
theorem gVoid : Tryz.prog.globalNamed "secateur/kind.void" = some 0 := by kernel_rfl
theorem tVoid : (Tryz.prog.globals[0]?).map (·.type) = some 56 := by kernel_rfl
theorem gShapes : Tryz.prog.globalNamed "secateur/op.shapes" = some 1 := by kernel_rfl
theorem tShapes : (Tryz.prog.globals[1]?).map (·.type) = some 174 := by kernel_rfl
theorem void {W : World} {rest : List (String × DataW Unit)} (h : laidMet Tryz.prog (("secateur/kind.void", Rows.laid_secateur_kind_void) :: rest) W) : Vd W := by
 obtain ⟨ps, ⟨g', t, cs, fuel, p, q, h1, h2, h3, h4, -, rfl⟩, -, -⟩ := h
 rw [gVoid] at h1; cases h1
 rw [tVoid] at h2; cases h2
 obtain ⟨n, v0, v1, y0, y1, e, hx, g0, g1⟩ := open_two Tryz.underlying56 (by kernel_rfl) rfl rfl (by kernel_rfl) (by kernel_rfl) h4
 obtain ⟨k, e0, x0, -⟩ := DataW.trod_int Tryz.underlying54 g0
 obtain ⟨s, e1, x1, -⟩ := DataW.trod_string Tryz.underlying9 g1
 rw [x0, x1] at hx
 simp only [List.cons.injEq, and_true] at e0 e1
 subst e0 e1
 have hcs : cs = #[.int .i64 k, .string s] := Array.toList_inj.1 e
 simp only [Rows.laid_secateur_kind_void, Prod.mk.injEq, DataW.agg.injEq, List.cons.injEq, DataW.lit.injEq, Lit.int.injEq, Lit.string.injEq, and_true, true_and] at hx
 obtain ⟨⟨hk, hs⟩, -⟩ := hx
 have hs0 : s = ⟨#[]⟩ := by
  apply ByteArray.ext; rw [← Array.toList_inj]; rw [← hs]
 have c0 := World.var?_cell gVoid h3 0
 have c1 := World.var?_cell gVoid h3 1
 rw [hcs] at c0 c1
 refine ⟨?_, ?_⟩
 ·rw [c0, ← hk]; rfl
 ·rw [c1, hs0]; rfl
theorem table7 {W : World} {rest : List (String × DataW Unit)} (h : laidMet Tryz.prog (("secateur/op.shapes", Rows.laid_secateur_op_shapes) :: rest) W) : Sh W := by
 obtain ⟨ps, ⟨g', t, cs, fuel, p, q, h1, h2, h3, h4, -, rfl⟩, -, -⟩ := h
 rw [gShapes] at h1; cases h1
 rw [tShapes] at h2; cases h2
 obtain ⟨xs, n, -, hx, hcl, hxl, hat⟩ := DataW.trod_array Tryz.underlying174 h4
 have e1 : Tryz.prog.cellsOf 9 = 1 := by kernel_rfl
 have e33 : Tryz.prog.cellsOf 174 = 33 := by kernel_rfl
 rw [e33] at hcl
 simp only [Prod.mk.injEq] at hx
 have hd : (shapes.map fun s => (DataW.lit (.string s) : DataW Unit)) = xs.map (·.1) := by
  have h5 := hx.1
  simp only [Rows.laid_secateur_op_shapes, DataW.agg.injEq] at h5
  exact h5
 have hc : ∀ j, j < 33 → W.cell? ⟨1, j, none⟩ = some (.string ⟨(shapes.getD j []).toArray⟩) := fun j hj => by
  have ha := hat j hj
  rw [e1, Nat.mul_one] at ha
  have hy : xs[j]? = some (xs[j]'(by omega)) := List.getElem?_eq_getElem _
  rw [hy] at ha
  obtain ⟨s, e0, x0, -⟩ := DataW.trod_string Tryz.underlying9 ha
  have hcj : cs.toList[j]? = some (.string s) := by
   have := congrArg (·[0]?) e0
   simpa [List.getElem?_take, List.getElem?_drop] using this
  have hsj : (shapes.map fun s => (DataW.lit (.string s) : DataW Unit))[j]? = some (.lit (.string s.data.toList)) := by
   rw [hd, List.getElem?_map, hy, Option.map_some, x0]
  rw [List.getElem?_map] at hsj
  obtain ⟨u, hu, hue⟩ := Option.map_eq_some_iff.1 hsj
  simp only [DataW.lit.injEq, Lit.string.injEq] at hue
  have hg : shapes.getD j [] = s.data.toList := by rw [List.getD_eq_getElem?_getD, hu]; exact hue
  have hv := World.var?_cell gShapes h3 j
  rw [hv, ← Array.getElem?_toList, hcj, hg]
 refine ⟨?_, hc⟩
 have h0 := hc 0 (by omega)
 rcases Nat.lt_or_ge 1 W.heap.size with h1 | h1
 ·exact h1
 ·simp [World.cell?, Array.getElem?_eq_none h1] at h0
theorem table {W : World} (h : laidMetH Tryz.prog laidL W) : Sh W := table7 (laid_tail h)
theorem voids {W : World} (h : laidMetH Tryz.prog laidL W) : Vd W := void h
theorem most {W : World} (hs : W.ShapedOpen Tryz.prog) : Mx W := Tryz.laysM145.s1_3 W hs
def cellsAgg : DataW Unit → Array Value
 | .agg l => (l.map fun | .lit x => x.value | _ => .nilFunc).toArray
 | _ => #[]
def setRow (cs : Array Value) : Obj → Obj
 | .cells _ t fz => .cells cs t fz
 | o => o
noncomputable def laidWorld (os : Os) : World :=
 { World.holding Tryz.prog os ⟨#[], #[], []⟩ with heap := ((World.holding Tryz.prog os ⟨#[], #[], []⟩).heap.modify 0 (setRow (cellsAgg Rows.laid_secateur_kind_void))).modify 1 (setRow (cellsAgg Rows.laid_secateur_op_shapes)) }
end Go.Proofs.YtgociheckcpjkaaGreatDoor.Laid7

/-
  The type of what answers nothing, as the program's text lays it: what the row's list gives, and a world in which it lies so.
-/
import Derived.Test.YtchhibicbgimcaaDoorRows
import Derived.Test.YtchhibicbgimcaaDoorLive6
import Derived.ProofKit
import Derived.Deep.DeepHandedRow
import Derived.Lib.LaidTab
namespace Go.Proofs.YtchhibicbgimcaaDoor.Laid6
open Go.ChangeShapes Go.WideShapes Go.ChangeAt Go.RowKit
open Go.Proofs.YtchhibicbgimcaaDoor.kind

def laidL : List (String × DataW Unit) := [("secateur/kind.void", Rows.laid_secateur_kind_void)]
set_option maxRecDepth 100000 in
theorem gVoid : Tryd.prog.globalNamed "secateur/kind.void" = some 0 := by kernel_rfl
set_option maxRecDepth 100000 in
theorem tVoid : (Tryd.prog.globals[0]?).map (·.type) = some 24 := by kernel_rfl
/-- a struct of two cells, read -/
theorem open_two {H : Type} {enc : TypeId × Value → H} {P : Program} {w : World} {base : Nat} {spare : Nat → Bool} {held : Bool} {t : TypeId} {f0 f1 : Field} {fuel : Nat} {cs : List Value} {x : DataW H × List MemPlace} (ht : P.underlying t = some (.struct #[f0, f1])) (ce : P.cellsOf t = 2)
    (o0 : f0.offset = 0) (o1 : f1.offset = 1) (c0 : P.cellsOf f0.type = 1) (c1 : P.cellsOf f1.type = 1) (h : DataW.trod enc P w base spare held fuel t cs = some x) :
    ∃ (n : Nat) (v0 v1 : Value) (y0 y1 : DataW H × List MemPlace), cs = [v0, v1] ∧ x = (.agg [y0.1, y1.1], y0.2 ++ y1.2) ∧ DataW.trod enc P w base spare held n f0.type [v0] = some y0 ∧ DataW.trod enc P w base spare held n f1.type [v1] = some y1 := by
  obtain ⟨xs, n, _, hxy, hl, hxl, hf⟩ := DataW.trod_struct ht h
  rw [ce] at hl
  match xs, hxl, cs, hl with
  | [y0, y1], _, [v0, v1], _ =>
    have g0 := hf 0 f0 rfl
    have g1 := hf 1 f1 rfl
    simp [o0, o1, c0, c1] at g0 g1
    exact ⟨n, v0, v1, y0, y1, rfl, by rw [hxy]; simp, g0, g1⟩
set_option maxRecDepth 100000 in
theorem table {W : World} (h : laidMetH Tryd.prog laidL W) : Vd W := by
  obtain ⟨ps, ⟨g', t, cs, fuel, p, q, h1, h2, h3, h4, -, rfl⟩, -, -⟩ := h
  rw [gVoid] at h1; cases h1
  rw [tVoid] at h2; cases h2
  obtain ⟨n, v0, v1, y0, y1, e, hx, g0, g1⟩ := open_two Tryd.underlying24 (by kernel_rfl) rfl rfl (by kernel_rfl) (by kernel_rfl) h4
  obtain ⟨k, e0, x0, -⟩ := DataW.trod_int Tryd.underlying22 g0
  obtain ⟨s, e1, x1, -⟩ := DataW.trod_string Tryd.underlying9 g1
  rw [x0, x1] at hx
  simp only [List.cons.injEq, and_true] at e0 e1
  subst e0 e1
  have hcs : cs = #[.int .i64 k, .string s] := Array.toList_inj.1 e
  simp only [Rows.laid_secateur_kind_void, Prod.mk.injEq, DataW.agg.injEq, List.cons.injEq, DataW.lit.injEq, Lit.int.injEq, Lit.string.injEq, and_true, true_and] at hx
  obtain ⟨⟨hk, hs⟩, -⟩ := hx
  have hs0 : s = ⟨#[]⟩ := by
    apply ByteArray.ext; rw [← Array.toList_inj]; rw [← hs]
  have c0 := World.var?_cell gVoid h3 0
  have c1 := World.var?_cell gVoid h3 1
  rw [hcs] at c0 c1
  refine ⟨?_, ?_⟩
  · rw [c0, ← hk]; rfl
  · rw [c1, hs0]; rfl
theorem most {W : World} (hs : W.ShapedOpen Tryd.prog) : Mx W := Tryd.laysM145.s1_3 W hs
/-- A WORLD FOR THE WITNESS -/
noncomputable def laidWorld (os : Os) : World :=
  { World.holding Tryd.prog os ⟨#[], #[], []⟩ with heap := (World.holding Tryd.prog os ⟨#[], #[], []⟩).heap.modify 0 fun
      | .cells _ t frozen => .cells #[.int .i64 1, .string ⟨#[]⟩] t frozen
      | o => o }
end Go.Proofs.YtchhibicbgimcaaDoor.Laid6

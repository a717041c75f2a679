/-
 Layer 7: whether an instruction has what its shape has alone; whether a call is as its descriptor asks; whether numbers are within: the program's answers.
-/
import Derived.Test.YtgpfohpmgbnimaaOpS
import Derived.Test.YtgpfohpmgbnimaaKindV
import Derived.Deep.RegionHeld3
namespace Go.Proofs.Ytgpfohpmgbnimaa.op
open Go.RowKit
open words kindp opp kind

/-- a member's name -/
def nmL (c : Tx) : Bool := word.nameB ⟨c.toArray⟩
def formedB (i : In) : Bool := known i.o && (emptyB i (shapeL i.o) && ((!anyL (shapeL i.o) [67, 70, 77] || clsB i.cl) && (!anyL (shapeL i.o) [70, 77] || nmL i.nm)))
theorem bare_len (i : In) (s : Tx) : (bareL i s).ar.length ≤ i.ar.length := by
 unfold bareL; dsimp only; split
 ·exact Nat.zero_le _
 ·exact Nat.le_refl _
theorem alloc_new (w : World) (o : Obj) : (w.alloc o).heap[w.heap.size]? = some o := heap_alloc_new w o
theorem formed_cut {b1 b2 b3 b4 b5 b6 : Bool} {P : Bool → Prop} (h1 : b1 = false → P false) (h2 : b1 = true → b2 = false → P false) (h3 : b1 = true → b2 = true → b3 = true → b4 = false → P false)
  (h4 : b1 = true → b2 = true → b3 = false → b5 = false → P true) (h5 : b1 = true → b2 = true → b3 = false → b5 = true → b6 = false → P false) (h6 : b1 = true → b2 = true → b3 = false → b5 = true → b6 = true → P true)
  (h7 : b1 = true → b2 = true → b3 = true → b4 = true → b5 = false → P true) (h8 : b1 = true → b2 = true → b3 = true → b4 = true → b5 = true → b6 = false → P false) (h9 : b1 = true → b2 = true → b3 = true → b4 = true → b5 = true → b6 = true → P true) :
  P (b1 && (b2 && ((!b3 || b4) && (!b5 || b6)))) := by
 cases b1
 ·exact h1 rfl
 cases b2
 ·exact h2 rfl rfl
 cases b3
 ·cases b5
  ·exact h4 rfl rfl rfl rfl
  cases b6
  ·exact h5 rfl rfl rfl rfl rfl
  ·exact h6 rfl rfl rfl rfl rfl
 cases b4
 ·exact h3 rfl rfl rfl rfl
 cases b5
 ·exact h7 rfl rfl rfl rfl rfl
 cases b6
 ·exact h8 rfl rfl rfl rfl rfl rfl
 ·exact h9 rfl rfl rfl rfl rfl rfl

end Go.Proofs.Ytgpfohpmgbnimaa.op

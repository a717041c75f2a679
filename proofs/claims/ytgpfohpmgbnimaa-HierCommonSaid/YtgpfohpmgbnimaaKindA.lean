/-
 Layer 6: the type of all of a text; a reading that gives up is caught.
-/
import Derived.Test.YtgpfohpmgbnimaaKindT
import Derived.Defers
import Derived.Recover
namespace Go.Proofs.Ytgpfohpmgbnimaa.kind
open Go.RowKit
open words kindp word

/-- two cells that are set, and a block that is made -/
theorem two_alloc {w : World} {g : Nat} {a b : Value} {t : TypeId} (h : w.heap[g]? = some (.cells #[a, b] t (0, 0))) (x y : Value) (o : Obj) :
  (((w.setCell ⟨g, 0, none⟩ x).setCell ⟨g, 1, none⟩ y).alloc o).cell? ⟨g, 0, none⟩ = some x ∧ (((w.setCell ⟨g, 0, none⟩ x).setCell ⟨g, 1, none⟩ y).alloc o).cell? ⟨g, 1, none⟩ = some y := by
 have h2 := (two_set h x y).2.2
 have h3 := (((Below.refl _ ((w.setCell ⟨g, 0, none⟩ x).setCell ⟨g, 1, none⟩ y)).alloc (Nat.le_refl _) o).block g (blk_lt h2)).trans h2
 exact ⟨by rw [cell_of_row _ _ _ _ _ _ h3]; rfl, by rw [cell_of_row _ _ _ _ _ _ h3]; rfl⟩

end Go.Proofs.Ytgpfohpmgbnimaa.kind

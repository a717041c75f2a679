/-
 Layer 6: descriptors of any types, their renamings, and the classes they name: the program.
-/
import Derived.Test.YtjcdgpfffmnneaaGreatDoorKindV
import Derived.Laws.OwnMore
/- Layer 6: which of some types is the first wrong one, and a descriptor: the program's answers. -/
namespace Go.Proofs.YtjcdgpfffmnneaaGreatDoor.kind
open Go.RowKit
open words kindp word rdr
/-- the first of a list that is so -/
def Idx {α : Type} (P : α → Bool) (p : List α) (r : Int) : Prop := (r = -1 ∧ ∀ x ∈ p, P x = false) ∨ ∃ (i : Nat) (x : α), r = (i : Int) ∧ p[i]? = some x ∧ P x = true ∧ ∀ y ∈ p.take i, P y = false
theorem idx_any {α : Type} {P : α → Bool} {p : List α} {r : Int} (h : Idx P p r) : p.any P = decide (0 ≤ r) := by
 rcases h with ⟨rfl, h⟩ | ⟨i, x, rfl, hx, hp, -⟩
 ·rw [show decide ((0 : Int) ≤ -1) = false from rfl, List.any_eq_false]
  intro y hy; rw [h y hy]; simp
 ·rw [decide_eq_true (by omega), List.any_eq_true]
  exact ⟨x, List.mem_of_getElem? hx, hp⟩
theorem take_more {α : Type} {P : α → Bool} {p : List α} {k : Nat} {x : α} (h : ∀ y ∈ p.take k, P y = false) (hx : p[k]? = some x) (hp : P x = false) : ∀ y ∈ p.take (k + 1), P y = false := by
 intro y hy
 rw [List.take_add_one, hx] at hy
 rcases List.mem_append.1 hy with h1 | h1
 ·exact h y h1
 ·simp at h1; rw [h1]; exact hp

end Go.Proofs.YtjcdgpfffmnneaaGreatDoor.kind

/- Layer 6: a descriptor of any types: the program's answer. -/
namespace Go.Proofs.YtjcdgpfffmnneaaGreatDoor.kind
open Go.RowKit
open words kindp word rdr
end Go.Proofs.YtjcdgpfffmnneaaGreatDoor.kind

/- Layer 6: types with other classes' names: the program's answer. -/
namespace Go.Proofs.YtjcdgpfffmnneaaGreatDoor.kind
open Go.RowKit
open words kindp word rdr

end Go.Proofs.YtjcdgpfffmnneaaGreatDoor.kind

/- Layer 6: a descriptor with other classes' names: the program's answer. -/
namespace Go.Proofs.YtjcdgpfffmnneaaGreatDoor.kind
open Go.RowKit
open words kindp word rdr
end Go.Proofs.YtjcdgpfffmnneaaGreatDoor.kind

/- Layer 6: the classes that a descriptor names: the program's answer. -/
namespace Go.Proofs.YtjcdgpfffmnneaaGreatDoor.kind
open Go.RowKit
open words kindp word rdr

/-- texts, cell by cell -/
def SX (l : List Tx) : List Value := l.map fun x => .string ⟨x.toArray⟩
theorem SX_app (a b : List Tx) : SX (a ++ b) = SX a ++ SX b := by simp [SX]
theorem SX_len (l : List Tx) : (SX l).length = l.length := by simp [SX]
theorem new_rdg {W : World} (g : Nat) (cs : Array Value) (t : TypeId) (k : Nat) (hW : W.heap.size = g) (xs : List Value) (hx : cs.toList.take k = xs) : Rd (W.alloc (.cells cs t)) (some ⟨g, 0, none⟩) xs := by
 rw [← hW]; exact rd_blk (heap_alloc_new W _) hx
set_option maxRecDepth 100000 in
theorem infoX : (Tryz.prog.info? 9).map (fun i => (i.zero, i.size, i.bytes)) = some (some (.string ⟨#[]⟩), 1, 16) := by kernel_rfl

end Go.Proofs.YtjcdgpfffmnneaaGreatDoor.kind

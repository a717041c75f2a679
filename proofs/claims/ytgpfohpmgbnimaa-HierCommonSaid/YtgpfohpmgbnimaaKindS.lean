/-
 Layer 6: the types of a descriptor: the program's answer.
-/
import Derived.Test.YtgpfohpmgbnimaaKindB
namespace Go.Proofs.Ytgpfohpmgbnimaa.kind
open Go.RowKit
open words kindp word piece rdr

theorem pre_head (s : Tx) (c : UInt8) : Lib.hasPrefix s [c] = decide (s.head? = some c) := by
 unfold Lib.hasPrefix
 cases s with
 | nil => rfl
 | cons x r => simp [List.isPrefixOf, eq_comm (a := x)]; rfl
def strLen (v : Value) : Nat := match v with | .string s => s.size | _ => 0
theorem ext_tail (r : Tx) : (⟨r.toArray⟩ : ByteArray).extract 1 r.length = ⟨r.tail.toArray⟩ := by
 apply ByteArray.ext
 rw [← Array.toList_inj, ext_data]
 show (r.drop 1).take (r.length - 1) = r.tail
 rw [List.drop_one, List.take_of_length_le (by simp)]
/-- three cells that are set -/
theorem three_set {w : World} {g : Nat} {a b c : Value} {t : TypeId} (h : w.heap[g]? = some (.cells #[a, b, c] t (0, 0))) (x y z : Value) :
  (w.setCell ⟨g, 0, none⟩ x).cell? ⟨g, 0, none⟩ = some x ∧ ((w.setCell ⟨g, 0, none⟩ x).setCell ⟨g, 1, none⟩ y).cell? ⟨g, 1, none⟩ = some y ∧ (((w.setCell ⟨g, 0, none⟩ x).setCell ⟨g, 1, none⟩ y).setCell ⟨g, 2, none⟩ z).cell? ⟨g, 2, none⟩ = some z := by
 have h1 := heap_setCell_same w g 0 _ _ x h
 have h2 := heap_setCell_same _ g 1 _ _ y h1
 have h3 := heap_setCell_same _ g 2 _ _ z h2
 exact ⟨by rw [cell_of_row _ _ _ _ _ _ h1]; rfl, by rw [cell_of_row _ _ _ _ _ _ h2]; rfl, by rw [cell_of_row _ _ _ _ _ _ h3]; rfl⟩
/-- the last two of three cells that are set -/
theorem last_set {w : World} {g : Nat} {a b c : Value} {t : TypeId} (h : w.heap[g]? = some (.cells #[a, b, c] t (0, 0))) (y z : Value) :
  ((w.setCell ⟨g, 1, none⟩ y).setCell ⟨g, 2, none⟩ z).heap[g]? = some (.cells #[a, y, z] t (0, 0)) ∧ But g w ((w.setCell ⟨g, 1, none⟩ y).setCell ⟨g, 2, none⟩ z) := by
 have h2 := heap_setCell_same w g 1 _ _ y h
 have h3 := heap_setCell_same _ g 2 _ _ z h2
 exact ⟨h3, ((But.refl g w).set 1 _).set 2 _⟩
theorem own_ne {w : World} {base : Nat} {e : TypeId} {size : Nat} {v : Value} {n : Nat} {xs : List Value} (h : w.ownsRow base e size v n xs) {b : Nat} (hb : b < base) : some b ≠ v.ownBlock := fun e1 => by
 have := (h.lt b e1.symm).1; omega
theorem own_but {w w' : World} {base : Nat} {e : TypeId} {size : Nat} {v : Value} {n : Nat} {xs : List Value} (h : w.ownsRow base e size v n xs) {b : Nat} (hb : b < base) (hg : But b w w') : w'.ownsRow base e size v n xs :=
 h.kept hg (.inr (own_ne h hb).symm)
theorem own_old {w : World} {base : Nat} {e : TypeId} {size : Nat} {v : Value} {n : Nat} {xs : List Value} (h : w.ownsRow base e size v n xs) {b : Nat} (hb : w.heap.size ≤ b) : some b ≠ v.ownBlock := fun e1 => by
 have := (h.lt b e1.symm).2; omega
theorem new_rd {w W : World} (cs : Array Value) (t : TypeId) (k : Nat) (hW : W.heap.size = w.heap.size) (xs : List Value) (hx : cs.toList.take k = xs) : Rd (W.alloc (.cells cs t)) (some ⟨w.heap.size, 0, none⟩) xs := by
 rw [← hW]; exact rd_blk (heap_alloc_new W _) hx
theorem but_ne {w w' : World} {b g : Nat} {o : Obj} (hg : But b w w') (h : w.heap[g]? = some o) (hne : g ≠ b) : w'.heap[g]? = some o := hg.heap h hne
/-- what the loop holds -/
def SigI (G : Option (List Ty × Ty)) (n : Nat) (acc : List Ty) (r : Tx) : Prop := sigT (r.length + 1) acc r = G ∧ acc.length + r.length ≤ n

end Go.Proofs.Ytgpfohpmgbnimaa.kind

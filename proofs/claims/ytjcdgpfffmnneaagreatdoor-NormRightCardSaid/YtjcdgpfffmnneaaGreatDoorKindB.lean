/-
  Layer 6: a reading that gives up is caught, and comes to ErrForm; the type of a text; lists of types, cell by cell.
-/
import Derived.Test.YtjcdgpfffmnneaaGreatDoorKindA
/- Layer 6: a reading that gives up is caught, and comes to ErrForm; the type of a text. -/
namespace Go.Proofs.YtjcdgpfffmnneaaGreatDoor.kind
open Go.RowKit
open words kindp word rdr
/-- what the caught failure leaves -/
def Caught (g : Nat) (t : TypeId) (w : World) (e : Ending) (u' : FrameMode) (w' : World) : Prop :=
  e = .returned (.tuple #[]) ∧ u' = .panicking [{ v := noV, recovered := true }] ∧ w'.heap[g]? = some (.cells #[.int .i64 1] t (0, 0)) ∧ But g w w'
theorem caught_at {g : Nat} {t u : TypeId} {w : World} (hg : w.heap[g]? = some (.cells #[.int .i64 0] t (0, 0))) :
    ((w.setCell ⟨g, 0, none⟩ (.int .i64 1)).alloc (.cells #[] u)).heap[g]? = some (.cells #[.int .i64 1] t (0, 0)) ∧ But g w ((w.setCell ⟨g, 0, none⟩ (.int .i64 1)).alloc (.cells #[] u)) := by
  have h1 := heap_setCell_same w g 0 _ _ (.int .i64 1) hg
  exact ⟨(((Below.refl _ (w.setCell ⟨g, 0, none⟩ (.int .i64 1))).alloc (Nat.le_refl _) _).block g (blk_lt h1)).trans h1, ((But.refl g w).set 0 _).alloc _⟩
theorem caught_at2 {g : Nat} {t u : TypeId} {w : World} (hg : w.heap[g]? = some (.cells #[.int .i64 0] t (0, 0))) :
    ((w.alloc (.cells #[] u)).setCell ⟨g, 0, none⟩ (.int .i64 1)).heap[g]? = some (.cells #[.int .i64 1] t (0, 0)) ∧ But g w ((w.alloc (.cells #[] u)).setCell ⟨g, 0, none⟩ (.int .i64 1)) := by
  have h0 := (((Below.refl _ w).alloc (Nat.le_refl _) (.cells #[] u)).block g (blk_lt hg)).trans hg
  exact ⟨heap_setCell_same _ g 0 _ _ (.int .i64 1) h0, ((But.refl g w).alloc _).set 0 _⟩

theorem two_new (w : World) (A B : Obj) : ((w.alloc A).alloc B).heap[w.heap.size]? = some A ∧ ((w.alloc A).alloc B).heap[w.heap.size + 1]? = some B := by
  have h1 := heap_alloc_new w A
  have h2 := heap_alloc_new (w.alloc A) B
  rw [show (w.alloc A).heap.size = w.heap.size + 1 by simp] at h2
  exact ⟨(((Below.refl _ (w.alloc A)).alloc (Nat.le_refl _) B).block _ (blk_lt h1)).trans h1, h2⟩
def twoV (x : Ty × Nat) : Value := .tuple #[tyV x.1, .int .i64 (x.2 : Int)]

/-- THE TYPE OF A TEXT. -/
def parseV (s : Tx) : Value := twoV (parseT s)
end Go.Proofs.YtjcdgpfffmnneaaGreatDoor.kind

/- Layer 6: lists of types, cell by cell. -/
namespace Go.Proofs.YtjcdgpfffmnneaaGreatDoor.kind
open Go.RowKit
open words kindp

/-- types, cell by cell -/
def TL (l : List Ty) : List Value := l.flatMap fun t => [.int .i64 t.1, .string ⟨t.2.toArray⟩]
theorem TL_app (a b : List Ty) : TL (a ++ b) = TL a ++ TL b := by simp [TL]
set_option maxRecDepth 100000 in
theorem infoT : (Tryz.prog.info? 61).map (fun i => (i.zero, i.size, i.bytes)) = some (some (.agg #[.int .i64 0, .string ⟨#[]⟩]), 2, 24) := by kernel_rfl
end Go.Proofs.YtjcdgpfffmnneaaGreatDoor.kind

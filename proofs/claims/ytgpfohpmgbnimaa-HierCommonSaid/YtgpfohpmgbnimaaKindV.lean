/-
  Layer 6: a descriptor's parameters, and its answer: the program's.
-/
import Derived.Test.YtgpfohpmgbnimaaKindS
namespace Go.Proofs.Ytgpfohpmgbnimaa.kind
open Go.RowKit
open words kindp word rdr
/-- what a reading of a signature comes to -/
def outS (q : Option (List Ty × Ty)) : List Ty × Ty × Nat := match q with | some (p, t) => (p, t, 0) | none => ([], (0, []), 1)
def ReadS (x : List Ty × Ty × Nat) (w : World) (e : Ending) (w' : World) : Prop :=
  (∃ A c, e = .returned (.tuple #[.agg #[.slice A x.1.length c, .int .i64 x.2.1.1, .string ⟨x.2.1.2.toArray⟩], .int .i64 (x.2.2 : Int)]) ∧ w'.ownsRow w.heap.size 72 2 (.slice A x.1.length c) x.1.length (TL x.1)) ∧ Below w.heap.size w w'

/-- A DESCRIPTOR'S TYPES: parameters, answer, error. -/
def SplitW (d : Tx) (w : World) (e : Ending) (w' : World) : Prop :=
  (∃ A c, e = .returned (.tuple #[.slice A (splitT d).1.length c, .agg #[.int .i64 (splitT d).2.1.1, .string ⟨(splitT d).2.1.2.toArray⟩], .int .i64 ((splitT d).2.2 : Int)]) ∧ w'.ownsRow w.heap.size 72 2 (.slice A (splitT d).1.length c) (splitT d).1.length (TL (splitT d).1)) ∧ Below w.heap.size w w'
theorem splitW_of {d : Tx} {p : List Ty} {t : Ty} {n : Nat} {w w' : World} {e : Ending} (h : splitT d = (p, t, n)) (A : Option Addr) (c : Nat) (he : e = .returned (.tuple #[.slice A p.length c, .agg #[.int .i64 t.1, .string ⟨t.2.toArray⟩], .int .i64 (n : Int)])) (ho : w'.ownsRow w.heap.size 72 2 (.slice A p.length c) p.length (TL p)) (hb : Below w.heap.size w w') : SplitW d w e w' := by
  unfold SplitW; rw [h]; exact ⟨⟨A, c, he, ho⟩, hb⟩

theorem split_out {d : Tx} (h : ¬ 64 < d.length) : splitT d = if 8 < (outS (sigD d)).1.length then ([], (0, []), 3) else outS (sigD d) := by
  unfold splitT
  rw [if_neg h]
  cases sigD d with
  | none => rfl
  | some q => rfl

end Go.Proofs.Ytgpfohpmgbnimaa.kind

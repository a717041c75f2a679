/-
  What the program's inner read of a section does.
-/
import Derived.Test.YtdenpefihplnoaaGive2
namespace Go.Proofs.Ytdenpefihplnoaa.give
open Go.RowKit
open Go.Proofs.Ytdenpefihplnoaa.num Go.Proofs.Ytdenpefihplnoaa.words Go.Proofs.Ytdenpefihplnoaa.rdnum Go.Proofs.Ytdenpefihplnoaa.rdr Go.Proofs.Ytdenpefihplnoaa.sealing
/-- A SECTION: a reader of its own, or what fails. -/
def Sect (b : Nat) (s : Rs) (r : Rr (Nat × Nat)) (w : World) (e : Ending) (w' : World) : Prop :=
  (r.e = 0 ∧ (∃ g, e = .returned (.pointer (some ⟨g, 0, none⟩)) ∧ w.heap.size ≤ g ∧ RW w' g ⟨s.l.take (r.v.1 + r.v.2), r.v.1, 0, 0⟩) ∧ RW w' b { s with p := r.q } ∧ But b w w') ∨
  (r.e ≠ 0 ∧ e = .panicked [{ v := bang r.e r.f, recovered := false }] ∧ (∃ q, RW w' b { s with p := q }) ∧ But b w w')

theorem new_rw {w : World} {A : Option Addr} {n c p : Nat} {l : List Nat} (hl : l.length = n) (hc : n ≤ c) (hb : Bs w A l) (hp : p ≤ n) (hn : n ≤ 140737488355328) (hby : ∀ x ∈ l, x < 256) :
    RW (w.alloc (.cells #[.slice A n c, .int .i64 (p : Int), .int .i64 0, .int .i64 0] 61)) w.heap.size ⟨l, p, 0, 0⟩ := by
  subst hl
  exact ⟨⟨hp, hn, hby, fun _ => rfl⟩, A, c, heap_alloc_new w _, hc, hb.below ((Below.refl _ _).alloc (Nat.le_refl _) _)⟩

theorem openL_e (l : List Nat) : (openL l).2 ≤ 4 := by
  unfold openL
  split
  · simp
  · split <;> simp

theorem byteT_q {l : List Nat} {p : Nat} (h : (byteT l p).e = 0) : (byteT l p).q = p + 1 ∧ p < l.length := by
  unfold byteT at h ⊢
  split
  · exact ⟨rfl, by assumption⟩
  · rename_i hx; rw [if_neg hx] at h; cases h

end Go.Proofs.Ytdenpefihplnoaa.give

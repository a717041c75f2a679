/-
  What the reference's reader answers: a byte, a number, one with a sign, a text, its end; where it stands, how many are left, what failed.
-/
import Derived.Test.YtchhibicbgimcaaRefR
namespace Go.Proofs.Ytchhibicbgimcaa.refr
open Go.RowKit
open Go.Proofs.Ytchhibicbgimcaa.num Go.Proofs.Ytchhibicbgimcaa.words Go.Proofs.Ytchhibicbgimcaa.rdnum Go.Proofs.Ytchhibicbgimcaa.rdr Go.Proofs.Ytchhibicbgimcaa.give

theorem RR.apart {w : World} {b : Nat} {s : Rs} (h : RR w b s) {A : Option Addr} {l : List Nat} (hb : Bs w A l) {j u} (hj : (B l)[j]? = some u) : ∃ a, A = some a ∧ a.block ≠ b ∧ w.cell? (a.add j) = some u := by
  rcases hb with rfl | ⟨a, rfl, ⟨cs, f, hh⟩, hc⟩
  · simp [B] at hj
  · exact ⟨a, rfl, fun e => h.no cs f (e ▸ hh), hc j u hj⟩
/-- a dead reader answers its zero value -/
theorem did_dead {α : Type} {b : Nat} {s : Rs} {r : Rr α} {z : α} {val : α → Value} {w w' : World} (h : RR w b s) (hs : s.e ≠ 0) (hw : Below w.heap.size w w') : DidR b s r z val w (.returned (val z)) w' :=
  ⟨by rw [Rs.ans_dead hs], by rw [Rs.go_dead hs]; exact h.below hw, But.of hw⟩

end Go.Proofs.Ytchhibicbgimcaa.refr

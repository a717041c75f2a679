/-
  What the program's inner read of a section does.
-/
import Derived.Test.YtodnfahffkggiaaDoorGive2
namespace Go.Proofs.YtodnfahffkggiaaDoor.give
open Go.RowKit
open Go.Proofs.YtodnfahffkggiaaDoor.num Go.Proofs.YtodnfahffkggiaaDoor.words Go.Proofs.YtodnfahffkggiaaDoor.rdnum Go.Proofs.YtodnfahffkggiaaDoor.rdr Go.Proofs.YtodnfahffkggiaaDoor.sealing
theorem openL_e (l : List Nat) : (openL l).2 ≤ 4 := by
  unfold openL
  split
  · simp
  · split <;> simp

theorem byteT_q {l : List Nat} {p : Nat} (h : (byteT l p).e = 0) : (byteT l p).q = p + 1 ∧ p < l.length := by
  unfold byteT at h ⊢
  split
  · exact ⟨rfl, by assumption⟩
  · rename_i hx; rw [if_neg hx] at h; cases h

end Go.Proofs.YtodnfahffkggiaaDoor.give

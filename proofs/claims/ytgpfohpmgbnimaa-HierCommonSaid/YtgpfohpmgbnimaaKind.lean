/-
 Layer 6: what the program's small functions answer: of what sort a type is, how its text begins, whether it can be, and its text.
-/
import Derived.Test.YtgpfohpmgbnimaaWordN
import Derived.Test.YtgpfohpmgbnimaaKindQ
import Derived.Deep.QuietTactic
import Derived.BigQuiet
namespace Go.Proofs.Ytgpfohpmgbnimaa.kind
open Go.RowKit
open words kindp word

/-- a text, as a value -/
abbrev str (c : Tx) : Value := .string ⟨c.toArray⟩
/-- a type, as a value -/
def tyV (t : Ty) : Value := .agg #[.int .i64 t.1, .string ⟨t.2.toArray⟩]
theorem mk_len (c : Tx) : (⟨c.toArray⟩ : ByteArray).size = c.length := by show c.toArray.size = _; simp
theorem cls_eq (c : Tx) : namedB classB ⟨c.toArray⟩ = clsB c := by
 unfold namedB fits clsB
 rw [mk_len]
 rfl

theorem kinds (k : Int) : k = 1 ∨ k = 2 ∨ k = 3 ∨ k = 4 ∨ k = 5 ∨ ((k == 1) = false ∧ (k == 2) = false ∧ (k == 3) = false ∧ (k == 4) = false ∧ (k == 5) = false ∧ signL k = [] ∧ hasB k = false) := by
 by_cases h1 : k = 1
 ·exact .inl h1
 by_cases h2 : k = 2
 ·exact .inr (.inl h2)
 by_cases h3 : k = 3
 ·exact .inr (.inr (.inl h3))
 by_cases h4 : k = 4
 ·exact .inr (.inr (.inr (.inl h4)))
 by_cases h5 : k = 5
 ·exact .inr (.inr (.inr (.inr (.inl h5))))
 ·refine .inr (.inr (.inr (.inr (.inr ⟨by simpa using h1, by simpa using h2, by simpa using h3, by simpa using h4, by simpa using h5, ?_, ?_⟩))))
  ·unfold signL; rw [if_neg h1, if_neg h2, if_neg h3, if_neg h4, if_neg h5]
  ·unfold hasB; simp [h3, h5]

end Go.Proofs.Ytgpfohpmgbnimaa.kind

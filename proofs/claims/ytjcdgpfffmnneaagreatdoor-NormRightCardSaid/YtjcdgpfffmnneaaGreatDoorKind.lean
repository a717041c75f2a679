/-
 Layer 6: what the program's small functions answer: of what sort a type is, how its text begins, whether it can be, and its text.
-/
import Derived.Test.YtjcdgpfffmnneaaGreatDoorWordN
import Derived.Test.YtjcdgpfffmnneaaGreatDoorKindQ
import Derived.Deep.QuietTactic
import Derived.BigQuiet
namespace Go.Proofs.YtjcdgpfffmnneaaGreatDoor.kind
open Go.RowKit
open words kindp word

/-- a type, as a value -/
def tyV (t : Ty) : Value := .agg #[.int .i64 t.1, .string ⟨t.2.toArray⟩]
theorem mk_len (c : Tx) : (⟨c.toArray⟩ : ByteArray).size = c.length := by show c.toArray.size = _; simp
theorem cls_eq (c : Tx) : namedB classB ⟨c.toArray⟩ = clsB c := by
 unfold namedB fits clsB
 rw [mk_len]
 rfl

set_option maxRecDepth 100000 in
theorem has_w (k : Int) (c : Tx) (w : World) :
  Calls Tryz.prog 88 #[.agg #[.int .i64 k, .string ⟨c.toArray⟩]] w fun e w' => e = .returned (.bool (hasB k)) ∧ Below w.heap.size w w' := by
 by_cases h3 : k = 3
 ·subst h3
  rw [show hasB 3 = true from rfl]
  go_enter Tryz.func88, Tryz.ntmps88
  go_wp2
  go_ret
  exact ⟨rfl, (Below.refl _ _).alloc (Nat.le_refl _) _⟩
 ·by_cases h5 : k = 5
  ·subst h5
   rw [show hasB 5 = true from rfl]
   clear h3
   go_enter Tryz.func88, Tryz.ntmps88
   go_wp2
   go_ret
   exact ⟨rfl, (Below.refl _ _).alloc (Nat.le_refl _) _⟩
  ·rw [show hasB k = false by unfold hasB; simp [h3, h5]]
   have e3 : (k == 3) = false := by simpa using h3
   have e5 : (k == 5) = false := by simpa using h5
   clear h3 h5
   go_enter Tryz.func88, Tryz.ntmps88
   go_wp2
   go_ret
   exact ⟨rfl, (Below.refl _ _).alloc (Nat.le_refl _) _⟩

theorem kinds (k : Int) : k = 1 ∨ k = 2 ∨ k = 3 ∨ k = 4 ∨ k = 5 ∨ ((k == 1) = false ∧ (k == 2) = false ∧ (k == 3) = false ∧ (k == 4) = false ∧ (k == 5) = false ∧ signL k = [] ∧ hasB k = false) := by
 by_cases h1 : k = 1
 ·exact .inl h1
 by_cases h2 : k = 2
 ·exact .inr (.inl h2)
 by_cases h3 : k = 3
 ·exact .inr (.inr (.inl h3))
 by_cases h4 : k = 4
 ·exact .inr (.inr (.inr (.inl h4)))
 by_cases h5 : k = 5
 ·exact .inr (.inr (.inr (.inr (.inl h5))))
 ·refine .inr (.inr (.inr (.inr (.inr ⟨by simpa using h1, by simpa using h2, by simpa using h3, by simpa using h4, by simpa using h5, ?_, ?_⟩))))
  ·unfold signL; rw [if_neg h1, if_neg h2, if_neg h3, if_neg h4, if_neg h5]
  ·unfold hasB; simp [h3, h5]

set_option maxRecDepth 100000 in
theorem sign_w (k : Int) (w : World) :
  Calls Tryz.prog 89 #[.int .i64 k] w fun e w' => e = .returned (.string ⟨(signL k).toArray⟩) ∧ w' = w := by
 rcases kinds k with rfl | rfl | rfl | rfl | rfl | ⟨e1, e2, e3, e4, e5, e6, -⟩
 ·rw [show signL 1 = [86] from rfl]
  go_enter Tryz.func89, Tryz.ntmps89
  go_wp2
  go_ret
  exact ⟨rfl, rfl⟩
 ·rw [show signL 2 = [73] from rfl]
  go_enter Tryz.func89, Tryz.ntmps89
  go_wp2
  go_ret
  exact ⟨rfl, rfl⟩
 ·rw [show signL 3 = [76] from rfl]
  go_enter Tryz.func89, Tryz.ntmps89
  go_wp2
  go_ret
  exact ⟨rfl, rfl⟩
 ·rw [show signL 4 = [91, 73] from rfl]
  go_enter Tryz.func89, Tryz.ntmps89
  go_wp2
  go_ret
  exact ⟨rfl, rfl⟩
 ·rw [show signL 5 = [91, 76] from rfl]
  go_enter Tryz.func89, Tryz.ntmps89
  go_wp2
  go_ret
  exact ⟨rfl, rfl⟩
 ·rw [e6]
  clear e6
  go_enter Tryz.func89, Tryz.ntmps89
  go_wp2
  go_ret
  exact ⟨rfl, rfl⟩
end Go.Proofs.YtjcdgpfffmnneaaGreatDoor.kind

/-
 Layer 8: small answers of the program: names, members, lists that are not too long, lists in order.
-/
import Derived.Test.YtgpfohpmgbnimaaNormP
import Derived.Test.YtgpfohpmgbnimaaRef
import Derived.Sort.Walk0
import Derived.WalkKit
import Derived.WalkLawsBesides
import Derived.Deep.QuietTactic
import Derived.BigQuiet
import Derived.Deep.RegionHeld3
import Derived.IntWalk
/- Layer 8: the small answers of the program: names of members, lists that are not too long, a class's Super, a field. -/
namespace Go.Proofs.Ytgpfohpmgbnimaa.prg
open Go.RowKit
open words kindp opp op kind word
theorem e_empty {s : Tx} {b : Bool} (h : (s == []) = b) : List.isEmpty s = b := by cases s <;> simpa using h
theorem ne_of {s t : Tx} {b : Bool} (h : (s == t) = b) : (s != t) = !b := by rw [bne, h]
end Go.Proofs.Ytgpfohpmgbnimaa.prg

/- Layer 8: whether each member of a list can be, at each type and predicate: the program's answers. -/
namespace Go.Proofs.Ytgpfohpmgbnimaa.prg
open Go.RowKit
open words kindp opp op kind word
end Go.Proofs.Ytgpfohpmgbnimaa.prg

/- Layer 8: lists of names, an interface that is bare, and of which order two are: the program's answers. -/
namespace Go.Proofs.Ytgpfohpmgbnimaa.prg
open Go.RowKit
open words kindp opp op kind word
theorem sx_get {l : List Tx} {i : Nat} {x : Tx} (h : l[i]? = some x) : (SX l)[i]? = some (.string ⟨x.toArray⟩) := by simp [SX, h]
end Go.Proofs.Ytgpfohpmgbnimaa.prg

/- Layer 8: which of two strings is greater, and whether a list rises: the program's answers. -/
namespace Go.Proofs.Ytgpfohpmgbnimaa.prg
open Go.RowKit
open words kindp opp op kind word

theorem less_mk (x y : Tx) : Op.bytesLess x y = decide (x < y) := bytesLess_eq x y
theorem eq_mk (x y : Tx) : (x == y) = decide (x = y) := by
 rw [Bool.eq_iff_iff]; simp
theorem tri (x y : Tx) : x < y ∨ (¬ x < y ∧ x = y) ∨ (¬ x < y ∧ ¬ x = y ∧ y < x) := by
 rcases Decidable.em (x < y) with h | h
 ·exact .inl h
 ·rcases Decidable.em (x = y) with h1 | h1
  ·exact .inr (.inl ⟨h, h1⟩)
  ·refine .inr (.inr ⟨h, h1, ?_⟩)
   rcases Decidable.em (y < x) with h2 | h2
   ·exact h2
   ·exact absurd (List.le_antisymm (List.not_lt.1 h2) (List.not_lt.1 h)) h1
/-- which of two strings is greater -/
def cmpI (x y : Tx) : Int := if x < y then -1 else if x = y then 0 else 1
set_option maxRecDepth 100000 in
theorem nan_w (x : Tx) (w : World) : Calls Try.prog 110 #[.string ⟨x.toArray⟩] w fun e w' => e = .returned (.bool false) ∧ w' = w := by
 have h1 : (x != x) = false := by simp
 go_enter Try.func110, Try.ntmps110
 go_wp2
 go_ret
 exact ⟨rfl, rfl⟩
theorem cmp_sign (x y : Tx) : (0 ≤ cmpI x y) ↔ ltT x y = false := by
 unfold cmpI ltT
 by_cases h : x < y
 ·rw [if_pos h, decide_eq_true h]; simp
 ·rw [if_neg h, decide_eq_false h]
  split <;> simp
theorem overD {b : Nat} {a c : World} (h : Below b a c) : Below b a c.drew := ⟨h.os, h.tape, h.output, h.size, h.block⟩

end Go.Proofs.Ytgpfohpmgbnimaa.prg

/- Layer 8: whether a class has an abstract method: the program's answer. -/
namespace Go.Proofs.Ytgpfohpmgbnimaa.prg
open Go.RowKit
open words kindp opp op kind word
end Go.Proofs.Ytgpfohpmgbnimaa.prg

/- Layer 8: which of two classes, and of two fields, stands ahead: the program's answers. -/
namespace Go.Proofs.Ytgpfohpmgbnimaa.prg
open Go.RowKit
open words kindp opp op kind word
end Go.Proofs.Ytgpfohpmgbnimaa.prg

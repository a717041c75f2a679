/-
 Layer 7: whether a call is as its descriptor asks, whether numbers are within, where an instruction jumps, what it sets: the program answers.
-/
import Derived.Test.YtgpfohpmgbnimaaOpS
import Derived.Test.YtgpfohpmgbnimaaKindV
import Derived.IntWalk
/- Layer 7: whether a call is as its descriptor asks; whether numbers are within: the program's answers. -/
namespace Go.Proofs.Ytgpfohpmgbnimaa.op
open Go.RowKit
open words kindp opp kind

def recv (o : Int) : Nat := if o = 20 ∨ o = 21 then 1 else 0
/-- what is wrong with a call -/
def descE (i : In) : Int :=
 if (splitT i.ds).2.2 ≠ 0 then 1 else if i.ar.length ≠ (splitT i.ds).1.length + recv i.o then 9 else if (splitT i.ds).2.1.1 = 1 ∧ i.a ≠ 0 then 12 else 0
theorem split_err (d : Tx) : (splitT d).2.2 ≤ 3 ∧ (splitT d).1.length ≤ 8 := by
 unfold splitT
 split
 ·exact ⟨Nat.le_refl _, Nat.zero_le _⟩
 ·cases sigD d with
  | none => exact ⟨by show 1 ≤ 3; omega, Nat.zero_le _⟩
  | some q =>
   dsimp only
   split
   ·exact ⟨Nat.le_refl _, Nat.zero_le _⟩
   ·exact ⟨Nat.zero_le _, by dsimp only; omega⟩
end Go.Proofs.Ytgpfohpmgbnimaa.op

/- Layer 7: whether a place, and what is reckoned, are within: the program's answer; what an instruction sets, and where it jumps. -/
namespace Go.Proofs.Ytgpfohpmgbnimaa.op
open Go.RowKit
open words kindp opp kind

def countedB (i : In) (code : Int) : Bool := (!hasL (shapeL i.o) 116 || (decide (0 ≤ i.k) && decide (i.k < code))) && (!hasL (shapeL i.o) 114 || (decide (0 ≤ i.k) && decide (i.k ≤ 9)))
theorem counted_cut {bt br p q r : Bool} {P : Bool → Prop} (h1 : bt = false → br = false → P true) (h2 : bt = false → br = true → p = false → P false) (h3 : bt = false → br = true → p = true → r = false → P false) (h4 : bt = false → br = true → p = true → r = true → P true)
  (h5 : bt = true → p = false → P false) (h6 : bt = true → p = true → q = false → P false) (h7 : bt = true → p = true → q = true → br = false → P true) (h8 : bt = true → p = true → q = true → br = true → r = false → P false) (h9 : bt = true → p = true → q = true → br = true → r = true → P true) :
  P ((!bt || (p && q)) && (!br || (p && r))) := by
 cases bt
 ·cases br
  ·exact h1 rfl rfl
  cases p
  ·exact h2 rfl rfl rfl
  cases r
  ·exact h3 rfl rfl rfl rfl
  ·exact h4 rfl rfl rfl rfl
 cases p
 ·exact h5 rfl rfl
 cases q
 ·exact h6 rfl rfl rfl
 cases br
 ·exact h7 rfl rfl rfl rfl
 cases r
 ·exact h8 rfl rfl rfl rfl rfl
 ·exact h9 rfl rfl rfl rfl rfl
end Go.Proofs.Ytgpfohpmgbnimaa.op

/- Layer 7: whether a descriptor answers something; what an instruction sets: the program's answers. -/
namespace Go.Proofs.Ytgpfohpmgbnimaa.op
open Go.RowKit
open words kindp opp kind

def ansB (d : Tx) : Bool := decide ((splitT d).2.2 = 0) && decide ((splitT d).2.1.1 ≠ 1)
theorem sets_cut {i : In} {P : Int × Bool → Prop} (h1 : hasL (shapeL i.o) 97 = false → P (0, false)) (h2 : hasL (shapeL i.o) 97 = true → (i.o == 14) = true → P (0, false))
  (h3 : hasL (shapeL i.o) 97 = true → (i.o == 14) = false → isCall i.o = false → P (i.a, true)) (h4 : hasL (shapeL i.o) 97 = true → (i.o == 14) = false → isCall i.o = true → ansB i.ds = false → P (0, false))
  (h5 : hasL (shapeL i.o) 97 = true → (i.o == 14) = false → isCall i.o = true → ansB i.ds = true → P (i.a, true)) : P (setsL i) := by
 unfold setsL
 cases ha : hasL (shapeL i.o) 97 with
 | false => rw [if_pos (.inl rfl)]; exact h1 ha
 | true =>
  cases ho : (i.o == 14) with
  | true => rw [if_pos (.inr (by simpa using ho))]; exact h2 ha ho
  | false =>
   have ho2 : i.o ≠ 14 := by simpa using ho
   rw [if_neg (by simpa using ho2)]
   cases hc : isCall i.o with
   | false => rw [if_neg (by simp)]; exact h3 ha ho hc
   | true =>
    cases hb : ansB i.ds with
    | false =>
     have hne : ¬ ((splitT i.ds).2.2 = 0 ∧ (splitT i.ds).2.1.1 ≠ 1) := fun h => by unfold ansB at hb; rw [decide_eq_true h.1, decide_eq_true h.2] at hb; cases hb
     rw [if_pos ⟨rfl, hne⟩]
     exact h4 ha ho hc hb
    | true =>
     have hne : (splitT i.ds).2.2 = 0 ∧ (splitT i.ds).2.1.1 ≠ 1 := by unfold ansB at hb; rw [Bool.and_eq_true, decide_eq_true_eq, decide_eq_true_eq] at hb; exact hb
     rw [if_neg (fun h => h.2 hne)]
     exact h5 ha ho hc hb
end Go.Proofs.Ytgpfohpmgbnimaa.op

/-
 Layer 7: whether two instructions are the same; the registers that a letter tells: the program's answers.
-/
import Derived.Test.YtgpfohpmgbnimaaOpB
namespace Go.Proofs.Ytgpfohpmgbnimaa.op
open Go.RowKit
open words kindp opp

theorem in_ne {i j : In} {b : Bool} (h : i = j → b = true) (hb : b = false) : decide (i = j) = false := decide_eq_false fun e => by rw [h e] at hb; cases hb
/-- the registers that a letter tells, as a slice -/
def LetP (i : In) (A0 : Option Addr) (x : UInt8) (w : World) (e : Ending) (w' : World) : Prop :=
 (∃ A c, e = .returned (.slice A (lettered i x).length c) ∧ (lettered i x).length ≤ c ∧ Rd w' A (IL (lettered i x)) ∧ (x = 118 → A = A0)) ∧ Below w.heap.size w w'
end Go.Proofs.Ytgpfohpmgbnimaa.op

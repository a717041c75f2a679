/-
  Layer 4: which bytes are letters, and digits; of the program, and of the reference.
-/
import Derived.Test.YtgpfohpmgbnimaaProg
import Derived.Test.YtgpfohpmgbnimaaWords
import Derived.Lib.Hide
import Derived.Deep.RegionHeld3
namespace Go.Proofs.Ytgpfohpmgbnimaa.word
open Go.RowKit
open words

/-- a letter of a name -/
def letterB (c : Nat) : Bool := decide ((65 ≤ c ∧ c ≤ 90) ∨ (97 ≤ c ∧ c ≤ 122) ∨ (48 ≤ c ∧ c ≤ 57) ∨ c = 95 ∨ c = 36)
def digitB (c : Nat) : Bool := decide (48 ≤ c ∧ c ≤ 57)
theorem parts (c : Nat) : c < 36 ∨ c = 36 ∨ (36 < c ∧ c < 48) ∨ (48 ≤ c ∧ c ≤ 57) ∨ (57 < c ∧ c < 65) ∨ (65 ≤ c ∧ c ≤ 90) ∨ (90 < c ∧ c < 95) ∨ c = 95 ∨ c = 96 ∨ (97 ≤ c ∧ c ≤ 122) ∨ 122 < c := by omega

/-- what may stand in a class's name -/
def classB (c : Nat) : Bool := c == 47 || letterB c
end Go.Proofs.Ytgpfohpmgbnimaa.word

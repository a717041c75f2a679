/-
  Layer 4: which bytes are letters, and digits; of the program, and of the reference.
-/
import Derived.Test.YtcaaljioennnnabDoorProg
import Derived.Test.YtcaaljioennnnabDoorWords
import Derived.Lib.Hide
import Derived.Deep.RegionHeld3
namespace Go.Proofs.YtcaaljioennnnabDoor.word
open Go.RowKit
open words

/-- a letter of a name -/
def letterB (c : Nat) : Bool := decide ((65 ≤ c ∧ c ≤ 90) ∨ (97 ≤ c ∧ c ≤ 122) ∨ (48 ≤ c ∧ c ≤ 57) ∨ c = 95 ∨ c = 36)
def digitB (c : Nat) : Bool := decide (48 ≤ c ∧ c ≤ 57)
theorem parts (c : Nat) : c < 36 ∨ c = 36 ∨ (36 < c ∧ c < 48) ∨ (48 ≤ c ∧ c ≤ 57) ∨ (57 < c ∧ c < 65) ∨ (65 ≤ c ∧ c ≤ 90) ∨ (90 < c ∧ c < 95) ∨ c = 95 ∨ c = 96 ∨ (97 ≤ c ∧ c ≤ 122) ∨ 122 < c := by omega

/-- what may stand in a class's name -/
def classB (c : Nat) : Bool := c == 47 || letterB c
set_option maxRecDepth 100000 in
set_option maxHeartbeats 2000000 in
theorem letter_r (c : Nat) (w : World) :
    Calls Tryd.prog 43 #[.int .u8 (c : Int)] w fun e w' => e = .returned (.bool (letterB c)) ∧ w' = w := by
  have hv : letterB c = true ∨ letterB c = false := by cases letterB c <;> simp
  rcases hv with h | h <;> rw [h] <;> simp only [letterB, decide_eq_true_eq, decide_eq_false_iff_not] at h <;>
  rcases parts c with hp | hp | hp | hp | hp | hp | hp | hp | hp | hp | hp <;> first
    | (exfalso; omega)
    | (first | (have a1 : (65 : Int) ≤ (c : Int) := by omega) | (have a1 : ¬ (65 : Int) ≤ (c : Int) := by omega)
       first | (have a2 : (c : Int) ≤ 90 := by omega) | (have a2 : ¬ (c : Int) ≤ 90 := by omega)
       first | (have a3 : (97 : Int) ≤ (c : Int) := by omega) | (have a3 : ¬ (97 : Int) ≤ (c : Int) := by omega)
       first | (have a4 : (c : Int) ≤ 122 := by omega) | (have a4 : ¬ (c : Int) ≤ 122 := by omega)
       first | (have a8 : (48 : Int) ≤ (c : Int) := by omega) | (have a8 : ¬ (48 : Int) ≤ (c : Int) := by omega)
       first | (have a9 : (c : Int) ≤ 57 := by omega) | (have a9 : ¬ (c : Int) ≤ 57 := by omega)
       first | (have a6 : (c : Int) = 95 := (by omega); have b6 : ((c : Int) == 95) = true := (by simpa using a6)) | (have a6 : ¬ (c : Int) = 95 := (by omega); have b6 : ((c : Int) == 95) = false := (by simpa using a6))
       first | (have a7 : (c : Int) = 36 := (by omega); have b7 : ((c : Int) == 36) = true := (by simpa using a7)) | (have a7 : ¬ (c : Int) = 36 := (by omega); have b7 : ((c : Int) == 36) = false := (by simpa using a7))
       clear h hp
       go_enter Tryd.func43, Tryd.ntmps43
       go_wp2
       go_ret
       first | exact ⟨rfl, rfl⟩ | (refine ⟨?_, rfl⟩; simp [a6, a7, b6, b7]))
end Go.Proofs.YtcaaljioennnnabDoor.word

/-
  Layer 4: which bytes are letters, and digits; of the program, and of the reference.
-/
import Derived.Test.YtjcdgpfffmnneaaGreatDoorProg
import Derived.Test.YtjcdgpfffmnneaaGreatDoorWords
import Derived.Lib.Hide
import Derived.Deep.RegionHeld3
namespace Go.Proofs.YtjcdgpfffmnneaaGreatDoor.word
open Go.RowKit
open words

/-- a letter of a name -/
def letterB (c : Nat) : Bool := decide ((65 ≤ c ∧ c ≤ 90) ∨ (97 ≤ c ∧ c ≤ 122) ∨ (48 ≤ c ∧ c ≤ 57) ∨ c = 95 ∨ c = 36)
def digitB (c : Nat) : Bool := decide (48 ≤ c ∧ c ≤ 57)
theorem parts (c : Nat) : c < 36 ∨ c = 36 ∨ (36 < c ∧ c < 48) ∨ (48 ≤ c ∧ c ≤ 57) ∨ (57 < c ∧ c < 65) ∨ (65 ≤ c ∧ c ≤ 90) ∨ (90 < c ∧ c < 95) ∨ c = 95 ∨ c = 96 ∨ (97 ≤ c ∧ c ≤ 122) ∨ 122 < c := by omega

set_option maxRecDepth 100000 in
theorem digit_w (c : Nat) (w : World) :
    Calls Tryz.prog 120 #[.int .u8 (c : Int)] w fun e w' => e = .returned (.bool (digitB c)) ∧ w' = w := by
  have hp := parts c
  by_cases h : digitB c = true
  · rw [h]
    simp only [digitB, decide_eq_true_eq] at h
    have a1 : (48 : Int) ≤ (c : Int) := by omega
    have a2 : (c : Int) ≤ 57 := by omega
    clear hp h
    go_enter Tryz.func120, Tryz.ntmps120
    go_wp2
    go_ret
    exact ⟨rfl, rfl⟩
  · rw [Bool.not_eq_true] at h
    rw [h]
    simp only [digitB, decide_eq_false_iff_not] at h
    by_cases a1 : (48 : Int) ≤ (c : Int)
    · have a2 : ¬ (c : Int) ≤ 57 := by omega
      clear hp h
      go_enter Tryz.func120, Tryz.ntmps120
      go_wp2
      go_ret
      exact ⟨rfl, rfl⟩
    · clear hp h
      go_enter Tryz.func120, Tryz.ntmps120
      go_wp2
      go_ret
      exact ⟨rfl, rfl⟩

set_option maxRecDepth 100000 in
theorem letter_walk (c : Nat) (b : Bool) (w : World)
    (h : ((65 : Int) ≤ (c : Int) ∧ (c : Int) ≤ 90 ∧ b = true) ∨ ((65 : Int) ≤ (c : Int) ∧ ¬ (c : Int) ≤ 90 ∧ (97 : Int) ≤ (c : Int) ∧ (c : Int) ≤ 122 ∧ b = true)) :
    Calls Tryz.prog 92 #[.int .u8 (c : Int)] w fun e w' => e = .returned (.bool b) ∧ w' = w := by
  rcases h with ⟨a1, a2, rfl⟩ | ⟨a1, a2, a3, a4, rfl⟩
  all_goals
    go_enter Tryz.func92, Tryz.ntmps92
    go_wp2
    go_ret
    exact ⟨rfl, rfl⟩

set_option maxRecDepth 100000 in
theorem letter_walk2 (c : Nat) (b d : Bool) (w : World) (hd : digitB c = d)
    (h : (¬ (65 : Int) ≤ (c : Int) ∧ ¬ (97 : Int) ≤ (c : Int)) ∨ ((65 : Int) ≤ (c : Int) ∧ ¬ (c : Int) ≤ 90 ∧ ¬ (97 : Int) ≤ (c : Int)) ∨ ((65 : Int) ≤ (c : Int) ∧ ¬ (c : Int) ≤ 90 ∧ (97 : Int) ≤ (c : Int) ∧ ¬ (c : Int) ≤ 122))
    (h2 : (d = true ∧ b = true) ∨ (d = false ∧ (c : Int) = 95 ∧ b = true) ∨ (d = false ∧ ¬ (c : Int) = 95 ∧ (c : Int) = 36 ∧ b = true) ∨ (d = false ∧ ¬ (c : Int) = 95 ∧ ¬ (c : Int) = 36 ∧ b = false)) :
    Calls Tryz.prog 92 #[.int .u8 (c : Int)] w fun e w' => e = .returned (.bool b) ∧ w' = w := by
  have HD := Lib.hid (fun w => digit_w c w)
  rw [hd] at HD
  clear hd
  go_enter Tryz.func92, Tryz.ntmps92
  rcases h with ⟨a1, a3⟩ | ⟨a1, a2, a3⟩ | ⟨a1, a2, a3, a4⟩
  all_goals
    go_wp2_with fail
    refine (HD.out _).mono ?_
    rintro e w' ⟨rfl, rfl⟩
    rcases h2 with ⟨rfl, rfl⟩ | ⟨rfl, b1, rfl⟩ | ⟨rfl, b1, b2, rfl⟩ | ⟨rfl, b1, b2, rfl⟩
    all_goals
      clear HD
      go_wp2
      go_ret
      exact ⟨rfl, rfl⟩
theorem letter_w (c : Nat) (w : World) :
    Calls Tryz.prog 92 #[.int .u8 (c : Int)] w fun e w' => e = .returned (.bool (letterB c)) ∧ w' = w := by
  by_cases hx : (65 ≤ c ∧ c ≤ 90) ∨ (97 ≤ c ∧ c ≤ 122)
  · have hb : letterB c = true := by simp only [letterB, decide_eq_true_eq]; omega
    rw [hb]
    refine letter_walk c true w ?_
    rcases hx with h | h
    · exact .inl ⟨by omega, by omega, rfl⟩
    · exact .inr ⟨by omega, by omega, by omega, by omega, rfl⟩
  · refine letter_walk2 c (letterB c) (digitB c) w rfl (by omega) ?_
    by_cases h1 : 48 ≤ c ∧ c ≤ 57
    · exact .inl ⟨by simp [digitB, h1], by simp only [letterB, decide_eq_true_eq]; omega⟩
    · have hd : digitB c = false := by simp only [digitB, decide_eq_false_iff_not]; omega
      by_cases h2 : c = 95
      · exact .inr (.inl ⟨hd, by omega, by simp only [letterB, decide_eq_true_eq]; omega⟩)
      · by_cases h3 : c = 36
        · exact .inr (.inr (.inl ⟨hd, by omega, by omega, by simp only [letterB, decide_eq_true_eq]; omega⟩))
        · exact .inr (.inr (.inr ⟨hd, by omega, by omega, by simp only [letterB, decide_eq_false_iff_not]; omega⟩))

/-- what may stand in a class's name -/
def classB (c : Nat) : Bool := c == 47 || letterB c
set_option maxRecDepth 100000 in
theorem class_w (c : Nat) (w : World) :
    Calls Tryz.prog 91 #[.int .u8 (c : Int)] w fun e w' => e = .returned (.bool (classB c)) ∧ w' = w := by
  have HL := Lib.hid (fun w => letter_w c w)
  unfold classB
  generalize letterB c = d at *
  by_cases h : c = 47
  · have h1 : ((c : Int) == 47) = true := by simp; omega
    have h2 : (c == 47) = true := by simp [h]
    have h3 : (c : Int) = 47 := by omega
    rw [h2, Bool.true_or]
    clear h h2 HL
    go_enter Tryz.func91, Tryz.ntmps91
    go_wp2
    go_ret
    exact ⟨rfl, rfl⟩
  · have h1 : ((c : Int) == 47) = false := by simp; omega
    have h2 : (c == 47) = false := by simp [h]
    have h3 : ¬ (c : Int) = 47 := by omega
    rw [h2, Bool.false_or]
    clear h h2
    go_enter Tryz.func91, Tryz.ntmps91
    go_wp2_with (go_at_call 92; refine (HL.out _).mono ?_; rintro e w' ⟨rfl, rfl⟩)
    go_ret
    exact ⟨rfl, rfl⟩

set_option maxRecDepth 100000 in
set_option maxHeartbeats 2000000 in
theorem letter_r (c : Nat) (w : World) :
    Calls Tryz.prog 127 #[.int .u8 (c : Int)] w fun e w' => e = .returned (.bool (letterB c)) ∧ w' = w := by
  have hv : letterB c = true ∨ letterB c = false := by cases letterB c <;> simp
  rcases hv with h | h <;> rw [h] <;> simp only [letterB, decide_eq_true_eq, decide_eq_false_iff_not] at h <;>
  rcases parts c with hp | hp | hp | hp | hp | hp | hp | hp | hp | hp | hp <;> first
    | (exfalso; omega)
    | (first | (have a1 : (65 : Int) ≤ (c : Int) := by omega) | (have a1 : ¬ (65 : Int) ≤ (c : Int) := by omega)
       first | (have a2 : (c : Int) ≤ 90 := by omega) | (have a2 : ¬ (c : Int) ≤ 90 := by omega)
       first | (have a3 : (97 : Int) ≤ (c : Int) := by omega) | (have a3 : ¬ (97 : Int) ≤ (c : Int) := by omega)
       first | (have a4 : (c : Int) ≤ 122 := by omega) | (have a4 : ¬ (c : Int) ≤ 122 := by omega)
       first | (have a8 : (48 : Int) ≤ (c : Int) := by omega) | (have a8 : ¬ (48 : Int) ≤ (c : Int) := by omega)
       first | (have a9 : (c : Int) ≤ 57 := by omega) | (have a9 : ¬ (c : Int) ≤ 57 := by omega)
       first | (have a6 : (c : Int) = 95 := (by omega); have b6 : ((c : Int) == 95) = true := (by simpa using a6)) | (have a6 : ¬ (c : Int) = 95 := (by omega); have b6 : ((c : Int) == 95) = false := (by simpa using a6))
       first | (have a7 : (c : Int) = 36 := (by omega); have b7 : ((c : Int) == 36) = true := (by simpa using a7)) | (have a7 : ¬ (c : Int) = 36 := (by omega); have b7 : ((c : Int) == 36) = false := (by simpa using a7))
       clear h hp
       go_enter Tryz.func127, Tryz.ntmps127
       go_wp2
       go_ret
       first | exact ⟨rfl, rfl⟩ | (refine ⟨?_, rfl⟩; simp [a6, a7, b6, b7]))
end Go.Proofs.YtjcdgpfffmnneaaGreatDoor.word

/-
 Layer 4: which texts are names, of members and of classes; the program's answers.
-/
import Derived.Test.YtjcdgpfffmnneaaGreatDoorWordA
namespace Go.Proofs.YtjcdgpfffmnneaaGreatDoor.word
open Go.RowKit
open num words give write

def fits (s : ByteArray) : Bool := decide (1 ≤ s.size ∧ s.size ≤ 32)
/-- a name of the bytes that may be -/
def namedB (p : Nat → Bool) (s : ByteArray) : Bool := fits s && (N s).all p
def initName : ByteArray := ⟨#[60, 99, 108, 105, 110, 105, 116, 62]⟩
def nameB (s : ByteArray) : Bool := decide (s = initName) || namedB letterB s

theorem ext_list {a b : ByteArray} (h : a.toList = b.toList) : a = b := by
 rw [Lib.toList_data, Lib.toList_data] at h
 exact ByteArray.ext (Array.toList_inj.1 h)
theorem not_empty {s : ByteArray} (h : ¬ s.size = 0) : s.toList.isEmpty = false := by
 rw [Lib.toList_data]
 cases hd : s.data.toList with
 | nil => exact absurd (by rw [← N_len]; unfold N; rw [hd]; rfl) h
 | cons a b => rfl

set_option maxRecDepth 100000 in
set_option maxHeartbeats 400000 in
theorem named_w (s : ByteArray) (p : Nat → Bool) (f : Nat) (w : World) (hs : s.size ≤ 281474976710656)
  (hf : ∀ (c : Nat) (w : World), c < 256 → Calls Tryz.prog f #[.int .u8 (c : Int)] w fun e w' => e = .returned (.bool (p c)) ∧ w' = w)
  (ef : ∀ args w, (callFunc f args).run Tryz.prog w = .ok (.enter f args) w) :
  Calls Tryz.prog 90 #[.string s, .func (.func f) #[] #[]] w fun e w' => e = .returned (.bool (namedB p s)) ∧ w' = w := by
 have HA := Lib.hid (fun w => all_w s p f w hs hf ef)
 have hsI : (s.size : Int) ≤ 281474976710656 := by omega
 have HS := Lib.hid (show namedB p s = (fits s && (N s).all p) from rfl)
 generalize (N s).all p = b at HA HS
 clear hf ef hs
 by_cases h0 : s.size = 0
 ·obtain rfl : s = ⟨#[]⟩ := ByteArray.ext (Array.size_eq_zero_iff.1 h0)
  rw [HS.out, show fits (⟨#[]⟩ : ByteArray) = false from rfl, Bool.false_and]
  clear HS HA h0
  go_enter Tryz.func90, Tryz.ntmps90
  go_wp2
  go_ret
  exact ⟨rfl, rfl⟩
 ·have hne := not_empty h0
  have hne3 : ¬ s.toList = [] := by intro e; rw [e] at hne; cases hne
  by_cases h1 : s.size ≤ 32
  ·have h1I : (s.size : Int) ≤ 32 := by omega
   rw [HS.out, show fits s = true by simp [fits]; omega, Bool.true_and]
   clear HS h0 h1
   go_enter Tryz.func90, Tryz.ntmps90
   go_wp2_with (go_at_call 119; refine (HA.out _).mono ?_; rintro e w' ⟨rfl, rfl⟩)
   go_ret
   exact ⟨rfl, rfl⟩
  ·have h1I : ¬ (s.size : Int) ≤ 32 := by omega
   rw [HS.out, show fits s = false by simp [fits]; omega, Bool.false_and]
   clear HS h0 h1 HA
   go_enter Tryz.func90, Tryz.ntmps90
   go_wp2
   go_ret
   exact ⟨rfl, rfl⟩

set_option maxRecDepth 100000 in
theorem class_name (s : ByteArray) (w : World) (hs : s.size ≤ 281474976710656) :
  Calls Tryz.prog 53 #[.string s] w fun e w' => e = .returned (.bool (namedB classB s)) ∧ w' = w := by
 have HA := Lib.hid (fun w => named_w s classB 91 w hs (fun c w _ => class_w c w) (fun _ _ => rfl))
 clear hs
 go_enter Tryz.func53, Tryz.ntmps53
 go_wp2_with (go_at_call 90; refine (HA.out _).mono ?_; rintro e w' ⟨rfl, rfl⟩)
 go_ret
 exact ⟨rfl, rfl⟩

set_option maxRecDepth 100000 in
theorem name_w (s : ByteArray) (w : World) (hs : s.size ≤ 281474976710656) :
  Calls Tryz.prog 94 #[.string s] w fun e w' => e = .returned (.bool (nameB s)) ∧ w' = w := by
 have HA := Lib.hid (fun w => named_w s letterB 92 w hs (fun c w _ => letter_w c w) (fun _ _ => rfl))
 have HS := Lib.hid (show nameB s = (decide (s = initName) || namedB letterB s) from rfl)
 generalize namedB letterB s = b at HA HS
 clear hs
 by_cases h : s = initName
 ·rw [HS.out, decide_eq_true h, Bool.true_or]
  subst h
  clear HS HA
  unfold initName
  go_enter Tryz.func94, Tryz.ntmps94
  go_wp2
  go_ret
  exact ⟨rfl, rfl⟩
 ·rw [HS.out, decide_eq_false h, Bool.false_or]
  have hne3 : ¬ s.toList = [60, 99, 108, 105, 110, 105, 116, 62] := fun e => h (ext_list (e.trans (by rw [Lib.toList_data]; rfl)))
  have hne : (s.toList == [60, 99, 108, 105, 110, 105, 116, 62]) = false := by rw [beq_eq_false_iff_ne]; exact hne3
  clear HS h
  go_enter Tryz.func94, Tryz.ntmps94
  go_wp2_with (go_at_call 90; refine (HA.out _).mono ?_; rintro e w' ⟨rfl, rfl⟩)
  go_ret
  exact ⟨rfl, rfl⟩
end Go.Proofs.YtjcdgpfffmnneaaGreatDoor.word

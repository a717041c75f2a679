/-
 Layer 21: whether a pattern is plain: the program's answer.
-/
import Derived.Test.YtcaaljioennnnaaGlobG
namespace Go.Proofs.Ytcaaljioennnnaa.glob
open Go.RowKit
open Go.Proofs.Ytcaaljioennnnaa.words
set_option linter.all false
theorem any_plain (l : List UInt8) : decide (Lib.indexAny l [42, 63] < 0) = plainL l := by
 induction l with
 | nil => rfl
 | cons c l ih =>
  have hge := Lib.indexAny_ge [42, 63] l
  unfold Lib.indexAny plainL
  rw [List.all_cons]
  by_cases h : ([42, 63] : List UInt8).contains c = true
  ·rw [if_pos h]
   simp only [List.contains_cons, List.contains_nil, Bool.or_false] at h
   have : (!(c == 42 || c == 63)) = false := by rw [h]; rfl
   rw [this]; rfl
  ·rw [if_neg h]
   rw [Bool.not_eq_true] at h
   simp only [List.contains_cons, List.contains_nil, Bool.or_false] at h
   have : (!(c == 42 || c == 63)) = true := by rw [h]; rfl
   rw [this, Bool.true_and]
   unfold plainL at ih
   rw [← ih]
   by_cases h1 : Lib.indexAny l [42, 63] = -1
   ·rw [h1]; rfl
   ·have h2 : (Lib.indexAny l [42, 63] == -1) = false := by rw [beq_eq_false_iff_ne]; exact h1
    rw [h2]
    simp only [Bool.false_eq_true, if_false]
    rw [decide_eq_false (by omega), decide_eq_false (by omega)]
theorem any_w (s : ByteArray) (w : World) (hs : s.size ≤ 1000) : Calls Try.prog 30 #[.string s, .string ⟨#[42, 63]⟩] w fun e w' => (∃ n : Int, e = .returned (.int .i64 n) ∧ decide (n < 0) = plainL (lb s)) ∧ Below w.heap.size w w' := by
 rcases Nat.lt_or_ge 8 s.size with h8 | h8
 ·refine (Try.strings_IndexAny_long (fun w => by kernel_rfl) s ⟨#[42, 63]⟩ w (by decide) h8 (by omega) (by decide) ?_).mono ?_
  ·intro j b hj
   have hm : b ∈ ([42, 63] : List UInt8) := List.mem_of_getElem? hj
   simp only [List.mem_cons, List.not_mem_nil, or_false] at hm
   rcases hm with rfl | rfl <;> decide
  ·rintro e w' ⟨rfl, rfl⟩
   exact ⟨⟨_, rfl, any_plain _⟩, ((Below.refl _ w).alloc (Nat.le_refl _) _).alloc (by simp) _⟩
 ·exact any_short s w h8
set_option maxRecDepth 100000 in
set_option maxHeartbeats 8000000 in
theorem contains_w (s : ByteArray) (w : World) (hs : s.size ≤ 1000) : Calls Try.prog 23 #[.string s, .string ⟨#[42, 63]⟩] w fun e w' => e = .returned (.bool (!plainL (lb s))) ∧ Below w.heap.size w w' := by
 have HA := Lib.hid (any_w s w hs)
 go_enter Try.func23, Try.ntmps23
 go_wp2_with fail
 refine HA.out.mono ?_
 rintro e w1 ⟨⟨n, rfl, hn⟩, hb⟩
 have HB := Lib.hid hb
 have HN := Lib.hid hn
 clear hn hb HA
 go_wp2
 go_ret
 refine ⟨?_, HB.out⟩
 rw [← HN.out]
 show Ending.returned (.bool (decide (0 ≤ n))) = _
 congr 2
 rw [Bool.eq_iff_iff, decide_eq_true_eq, Bool.not_eq_true', decide_eq_false_iff_not]; omega
set_option maxRecDepth 100000 in
set_option maxHeartbeats 8000000 in
theorem plain_w (s : ByteArray) (w : World) (hs : s.size ≤ 1000) : Calls Try.prog 12 #[.string s] w fun e w' => e = .returned (.bool (plainL (lb s))) ∧ Below w.heap.size w w' := by
 have HC := Lib.hid (contains_w s w hs)
 obtain ⟨b, hb⟩ : ∃ b, b = plainL (lb s) := ⟨_, rfl⟩
 rw [← hb] at HC ⊢
 clear hb
 go_enter Try.func12, Try.ntmps12
 go_wp2_with fail
 refine HC.out.mono ?_
 rintro e w1 ⟨rfl, hb⟩
 have HB := Lib.hid hb
 clear hb HC
 go_wp2
 go_ret
 exact ⟨by simp, HB.out⟩
end Go.Proofs.Ytcaaljioennnnaa.glob

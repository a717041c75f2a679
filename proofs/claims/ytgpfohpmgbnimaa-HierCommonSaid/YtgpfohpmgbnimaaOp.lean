/-
 Layer 7: shapes, and of which sort an instruction is: the program's answers, and the document's.
-/
import Derived.Test.YtgpfohpmgbnimaaOpP
import Derived.Test.YtgpfohpmgbnimaaKindE
namespace Go.Proofs.Ytgpfohpmgbnimaa.op
open Go.RowKit
open words kindp opp

theorem known_nat {o : Int} (h : known o = true) : ∃ n : Nat, o = (n : Int) ∧ 0 < n ∧ n < 33 := by
 have := of_decide_eq_true h
 exact ⟨o.toNat, by omega, by omega, by omega⟩
theorem known_not {o : Int} (h : known o = false) : o ≤ 0 ∨ 32 < o := by
 have := of_decide_eq_false h
 omega

/-- has a shape one of some letters -/
def anyL (s l : Tx) : Bool := Lib.containsAny s l
theorem any_tail (s : Tx) (c : UInt8) (l : Tx) : anyL s (c :: l) = (hasL s c || anyL s l) := by
 unfold anyL hasL
 induction s with
 | nil => rfl
 | cons b s ih =>
  unfold Lib.containsAny at ih ⊢
  have h1 := Lib.indexAny_ge (c :: l) s
  have h2 := Lib.indexAny_ge l s
  have e1 : decide (0 ≤ Lib.indexAny (b :: s) (c :: l)) = ((c :: l).contains b || decide (0 ≤ Lib.indexAny s (c :: l))) := by
   conv => lhs; unfold Lib.indexAny
   by_cases h : (c :: l).contains b = true
   ·rw [if_pos h, h]; simp
   ·rw [if_neg h]
    rw [Bool.not_eq_true] at h
    rw [h, Bool.false_or]
    split <;> rename_i h3
    ·rw [beq_iff_eq] at h3; rw [h3]
    ·rw [beq_iff_eq] at h3; congr 1; apply propext; omega
  have e2 : decide (0 ≤ Lib.indexAny (b :: s) l) = (l.contains b || decide (0 ≤ Lib.indexAny s l)) := by
   conv => lhs; unfold Lib.indexAny
   by_cases h : l.contains b = true
   ·rw [if_pos h, h]; simp
   ·rw [if_neg h]
    rw [Bool.not_eq_true] at h
    rw [h, Bool.false_or]
    split <;> rename_i h3
    ·rw [beq_iff_eq] at h3; rw [h3]
    ·rw [beq_iff_eq] at h3; congr 1; apply propext; omega
  rw [e1, e2, ih, List.contains_cons, List.contains_cons, Bool.beq_comm (a := c)]
  cases b == c <;> cases l.contains b <;> cases s.contains c <;> simp

theorem any_none (s : Tx) : anyL s [] = false := by
 unfold anyL
 induction s with
 | nil => rfl
 | cons b l ih =>
  unfold Lib.containsAny at ih ⊢
  have h1 := of_decide_eq_false ih
  have h2 := Lib.indexAny_ge [] l
  unfold Lib.indexAny
  rw [show Lib.indexAny l [] = -1 by omega]; rfl
theorem any_one (s : Tx) (c : UInt8) : anyL s [c] = hasL s c := by rw [any_tail, any_none, Bool.or_false]

theorem kinds4 (o : Int) (Q : Int → Prop) (a b c d : Int) (ha : Q a) (hb : Q b) (hc : Q c) (hd : Q d) (h : (o == a) = false → (o == b) = false → (o == c) = false → (o == d) = false → Q o) : Q o := by
 by_cases h1 : o = a
 ·rw [h1]; exact ha
 by_cases h2 : o = b
 ·rw [h2]; exact hb
 by_cases h3 : o = c
 ·rw [h3]; exact hc
 by_cases h4 : o = d
 ·rw [h4]; exact hd
 exact h (by simpa using h1) (by simpa using h2) (by simpa using h3) (by simpa using h4)

end Go.Proofs.Ytgpfohpmgbnimaa.op

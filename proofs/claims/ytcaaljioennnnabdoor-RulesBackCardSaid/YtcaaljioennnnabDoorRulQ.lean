/-
 Layer 22, of no program: the rule that a line's fields tell, where none is one that can't be.
-/
import Derived.Test.YtcaaljioennnnabDoorRulP
namespace Go.Proofs.YtcaaljioennnnabDoor.rul
open Go.Lib
open Go.Proofs.YtcaaljioennnnabDoor.piece Go.Proofs.YtcaaljioennnnabDoor.glob
/-- the rule that what is behind the first word tells -/
def readW (nb : Bool) (fs : List (List UInt8)) : Ru := match fs with
 | [m, c] => if m = wClass then ⟨nb, false, c, [], []⟩ else ⟨nb, false, [], [], []⟩
 | [m, c, n, d] => if m = wMember then ⟨nb, true, c, n, d⟩ else ⟨nb, false, [], [], []⟩
 | _ => ⟨nb, false, [], [], []⟩
def readR (fs : List (List UInt8)) : Ru := match fs with
 | a :: t => if a = wKeepname then readW true t else if a = wKeep then readW false t else ⟨false, false, [], [], []⟩
 | [] => ⟨false, false, [], [], []⟩
theorem right_empty (nb : Bool) : rightR ⟨nb, false, [], [], []⟩ = false := by cases nb <;> rfl
theorem readW_fields (nb : Bool) (fs : List (List UInt8)) (h : rightR (readW nb fs) = true) : (readW nb fs).nb = nb ∧ fieldsR (readW nb fs) = (if nb then wKeepname else wKeep) :: fs := by
 unfold readW at h ⊢
 split at h
 ·rename_i m c
  by_cases hm : m = wClass
  ·simp [hm, fieldsR]
  ·rw [if_neg hm, right_empty] at h; cases h
 ·rename_i m c n d
  by_cases hm : m = wMember
  ·simp [hm, fieldsR]
  ·rw [if_neg hm, right_empty] at h; cases h
 ·rw [right_empty] at h; cases h
theorem readR_fields (fs : List (List UInt8)) (h : rightR (readR fs) = true) : fieldsR (readR fs) = fs := by
 rcases fs with _ | ⟨a, t⟩
 ·rw [show readR [] = ⟨false, false, [], [], []⟩ from rfl, right_empty] at h; cases h
 ·simp only [readR] at h ⊢
  by_cases h1 : a = wKeepname
  ·rw [if_pos h1] at h ⊢
   rw [(readW_fields true t h).2, h1]; rfl
  ·rw [if_neg h1] at h ⊢
   by_cases h2 : a = wKeep
   ·rw [if_pos h2] at h ⊢
    rw [(readW_fields false t h).2, h2]; rfl
   ·rw [if_neg h2, right_empty] at h; cases h
theorem fields_readR {r : Ru} (h : rightR r = true) : readR (fieldsR r) = r := by
 obtain ⟨nb, me, cl, nm, ds⟩ := r
 simp only [rightR, Bool.and_eq_true] at h
 cases me
 ·have h2 := h.2
  simp at h2
  obtain ⟨rfl, rfl⟩ := h2
  cases nb
  ·have e : ¬ wKeep = wKeepname := by decide
   simp [fieldsR, readR, readW, e]
  ·simp [fieldsR, readR, readW]
 ·cases nb
  ·have e : ¬ wKeep = wKeepname := by decide
   simp [fieldsR, readR, readW, e]
  ·simp [fieldsR, readR, readW]
theorem fields_line {r : Ru} (h : rightR r = true) : F 32 (lineR r) = fieldsR r := by
 unfold lineR
 obtain ⟨x, l, e⟩ : ∃ x l, fieldsR r = x :: l := ⟨_, _, rfl⟩
 rw [e]
 exact F_of_join 32 x l (fun y hy => fields_no h y (by rw [e]; exact hy))
theorem read_rule (x : List UInt8) : ruleR x = if rightR (readR (F 32 x)) = true then some (readR (F 32 x)) else none := by
 by_cases h : rightR (readR (F 32 x)) = true
 ·rw [if_pos h]
  have hf := readR_fields _ h
  have hc : candR (F 32 x) = some (readR (F 32 x)) := by
   conv => lhs; rw [← hf]
   exact cand_fields h
  have hl : lineR (readR (F 32 x)) = x := by
   unfold lineR; rw [hf]; exact F_join 32 _ x (Nat.le_refl _)
  unfold ruleR
  rw [hc]
  simp [h, hl]
 ·rw [if_neg h]
  cases hr : ruleR x with
  | none => rfl
  | some r =>
   obtain ⟨h1, h2⟩ := rule_some hr
   rw [← h2, fields_line h1, fields_readR h1] at h
   exact absurd h1 h
end Go.Proofs.YtcaaljioennnnabDoor.rul

/-
 Layer 6, of no program: types, their texts, descriptors, and what is read of any text.
-/
import Derived.Test.YtjcdgpfffmnneaaGreatDoorPiece
namespace Go.Proofs.YtjcdgpfffmnneaaGreatDoor.kindp
open piece

abbrev Tx := List UInt8
/-- a type: its kind, and its class -/
abbrev Ty := Int × Tx
def okC (c : Nat) : Bool := c == 47 || decide ((65 ≤ c ∧ c ≤ 90) ∨ (97 ≤ c ∧ c ≤ 122) ∨ (48 ≤ c ∧ c ≤ 57) ∨ c = 95 ∨ c = 36)
/-- a class's name -/
def clsB (c : Tx) : Bool := decide (1 ≤ c.length ∧ c.length ≤ 32) && (c.map (·.toNat)).all okC
theorem cls_no {c : Tx} (h : clsB c = true) : (59 : UInt8) ∉ c ∧ 1 ≤ c.length ∧ c.length ≤ 32 := by
 unfold clsB at h
 rw [Bool.and_eq_true, decide_eq_true_eq, List.all_eq_true] at h
 refine ⟨fun h59 => ?_, h.1⟩
 have := h.2 59 (List.mem_map.2 ⟨59, h59, rfl⟩)
 revert this; decide
/-- a type of a class -/
def hasB (k : Int) : Bool := decide (k = 3 ∨ k = 5)
def signL (k : Int) : Tx := if k = 1 then [86] else if k = 2 then [73] else if k = 3 then [76] else if k = 4 then [91, 73] else if k = 5 then [91, 76] else []
def rightT (t : Ty) : Bool := if hasB t.1 = true then clsB t.2 else decide ((t.1 = 1 ∨ t.1 = 2 ∨ t.1 = 4) ∧ t.2 = [])
def textT (t : Ty) : Tx := if rightT t = true then (if hasB t.1 = true then signL t.1 ++ t.2 ++ [59] else signL t.1) else []
/-- a class that stands first -/
def classT (k : Int) (s : Tx) : Option (Ty × Tx) := if ((Lib.cut s [59]).2.2 && clsB (Lib.cut s [59]).1) = true then some ((k, (Lib.cut s [59]).1), (Lib.cut s [59]).2.1) else none
/-- the type that stands first, and what stands behind it -/
def typeT : Tx → Option (Ty × Tx)
 | [] => none
 | c :: r =>
  if c = 86 then some ((1, []), r) else if c = 73 then some ((2, []), r) else if c = 76 then classT 3 r
  else if c = 91 then (match r with
   | [] => none
   | d :: q => if d = 73 then some ((4, []), q) else if d = 76 then classT 5 q else none)
  else none
def allT (s : Tx) : Option Ty := match typeT s with | some (t, []) => some t | _ => none
def parseT (s : Tx) : Ty × Nat := match allT s with | some t => (t, 0) | none => ((0, []), 1)
/-- what stands behind "(", with so many types ahead -/
def sigT : Nat → List Ty → Tx → Option (List Ty × Ty)
 | 0, _, _ => none
 | n + 1, acc, s =>
  if s.head? = some 41 then (match allT s.tail with | some t => some (acc, t) | none => none)
  else match typeT s with
   | some (t, r) => if t = (1, []) then none else sigT n (acc ++ [t]) r
   | none => none
/-- the types of a descriptor -/
def sigD (d : Tx) : Option (List Ty × Ty) := if d.head? = some 40 then sigT (d.length + 1) [] d.tail else none
def splitT (d : Tx) : List Ty × Ty × Nat :=
 if 64 < d.length then ([], (0, []), 3)
 else match sigD d with
  | some (p, t) => if 8 < p.length then ([], (0, []), 3) else (p, t, 0)
  | none => ([], (0, []), 1)
/-- a type that is right is one of five -/
theorem right_cases {t : Ty} (h : rightT t = true) : t = (1, []) ∨ t = (2, []) ∨ t = (4, []) ∨ (∃ c, t = (3, c) ∧ clsB c = true) ∨ (∃ c, t = (5, c) ∧ clsB c = true) := by
 obtain ⟨k, c⟩ := t
 unfold rightT hasB at h
 dsimp only at h ⊢
 by_cases hk : k = 3 ∨ k = 5
 ·rw [if_pos (decide_eq_true hk)] at h
  rcases hk with rfl | rfl
  ·exact .inr (.inr (.inr (.inl ⟨c, rfl, h⟩)))
  ·exact .inr (.inr (.inr (.inr ⟨c, rfl, h⟩)))
 ·rw [if_neg (by simpa using hk)] at h
  obtain ⟨h1, rfl⟩ := of_decide_eq_true h
  rcases h1 with rfl | rfl | rfl <;> simp
theorem right3 {c : Tx} (h : clsB c = true) : rightT (3, c) = true := by unfold rightT hasB; simpa using h
theorem right5 {c : Tx} (h : clsB c = true) : rightT (5, c) = true := by unfold rightT hasB; simpa using h
theorem text3 {c : Tx} (h : clsB c = true) : textT (3, c) = 76 :: (c ++ [59]) := by
 unfold textT; rw [if_pos (right3 h)]; simp [hasB, signL]
theorem text5 {c : Tx} (h : clsB c = true) : textT (5, c) = 91 :: 76 :: (c ++ [59]) := by
 unfold textT; rw [if_pos (right5 h)]; simp [hasB, signL]
theorem text1 : textT (1, []) = [86] := rfl
theorem text2 : textT (2, []) = [73] := rfl
theorem text4 : textT (4, []) = [91, 73] := rfl
theorem class_of {k : Int} {s r : Tx} {t : Ty} (h : classT k s = some (t, r)) : clsB t.2 = true ∧ t.1 = k ∧ s = t.2 ++ 59 :: r := by
 unfold classT at h
 rcases parts 59 s with hn | ⟨a, b, rfl, ha⟩
 ·rw [cut_miss hn] at h; simp at h
 ·rw [cut_hit ha] at h
  dsimp only at h
  by_cases hc : clsB a = true
  ·rw [if_pos (by simpa using hc)] at h
   cases h; exact ⟨hc, rfl, rfl⟩
  ·rw [if_neg (by simpa using hc)] at h; cases h
/-- WHAT IS READ AS A TYPE BEGINS WITH ITS TEXT. -/
theorem type_of {s r : Tx} {t : Ty} (h : typeT s = some (t, r)) : rightT t = true ∧ s = textT t ++ r := by
 cases s with
 | nil => cases h
 | cons c l =>
  dsimp only [typeT] at h
  by_cases h1 : c = 86
  ·rw [if_pos h1] at h; cases h; exact ⟨rfl, by rw [h1]; rfl⟩
  rw [if_neg h1] at h
  by_cases h2 : c = 73
  ·rw [if_pos h2] at h; cases h; exact ⟨rfl, by rw [h2]; rfl⟩
  rw [if_neg h2] at h
  by_cases h3 : c = 76
  ·rw [if_pos h3] at h
   obtain ⟨a, b, e⟩ := class_of h
   obtain ⟨k, d⟩ := t
   dsimp only at a b e
   subst b
   exact ⟨right3 a, by rw [text3 a, h3, e]; simp⟩
  rw [if_neg h3] at h
  by_cases h4 : c = 91
  ·rw [if_pos h4] at h
   cases l with
   | nil => cases h
   | cons d q =>
    dsimp only at h
    by_cases h5 : d = 73
    ·rw [if_pos h5] at h; cases h; exact ⟨rfl, by rw [h4, h5]; rfl⟩
    rw [if_neg h5] at h
    by_cases h6 : d = 76
    ·rw [if_pos h6] at h
     obtain ⟨a, b, e⟩ := class_of h
     obtain ⟨k, d⟩ := t
     dsimp only at a b e
     subst b
     exact ⟨right5 a, by rw [text5 a, h4, h6, e]; simp⟩
    rw [if_neg h6] at h; cases h
  rw [if_neg h4] at h; cases h
theorem text_ne {t : Ty} (h : rightT t = true) : ∃ c r, textT t = c :: r ∧ c ≠ 41 := by
 rcases right_cases h with rfl | rfl | rfl | ⟨c, rfl, h2⟩ | ⟨c, rfl, h2⟩
 ·exact ⟨_, _, text1, by decide⟩
 ·exact ⟨_, _, text2, by decide⟩
 ·exact ⟨_, _, text4, by decide⟩
 ·exact ⟨_, _, text3 h2, by decide⟩
 ·exact ⟨_, _, text5 h2, by decide⟩
theorem type_less {s r : Tx} {t : Ty} (h : typeT s = some (t, r)) : r.length < s.length := by
 obtain ⟨a, e⟩ := type_of h
 obtain ⟨c, q, e2, _⟩ := text_ne a
 rw [e, e2]; simp; omega
/-- the fuel does not matter, where it is enough -/
theorem sig_fuel : ∀ (n m : Nat) (acc : List Ty) (s : Tx), s.length < n → s.length < m → sigT n acc s = sigT m acc s
 | 0, _, _, _, h, _ => absurd h (by omega)
 | _ + 1, 0, _, _, _, h => absurd h (by omega)
 | n + 1, m + 1, acc, s, h1, h2 => by
  unfold sigT
  split
  ·rfl
  ·cases hp : typeT s with
   | none => rfl
   | some q =>
    obtain ⟨t, r⟩ := q
    dsimp only
    split
    ·rfl
    ·have := type_less hp
     exact sig_fuel n m _ r (by omega) (by omega)
/-- one round -/
theorem sig_done {acc : List Ty} {r : Tx} : sigT ((41 :: r).length + 1) acc (41 :: r) = (match allT r with | some t => some (acc, t) | none => none) := by
 rw [sigT]; rfl
theorem sig_none {acc : List Ty} {s : Tx} (h : s.head? ≠ some 41) (hp : typeT s = none) : sigT (s.length + 1) acc s = none := by
 rw [sigT, if_neg h, hp]
theorem sig_void {acc : List Ty} {s r : Tx} (h : s.head? ≠ some 41) (hp : typeT s = some ((1, []), r)) : sigT (s.length + 1) acc s = none := by
 rw [sigT, if_neg h, hp]; rfl
theorem sig_next {acc : List Ty} {s r : Tx} {t : Ty} (h : s.head? ≠ some 41) (hp : typeT s = some (t, r)) (ht : t ≠ (1, [])) : sigT (s.length + 1) acc s = sigT (r.length + 1) (acc ++ [t]) r := by
 rw [sigT, if_neg h, hp]
 dsimp only
 rw [if_neg ht]
 have := type_less hp
 exact sig_fuel _ _ _ _ (by omega) (by omega)
theorem split_len (d : Tx) : (splitT d).1.length ≤ 8 := by
 unfold splitT
 split
 ·simp
 ·cases sigD d with
  | none => simp
  | some q =>
   dsimp only
   split
   ·simp
   ·dsimp only; omega
end Go.Proofs.YtjcdgpfffmnneaaGreatDoor.kindp

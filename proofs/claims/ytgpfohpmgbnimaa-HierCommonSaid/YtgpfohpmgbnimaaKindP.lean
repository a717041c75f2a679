/-
 Layer 6, of no program: types, their texts, descriptors, and what is read of any text.
-/
import Derived.Test.YtgpfohpmgbnimaaPiece
namespace Go.Proofs.Ytgpfohpmgbnimaa.kindp
open piece

abbrev Tx := List UInt8
/-- a type: its kind, and its class -/
abbrev Ty := Int × Tx
def okC (c : Nat) : Bool := c == 47 || decide ((65 ≤ c ∧ c ≤ 90) ∨ (97 ≤ c ∧ c ≤ 122) ∨ (48 ≤ c ∧ c ≤ 57) ∨ c = 95 ∨ c = 36)
/-- a class's name -/
def clsB (c : Tx) : Bool := decide (1 ≤ c.length ∧ c.length ≤ 32) && (c.map (·.toNat)).all okC
theorem cls_no {c : Tx} (h : clsB c = true) : (59 : UInt8) ∉ c ∧ 1 ≤ c.length ∧ c.length ≤ 32 := by
 unfold clsB at h
 rw [Bool.and_eq_true, decide_eq_true_eq, List.all_eq_true] at h
 refine ⟨fun h59 => ?_, h.1⟩
 have := h.2 59 (List.mem_map.2 ⟨59, h59, rfl⟩)
 revert this; decide
theorem cls_ne {c : Tx} (h : clsB c = true) : c ≠ [] := by
 have := (cls_no h).2.1
 intro e; rw [e] at this; simp at this
/-- a type of a class -/
def hasB (k : Int) : Bool := decide (k = 3 ∨ k = 5)
def signL (k : Int) : Tx := if k = 1 then [86] else if k = 2 then [73] else if k = 3 then [76] else if k = 4 then [91, 73] else if k = 5 then [91, 76] else []
def rightT (t : Ty) : Bool := if hasB t.1 = true then clsB t.2 else decide ((t.1 = 1 ∨ t.1 = 2 ∨ t.1 = 4) ∧ t.2 = [])
def textT (t : Ty) : Tx := if rightT t = true then (if hasB t.1 = true then signL t.1 ++ t.2 ++ [59] else signL t.1) else []
/-- a class that stands first -/
def classT (k : Int) (s : Tx) : Option (Ty × Tx) := if ((Lib.cut s [59]).2.2 && clsB (Lib.cut s [59]).1) = true then some ((k, (Lib.cut s [59]).1), (Lib.cut s [59]).2.1) else none
/-- the type that stands first, and what stands behind it -/
def typeT : Tx → Option (Ty × Tx)
 | [] => none
 | c :: r =>
  if c = 86 then some ((1, []), r) else if c = 73 then some ((2, []), r) else if c = 76 then classT 3 r
  else if c = 91 then (match r with
   | [] => none
   | d :: q => if d = 73 then some ((4, []), q) else if d = 76 then classT 5 q else none)
  else none
def allT (s : Tx) : Option Ty := match typeT s with | some (t, []) => some t | _ => none
def parseT (s : Tx) : Ty × Nat := match allT s with | some t => (t, 0) | none => ((0, []), 1)
/-- what stands behind "(", with so many types ahead -/
def sigT : Nat → List Ty → Tx → Option (List Ty × Ty)
 | 0, _, _ => none
 | n + 1, acc, s =>
  if s.head? = some 41 then (match allT s.tail with | some t => some (acc, t) | none => none)
  else match typeT s with
   | some (t, r) => if t = (1, []) then none else sigT n (acc ++ [t]) r
   | none => none
/-- the types of a descriptor -/
def sigD (d : Tx) : Option (List Ty × Ty) := if d.head? = some 40 then sigT (d.length + 1) [] d.tail else none
def splitT (d : Tx) : List Ty × Ty × Nat :=
 if 64 < d.length then ([], (0, []), 3)
 else match sigD d with
  | some (p, t) => if 8 < p.length then ([], (0, []), 3) else (p, t, 0)
  | none => ([], (0, []), 1)
def wrongT (t : Ty) : Bool := decide (t = (1, [])) || !rightT t
def bodyT (p : List Ty) : Tx := (p.map textT).flatten
def wholeT (ret : Ty) (p : List Ty) : Tx := [40] ++ bodyT p ++ [41] ++ textT ret
def descT (ret : Ty) (p : List Ty) : Tx × Nat :=
 if (!rightT ret || p.any wrongT) = true then ([], 1)
 else if 8 < p.length ∨ 64 < (wholeT ret p).length then ([], 3) else (wholeT ret p, 0)

/-- a type that is right is one of five -/
theorem right_cases {t : Ty} (h : rightT t = true) : t = (1, []) ∨ t = (2, []) ∨ t = (4, []) ∨ (∃ c, t = (3, c) ∧ clsB c = true) ∨ (∃ c, t = (5, c) ∧ clsB c = true) := by
 obtain ⟨k, c⟩ := t
 unfold rightT hasB at h
 dsimp only at h ⊢
 by_cases hk : k = 3 ∨ k = 5
 ·rw [if_pos (decide_eq_true hk)] at h
  rcases hk with rfl | rfl
  ·exact .inr (.inr (.inr (.inl ⟨c, rfl, h⟩)))
  ·exact .inr (.inr (.inr (.inr ⟨c, rfl, h⟩)))
 ·rw [if_neg (by simpa using hk)] at h
  obtain ⟨h1, rfl⟩ := of_decide_eq_true h
  rcases h1 with rfl | rfl | rfl <;> simp
theorem right3 {c : Tx} (h : clsB c = true) : rightT (3, c) = true := by unfold rightT hasB; simpa using h
theorem right5 {c : Tx} (h : clsB c = true) : rightT (5, c) = true := by unfold rightT hasB; simpa using h
theorem text3 {c : Tx} (h : clsB c = true) : textT (3, c) = 76 :: (c ++ [59]) := by
 unfold textT; rw [if_pos (right3 h)]; simp [hasB, signL]
theorem text5 {c : Tx} (h : clsB c = true) : textT (5, c) = 91 :: 76 :: (c ++ [59]) := by
 unfold textT; rw [if_pos (right5 h)]; simp [hasB, signL]
theorem text1 : textT (1, []) = [86] := rfl
theorem text2 : textT (2, []) = [73] := rfl
theorem text4 : textT (4, []) = [91, 73] := rfl
theorem class_hit {k : Int} {c r : Tx} (h : clsB c = true) : classT k (c ++ 59 :: r) = some ((k, c), r) := by
 unfold classT; rw [cut_hit (cls_no h).1]; simp [h]
theorem class_of {k : Int} {s r : Tx} {t : Ty} (h : classT k s = some (t, r)) : clsB t.2 = true ∧ t.1 = k ∧ s = t.2 ++ 59 :: r := by
 unfold classT at h
 rcases parts 59 s with hn | ⟨a, b, rfl, ha⟩
 ·rw [cut_miss hn] at h; simp at h
 ·rw [cut_hit ha] at h
  dsimp only at h
  by_cases hc : clsB a = true
  ·rw [if_pos (by simpa using hc)] at h
   cases h; exact ⟨hc, rfl, rfl⟩
  ·rw [if_neg (by simpa using hc)] at h; cases h
/-- A TYPE'S TEXT, WHATEVER STANDS BEHIND IT, IS READ AS THE TYPE. -/
theorem type_text {t : Ty} (h : rightT t = true) (r : Tx) : typeT (textT t ++ r) = some (t, r) := by
 rcases right_cases h with rfl | rfl | rfl | ⟨c, rfl, h2⟩ | ⟨c, rfl, h2⟩
 ·rfl
 ·rfl
 ·rfl
 ·rw [text3 h2, show (76 :: (c ++ [59])) ++ r = 76 :: (c ++ 59 :: r) by simp]
  show classT 3 (c ++ 59 :: r) = _
  exact class_hit h2
 ·rw [text5 h2, show (91 :: 76 :: (c ++ [59])) ++ r = 91 :: 76 :: (c ++ 59 :: r) by simp]
  show classT 5 (c ++ 59 :: r) = _
  exact class_hit h2
/-- WHAT IS READ AS A TYPE BEGINS WITH ITS TEXT. -/
theorem type_of {s r : Tx} {t : Ty} (h : typeT s = some (t, r)) : rightT t = true ∧ s = textT t ++ r := by
 cases s with
 | nil => cases h
 | cons c l =>
  dsimp only [typeT] at h
  by_cases h1 : c = 86
  ·rw [if_pos h1] at h; cases h; exact ⟨rfl, by rw [h1]; rfl⟩
  rw [if_neg h1] at h
  by_cases h2 : c = 73
  ·rw [if_pos h2] at h; cases h; exact ⟨rfl, by rw [h2]; rfl⟩
  rw [if_neg h2] at h
  by_cases h3 : c = 76
  ·rw [if_pos h3] at h
   obtain ⟨a, b, e⟩ := class_of h
   obtain ⟨k, d⟩ := t
   dsimp only at a b e
   subst b
   exact ⟨right3 a, by rw [text3 a, h3, e]; simp⟩
  rw [if_neg h3] at h
  by_cases h4 : c = 91
  ·rw [if_pos h4] at h
   cases l with
   | nil => cases h
   | cons d q =>
    dsimp only at h
    by_cases h5 : d = 73
    ·rw [if_pos h5] at h; cases h; exact ⟨rfl, by rw [h4, h5]; rfl⟩
    rw [if_neg h5] at h
    by_cases h6 : d = 76
    ·rw [if_pos h6] at h
     obtain ⟨a, b, e⟩ := class_of h
     obtain ⟨k, d⟩ := t
     dsimp only at a b e
     subst b
     exact ⟨right5 a, by rw [text5 a, h4, h6, e]; simp⟩
    rw [if_neg h6] at h; cases h
  rw [if_neg h4] at h; cases h
theorem text_ne {t : Ty} (h : rightT t = true) : ∃ c r, textT t = c :: r ∧ c ≠ 41 := by
 rcases right_cases h with rfl | rfl | rfl | ⟨c, rfl, h2⟩ | ⟨c, rfl, h2⟩
 ·exact ⟨_, _, text1, by decide⟩
 ·exact ⟨_, _, text2, by decide⟩
 ·exact ⟨_, _, text4, by decide⟩
 ·exact ⟨_, _, text3 h2, by decide⟩
 ·exact ⟨_, _, text5 h2, by decide⟩
theorem type_less {s r : Tx} {t : Ty} (h : typeT s = some (t, r)) : r.length < s.length := by
 obtain ⟨a, e⟩ := type_of h
 obtain ⟨c, q, e2, _⟩ := text_ne a
 rw [e, e2]; simp; omega
theorem all_text {t : Ty} (h : rightT t = true) : allT (textT t) = some t := by
 have := type_text h []
 rw [List.append_nil] at this
 unfold allT; rw [this]
theorem all_of {s : Tx} {t : Ty} (h : allT s = some t) : rightT t = true ∧ textT t = s := by
 unfold allT at h
 cases hp : typeT s with
 | none => rw [hp] at h; cases h
 | some q =>
  obtain ⟨u, r⟩ := q
  rw [hp] at h
  cases r with
  | nil => cases h; have := type_of hp; rw [List.append_nil] at this; exact ⟨this.1, this.2.symm⟩
  | cons => cases h
theorem parse_text {t : Ty} (h : rightT t = true) : parseT (textT t) = (t, 0) := by unfold parseT; rw [all_text h]
theorem parse_of {s : Tx} {t : Ty} (h : parseT s = (t, 0)) : rightT t = true ∧ textT t = s := by
 unfold parseT at h
 cases hp : allT s with
 | none => rw [hp] at h; cases h
 | some u => rw [hp] at h; cases h; exact all_of hp
/-- the fuel does not matter, where it is enough -/
theorem sig_fuel : ∀ (n m : Nat) (acc : List Ty) (s : Tx), s.length < n → s.length < m → sigT n acc s = sigT m acc s
 | 0, _, _, _, h, _ => absurd h (by omega)
 | _ + 1, 0, _, _, _, h => absurd h (by omega)
 | n + 1, m + 1, acc, s, h1, h2 => by
  unfold sigT
  split
  ·rfl
  ·cases hp : typeT s with
   | none => rfl
   | some q =>
    obtain ⟨t, r⟩ := q
    dsimp only
    split
    ·rfl
    ·have := type_less hp
     exact sig_fuel n m _ r (by omega) (by omega)
/-- one round -/
theorem sig_done {acc : List Ty} {r : Tx} : sigT ((41 :: r).length + 1) acc (41 :: r) = (match allT r with | some t => some (acc, t) | none => none) := by
 rw [sigT]; rfl
theorem sig_none {acc : List Ty} {s : Tx} (h : s.head? ≠ some 41) (hp : typeT s = none) : sigT (s.length + 1) acc s = none := by
 rw [sigT, if_neg h, hp]
theorem sig_void {acc : List Ty} {s r : Tx} (h : s.head? ≠ some 41) (hp : typeT s = some ((1, []), r)) : sigT (s.length + 1) acc s = none := by
 rw [sigT, if_neg h, hp]; rfl
theorem sig_next {acc : List Ty} {s r : Tx} {t : Ty} (h : s.head? ≠ some 41) (hp : typeT s = some (t, r)) (ht : t ≠ (1, [])) : sigT (s.length + 1) acc s = sigT (r.length + 1) (acc ++ [t]) r := by
 rw [sigT, if_neg h, hp]
 dsimp only
 rw [if_neg ht]
 have := type_less hp
 exact sig_fuel _ _ _ _ (by omega) (by omega)
/-- PARAMETERS THAT ARE WRITTEN ARE READ AS THEY WERE. -/
theorem sig_text : ∀ (p : List Ty) (acc : List Ty) (t : Ty), (∀ x ∈ p, wrongT x = false) → rightT t = true → ∀ n, (bodyT p ++ 41 :: textT t).length < n → sigT n acc (bodyT p ++ 41 :: textT t) = some (acc ++ p, t)
 | [], acc, t, _, ht, n, hn => by
  rw [sig_fuel n ((bodyT [] ++ 41 :: textT t).length + 1) _ _ hn (by omega)]
  show sigT ((41 :: textT t).length + 1) acc (41 :: textT t) = _
  rw [sig_done, all_text ht, List.append_nil]
 | x :: p, acc, t, h, ht, n, hn => by
  have hx := h x List.mem_cons_self
  unfold wrongT at hx
  rw [Bool.or_eq_false_iff, decide_eq_false_iff_not, Bool.not_eq_false'] at hx
  have e : bodyT (x :: p) ++ 41 :: textT t = textT x ++ (bodyT p ++ 41 :: textT t) := by simp [bodyT]
  rw [sig_fuel n ((bodyT (x :: p) ++ 41 :: textT t).length + 1) _ _ hn (by omega), e]
  obtain ⟨c, q, e2, hc⟩ := text_ne hx.2
  rw [sig_next (by rw [e2]; simpa using hc) (type_text hx.2 _) hx.1, sig_text p _ t (fun y hy => h y (List.mem_cons_of_mem _ hy)) ht _ (by omega)]
  simp
/-- WHAT IS READ WAS WRITTEN SO. -/
theorem sig_of : ∀ (n : Nat) (acc : List Ty) (s : Tx) (p : List Ty) (t : Ty), sigT n acc s = some (p, t) → ∃ q, p = acc ++ q ∧ (∀ x ∈ q, wrongT x = false) ∧ rightT t = true ∧ s = bodyT q ++ 41 :: textT t
 | 0, _, _, _, _, h => by cases h
 | n + 1, acc, s, p, t, h => by
  unfold sigT at h
  split at h
  ·rename_i h41
   cases s with
   | nil => cases h41
   | cons c r =>
    cases h41
    simp only [List.tail_cons] at h
    cases ha : allT r with
    | none => rw [ha] at h; cases h
    | some u =>
     rw [ha] at h; cases h
     obtain ⟨a, b⟩ := all_of ha
     exact ⟨[], by simp, by simp, a, by rw [b]; rfl⟩
  ·cases hp : typeT s with
   | none => rw [hp] at h; cases h
   | some q =>
    obtain ⟨u, r⟩ := q
    rw [hp] at h
    dsimp only at h
    split at h
    ·cases h
    ·rename_i hu
     obtain ⟨q, e1, e2, e3, e4⟩ := sig_of n _ r p t h
     obtain ⟨a, b⟩ := type_of hp
     refine ⟨u :: q, by rw [e1]; simp, ?_, e3, by rw [b, e4]; simp [bodyT]⟩
     intro x hx
     rcases List.mem_cons.1 hx with rfl | hx
     ·unfold wrongT; simp [hu, a]
     ·exact e2 x hx
theorem sigD_text {p : List Ty} {t : Ty} (hp : ∀ x ∈ p, wrongT x = false) (ht : rightT t = true) : sigD (wholeT t p) = some (p, t) := by
 unfold sigD wholeT
 rw [show [40] ++ bodyT p ++ [41] ++ textT t = 40 :: (bodyT p ++ 41 :: textT t) by simp]
 rw [if_pos (show (40 :: (bodyT p ++ 41 :: textT t)).head? = some 40 from rfl), List.tail_cons, sig_text p [] t hp ht _ (by simp; omega), List.nil_append]
theorem sigD_of {d : Tx} {p : List Ty} {t : Ty} (h : sigD d = some (p, t)) : (∀ x ∈ p, wrongT x = false) ∧ rightT t = true ∧ d = wholeT t p := by
 unfold sigD at h
 split at h
 ·rename_i h40
  cases d with
  | nil => cases h40
  | cons c r =>
   cases h40
   obtain ⟨q, e1, e2, e3, e4⟩ := sig_of _ _ _ _ _ h
   rw [List.nil_append] at e1
   subst e1
   refine ⟨e2, e3, ?_⟩
   simp only [List.tail_cons] at e4
   rw [e4]; simp [wholeT]
 ·cases h
theorem any_wrong {p : List Ty} (h : p.any wrongT = false) : ∀ x ∈ p, wrongT x = false := fun x hx => by
 cases hw : wrongT x with
 | false => rfl
 | true => rw [List.any_eq_true.2 ⟨x, hx, hw⟩] at h; cases h
theorem no_wrong {p : List Ty} (h : ∀ x ∈ p, wrongT x = false) : p.any wrongT = false := by
 cases hw : p.any wrongT with
 | false => rfl
 | true => obtain ⟨x, hx, e⟩ := List.any_eq_true.1 hw; rw [h x hx] at e; cases e
/-- A DESCRIPTOR'S TYPES ARE READ AS THEY ARE. -/
theorem split_desc {t : Ty} {p : List Ty} {d : Tx} (h : descT t p = (d, 0)) : splitT d = (p, t, 0) ∧ rightT t = true ∧ (∀ x ∈ p, wrongT x = false) ∧ d = wholeT t p := by
 unfold descT at h
 split at h
 ·cases h
 ·rename_i h1
  rw [Bool.not_eq_true, Bool.or_eq_false_iff, Bool.not_eq_false'] at h1
  split at h
  ·cases h
  ·rename_i h2
   cases h
   refine ⟨?_, h1.1, any_wrong h1.2, rfl⟩
   unfold splitT
   rw [if_neg (fun h3 => h2 (.inr h3)), sigD_text (any_wrong h1.2) h1.1]
   dsimp only
   rw [if_neg (fun h3 => h2 (.inl h3))]
/-- A TEXT THAT IS READ AS A DESCRIPTOR IS WRITTEN SO. -/
theorem desc_split {t : Ty} {p : List Ty} {d : Tx} (h : splitT d = (p, t, 0)) : descT t p = (d, 0) ∧ rightT t = true ∧ (∀ x ∈ p, wrongT x = false) := by
 unfold splitT at h
 split at h
 ·cases h
 ·rename_i h1
  cases hs : sigD d with
  | none => rw [hs] at h; cases h
  | some q =>
   obtain ⟨p', t'⟩ := q
   rw [hs] at h
   dsimp only at h
   split at h
   ·cases h
   ·rename_i h2
    cases h
    obtain ⟨a, b, e⟩ := sigD_of hs
    refine ⟨?_, b, a⟩
    unfold descT
    rw [if_neg (by rw [b, no_wrong a]; simp), if_neg (by rw [← e]; omega), ← e]
/-- what Split answers is of one of three sorts -/
theorem split_e (d : Tx) : (splitT d).2.2 = 0 ∨ ((splitT d).2.2 ≠ 0 ∧ (splitT d).1 = [] ∧ (splitT d).2.1 = (0, [])) := by
 unfold splitT
 split
 ·exact .inr ⟨by decide, rfl, rfl⟩
 ·cases sigD d with
  | none => exact .inr ⟨by decide, rfl, rfl⟩
  | some q =>
   dsimp only
   split
   ·exact .inr ⟨by decide, rfl, rfl⟩
   ·exact .inl rfl
theorem split_len (d : Tx) : (splitT d).1.length ≤ 8 := by
 unfold splitT
 split
 ·simp
 ·cases sigD d with
  | none => simp
  | some q =>
   dsimp only
   split
   ·simp
   ·dsimp only; omega
end Go.Proofs.Ytgpfohpmgbnimaa.kindp

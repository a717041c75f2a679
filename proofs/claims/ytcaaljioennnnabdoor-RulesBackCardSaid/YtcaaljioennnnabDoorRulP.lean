/-
 Layer 22, of no program: rules, their lines, and which rule a line is of.
-/
import Derived.Test.YtcaaljioennnnabDoorPiece
import Derived.Test.YtcaaljioennnnabDoorGlobP
namespace Go.Proofs.YtcaaljioennnnabDoor.rul
open Go.Lib
open Go.Proofs.YtcaaljioennnnabDoor.piece Go.Proofs.YtcaaljioennnnabDoor.glob
structure Ru where
 nb : Bool
 me : Bool
 cl : List UInt8
 nm : List UInt8
 ds : List UInt8
def rightR (r : Ru) : Bool := rightG r.cl && (if r.me then rightG r.nm && rightG r.ds else r.nm.isEmpty && r.ds.isEmpty)
def wKeep : List UInt8 := [107, 101, 101, 112]
def wKeepname : List UInt8 := [107, 101, 101, 112, 110, 97, 109, 101]
def wClass : List UInt8 := [99, 108, 97, 115, 115]
def wMember : List UInt8 := [109, 101, 109, 98, 101, 114]
def fieldsR (r : Ru) : List (List UInt8) := (if r.nb then wKeepname else wKeep) :: (if r.me then wMember else wClass) :: r.cl :: (if r.me then [r.nm, r.ds] else [])
def lineR (r : Ru) : List UInt8 := join (fieldsR r) [32]
/-- the rule that a line's fields would be of -/
def candR : List (List UInt8) → Option Ru
 | [a, _, c] => some ⟨a == wKeepname, false, c, [], []⟩
 | [a, _, c, n, d] => some ⟨a == wKeepname, true, c, n, d⟩
 | _ => none
def ruleR (x : List UInt8) : Option Ru := match candR (F 32 x) with
 | some r => if (rightR r && lineR r == x) = true then some r else none
 | none => none
theorem no_blank {p : List UInt8} (h : rightG p = true) : (32 : UInt8) ∉ p := by
 intro hm
 simp only [rightG, Bool.and_eq_true, List.all_eq_true, decide_eq_true_eq] at h
 have := (h.1 _ hm).1
 simp at this
theorem fields_no {r : Ru} (h : rightR r = true) : ∀ y ∈ fieldsR r, (32 : UInt8) ∉ y := by
 obtain ⟨nb, me, cl, nm, ds⟩ := r
 simp only [rightR, Bool.and_eq_true] at h
 obtain ⟨h1, h2⟩ := h
 intro y hy
 cases me
 ·simp [fieldsR] at hy
  rcases hy with rfl | rfl | rfl
  ·cases nb <;> simp [wKeep, wKeepname]
  ·simp [wClass]
  ·exact no_blank h1
 ·simp at h2
  simp [fieldsR] at hy
  rcases hy with rfl | rfl | rfl | rfl | rfl
  ·cases nb <;> simp [wKeep, wKeepname]
  ·simp [wMember]
  ·exact no_blank h1
  ·exact no_blank h2.1
  ·exact no_blank h2.2
theorem cand_fields {r : Ru} (h : rightR r = true) : candR (fieldsR r) = some r := by
 obtain ⟨nb, me, cl, nm, ds⟩ := r
 simp only [rightR, Bool.and_eq_true] at h
 obtain ⟨h1, h2⟩ := h
 cases me
 ·simp at h2
  obtain ⟨rfl, rfl⟩ := h2
  cases nb <;> rfl
 ·cases nb <;> rfl
theorem rule_line {r : Ru} (h : rightR r = true) : ruleR (lineR r) = some r := by
 have hf : F 32 (lineR r) = fieldsR r := by
  unfold lineR
  obtain ⟨x, l, e⟩ : ∃ x l, fieldsR r = x :: l := ⟨_, _, rfl⟩
  rw [e]
  exact F_of_join 32 x l (fun y hy => fields_no h y (by rw [e]; exact hy))
 unfold ruleR
 rw [hf, cand_fields h]
 simp [h]
theorem rule_some {x : List UInt8} {r : Ru} (h : ruleR x = some r) : rightR r = true ∧ lineR r = x := by
 unfold ruleR at h
 split at h
 ·split at h
  ·rename_i hc
   cases h
   simp at hc
   exact hc
  ·cases h
 ·cases h
/-- lines, one behind the other, as rules -/
def parseG : Nat → List (List UInt8) → List Ru × Nat × Nat
 | _, [] => ([], 0, 0)
 | i, x :: l => match ruleR x with
  | none => ([], 10, i + 1)
  | some r => if 64 ≤ i then ([], 3, i + 1) else match parseG (i + 1) l with
   | (m, 0, _) => (r :: m, 0, 0)
   | (_, e, k) => ([], e, k)
def printR (l : List Ru) : List UInt8 × Nat := if 64 < l.length then ([], 3) else if l.all rightR then (textL (l.map lineR), 0) else ([], 10)
theorem parseG_lines : ∀ (l : List Ru) (i : Nat), l.all rightR = true → i + l.length ≤ 64 → parseG i (l.map lineR) = (l, 0, 0)
 | [], _, _, _ => rfl
 | r :: l, i, h, hn => by
  simp only [List.all_cons, Bool.and_eq_true] at h
  simp only [List.length_cons] at hn
  simp only [List.map_cons, parseG, rule_line h.1, if_neg (show ¬ 64 ≤ i by omega), parseG_lines l (i + 1) h.2 (by omega)]
theorem parseG_ok : ∀ (x : List (List UInt8)) (i : Nat) (m : List Ru) (k : Nat), parseG i x = (m, 0, k) → m.all rightR = true ∧ m.map lineR = x ∧ (m.length = 0 ∨ i + m.length ≤ 64)
 | [], i, m, k, h => by cases h; exact ⟨rfl, rfl, .inl rfl⟩
 | y :: x, i, m, k, h => by
  simp only [parseG] at h
  split at h
  ·cases h
  ·rename_i r hr
   split at h
   ·cases h
   ·rename_i hi
    split at h
    ·rename_i m' k' hm
     cases h
     obtain ⟨h1, h2, h3⟩ := parseG_ok x (i + 1) m' k' hm
     obtain ⟨h4, h5⟩ := rule_some hr
     refine ⟨by simp [h1, h4], by simp [h2, h5], .inr ?_⟩
     simp only [List.length_cons]
     omega
    ·rename_i m' e' k' hne hm
     simp only [Prod.mk.injEq] at h
     obtain ⟨-, rfl, -⟩ := h
     exact (hne rfl).elim
end Go.Proofs.YtcaaljioennnnabDoor.rul

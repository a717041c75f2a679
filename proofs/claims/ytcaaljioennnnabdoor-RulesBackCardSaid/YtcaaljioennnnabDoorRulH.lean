/-
 Layer 22, of no program: a text's rules, line by line.
-/
import Derived.Test.YtcaaljioennnnabDoorRulQ
namespace Go.Proofs.YtcaaljioennnnabDoor.rul
/-- what has been read, and what the rest tells -/
def contG (rs : List Ru) (p : List Ru × Nat × Nat) : List Ru × Nat × Nat := if p.2.1 = 0 then (rs ++ p.1, 0, 0) else ([], p.2.1, p.2.2)
theorem contG_zero (p : List Ru × Nat × Nat) (h : p.2.1 = 0 → p.2.2 = 0) (h1 : ¬ p.2.1 = 0 → p.1 = []) : contG [] p = p := by
 unfold contG
 obtain ⟨a, b, c⟩ := p
 split
 ·rename_i h0
  dsimp only at h0 h ⊢
  rw [h0, h h0]; rfl
 ·rename_i h0
  dsimp only at h0 h1 ⊢
  rw [h1 h0]
theorem parseG_zero : ∀ (X : List (List UInt8)) (i : Nat), ((parseG i X).2.1 = 0 → (parseG i X).2.2 = 0) ∧ (¬ (parseG i X).2.1 = 0 → (parseG i X).1 = [])
 | [], i => ⟨fun _ => rfl, fun h => absurd rfl h⟩
 | x :: X, i => by
  simp only [parseG]
  split
  ·exact ⟨fun h => (by cases h), fun _ => rfl⟩
  ·split
   ·exact ⟨fun h => (by cases h), fun _ => rfl⟩
   ·split
    ·exact ⟨fun _ => rfl, fun h => absurd rfl h⟩
    ·rename_i e k hne hm
     refine ⟨fun h => ?_, fun _ => rfl⟩
     dsimp only at h
     subst h
     exact (hne rfl).elim
theorem contG_start (X : List (List UInt8)) : contG [] (parseG 0 X) = parseG 0 X := contG_zero _ (parseG_zero X 0).1 (parseG_zero X 0).2
theorem contG_none {rs : List Ru} {k : Nat} {x : List UInt8} {t : List (List UInt8)} (h : ruleR x = none) : contG rs (parseG k (x :: t)) = ([], 10, k + 1) := by
 simp only [parseG, h]; rfl
theorem contG_long {rs : List Ru} {k : Nat} {x : List UInt8} {t : List (List UInt8)} {r : Ru} (h : ruleR x = some r) (hk : 64 ≤ k) : contG rs (parseG k (x :: t)) = ([], 3, k + 1) := by
 simp only [parseG, h, if_pos hk]; rfl
theorem contG_next {rs : List Ru} {k : Nat} {x : List UInt8} {t : List (List UInt8)} {r : Ru} (h : ruleR x = some r) (hk : ¬ 64 ≤ k) : contG rs (parseG k (x :: t)) = contG (rs ++ [r]) (parseG (k + 1) t) := by
 simp only [parseG, h, if_neg hk]
 obtain ⟨h0, h1⟩ := parseG_zero t (k + 1)
 generalize hp : parseG (k + 1) t = p at h0 h1
 obtain ⟨a, b, c⟩ := p
 cases b with
 | zero =>
  simp only [contG, if_true]
  rw [List.append_assoc]; rfl
 | succ b =>
  have e : ¬ (b + 1 = 0) := by omega
  simp only [contG, if_neg e]
theorem contG_end (rs : List Ru) (k : Nat) : contG rs (parseG k []) = (rs, 0, 0) := by simp [parseG, contG]
end Go.Proofs.YtcaaljioennnnabDoor.rul

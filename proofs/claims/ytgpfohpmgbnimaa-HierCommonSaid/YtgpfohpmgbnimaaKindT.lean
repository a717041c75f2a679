/-
 Layer 6: the type that stands first in a text, and what stands behind it: the program's answer.
-/
import Derived.Test.YtgpfohpmgbnimaaKindE
namespace Go.Proofs.Ytgpfohpmgbnimaa.kind
open Go.RowKit
open words kindp word

theorem trim_at {s p : Tx} (h : Lib.hasPrefix s p = true) : Lib.trimPrefix s p = s.drop p.length := by unfold Lib.trimPrefix; rw [if_pos h]
theorem pre_one {c : UInt8} {s : Tx} (h : Lib.hasPrefix s [c] = true) : ∃ r, s = c :: r := by
 unfold Lib.hasPrefix at h
 cases s with
 | nil => simp [List.isPrefixOf] at h
 | cons x r => simp [List.isPrefixOf] at h; exact ⟨r, by rw [h]⟩
theorem pre_two {c d : UInt8} {s : Tx} (h : Lib.hasPrefix s [c, d] = true) : ∃ r, s = c :: d :: r := by
 unfold Lib.hasPrefix at h
 cases s with
 | nil => simp [List.isPrefixOf] at h
 | cons x r =>
  cases r with
  | nil => simp [List.isPrefixOf] at h
  | cons y q => simp [List.isPrefixOf] at h; exact ⟨q, by rw [h.1, h.2]⟩
/-- the kind whose text stands first tells the type -/
theorem type_at {k : Int} {s : Tx} (h1 : 1 ≤ k) (h2 : k ≤ 5) (hp : Lib.hasPrefix s (signL k) = true) :
  typeT s = if hasB k = true then classT k (Lib.trimPrefix s (signL k)) else some ((k, []), Lib.trimPrefix s (signL k)) := by
 rw [trim_at hp]
 have hk : k = 1 ∨ k = 2 ∨ k = 3 ∨ k = 4 ∨ k = 5 := by omega
 rcases hk with rfl | rfl | rfl | rfl | rfl
 ·obtain ⟨r, rfl⟩ := pre_one hp; rfl
 ·obtain ⟨r, rfl⟩ := pre_one hp; rfl
 ·obtain ⟨r, rfl⟩ := pre_one hp; rfl
 ·obtain ⟨r, rfl⟩ := pre_two hp; rfl
 ·obtain ⟨r, rfl⟩ := pre_two hp; rfl
theorem type_miss {s : Tx} (h : ∀ j : Int, 1 ≤ j → j < 6 → Lib.hasPrefix s (signL j) = false) : typeT s = none := by
 cases s with
 | nil => rfl
 | cons c r =>
  have g1 := h 1 (by decide) (by decide); have g2 := h 2 (by decide) (by decide); have g3 := h 3 (by decide) (by decide); have g4 := h 4 (by decide) (by decide); have g5 := h 5 (by decide) (by decide)
  rw [show signL 1 = [86] from rfl] at g1
  rw [show signL 2 = [73] from rfl] at g2
  rw [show signL 3 = [76] from rfl] at g3
  rw [show signL 4 = [91, 73] from rfl] at g4
  rw [show signL 5 = [91, 76] from rfl] at g5
  unfold Lib.hasPrefix at g1 g2 g3 g4 g5
  dsimp only [typeT]
  rw [if_neg (by rintro rfl; simp [List.isPrefixOf] at g1), if_neg (by rintro rfl; simp [List.isPrefixOf] at g2), if_neg (by rintro rfl; simp [List.isPrefixOf] at g3)]
  by_cases h4 : c = 91
  ·subst h4
   rw [if_pos rfl]
   cases r with
   | nil => rfl
   | cons d q =>
    dsimp only
    rw [if_neg (by rintro rfl; simp [List.isPrefixOf] at g4), if_neg (by rintro rfl; simp [List.isPrefixOf] at g5)]
  ·rw [if_neg h4]
theorem bcell {W w1 : World} (hb : Below W.heap.size W w1) : (∀ b o, b < W.heap.size → w1.cell? ⟨b, o, none⟩ = W.cell? ⟨b, o, none⟩) ∧ (∀ b o, b < W.heap.size → w1.frozen? ⟨b, o, none⟩ = W.frozen? ⟨b, o, none⟩) :=
 ⟨fun b o h => hb.cell (p := ⟨b, o, none⟩) h, fun b o h => hb.frozen (p := ⟨b, o, none⟩) h⟩

/-- two cells that are set -/
theorem two_set {w : World} {g : Nat} {a b : Value} {t : TypeId} (h : w.heap[g]? = some (.cells #[a, b] t (0, 0))) (x y : Value) :
  (w.setCell ⟨g, 0, none⟩ x).cell? ⟨g, 0, none⟩ = some x ∧ ((w.setCell ⟨g, 0, none⟩ x).setCell ⟨g, 1, none⟩ y).cell? ⟨g, 1, none⟩ = some y ∧ ((w.setCell ⟨g, 0, none⟩ x).setCell ⟨g, 1, none⟩ y).heap[g]? = some (.cells #[x, y] t (0, 0)) := by
 have h1 := heap_setCell_same w g 0 _ _ x h
 have h2 := heap_setCell_same _ g 1 _ _ y h1
 refine ⟨?_, ?_, h2⟩
 ·rw [cell_of_row _ _ _ _ _ _ h1]; rfl
 ·rw [cell_of_row _ _ _ _ _ _ h2]; rfl

end Go.Proofs.Ytgpfohpmgbnimaa.kind

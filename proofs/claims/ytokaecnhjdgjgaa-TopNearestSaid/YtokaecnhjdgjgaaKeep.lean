/-
 Memory of one's own in which numbers and texts are written over: its shape stays.
-/
import Derived.Test.YtokaecnhjdgjgaaWords
import Derived.Laws.OwnMore
namespace Go.Proofs.Ytokaecnhjdgjgaa.keep
open Go.RowKit
open words

/-- the same, or both numbers, or both texts -/
def Sim (u v : Value) : Prop := u = v ∨ (∃ a b, u = .int .i64 a ∧ v = .int .i64 b) ∨ ∃ a b, u = .string a ∧ v = .string b
theorem Sim.refl (u : Value) : Sim u u := .inl rfl
theorem Sim.trans {u v x : Value} (h : Sim u v) (k : Sim v x) : Sim u x := by
 rcases h with rfl | ⟨a, b, rfl, rfl⟩ | ⟨a, b, rfl, rfl⟩
 ·exact k
 ·rcases k with rfl | ⟨c, d, -, rfl⟩ | ⟨c, d, h, -⟩
  ·exact .inr (.inl ⟨a, b, rfl, rfl⟩)
  ·exact .inr (.inl ⟨a, d, rfl, rfl⟩)
  ·cases h
 ·rcases k with rfl | ⟨c, d, h, -⟩ | ⟨c, d, -, rfl⟩
  ·exact .inr (.inr ⟨a, b, rfl, rfl⟩)
  ·cases h
  ·exact .inr (.inr ⟨a, d, rfl, rfl⟩)
theorem Sim.slice {A : Option Addr} {n c : Nat} {v : Value} (h : Sim (.slice A n c) v) : v = .slice A n c := by
 rcases h with h | ⟨a, b, h, -⟩ | ⟨a, b, h, -⟩
 ·exact h.symm
 ·cases h
 ·cases h
theorem Sim.bool {b : Bool} {v : Value} (h : Sim (.bool b) v) : v = .bool b := by
 rcases h with h | ⟨a, b, h, -⟩ | ⟨a, b, h, -⟩
 ·exact h.symm
 ·cases h
 ·cases h
theorem Sim.int {a : Int} {v : Value} (h : Sim (.int .i64 a) v) : ∃ b, v = .int .i64 b := by
 rcases h with h | ⟨c, b, -, h⟩ | ⟨c, b, h, -⟩
 ·exact ⟨a, h.symm⟩
 ·exact ⟨b, h⟩
 ·cases h
theorem Sim.str {a : ByteArray} {v : Value} (h : Sim (.string a) v) : ∃ b, v = .string b := by
 rcases h with h | ⟨c, b, h, -⟩ | ⟨c, b, -, h⟩
 ·exact ⟨a, h.symm⟩
 ·cases h
 ·exact ⟨b, h⟩
theorem sim_int (a b : Int) : Sim (.int .i64 a) (.int .i64 b) := .inr (.inl ⟨a, b, rfl, rfl⟩)
theorem sim_str (a b : ByteArray) : Sim (.string a) (.string b) := .inr (.inr ⟨a, b, rfl, rfl⟩)
/-- what lies ahead of b is as it was, and what lies behind it has its shape -/
structure Keep (b : Nat) (w w' : World) : Prop where
 below : Below b w w'
 row : ∀ g cs t, b ≤ g → w.heap[g]? = some (.cells cs t (0, 0)) → ∃ cs', w'.heap[g]? = some (.cells cs' t (0, 0)) ∧ ∀ (j : Nat) (u : Value), cs[j]? = some u → ∃ u', cs'[j]? = some u' ∧ Sim u u'
theorem Keep.refl (b : Nat) (w : World) : Keep b w w := ⟨Below.refl _ _, fun _ cs _ _ h => ⟨cs, h, fun _ u hu => ⟨u, hu, Sim.refl u⟩⟩⟩
theorem Keep.alloc {b : Nat} {w w' : World} (h : Keep b w w') (hb : b ≤ w'.heap.size) (o : Obj) : Keep b w (w'.alloc o) :=
 ⟨h.below.alloc hb o, fun g cs t hg hc => by
  obtain ⟨cs', h1, h2⟩ := h.row g cs t hg hc
  exact ⟨cs', (Below.heap_alloc w' o g (blk_lt h1)).trans h1, h2⟩⟩
theorem Keep.set {b : Nat} {w w' : World} (h : Keep b w w') {g j : Nat} (hg : b ≤ g) (v : Value) (hv : ∀ u, w'.cell? ⟨g, j, none⟩ = some u → Sim u v) : Keep b w (w'.setCell ⟨g, j, none⟩ v) :=
 ⟨h.below.setCell (p := ⟨g, j, none⟩) hg v, fun g' cs t hg' hc => by
  obtain ⟨cs', h1, h2⟩ := h.row g' cs t hg' hc
  by_cases he : g' = g
  ·subst he
   refine ⟨_, heap_setCell_same w' g' j cs' t v h1, fun i u hu => ?_⟩
   obtain ⟨u', k1, k2⟩ := h2 i u hu
   by_cases hi : i = j
   ·subst hi
    refine ⟨v, ?_, k2.trans (hv u' ?_)⟩
    ·have := (Array.getElem?_eq_some_iff.1 k1).1
     simp [this]
    ·rw [cell_of_row _ _ i _ _ _ h1]; exact k1
   ·exact ⟨u', by rw [Array.getElem?_setIfInBounds_ne (fun e => hi e.symm)]; exact k1, k2⟩
  ·exact ⟨cs', (heap_setCell_other w' ⟨g, j, none⟩ g' v he).trans h1, h2⟩⟩
theorem Keep.drewN {b : Nat} {w w' : World} (h : Keep b w w') (n : Nat) : Keep b w (w'.drewN n) := ⟨over h.below, h.row⟩
theorem Keep.cell {b : Nat} {w w' : World} (h : Keep b w w') {g t j : Nat} {cs : Array Value} {u : Value} (hg : b ≤ g) (hc : w.heap[g]? = some (.cells cs t (0, 0))) (hj : cs[j]? = some u) : ∃ u', w'.cell? ⟨g, j, none⟩ = some u' ∧ Sim u u' ∧ w'.frozen? ⟨g, j, none⟩ = false := by
 obtain ⟨cs', h1, h2⟩ := h.row g cs t hg hc
 obtain ⟨u', k1, k2⟩ := h2 j u hj
 exact ⟨u', (cell_of_row _ _ j _ _ _ h1).trans k1, k2, frozen_of_row _ _ j _ _ h1⟩
theorem Keep.own {b : Nat} {w w' : World} (h : Keep b w w') {e size : Nat} {g n cap : Nat} {xs : List Value} (ho : w.ownsRow b e size (.slice (some ⟨g, 0, none⟩) n cap) n xs) {j : Nat} {u : Value} (hj : xs[j]? = some u) : ∃ u', w'.cell? ⟨g, j, none⟩ = some u' ∧ Sim u u' ∧ w'.frozen? ⟨g, j, none⟩ = false := by
 rcases ho.2 with ⟨h', _⟩ | ⟨g', cap', cur, h', hbg, hg, hnc, _, hcs, htake⟩
 ·simp at h'
 ·simp only [Value.slice.injEq, Option.some.injEq, Addr.mk.injEq, and_true, true_and] at h'
  obtain ⟨rfl, rfl⟩ := h'
  refine h.cell hbg hg (u := u) ?_
  rw [← htake, List.getElem?_take] at hj
  split at hj
  ·rw [← Array.getElem?_toList]; exact hj
  ·cases hj
theorem own_some {w : World} {b : Nat} {e size : Nat} {A : Option Addr} {n c : Nat} {xs : List Value} (h : w.ownsRow b e size (.slice A n c) n xs) (hn : 0 < n) : ∃ g, A = some ⟨g, 0, none⟩ ∧ b ≤ g ∧ g < w.heap.size := by
 rcases h.2 with ⟨h', h0⟩ | ⟨g', cap', cur, h', hbg, hg, _⟩
 ·omega
 ·simp only [Value.slice.injEq] at h'
  exact ⟨g', h'.1, hbg, blk_lt hg⟩
end Go.Proofs.Ytokaecnhjdgjgaa.keep

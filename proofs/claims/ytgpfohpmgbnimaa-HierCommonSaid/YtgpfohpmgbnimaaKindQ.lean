/-
 Layer 6, of no program: types and descriptors with other classes' names, which classes a descriptor names, and the way back.
-/
import Derived.Test.YtgpfohpmgbnimaaKindP
namespace Go.Proofs.Ytgpfohpmgbnimaa.kindp

abbrev Pr := Tx × Tx
/-- what a class's name becomes -/
def lookT (l : List Pr) (c : Tx) : Option Tx := (l.find? fun q => decide (q.1 = c)).map (·.2)
def renT (l : List Pr) (t : Ty) : Ty := if hasB t.1 = true then (match lookT l t.2 with | some n => (t.1, n) | none => t) else t
def renD (d : Tx) (l : List Pr) : Tx := if (splitT d).2.2 = 0 then (descT (renT l (splitT d).2.1) ((splitT d).1.map (renT l))).1 else []
def classesT (d : Tx) : List Tx := (((splitT d).1 ++ [(splitT d).2.1]).filter fun t => hasB t.1).map (·.2)
/-- names that are one to one -/
def One (l : List Pr) : Prop := l.Pairwise fun a b => a.1 ≠ b.1 ∧ a.2 ≠ b.2
def backL (l : List Pr) : List Pr := l.map fun q => (q.2, q.1)

theorem look_mem {l : List Pr} {c n : Tx} (h : lookT l c = some n) : (c, n) ∈ l := by
 unfold lookT at h
 rw [Option.map_eq_some_iff] at h
 obtain ⟨q, h1, h2⟩ := h
 have hm := List.mem_of_find?_eq_some h1
 have hp : q.1 = c := by simpa using List.find?_some h1
 rw [← hp, ← h2]
 exact hm
theorem look_of {l : List Pr} {c : Tx} (h : ∃ q ∈ l, q.1 = c) : ∃ n, lookT l c = some n := by
 obtain ⟨q, hq, e⟩ := h
 unfold lookT
 cases hf : l.find? fun q => decide (q.1 = c) with
 | some r => exact ⟨_, rfl⟩
 | none => exact absurd (decide_eq_true e) (by have := List.find?_eq_none.1 hf q hq; simpa using this)
theorem one_new : ∀ {l : List Pr}, One l → ∀ {a b n : Tx}, (a, n) ∈ l → (b, n) ∈ l → a = b
 | [], _, _, _, _, h, _ => by cases h
 | q :: l, h, a, b, n, ha, hb => by
  unfold One at h
  rw [List.pairwise_cons] at h
  rcases List.mem_cons.1 ha with ea | ha
  ·rcases List.mem_cons.1 hb with eb | hb
   ·rw [ea.symm] at eb; exact (Prod.mk.inj eb).1.symm
   ·exact absurd (by rw [← ea]) (h.1 _ hb).2
  ·rcases List.mem_cons.1 hb with eb | hb
   ·exact absurd (by rw [← eb]) (h.1 _ ha).2
   ·exact one_new h.2 ha hb
theorem look_back {l : List Pr} (h : One l) {c n : Tx} (hm : (c, n) ∈ l) : lookT (backL l) n = some c := by
 obtain ⟨m, hk⟩ := look_of (l := backL l) (c := n) ⟨(n, c), List.mem_map.2 ⟨_, hm, rfl⟩, rfl⟩
 have := look_mem hk
 obtain ⟨q, hq, e⟩ := List.mem_map.1 this
 obtain ⟨q1, q2⟩ := q
 cases e
 rw [hk, one_new h hm hq]
theorem ren_back {l : List Pr} (h : One l) {t : Ty} (hc : hasB t.1 = true → ∃ q ∈ l, q.1 = t.2) : renT (backL l) (renT l t) = t := by
 unfold renT
 by_cases hb : hasB t.1 = true
 ·obtain ⟨n, hn⟩ := look_of (hc hb)
  rw [if_pos hb, hn]
  dsimp only
  rw [if_pos hb, look_back h (look_mem hn)]
 ·rw [if_neg hb, if_neg hb]
theorem desc_some {t : Ty} {p : List Ty} (h : (descT t p).1 ≠ []) : descT t p = ((descT t p).1, 0) := by
 unfold descT at h ⊢
 split
 ·rename_i h1; rw [if_pos h1] at h; exact absurd rfl h
 ·rename_i h1
  rw [if_neg h1] at h
  split
  ·rename_i h2; rw [if_pos h2] at h; exact absurd rfl h
  ·rfl
/-- RENAMED, AND RENAMED BACK, A DESCRIPTOR IS AS IT WAS. -/
theorem ways {l : List Pr} {d : Tx} (h : One l) (hc : ∀ c ∈ classesT d, ∃ q ∈ l, q.1 = c) (he : (splitT d).2.2 = 0) (hn : renD d l ≠ []) : renD (renD d l) (backL l) = d := by
 have hR : renD d l = (descT (renT l (splitT d).2.1) ((splitT d).1.map (renT l))).1 := by rw [renD, if_pos he]
 have hD : descT (renT l (splitT d).2.1) ((splitT d).1.map (renT l)) = (renD d l, 0) := by rw [hR]; exact desc_some (hR ▸ hn)
 obtain ⟨hs, -⟩ := split_desc hD
 have hc2 : ∀ t ∈ (splitT d).1 ++ [(splitT d).2.1], hasB t.1 = true → ∃ q ∈ l, q.1 = t.2 := fun t ht hb =>
  hc t.2 (List.mem_map.2 ⟨t, List.mem_filter.2 ⟨ht, hb⟩, rfl⟩)
 rw [renD, hs, if_pos rfl]
 dsimp only
 rw [ren_back h (hc2 _ (List.mem_append_right _ (List.mem_singleton.2 rfl))), List.map_map]
 have e : ((splitT d).1.map (renT (backL l) ∘ renT l)) = (splitT d).1 := by
  conv => rhs; rw [← List.map_id (splitT d).1]
  apply List.map_congr_left
  intro t ht
  exact ren_back h (hc2 t (List.mem_append_left _ ht))
 rw [e, (desc_split (d := d) (t := (splitT d).2.1) (p := (splitT d).1) (Prod.ext rfl (Prod.ext rfl he))).1]
end Go.Proofs.Ytgpfohpmgbnimaa.kindp

/-
  Layer 5, the document's answer: a rising list with a string more.
-/
import Derived.Test.YtdenpefihplnoaaPool5R
namespace Go.Proofs.Ytdenpefihplnoaa.pool
open Go.RowKit Go.Maps
open Go.Proofs.Ytdenpefihplnoaa.num Go.Proofs.Ytdenpefihplnoaa.words Go.Proofs.Ytdenpefihplnoaa.poolp

/-- a rising list with a string more -/
def withL (p : List Str) (s : Str) : List Str := (nub (p ++ [s])).mergeSort leB
theorem with_up (p : List Str) (s : Str) : Up (withL p s) := sorted_up (nub_nodup _)
theorem mem_with {p : List Str} {s y : Str} : y ∈ withL p s ↔ y ∈ p ∨ y = s := by
  unfold withL
  rw [(List.mergeSort_perm (nub (p ++ [s])) leB).mem_iff, mem_nub, List.mem_append, List.mem_singleton]
/-- what the loop holds -/
def Wth (p : List Str) (s : Str) (k : Nat) (d : Bool) (out : List Str) : Prop :=
  if d = true then Up out ∧ (∀ y, y ∈ out ↔ y ∈ p.take k ∨ y = s) ∧ out.length = k + 1 ∧ ∃ z, z ∈ p.take k ∧ s < z
  else out = p.take k ∧ ∀ y ∈ p.take k, y < s
theorem wth_zero (p : List Str) (s : Str) : Wth p s 0 false [] := by
  unfold Wth; rw [if_neg (by simp)]; exact ⟨by simp, by simp⟩
theorem wth_len {p : List Str} {s : Str} {k : Nat} {d : Bool} {out : List Str} (h : Wth p s k d out) : out.length ≤ k + 1 := by
  unfold Wth at h
  cases d with
  | true => rw [if_pos rfl] at h; omega
  | false => rw [if_neg (by simp)] at h; rw [h.1, List.length_take]; omega
theorem take_lt {p : List Str} (hu : Up p) {k : Nat} {x : Str} (hx : p[k]? = some x) : ∀ y ∈ p.take k, y < x := by
  intro y hy
  obtain ⟨i, hi⟩ := List.getElem?_of_mem hy
  rw [List.getElem?_take] at hi
  split at hi
  · exact (up_at hu hi hx).1 (by assumption)
  · cases hi
theorem up_snoc {l : List Str} (hl : Up l) {x : Str} (h : ∀ y ∈ l, y < x) : Up (l ++ [x]) := by
  unfold Up at *
  rw [List.pairwise_append]
  exact ⟨hl, List.pairwise_singleton _ _, fun a ha b hb => by rw [List.mem_singleton.1 hb]; exact h a ha⟩
theorem up_take {p : List Str} (hu : Up p) (k : Nat) : Up (p.take k) := List.Pairwise.sublist (List.take_sublist k p) hu
theorem take_snoc {p : List Str} {k : Nat} {x : Str} (hx : p[k]? = some x) : p.take (k + 1) = p.take k ++ [x] := by rw [List.take_add_one, hx]; rfl
/-- a round behind the string -/
theorem wth_done {p : List Str} {s x : Str} {k : Nat} {out : List Str} (hu : Up p) (hx : p[k]? = some x) (h : Wth p s k true out) : Wth p s (k + 1) true (out ++ [x]) := by
  unfold Wth at *
  rw [if_pos rfl] at *
  obtain ⟨h1, h2, h3, z, hz, hsz⟩ := h
  have hlt := take_lt hu hx
  refine ⟨up_snoc h1 fun y hy => ?_, fun y => ?_, by rw [List.length_append, h3]; rfl, z, ?_, hsz⟩
  · rcases (h2 y).1 hy with h | h
    · exact hlt y h
    · rw [h]; exact List.lt_trans hsz (hlt z hz)
  · rw [List.mem_append, List.mem_singleton, take_snoc hx, List.mem_append, List.mem_singleton, h2]
    constructor
    · rintro ((h | h) | h)
      · exact .inl (.inl h)
      · exact .inr h
      · exact .inl (.inr h)
    · rintro ((h | h) | h)
      · exact .inl (.inl h)
      · exact .inr h
      · exact .inl (.inr h)
  · rw [take_snoc hx]; exact List.mem_append_left _ hz
/-- the round in which the string is laid -/
theorem wth_laid {p : List Str} {s x : Str} {k : Nat} {out : List Str} (hu : Up p) (hx : p[k]? = some x) (hs : s < x) (h : Wth p s k false out) : Wth p s (k + 1) true (out ++ [s] ++ [x]) := by
  unfold Wth at *
  rw [if_neg (by simp)] at h
  rw [if_pos rfl]
  obtain ⟨rfl, h2⟩ := h
  have hlt := take_lt hu hx
  have hk : k < p.length := by
    rcases Nat.lt_or_ge k p.length with h | h
    · exact h
    · rw [List.getElem?_eq_none h] at hx; cases hx
  refine ⟨up_snoc (up_snoc (up_take hu k) h2) fun y hy => ?_, fun y => ?_, by rw [List.length_append, List.length_append, List.length_take]; simp; omega, x, ?_, hs⟩
  · rcases List.mem_append.1 hy with h | h
    · exact hlt y h
    · rw [List.mem_singleton.1 h]; exact hs
  · rw [take_snoc hx, List.mem_append, List.mem_append, List.mem_append, List.mem_singleton, List.mem_singleton]
    constructor
    · rintro ((h | h) | h)
      · exact .inl (.inl h)
      · exact .inr h
      · exact .inl (.inr h)
    · rintro ((h | h) | h)
      · exact .inl (.inl h)
      · exact .inr h
      · exact .inl (.inr h)
  · rw [take_snoc hx]; simp
/-- a round ahead of it -/
theorem wth_next {p : List Str} {s x : Str} {k : Nat} {out : List Str} (hx : p[k]? = some x) (hs : x < s) (h : Wth p s k false out) : Wth p s (k + 1) false (out ++ [x]) := by
  unfold Wth at *
  rw [if_neg (by simp)] at *
  obtain ⟨rfl, h2⟩ := h
  refine ⟨(take_snoc hx).symm, fun y hy => ?_⟩
  rw [take_snoc hx] at hy
  rcases List.mem_append.1 hy with h | h
  · exact h2 y h
  · rw [List.mem_singleton.1 h]; exact hs
theorem wth_end {p : List Str} {s : Str} {out : List Str} (h : Wth p s p.length true out) : out = withL p s := by
  unfold Wth at h
  rw [if_pos rfl, List.take_length] at h
  exact up_ext h.1 (with_up p s) fun y => by rw [h.2.1, mem_with]
theorem wth_last {p : List Str} (hu : Up p) {s : Str} {out : List Str} (h : Wth p s p.length false out) : out ++ [s] = withL p s := by
  unfold Wth at h
  rw [if_neg (by simp), List.take_length] at h
  obtain ⟨rfl, h2⟩ := h
  exact up_ext (up_snoc hu h2) (with_up _ s) fun y => by rw [mem_with, List.mem_append, List.mem_singleton]
theorem with_had {p : List Str} (hu : Up p) {s : Str} (h : s ∈ p) : withL p s = p :=
  up_ext (with_up p s) hu fun y => by rw [mem_with]; exact ⟨fun h2 => h2.elim id fun e => e ▸ h, .inl⟩

/-- a list, anywhere -/
def At (l : List Str) (w : World) (e : Ending) (w' : World) : Prop := (∃ A c, e = .returned (.slice A l.length c) ∧ l.length ≤ c ∧ Rd w' A (SL l)) ∧ Below w.heap.size w w'

end Go.Proofs.Ytdenpefihplnoaa.pool

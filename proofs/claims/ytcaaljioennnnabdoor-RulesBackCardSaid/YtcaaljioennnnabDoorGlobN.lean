/-
 Layer 21, of no program: where a place leads without a byte, and one round over the places that are reached.
-/
import Derived.Test.YtcaaljioennnnabDoorGlobL
namespace Go.Proofs.YtcaaljioennnnabDoor.glob
/-- what a place leads to without a byte -/
def Lands (p : List UInt8) (a : Nat) (R R' : List Nat) (b : Bool) : Prop :=
 (b = false ∧ star p a = false ∧ R' = R ++ [a]) ∨ (b = true ∧ ∃ e, run p a e ∧ star p (e + 1) = false ∧ R' = R ++ [e + 1, e])
theorem lands_start {p : List UInt8} {R' : List Nat} {b : Bool} (h : Lands p 0 [] R' b) : Form p R' ∧ 0 < R'.length ∧ ∀ f s, anyF f p s R' = matF f p s := by
 rcases h with ⟨-, h1, rfl⟩ | ⟨-, e, h1, h2, rfl⟩
 ·refine ⟨⟨by simp, by simp, .inl (by simpa using h1)⟩, by simp, fun f s => by simp [anyF]⟩
 ·have he := h1.2 e h1.1 (Nat.le_refl _)
  refine ⟨⟨by simp, ?_, .inr ⟨[], e, rfl, by simp, he, h2⟩⟩, by simp, fun f s => ?_⟩
  ·intro k hk
   have := star_lt he
   simp at hk
   omega
  ·rw [List.nil_append, anyF_pair s he, ← run_mat f s e e (by omega) h1, List.drop_zero]
theorem stepL_len (f p x ks) : (stepL f p x ks).length ≤ ks.length := by
 unfold stepL; rw [List.length_map]; exact List.length_filter_le _ _
def Done (f : UInt8 → UInt8 → Bool) (p : List UInt8) (x : UInt8) (R R1 : List Nat) : Prop := Form p R1 ∧ ∀ t, anyF f p (x :: t) R = anyF f p t R1
/-- the first j places are gone through -/
def Inner (f : UInt8 → UInt8 → Bool) (p : List UInt8) (x : UInt8) (R : List Nat) (j : Nat) (R1 : List Nat) : Prop :=
 ((∀ k ∈ R.take j, star p k = false) ∧ R1 = stepL f p x (R.take j) ∧ ∀ r ∈ R1, star p r = false) ∨ (j = R.length ∧ Done f p x R R1)
theorem inner_zero (f p x R) : Inner f p x R 0 [] := .inl ⟨by simp, by simp [stepL], by simp⟩
theorem inner_end {f p x R R1} (h : Form p R) (hi : Inner f p x R R.length R1) : Done f p x R R1 := by
 rcases hi with ⟨h1, h2, h3⟩ | ⟨-, h1⟩
 ·rw [List.take_length] at h1 h2
  subst h2
  exact round_none h h1 x h3
 ·exact h1
theorem inner_in {f p x R j R1} (hi : Inner f p x R j R1) (hj : j < R.length) : (∀ k ∈ R.take j, star p k = false) ∧ R1 = stepL f p x (R.take j) ∧ (∀ r ∈ R1, star p r = false) ∧ R1.length ≤ j := by
 rcases hi with ⟨h1, h2, h3⟩ | ⟨h1, -⟩
 ·refine ⟨h1, h2, h3, ?_⟩
  rw [h2]
  refine Nat.le_trans (stepL_len _ _ _ _) ?_
  rw [List.length_take]; omega
 ·omega
theorem take_snocN {R : List Nat} {j k : Nat} (h : R[j]? = some k) : R.take (j + 1) = R.take j ++ [k] := by rw [List.take_add_one, h]; rfl
theorem inner_skip {f : UInt8 → UInt8 → Bool} {p : List UInt8} {x R j R1 k} (hi : Inner f p x R j R1) (hj : R[j]? = some k) (hk : star p k = false) (hn : stepL f p x [k] = []) : Inner f p x R (j + 1) R1 := by
 obtain ⟨h1, h2, h3, -⟩ := inner_in hi (List.getElem?_eq_some_iff.1 hj).1
 refine .inl ⟨?_, ?_, h3⟩
 ·rw [take_snocN hj]
  intro q hq
  rcases List.mem_append.1 hq with hq | hq
  ·exact h1 q hq
  ·rw [List.mem_singleton.1 hq]; exact hk
 ·rw [take_snocN hj, stepL_app, hn, List.append_nil]; exact h2
theorem inner_land {f : UInt8 → UInt8 → Bool} {p : List UInt8} {x R j R1 k} (hi : Inner f p x R j R1) (hj : R[j]? = some k) (hk : star p k = false) (hn : stepL f p x [k] = [k + 1]) (hs : star p (k + 1) = false) : Inner f p x R (j + 1) (R1 ++ [k + 1]) := by
 obtain ⟨h1, h2, h3, -⟩ := inner_in hi (List.getElem?_eq_some_iff.1 hj).1
 refine .inl ⟨?_, ?_, ?_⟩
 ·rw [take_snocN hj]
  intro q hq
  rcases List.mem_append.1 hq with hq | hq
  ·exact h1 q hq
  ·rw [List.mem_singleton.1 hq]; exact hk
 ·rw [take_snocN hj, stepL_app, hn, ← h2]
 ·intro q hq
  rcases List.mem_append.1 hq with hq | hq
  ·exact h3 q hq
  ·rw [List.mem_singleton.1 hq]; exact hs
theorem cut_at {R : List Nat} {j k : Nat} (h : R[j]? = some k) : R = R.take j ++ k :: R.drop (j + 1) := by
 obtain ⟨hl, rfl⟩ := List.getElem?_eq_some_iff.1 h
 rw [← List.drop_eq_getElem_cons hl, List.take_append_drop]
theorem inner_stays {f : UInt8 → UInt8 → Bool} {p : List UInt8} {x R j R1 k e} (hf : Form p R) (hi : Inner f p x R j R1) (hj : R[j]? = some k) (hk : star p k = false) (hkl : k < p.length) (hfk : f p[k] x = true)
  (hr : run p (k + 1) e) (he1 : star p (e + 1) = false) : Done f p x R (R1 ++ [e + 1, e]) := by
 obtain ⟨h1, h2, h3, -⟩ := inner_in hi (List.getElem?_eq_some_iff.1 hj).1
 have hc := cut_at hj
 have hf' := hf
 rw [hc] at hf'
 subst h2
 have := round_stays hf' h1 hk x h3 hkl hfk hr he1
 rw [← hc] at this
 exact this
theorem inner_star {f : UInt8 → UInt8 → Bool} {p : List UInt8} {x R j R1 e} (hf : Form p R) (hi : Inner f p x R j R1) (hj : R[j]? = some e) (he : star p e = true) : Inner f p x R (j + 1) (R1 ++ [e + 1, e]) := by
 obtain ⟨h1, h2, h3, -⟩ := inner_in hi (List.getElem?_eq_some_iff.1 hj).1
 rcases hf.last with h4 | ⟨pre, e', h4, h5, h6, h7⟩
 ·rw [h4 e (List.mem_of_getElem? hj)] at he; cases he
 ·have e1 : R = (pre ++ [e' + 1]) ++ [e'] := by rw [h4]; simp
  have hn : ∀ k ∈ pre ++ [e' + 1], star p k = false := by
   intro k hk
   rcases List.mem_append.1 hk with hk | hk
   ·exact h5 k hk
   ·rw [List.mem_singleton.1 hk]; exact h7
  have hlt := (List.getElem?_eq_some_iff.1 hj).1
  have hjl : j = (pre ++ [e' + 1]).length := by
   rcases Nat.lt_or_ge j (pre ++ [e' + 1]).length with h8 | h8
   ·rw [e1, List.getElem?_append_left h8] at hj
    rw [hn e (List.mem_of_getElem? hj)] at he; cases he
   ·rw [e1] at hlt
    simp at hlt h8 ⊢
    omega
  have hee : e = e' := by
   rw [e1, hjl, List.getElem?_append_right (Nat.le_refl _), Nat.sub_self] at hj
   simpa using hj.symm
  subst hee
  have ht : R.take j = pre ++ [e + 1] := by rw [e1, hjl, List.take_left' rfl]
  rw [ht] at h2
  subst h2
  refine .inr ⟨by rw [e1, hjl]; simp, ?_⟩
  rw [e1] at hf ⊢
  exact round_star hf hn he h7 (by simp) x h3
/-- a round of the text -/
theorem done_next {f : UInt8 → UInt8 → Bool} {p s : List UInt8} {x : UInt8} {R R1 : List Nat} {i : Nat} (h : matF f p s = anyF f p (s.drop i) R) (hx : s[i]? = some x) (hd : Done f p x R R1) : matF f p s = anyF f p (s.drop (i + 1)) R1 := by
 obtain ⟨hl, rfl⟩ := List.getElem?_eq_some_iff.1 hx
 rw [h, List.drop_eq_getElem_cons hl]
 exact hd.2 _
end Go.Proofs.YtcaaljioennnnabDoor.glob

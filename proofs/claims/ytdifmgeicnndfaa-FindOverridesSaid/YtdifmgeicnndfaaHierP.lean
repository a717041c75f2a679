/- HierP -/
import Derived.Test.YtdifmgeicnndfaaHier
namespace Go.Proofs.Ytdifmgeicnndfaa.prg
open Go.RowKit
open words kindp opp op kind word
set_option linter.all false
def abv (c : ClM) : List Tx := c.su :: c.is
def hasC (cs : List ClM) (s : Tx) : Bool := (findC cs s).isSome
def abvN (cs : List ClM) (s : Tx) : List Tx := match findC cs s with
 | none => []
 | some c => abv c
def take1 (cs : List ClM) (st : List Tx × List (List Tx)) (s : Tx) : List Tx × List (List Tx) :=
 if (st.1.contains s || !hasC cs s) = true then st else (st.1 ++ [s], st.2 ++ [abvN cs s])
def takeL (cs : List ClM) (st : List Tx × List (List Tx)) (l : List Tx) : List Tx × List (List Tx) := l.foldl (take1 cs) st
def upS (cs : List ClM) : Nat → List Tx → List (List Tx) → List Tx
 | 0, met, _ => met
 | _ + 1, met, [] => met
 | f + 1, met, l :: rest => upS cs f (takeL cs (met, rest) l).1 (takeL cs (met, rest) l).2
def upL (cs : List ClM) (names : List Tx) : List Tx := upS cs (cs.length + 1) [] [names]
inductive Reach (cs : List ClM) (names : List Tx) : Tx → Prop where
 | base {x : Tx} (h : x ∈ names) (k : hasC cs x = true) : Reach cs names x
 | step {x y : Tx} (h : Reach cs names y) (m : x ∈ abvN cs y) (k : hasC cs x = true) : Reach cs names x
theorem take1_no {cs : List ClM} {st : List Tx × List (List Tx)} {s : Tx} (h : (st.1.contains s || !hasC cs s) = true) : take1 cs st s = st := by unfold take1; rw [if_pos h]
theorem take1_yes {cs : List ClM} {st : List Tx × List (List Tx)} {s : Tx} (h : (st.1.contains s || !hasC cs s) = false) : take1 cs st s = (st.1 ++ [s], st.2 ++ [abvN cs s]) := by
 unfold take1; rw [if_neg (by rw [h]; simp)]
theorem takeL_nil (cs : List ClM) (st : List Tx × List (List Tx)) : takeL cs st [] = st := rfl
theorem takeL_cons (cs : List ClM) (st : List Tx × List (List Tx)) (s : Tx) (l : List Tx) : takeL cs st (s :: l) = takeL cs (take1 cs st s) l := rfl
theorem takeL_snoc (cs : List ClM) (st : List Tx × List (List Tx)) (l : List Tx) (s : Tx) : takeL cs st (l ++ [s]) = take1 cs (takeL cs st l) s := by unfold takeL; rw [List.foldl_append]; rfl
structure UpI (cs : List ClM) (names : List Tx) (met : List Tx) (opn : List (List Tx)) : Prop where
 nd : met.Nodup
 has : ∀ x ∈ met, hasC cs x = true
 from_ : ∀ x ∈ met, Reach cs names x
 opens : ∀ l ∈ opn, ∀ y ∈ l, hasC cs y = true → Reach cs names y
theorem UpI.len {cs : List ClM} {names met : List Tx} {opn : List (List Tx)} (h : UpI cs names met opn) : met.length ≤ cs.length := by
 have := len_sub (m := cs.map (·.nm)) h.nd fun o ho => by
  obtain ⟨c, hc⟩ := Option.isSome_iff_exists.1 (h.has o ho)
  obtain ⟨e, hm⟩ := findC_nm hc
  exact List.mem_map.2 ⟨c, hm, e⟩
 simpa using this
def Cl (cs : List ClM) (names : List Tx) (met : List Tx) (opn : List (List Tx)) (hand : List Tx) : Prop :=
 (∀ x ∈ names, hasC cs x = true → x ∈ met ∨ x ∈ hand ∨ ∃ l ∈ opn, x ∈ l) ∧ ∀ x ∈ met, ∀ y ∈ abvN cs x, hasC cs y = true → y ∈ met ∨ y ∈ hand ∨ ∃ l ∈ opn, y ∈ l
theorem UpI.take1 {cs : List ClM} {names met : List Tx} {opn : List (List Tx)} (h : UpI cs names met opn) {s : Tx} (hs : hasC cs s = true → Reach cs names s) : UpI cs names (take1 cs (met, opn) s).1 (take1 cs (met, opn) s).2 ∧ (take1 cs (met, opn) s).2.length + met.length = (take1 cs (met, opn) s).1.length + opn.length := by
 cases hc : (met.contains s || !hasC cs s) with
 | true => rw [take1_no (st := (met, opn)) hc]; exact ⟨h, by dsimp only; omega⟩
 | false =>
  rw [take1_yes (st := (met, opn)) hc]
  simp only [Bool.or_eq_false_iff, Bool.not_eq_false'] at hc
  have hr := hs hc.2
  refine ⟨⟨?_, ?_, ?_, ?_⟩, by simp only [List.length_append, List.length_cons, List.length_nil]; omega⟩
  ·dsimp only
   rw [List.nodup_append]
   exact ⟨h.nd, by simp, fun a ha b hb e => by simp at hb; subst hb; subst e; rw [List.contains_iff_mem.2 ha] at hc; cases hc.1⟩
  ·intro x hx
   rcases List.mem_append.1 hx with h1 | h1
   ·exact h.has x h1
   ·simp at h1; subst h1; exact hc.2
  ·intro x hx
   rcases List.mem_append.1 hx with h1 | h1
   ·exact h.from_ x h1
   ·simp at h1; subst h1; exact hr
  ·intro l hl y hy hy2
   rcases List.mem_append.1 hl with h1 | h1
   ·exact h.opens l h1 y hy hy2
   ·simp at h1; subst h1; exact .step hr hy hy2
theorem Cl.take1 {cs : List ClM} {names met : List Tx} {opn : List (List Tx)} {hand : List Tx} {s : Tx} (h : Cl cs names met opn (s :: hand)) : Cl cs names (take1 cs (met, opn) s).1 (take1 cs (met, opn) s).2 hand := by
 cases hc : (met.contains s || !hasC cs s) with
 | true =>
  rw [take1_no (st := (met, opn)) hc]
  have key : ∀ x, hasC cs x = true → (x ∈ met ∨ x ∈ s :: hand ∨ ∃ l ∈ opn, x ∈ l) → x ∈ met ∨ x ∈ hand ∨ ∃ l ∈ opn, x ∈ l := fun x hx h1 => by
   rcases h1 with h1 | h1 | h1
   ·exact .inl h1
   ·rcases List.mem_cons.1 h1 with rfl | h1
    ·rw [hx] at hc
     exact .inl (List.contains_iff_mem.1 (by simpa using hc))
    ·exact .inr (.inl h1)
   ·exact .inr (.inr h1)
  exact ⟨fun x hx hx2 => key x hx2 (h.1 x hx hx2), fun x hx y hy hy2 => key y hy2 (h.2 x hx y hy hy2)⟩
 | false =>
  rw [take1_yes (st := (met, opn)) hc]
  have key : ∀ x, (x ∈ met ∨ x ∈ s :: hand ∨ ∃ l ∈ opn, x ∈ l) → x ∈ met ++ [s] ∨ x ∈ hand ∨ ∃ l ∈ opn ++ [abvN cs s], x ∈ l := fun x h1 => by
   rcases h1 with h1 | h1 | ⟨l, hl, hx⟩
   ·exact .inl (List.mem_append_left _ h1)
   ·rcases List.mem_cons.1 h1 with rfl | h1
    ·exact .inl (List.mem_append_right _ (by simp))
    ·exact .inr (.inl h1)
   ·exact .inr (.inr ⟨l, List.mem_append_left _ hl, hx⟩)
  refine ⟨fun x hx hx2 => key x (h.1 x hx hx2), fun x hx y hy hy2 => ?_⟩
  rcases List.mem_append.1 hx with h1 | h1
  ·exact key y (h.2 x h1 y hy hy2)
  ·simp at h1; subst h1
   exact .inr (.inr ⟨_, List.mem_append_right _ (by simp), hy⟩)
theorem takeL_all {cs : List ClM} {names : List Tx} : ∀ (l : List Tx) {met : List Tx} {opn : List (List Tx)}, UpI cs names met opn → Cl cs names met opn l → (∀ y ∈ l, hasC cs y = true → Reach cs names y) →
  UpI cs names (takeL cs (met, opn) l).1 (takeL cs (met, opn) l).2 ∧ Cl cs names (takeL cs (met, opn) l).1 (takeL cs (met, opn) l).2 [] ∧ (takeL cs (met, opn) l).2.length + met.length = (takeL cs (met, opn) l).1.length + opn.length
 | [], met, opn, h, hc, _ => ⟨h, hc, by rw [takeL_nil]; dsimp only; omega⟩
 | s :: l, met, opn, h, hc, hr => by
  rw [takeL_cons]
  obtain ⟨h1, e1⟩ := h.take1 (s := s) (hr s (by simp))
  obtain ⟨h2, h3, e2⟩ := takeL_all l (met := (take1 cs (met, opn) s).1) (opn := (take1 cs (met, opn) s).2) h1 hc.take1 fun y hy => hr y (by simp [hy])
  exact ⟨h2, h3, by have e2' : (takeL cs (take1 cs (met, opn) s) l).2.length + (take1 cs (met, opn) s).1.length = (takeL cs (take1 cs (met, opn) s) l).1.length + (take1 cs (met, opn) s).2.length := e2; omega⟩
theorem upS_all {cs : List ClM} {names : List Tx} : ∀ (f : Nat) {met : List Tx} {opn : List (List Tx)}, UpI cs names met opn → Cl cs names met opn [] → opn.length + cs.length ≤ f + met.length →
  UpI cs names (upS cs f met opn) [] ∧ Cl cs names (upS cs f met opn) [] []
 | 0, met, opn, h, hc, hf => by
  have := h.len
  have h0 : opn = [] := List.eq_nil_of_length_eq_zero (by omega)
  subst h0
  exact ⟨h, hc⟩
 | f + 1, met, [], h, hc, _ => ⟨h, hc⟩
 | f + 1, met, l :: rest, h, hc, hf => by
  have hi : UpI cs names met rest := ⟨h.nd, h.has, h.from_, fun k hk => h.opens k (by simp [hk])⟩
  have hcl : Cl cs names met rest l := by
   have key : ∀ x, (x ∈ met ∨ x ∈ ([] : List Tx) ∨ ∃ k ∈ l :: rest, x ∈ k) → x ∈ met ∨ x ∈ l ∨ ∃ k ∈ rest, x ∈ k := fun x h1 => by
    rcases h1 with h1 | h1 | ⟨k, hk, hx⟩
    ·exact .inl h1
    ·cases h1
    ·rcases List.mem_cons.1 hk with rfl | hk
     ·exact .inr (.inl hx)
     ·exact .inr (.inr ⟨k, hk, hx⟩)
   exact ⟨fun x hx hx2 => key x (hc.1 x hx hx2), fun x hx y hy hy2 => key y (hc.2 x hx y hy hy2)⟩
  obtain ⟨h1, h2, e⟩ := takeL_all l hi hcl (h.opens l (by simp))
  have := upS_all f h1 h2 (by simp only [List.length_cons] at hf; omega)
  exact this
theorem upL_all (cs : List ClM) (names : List Tx) : UpI cs names (upL cs names) [] ∧ Cl cs names (upL cs names) [] [] :=
 upS_all _ ⟨List.nodup_nil, by simp, by simp, fun l hl y hy k => by simp at hl; subst hl; exact .base hy k⟩ ⟨fun x hx _ => .inr (.inr ⟨names, by simp, hx⟩), by simp⟩ (by simp; omega)
theorem mem_up {cs : List ClM} {names : List Tx} {x : Tx} : x ∈ upL cs names ↔ Reach cs names x := by
 obtain ⟨h1, h2⟩ := upL_all cs names
 refine ⟨h1.from_ x, fun h => ?_⟩
 induction h with
 | base h k =>
  rcases h2.1 _ h k with h | h | ⟨l, hl, _⟩
  ·exact h
  ·cases h
  ·cases hl
 | step h m k ih =>
  rcases h2.2 _ ih _ m k with h | h | ⟨l, hl, _⟩
  ·exact h
  ·cases h
  ·cases hl
def subB (cs : List ClM) (a b : Tx) : Bool := (upL cs [a]).contains b
theorem sub_reach {cs : List ClM} {a b : Tx} : subB cs a b = true ↔ Reach cs [a] b := by unfold subB; rw [List.contains_iff_mem, mem_up]
theorem Reach.trans {cs : List ClM} {l : List Tx} {a b : Tx} (h : Reach cs l a) (k : Reach cs [a] b) : Reach cs l b := by
 induction k with
 | base m k =>
  rw [List.mem_singleton] at m; subst m; exact h
 | step _ m k ih => exact .step ih m k
theorem Reach.has {cs : List ClM} {l : List Tx} {a : Tx} (h : Reach cs l a) : hasC cs a = true := by
 cases h with
 | base _ k => exact k
 | step _ _ k => exact k
theorem Reach.first {cs : List ClM} {a b : Tx} (h : Reach cs [a] b) : b = a ∨ Reach cs (abvN cs a) b := by
 induction h with
 | base m k => exact .inl (List.mem_singleton.1 m)
 | step _ m k ih =>
  rcases ih with rfl | ih
  ·exact .inr (.base m k)
  ·exact .inr (.step ih m k)
def cycB (cs : List ClM) (c : ClM) : Bool := (upL cs (abv c)).contains c.nm
end Go.Proofs.Ytdifmgeicnndfaa.prg

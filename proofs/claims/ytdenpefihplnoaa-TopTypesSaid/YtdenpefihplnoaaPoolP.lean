/-
  Pools of strings, as lists of bytes: of no program.
-/
import Derived.Sort.KeysCollected
namespace Go.Proofs.Ytdenpefihplnoaa.poolp
open Go

abbrev Str := List UInt8
def add (acc : List Str) (x : Str) : List Str := if acc.contains x then acc else acc ++ [x]
/-- the strings that are unlike, each once, as they first stand -/
def nub (l : List Str) : List Str := l.foldl add []
theorem nub_snoc (l : List Str) (x : Str) : nub (l ++ [x]) = add (nub l) x := by unfold nub; rw [List.foldl_append]; rfl
theorem mem_add {acc : List Str} {x y : Str} : y ∈ add acc x ↔ y ∈ acc ∨ y = x := by
  unfold add
  split
  · rename_i h
    rw [List.contains_iff_mem] at h
    constructor
    · exact .inl
    · rintro (h1 | rfl)
      · exact h1
      · exact h
  · simp
theorem nodup_add {acc : List Str} {x : Str} (h : acc.Nodup) : (add acc x).Nodup := by
  unfold add
  split
  · exact h
  · rename_i hn
    rw [List.contains_iff_mem] at hn
    rw [List.nodup_append]
    refine ⟨h, by simp, ?_⟩
    intro a ha b hb e
    simp only [List.mem_singleton] at hb
    subst hb; subst e
    exact hn ha
theorem len_add (acc : List Str) (x : Str) : acc.length ≤ (add acc x).length := by unfold add; split <;> simp
theorem fold_facts : ∀ (l acc : List Str), acc.Nodup → (l.foldl add acc).Nodup ∧ (∀ y, y ∈ l.foldl add acc ↔ y ∈ acc ∨ y ∈ l) ∧ acc.length ≤ (l.foldl add acc).length
  | [], acc, h => ⟨h, fun y => by simp, Nat.le_refl _⟩
  | x :: r, acc, h => by
    obtain ⟨h1, h2, h3⟩ := fold_facts r (add acc x) (nodup_add h)
    refine ⟨h1, fun y => ?_, Nat.le_trans (len_add acc x) h3⟩
    show y ∈ r.foldl add (add acc x) ↔ _
    rw [h2, mem_add, List.mem_cons, or_assoc]
theorem nub_nodup (l : List Str) : (nub l).Nodup := (fold_facts l [] List.nodup_nil).1
theorem mem_nub {l : List Str} {y : Str} : y ∈ nub l ↔ y ∈ l := by
  have := (fold_facts l [] List.nodup_nil).2.1 y
  unfold nub
  simpa using this
theorem nub_take_le (l : List Str) (k : Nat) : (nub (l.take k)).length ≤ (nub l).length := by
  conv => rhs; rw [← List.take_append_drop k l]
  unfold nub
  rw [List.foldl_append]
  exact (fold_facts (l.drop k) (nub (l.take k)) (nub_nodup _)).2.2
theorem nub_take {l : List Str} {k : Nat} {x : Str} (h : l[k]? = some x) : nub (l.take (k + 1)) = add (nub (l.take k)) x := by
  rw [List.take_add_one, h]; exact nub_snoc _ _
theorem nub_len (l : List Str) : (nub l).length ≤ l.length := by
  have h : ∀ (r acc : List Str), (r.foldl add acc).length ≤ acc.length + r.length := by
    intro r
    induction r with
    | nil => intro acc; exact Nat.le_refl _
    | cons x r ih =>
      intro acc
      have h1 := ih (add acc x)
      have h2 : (add acc x).length ≤ acc.length + 1 := by unfold add; split <;> simp
      simp only [List.foldl_cons, List.length_cons]; omega
  have := h l []
  simpa [nub] using this
def wide (x : Str) : Bool := decide (64 < x.length)
/-- what is too long, or too much -/
def bad (l : List Str) : Bool := l.any wide || decide (1024 < (nub l).length)
/-- the pool -/
def makeL (l : List Str) : List Str := if bad l = true then [] else (nub l).mergeSort leB
theorem bad_wide {l : List Str} {x : Str} (h : x ∈ l) (hw : 64 < x.length) : bad l = true := by
  unfold bad
  rw [List.any_eq_true.2 ⟨x, h, decide_eq_true hw⟩]; rfl
theorem bad_much {l : List Str} {k : Nat} {x : Str} (hx : l[k]? = some x) (hn : (nub (l.take k)).contains x = false) (h : (nub (l.take k)).length = 1024) : bad l = true := by
  have h1 := nub_take_le l (k + 1)
  rw [nub_take hx] at h1
  unfold add at h1
  rw [hn] at h1
  simp at h1
  unfold bad
  rw [decide_eq_true (show 1024 < (nub l).length by omega), Bool.or_true]
theorem not_bad {l : List Str} (h : ∀ x ∈ nub l, x.length ≤ 64) (h1 : (nub l).length ≤ 1024) : bad l = false := by
  unfold bad
  rw [Bool.or_eq_false_iff]
  refine ⟨List.any_eq_false.2 fun x hx => ?_, decide_eq_false (by omega)⟩
  have := h x (mem_nub.2 hx)
  simp [wide]; omega
/-- rising, each once -/
def Up (p : List Str) : Prop := p.Pairwise (· < ·)
/-- a pool -/
def IsPool (p : List Str) : Prop := Up p ∧ p.length ≤ 1024 ∧ ∀ x ∈ p, x.length ≤ 64
theorem sorted_up {l : List Str} (h : l.Nodup) : Up (l.mergeSort leB) := by
  have tr : ∀ a b c : Str, leB a b = true → leB b c = true → leB a c = true := fun a b c h1 h2 => by simp only [leB, decide_eq_true_eq] at *; exact List.le_trans h1 h2
  have to : ∀ a b : Str, (leB a b || leB b a) = true := fun a b => by simp only [leB, Bool.or_eq_true, decide_eq_true_eq]; exact List.le_total a b
  have h1 := List.pairwise_mergeSort tr to l
  have h2 : (l.mergeSort leB).Nodup := (List.mergeSort_perm l leB).nodup_iff.2 h
  unfold Up
  refine (List.pairwise_and_iff.2 ⟨h1, h2⟩).imp ?_
  rintro a b ⟨hle, hne⟩
  simp only [leB, decide_eq_true_eq] at hle
  rcases Decidable.em (a < b) with h3 | h3
  · exact h3
  · exact absurd (List.le_antisymm hle (List.not_lt.1 h3)) hne
theorem make_pool (l : List Str) : IsPool (makeL l) := by
  unfold makeL
  split
  · exact ⟨List.Pairwise.nil, Nat.zero_le _, by simp⟩
  · rename_i h
    rw [Bool.not_eq_true] at h
    unfold bad at h
    rw [Bool.or_eq_false_iff] at h
    have hp := List.mergeSort_perm (nub l) leB
    refine ⟨sorted_up (nub_nodup l), ?_, fun x hx => ?_⟩
    · rw [hp.length_eq]; have := of_decide_eq_false h.2; omega
    · have := List.any_eq_false.1 h.1 x (mem_nub.1 (hp.mem_iff.1 hx))
      simp [wide] at this; exact this
theorem mem_make {l : List Str} (h : bad l = false) {y : Str} : y ∈ makeL l ↔ y ∈ l := by
  unfold makeL
  rw [if_neg (by rw [h]; simp), (List.mergeSort_perm (nub l) leB).mem_iff, mem_nub]
theorem make_bad {l : List Str} (h : bad l = true) : makeL l = [] := by unfold makeL; rw [if_pos h]
/-- two pools with the same strings are one -/
theorem up_ext {p q : List Str} (hp : Up p) (hq : Up q) (h : ∀ y, y ∈ p ↔ y ∈ q) : p = q := by
  have np : p.Nodup := hp.imp fun {a b} hab e => by subst e; exact List.lt_irrefl _ hab
  have nq : q.Nodup := hq.imp fun {a b} hab e => by subst e; exact List.lt_irrefl _ hab
  exact List.Perm.eq_of_pairwise (le := fun a b => a < b) (fun a b _ _ h1 h2 => absurd (List.lt_trans h1 h2) (List.lt_irrefl _)) hp hq ((List.perm_ext_iff_of_nodup np nq).2 h)
theorem nub_perm_len {l l' : List Str} (h : ∀ y, y ∈ l ↔ y ∈ l') : (nub l).Perm (nub l') :=
  (List.perm_ext_iff_of_nodup (nub_nodup l) (nub_nodup l')).2 fun y => by rw [mem_nub, mem_nub]; exact h y
/-- the order of the list does not matter -/
theorem bad_same {l l' : List Str} (h : ∀ y, y ∈ l ↔ y ∈ l') : bad l = bad l' := by
  unfold bad
  rw [(nub_perm_len h).length_eq]
  congr 1
  rw [Bool.eq_iff_iff, List.any_eq_true, List.any_eq_true]
  exact ⟨fun ⟨x, hx, hw⟩ => ⟨x, (h x).1 hx, hw⟩, fun ⟨x, hx, hw⟩ => ⟨x, (h x).2 hx, hw⟩⟩
theorem make_same {l l' : List Str} (h : ∀ y, y ∈ l ↔ y ∈ l') : makeL l = makeL l' := by
  have hb := bad_same h
  cases hbb : bad l with
  | true => rw [make_bad hbb, make_bad (hb ▸ hbb)]
  | false =>
    have hbb' : bad l' = false := hb ▸ hbb
    exact up_ext (make_pool l).1 (make_pool l').1 fun y => by rw [mem_make hbb, mem_make hbb', h]
theorem up_nodup {p : List Str} (hp : Up p) : p.Nodup := hp.imp fun {a b} hab e => by subst e; exact List.lt_irrefl _ hab
theorem nub_of_nodup {p : List Str} (h : p.Nodup) : (nub p).length = p.length := ((List.perm_ext_iff_of_nodup (nub_nodup p) h).2 fun _ => mem_nub).length_eq
/-- a pool's pool is the pool -/
theorem pool_bad {p : List Str} (h : IsPool p) : bad p = false := by
  refine not_bad (fun x hx => h.2.2 x (mem_nub.1 hx)) ?_
  rw [nub_of_nodup (up_nodup h.1)]; exact h.2.1
theorem pool_make {p : List Str} (h : IsPool p) : makeL p = p := up_ext (make_pool p).1 h.1 fun _ => mem_make (pool_bad h)
/-- each string stands at one place -/
theorem up_at {p : List Str} (h : Up p) {i j : Nat} {x y : Str} (hi : p[i]? = some x) (hj : p[j]? = some y) : (i < j → x < y) ∧ (x = y → i = j) := by
  have hlt : ∀ {a b : Nat} {u v : Str}, p[a]? = some u → p[b]? = some v → a < b → u < v := by
    intro a b u v ha hb hab
    obtain ⟨h1, e1⟩ := List.getElem?_eq_some_iff.1 ha
    obtain ⟨h2, e2⟩ := List.getElem?_eq_some_iff.1 hb
    have := List.pairwise_iff_getElem.1 h a b h1 h2 hab
    rwa [e1, e2] at this
  refine ⟨hlt hi hj, fun e => ?_⟩
  subst e
  rcases Nat.lt_trichotomy i j with hij | hij | hij
  · exact absurd (hlt hi hj hij) (List.lt_irrefl _)
  · exact hij
  · exact absurd (hlt hj hi hij) (List.lt_irrefl _)
end Go.Proofs.Ytdenpefihplnoaa.poolp

/-
 Layer 14, of no program: where code goes on, by how few steps places are reached, and where rows begin.
-/
import Derived.Test.YtnmnnokdoiagkaaDoorOpP
import Derived.Lib.SlicesCompact
namespace Go.Proofs.YtnmnnokdoiagkaaDoor.flowp
open kindp opp

/-- where it goes on behind place k, whose instruction is x, of n places, in the order in which the program tells it -/
def ow (n : Nat) (x : In) (k : Nat) : List Int := (if fallsB x.o = true ∧ k + 1 < n then [((k + 1 : Nat) : Int)] else []) ++ (if (targetL x).2 = true ∧ (targetL x).1 < (n : Int) then [(targetL x).1] else [])
def onL (l : List In) (k : Int) : List Int := if k < 0 then [] else match l[k.toNat]? with | none => [] | some x => ow l.length x k.toNat
theorem target_ge (x : In) (h : (targetL x).2 = true) : 0 ≤ (targetL x).1 := by
 unfold targetL at h ⊢
 split at h
 ·rename_i hh
  rw [if_pos hh]; exact hh.2.1
 ·cases h
theorem ow_in {n : Nat} {x : In} {k : Nat} {t : Int} (h : t ∈ ow n x k) : 0 ≤ t ∧ t < n := by
 unfold ow at h
 rw [List.mem_append] at h
 rcases h with h | h
 ·split at h
  ·rename_i hh
   rw [List.mem_singleton] at h; omega
  ·cases h
 ·split at h
  ·rename_i hh
   rw [List.mem_singleton] at h
   have := target_ge x hh.1
   rw [h]; exact ⟨this, hh.2⟩
  ·cases h
theorem ow_len (n : Nat) (x : In) (k : Nat) : (ow n x k).length ≤ 2 := by
 unfold ow
 split <;> split <;> simp
theorem onL_at {l : List In} {k : Nat} {x : In} (h : l[k]? = some x) : onL l (k : Int) = ow l.length x k := by
 unfold onL
 rw [if_neg (by omega), Int.toNat_natCast, h]
theorem onL_none {l : List In} {k : Int} (h : k < 0 ∨ (l.length : Int) ≤ k) : onL l k = [] := by
 unfold onL
 split
 ·rfl
 ·rw [List.getElem?_eq_none (by omega)]
theorem onL_in {l : List In} {k t : Int} (h : t ∈ onL l k) : 0 ≤ t ∧ t < l.length ∧ 0 ≤ k ∧ k < l.length := by
 unfold onL at h
 split at h
 ·cases h
 ·cases hx : l[k.toNat]? with
  | none => rw [hx] at h; cases h
  | some x =>
   rw [hx] at h
   have := ow_in h
   have := (List.getElem?_eq_some_iff.1 hx).1
   omega
theorem onL_len (l : List In) (k : Int) : (onL l k).length ≤ 2 := by
 unfold onL
 split
 ·simp
 ·split
  ·simp
  ·exact ow_len _ _ _

/-! Lists that rise. -/
def Inc (l : List Int) : Prop := l.Pairwise (· < ·)
theorem inc_ext : ∀ {a b : List Int}, Inc a → Inc b → (∀ x, x ∈ a ↔ x ∈ b) → a = b
 | [], [], _, _, _ => rfl
 | [], y :: b, _, _, h => by have := (h y).2 (List.mem_cons_self ..); cases this
 | x :: a, [], _, _, h => by have := (h x).1 (List.mem_cons_self ..); cases this
 | x :: a, y :: b, ha, hb, h => by
  unfold Inc at ha hb
  rw [List.pairwise_cons] at ha hb
  have exy : x = y := by
   rcases List.mem_cons.1 ((h x).1 (List.mem_cons_self ..)) with e | e
   ·exact e
   ·rcases List.mem_cons.1 ((h y).2 (List.mem_cons_self ..)) with e2 | e2
    ·exact e2.symm
    ·have h1 := hb.1 x e; have h2 := ha.1 y e2; omega
  subst exy
  rw [inc_ext ha.2 hb.2 fun z => ?_]
  constructor
  ·intro hz
   rcases List.mem_cons.1 ((h z).1 (List.mem_cons_of_mem _ hz)) with e | e
   ·have := ha.1 z hz; omega
   ·exact e
  ·intro hz
   rcases List.mem_cons.1 ((h z).2 (List.mem_cons_of_mem _ hz)) with e | e
   ·have := hb.1 z hz; omega
   ·exact e
/-- sorted, each once -/
def ordL (xs : List Int) : List Int := Lib.compact (xs.mergeSort fun x y => decide (x ≤ y))
theorem sort_le (xs : List Int) : (xs.mergeSort fun x y => decide (x ≤ y)).Pairwise (· ≤ ·) := by
 have := List.pairwise_mergeSort (le := fun x y : Int => decide (x ≤ y)) (fun a b c h1 h2 => by simp only [decide_eq_true_eq] at *; omega) (fun a b => by simp only [Bool.or_eq_true, decide_eq_true_eq]; omega) xs
 exact this.imp fun h => of_decide_eq_true h
theorem compact_mem {zs : List Int} (x : Int) : x ∈ Lib.compact zs ↔ x ∈ zs := by
 unfold Lib.compact Lib.compactUpTo
 simp only [List.mem_map, List.mem_filter, List.mem_range]
 constructor
 ·rintro ⟨j, ⟨hj, -⟩, rfl⟩
  rw [getElem!_pos zs.toArray j (by simpa using hj)]
  simp
 ·intro hx
  obtain ⟨j, hj, rfl⟩ := List.getElem_of_mem hx
  have key : ∀ j, (hj : j < zs.length) → ∃ i, (i < zs.length ∧ Lib.keeps zs.toArray i = true) ∧ zs.toArray[i]! = zs[j] := by
   intro j
   induction j with
   | zero => intro hj; exact ⟨0, ⟨hj, Lib.keeps_lt_one _ 0 (by omega)⟩, by rw [getElem!_pos zs.toArray 0 (by simpa using hj)]; simp⟩
   | succ j ih =>
    intro hj
    by_cases h : zs.toArray[j + 1]! = zs.toArray[j + 1 - 1]!
    ·obtain ⟨i, hi, he⟩ := ih (by omega)
     refine ⟨i, hi, he.trans ?_⟩
     rw [getElem!_pos zs.toArray (j + 1) (by simpa using hj), getElem!_pos zs.toArray (j + 1 - 1) (by simp; omega)] at h
     simpa using h.symm
    ·exact ⟨j + 1, ⟨hj, Lib.keeps_pos h⟩, by rw [getElem!_pos zs.toArray (j + 1) (by simpa using hj)]; simp⟩
  exact key j hj
theorem compact_inc {zs : List Int} (h : zs.Pairwise (· ≤ ·)) : Inc (Lib.compact zs) := by
 unfold Inc Lib.compact Lib.compactUpTo
 rw [List.pairwise_map]
 have hr : ((List.range zs.length).filter (Lib.keeps zs.toArray)).Pairwise (· < ·) := List.Pairwise.filter _ List.pairwise_lt_range
 refine List.Pairwise.imp_of_mem ?_ hr
 intro i j hi hj hij
 rw [List.mem_filter, List.mem_range] at hi hj
 have hk := hj.2
 unfold Lib.keeps at hk
 rw [decide_eq_true_eq] at hk
 rcases hk with hk | hk
 ·omega
 rw [getElem!_pos zs.toArray j (by simpa using hj.1), getElem!_pos zs.toArray (j - 1) (by have := hj.1; simp; omega)] at hk
 rw [getElem!_pos zs.toArray j (by simpa using hj.1), getElem!_pos zs.toArray i (by simpa using hi.1)]
 simp only [List.getElem_toArray] at hk ⊢
 have h1 : zs[j - 1]'(by have := hj.1; omega) ≤ zs[j]'hj.1 := List.pairwise_iff_getElem.1 h (j - 1) j (by have := hj.1; omega) hj.1 (by omega)
 have h2 : zs[i]'hi.1 ≤ zs[j - 1]'(by have := hj.1; omega) := by
  rcases Nat.lt_or_ge i (j - 1) with h3 | h3
  ·exact List.pairwise_iff_getElem.1 h i (j - 1) hi.1 (by have := hj.1; omega) h3
  ·have e : i = j - 1 := by omega
   subst e; exact Int.le_refl _
 omega
theorem ordL_inc (xs : List Int) : Inc (ordL xs) := compact_inc (sort_le xs)
theorem ordL_mem {xs : List Int} (x : Int) : x ∈ ordL xs ↔ x ∈ xs := by
 unfold ordL
 rw [compact_mem]
 exact (List.mergeSort_perm _ _).mem_iff
theorem ordL_of {xs ys : List Int} (h : Inc ys) (hm : ∀ x, x ∈ ys ↔ x ∈ xs) : ordL xs = ys := inc_ext (ordL_inc xs) h fun x => (ordL_mem x).trans (hm x).symm
theorem ordL_len (xs : List Int) : (ordL xs).length ≤ xs.length := by
 unfold ordL Lib.compact Lib.compactUpTo
 rw [List.length_map]
 refine Nat.le_trans (List.length_filter_le _ _) ?_
 simp

/-! The answers. -/
def nextL (l : List In) (k : Int) : List Int := ordL (onL l k)
theorem nextL_mem {l : List In} {k t : Int} : t ∈ nextL l k ↔ t ∈ onL l k := ordL_mem t
theorem nextL_len (l : List In) (k : Int) : (nextL l k).length ≤ 2 := Nat.le_trans (ordL_len _) (onL_len _ _)
/-- places as numbers, those of which something holds -/
def selL (n : Nat) (p : Nat → Bool) : List Int := ((List.range n).filter p).map fun k : Nat => (k : Int)
theorem selL_inc (n : Nat) (p : Nat → Bool) : Inc (selL n p) := by
 unfold Inc selL
 rw [List.pairwise_map]
 exact (List.Pairwise.filter _ List.pairwise_lt_range).imp fun h => by omega
theorem selL_mem {n : Nat} {p : Nat → Bool} {x : Int} : x ∈ selL n p ↔ ∃ k : Nat, k < n ∧ p k = true ∧ x = (k : Int) := by
 unfold selL
 simp only [List.mem_map, List.mem_filter, List.mem_range]
 constructor
 ·rintro ⟨k, ⟨h1, h2⟩, rfl⟩; exact ⟨k, h1, h2, rfl⟩
 ·rintro ⟨k, h1, h2, rfl⟩; exact ⟨k, ⟨h1, h2⟩, rfl⟩
theorem selL_succ (n : Nat) (p : Nat → Bool) : selL (n + 1) p = selL n p ++ (if p n = true then [(n : Int)] else []) := by
 unfold selL
 rw [List.range_succ, List.filter_append, List.map_append]
 congr 1
 cases h : p n <;> simp [h]
theorem selL_len (n : Nat) (p : Nat → Bool) : (selL n p).length ≤ n := by
 unfold selL
 rw [List.length_map]
 refine Nat.le_trans (List.length_filter_le _ _) ?_
 simp
def comeL (l : List In) (t : Int) : List Int := selL l.length fun k => (onL l (k : Int)).contains t
/-- what is wrong with where it goes -/
def strayB (n : Nat) (x : In) : Bool := hasL (shapeL x.o) 116 && (decide (x.k < 0) || decide ((n : Int) ≤ x.k))
def wrongAt (n : Nat) (x : In) (k : Nat) : Option Int := if strayB n x = true then some 12 else if fallsB x.o = true ∧ ¬ k + 1 < n then some 2 else none
def checkF (n : Nat) : List In → Nat → Int × Int
 | [], _ => (0, 0)
 | x :: r, k => match wrongAt n x k with | some e => (e, (k : Int)) | none => checkF n r (k + 1)
def checkE (l : List In) : Int × Int := if l = [] then (2, 0) else checkF l.length l 0
/-- the places that the program takes as beginnings, one by one -/
def begins (n : Nat) (x : In) (k : Nat) : List Int :=
 (if (targetL x).2 = true ∧ (targetL x).1 < (n : Int) then [(targetL x).1] else []) ++ (if ((targetL x).2 = true ∨ fallsB x.o = false) ∧ k + 1 < n then [((k + 1 : Nat) : Int)] else [])
def beginF (n : Nat) : List In → Nat → List Int
 | [], _ => []
 | x :: r, k => begins n x k ++ beginF n r (k + 1)
def rawL (l : List In) : List Int := (if 0 < l.length then [0] else []) ++ beginF l.length l 0
def blocksL (l : List In) : List Int := ordL (rawL l)
theorem begins_len (n : Nat) (x : In) (k : Nat) : (begins n x k).length ≤ 2 := by
 unfold begins
 split <;> split <;> simp
theorem beginF_len (n : Nat) : ∀ (l : List In) (k : Nat), (beginF n l k).length ≤ 2 * l.length
 | [], _ => by simp [beginF]
 | x :: r, k => by
  have := begins_len n x k
  have := beginF_len n r (k + 1)
  simp only [beginF, List.length_append, List.length_cons]
  omega
theorem beginF_app (n : Nat) : ∀ (a b : List In) (k : Nat), beginF n (a ++ b) k = beginF n a k ++ beginF n b (k + a.length)
 | [], b, k => by simp [beginF]
 | x :: a, b, k => by
  simp only [beginF, List.cons_append, beginF_app n a b (k + 1), List.append_assoc, List.length_cons]
  rw [show k + 1 + a.length = k + (a.length + 1) by omega]
theorem beginF_mem {n : Nat} {t : Int} : ∀ {l : List In} {k : Nat}, t ∈ beginF n l k ↔ ∃ j x, l[j]? = some x ∧ t ∈ begins n x (k + j)
 | [], k => by simp [beginF]
 | x :: r, k => by
  simp only [beginF, List.mem_append, beginF_mem (l := r) (k := k + 1)]
  constructor
  ·rintro (h | ⟨j, y, hj, h⟩)
   ·exact ⟨0, x, rfl, h⟩
   ·exact ⟨j + 1, y, hj, by rw [show k + (j + 1) = k + 1 + j by omega]; exact h⟩
  ·rintro ⟨j, y, hj, h⟩
   cases j with
   | zero => simp only [List.getElem?_cons_zero, Option.some.injEq] at hj; subst hj; exact .inl h
   | succ j => exact .inr ⟨j, y, by simpa using hj, by rw [show k + 1 + j = k + (j + 1) by omega]; exact h⟩
/-- the document's way to beginnings -/
def beginB (l : List In) (i : Nat) : Bool := decide (i = 0 ∨ ∃ j ∈ List.range l.length, ∃ x ∈ l[j]?, ((targetL x).2 = true ∧ (targetL x).1 = (i : Int)) ∨ (j + 1 = i ∧ ((targetL x).2 = true ∨ fallsB x.o = false)))
theorem begins_mem {n : Nat} {x : In} {k : Nat} {t : Int} : t ∈ begins n x k ↔ ((targetL x).2 = true ∧ (targetL x).1 < (n : Int) ∧ t = (targetL x).1) ∨ (((targetL x).2 = true ∨ fallsB x.o = false) ∧ k + 1 < n ∧ t = ((k + 1 : Nat) : Int)) := by
 unfold begins
 rw [List.mem_append]
 constructor
 ·rintro (h | h)
  ·split at h
   ·rename_i hh; exact .inl ⟨hh.1, hh.2, List.mem_singleton.1 h⟩
   ·cases h
  ·split at h
   ·rename_i hh; exact .inr ⟨hh.1, hh.2, List.mem_singleton.1 h⟩
   ·cases h
 ·rintro (⟨h1, h2, h3⟩ | ⟨h1, h2, h3⟩)
  ·left; rw [if_pos ⟨h1, h2⟩]; exact List.mem_singleton.2 h3
  ·right; rw [if_pos ⟨h1, h2⟩]; exact List.mem_singleton.2 h3
theorem raw_mem {l : List In} {t : Int} : t ∈ rawL l ↔ ∃ i : Nat, i < l.length ∧ beginB l i = true ∧ t = (i : Int) := by
 unfold rawL beginB
 rw [List.mem_append, beginF_mem]
 simp only [decide_eq_true_eq, List.mem_range, Nat.zero_add]
 constructor
 ·rintro (h | ⟨j, x, hj, h⟩)
  ·split at h
   ·rename_i hh; exact ⟨0, hh, .inl rfl, List.mem_singleton.1 h⟩
   ·cases h
  ·have hjl := (List.getElem?_eq_some_iff.1 hj).1
   rcases begins_mem.1 h with ⟨h1, h2, rfl⟩ | ⟨h1, h2, rfl⟩
   ·have := target_ge x h1
    exact ⟨(targetL x).1.toNat, by omega, .inr ⟨j, hjl, x, hj, .inl ⟨h1, by omega⟩⟩, by omega⟩
   ·exact ⟨j + 1, h2, .inr ⟨j, hjl, x, hj, .inr ⟨rfl, h1⟩⟩, rfl⟩
 ·rintro ⟨i, hi, (rfl | ⟨j, hjl, x, hj, h⟩), rfl⟩
  ·left; rw [if_pos hi]; exact List.mem_singleton.2 rfl
  ·right
   refine ⟨j, x, hj, begins_mem.2 ?_⟩
   rcases h with ⟨h1, h2⟩ | ⟨rfl, h2⟩
   ·exact .inl ⟨h1, by omega, h2.symm⟩
   ·exact .inr ⟨h2, hi, rfl⟩
theorem blocks_eq (l : List In) : blocksL l = selL l.length (beginB l) := ordL_of (selL_inc _ _) fun _ => selL_mem.trans raw_mem.symm
end Go.Proofs.YtnmnnokdoiagkaaDoor.flowp

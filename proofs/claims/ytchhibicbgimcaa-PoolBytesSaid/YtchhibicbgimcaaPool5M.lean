/-
  Layer 5, the document's answer: the pool of strings.
-/
import Derived.Test.YtchhibicbgimcaaPool5W
namespace Go.Proofs.Ytchhibicbgimcaa.pool
open Go.RowKit Go.Maps
open Go.Proofs.Ytchhibicbgimcaa.num Go.Proofs.Ytchhibicbgimcaa.words Go.Proofs.Ytchhibicbgimcaa.poolp

/-- the pool of the first of a list -/
def curL (l : List Str) (k : Nat) : List Str := (nub (l.take k)).mergeSort leB
theorem cur_zero (l : List Str) : curL l 0 = [] := by unfold curL; rw [List.take_zero]; show ([] : List Str).mergeSort leB = []; simp
theorem cur_up (l : List Str) (k : Nat) : Up (curL l k) := sorted_up (nub_nodup _)
theorem mem_cur {l : List Str} {k : Nat} {y : Str} : y ∈ curL l k ↔ y ∈ l.take k := by
  unfold curL; rw [(List.mergeSort_perm (nub (l.take k)) leB).mem_iff, mem_nub]
theorem cur_len (l : List Str) (k : Nat) : (curL l k).length = (nub (l.take k)).length := (List.mergeSort_perm (nub (l.take k)) leB).length_eq
theorem cur_snoc {l : List Str} {k : Nat} {x : Str} (hx : l[k]? = some x) : withL (curL l k) x = curL l (k + 1) :=
  up_ext (with_up _ _) (cur_up _ _) fun y => by rw [mem_with, mem_cur, mem_cur, take_snoc hx, List.mem_append, List.mem_singleton]
theorem cur_bad {l : List Str} {k : Nat} (h : 1024 < (curL l k).length) : bad l = true := by
  rw [cur_len] at h
  have := nub_take_le l k
  unfold bad
  rw [Bool.or_eq_true]
  exact .inr (decide_eq_true (by omega))
theorem cur_all {l : List Str} (hw : ∀ x ∈ l, x.length ≤ 64) (h : (curL l l.length).length ≤ 1024) : bad l = false ∧ curL l l.length = makeL l := by
  have hb : bad l = false := by
    rw [cur_len, List.take_length] at h
    exact not_bad (fun x hx => hw x (mem_nub.1 hx)) h
  refine ⟨hb, ?_⟩
  unfold makeL curL
  rw [if_neg (by rw [hb]; simp), List.take_length]

end Go.Proofs.Ytchhibicbgimcaa.pool

/-
  How arguments that are texts, or lists of texts, are opened; two lists of texts held against each other.
-/
import Derived.Test.YtcaaljioennnnabDoorFrame
import Derived.ChangeMaps5
import Derived.Test.YtcaaljioennnnabDoorProg
import Derived.Test.YtcaaljioennnnabDoorWords
import Derived.Lib.Hide
import Derived.Deep.QuietTactic
import Derived.BigQuiet
import Derived.SliceStrings
/- How an argument that is a text is bounded. -/
namespace Go.Proofs.YtcaaljioennnnabDoor.frame
open Go.ChangeShapes Go.WideShapes Go.ChangeAt Go.RowKit

/-- what the form's reach bounds -/
theorem str_reach {H : Type} {P : Program} {ts : List TypeId} {ds : List (DataW H)} (h : (DataW.weightsEach P ts ds).all (· ≤ reachBytes) = true) {j : Nat} {t : TypeId} {s : ByteArray} (ht : ts[j]? = some t) (hj : ds[j]? = some (.lit (.string s.data.toList))) : s.size ≤ 140737488351232 := by
 have := sized_string h ht hj
 have h3 : reachBytes = 140737488351232 := by decide
 have h4 : s.size = s.data.toList.length := by rw [Array.length_toList]; rfl
 omega
/-- what the bound on bulk bounds -/
theorem bulk_str {H : Type} (s : ByteArray) : s.size ≤ Rows.uptoBulk (DataW.lit (H := H) (.string s.data.toList)) := by
 have h4 : s.size = s.data.toList.length := by rw [Array.length_toList]; rfl
 simp only [Rows.uptoBulk]
 omega
end Go.Proofs.YtcaaljioennnnabDoor.frame

/- What the reference's SameTexts answers of two slices that hold the same texts: true; it only reads. -/
namespace Go.Proofs.YtcaaljioennnnabDoor.texts
open Go.RowKit
open words

/-- texts, as cells -/
def S (l : List ByteArray) : List Value := l.map Value.string
theorem S_len (l : List ByteArray) : (S l).length = l.length := by simp [S]
theorem S_app (l r : List ByteArray) : S (l ++ r) = S l ++ S r := by simp [S]
theorem S_at {l : List ByteArray} {j : Nat} {c : ByteArray} (h : l[j]? = some c) : (S l)[j]? = some (.string c) := by simp [S, h]
theorem S_one (l : List ByteArray) : ∀ u ∈ S l, u.oneCell' = true := by
 intro u hu
 obtain ⟨x, _, rfl⟩ := List.mem_map.1 hu
 rfl

end Go.Proofs.YtcaaljioennnnabDoor.texts

/- How an argument that is a slice of texts is opened: what it holds, how long it is, and what its size is bounded by. -/
namespace Go.Proofs.YtcaaljioennnnabDoor.frame
open Go.ChangeShapes Go.WideShapes Go.ChangeAt Go.RowKit
open words texts

theorem open_texts {H : Type} {enc : TypeId × Value → H} {P : Program} {W : World} {base : Nat} {t e : TypeId} (ht : P.underlying t = some (.slice e)) (he : P.underlying e = some .string) (hc : P.cellsOf e = 1)
  {v : Value} {d : DataW H} {p : List MemPlace} (hok : Value.okWide P W .any base t v) (h : DataW.Trod enc P W 0 (fun _ => true) true t v d p) :
  ∃ A c, ∃ ss : List ByteArray, v = .slice A ss.length c ∧ ss.length ≤ c ∧ Rd W A (S ss) ∧ ((d = .nil ∧ c = 0) ∨ ∃ spare, d = .slice (strs ss) spare ∧ ss.length + spare.length = c) := by
 obtain ⟨A, n, c, rfl⟩ := okWide_slice ht hok
 obtain ⟨fuel, hf⟩ := h
 rcases open_strings ht he hc hf with ⟨hcs, hx⟩ | ⟨x, l, cp, ss, hcs, _, hl, hm, hz, hx, hcell, hwz⟩
 ·simp [Value.cells] at hcs
  obtain ⟨rfl, rfl, rfl⟩ := hcs
  simp only [Prod.mk.injEq] at hx
  exact ⟨none, 0, [], rfl, Nat.le_refl _, .inl rfl, .inl ⟨hx.1, rfl⟩⟩
 ·simp [Value.cells] at hcs
  obtain ⟨rfl, rfl, rfl⟩ := hcs
  simp only [Prod.mk.injEq] at hx
  have hzc : ss.length = c := by simpa using hz
  have hn : (ss.take n).length = n := by rw [List.length_take]; omega
  refine ⟨some x, c, ss.take n, by rw [hn], by rw [hn]; exact hl, ?_, .inr ⟨_, hx.1, ?_⟩⟩
  ·by_cases h0 : n = 0
   ·subst h0; exact .inl (by simp [texts.S])
   ·refine .inr ⟨x, rfl, ?_, fun j u hu => ?_⟩
    ·have := cell_lt (hcell 0 (by omega))
     rwa [add_block] at this
    ·unfold texts.S at hu
     rw [List.getElem?_map, List.getElem?_take] at hu
     split at hu
     ·rw [hcell j (by omega)]
      rw [List.getElem?_eq_getElem (by omega)] at hu
      rw [← hu]
      simp [List.getD, List.getElem?_eq_getElem (show j < ss.length by omega)]
     ·cases hu
  ·rw [hn]; simp [strs]; omega
theorem weights_all {H : Type} {P : Program} {e : TypeId} {y : DataW H} {n : Nat} (hn : n ∈ y.weights P e) : ∀ {l : List (DataW H)}, y ∈ l → n ∈ DataW.weightsAll P e l
 | [], h => by cases h
 | d :: r, h => by
  simp only [DataW.weightsAll, List.mem_append]
  rcases List.mem_cons.1 h with rfl | h
  ·exact .inl hn
  ·exact .inr (weights_all hn h)
/-- what the form's reach bounds -/
theorem texts_reach {H : Type} {P : Program} {ts : List TypeId} {ds : List (DataW H)} (h : (DataW.weightsEach P ts ds).all (· ≤ reachBytes) = true) {j : Nat} {t e : TypeId} {d : DataW H} {ss : List ByteArray} {c : Nat} (ht : ts[j]? = some t) (hj : ds[j]? = some d)
  (hu : P.underlying t = some (.slice e)) (hb : P.bytesOf e = 16) (hnc : ss.length ≤ c)
  (hd : (d = .nil ∧ c = 0) ∨ ∃ spare, d = .slice (strs ss) spare ∧ ss.length + spare.length = c) : ss.length * 16 ≤ 140737488351232 ∧ ∀ x ∈ ss, x.size ≤ 140737488351232 := by
 have h3 : reachBytes = 140737488351232 := by decide
 rcases hd with ⟨_, rfl⟩ | ⟨spare, rfl, hc⟩
 ·have h0 : ss = [] := List.eq_nil_of_length_eq_zero (by omega)
  subst h0
  exact ⟨by simp, by simp⟩
 ·refine ⟨?_, fun x hx => ?_⟩
  ·have := sized_slice h ht hj hu
   rw [hb] at this
   have hl : (strs (H := H) ss).length = ss.length := by simp [strs]
   omega
  ·have hm : x.size ∈ DataW.weights P t (.slice (strs ss) spare) := by
    simp only [DataW.weights, hu, List.mem_cons, List.mem_append]
    refine .inr (.inl (weights_all (y := .lit (.string x.data.toList)) ?_ (List.mem_map.2 ⟨x, hx, rfl⟩)))
    have h4 : x.size = x.data.toList.length := by rw [Array.length_toList]; rfl
    rw [h4]; simp [DataW.weights]
   have := List.all_eq_true.1 h _ (DataW.weights_mem_each ht hj _ hm)
   simp only [decide_eq_true_eq] at this
   omega
end Go.Proofs.YtcaaljioennnnabDoor.frame

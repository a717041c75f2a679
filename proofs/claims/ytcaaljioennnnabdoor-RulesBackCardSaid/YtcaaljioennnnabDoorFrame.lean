/-
 How an argument that is a slice of bytes, or of numbers, is opened for this seat's walks: what it holds, how long it is, and what its size is bounded by.
-/
import Derived.Test.YtcaaljioennnnabDoorRows
import Derived.Test.YtcaaljioennnnabDoorWords
import Derived.ProofKit
import Derived.OpenShut
import Derived.SizedLaws
import Derived.Below
namespace Go.Proofs.YtcaaljioennnnabDoor.frame
open Go.ChangeShapes Go.WideShapes Go.ChangeAt Go.RowKit
open words

set_option maxRecDepth 100000 in
theorem laidOut : laidOutB Tryd.prog = true := by kernel_rfl
set_option maxRecDepth 100000 in
theorem own : ownKnob Tryd.prog.godebug = none := by kernel_rfl

theorem cell_lt {w : World} {p : Addr} {v : Value} (h : w.cell? p = some v) : p.block < w.heap.size := by
 rcases Nat.lt_or_ge p.block w.heap.size with h1 | h1
 ·exact h1
 ·simp [World.cell?, Array.getElem?_eq_none h1] at h

/-- a slice of integers that came in -/
theorem open_row {H : Type} {enc : TypeId × Value → H} {P : Program} {W : World} {base : Nat} {t e : TypeId} {k : IntKind} (ht : P.underlying t = some (.slice e)) (he : P.underlying e = some (.int k)) (hc : P.cellsOf e = 1)
  {v : Value} {d : DataW H} {p : List MemPlace} (hok : Value.okWide P W .any base t v) (h : DataW.Trod enc P W 0 (fun _ => true) true t v d p) :
  ∃ A n c, ∃ zs : List Int, v = .slice A n c ∧ n ≤ c ∧ zs.length = n ∧ (∀ z ∈ zs, (Lit.int k z).wf = true) ∧ Rd W A (zs.map (Value.int k)) ∧
   ((d = .nil ∧ c = 0) ∨ ∃ elems spare, d = .slice elems spare ∧ elems.length = n ∧ elems.length + spare.length = c) := by
 obtain ⟨A, n, c, rfl⟩ := okWide_slice ht hok
 obtain ⟨fuel, hf⟩ := h
 rcases open_ints ht he hc hf with ⟨hcs, hx⟩ | ⟨x, l, cp, zs, hcs, _, hl, hm, hz, hx, hcell, hwz⟩
 ·simp [Value.cells] at hcs
  obtain ⟨rfl, rfl, rfl⟩ := hcs
  simp only [Prod.mk.injEq] at hx
  exact ⟨none, 0, 0, [], rfl, Nat.le_refl _, rfl, by simp, .inl rfl, .inl ⟨hx.1, rfl⟩⟩
 ·simp [Value.cells] at hcs
  obtain ⟨rfl, rfl, rfl⟩ := hcs
  simp only [Prod.mk.injEq] at hx
  have hzc : zs.length = c := by simpa using hz
  refine ⟨some x, n, c, zs.take n, rfl, hl, by rw [List.length_take]; omega, fun z hz => hwz z (List.mem_of_mem_take hz), ?_, .inr ⟨_, _, hx.1, ?_, ?_⟩⟩
  ·by_cases h0 : n = 0
   ·subst h0; exact .inl (by simp)
   ·refine .inr ⟨x, rfl, ?_, fun j u hu => ?_⟩
    ·have := cell_lt (hcell 0 (by omega))
     rwa [add_block] at this
    ·rw [List.getElem?_map, List.getElem?_take] at hu
     split at hu
     ·rw [hcell j (by omega)]
      rw [List.getElem?_eq_getElem (by omega)] at hu
      rw [← hu]
      simp [List.getD, List.getElem?_eq_getElem (show j < zs.length by omega)]
     ·cases hu
  ·simp [lits]; omega
  ·simp [lits]; omega

/-- integers that fit, as natural numbers -/
theorem nats {k : IntKind} {zs : List Int} (h : ∀ z ∈ zs, 0 ≤ z) : zs.map (Value.int k) = (zs.map Int.toNat).map fun x : Nat => Value.int k (x : Int) := by
 rw [List.map_map]
 refine List.map_congr_left fun z hz => ?_
 simp only [Function.comp_apply]
 rw [Int.toNat_of_nonneg (h z hz)]

set_option maxRecDepth 100000 in
/-- how much a slice of bytes takes -/
theorem open_bytes {H : Type} {enc : TypeId × Value → H} {W : World} {base : Nat} {v : Value} {d : DataW H} {p : List MemPlace}
  (hok : Value.okWide Tryd.prog W .any base 61 v) (h : DataW.Trod enc Tryd.prog W 0 (fun _ => true) true 61 v d p) :
  ∃ A n c, ∃ l : List Nat, v = .slice A n c ∧ n ≤ c ∧ l.length = n ∧ (∀ x ∈ l, x < 256) ∧ Rd W A (B l) ∧
   ((d = .nil ∧ c = 0) ∨ ∃ elems spare, d = .slice elems spare ∧ elems.length = n ∧ elems.length + spare.length = c) := by
 obtain ⟨A, n, c, zs, hv, hnc, hl, hw, hr, hd⟩ := open_row Tryd.underlying61 Tryd.underlying5 (by kernel_rfl) hok h
 refine ⟨A, n, c, zs.map Int.toNat, hv, hnc, by simpa using hl, ?_, ?_, hd⟩
 ·intro x hx
  obtain ⟨z, hz, rfl⟩ := List.mem_map.1 hx
  have := bounds_u8 (hw z hz)
  omega
 ·rw [nats (fun z hz => (bounds_u8 (hw z hz)).1)] at hr
  exact hr
/-- what the form's reach bounds -/
theorem reach {H : Type} {P : Program} {ts : List TypeId} {ds : List (DataW H)} (h : (DataW.weightsEach P ts ds).all (· ≤ reachBytes) = true) {j : Nat} {t e : TypeId} {d : DataW H} {n c b : Nat} (ht : ts[j]? = some t) (hj : ds[j]? = some d)
  (hu : P.underlying t = some (.slice e)) (hb : P.bytesOf e = b) (hnc : n ≤ c)
  (hd : (d = .nil ∧ c = 0) ∨ ∃ elems spare, d = .slice elems spare ∧ elems.length = n ∧ elems.length + spare.length = c) : n * b ≤ 140737488351232 := by
 rcases hd with ⟨_, rfl⟩ | ⟨elems, spare, rfl, _, hc⟩
 ·obtain rfl : n = 0 := by omega
  simp
 ·have := sized_slice h ht hj hu
  rw [hb, hc] at this
  have h2 : n * b ≤ c * b := Nat.mul_le_mul_right _ hnc
  have h3 : reachBytes = 140737488351232 := by decide
  omega

/-- what the bound on bulk bounds -/
theorem bulk_one {H : Type} (d : DataW H) : 1 ≤ Rows.uptoBulk d := by
 cases d with
 | lit l => cases l <;> simp [Rows.uptoBulk]
 | _ => simp [Rows.uptoBulk]
theorem bulk_len {H : Type} (l : List (DataW H)) : l.length ≤ Rows.uptoBulkAll l := by
 induction l with
 | nil => simp [Rows.uptoBulkAll]
 | cons x r ih => have := bulk_one x; simp only [Rows.uptoBulkAll, List.length_cons]; omega
theorem bulk_slice {H : Type} {d : DataW H} {n c : Nat} (hnc : n ≤ c) (hd : (d = .nil ∧ c = 0) ∨ ∃ elems spare, d = .slice elems spare ∧ elems.length = n ∧ elems.length + spare.length = c) : n ≤ Rows.uptoBulk d := by
 rcases hd with ⟨_, rfl⟩ | ⟨elems, spare, rfl, hn, _⟩
 ·omega
 ·have := bulk_len elems
  simp only [Rows.uptoBulk]; omega
theorem bulk_all {H : Type} {l : List (DataW H)} (hk : Rows.uptoSmall H l = true) : Rows.uptoBulkAll l ≤ 1048576 := of_decide_eq_true hk
end Go.Proofs.YtcaaljioennnnabDoor.frame

/-
 Layer 22: how an argument that is two texts is opened.
-/
import Derived.Test.YtcaaljioennnnabDoorFrameT
namespace Go.Proofs.YtcaaljioennnnabDoor.frameu
open Go.ChangeShapes Go.WideShapes Go.ChangeAt Go.RowKit
open Go.Proofs.YtcaaljioennnnabDoor.words Go.Proofs.YtcaaljioennnnabDoor.frame
set_option linter.all false

set_option maxRecDepth 100000 in
theorem open_str2 {H : Type} {enc : TypeId × Value → H} {W : World} {base : Nat} {v : Value} {d : DataW H} {p : List MemPlace}
    (hok : Value.okWide Tryd.prog W .any base 42 v) (h : DataW.Trod enc Tryd.prog W 0 (fun _ => true) true 42 v d p) :
    ∃ s0 s1 : ByteArray, v = .agg #[.string s0, .string s1] ∧ d = .agg [.lit (.string s0.data.toList), .lit (.string s1.data.toList)] := by
  have hu : Tryd.prog.underlying 42 = some (.array 2 9) := by kernel_rfl
  have hc : Tryd.prog.cellsOf 42 = 2 := by kernel_rfl
  have hc1 : Tryd.prog.cellsOf 9 = 1 := by kernel_rfl
  unfold Value.okWide at hok
  rw [hu] at hok
  obtain ⟨cs, rfl, hsz, _⟩ := hok
  obtain ⟨c0, c1, rfl⟩ : ∃ c0 c1, cs = #[c0, c1] := by
    obtain ⟨l⟩ := cs
    have hl : l.length = 2 := hsz.trans hc
    match l, hl with
    | [a, b], _ => exact ⟨a, b, rfl⟩
  obtain ⟨fuel, hf⟩ := h
  obtain ⟨xs, m, _, hd, _, hn, hel⟩ := DataW.trod_array hu hf
  have key : ∀ (i : Nat) (c : Value), i < 2 → (((Value.agg #[c0, c1]).cells.toList.drop (i * 1)).take 1) = [c] → ∃ s : ByteArray, c = .string s ∧ xs[i]? = some (.lit (.string s.data.toList), []) := fun i c hi hcell => by
    have hx := hel i hi
    rw [hc1, hcell, List.getElem?_eq_getElem (by omega)] at hx
    obtain ⟨s, e1, e2, _⟩ := DataW.trod_string Tryd.underlying9 hx
    exact ⟨s, by simpa using e1, by rw [List.getElem?_eq_getElem (by omega), e2]⟩
  obtain ⟨s0, rfl, h0⟩ := key 0 c0 (by omega) rfl
  obtain ⟨s1, rfl, h1⟩ := key 1 c1 (by omega) rfl
  obtain ⟨y0, y1, rfl⟩ : ∃ y0 y1, xs = [y0, y1] := by
    match xs, hn with
    | [a, b], _ => exact ⟨a, b, rfl⟩
  simp only [List.getElem?_cons_zero, List.getElem?_cons_succ, Option.some.injEq] at h0 h1
  subst h0 h1
  exact ⟨s0, s1, rfl, (Prod.mk.inj hd).1⟩
theorem str2_reach {H : Type} {ts : List TypeId} {ds : List (DataW H)} (h : (DataW.weightsEach Tryd.prog ts ds).all (· ≤ reachBytes) = true) {j : Nat} {s0 s1 : ByteArray} (ht : ts[j]? = some 42) (hj : ds[j]? = some (.agg [.lit (.string s0.data.toList), .lit (.string s1.data.toList)])) : s0.size ≤ 140737488351232 ∧ s1.size ≤ 140737488351232 := by
  have hu : Tryd.prog.underlying 42 = some (.array 2 9) := by kernel_rfl
  have h3 : reachBytes = 140737488351232 := by decide
  have q0 : s0.data.toList.length ∈ DataW.weights Tryd.prog 42 (DataW.agg (H := H) [.lit (.string s0.data.toList), .lit (.string s1.data.toList)]) := by
    simp [DataW.weights, DataW.weightsAll, hu]
  have q1 : s1.data.toList.length ∈ DataW.weights Tryd.prog 42 (DataW.agg (H := H) [.lit (.string s0.data.toList), .lit (.string s1.data.toList)]) := by
    simp [DataW.weights, DataW.weightsAll, hu]
  have g0 := List.all_eq_true.1 h _ (DataW.weights_mem_each ht hj _ q0)
  have g1 := List.all_eq_true.1 h _ (DataW.weights_mem_each ht hj _ q1)
  simp only [decide_eq_true_eq] at g0 g1
  have e0 : s0.data.toList.length = s0.size := rfl
  have e1 : s1.data.toList.length = s1.size := rfl
  omega
end Go.Proofs.YtcaaljioennnnabDoor.frameu

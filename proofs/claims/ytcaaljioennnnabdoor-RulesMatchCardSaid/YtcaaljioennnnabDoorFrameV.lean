/-
 Layer 22: how arguments that are a rule, and three texts, are opened.
-/
import Derived.Test.YtcaaljioennnnabDoorFrameT
namespace Go.Proofs.YtcaaljioennnnabDoor.frameu
open Go.ChangeShapes Go.WideShapes Go.ChangeAt Go.RowKit
open Go.Proofs.YtcaaljioennnnabDoor.words Go.Proofs.YtcaaljioennnnabDoor.frame
set_option linter.all false

set_option maxRecDepth 100000 in
theorem open_str3 {H : Type} {enc : TypeId × Value → H} {W : World} {base : Nat} {v : Value} {d : DataW H} {p : List MemPlace}
    (hok : Value.okWide Tryd.prog W .any base 24 v) (h : DataW.Trod enc Tryd.prog W 0 (fun _ => true) true 24 v d p) :
    ∃ s0 s1 s2 : ByteArray, v = .agg #[.string s0, .string s1, .string s2] ∧ d = .agg [.lit (.string s0.data.toList), .lit (.string s1.data.toList), .lit (.string s2.data.toList)] := by
  have hu : Tryd.prog.underlying 24 = some (.array 3 9) := by kernel_rfl
  have hc : Tryd.prog.cellsOf 24 = 3 := by kernel_rfl
  have hc1 : Tryd.prog.cellsOf 9 = 1 := by kernel_rfl
  unfold Value.okWide at hok
  rw [hu] at hok
  obtain ⟨cs, rfl, hsz, _⟩ := hok
  obtain ⟨c0, c1, c2, rfl⟩ : ∃ c0 c1 c2, cs = #[c0, c1, c2] := by
    obtain ⟨l⟩ := cs
    have hl : l.length = 3 := hsz.trans hc
    match l, hl with
    | [a, b, c], _ => exact ⟨a, b, c, rfl⟩
  obtain ⟨fuel, hf⟩ := h
  obtain ⟨xs, m, _, hd, _, hn, hel⟩ := DataW.trod_array hu hf
  have key : ∀ (i : Nat) (c : Value), i < 3 → (((Value.agg #[c0, c1, c2]).cells.toList.drop (i * 1)).take 1) = [c] → ∃ s : ByteArray, c = .string s ∧ xs[i]? = some (.lit (.string s.data.toList), []) := fun i c hi hcell => by
    have hx := hel i hi
    rw [hc1, hcell, List.getElem?_eq_getElem (by omega)] at hx
    obtain ⟨s, e1, e2, _⟩ := DataW.trod_string Tryd.underlying9 hx
    exact ⟨s, by simpa using e1, by rw [List.getElem?_eq_getElem (by omega), e2]⟩
  obtain ⟨s0, rfl, h0⟩ := key 0 c0 (by omega) rfl
  obtain ⟨s1, rfl, h1⟩ := key 1 c1 (by omega) rfl
  obtain ⟨s2, rfl, h2⟩ := key 2 c2 (by omega) rfl
  obtain ⟨y0, y1, y2, rfl⟩ : ∃ y0 y1 y2, xs = [y0, y1, y2] := by
    match xs, hn with
    | [a, b, c], _ => exact ⟨a, b, c, rfl⟩
  simp only [List.getElem?_cons_zero, List.getElem?_cons_succ, Option.some.injEq] at h0 h1 h2
  subst h0 h1 h2
  exact ⟨s0, s1, s2, rfl, (Prod.mk.inj hd).1⟩
theorem str3_reach {H : Type} {ts : List TypeId} {ds : List (DataW H)} (h : (DataW.weightsEach Tryd.prog ts ds).all (· ≤ reachBytes) = true) {j : Nat} {s0 s1 s2 : ByteArray} (ht : ts[j]? = some 24) (hj : ds[j]? = some (.agg [.lit (.string s0.data.toList), .lit (.string s1.data.toList), .lit (.string s2.data.toList)])) : s0.size ≤ 140737488351232 ∧ s1.size ≤ 140737488351232 ∧ s2.size ≤ 140737488351232 := by
  have hu : Tryd.prog.underlying 24 = some (.array 3 9) := by kernel_rfl
  have h3 : reachBytes = 140737488351232 := by decide
  have key : ∀ s : ByteArray, s = s0 ∨ s = s1 ∨ s = s2 → s.size ≤ 140737488351232 := fun s hs => by
    have q : s.data.toList.length ∈ DataW.weights Tryd.prog 24 (DataW.agg (H := H) [.lit (.string s0.data.toList), .lit (.string s1.data.toList), .lit (.string s2.data.toList)]) := by
      rcases hs with rfl | rfl | rfl <;> simp [DataW.weights, DataW.weightsAll, hu]
    have g := List.all_eq_true.1 h _ (DataW.weights_mem_each ht hj _ q)
    simp only [decide_eq_true_eq] at g
    have e : s.data.toList.length = s.size := rfl
    omega
  exact ⟨key s0 (.inl rfl), key s1 (.inr (.inl rfl)), key s2 (.inr (.inr rfl))⟩

set_option maxRecDepth 100000 in
theorem open_rule {H : Type} {enc : TypeId × Value → H} {W : World} {base : Nat} {v : Value} {d : DataW H} {p : List MemPlace}
    (hok : Value.okWide Tryd.prog W .any base 23 v) (h : DataW.Trod enc Tryd.prog W 0 (fun _ => true) true 23 v d p) :
    ∃ (nb me : Bool) (s0 s1 s2 : ByteArray), v = .agg #[.bool nb, .bool me, .string s0, .string s1, .string s2] ∧ d = .agg [.lit (.bool nb), .lit (.bool me), .lit (.string s0.data.toList), .lit (.string s1.data.toList), .lit (.string s2.data.toList)] := by
  have hc : Tryd.prog.cellsOf 23 = 5 := by kernel_rfl
  obtain ⟨cs, rfl, hsz⟩ := okWide_struct Tryd.underlying23 hok
  obtain ⟨fuel, hf⟩ := h
  obtain ⟨c0, c1, c2, c3, c4, rfl⟩ : ∃ c0 c1 c2 c3 c4, cs = #[c0, c1, c2, c3, c4] := by
    obtain ⟨l⟩ := cs
    have hl : l.length = 5 := hsz.trans hc
    match l, hl with
    | [a, b, c, d, e], _ => exact ⟨a, b, c, d, e, rfl⟩
  obtain ⟨xs, m, _, hd, _, hn, hel⟩ := DataW.trod_struct Tryd.underlying23 hf
  have hs1 : Tryd.prog.cellsOf 9 = 1 := by kernel_rfl
  have hb1 : Tryd.prog.cellsOf 4 = 1 := by kernel_rfl
  obtain ⟨y0, y1, y2, y3, y4, rfl⟩ : ∃ y0 y1 y2 y3 y4, xs = [y0, y1, y2, y3, y4] := by
    match xs, hn with
    | [a, b, c, d, e], _ => exact ⟨a, b, c, d, e, rfl⟩
  have g0 : DataW.trod enc Tryd.prog W 0 (fun _ => true) true m 4 (([c0, c1, c2, c3, c4].drop 0).take (Tryd.prog.cellsOf 4)) = some y0 := hel 0 _ rfl
  have g1 : DataW.trod enc Tryd.prog W 0 (fun _ => true) true m 4 (([c0, c1, c2, c3, c4].drop 1).take (Tryd.prog.cellsOf 4)) = some y1 := hel 1 _ rfl
  have g2 : DataW.trod enc Tryd.prog W 0 (fun _ => true) true m 9 (([c0, c1, c2, c3, c4].drop 2).take (Tryd.prog.cellsOf 9)) = some y2 := hel 2 _ rfl
  have g3 : DataW.trod enc Tryd.prog W 0 (fun _ => true) true m 9 (([c0, c1, c2, c3, c4].drop 3).take (Tryd.prog.cellsOf 9)) = some y3 := hel 3 _ rfl
  have g4 : DataW.trod enc Tryd.prog W 0 (fun _ => true) true m 9 (([c0, c1, c2, c3, c4].drop 4).take (Tryd.prog.cellsOf 9)) = some y4 := hel 4 _ rfl
  rw [hb1] at g0 g1
  rw [hs1] at g2 g3 g4
  obtain ⟨b0, e0, x0⟩ := DataW.trod_bool Tryd.underlying4 g0
  obtain ⟨b1, e1, x1⟩ := DataW.trod_bool Tryd.underlying4 g1
  obtain ⟨s2, e2, x2, -⟩ := DataW.trod_string Tryd.underlying9 g2
  obtain ⟨s3, e3, x3, -⟩ := DataW.trod_string Tryd.underlying9 g3
  obtain ⟨s4, e4, x4, -⟩ := DataW.trod_string Tryd.underlying9 g4
  replace e0 : [c0] = [Value.bool b0] := e0
  replace e1 : [c1] = [Value.bool b1] := e1
  replace e2 : [c2] = [Value.string s2] := e2
  replace e3 : [c3] = [Value.string s3] := e3
  replace e4 : [c4] = [Value.string s4] := e4
  simp only [List.cons.injEq, and_true] at e0 e1 e2 e3 e4
  subst e0 e1 e2 e3 e4 x0 x1 x2 x3 x4
  exact ⟨b0, b1, s2, s3, s4, rfl, (Prod.mk.inj hd).1⟩
theorem rule_reach {H : Type} {ts : List TypeId} {ds : List (DataW H)} (h : (DataW.weightsEach Tryd.prog ts ds).all (· ≤ reachBytes) = true) {j : Nat} {nb me : Bool} {s0 s1 s2 : ByteArray} (ht : ts[j]? = some 23) (hj : ds[j]? = some (.agg [.lit (.bool nb), .lit (.bool me), .lit (.string s0.data.toList), .lit (.string s1.data.toList), .lit (.string s2.data.toList)])) : s0.size ≤ 140737488351232 ∧ s1.size ≤ 140737488351232 ∧ s2.size ≤ 140737488351232 := by
  have h3 : reachBytes = 140737488351232 := by decide
  have key : ∀ s : ByteArray, s = s0 ∨ s = s1 ∨ s = s2 → s.size ≤ 140737488351232 := fun s hs => by
    have q : s.data.toList.length ∈ DataW.weights Tryd.prog 23 (DataW.agg (H := H) [.lit (.bool nb), .lit (.bool me), .lit (.string s0.data.toList), .lit (.string s1.data.toList), .lit (.string s2.data.toList)]) := by
      rcases hs with rfl | rfl | rfl <;> simp [DataW.weights, DataW.weightsEach, Tryd.underlying23]
    have g := List.all_eq_true.1 h _ (DataW.weights_mem_each ht hj _ q)
    simp only [decide_eq_true_eq] at g
    have e : s.data.toList.length = s.size := rfl
    omega
  exact ⟨key s0 (.inl rfl), key s1 (.inr (.inl rfl)), key s2 (.inr (.inr rfl))⟩
end Go.Proofs.YtcaaljioennnnabDoor.frameu

/-
  Arguments that are types, and lists of types and of pairs: what lies in them, and how they are bounded.
-/
import Derived.Test.YtchhibicbgimcaaDoorFrameS
import Derived.Test.YtchhibicbgimcaaDoorFrameT
import Derived.Test.YtchhibicbgimcaaDoorLaid6
import Derived.Deep.SlicePairs
namespace Go.Proofs.YtchhibicbgimcaaDoor.frame
open Go.ChangeShapes Go.WideShapes Go.ChangeAt Go.RowKit
open Go.Proofs.YtchhibicbgimcaaDoor.words Go.Proofs.YtchhibicbgimcaaDoor.kindp Go.Proofs.YtchhibicbgimcaaDoor.kind

set_option maxRecDepth 100000 in
theorem open_type {H : Type} {enc : TypeId × Value → H} {W : World} {base : Nat} {v : Value} {d : DataW H} {p : List MemPlace}
    (hok : Value.okWide Tryd.prog W .any base 24 v) (h : DataW.Trod enc Tryd.prog W 0 (fun _ => true) true 24 v d p) :
    ∃ (k : Int) (c : Tx), v = .agg #[.int .i64 k, .string ⟨c.toArray⟩] ∧ d = .agg [.lit (.int .i64 k), .lit (.string c)] := by
  obtain ⟨cs, rfl, -⟩ := okWide_struct Tryd.underlying24 hok
  obtain ⟨fuel, hf⟩ := h
  obtain ⟨n, v0, v1, y0, y1, e, hx, g0, g1⟩ := Laid6.open_two Tryd.underlying24 (by kernel_rfl) rfl rfl (by kernel_rfl) (by kernel_rfl) hf
  obtain ⟨k, e0, x0, -⟩ := DataW.trod_int Tryd.underlying22 g0
  obtain ⟨s, e1, x1, -⟩ := DataW.trod_string Tryd.underlying9 g1
  rw [x0, x1] at hx
  simp only [List.cons.injEq, and_true] at e0 e1
  subst e0 e1
  have hcs : cs = #[.int .i64 k, .string s] := Array.toList_inj.1 (by simpa [Value.cells] using e)
  simp only [Prod.mk.injEq] at hx
  exact ⟨k, s.data.toList, by rw [hcs], hx.1⟩
/-- what the form's reach bounds -/
theorem type_reach {H : Type} {ts : List TypeId} {ds : List (DataW H)} (h : (DataW.weightsEach Tryd.prog ts ds).all (· ≤ reachBytes) = true) {j : Nat} {k : Int} {c : Tx} (ht : ts[j]? = some 24) (hj : ds[j]? = some (.agg [.lit (.int .i64 k), .lit (.string c)])) : c.length ≤ 140737488351232 := by
  have h3 : reachBytes = 140737488351232 := by decide
  have hm : c.length ∈ DataW.weights Tryd.prog 24 (DataW.agg (H := H) [.lit (.int .i64 k), .lit (.string c)]) := by
    simp [DataW.weights, DataW.weightsEach, Tryd.underlying24]
  have := List.all_eq_true.1 h _ (DataW.weights_mem_each ht hj _ hm)
  simp only [decide_eq_true_eq] at this
  omega

/-- two cells of each -/
def FL {α : Type} (f g : α → Value) (l : List α) : List Value := l.flatMap fun t => [f t, g t]
theorem fl_get {α : Type} (f g : α → Value) : ∀ (l : List α) (i : Nat), (FL f g l)[i * 2]? = l[i]?.map f ∧ (FL f g l)[i * 2 + 1]? = l[i]?.map g
  | [], i => by simp [FL]
  | x :: l, 0 => ⟨rfl, rfl⟩
  | x :: l, i + 1 => by
    have ih := fl_get f g l i
    have e : FL f g (x :: l) = [f x, g x] ++ FL f g l := rfl
    rw [e, show (i + 1) * 2 = i * 2 + 2 by omega, show i * 2 + 2 + 1 = (i * 2 + 1) + 2 by omega]
    simpa using ih
theorem fl_rd {α : Type} {W : World} {a : Addr} {n : Nat} (f g : α → Value) (q : Nat → α) (h : ∀ i, i < n → W.cell? (a.add (i * 2)) = some (f (q i)) ∧ W.cell? (a.add (i * 2 + 1)) = some (g (q i))) : Rd W (some a) (FL f g ((List.range n).map q)) := by
  by_cases h0 : n = 0
  · subst h0; exact .inl rfl
  · refine .inr ⟨a, rfl, ?_, fun j u hu => ?_⟩
    · have := cell_lt (h 0 (by omega)).1
      rwa [add_block] at this
    · obtain ⟨g0, g1⟩ := fl_get f g ((List.range n).map q) (j / 2)
      by_cases hi : j / 2 < n
      · have he : ((List.range n).map q)[j / 2]? = some (q (j / 2)) := by rw [List.getElem?_map, List.getElem?_range hi]; rfl
        obtain ⟨c0, c1⟩ := h _ hi
        rcases Nat.mod_two_eq_zero_or_one j with h2 | h2
        · rw [show j / 2 * 2 = j by omega] at g0 c0
          rw [g0, he] at hu
          rw [c0]; exact hu
        · rw [show j / 2 * 2 + 1 = j by omega] at g1 c1
          rw [g1, he] at hu
          rw [c1]; exact hu
      · exfalso
        have he : ((List.range n).map q)[j / 2]? = none := List.getElem?_eq_none (by simpa using hi)
        rcases Nat.mod_two_eq_zero_or_one j with h2 | h2
        · rw [show j / 2 * 2 = j by omega] at g0
          rw [g0, he] at hu; cases hu
        · rw [show j / 2 * 2 + 1 = j by omega] at g1
          rw [g1, he] at hu; cases hu

def dat_types {H : Type} (t : Ty) : DataW H := .agg [.lit (.int .i64 t.1), .lit (.string t.2)]
set_option maxRecDepth 100000 in
theorem open_types {H : Type} {enc : TypeId × Value → H} {W : World} {base : Nat} {v : Value} {d : DataW H} {p : List MemPlace}
    (hok : Value.okWide Tryd.prog W .any base 33 v) (h : DataW.Trod enc Tryd.prog W 0 (fun _ => true) true 33 v d p) :
    ∃ A c, ∃ l : List Ty, v = .slice A l.length c ∧ l.length ≤ c ∧ Rd W A (TL l) ∧ ((d = .nil ∧ c = 0) ∨ ∃ spare, d = .slice (l.map dat_types) spare ∧ l.length + spare.length = c) := by
  obtain ⟨A, n, c, rfl⟩ := okWide_slice Tryd.underlying33 hok
  obtain ⟨fuel, hf⟩ := h
  rcases Go.Deep.open_slice_pairs Tryd.underlying33 Tryd.underlying24 (by kernel_rfl) rfl rfl (by kernel_rfl) (by kernel_rfl) hf with ⟨hcs, hx⟩ | ⟨a, len, cap, m, k, V0, V1, D0, D1, P0, P1, hcs, _, hl, hm, hmm, hx, hcell⟩
  · simp [Value.cells] at hcs
    obtain ⟨rfl, rfl, rfl⟩ := hcs
    simp only [Prod.mk.injEq] at hx
    exact ⟨none, 0, [], rfl, Nat.le_refl _, .inl rfl, .inl ⟨hx.1, rfl⟩⟩
  · simp [Value.cells] at hcs
    obtain ⟨rfl, rfl, rfl⟩ := hcs
    simp only [Prod.mk.injEq] at hx
    have hmc : m = c := by simpa using hmm
    have each : ∀ i, i < c → ∃ q : Ty, W.cell? (a.add (i * 2)) = some (.int .i64 q.1) ∧ W.cell? (a.add (i * 2 + 1)) = some (.string ⟨q.2.toArray⟩) ∧ (DataW.agg [D0 i, D1 i] : DataW H) = dat_types q := by
      intro i hi
      obtain ⟨h0, h1, t0, t1⟩ := hcell i (by omega)
      obtain ⟨z0, e0, x0, _⟩ := DataW.trod_int Tryd.underlying22 t0
      obtain ⟨z1, e1, x1, _⟩ := DataW.trod_string Tryd.underlying9 t1
      simp only [List.cons.injEq, and_true] at e0 e1
      simp only [Prod.mk.injEq] at x0 x1
      exact ⟨(z0, z1.data.toList), by rw [h0, e0], by rw [h1, e1], by rw [x0.1, x1.1]; rfl⟩
    obtain ⟨q, hq⟩ := Go.Deep.choose_lt each
    have hdd : d = .slice (((List.range n).map q).map dat_types) ((List.range (m - n)).map fun j => .agg [D0 (n + j), D1 (n + j)]) := by
      rw [hx.1, List.map_map]
      congr 1
      exact List.map_congr_left fun i hi => (hq i (by have := List.mem_range.1 hi; omega)).2.2
    refine ⟨some a, c, (List.range n).map q, by simp, by simpa using hl, ?_, .inr ⟨_, hdd, by simp; omega⟩⟩
    exact fl_rd (fun q : Ty => .int .i64 q.1) (fun q : Ty => .string ⟨q.2.toArray⟩) q fun i hi => ⟨(hq i (by omega)).1, (hq i (by omega)).2.1⟩
/-- what the form's reach bounds -/
theorem types_reach {H : Type} {ts : List TypeId} {ds : List (DataW H)} (h : (DataW.weightsEach Tryd.prog ts ds).all (· ≤ reachBytes) = true) {j : Nat} {d : DataW H} {l : List Ty} {c : Nat} (ht : ts[j]? = some 33) (hj : ds[j]? = some d)
    (hnc : l.length ≤ c) (hd : (d = .nil ∧ c = 0) ∨ ∃ spare, d = .slice (l.map dat_types) spare ∧ l.length + spare.length = c) : l.length * 24 ≤ 140737488351232 ∧ ∀ x ∈ l, x.2.length ≤ 140737488351232 := by
  have h3 : reachBytes = 140737488351232 := by decide
  rcases hd with ⟨_, rfl⟩ | ⟨spare, rfl, hc⟩
  · have h0 : l = [] := List.eq_nil_of_length_eq_zero (by omega)
    subst h0
    exact ⟨by simp, by simp⟩
  · refine ⟨?_, fun x hx => ?_⟩
    · have := sized_slice h ht hj Tryd.underlying33
      rw [show Tryd.prog.bytesOf 24 = 24 by kernel_rfl] at this
      rw [List.length_map] at this
      omega
    · have each : ∀ m ∈ DataW.weights Tryd.prog 24 (dat_types (H := H) x), m ≤ 140737488351232 := by
        intro m hm
        have hm2 : m ∈ DataW.weights Tryd.prog 33 (.slice (l.map (dat_types (H := H))) spare) := by
          simp only [DataW.weights, Tryd.underlying33, List.mem_cons, List.mem_append]
          exact .inr (.inl (weights_all hm (List.mem_map.2 ⟨x, hx, rfl⟩)))
        have := List.all_eq_true.1 h _ (DataW.weights_mem_each ht hj _ hm2)
        simp only [decide_eq_true_eq] at this
        omega
      exact each _ (by simp [dat_types, DataW.weights, DataW.weightsEach, Tryd.underlying24])

def dat_pairs {H : Type} (t : Pr) : DataW H := .agg [.lit (.string t.1), .lit (.string t.2)]
set_option maxRecDepth 100000 in
theorem open_pairs {H : Type} {enc : TypeId × Value → H} {W : World} {base : Nat} {v : Value} {d : DataW H} {p : List MemPlace}
    (hok : Value.okWide Tryd.prog W .any base 45 v) (h : DataW.Trod enc Tryd.prog W 0 (fun _ => true) true 45 v d p) :
    ∃ A c, ∃ l : List Pr, v = .slice A l.length c ∧ l.length ≤ c ∧ Rd W A (PL l) ∧ ((d = .nil ∧ c = 0) ∨ ∃ spare, d = .slice (l.map dat_pairs) spare ∧ l.length + spare.length = c) := by
  obtain ⟨A, n, c, rfl⟩ := okWide_slice Tryd.underlying45 hok
  obtain ⟨fuel, hf⟩ := h
  rcases Go.Deep.open_slice_pairs Tryd.underlying45 Tryd.underlying51 (by kernel_rfl) rfl rfl (by kernel_rfl) (by kernel_rfl) hf with ⟨hcs, hx⟩ | ⟨a, len, cap, m, k, V0, V1, D0, D1, P0, P1, hcs, _, hl, hm, hmm, hx, hcell⟩
  · simp [Value.cells] at hcs
    obtain ⟨rfl, rfl, rfl⟩ := hcs
    simp only [Prod.mk.injEq] at hx
    exact ⟨none, 0, [], rfl, Nat.le_refl _, .inl rfl, .inl ⟨hx.1, rfl⟩⟩
  · simp [Value.cells] at hcs
    obtain ⟨rfl, rfl, rfl⟩ := hcs
    simp only [Prod.mk.injEq] at hx
    have hmc : m = c := by simpa using hmm
    have each : ∀ i, i < c → ∃ q : Pr, W.cell? (a.add (i * 2)) = some (.string ⟨q.1.toArray⟩) ∧ W.cell? (a.add (i * 2 + 1)) = some (.string ⟨q.2.toArray⟩) ∧ (DataW.agg [D0 i, D1 i] : DataW H) = dat_pairs q := by
      intro i hi
      obtain ⟨h0, h1, t0, t1⟩ := hcell i (by omega)
      obtain ⟨z0, e0, x0, _⟩ := DataW.trod_string Tryd.underlying9 t0
      obtain ⟨z1, e1, x1, _⟩ := DataW.trod_string Tryd.underlying9 t1
      simp only [List.cons.injEq, and_true] at e0 e1
      simp only [Prod.mk.injEq] at x0 x1
      exact ⟨(z0.data.toList, z1.data.toList), by rw [h0, e0], by rw [h1, e1], by rw [x0.1, x1.1]; rfl⟩
    obtain ⟨q, hq⟩ := Go.Deep.choose_lt each
    have hdd : d = .slice (((List.range n).map q).map dat_pairs) ((List.range (m - n)).map fun j => .agg [D0 (n + j), D1 (n + j)]) := by
      rw [hx.1, List.map_map]
      congr 1
      exact List.map_congr_left fun i hi => (hq i (by have := List.mem_range.1 hi; omega)).2.2
    refine ⟨some a, c, (List.range n).map q, by simp, by simpa using hl, ?_, .inr ⟨_, hdd, by simp; omega⟩⟩
    exact fl_rd (fun q : Pr => .string ⟨q.1.toArray⟩) (fun q : Pr => .string ⟨q.2.toArray⟩) q fun i hi => ⟨(hq i (by omega)).1, (hq i (by omega)).2.1⟩
/-- what the form's reach bounds -/
theorem pairs_reach {H : Type} {ts : List TypeId} {ds : List (DataW H)} (h : (DataW.weightsEach Tryd.prog ts ds).all (· ≤ reachBytes) = true) {j : Nat} {d : DataW H} {l : List Pr} {c : Nat} (ht : ts[j]? = some 45) (hj : ds[j]? = some d)
    (hnc : l.length ≤ c) (hd : (d = .nil ∧ c = 0) ∨ ∃ spare, d = .slice (l.map dat_pairs) spare ∧ l.length + spare.length = c) : l.length * 32 ≤ 140737488351232 ∧ ∀ x ∈ l, x.1.length ≤ 140737488351232 ∧ x.2.length ≤ 140737488351232 := by
  have h3 : reachBytes = 140737488351232 := by decide
  rcases hd with ⟨_, rfl⟩ | ⟨spare, rfl, hc⟩
  · have h0 : l = [] := List.eq_nil_of_length_eq_zero (by omega)
    subst h0
    exact ⟨by simp, by simp⟩
  · refine ⟨?_, fun x hx => ?_⟩
    · have := sized_slice h ht hj Tryd.underlying45
      rw [show Tryd.prog.bytesOf 51 = 32 by kernel_rfl] at this
      rw [List.length_map] at this
      omega
    · have each : ∀ m ∈ DataW.weights Tryd.prog 51 (dat_pairs (H := H) x), m ≤ 140737488351232 := by
        intro m hm
        have hm2 : m ∈ DataW.weights Tryd.prog 45 (.slice (l.map (dat_pairs (H := H))) spare) := by
          simp only [DataW.weights, Tryd.underlying45, List.mem_cons, List.mem_append]
          exact .inr (.inl (weights_all hm (List.mem_map.2 ⟨x, hx, rfl⟩)))
        have := List.all_eq_true.1 h _ (DataW.weights_mem_each ht hj _ hm2)
        simp only [decide_eq_true_eq] at this
        omega
      exact ⟨each _ (by simp [dat_pairs, DataW.weights, DataW.weightsEach, Tryd.underlying51]), each _ (by simp [dat_pairs, DataW.weights, DataW.weightsEach, Tryd.underlying51])⟩
end Go.Proofs.YtchhibicbgimcaaDoor.frame

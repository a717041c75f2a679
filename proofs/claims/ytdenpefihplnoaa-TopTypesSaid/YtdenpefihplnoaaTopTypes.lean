/-
  A type's text, found in a pool that was written and read, is the type's, for every types and other strings: walked through the program; before it, arguments that are lists of types.
-/
import Derived.Test.YtdenpefihplnoaaFrameS
import Derived.Test.YtdenpefihplnoaaFrameT
import Derived.Test.YtdenpefihplnoaaKindB
import Derived.Deep.SlicePairs
import Derived.Test.YtdenpefihplnoaaFrame
import Derived.Test.YtdenpefihplnoaaTopTypesW
import Derived.HandedShaped
/- Arguments that are lists of types: what lies in them, and how they are bounded (a seat without listed variables). -/
namespace Go.Proofs.Ytdenpefihplnoaa.frame
open Go.ChangeShapes Go.WideShapes Go.ChangeAt Go.RowKit
open Go.Proofs.Ytdenpefihplnoaa.words Go.Proofs.Ytdenpefihplnoaa.kindp Go.Proofs.Ytdenpefihplnoaa.kind

/-- two cells of each -/
def FL {α : Type} (f g : α → Value) (l : List α) : List Value := l.flatMap fun t => [f t, g t]
theorem fl_get {α : Type} (f g : α → Value) : ∀ (l : List α) (i : Nat), (FL f g l)[i * 2]? = l[i]?.map f ∧ (FL f g l)[i * 2 + 1]? = l[i]?.map g
  | [], i => by simp [FL]
  | x :: l, 0 => ⟨rfl, rfl⟩
  | x :: l, i + 1 => by
    have ih := fl_get f g l i
    have e : FL f g (x :: l) = [f x, g x] ++ FL f g l := rfl
    rw [e, show (i + 1) * 2 = i * 2 + 2 by omega, show i * 2 + 2 + 1 = (i * 2 + 1) + 2 by omega]
    simpa using ih
theorem fl_rd {α : Type} {W : World} {a : Addr} {n : Nat} (f g : α → Value) (q : Nat → α) (h : ∀ i, i < n → W.cell? (a.add (i * 2)) = some (f (q i)) ∧ W.cell? (a.add (i * 2 + 1)) = some (g (q i))) : Rd W (some a) (FL f g ((List.range n).map q)) := by
  by_cases h0 : n = 0
  · subst h0; exact .inl rfl
  · refine .inr ⟨a, rfl, ?_, fun j u hu => ?_⟩
    · have := cell_lt (h 0 (by omega)).1
      rwa [add_block] at this
    · obtain ⟨g0, g1⟩ := fl_get f g ((List.range n).map q) (j / 2)
      by_cases hi : j / 2 < n
      · have he : ((List.range n).map q)[j / 2]? = some (q (j / 2)) := by rw [List.getElem?_map, List.getElem?_range hi]; rfl
        obtain ⟨c0, c1⟩ := h _ hi
        rcases Nat.mod_two_eq_zero_or_one j with h2 | h2
        · rw [show j / 2 * 2 = j by omega] at g0 c0
          rw [g0, he] at hu
          rw [c0]; exact hu
        · rw [show j / 2 * 2 + 1 = j by omega] at g1 c1
          rw [g1, he] at hu
          rw [c1]; exact hu
      · exfalso
        have he : ((List.range n).map q)[j / 2]? = none := List.getElem?_eq_none (by simpa using hi)
        rcases Nat.mod_two_eq_zero_or_one j with h2 | h2
        · rw [show j / 2 * 2 = j by omega] at g0
          rw [g0, he] at hu; cases hu
        · rw [show j / 2 * 2 + 1 = j by omega] at g1
          rw [g1, he] at hu; cases hu

def dat_types {H : Type} (t : Ty) : DataW H := .agg [.lit (.int .i64 t.1), .lit (.string t.2)]
set_option maxRecDepth 100000 in
theorem open_types {H : Type} {enc : TypeId × Value → H} {W : World} {base : Nat} {v : Value} {d : DataW H} {p : List MemPlace}
    (hok : Value.okWide Try.prog W .any base 22 v) (h : DataW.Trod enc Try.prog W 0 (fun _ => true) true 22 v d p) :
    ∃ A c, ∃ l : List Ty, v = .slice A l.length c ∧ l.length ≤ c ∧ Rd W A (TL l) ∧ ((d = .nil ∧ c = 0) ∨ ∃ spare, d = .slice (l.map dat_types) spare ∧ l.length + spare.length = c) := by
  obtain ⟨A, n, c, rfl⟩ := okWide_slice Try.underlying22 hok
  obtain ⟨fuel, hf⟩ := h
  rcases Go.Deep.open_slice_pairs Try.underlying22 Try.underlying27 (by kernel_rfl) rfl rfl (by kernel_rfl) (by kernel_rfl) hf with ⟨hcs, hx⟩ | ⟨a, len, cap, m, k, V0, V1, D0, D1, P0, P1, hcs, _, hl, hm, hmm, hx, hcell⟩
  · simp [Value.cells] at hcs
    obtain ⟨rfl, rfl, rfl⟩ := hcs
    simp only [Prod.mk.injEq] at hx
    exact ⟨none, 0, [], rfl, Nat.le_refl _, .inl rfl, .inl ⟨hx.1, rfl⟩⟩
  · simp [Value.cells] at hcs
    obtain ⟨rfl, rfl, rfl⟩ := hcs
    simp only [Prod.mk.injEq] at hx
    have hmc : m = c := by simpa using hmm
    have each : ∀ i, i < c → ∃ q : Ty, W.cell? (a.add (i * 2)) = some (.int .i64 q.1) ∧ W.cell? (a.add (i * 2 + 1)) = some (.string ⟨q.2.toArray⟩) ∧ (DataW.agg [D0 i, D1 i] : DataW H) = dat_types q := by
      intro i hi
      obtain ⟨h0, h1, t0, t1⟩ := hcell i (by omega)
      obtain ⟨z0, e0, x0, _⟩ := DataW.trod_int Try.underlying25 t0
      obtain ⟨z1, e1, x1, _⟩ := DataW.trod_string Try.underlying9 t1
      simp only [List.cons.injEq, and_true] at e0 e1
      simp only [Prod.mk.injEq] at x0 x1
      exact ⟨(z0, z1.data.toList), by rw [h0, e0], by rw [h1, e1], by rw [x0.1, x1.1]; rfl⟩
    obtain ⟨q, hq⟩ := Go.Deep.choose_lt each
    have hdd : d = .slice (((List.range n).map q).map dat_types) ((List.range (m - n)).map fun j => .agg [D0 (n + j), D1 (n + j)]) := by
      rw [hx.1, List.map_map]
      congr 1
      exact List.map_congr_left fun i hi => (hq i (by have := List.mem_range.1 hi; omega)).2.2
    refine ⟨some a, c, (List.range n).map q, by simp, by simpa using hl, ?_, .inr ⟨_, hdd, by simp; omega⟩⟩
    exact fl_rd (fun q : Ty => .int .i64 q.1) (fun q : Ty => .string ⟨q.2.toArray⟩) q fun i hi => ⟨(hq i (by omega)).1, (hq i (by omega)).2.1⟩
/-- what the form's reach bounds -/
theorem types_reach {H : Type} {ts : List TypeId} {ds : List (DataW H)} (h : (DataW.weightsEach Try.prog ts ds).all (· ≤ reachBytes) = true) {j : Nat} {d : DataW H} {l : List Ty} {c : Nat} (ht : ts[j]? = some 22) (hj : ds[j]? = some d)
    (hnc : l.length ≤ c) (hd : (d = .nil ∧ c = 0) ∨ ∃ spare, d = .slice (l.map dat_types) spare ∧ l.length + spare.length = c) : l.length * 24 ≤ 140737488351232 ∧ ∀ x ∈ l, x.2.length ≤ 140737488351232 := by
  have h3 : reachBytes = 140737488351232 := by decide
  rcases hd with ⟨_, rfl⟩ | ⟨spare, rfl, hc⟩
  · have h0 : l = [] := List.eq_nil_of_length_eq_zero (by omega)
    subst h0
    exact ⟨by simp, by simp⟩
  · refine ⟨?_, fun x hx => ?_⟩
    · have := sized_slice h ht hj Try.underlying22
      rw [show Try.prog.bytesOf 27 = 24 by kernel_rfl] at this
      rw [List.length_map] at this
      omega
    · have each : ∀ m ∈ DataW.weights Try.prog 27 (dat_types (H := H) x), m ≤ 140737488351232 := by
        intro m hm
        have hm2 : m ∈ DataW.weights Try.prog 22 (.slice (l.map (dat_types (H := H))) spare) := by
          simp only [DataW.weights, Try.underlying22, List.mem_cons, List.mem_append]
          exact .inr (.inl (weights_all hm (List.mem_map.2 ⟨x, hx, rfl⟩)))
        have := List.all_eq_true.1 h _ (DataW.weights_mem_each ht hj _ hm2)
        simp only [decide_eq_true_eq] at this
        omega
      exact each _ (by simp [dat_types, DataW.weights, DataW.weightsEach, Try.underlying27])

end Go.Proofs.Ytdenpefihplnoaa.frame

/- A type's text, found in a pool that was written and read, is the type's, for every types and other strings: walked through the program. -/
namespace Go.Proofs.Ytdenpefihplnoaa.topTypes
open Go.ChangeShapes Go.WideShapes Go.ChangeAt Go.RowKit
open Go.Proofs.Ytdenpefihplnoaa.words Go.Proofs.Ytdenpefihplnoaa.frame

set_option maxRecDepth 100000 in
theorem lifted (os : Os) (started : os.Started) (H : Type) (enc : TypeId × Value → H) :
    ReturnsInHanded {} Try.checked os 3 .any (Rows.topTypesSpec.pre6 enc Try.prog Try.f3 Rows.topTypesRow.domain false) (Rows.topTypesSpec.post enc Try.prog Try.f3 false true false false) := by
  refine returnsInHanded_of_change_shaped (C := Try.checked) own started (by kernel_rfl) Try.func3
    (ChangeSpec.witness6 (enc := enc) (C := Try.checked) false ⟨#[], #[.slice none 0 0, .slice none 0 0], []⟩ 8 (by kernel_rfl) (by kernel_rfl) (by kernel_rfl) (by kernel_rfl)) ?_
  intro W base args ds gs before hval0 hW _ hz hSO _
  have hval : ∀ (j : Nat) t v, Try.f3.params[j]? = some t → args[j]? = some v → Value.okWide Try.prog W .any base t v := hval0
  have hW' := hW
  obtain ⟨p, q, hA0, hV, rfl, hfz, hnd⟩ := hW
  have hA : DataW.TrodAll enc Try.prog W 0 (fun _ => true) true Try.f3.params.toList args.toList ds p := hA0
  rw [Try.params3] at hA hval
  obtain ⟨v0, vs0, d0, ds0, p0, q0, hargs, rfl, rfl, h0, r0⟩ := trodAll_cons hA
  obtain ⟨v1, vs1, d1, ds1, p1, q1, rfl, rfl, rfl, h1, r1⟩ := trodAll_cons r0
  obtain ⟨rfl, rfl, rfl⟩ := trodAll_nil r1
  obtain rfl : args = #[v0, v1] := by cases args; simp_all
  obtain ⟨rfl, rfl⟩ := trodVars_none hV
  have k0 := h0
  have lt0 : ∀ x ∈ p0, x.block < W.heap.size := by obtain ⟨m, hm⟩ := k0; exact DataW.trod_lt m _ _ _ hm
  obtain ⟨A0, c0, l0, rfl, nc0, rd0, dd0⟩ := open_types (hval 0 22 v0 rfl rfl) h0
  have rc0 := types_reach hz (j := 0) rfl rfl nc0 dd0
  have k1 := h1
  have lt1 : ∀ x ∈ p1, x.block < W.heap.size := by obtain ⟨m, hm⟩ := k1; exact DataW.trod_lt m _ _ _ hm
  obtain ⟨A1, c1, l1, rfl, nc1, rd1, dd1⟩ := open_texts Try.underlying23 Try.underlying9 (by kernel_rfl) (hval 1 23 v1 rfl rfl) h1
  have rc1 := texts_reach hz (j := 1) (t := 23) rfl rfl Try.underlying23 (by kernel_rfl : Try.prog.bytesOf 9 = 16) nc1 dd1
  clear hA0
  refine (walk A0 c0 l0 A1 c1 l1 W rd0 nc0 rc0.1 rc0.2 rd1 nc1 rc1.1 rc1.2 (Try.laysM145.s1_3 W hSO)).mono fun e W' ⟨he, bel⟩ => ?_
  subst he
  exact ⟨_, rfl, _, _, _, [], _, [], hW', trodAll_mk1 (shut_bool Try.underlying4 _), (trodAll_cons_mk (Below.trod laidOut (by kernel_rfl) (of_decide_eq_true (by kernel_rfl)) k0 bel lt0) (trodAll_cons_mk (Below.trod laidOut (by kernel_rfl) (of_decide_eq_true (by kernel_rfl)) k1 bel lt1) trodAll_mk0)), rfl, bel.frame _, fun h => by cases h⟩

theorem said : Rows.TopTypesSaid :=
  OpenClaim.holds_of_wide 3 Try.f3 rfl rfl rfl rfl rfl rfl rfl ⟨rfl, rfl, rfl, rfl, rfl⟩ rfl rfl rfl rfl rfl (by kernel_rfl) Try.func3 (by kernel_rfl)
    (of_decide_eq_true (by kernel_rfl)) (by unfold Func.isWrapper; first | (rw [if_pos (by decide +kernel)]; kernel_rfl) | (rw [if_neg (by decide +kernel)]; exact ⟨rfl, rfl⟩))
    (fun os started H enc _ => lifted os started H enc)
#print axioms said
end Go.Proofs.Ytdenpefihplnoaa.topTypes

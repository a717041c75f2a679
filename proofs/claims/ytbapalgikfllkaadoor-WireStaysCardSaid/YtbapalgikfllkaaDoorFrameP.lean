/-
  The frame of an argument that is a list of reads: a slice of structs of two ints.
-/
import Derived.Test.YtbapalgikfllkaaDoorFrame
import Derived.Test.YtbapalgikfllkaaDoorWireReadsW
import Derived.Deep.SlicePairs
namespace Go.Proofs.YtbapalgikfllkaaDoor.frame
open Go.ChangeShapes Go.WideShapes Go.RowKit
open Go.Proofs.YtbapalgikfllkaaDoor.words Go.Proofs.YtbapalgikfllkaaDoor.wireReads

set_option maxRecDepth 100000 in
theorem open_reads {H : Type} {enc : TypeId × Value → H} {W : World} {base : Nat} {v : Value} {d : DataW H} {p : List MemPlace}
    (hok : Value.okWide Tryd.prog W .any base 23 v) (h : DataW.Trod enc Tryd.prog W 0 (fun _ => true) true 23 v d p) :
    ∃ A n c, ∃ l : List (Int × Int), v = .slice A n c ∧ n ≤ c ∧ l.length = n ∧ Rds W A l ∧
      ((d = .nil ∧ c = 0) ∨ ∃ elems spare, d = .slice elems spare ∧ elems.length = n ∧ elems.length + spare.length = c) := by
  obtain ⟨A, n, c, rfl⟩ := okWide_slice Tryd.underlying23 hok
  obtain ⟨fuel, hf⟩ := h
  rcases Go.Deep.open_slice_pairs Tryd.underlying23 Tryd.underlying34 (by kernel_rfl) rfl rfl (by kernel_rfl) (by kernel_rfl) hf with ⟨hcs, hx⟩ | ⟨a, len, cap, m, k, V0, V1, D0, D1, P0, P1, hcs, _, hl, hm, hmm, hx, hcell⟩
  · simp [Value.cells] at hcs
    obtain ⟨rfl, rfl, rfl⟩ := hcs
    simp only [Prod.mk.injEq] at hx
    exact ⟨none, 0, 0, [], rfl, Nat.le_refl _, rfl, fun i q hq => by simp at hq, .inl ⟨hx.1, rfl⟩⟩
  · simp [Value.cells] at hcs
    obtain ⟨rfl, rfl, rfl⟩ := hcs
    simp only [Prod.mk.injEq] at hx
    have hmc : m = c := by simpa using hmm
    have each : ∀ i, i < c → ∃ q : Int × Int, W.cell? (a.add (i * 2)) = some (.int .i64 q.1) ∧ W.cell? (a.add (i * 2 + 1)) = some (.int .i64 q.2) ∧ -9223372036854775808 ≤ q.2 ∧ q.2 ≤ 9223372036854775807 := by
      intro i hi
      obtain ⟨h0, h1, t0, t1⟩ := hcell i (by omega)
      obtain ⟨z0, e0, _, _⟩ := DataW.trod_int Tryd.underlying3 t0
      obtain ⟨z1, e1, _, w1⟩ := DataW.trod_int Tryd.underlying3 t1
      simp only [List.cons.injEq, and_true] at e0 e1
      have hb := bounds_i64 w1
      exact ⟨(z0, z1), by rw [h0, e0], by rw [h1, e1], hb.1, hb.2⟩
    obtain ⟨q, hq⟩ := Go.Deep.choose_lt each
    refine ⟨some a, n, c, (List.range n).map q, rfl, hl, by simp, ?_, .inr ⟨_, _, hx.1, by simp, ?_⟩⟩
    · intro i x hx'
      rw [List.getElem?_map] at hx'
      by_cases hi : i < n
      · rw [List.getElem?_range hi] at hx'
        simp only [Option.map_some, Option.some.injEq] at hx'
        subst hx'
        obtain ⟨g0, g1, g2, g3⟩ := hq i (by omega)
        have hlt := cell_lt g0
        rw [add_block] at hlt
        exact ⟨a, rfl, hlt, g0, g1, g2, g3⟩
      · rw [List.getElem?_eq_none (by simpa using hi)] at hx'
        simp at hx'
    · simp; omega
end Go.Proofs.YtbapalgikfllkaaDoor.frame

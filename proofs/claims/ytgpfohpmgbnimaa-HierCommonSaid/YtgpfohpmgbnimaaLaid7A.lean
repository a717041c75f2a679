/-
 Arguments that are instructions: what lies in them, and how they are bounded; the variables that layer 7 lists, as the program's text lays them.
-/
import Derived.Test.YtgpfohpmgbnimaaFrameT
import Derived.Test.YtgpfohpmgbnimaaRows
import Derived.Test.YtgpfohpmgbnimaaOpB
import Derived.Test.YtgpfohpmgbnimaaKindS
import Derived.ProofKit
import Derived.Deep.DeepHandedRow
import Derived.Lib.LaidTab
import Derived.Lib.SmallJoins
import Derived.Deep.Fields
namespace Go.Proofs.Ytgpfohpmgbnimaa.frame7
open Go.Joins Go.ChangeShapes Go.WideShapes Go.ChangeAt Go.RowKit Go.Deep
open words frame kindp opp op kind

section
variable {H : Type} {enc : TypeId × Value → H} {P : Program} {w : World} {base : Nat} {spare : Nat → Bool} {held : Bool}
theorem open_agg9 {r : Reach} {b0 : Nat} {t : TypeId} {f0 f1 f2 f3 f4 f5 f6 f7 f8 : Field} {v : Value} {d : DataW H} {p : List MemPlace} (hs : P.underlying t = some (.struct #[f0, f1, f2, f3, f4, f5, f6, f7, f8])) (hone : oneCellFields P #[f0, f1, f2, f3, f4, f5, f6, f7, f8] = true) (hC : P.cellsOf t = 9)
  (hv : Value.okWide P w r b0 t v) (h : DataW.Trod enc P w base spare held t v d p) :
  ∃ (v0 v1 v2 v3 v4 v5 v6 v7 v8 : Value) (y0 y1 y2 y3 y4 y5 y6 y7 y8 : DataW H × List MemPlace) (n : Nat), v = .agg #[v0, v1, v2, v3, v4, v5, v6, v7, v8] ∧ d = .agg [y0.1, y1.1, y2.1, y3.1, y4.1, y5.1, y6.1, y7.1, y8.1] ∧
   DataW.trod enc P w base spare held n f0.type [v0] = some y0 ∧ DataW.trod enc P w base spare held n f1.type [v1] = some y1 ∧ DataW.trod enc P w base spare held n f2.type [v2] = some y2 ∧ DataW.trod enc P w base spare held n f3.type [v3] = some y3 ∧ DataW.trod enc P w base spare held n f4.type [v4] = some y4 ∧ DataW.trod enc P w base spare held n f5.type [v5] = some y5 ∧ DataW.trod enc P w base spare held n f6.type [v6] = some y6 ∧ DataW.trod enc P w base spare held n f7.type [v7] = some y7 ∧ DataW.trod enc P w base spare held n f8.type [v8] = some y8 := by
 obtain ⟨cs, rfl, hsz⟩ := okWide_struct hs hv
 obtain ⟨l⟩ := cs
 match l, hsz.trans hC with
 | [c0, c1, c2, c3, c4, c5, c6, c7, c8], _ =>
  obtain ⟨fuel, hf⟩ := h
  obtain ⟨xs, n, _, hx, _, hlen, hg⟩ := DataW.trod_struct hs hf
  obtain ⟨o0, k0⟩ := hone_of hone 0 f0 rfl
  obtain ⟨o1, k1⟩ := hone_of hone 1 f1 rfl
  obtain ⟨o2, k2⟩ := hone_of hone 2 f2 rfl
  obtain ⟨o3, k3⟩ := hone_of hone 3 f3 rfl
  obtain ⟨o4, k4⟩ := hone_of hone 4 f4 rfl
  obtain ⟨o5, k5⟩ := hone_of hone 5 f5 rfl
  obtain ⟨o6, k6⟩ := hone_of hone 6 f6 rfl
  obtain ⟨o7, k7⟩ := hone_of hone 7 f7 rfl
  obtain ⟨o8, k8⟩ := hone_of hone 8 f8 rfl
  match xs, hlen with
  | [y0, y1, y2, y3, y4, y5, y6, y7, y8], _ =>
   simp only [Prod.mk.injEq] at hx
   exact ⟨c0, c1, c2, c3, c4, c5, c6, c7, c8, y0, y1, y2, y3, y4, y5, y6, y7, y8, n, rfl, by simpa using hx.1, by simpa [Value.cells, o0, k0] using hg 0 f0 rfl, by simpa [Value.cells, o1, k1] using hg 1 f1 rfl, by simpa [Value.cells, o2, k2] using hg 2 f2 rfl, by simpa [Value.cells, o3, k3] using hg 3 f3 rfl, by simpa [Value.cells, o4, k4] using hg 4 f4 rfl, by simpa [Value.cells, o5, k5] using hg 5 f5 rfl, by simpa [Value.cells, o6, k6] using hg 6 f6 rfl, by simpa [Value.cells, o7, k7] using hg 7 f7 rfl, by simpa [Value.cells, o8, k8] using hg 8 f8 rfl⟩
end

/-- an instruction's datum -/
def dat_in {H : Type} (i : In) (e : DataW H) : DataW H := .agg [.lit (.int .i64 i.o), .lit (.int .i64 i.a), .lit (.int .i64 i.b), .lit (.int .i64 i.c), .lit (.int .i64 i.k), .lit (.string i.cl), .lit (.string i.nm), .lit (.string i.ds), e]
set_option maxRecDepth 100000 in
theorem open_instr {H : Type} {enc : TypeId × Value → H} {W : World} {base : Nat} {v : Value} {d : DataW H} {p : List MemPlace}
  (hok : Value.okWide Try.prog W .any base 55 v) (h : DataW.Trod enc Try.prog W 0 (fun _ => true) true 55 v d p) :
  ∃ (i : In) (A : Option Addr) (c : Nat) (e : DataW H), v = .agg (InV i A c) ∧ i.ar.length ≤ c ∧ Rd W A (IL i.ar) ∧ d = dat_in i e ∧ ((e = .nil ∧ c = 0) ∨ ∃ elems spare, e = .slice elems spare ∧ elems.length = i.ar.length ∧ elems.length + spare.length = c) := by
 have hok2 := hok
 obtain ⟨v0, v1, v2, v3, v4, v5, v6, v7, v8, y0, y1, y2, y3, y4, y5, y6, y7, y8, n, rfl, rfl, t0, t1, t2, t3, t4, t5, t6, t7, t8⟩ := open_agg9 Try.underlying55 (by kernel_rfl) (by kernel_rfl) hok h
 obtain ⟨z0, e0, x0, -⟩ := DataW.trod_int Try.underlying52 t0
 obtain ⟨z1, e1, x1, -⟩ := DataW.trod_int Try.underlying3 t1
 obtain ⟨z2, e2, x2, -⟩ := DataW.trod_int Try.underlying3 t2
 obtain ⟨z3, e3, x3, -⟩ := DataW.trod_int Try.underlying3 t3
 obtain ⟨z4, e4, x4, -⟩ := DataW.trod_int Try.underlying2 t4
 obtain ⟨s5, e5, x5, -⟩ := DataW.trod_string Try.underlying9 t5
 obtain ⟨s6, e6, x6, -⟩ := DataW.trod_string Try.underlying9 t6
 obtain ⟨s7, e7, x7, -⟩ := DataW.trod_string Try.underlying9 t7
 simp only [List.cons.injEq, and_true] at e0 e1 e2 e3 e4 e5 e6 e7
 subst e0 e1 e2 e3 e4 e5 e6 e7
 rcases open_ints Try.underlying53 Try.underlying3 (by kernel_rfl) t8 with ⟨hcs, hx⟩ | ⟨x, l, cp, zs, hcs, _, hl, hm, hz, hx, hcell, hwz⟩
 ·simp at hcs
  subst hcs
  refine ⟨⟨z0, z1, z2, z3, z4, s5.data.toList, s6.data.toList, s7.data.toList, []⟩, none, 0, y8.1, rfl, Nat.le_refl _, .inl rfl, ?_, .inl ⟨by rw [hx], rfl⟩⟩
  rw [x0, x1, x2, x3, x4, x5, x6, x7]; rfl
 ·simp at hcs
  subst hcs
  have hzc : zs.length = cp := by simpa using hz
  refine ⟨⟨z0, z1, z2, z3, z4, s5.data.toList, s6.data.toList, s7.data.toList, zs.take l⟩, some x, cp, y8.1, ?_, ?_, ?_, ?_, .inr ?_⟩
  ·have : (zs.take l).length = l := by rw [List.length_take]; omega
   simp [InV, this]
  ·show (zs.take l).length ≤ cp
   rw [List.length_take]; omega
  ·by_cases h0 : l = 0
   ·subst h0; exact .inl (by simp [IL])
   ·refine .inr ⟨x, rfl, ?_, fun j u hu => ?_⟩
    ·have := cell_lt (hcell 0 (by omega))
     rwa [add_block] at this
    ·show W.cell? _ = _
     unfold IL at hu
     rw [List.getElem?_map, List.getElem?_take] at hu
     split at hu
     ·rw [hcell j (by omega)]
      rw [List.getElem?_eq_getElem (by omega)] at hu
      rw [← hu]
      simp [List.getD, List.getElem?_eq_getElem (show j < zs.length by omega)]
     ·cases hu
  ·rw [x0, x1, x2, x3, x4, x5, x6, x7]; rfl
  ·refine ⟨_, _, (by rw [hx]), ?_, ?_⟩
   ·simp [lits, List.length_take]
   ·simp [lits]; omega
/-- what the form's reach bounds -/
theorem instr_reach {H : Type} {ts : List TypeId} {ds : List (DataW H)} (h : (DataW.weightsEach Try.prog ts ds).all (· ≤ reachBytes) = true) {j : Nat} {i : In} {c : Nat} {e : DataW H} (ht : ts[j]? = some 55) (hj : ds[j]? = some (dat_in i e)) (hc : i.ar.length ≤ c)
  (he : (e = .nil ∧ c = 0) ∨ ∃ elems spare, e = .slice elems spare ∧ elems.length = i.ar.length ∧ elems.length + spare.length = c) :
  i.ar.length ≤ 140737488351232 ∧ i.cl.length ≤ 140737488351232 ∧ i.nm.length ≤ 140737488351232 ∧ i.ds.length ≤ 140737488351232 := by
 have h3 : reachBytes = 140737488351232 := by decide
 have hall := fun m hm => List.all_eq_true.1 h m (DataW.weights_mem_each ht hj m hm)
 have hw : ∀ m, m ∈ DataW.weights Try.prog 55 (dat_in (H := H) i e) → m ≤ 140737488351232 := fun m hm => by
  have := hall m hm
  simp only [decide_eq_true_eq] at this
  omega
 refine ⟨?_, hw _ ?_, hw _ ?_, hw _ ?_⟩
 ·rcases he with ⟨_, rfl⟩ | ⟨elems, spare, rfl, h1, h2⟩
  ·omega
  ·have := hw ((elems.length + spare.length) * Try.prog.bytesOf 3) (by simp [dat_in, DataW.weights, DataW.weightsEach, Try.underlying55, Try.underlying53])
   rw [show Try.prog.bytesOf 3 = 8 by kernel_rfl] at this
   omega
 ·simp [dat_in, DataW.weights, DataW.weightsEach, Try.underlying55]
 ·simp [dat_in, DataW.weights, DataW.weightsEach, Try.underlying55]
 ·simp [dat_in, DataW.weights, DataW.weightsEach, Try.underlying55]
end Go.Proofs.Ytgpfohpmgbnimaa.frame7

namespace Go.Proofs.Ytgpfohpmgbnimaa.Laid7
open Go.ChangeShapes Go.WideShapes Go.ChangeAt Go.RowKit
open kindp opp op kind
/-- a struct of two cells, read -/
theorem open_two {H : Type} {enc : TypeId × Value → H} {P : Program} {w : World} {base : Nat} {spare : Nat → Bool} {held : Bool} {t : TypeId} {f0 f1 : Field} {fuel : Nat} {cs : List Value} {x : DataW H × List MemPlace} (ht : P.underlying t = some (.struct #[f0, f1])) (ce : P.cellsOf t = 2)
  (o0 : f0.offset = 0) (o1 : f1.offset = 1) (c0 : P.cellsOf f0.type = 1) (c1 : P.cellsOf f1.type = 1) (h : DataW.trod enc P w base spare held fuel t cs = some x) :
  ∃ (n : Nat) (v0 v1 : Value) (y0 y1 : DataW H × List MemPlace), cs = [v0, v1] ∧ x = (.agg [y0.1, y1.1], y0.2 ++ y1.2) ∧ DataW.trod enc P w base spare held n f0.type [v0] = some y0 ∧ DataW.trod enc P w base spare held n f1.type [v1] = some y1 := by
 obtain ⟨xs, n, _, hxy, hl, hxl, hf⟩ := DataW.trod_struct ht h
 rw [ce] at hl
 match xs, hxl, cs, hl with
 | [y0, y1], _, [v0, v1], _ =>
  have g0 := hf 0 f0 rfl
  have g1 := hf 1 f1 rfl
  simp [o0, o1, c0, c1] at g0 g1
  exact ⟨n, v0, v1, y0, y1, rfl, by rw [hxy]; simp, g0, g1⟩
end Go.Proofs.Ytgpfohpmgbnimaa.Laid7

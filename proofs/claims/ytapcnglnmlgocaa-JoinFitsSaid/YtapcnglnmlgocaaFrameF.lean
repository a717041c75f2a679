/- FrameF -/
import Derived.Test.YtapcnglnmlgocaaOp
import Derived.Lib.SmallJoins
import Derived.Test.YtapcnglnmlgocaaPrgO
namespace Go.Proofs.Ytapcnglnmlgocaa.frame3
open Go.ChangeShapes Go.WideShapes Go.ChangeAt Go.RowKit
open Go.Proofs.Ytapcnglnmlgocaa.words
set_option maxRecDepth 100000
set_option linter.all false
theorem open_three {H : Type} {enc : TypeId × Value → H} {W : World} {base : Nat} {v : Value} {d : DataW H} {p : List MemPlace}
  (hok : Value.okWide Try.prog W .any base 28 v) (h : DataW.Trod enc Try.prog W 0 (fun _ => true) true 28 v d p) :
  ∃ x y z : Nat, v = .agg #[.int .u8 (x : Int), .int .u8 (y : Int), .int .u8 (z : Int)] ∧ x < 256 ∧ y < 256 ∧ z < 256 := by
 have hu : Try.prog.underlying 28 = some (.array 3 5) := by kernel_rfl
 have hc : Try.prog.cellsOf 28 = 3 := by kernel_rfl
 have hc1 : Try.prog.cellsOf 5 = 1 := by kernel_rfl
 unfold Value.okWide at hok
 rw [hu] at hok
 obtain ⟨cs, rfl, hsz, _⟩ := hok
 obtain ⟨c0, c1, c2, rfl⟩ := Go.Joins.array3 (hsz.trans hc)
 obtain ⟨fuel, hf⟩ := h
 obtain ⟨xs, m, _, _, _, hn, hel⟩ := DataW.trod_array hu hf
 have key : ∀ (i : Nat) (c : Value), i < 3 → (((Value.agg #[c0, c1, c2]).cells.toList.drop (i * 1)).take 1) = [c] → ∃ x : Nat, c = .int .u8 (x : Int) ∧ x < 256 := fun i c hi hcell => by
  have hx := hel i hi
  rw [hc1, hcell, List.getElem?_eq_getElem (by omega)] at hx
  obtain ⟨k, e1, _, hw⟩ := DataW.trod_int Try.underlying5 hx
  have hb := bounds_u8 hw
  refine ⟨k.toNat, ?_, by omega⟩
  rw [Int.toNat_of_nonneg hb.1]
  simpa using e1
 obtain ⟨x, rfl, hx⟩ := key 0 c0 (by omega) rfl
 obtain ⟨y, rfl, hy⟩ := key 1 c1 (by omega) rfl
 obtain ⟨z, rfl, hz⟩ := key 2 c2 (by omega) rfl
 exact ⟨x, y, z, rfl, hx, hy, hz⟩
end Go.Proofs.Ytapcnglnmlgocaa.frame3
namespace Go.Proofs.Ytapcnglnmlgocaa.framej
open Go.ChangeShapes Go.WideShapes Go.ChangeAt Go.RowKit
open Go.Proofs.Ytapcnglnmlgocaa.words
set_option maxRecDepth 100000
theorem one_fact {H : Type} {enc : TypeId × Value → H} {W : World} {n : Nat} {cs : List Value} {x : DataW H × List MemPlace} (h : DataW.trod enc Try.prog W 0 (fun _ => true) true n 50 cs = some x) : ∃ (k : Int) (c : List UInt8), cs = [Value.int .i64 k, .string ⟨c.toArray⟩] := by
 obtain ⟨m, v0, v1, y0, y1, e, hx, g0, g1⟩ := Laid7.open_two Try.underlying50 (by kernel_rfl) rfl rfl (by kernel_rfl) (by kernel_rfl) h
 obtain ⟨k, e0, x0, -⟩ := DataW.trod_int Try.underlying48 g0
 obtain ⟨s, e1, x1, -⟩ := DataW.trod_string Try.underlying9 g1
 simp only [List.cons.injEq, and_true] at e0 e1
 subst e0 e1
 exact ⟨k, s.data.toList, by rw [e]⟩
end Go.Proofs.Ytapcnglnmlgocaa.framej
namespace Go.Proofs.Ytapcnglnmlgocaa.framej
open Go.ChangeShapes Go.WideShapes Go.ChangeAt Go.RowKit
open Go.Proofs.Ytapcnglnmlgocaa.words
set_option maxRecDepth 100000
set_option linter.all false
theorem one_type {H : Type} {enc : TypeId × Value → H} {W : World} {n : Nat} {cs : List Value} {x : DataW H × List MemPlace} (h : DataW.trod enc Try.prog W 0 (fun _ => true) true n 61 cs = some x) : ∃ (k : Int) (c : List UInt8), cs = [Value.int .i64 k, .string ⟨c.toArray⟩] := by
 obtain ⟨m, v0, v1, y0, y1, e, hx, g0, g1⟩ := Laid7.open_two Try.underlying61 (by kernel_rfl) rfl rfl (by kernel_rfl) (by kernel_rfl) h
 obtain ⟨k, e0, x0, -⟩ := DataW.trod_int Try.underlying59 g0
 obtain ⟨s, e1, x1, -⟩ := DataW.trod_string Try.underlying9 g1
 simp only [List.cons.injEq, and_true] at e0 e1
 subst e0 e1
 exact ⟨k, s.data.toList, by rw [e]⟩
theorem open_fitting {H : Type} {enc : TypeId × Value → H} {W : World} {base : Nat} {v : Value} {d : DataW H} {p : List MemPlace}
  (hok : Value.okWide Try.prog W .any base 63 v) (h : DataW.Trod enc Try.prog W 0 (fun _ => true) true 63 v d p) :
  ∃ (k1 k2 k3 : Int) (d1 d2 d3 : List UInt8), v = .agg #[.int .i64 k1, .string ⟨d1.toArray⟩, .int .i64 k2, .string ⟨d2.toArray⟩, .int .i64 k3, .string ⟨d3.toArray⟩] := by
 have hu0 : Try.prog.underlying 51 = some (.array 2 50) := by kernel_rfl
 have hc : Try.prog.cellsOf 63 = 6 := by kernel_rfl
 have hc2 : Try.prog.cellsOf 51 = 4 := by kernel_rfl
 have hct : Try.prog.cellsOf 61 = 2 := by kernel_rfl
 have hc1 : Try.prog.cellsOf 50 = 2 := by kernel_rfl
 obtain ⟨cs, rfl, -⟩ := okWide_struct Try.underlying63 hok
 obtain ⟨l⟩ := cs
 obtain ⟨fuel, hf⟩ := h
 replace hf : DataW.trod enc Try.prog W 0 (fun _ => true) true fuel 63 l = some (d, p) := hf
 obtain ⟨xs, n, -, hx, hcl, hxl, hat⟩ := DataW.trod_struct Try.underlying63 hf
 rw [hc] at hcl
 match xs, hxl, l, hcl with
 | [y0, y1], _, [c0, c1, c2, c3, c4, c5], _ =>
  have t0 : DataW.trod enc Try.prog W 0 (fun _ => true) true n 51 ((List.drop 0 [c0, c1, c2, c3, c4, c5]).take (Try.prog.cellsOf 51)) = some y0 := hat 0 _ rfl
  have t1 : DataW.trod enc Try.prog W 0 (fun _ => true) true n 61 ((List.drop 4 [c0, c1, c2, c3, c4, c5]).take (Try.prog.cellsOf 61)) = some y1 := hat 1 _ rfl
  rw [hc2] at t0; rw [hct] at t1
  simp only [List.drop_succ_cons, List.drop_zero, List.take_succ_cons, List.take_zero] at t0 t1
  obtain ⟨k3, d3, e3⟩ := one_type t1
  obtain ⟨xs2, m, _, _, _, hn, hel⟩ := DataW.trod_array hu0 t0
  have key : ∀ (i : Nat) (a b : Value), i < 2 → ((([c0, c1, c2, c3]).drop (i * 2)).take 2) = [a, b] → ∃ (k : Int) (c : List UInt8), a = .int .i64 k ∧ b = .string ⟨c.toArray⟩ := fun i a b hi hcell => by
   have hx := hel i hi
   rw [hc1, hcell, List.getElem?_eq_getElem (by omega)] at hx
   obtain ⟨k, c, e⟩ := one_fact hx
   simp only [List.cons.injEq, and_true] at e
   exact ⟨k, c, e.1, e.2⟩
  obtain ⟨k1, d1, rfl, rfl⟩ := key 0 c0 c1 (by omega) rfl
  obtain ⟨k2, d2, rfl, rfl⟩ := key 1 c2 c3 (by omega) rfl
  simp only [List.cons.injEq, and_true] at e3
  obtain ⟨rfl, rfl⟩ := e3
  exact ⟨k1, k2, k3, d1, d2, d3, rfl⟩
end Go.Proofs.Ytapcnglnmlgocaa.framej

/- FrameJ -/
import Derived.Test.YtapcnglnmlgocaaOp
import Derived.Lib.SmallJoins
import Derived.Test.YtapcnglnmlgocaaPrgO
namespace Go.Proofs.Ytapcnglnmlgocaa.frame3
open Go.ChangeShapes Go.WideShapes Go.ChangeAt Go.RowKit
open Go.Proofs.Ytapcnglnmlgocaa.words
end Go.Proofs.Ytapcnglnmlgocaa.frame3
namespace Go.Proofs.Ytapcnglnmlgocaa.framej
open Go.ChangeShapes Go.WideShapes Go.ChangeAt Go.RowKit
open Go.Proofs.Ytapcnglnmlgocaa.words
set_option maxRecDepth 100000
set_option linter.all false
theorem open_bytes2 {H : Type} {enc : TypeId × Value → H} {W : World} {base : Nat} {v : Value} {d : DataW H} {p : List MemPlace}
  (hok : Value.okWide Try.prog W .any base 52 v) (h : DataW.Trod enc Try.prog W 0 (fun _ => true) true 52 v d p) :
  ∃ x y : Nat, v = .agg #[.int .u8 (x : Int), .int .u8 (y : Int)] ∧ x < 256 ∧ y < 256 := by
 have hu : Try.prog.underlying 52 = some (.array 2 5) := by kernel_rfl
 have hc : Try.prog.cellsOf 52 = 2 := by kernel_rfl
 have hc1 : Try.prog.cellsOf 5 = 1 := by kernel_rfl
 unfold Value.okWide at hok
 rw [hu] at hok
 obtain ⟨cs, rfl, hsz, _⟩ := hok
 obtain ⟨c0, c1, rfl⟩ := Go.Joins.array2 (hsz.trans hc)
 obtain ⟨fuel, hf⟩ := h
 obtain ⟨xs, m, _, _, _, hn, hel⟩ := DataW.trod_array hu hf
 have key : ∀ (i : Nat) (c : Value), i < 2 → (((Value.agg #[c0, c1]).cells.toList.drop (i * 1)).take 1) = [c] → ∃ x : Nat, c = .int .u8 (x : Int) ∧ x < 256 := fun i c hi hcell => by
  have hx := hel i hi
  rw [hc1, hcell, List.getElem?_eq_getElem (by omega)] at hx
  obtain ⟨k, e1, _, hw⟩ := DataW.trod_int Try.underlying5 hx
  have hb := bounds_u8 hw
  refine ⟨k.toNat, ?_, by omega⟩
  rw [Int.toNat_of_nonneg hb.1]
  simpa using e1
 obtain ⟨x, rfl, hx⟩ := key 0 c0 (by omega) rfl
 obtain ⟨y, rfl, hy⟩ := key 1 c1 (by omega) rfl
 exact ⟨x, y, rfl, hx, hy⟩
theorem one_fact {H : Type} {enc : TypeId × Value → H} {W : World} {n : Nat} {cs : List Value} {x : DataW H × List MemPlace} (h : DataW.trod enc Try.prog W 0 (fun _ => true) true n 50 cs = some x) : ∃ (k : Int) (c : List UInt8), cs = [Value.int .i64 k, .string ⟨c.toArray⟩] := by
 obtain ⟨m, v0, v1, y0, y1, e, hx, g0, g1⟩ := Laid7.open_two Try.underlying50 (by kernel_rfl) rfl rfl (by kernel_rfl) (by kernel_rfl) h
 obtain ⟨k, e0, x0, -⟩ := DataW.trod_int Try.underlying48 g0
 obtain ⟨s, e1, x1, -⟩ := DataW.trod_string Try.underlying9 g1
 simp only [List.cons.injEq, and_true] at e0 e1
 subst e0 e1
 exact ⟨k, s.data.toList, by rw [e]⟩
theorem open_facts2 {H : Type} {enc : TypeId × Value → H} {W : World} {base : Nat} {v : Value} {d : DataW H} {p : List MemPlace}
  (hok : Value.okWide Try.prog W .any base 51 v) (h : DataW.Trod enc Try.prog W 0 (fun _ => true) true 51 v d p) :
  ∃ (k1 k2 : Int) (d1 d2 : List UInt8), v = .agg #[.int .i64 k1, .string ⟨d1.toArray⟩, .int .i64 k2, .string ⟨d2.toArray⟩] := by
 have hu : Try.prog.underlying 51 = some (.array 2 50) := by kernel_rfl
 have hc : Try.prog.cellsOf 51 = 4 := by kernel_rfl
 have hc1 : Try.prog.cellsOf 50 = 2 := by kernel_rfl
 unfold Value.okWide at hok
 rw [hu] at hok
 obtain ⟨cs, rfl, hsz, _⟩ := hok
 obtain ⟨c0, c1, c2, c3, rfl⟩ := Go.Joins.array4 (hsz.trans hc)
 obtain ⟨fuel, hf⟩ := h
 obtain ⟨xs, m, _, _, _, hn, hel⟩ := DataW.trod_array hu hf
 have key : ∀ (i : Nat) (a b : Value), i < 2 → (((Value.agg #[c0, c1, c2, c3]).cells.toList.drop (i * 2)).take 2) = [a, b] → ∃ (k : Int) (c : List UInt8), a = .int .i64 k ∧ b = .string ⟨c.toArray⟩ := fun i a b hi hcell => by
  have hx := hel i hi
  rw [hc1, hcell, List.getElem?_eq_getElem (by omega)] at hx
  obtain ⟨k, c, e⟩ := one_fact hx
  simp only [List.cons.injEq, and_true] at e
  exact ⟨k, c, e.1, e.2⟩
 obtain ⟨k1, d1, rfl, rfl⟩ := key 0 c0 c1 (by omega) rfl
 obtain ⟨k2, d2, rfl, rfl⟩ := key 1 c2 c3 (by omega) rfl
 exact ⟨k1, k2, d1, d2, rfl⟩
end Go.Proofs.Ytapcnglnmlgocaa.framej

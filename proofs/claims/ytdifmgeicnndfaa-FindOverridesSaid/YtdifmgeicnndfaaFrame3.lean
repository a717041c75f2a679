/- Frame3 -/
import Derived.Test.YtdifmgeicnndfaaNormE
import Derived.Lib.SmallJoins
namespace Go.Proofs.Ytdifmgeicnndfaa.frame3
open Go.ChangeShapes Go.WideShapes Go.ChangeAt Go.RowKit
open Go.Proofs.Ytdifmgeicnndfaa.words
set_option maxRecDepth 100000
set_option linter.all false
theorem open_three {H : Type} {enc : TypeId × Value → H} {W : World} {base : Nat} {v : Value} {d : DataW H} {p : List MemPlace}
  (hok : Value.okWide Try.prog W .any base 28 v) (h : DataW.Trod enc Try.prog W 0 (fun _ => true) true 28 v d p) :
  ∃ x y z : Nat, v = .agg #[.int .u8 (x : Int), .int .u8 (y : Int), .int .u8 (z : Int)] ∧ x < 256 ∧ y < 256 ∧ z < 256 := by
 have hu : Try.prog.underlying 28 = some (.array 3 5) := by kernel_rfl
 have hc : Try.prog.cellsOf 28 = 3 := by kernel_rfl
 have hc1 : Try.prog.cellsOf 5 = 1 := by kernel_rfl
 unfold Value.okWide at hok
 rw [hu] at hok
 obtain ⟨cs, rfl, hsz, _⟩ := hok
 obtain ⟨c0, c1, c2, rfl⟩ := Go.Joins.array3 (hsz.trans hc)
 obtain ⟨fuel, hf⟩ := h
 obtain ⟨xs, m, _, _, _, hn, hel⟩ := DataW.trod_array hu hf
 have key : ∀ (i : Nat) (c : Value), i < 3 → (((Value.agg #[c0, c1, c2]).cells.toList.drop (i * 1)).take 1) = [c] → ∃ x : Nat, c = .int .u8 (x : Int) ∧ x < 256 := fun i c hi hcell => by
  have hx := hel i hi
  rw [hc1, hcell, List.getElem?_eq_getElem (by omega)] at hx
  obtain ⟨k, e1, _, hw⟩ := DataW.trod_int Try.underlying5 hx
  have hb := bounds_u8 hw
  refine ⟨k.toNat, ?_, by omega⟩
  rw [Int.toNat_of_nonneg hb.1]
  simpa using e1
 obtain ⟨x, rfl, hx⟩ := key 0 c0 (by omega) rfl
 obtain ⟨y, rfl, hy⟩ := key 1 c1 (by omega) rfl
 obtain ⟨z, rfl, hz⟩ := key 2 c2 (by omega) rfl
 exact ⟨x, y, z, rfl, hx, hy, hz⟩
end Go.Proofs.Ytdifmgeicnndfaa.frame3

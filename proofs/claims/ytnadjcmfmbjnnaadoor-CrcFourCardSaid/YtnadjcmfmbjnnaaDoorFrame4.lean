/-
  How an argument that is an array of four bytes is opened: its four numbers.
-/
import Derived.Test.YtnadjcmfmbjnnaaDoorFrame
import Derived.Lib.SmallJoins
namespace Go.Proofs.YtnadjcmfmbjnnaaDoor.frame4
open Go.ChangeShapes Go.WideShapes Go.ChangeAt Go.RowKit
open Go.Proofs.YtnadjcmfmbjnnaaDoor.words

theorem open_four {H : Type} {enc : TypeId × Value → H} {W : World} {base : Nat} {v : Value} {d : DataW H} {p : List MemPlace}
    (hok : Value.okWide Tryd.prog W .any base 38 v) (h : DataW.Trod enc Tryd.prog W 0 (fun _ => true) true 38 v d p) :
    ∃ x y z u : Nat, v = .agg #[.int .u8 (x : Int), .int .u8 (y : Int), .int .u8 (z : Int), .int .u8 (u : Int)] ∧ x < 256 ∧ y < 256 ∧ z < 256 ∧ u < 256 := by
  have hu : Tryd.prog.underlying 38 = some (.array 4 5) := by kernel_rfl
  have hc : Tryd.prog.cellsOf 38 = 4 := by kernel_rfl
  have hc1 : Tryd.prog.cellsOf 5 = 1 := by kernel_rfl
  unfold Value.okWide at hok
  rw [hu] at hok
  obtain ⟨cs, rfl, hsz, _⟩ := hok
  obtain ⟨c0, c1, c2, c3, rfl⟩ := Go.Joins.array4 (hsz.trans hc)
  obtain ⟨fuel, hf⟩ := h
  obtain ⟨xs, m, _, _, _, hn, hel⟩ := DataW.trod_array hu hf
  have key : ∀ (i : Nat) (c : Value), i < 4 → (((Value.agg #[c0, c1, c2, c3]).cells.toList.drop (i * 1)).take 1) = [c] → ∃ x : Nat, c = .int .u8 (x : Int) ∧ x < 256 := fun i c hi hcell => by
    have hx := hel i hi
    rw [hc1, hcell, List.getElem?_eq_getElem (by omega)] at hx
    obtain ⟨k, e1, _, hw⟩ := DataW.trod_int Tryd.underlying5 hx
    have hb := bounds_u8 hw
    refine ⟨k.toNat, ?_, by omega⟩
    rw [Int.toNat_of_nonneg hb.1]
    simpa using e1
  obtain ⟨x, rfl, hx⟩ := key 0 c0 (by omega) rfl
  obtain ⟨y, rfl, hy⟩ := key 1 c1 (by omega) rfl
  obtain ⟨z, rfl, hz⟩ := key 2 c2 (by omega) rfl
  obtain ⟨u, rfl, hu'⟩ := key 3 c3 (by omega) rfl
  exact ⟨x, y, z, u, rfl, hx, hy, hz, hu'⟩
end Go.Proofs.YtnadjcmfmbjnnaaDoor.frame4

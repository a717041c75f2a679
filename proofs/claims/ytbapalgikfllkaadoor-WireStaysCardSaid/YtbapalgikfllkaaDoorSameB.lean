/-
  Do both readers stand alike? They do.
-/
import Derived.Test.YtbapalgikfllkaaDoorBoth4
namespace Go.Proofs.YtbapalgikfllkaaDoor.both
open Go.RowKit
open Go.Proofs.YtbapalgikfllkaaDoor.num Go.Proofs.YtbapalgikfllkaaDoor.words Go.Proofs.YtbapalgikfllkaaDoor.rdnum Go.Proofs.YtbapalgikfllkaaDoor.rdr Go.Proofs.YtbapalgikfllkaaDoor.give Go.Proofs.YtbapalgikfllkaaDoor.sealing Go.Proofs.YtbapalgikfllkaaDoor.meth Go.Proofs.YtbapalgikfllkaaDoor.refr

set_option maxRecDepth 100000 in
set_option maxHeartbeats 1600000 in
theorem same_any (d : Nat) (s : Rs) (base : Nat) (w : World) (h : Pair w d s base) :
    Calls Tryd.prog 16 #[.pointer (some ⟨d, 0, none⟩)] w fun e w' => e = .returned (.bool true) ∧ Below w.heap.size w w' := by
  obtain ⟨b, c, hh, hw, hr, -, -, -⟩ := h
  have d0 : w.cell? ⟨d, 0, none⟩ = some (.pointer (some ⟨b, 0, none⟩)) := by rw [cell_of_row _ _ _ _ _ _ hh]; rfl
  have d1 : w.cell? ⟨d, 1, none⟩ = some (.pointer (some ⟨c, 0, none⟩)) := by rw [cell_of_row _ _ _ _ _ _ hh]; rfl
  have hdl := blk_lt hh
  have A1 := Lib.hid (fun wx (h : RW wx b s) => at_m b s wx h)
  have A2 := Lib.hid (fun wx (h : RR wx c s) => at_r c s wx h)
  have L1 := Lib.hid (fun wx (h : RW wx b s) => left_m b s wx h)
  have L2 := Lib.hid (fun wx (h : RR wx c s) => left_r c s wx h)
  have F1 := Lib.hid (fun wx (h : RW wx b s) => fault_m b s wx h)
  have F2 := Lib.hid (fun wx (h : RR wx c s) => fault_r c s wx h)
  have HW := Lib.hid hw
  have HR := Lib.hid hr
  clear hh hw hr
  go_enter Tryd.func16, Tryd.ntmps16
  go_wp2_with fail
  go_region_held3 (fun w' => w'.cell? ⟨d, 0, none⟩ = some (.pointer (some ⟨b, 0, none⟩)) ∧ w'.cell? ⟨d, 1, none⟩ = some (.pointer (some ⟨c, 0, none⟩))) (go_keep)
    (first
      | (go_at_call 31; refine (A1.out _ ?_).mono ?_; exact HW.out; rintro e w1 ⟨rfl, rfl⟩)
      | (go_at_call 56; refine (A2.out _ ?_).mono ?_; exact HR.out; rintro e w2 ⟨rfl, rfl⟩)
      | (go_at_call 32; refine (L1.out _ ?_).mono ?_; exact HW.out; rintro e w3 ⟨rfl, q3, rfl⟩)
      | (go_at_call 57; refine (L2.out _ ?_).mono ?_; exact HR.out; rintro e w4 ⟨rfl, q4, rfl⟩)
      | (go_at_call 30; refine (F1.out _ ?_).mono ?_; exact HW.out; rintro e w5 ⟨rfl, hb5⟩; unfold fv; have p0 := (hb5.cell (p := ⟨d, 0, none⟩) hdl).trans d0; have p1 := (hb5.cell (p := ⟨d, 1, none⟩) hdl).trans d1)
      | (go_at_call 58; refine (F2.out _ ?_).mono ?_; exact RR.below HR.out (under hb5); rintro e w6 ⟨rfl, hb6⟩; unfold fv; have p2 := (then' hb5 hb6).cell (p := ⟨d, 0, none⟩) hdl |>.trans d0; have p3 := (then' hb5 hb6).cell (p := ⟨d, 1, none⟩) hdl |>.trans d1))
  have HB := Lib.hid (under (then' hb5 hb6))
  clear hb5 hb6 p0 p1 p2 p3
  go_wp2
  go_ret
  exact ⟨rfl, HB.out⟩
end Go.Proofs.YtbapalgikfllkaaDoor.both

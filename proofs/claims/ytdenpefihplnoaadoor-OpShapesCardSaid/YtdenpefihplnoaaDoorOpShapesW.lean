/-
  The walk of OpShapes: which operands an Op has, whether it is a call, and whether the next one may follow, as the document's answers are.
-/
import Derived.Test.YtdenpefihplnoaaDoorLive7
import Derived.Test.YtdenpefihplnoaaDoorOpR
namespace Go.Proofs.YtdenpefihplnoaaDoor.opShapes
open Go.RowKit
open Go.Proofs.YtdenpefihplnoaaDoor.words Go.Proofs.YtdenpefihplnoaaDoor.kindp Go.Proofs.YtdenpefihplnoaaDoor.opp Go.Proofs.YtdenpefihplnoaaDoor.op Go.Proofs.YtdenpefihplnoaaDoor.kind

set_option maxRecDepth 100000 in
set_option maxHeartbeats 2000000 in
theorem walk (o : Int) (w : World) (_ : -9223372036854775808 ≤ o) (_ : o ≤ 9223372036854775807) (hs : Sh w) (hv : Vd w) (hm : Mx w) :
    Calls Tryd.prog 3 #[.int .i64 o] w fun e w' => e = .returned (.bool true) ∧ Below w.heap.size w w' := by
  have HLV := Lib.hid (live_any w hs hm hv)
  have H1 := Lib.hid (fun w hs => shape_w o w hs)
  have H2 := Lib.hid (fun w => shape_r o w)
  have H3 := Lib.hid (fun w hs => call_w o w hs)
  have H4 := Lib.hid (fun w => call_r o w)
  have H5 := Lib.hid (fun w => falls_w o w)
  have H6 := Lib.hid (fun w => falls_r o w)
  have HS := Lib.hid hs
  generalize shapeL o = L at *
  generalize isCall o = b1 at *
  generalize fallsB o = b2 at *
  have e1 : (L == L) = true := by simp
  have e2 : (b1 == b1) = true := by simp
  have e3 : (b2 == b2) = true := by simp
  clear hs hv hm
  go_enter Tryd.func3, Tryd.ntmps3
  go_wp2_with fail
  refine HLV.out.mono ?_
  rintro e w1 ⟨rfl, hb⟩
  have K1 := Lib.hid hb
  clear hb
  go_wp2_with fail
  refine (H1.out _ (HS.out.below K1.out)).mono ?_
  rintro e w1 ⟨rfl, rfl⟩
  go_wp2_with fail
  refine (H2.out _).mono ?_
  rintro e w1 ⟨rfl, rfl⟩
  go_wp2_with fail
  refine (H3.out _ (HS.out.below K1.out)).mono ?_
  rintro e w2 ⟨rfl, hb⟩
  have K2 := Lib.hid (then' K1.out hb)
  clear hb
  go_wp2_with fail
  refine (H4.out _).mono ?_
  rintro e w2 ⟨rfl, rfl⟩
  go_wp2_with fail
  refine (H5.out _).mono ?_
  rintro e w2 ⟨rfl, rfl⟩
  go_wp2_with fail
  refine (H6.out _).mono ?_
  rintro e w2 ⟨rfl, rfl⟩
  go_wp2
  go_ret
  exact ⟨rfl, K2.out⟩
end Go.Proofs.YtdenpefihplnoaaDoor.opShapes

/-
  The walk of WordLines: a text's lines, or the first one that is none, and a line's fields.
-/
import Derived.Test.YtcpjllkfgoaamaaDoorLinesA
import Derived.Test.YtcpjllkfgoaamaaDoorFields
namespace Go.Proofs.YtcpjllkfgoaamaaDoor.wordLines
open Go.RowKit
open Go.Proofs.YtcpjllkfgoaamaaDoor.num Go.Proofs.YtcpjllkfgoaamaaDoor.words Go.Proofs.YtcpjllkfgoaamaaDoor.give Go.Proofs.YtcpjllkfgoaamaaDoor.write Go.Proofs.YtcpjllkfgoaamaaDoor.word Go.Proofs.YtcpjllkfgoaamaaDoor.live4 Go.Proofs.YtcpjllkfgoaamaaDoor.texts Go.Proofs.YtcpjllkfgoaamaaDoor.piece

set_option maxRecDepth 100000 in
theorem great_w (s : ByteArray) (w : World) (b : Bool) (h : decide (65544 < (s.size : Int)) = b) :
    Calls Tryd.prog 7 #[.string s] w fun e w' => e = .returned (.bool b) ∧ w' = w := by
  cases b
  · have h1 : ¬ (65544 : Int) < (s.size : Int) := of_decide_eq_false h
    clear h
    go_enter Tryd.func7, Tryd.ntmps7
    go_wp2
    go_ret
    exact ⟨rfl, rfl⟩
  · have h1 : (65544 : Int) < (s.size : Int) := of_decide_eq_true h
    clear h
    go_enter Tryd.func7, Tryd.ntmps7
    go_wp2
    go_ret
    exact ⟨rfl, rfl⟩

set_option maxRecDepth 100000 in
set_option maxHeartbeats 4000000 in
theorem walk (s : ByteArray) (w : World) (_hs : s.size ≤ 140737488351232) (tab : Tabs w) :
    Calls Tryd.prog 3 #[.string s] w fun e w' => e = .returned (.bool true) ∧ Below w.heap.size w w' := by
  have HT := Lib.hid tab
  have HLV := Lib.hid (fun w (t : Tabs w) => live_any w t)
  by_cases hg : (65544 : Int) < (s.size : Int)
  · have HG := Lib.hid (great_w s w true (decide_eq_true hg))
    clear tab _hs hg
    go_enter Tryd.func3, Tryd.ntmps3
    go_wp2_with fail
    refine HG.out.mono ?_
    rintro e w' ⟨rfl, rfl⟩
    go_wp2_with fail
    refine (HLV.out _ HT.out).mono ?_
    rintro e w1 ⟨rfl, hb⟩
    have HB := Lib.hid hb
    clear hb HLV HG
    go_wp2
    go_ret
    exact ⟨rfl, HB.out⟩
  have HG := Lib.hid (great_w s w false (decide_eq_false hg))
  have HP := Lib.hid (fun w (t : Tabs w) => lines_wa s w t)
  have HR := Lib.hid (fun w => lines_ra s w)
  have HF := Lib.hid (fun w (t : Tabs w) => fields_w s (by omega) w _ t.len.choose_spec)
  have HFR := Lib.hid (fun w => fields_r s (by omega) w)
  have HXL := Lib.hid (lineTx_le s)
  have HFL := Lib.hid (show (fieldsB s).length ≤ 65545 from Nat.le_trans (fieldsB_le s) (by omega))
  unfold LA at HP HR
  clear tab _hs hg
  generalize lineErr s = er at *
  generalize lineAt s = la at *
  generalize lineTx s = xs at *
  generalize fieldsB s = fs at *
  have e1 : ((er : Int) == (er : Int)) = true := by simp
  have e2 : ((la : Int) == (la : Int)) = true := by simp
  go_enter Tryd.func3, Tryd.ntmps3
  go_wp2_with fail
  refine HG.out.mono ?_
  rintro e w' ⟨rfl, rfl⟩
  clear HG
  go_wp2_with fail
  refine (HP.out _ HT.out).mono ?_
  rintro e w1 ⟨⟨A, c, rfl, hAc, hrA⟩, hb1⟩
  have HRA := Lib.hid hrA; have HB1 := Lib.hid hb1; have HAC := Lib.hid hAc
  clear hrA hb1 hAc HP
  go_wp2_with fail
  have HB1a := Lib.hid (HB1.out.alloc HB1.out.size (Obj.cells #[.int .i64 (er : Int), .int .i64 (la : Int)] 27))
  refine (HR.out _).mono ?_
  rintro e w2 ⟨⟨C, d, rfl, hCd, hrC⟩, hb2⟩
  have HB2 := Lib.hid (then' HB1a.out hb2)
  have HRA2 := Lib.hid ((HRA.out.below ((Below.refl _ _).alloc (Nat.le_refl _) (Obj.cells #[.int .i64 (er : Int), .int .i64 (la : Int)] 27))).below hb2)
  have r1 : w2.heap[w1.heap.size]? = some (.cells #[.int .i64 (er : Int), .int .i64 (la : Int)] 27 (0, 0)) := (hb2.block _ (by rw [World.size_alloc]; exact Nat.lt_succ_self _)).trans (heap_alloc_new w1 _)
  have HRC := Lib.hid hrC
  have l1 := blk_lt r1
  have r1a : (w2.alloc (Obj.cells #[.int .i64 (er : Int), .int .i64 (la : Int)] 27)).heap[w1.heap.size]? = some (.cells #[.int .i64 (er : Int), .int .i64 (la : Int)] 27 (0, 0)) := (Below.heap_alloc _ _ _ l1).trans r1
  have r2a : (w2.alloc (Obj.cells #[.int .i64 (er : Int), .int .i64 (la : Int)] 27)).heap[w2.heap.size]? = some (.cells #[.int .i64 (er : Int), .int .i64 (la : Int)] 27 (0, 0)) := heap_alloc_new w2 _
  have HB3 := Lib.hid (HB2.out.alloc HB2.out.size (Obj.cells #[.int .i64 (er : Int), .int .i64 (la : Int)] 27))
  have kb := (Below.refl w2.heap.size w2).alloc (Nat.le_refl _) (Obj.cells #[.int .i64 (er : Int), .int .i64 (la : Int)] 27)
  have HRA3 := Lib.hid (HRA2.out.below kb)
  have HRC3 := Lib.hid (HRC.out.below kb)
  clear hb2 HRA HRA2 HRC r1 kb HR hrC hCd HAC
  go_wp2_with fail
  generalize w2.alloc (Obj.cells #[.int .i64 (er : Int), .int .i64 (la : Int)] 27) = w3 at *
  refine (HLV.out _ (Tabs.below HT.out HB3.out)).mono ?_
  rintro e w4 ⟨rfl, hb4⟩
  have HB4 := Lib.hid (then' HB3.out hb4)
  have HRA4 := Lib.hid (HRA3.out.below hb4)
  have HRC4 := Lib.hid (HRC3.out.below hb4)
  have r1b := (hb4.block _ (blk_lt r1a)).trans r1a
  have r2b := (hb4.block _ (blk_lt r2a)).trans r2a
  have c10 := cell_of_row _ _ 0 _ _ _ r1b
  have c11 := cell_of_row _ _ 1 _ _ _ r1b
  have c20 := cell_of_row _ _ 0 _ _ _ r2b
  have c21 := cell_of_row _ _ 1 _ _ _ r2b
  dsimp at c10 c11 c20 c21
  clear r1a r2a r1b r2b hb4 HRA3 HRC3 HLV
  go_wp2_with fail
  refine (texts_same A C xs.length c d xs w4 HRA4.out HRC4.out rfl (by have := HXL.out; omega)).mono ?_
  rintro e w5 ⟨rfl, q5, rfl⟩
  clear c10 c11 c20 c21
  go_wp2_with fail
  refine (HF.out _ (Tabs.below HT.out (over HB4.out))).mono ?_
  rintro e w6 ⟨⟨a6, c6, rfl, hc6, hr6⟩, hb6⟩
  have HB6 := Lib.hid (then' (over HB4.out) hb6)
  have HR6 := Lib.hid hr6
  clear hb6 hr6 hc6 HF
  go_wp2_with fail
  refine (HFR.out _).mono ?_
  rintro e w7 ⟨⟨a7, c7, rfl, hc7, hr7⟩, hb7⟩
  have HB7 := Lib.hid (then' HB6.out hb7)
  have HR67 := Lib.hid (HR6.out.below hb7)
  have HR7 := Lib.hid hr7
  clear hb7 hr7 hc7 HFR HR6
  go_wp2_with fail
  refine (texts_same _ _ fs.length c6 c7 fs w7 HR67.out HR7.out rfl (by have := HFL.out; omega)).mono ?_
  rintro e w8 ⟨rfl, q8, rfl⟩
  go_wp2
  go_ret
  exact ⟨rfl, over HB7.out⟩
end Go.Proofs.YtcpjllkfgoaamaaDoor.wordLines

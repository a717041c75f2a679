/-
  Layer 7: whether a place, and what is reckoned, are within: the program's answer; what an instruction sets, and where it jumps.
-/
import Derived.Test.YtdenpefihplnoaaDoorOpG
namespace Go.Proofs.YtdenpefihplnoaaDoor.op
open Go.RowKit
open Go.Proofs.YtdenpefihplnoaaDoor.words Go.Proofs.YtdenpefihplnoaaDoor.kindp Go.Proofs.YtdenpefihplnoaaDoor.opp Go.Proofs.YtdenpefihplnoaaDoor.kind

def countedB (i : In) (code : Int) : Bool := (!hasL (shapeL i.o) 116 || (decide (0 ≤ i.k) && decide (i.k < code))) && (!hasL (shapeL i.o) 114 || (decide (0 ≤ i.k) && decide (i.k ≤ 9)))
theorem counted_cut {bt br p q r : Bool} {P : Bool → Prop} (h1 : bt = false → br = false → P true) (h2 : bt = false → br = true → p = false → P false) (h3 : bt = false → br = true → p = true → r = false → P false) (h4 : bt = false → br = true → p = true → r = true → P true)
    (h5 : bt = true → p = false → P false) (h6 : bt = true → p = true → q = false → P false) (h7 : bt = true → p = true → q = true → br = false → P true) (h8 : bt = true → p = true → q = true → br = true → r = false → P false) (h9 : bt = true → p = true → q = true → br = true → r = true → P true) :
    P ((!bt || (p && q)) && (!br || (p && r))) := by
  cases bt
  · cases br
    · exact h1 rfl rfl
    cases p
    · exact h2 rfl rfl rfl
    cases r
    · exact h3 rfl rfl rfl rfl
    · exact h4 rfl rfl rfl rfl
  cases p
  · exact h5 rfl rfl
  cases q
  · exact h6 rfl rfl rfl
  cases br
  · exact h7 rfl rfl rfl rfl
  cases r
  · exact h8 rfl rfl rfl rfl rfl
  · exact h9 rfl rfl rfl rfl rfl
set_option maxRecDepth 100000 in
set_option maxHeartbeats 4000000 in
theorem counted_w (i : In) (A : Option Addr) (c : Nat) (code : Int) (w : World) (hs : Sh w) :
    Calls Tryd.prog 38 #[.agg (InV i A c), .int .i64 code] w fun e w' => e = .returned (.bool (countedB i code)) ∧ Below w.heap.size w w' := by
  obtain ⟨W, hW⟩ : ∃ W, W = w.alloc (.cells (InV i A c) 28) := ⟨_, rfl⟩
  have hal : Below w.heap.size w W := by rw [hW]; exact (Below.refl _ w).alloc (Nat.le_refl _) _
  have HAL := Lib.hid hal
  have hblk : W.heap[w.heap.size]? = some (.cells (InV i A c) 28 (0, 0)) := by rw [hW]; exact heap_alloc_new w _
  have HBK := Lib.hid hblk; have HLT := Lib.hid (blk_lt hblk)
  obtain ⟨g0, g1, g2, g3, g4, g5, g6, g7, g8⟩ := in_cells hblk
  have HSH := Lib.hid (hs.below hal)
  have HHT := Lib.hid (fun w hs => has_w i.o [116] w hs (by decide) (by decide))
  have HHR := Lib.hid (fun w hs => has_w i.o [114] w hs (by decide) (by decide))
  rw [any_one] at HHT HHR
  have hCB : countedB i code = ((!hasL (shapeL i.o) 116 || (decide (0 ≤ i.k) && decide (i.k < code))) && (!hasL (shapeL i.o) 114 || (decide (0 ≤ i.k) && decide (i.k ≤ 9)))) := rfl
  rw [hCB]
  generalize hasL (shapeL i.o) 116 = bt at *
  generalize hasL (shapeL i.o) 114 = br at *
  dsimp only [InV] at hW ⊢
  have HW := Lib.hid hW
  clear hCB hs hal hblk hW
  refine counted_cut (P := fun r => Calls Tryd.prog 38 _ w fun e w' => e = .returned (.bool r) ∧ Below w.heap.size w w') ?_ ?_ ?_ ?_ ?_ ?_ ?_ ?_ ?_
  · rintro rfl rfl
    go_enter Tryd.func38, Tryd.ntmps38
    go_wp2_with fail
    rw [← HW.out]
    refine (HHT.out _ HSH.out).mono ?_
    rintro e v1 ⟨rfl, k1⟩
    obtain ⟨a0x1, a1x1, a2x1, a3x1, a4x1, a5x1, a6x1, a7x1, a8x1⟩ := in_cells ((k1.block _ HLT.out).trans HBK.out)
    have K1 := Lib.hid k1
    clear k1 g0 g1 g2 g3 g4 g5 g6 g7 g8
    go_wp2_with fail
    refine (HHR.out _ (HSH.out.below K1.out)).mono ?_
    rintro e v2 ⟨rfl, hb2⟩
    have k2 : Below W.heap.size W v2 := then' K1.out hb2
    obtain ⟨a0x2, a1x2, a2x2, a3x2, a4x2, a5x2, a6x2, a7x2, a8x2⟩ := in_cells ((k2.block _ HLT.out).trans HBK.out)
    have K2 := Lib.hid k2
    clear k2 hb2 a0x1 a1x1 a2x1 a3x1 a4x1 a5x1 a6x1 a7x1 a8x1
    go_wp2
    go_ret
    exact ⟨rfl, HAL.out.trans (K2.out.mono HAL.out.size)⟩
  · rintro rfl rfl hp
    have p2 : ¬ (0 ≤ i.k) := of_decide_eq_false hp
    clear hp
    go_enter Tryd.func38, Tryd.ntmps38
    go_wp2_with fail
    rw [← HW.out]
    refine (HHT.out _ HSH.out).mono ?_
    rintro e v1 ⟨rfl, k1⟩
    obtain ⟨a0x1, a1x1, a2x1, a3x1, a4x1, a5x1, a6x1, a7x1, a8x1⟩ := in_cells ((k1.block _ HLT.out).trans HBK.out)
    have K1 := Lib.hid k1
    clear k1 g0 g1 g2 g3 g4 g5 g6 g7 g8
    go_wp2_with fail
    refine (HHR.out _ (HSH.out.below K1.out)).mono ?_
    rintro e v2 ⟨rfl, hb2⟩
    have k2 : Below W.heap.size W v2 := then' K1.out hb2
    obtain ⟨a0x2, a1x2, a2x2, a3x2, a4x2, a5x2, a6x2, a7x2, a8x2⟩ := in_cells ((k2.block _ HLT.out).trans HBK.out)
    have K2 := Lib.hid k2
    clear k2 hb2 a0x1 a1x1 a2x1 a3x1 a4x1 a5x1 a6x1 a7x1 a8x1
    go_wp2
    go_ret
    exact ⟨rfl, HAL.out.trans (K2.out.mono HAL.out.size)⟩
  · rintro rfl rfl hp hr
    have p2 : 0 ≤ i.k := of_decide_eq_true hp
    have r2 : ¬ (i.k ≤ 9) := of_decide_eq_false hr
    clear hp
    go_enter Tryd.func38, Tryd.ntmps38
    go_wp2_with fail
    rw [← HW.out]
    refine (HHT.out _ HSH.out).mono ?_
    rintro e v1 ⟨rfl, k1⟩
    obtain ⟨a0x1, a1x1, a2x1, a3x1, a4x1, a5x1, a6x1, a7x1, a8x1⟩ := in_cells ((k1.block _ HLT.out).trans HBK.out)
    have K1 := Lib.hid k1
    clear k1 g0 g1 g2 g3 g4 g5 g6 g7 g8
    go_wp2_with fail
    refine (HHR.out _ (HSH.out.below K1.out)).mono ?_
    rintro e v2 ⟨rfl, hb2⟩
    have k2 : Below W.heap.size W v2 := then' K1.out hb2
    obtain ⟨a0x2, a1x2, a2x2, a3x2, a4x2, a5x2, a6x2, a7x2, a8x2⟩ := in_cells ((k2.block _ HLT.out).trans HBK.out)
    have K2 := Lib.hid k2
    clear k2 hb2 a0x1 a1x1 a2x1 a3x1 a4x1 a5x1 a6x1 a7x1 a8x1
    go_wp2
    go_ret
    exact ⟨rfl, HAL.out.trans (K2.out.mono HAL.out.size)⟩
  · rintro rfl rfl hp hr
    have p2 : 0 ≤ i.k := of_decide_eq_true hp
    have r2 : i.k ≤ 9 := of_decide_eq_true hr
    clear hp hr
    go_enter Tryd.func38, Tryd.ntmps38
    go_wp2_with fail
    rw [← HW.out]
    refine (HHT.out _ HSH.out).mono ?_
    rintro e v1 ⟨rfl, k1⟩
    obtain ⟨a0x1, a1x1, a2x1, a3x1, a4x1, a5x1, a6x1, a7x1, a8x1⟩ := in_cells ((k1.block _ HLT.out).trans HBK.out)
    have K1 := Lib.hid k1
    clear k1 g0 g1 g2 g3 g4 g5 g6 g7 g8
    go_wp2_with fail
    refine (HHR.out _ (HSH.out.below K1.out)).mono ?_
    rintro e v2 ⟨rfl, hb2⟩
    have k2 : Below W.heap.size W v2 := then' K1.out hb2
    obtain ⟨a0x2, a1x2, a2x2, a3x2, a4x2, a5x2, a6x2, a7x2, a8x2⟩ := in_cells ((k2.block _ HLT.out).trans HBK.out)
    have K2 := Lib.hid k2
    clear k2 hb2 a0x1 a1x1 a2x1 a3x1 a4x1 a5x1 a6x1 a7x1 a8x1
    go_wp2
    go_ret
    exact ⟨rfl, HAL.out.trans (K2.out.mono HAL.out.size)⟩
  · rintro rfl hp
    have p2 : ¬ (0 ≤ i.k) := of_decide_eq_false hp
    clear hp
    go_enter Tryd.func38, Tryd.ntmps38
    go_wp2_with fail
    rw [← HW.out]
    refine (HHT.out _ HSH.out).mono ?_
    rintro e v1 ⟨rfl, k1⟩
    obtain ⟨a0x1, a1x1, a2x1, a3x1, a4x1, a5x1, a6x1, a7x1, a8x1⟩ := in_cells ((k1.block _ HLT.out).trans HBK.out)
    have K1 := Lib.hid k1
    clear k1 g0 g1 g2 g3 g4 g5 g6 g7 g8
    go_wp2
    go_ret
    exact ⟨rfl, HAL.out.trans (K1.out.mono HAL.out.size)⟩
  · rintro rfl hp hq
    have p2 : 0 ≤ i.k := of_decide_eq_true hp
    have q2 : ¬ (i.k < code) := of_decide_eq_false hq
    clear hp hq
    go_enter Tryd.func38, Tryd.ntmps38
    go_wp2_with fail
    rw [← HW.out]
    refine (HHT.out _ HSH.out).mono ?_
    rintro e v1 ⟨rfl, k1⟩
    obtain ⟨a0x1, a1x1, a2x1, a3x1, a4x1, a5x1, a6x1, a7x1, a8x1⟩ := in_cells ((k1.block _ HLT.out).trans HBK.out)
    have K1 := Lib.hid k1
    clear k1 g0 g1 g2 g3 g4 g5 g6 g7 g8
    go_wp2
    go_ret
    exact ⟨rfl, HAL.out.trans (K1.out.mono HAL.out.size)⟩
  · rintro rfl hp hq rfl
    have p2 : 0 ≤ i.k := of_decide_eq_true hp
    have q2 : i.k < code := of_decide_eq_true hq
    clear hp hq
    go_enter Tryd.func38, Tryd.ntmps38
    go_wp2_with fail
    rw [← HW.out]
    refine (HHT.out _ HSH.out).mono ?_
    rintro e v1 ⟨rfl, k1⟩
    obtain ⟨a0x1, a1x1, a2x1, a3x1, a4x1, a5x1, a6x1, a7x1, a8x1⟩ := in_cells ((k1.block _ HLT.out).trans HBK.out)
    have K1 := Lib.hid k1
    clear k1 g0 g1 g2 g3 g4 g5 g6 g7 g8
    go_wp2_with fail
    refine (HHR.out _ (HSH.out.below K1.out)).mono ?_
    rintro e v2 ⟨rfl, hb2⟩
    have k2 : Below W.heap.size W v2 := then' K1.out hb2
    obtain ⟨a0x2, a1x2, a2x2, a3x2, a4x2, a5x2, a6x2, a7x2, a8x2⟩ := in_cells ((k2.block _ HLT.out).trans HBK.out)
    have K2 := Lib.hid k2
    clear k2 hb2 a0x1 a1x1 a2x1 a3x1 a4x1 a5x1 a6x1 a7x1 a8x1
    go_wp2
    go_ret
    exact ⟨rfl, HAL.out.trans (K2.out.mono HAL.out.size)⟩
  · rintro rfl hp hq rfl hr
    have p2 : 0 ≤ i.k := of_decide_eq_true hp
    have q2 : i.k < code := of_decide_eq_true hq
    have r2 : ¬ (i.k ≤ 9) := of_decide_eq_false hr
    clear hp hq
    go_enter Tryd.func38, Tryd.ntmps38
    go_wp2_with fail
    rw [← HW.out]
    refine (HHT.out _ HSH.out).mono ?_
    rintro e v1 ⟨rfl, k1⟩
    obtain ⟨a0x1, a1x1, a2x1, a3x1, a4x1, a5x1, a6x1, a7x1, a8x1⟩ := in_cells ((k1.block _ HLT.out).trans HBK.out)
    have K1 := Lib.hid k1
    clear k1 g0 g1 g2 g3 g4 g5 g6 g7 g8
    go_wp2_with fail
    refine (HHR.out _ (HSH.out.below K1.out)).mono ?_
    rintro e v2 ⟨rfl, hb2⟩
    have k2 : Below W.heap.size W v2 := then' K1.out hb2
    obtain ⟨a0x2, a1x2, a2x2, a3x2, a4x2, a5x2, a6x2, a7x2, a8x2⟩ := in_cells ((k2.block _ HLT.out).trans HBK.out)
    have K2 := Lib.hid k2
    clear k2 hb2 a0x1 a1x1 a2x1 a3x1 a4x1 a5x1 a6x1 a7x1 a8x1
    go_wp2
    go_ret
    exact ⟨rfl, HAL.out.trans (K2.out.mono HAL.out.size)⟩
  · rintro rfl hp hq rfl hr
    have p2 : 0 ≤ i.k := of_decide_eq_true hp
    have q2 : i.k < code := of_decide_eq_true hq
    have r2 : i.k ≤ 9 := of_decide_eq_true hr
    clear hp hq hr
    go_enter Tryd.func38, Tryd.ntmps38
    go_wp2_with fail
    rw [← HW.out]
    refine (HHT.out _ HSH.out).mono ?_
    rintro e v1 ⟨rfl, k1⟩
    obtain ⟨a0x1, a1x1, a2x1, a3x1, a4x1, a5x1, a6x1, a7x1, a8x1⟩ := in_cells ((k1.block _ HLT.out).trans HBK.out)
    have K1 := Lib.hid k1
    clear k1 g0 g1 g2 g3 g4 g5 g6 g7 g8
    go_wp2_with fail
    refine (HHR.out _ (HSH.out.below K1.out)).mono ?_
    rintro e v2 ⟨rfl, hb2⟩
    have k2 : Below W.heap.size W v2 := then' K1.out hb2
    obtain ⟨a0x2, a1x2, a2x2, a3x2, a4x2, a5x2, a6x2, a7x2, a8x2⟩ := in_cells ((k2.block _ HLT.out).trans HBK.out)
    have K2 := Lib.hid k2
    clear k2 hb2 a0x1 a1x1 a2x1 a3x1 a4x1 a5x1 a6x1 a7x1 a8x1
    go_wp2
    go_ret
    exact ⟨rfl, HAL.out.trans (K2.out.mono HAL.out.size)⟩

set_option maxRecDepth 100000 in
set_option maxHeartbeats 4000000 in
theorem target_w (i : In) (A : Option Addr) (c : Nat) (w : World) (hs : Sh w) :
    Calls Tryd.prog 21 #[.agg (InV i A c)] w fun e w' => e = .returned (.tuple #[.int .i64 (targetL i).1, .bool (targetL i).2]) ∧ Below w.heap.size w w' := by
  obtain ⟨W, hW⟩ : ∃ W, W = w.alloc (.cells (InV i A c) 28) := ⟨_, rfl⟩
  have hal : Below w.heap.size w W := by rw [hW]; exact (Below.refl _ w).alloc (Nat.le_refl _) _
  have HAL := Lib.hid hal
  have hblk : W.heap[w.heap.size]? = some (.cells (InV i A c) 28 (0, 0)) := by rw [hW]; exact heap_alloc_new w _
  have HBK := Lib.hid hblk; have HLT := Lib.hid (blk_lt hblk)
  obtain ⟨g0, g1, g2, g3, g4, g5, g6, g7, g8⟩ := in_cells hblk
  have HSH := Lib.hid (hs.below hal)
  have HHT := Lib.hid (fun w hs => has_w i.o [116] w hs (by decide) (by decide))
  rw [any_one] at HHT
  have hT : targetL i = if hasL (shapeL i.o) 116 = true ∧ 0 ≤ i.k ∧ i.k ≤ 256 then (i.k, true) else (0, false) := rfl
  obtain ⟨T, hT2⟩ : ∃ T, T = targetL i := ⟨_, rfl⟩
  rw [← hT2] at hT ⊢
  generalize hasL (shapeL i.o) 116 = bt at *
  dsimp only [InV] at hW ⊢
  have HW := Lib.hid hW
  clear hs hal hblk hW hT2
  cases bt with
  | false =>
    obtain rfl : T = (0, false) := by rw [hT, if_neg (by simp)]
    clear hT
    go_enter Tryd.func21, Tryd.ntmps21
    go_wp2_with fail
    rw [← HW.out]
    refine (HHT.out _ HSH.out).mono ?_
    rintro e v1 ⟨rfl, k1⟩
    have K1 := Lib.hid k1
    clear k1
    go_wp2
    go_ret2
    exact ⟨rfl, HAL.out.trans (K1.out.mono HAL.out.size)⟩
  | true =>
    by_cases h0 : 0 ≤ i.k
    · by_cases h1 : i.k ≤ 256
      · obtain rfl : T = (i.k, true) := by rw [hT, if_pos ⟨rfl, h0, h1⟩]
        clear hT
        go_enter Tryd.func21, Tryd.ntmps21
        go_wp2_with fail
        rw [← HW.out]
        refine (HHT.out _ HSH.out).mono ?_
        rintro e v1 ⟨rfl, k1⟩
        obtain ⟨a0x1, a1x1, a2x1, a3x1, a4x1, a5x1, a6x1, a7x1, a8x1⟩ := in_cells ((k1.block _ HLT.out).trans HBK.out)
        have K1 := Lib.hid k1
        clear k1
        go_wp2
        go_ret2
        exact ⟨rfl, HAL.out.trans (K1.out.mono HAL.out.size)⟩
      · obtain rfl : T = (0, false) := by rw [hT, if_neg (fun h => h1 h.2.2)]
        clear hT
        go_enter Tryd.func21, Tryd.ntmps21
        go_wp2_with fail
        rw [← HW.out]
        refine (HHT.out _ HSH.out).mono ?_
        rintro e v1 ⟨rfl, k1⟩
        obtain ⟨a0x1, a1x1, a2x1, a3x1, a4x1, a5x1, a6x1, a7x1, a8x1⟩ := in_cells ((k1.block _ HLT.out).trans HBK.out)
        have K1 := Lib.hid k1
        clear k1
        go_wp2
        go_ret2
        exact ⟨rfl, HAL.out.trans (K1.out.mono HAL.out.size)⟩
    · obtain rfl : T = (0, false) := by rw [hT, if_neg (fun h => h0 h.2.1)]
      clear hT
      go_enter Tryd.func21, Tryd.ntmps21
      go_wp2_with fail
      rw [← HW.out]
      refine (HHT.out _ HSH.out).mono ?_
      rintro e v1 ⟨rfl, k1⟩
      obtain ⟨a0x1, a1x1, a2x1, a3x1, a4x1, a5x1, a6x1, a7x1, a8x1⟩ := in_cells ((k1.block _ HLT.out).trans HBK.out)
      have K1 := Lib.hid k1
      clear k1
      go_wp2
      go_ret2
      exact ⟨rfl, HAL.out.trans (K1.out.mono HAL.out.size)⟩
end Go.Proofs.YtdenpefihplnoaaDoor.op

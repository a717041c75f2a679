/-
  What an instruction reads and sets, and where it may jump, is as the document says, and whether two are the same: the document's answers, and the walk of OpTells.
-/
import Derived.Test.YtdenpefihplnoaaDoorOpL
import Derived.Test.YtdenpefihplnoaaDoorOpU
import Derived.Test.YtdenpefihplnoaaDoorOpG
import Derived.Test.YtdenpefihplnoaaDoorRef
import Derived.Deep.RegionHeld3
/- Layer 7: the document's answers: what an instruction reads, sets, and where it may jump; whether two are the same. -/
namespace Go.Proofs.YtdenpefihplnoaaDoor.op
open Go.RowKit
open Go.Proofs.YtdenpefihplnoaaDoor.words Go.Proofs.YtdenpefihplnoaaDoor.kindp Go.Proofs.YtdenpefihplnoaaDoor.opp Go.Proofs.YtdenpefihplnoaaDoor.kind


set_option maxRecDepth 100000 in
set_option maxHeartbeats 4000000 in
theorem target_r (i : In) (A : Option Addr) (c : Nat) (w : World) :
    Calls Tryd.prog 22 #[.agg (InV i A c)] w fun e w' => e = .returned (.tuple #[.int .i64 (targetL i).1, .bool (targetL i).2]) ∧ Below w.heap.size w w' := by
  obtain ⟨W, hW⟩ : ∃ W, W = w.alloc (.cells (InV i A c) 28) := ⟨_, rfl⟩
  have hal : Below w.heap.size w W := by rw [hW]; exact (Below.refl _ w).alloc (Nat.le_refl _) _
  have HAL := Lib.hid hal
  have hblk : W.heap[w.heap.size]? = some (.cells (InV i A c) 28 (0, 0)) := by rw [hW]; exact heap_alloc_new w _
  have HBK := Lib.hid hblk; have HLT := Lib.hid (blk_lt hblk)
  obtain ⟨g0, g1, g2, g3, g4, g5, g6, g7, g8⟩ := in_cells hblk
  have hT : targetL i = if hasL (shapeL i.o) 116 = true ∧ 0 ≤ i.k ∧ i.k ≤ 256 then (i.k, true) else (0, false) := rfl
  rw [jump_shape] at hT
  obtain ⟨T, hT2⟩ : ∃ T, T = targetL i := ⟨_, rfl⟩
  rw [← hT2] at hT ⊢
  dsimp only [InV] at hW ⊢
  have HW := Lib.hid hW
  clear hal hblk hW hT2
  by_cases ho : i.o = 6
  · have e1 : (i.o == 6) = true := by simpa using ho
    by_cases h0 : 0 ≤ i.k
    · by_cases h1 : i.k ≤ 256
      · obtain rfl : T = (i.k, true) := by rw [hT, if_pos ⟨by simp [ho], h0, h1⟩]
        clear ho
        clear hT
        go_enter Tryd.func22, Tryd.ntmps22
        go_wp2_with fail
        rw [← HW.out]
        go_wp2
        go_ret2
        exact ⟨rfl, HAL.out⟩
      · obtain rfl : T = (0, false) := by rw [hT, if_neg (fun h => h1 h.2.2)]
        have hd : decide (i.k ≤ 256) = false := decide_eq_false h1
        clear ho
        clear hT
        go_enter Tryd.func22, Tryd.ntmps22
        go_wp2_with fail
        rw [← HW.out]
        go_wp2
        go_ret2
        exact ⟨rfl, HAL.out⟩
    · obtain rfl : T = (0, false) := by rw [hT, if_neg (fun h => h0 h.2.1)]
      clear ho
      clear hT
      go_enter Tryd.func22, Tryd.ntmps22
      go_wp2_with fail
      rw [← HW.out]
      go_wp2
      go_ret2
      exact ⟨rfl, HAL.out⟩
  have e1 : (i.o == 6) = false := by simpa using ho
  have n1 := Lib.hid ho
  clear ho
  by_cases ho : i.o = 7
  · have e2 : (i.o == 7) = true := by simpa using ho
    by_cases h0 : 0 ≤ i.k
    · by_cases h1 : i.k ≤ 256
      · obtain rfl : T = (i.k, true) := by rw [hT, if_pos ⟨by simp [ho], h0, h1⟩]
        clear ho
        clear hT
        go_enter Tryd.func22, Tryd.ntmps22
        go_wp2_with fail
        rw [← HW.out]
        go_wp2
        go_ret2
        exact ⟨rfl, HAL.out⟩
      · obtain rfl : T = (0, false) := by rw [hT, if_neg (fun h => h1 h.2.2)]
        have hd : decide (i.k ≤ 256) = false := decide_eq_false h1
        clear ho
        clear hT
        go_enter Tryd.func22, Tryd.ntmps22
        go_wp2_with fail
        rw [← HW.out]
        go_wp2
        go_ret2
        exact ⟨rfl, HAL.out⟩
    · obtain rfl : T = (0, false) := by rw [hT, if_neg (fun h => h0 h.2.1)]
      clear ho
      clear hT
      go_enter Tryd.func22, Tryd.ntmps22
      go_wp2_with fail
      rw [← HW.out]
      go_wp2
      go_ret2
      exact ⟨rfl, HAL.out⟩
  have e2 : (i.o == 7) = false := by simpa using ho
  have n2 := Lib.hid ho
  clear ho
  by_cases ho : i.o = 8
  · have e3 : (i.o == 8) = true := by simpa using ho
    by_cases h0 : 0 ≤ i.k
    · by_cases h1 : i.k ≤ 256
      · obtain rfl : T = (i.k, true) := by rw [hT, if_pos ⟨by simp [ho], h0, h1⟩]
        clear ho
        clear hT
        go_enter Tryd.func22, Tryd.ntmps22
        go_wp2_with fail
        rw [← HW.out]
        go_wp2
        go_ret2
        exact ⟨rfl, HAL.out⟩
      · obtain rfl : T = (0, false) := by rw [hT, if_neg (fun h => h1 h.2.2)]
        have hd : decide (i.k ≤ 256) = false := decide_eq_false h1
        clear ho
        clear hT
        go_enter Tryd.func22, Tryd.ntmps22
        go_wp2_with fail
        rw [← HW.out]
        go_wp2
        go_ret2
        exact ⟨rfl, HAL.out⟩
    · obtain rfl : T = (0, false) := by rw [hT, if_neg (fun h => h0 h.2.1)]
      clear ho
      clear hT
      go_enter Tryd.func22, Tryd.ntmps22
      go_wp2_with fail
      rw [← HW.out]
      go_wp2
      go_ret2
      exact ⟨rfl, HAL.out⟩
  have e3 : (i.o == 8) = false := by simpa using ho
  obtain rfl : T = (0, false) := by rw [hT, if_neg (fun h => by have := of_decide_eq_true h.1; have a1 := n1.out; have a2 := n2.out; omega)]
  clear ho
  clear hT
  go_enter Tryd.func22, Tryd.ntmps22
  go_wp2_with fail
  rw [← HW.out]
  go_wp2
  go_ret2
  exact ⟨rfl, HAL.out⟩

set_option maxRecDepth 100000 in
set_option maxHeartbeats 4000000 in
theorem sets_r (i : In) (A : Option Addr) (c : Nat) (w : World) (hd : i.ds.length ≤ 65536) :
    Calls Tryd.prog 20 #[.agg (InV i A c)] w fun e w' => e = .returned (.tuple #[.int .i64 (setsL i).1, .bool (setsL i).2]) ∧ Below w.heap.size w w' := by
  obtain ⟨W, hW⟩ : ∃ W, W = w.alloc (.cells (InV i A c) 28) := ⟨_, rfl⟩
  have hal : Below w.heap.size w W := by rw [hW]; exact (Below.refl _ w).alloc (Nat.le_refl _) _
  have HAL := Lib.hid hal
  have hblk : W.heap[w.heap.size]? = some (.cells (InV i A c) 28 (0, 0)) := by rw [hW]; exact heap_alloc_new w _
  have HBK := Lib.hid hblk; have HLT := Lib.hid (blk_lt hblk)
  obtain ⟨g0, g1, g2, g3, g4, g5, g6, g7, g8⟩ := in_cells hblk
  have HSH := Lib.hid (fun w => shape_r i.o w)
  have hs4 := (shape_letters i.o).1
  have HHA := Lib.hid (fun w => has_r (shapeL i.o) 97 w hs4)
  have HC := Lib.hid (fun w => call_r i.o w)
  have HSP := Lib.hid (fun w => kind.split_r ⟨i.ds.toArray⟩ w (by show i.ds.toArray.size ≤ _; simp; omega))
  unfold SplitW at HSP
  rw [show (⟨i.ds.toArray⟩ : ByteArray).data.toList = i.ds from rfl] at HSP
  dsimp only [InV] at hW ⊢
  have HW := Lib.hid hW
  clear hs4 hd hal hblk hW
  refine sets_cut (P := fun r => Calls Tryd.prog 20 _ w fun e w' => e = .returned (.tuple #[.int .i64 r.1, .bool r.2]) ∧ Below w.heap.size w w') ?_ ?_ ?_ ?_ ?_
  · intro h1
    dsimp only
    rw [h1] at HHA
    clear h1
    go_enter Tryd.func20, Tryd.ntmps20
    go_wp2_with fail
    rw [← HW.out]
    refine (HSH.out _).mono ?_
    rintro e W ⟨rfl, rfl⟩
    go_wp2_with fail
    refine (HHA.out _).mono ?_
    rintro e W ⟨rfl, rfl⟩
    go_wp2
    go_ret2
    exact ⟨rfl, HAL.out⟩
  · intro h1 h2
    dsimp only
    rw [h1] at HHA
    clear h1
    go_enter Tryd.func20, Tryd.ntmps20
    go_wp2_with fail
    rw [← HW.out]
    refine (HSH.out _).mono ?_
    rintro e W ⟨rfl, rfl⟩
    go_wp2_with fail
    refine (HHA.out _).mono ?_
    rintro e W ⟨rfl, rfl⟩
    go_wp2
    go_ret2
    exact ⟨rfl, HAL.out⟩
  · intro h1 h2 h3
    dsimp only
    rw [h1] at HHA
    rw [h3] at HC
    clear h1 h3
    go_enter Tryd.func20, Tryd.ntmps20
    go_wp2_with fail
    rw [← HW.out]
    refine (HSH.out _).mono ?_
    rintro e W ⟨rfl, rfl⟩
    go_wp2_with fail
    refine (HHA.out _).mono ?_
    rintro e W ⟨rfl, rfl⟩
    go_wp2_with fail
    refine (HC.out _).mono ?_
    rintro e W ⟨rfl, rfl⟩
    go_wp2
    go_ret2
    exact ⟨rfl, HAL.out⟩
  · intro h1 h2 h3 h4
    dsimp only
    rw [h1] at HHA
    rw [h3] at HC
    have H4 := Lib.hid (show (decide ((splitT i.ds).2.2 = 0) && decide ((splitT i.ds).2.1.1 ≠ 1)) = false from h4)
    obtain ⟨⟨ps, ⟨rk, rc⟩, er⟩, hsp⟩ : ∃ x, x = splitT i.ds := ⟨_, rfl⟩
    rw [← hsp] at HSP H4
    dsimp only at HSP H4
    generalize ps.length = np at *
    clear h1 h3 h4 hsp
    by_cases he : er = 0
    · have hk : rk = 1 := by
        have := H4.out
        rw [decide_eq_true he, Bool.true_and, decide_eq_false_iff_not] at this
        exact Decidable.not_not.1 this
      subst he hk
      clear H4
      go_enter Tryd.func20, Tryd.ntmps20
      go_wp2_with fail
      rw [← HW.out]
      refine (HSH.out _).mono ?_
      rintro e W ⟨rfl, rfl⟩
      go_wp2_with fail
      refine (HHA.out _).mono ?_
      rintro e W ⟨rfl, rfl⟩
      go_wp2_with fail
      refine (HC.out _).mono ?_
      rintro e W ⟨rfl, rfl⟩
      go_wp2_with fail
      refine (HSP.out _).mono ?_
      rintro e v1 ⟨⟨A1, c1, rfl, hoo⟩, hb⟩
      have HB := Lib.hid (HAL.out.trans ((hb.alloc hb.size (.cells #[.int .i64 1, .string ⟨rc.toArray⟩] 69)).mono HAL.out.size))
      have z0 := cell_of_row _ _ 0 _ _ _ (heap_alloc_new v1 (.cells #[.int .i64 1, .string ⟨rc.toArray⟩] 69))
      obtain ⟨x0, x1, x2, x3, x4, x5, x6, x7, x8⟩ := in_cells (((hb.alloc hb.size (.cells #[.int .i64 1, .string ⟨rc.toArray⟩] 69)).block _ HLT.out).trans HBK.out)
      clear hoo hb g0 g1 g2 g3 g4 g5 g6 g7 g8
      go_wp2
      go_ret2
      exact ⟨rfl, HB.out⟩
    · have hb1 : ((er : Int) != 0) = true := by simpa using he
      clear he H4
      go_enter Tryd.func20, Tryd.ntmps20
      go_wp2_with fail
      rw [← HW.out]
      refine (HSH.out _).mono ?_
      rintro e W ⟨rfl, rfl⟩
      go_wp2_with fail
      refine (HHA.out _).mono ?_
      rintro e W ⟨rfl, rfl⟩
      go_wp2_with fail
      refine (HC.out _).mono ?_
      rintro e W ⟨rfl, rfl⟩
      go_wp2_with fail
      refine (HSP.out _).mono ?_
      rintro e v1 ⟨⟨A1, c1, rfl, hoo⟩, hb⟩
      have HB := Lib.hid (HAL.out.trans ((hb.alloc hb.size (.cells #[.int .i64 rk, .string ⟨rc.toArray⟩] 69)).mono HAL.out.size))
      have z0 := cell_of_row _ _ 0 _ _ _ (heap_alloc_new v1 (.cells #[.int .i64 rk, .string ⟨rc.toArray⟩] 69))
      obtain ⟨x0, x1, x2, x3, x4, x5, x6, x7, x8⟩ := in_cells (((hb.alloc hb.size (.cells #[.int .i64 rk, .string ⟨rc.toArray⟩] 69)).block _ HLT.out).trans HBK.out)
      clear hoo hb g0 g1 g2 g3 g4 g5 g6 g7 g8
      go_wp2
      go_ret2
      exact ⟨rfl, HB.out⟩
  · intro h1 h2 h3 h4
    dsimp only
    rw [h1] at HHA
    rw [h3] at HC
    have H4 := Lib.hid (show (decide ((splitT i.ds).2.2 = 0) && decide ((splitT i.ds).2.1.1 ≠ 1)) = true from h4)
    obtain ⟨⟨ps, ⟨rk, rc⟩, er⟩, hsp⟩ : ∃ x, x = splitT i.ds := ⟨_, rfl⟩
    rw [← hsp] at HSP H4
    dsimp only at HSP H4
    generalize ps.length = np at *
    have h5 := H4.out
    rw [Bool.and_eq_true, decide_eq_true_eq, decide_eq_true_eq] at h5
    obtain ⟨rfl, hk⟩ := h5
    have hb2 : (rk == 1) = false := by simpa using hk
    clear h1 h3 h4 hsp H4 hk
    go_enter Tryd.func20, Tryd.ntmps20
    go_wp2_with fail
    rw [← HW.out]
    refine (HSH.out _).mono ?_
    rintro e W ⟨rfl, rfl⟩
    go_wp2_with fail
    refine (HHA.out _).mono ?_
    rintro e W ⟨rfl, rfl⟩
    go_wp2_with fail
    refine (HC.out _).mono ?_
    rintro e W ⟨rfl, rfl⟩
    go_wp2_with fail
    refine (HSP.out _).mono ?_
    rintro e v1 ⟨⟨A1, c1, rfl, hoo⟩, hb⟩
    have HB := Lib.hid (HAL.out.trans ((hb.alloc hb.size (.cells #[.int .i64 rk, .string ⟨rc.toArray⟩] 69)).mono HAL.out.size))
    have z0 := cell_of_row _ _ 0 _ _ _ (heap_alloc_new v1 (.cells #[.int .i64 rk, .string ⟨rc.toArray⟩] 69))
    obtain ⟨x0, x1, x2, x3, x4, x5, x6, x7, x8⟩ := in_cells (((hb.alloc hb.size (.cells #[.int .i64 rk, .string ⟨rc.toArray⟩] 69)).block _ HLT.out).trans HBK.out)
    clear hoo hb g0 g1 g2 g3 g4 g5 g6 g7 g8
    go_wp2
    go_ret2
    exact ⟨rfl, HB.out⟩
end Go.Proofs.YtdenpefihplnoaaDoor.op

/- Layer 7: the document's answers: the registers that an instruction reads. -/
namespace Go.Proofs.YtdenpefihplnoaaDoor.op
open Go.RowKit
open Go.Proofs.YtdenpefihplnoaaDoor.words Go.Proofs.YtdenpefihplnoaaDoor.kindp Go.Proofs.YtdenpefihplnoaaDoor.opp Go.Proofs.YtdenpefihplnoaaDoor.kind

set_option maxRecDepth 100000 in
set_option maxHeartbeats 8000000 in
theorem uses_r (i : In) (A : Option Addr) (c : Nat) (w : World) (hr : Rd w A (IL i.ar)) (hz : i.ar.length ≤ 1000) :
    Calls Tryd.prog 25 #[.agg (InV i A c)] w (UseP i w) := by
  obtain ⟨W, hW⟩ : ∃ W, W = w.alloc (.cells (InV i A c) 28) := ⟨_, rfl⟩
  have hal : Below w.heap.size w W := by rw [hW]; exact (Below.refl _ w).alloc (Nat.le_refl _) _
  have HAL := Lib.hid hal
  have HSZ := Lib.hid (show W.heap.size = w.heap.size + 1 by rw [hW]; simp)
  have hblk : W.heap[w.heap.size]? = some (.cells (InV i A c) 28 (0, 0)) := by rw [hW]; exact heap_alloc_new w _
  have HBK := Lib.hid hblk
  obtain ⟨g0, g1, g2, g3, g4, g5, g6, g7, g8⟩ := in_cells hblk
  have HSH := Lib.hid (fun w => shape_r i.o w)
  have hs4 := (shape_letters i.o).1
  have HH0 := Lib.hid (fun w => has_r (shapeL i.o) 98 w hs4)
  have HH1 := Lib.hid (fun w => has_r (shapeL i.o) 99 w hs4)
  have HH2 := Lib.hid (fun w => has_r (shapeL i.o) 118 w hs4)
  obtain ⟨i0, hi, hz0, hz1, hz2⟩ := info_parts infoI
  have HR := Lib.hid hr; have HZ := Lib.hid hz
  have HU := Lib.hid (uses_same i)
  have HB0 := Lib.hid (Below.refl (w.heap.size + 1) W)
  unfold usesR at HU
  unfold UseP
  dsimp only [InV] at hW ⊢
  have HW := Lib.hid hW
  obtain ⟨U, hU⟩ : ∃ U, U = usesL i := ⟨_, rfl⟩
  rw [← hU] at HU ⊢
  clear hs4 hal hblk hW hr hz hU g4 g5 g6 g7
  by_cases h0 : i.o = 14
  · rw [if_pos h0] at HU
    have e0 : (i.o == 14) = true := by simpa using h0
    clear h0
    cases h1 : hasL (shapeL i.o) 98 with
    | true =>
      rw [h1] at HU HH0
      rw [if_pos rfl] at HU
      clear h1
      cases h2 : hasL (shapeL i.o) 99 with
      | true =>
        rw [h2] at HU HH1
        rw [if_pos rfl] at HU
        clear h2
        cases h3 : hasL (shapeL i.o) 118 with
        | true =>
          rw [h3] at HU HH2
          rw [if_pos rfl] at HU
          clear h3
          go_enter Tryd.func25, Tryd.ntmps25
          go_wp2_with fail
          rw [← HW.out]
          refine (HSH.out _).mono ?_
          rintro e W ⟨rfl, rfl⟩
          go_wp2_with (at_builtin; refine wpList_app _ rfl _ _ 26 rfl (w.heap.size + 1) 3 i0 (.int .i64 0) 1 8 Tryd.underlying26 hi hz0 hz1 hz2 rfl (by decide) _ _ _ rfl ((World.ownsRow_nil _ _ _ _).alloc _) (some ⟨W.heap.size, 0, none⟩) 1 1 [.int .i64 i.a] rfl rfl (rd_blk (k := 1) (heap_alloc_new _ _) rfl) (by simp [Value.oneCell']) (by have := HZ.out; simp only [maxLen]; omega) (by have := HZ.out; omega) (by have := HB0.out.size; have := HSZ.out; simp; omega) ?_; intro v1 w1 hown1 hg1 hb1 hat1; clear hg1 hat1; have HB1 := Lib.hid (HB0.out.trans (((Below.refl _ W).alloc (by have := HB0.out.size; have := HSZ.out; omega) _).trans hb1)); obtain ⟨x10, x11, x12, x13, x14, x15, x16, x17, x18⟩ := in_cells ((HB1.out.block _ (Nat.lt_succ_self _)).trans HBK.out); clear g0 g1 g2 g3 g8 hb1 x14 x15 x16 x17)
          refine (HH0.out _).mono ?_
          rintro e w1 ⟨rfl, rfl⟩
          go_wp2_with (at_builtin; refine wpList_app _ rfl _ _ 26 rfl (w.heap.size + 1) 3 i0 (.int .i64 0) 1 8 Tryd.underlying26 hi hz0 hz1 hz2 rfl (by decide) _ _ _ rfl ((hown1).alloc _) (some ⟨w1.heap.size, 0, none⟩) 1 1 [.int .i64 i.b] rfl rfl (rd_blk (k := 1) (heap_alloc_new _ _) rfl) (by simp [Value.oneCell']) (by have := HZ.out; simp only [maxLen]; omega) (by have := HZ.out; omega) (by have := HB1.out.size; have := HSZ.out; simp; omega) ?_; intro v2 w2 hown2 hg2 hb2 hat2; clear hg2 hat2; have HB2 := Lib.hid (HB1.out.trans (((Below.refl _ w1).alloc (by have := HB1.out.size; have := HSZ.out; omega) _).trans hb2)); obtain ⟨x20, x21, x22, x23, x24, x25, x26, x27, x28⟩ := in_cells ((HB2.out.block _ (Nat.lt_succ_self _)).trans HBK.out); clear x10 x11 x12 x13 x18 hb2 x24 x25 x26 x27)
          refine (HH1.out _).mono ?_
          rintro e w2 ⟨rfl, rfl⟩
          go_wp2_with (at_builtin; refine wpList_app _ rfl _ _ 26 rfl (w.heap.size + 1) 3 i0 (.int .i64 0) 1 8 Tryd.underlying26 hi hz0 hz1 hz2 rfl (by decide) _ _ _ rfl ((hown2).alloc _) (some ⟨w2.heap.size, 0, none⟩) 1 1 [.int .i64 i.c] rfl rfl (rd_blk (k := 1) (heap_alloc_new _ _) rfl) (by simp [Value.oneCell']) (by have := HZ.out; simp only [maxLen]; omega) (by have := HZ.out; omega) (by have := HB2.out.size; have := HSZ.out; simp; omega) ?_; intro v3 w3 hown3 hg3 hb3 hat3; clear hg3 hat3; have HB3 := Lib.hid (HB2.out.trans (((Below.refl _ w2).alloc (by have := HB2.out.size; have := HSZ.out; omega) _).trans hb3)); obtain ⟨x30, x31, x32, x33, x34, x35, x36, x37, x38⟩ := in_cells ((HB3.out.block _ (Nat.lt_succ_self _)).trans HBK.out); clear x20 x21 x22 x23 x28 hb3 x34 x35 x36 x37)
          refine (HH2.out _).mono ?_
          rintro e w3 ⟨rfl, rfl⟩
          go_wp2_with (at_builtin; refine wpList_app _ rfl _ _ 26 rfl (w.heap.size + 1) 3 i0 (.int .i64 0) 1 8 Tryd.underlying26 hi hz0 hz1 hz2 rfl (by decide) _ _ _ rfl (hown3) A i.ar.length c (IL i.ar) rfl (by rw [IL_len, Nat.mul_one]) (HR.out.below (HAL.out.trans (HB3.out.mono (Nat.le_succ _)))) (IL_one _) (by have := HZ.out; simp only [maxLen]; omega) (by have := HZ.out; omega) (by have := HB3.out.size; have := HSZ.out; simp; omega) ?_; intro v4 w4 hown4 hg4 hb4 hat4; clear hg4 hat4; have HB4 := Lib.hid (HB3.out.trans hb4); obtain ⟨x40, x41, x42, x43, x44, x45, x46, x47, x48⟩ := in_cells ((HB4.out.block _ (Nat.lt_succ_self _)).trans HBK.out); clear x30 x31 x32 x33 x38 hb4 x44 x45 x46 x47)
          go_ret
          obtain ⟨A9, c9, e9, -, -, hrd⟩ := own_rd hown4
          refine ⟨⟨A9, c9, ?_, ?_⟩, HAL.out.trans (HB4.out.mono (Nat.le_succ _))⟩
          · rw [HU.out, e9]; simp <;> omega
          · rw [HU.out]; simpa [IL] using hrd
        | false =>
          rw [h3] at HU HH2
          rw [if_neg Bool.false_ne_true] at HU
          clear h3
          go_enter Tryd.func25, Tryd.ntmps25
          go_wp2_with fail
          rw [← HW.out]
          refine (HSH.out _).mono ?_
          rintro e W ⟨rfl, rfl⟩
          go_wp2_with (at_builtin; refine wpList_app _ rfl _ _ 26 rfl (w.heap.size + 1) 3 i0 (.int .i64 0) 1 8 Tryd.underlying26 hi hz0 hz1 hz2 rfl (by decide) _ _ _ rfl ((World.ownsRow_nil _ _ _ _).alloc _) (some ⟨W.heap.size, 0, none⟩) 1 1 [.int .i64 i.a] rfl rfl (rd_blk (k := 1) (heap_alloc_new _ _) rfl) (by simp [Value.oneCell']) (by have := HZ.out; simp only [maxLen]; omega) (by have := HZ.out; omega) (by have := HB0.out.size; have := HSZ.out; simp; omega) ?_; intro v1 w1 hown1 hg1 hb1 hat1; clear hg1 hat1; have HB1 := Lib.hid (HB0.out.trans (((Below.refl _ W).alloc (by have := HB0.out.size; have := HSZ.out; omega) _).trans hb1)); obtain ⟨x10, x11, x12, x13, x14, x15, x16, x17, x18⟩ := in_cells ((HB1.out.block _ (Nat.lt_succ_self _)).trans HBK.out); clear g0 g1 g2 g3 g8 hb1 x14 x15 x16 x17)
          refine (HH0.out _).mono ?_
          rintro e w1 ⟨rfl, rfl⟩
          go_wp2_with (at_builtin; refine wpList_app _ rfl _ _ 26 rfl (w.heap.size + 1) 3 i0 (.int .i64 0) 1 8 Tryd.underlying26 hi hz0 hz1 hz2 rfl (by decide) _ _ _ rfl ((hown1).alloc _) (some ⟨w1.heap.size, 0, none⟩) 1 1 [.int .i64 i.b] rfl rfl (rd_blk (k := 1) (heap_alloc_new _ _) rfl) (by simp [Value.oneCell']) (by have := HZ.out; simp only [maxLen]; omega) (by have := HZ.out; omega) (by have := HB1.out.size; have := HSZ.out; simp; omega) ?_; intro v2 w2 hown2 hg2 hb2 hat2; clear hg2 hat2; have HB2 := Lib.hid (HB1.out.trans (((Below.refl _ w1).alloc (by have := HB1.out.size; have := HSZ.out; omega) _).trans hb2)); obtain ⟨x20, x21, x22, x23, x24, x25, x26, x27, x28⟩ := in_cells ((HB2.out.block _ (Nat.lt_succ_self _)).trans HBK.out); clear x10 x11 x12 x13 x18 hb2 x24 x25 x26 x27)
          refine (HH1.out _).mono ?_
          rintro e w2 ⟨rfl, rfl⟩
          go_wp2_with (at_builtin; refine wpList_app _ rfl _ _ 26 rfl (w.heap.size + 1) 3 i0 (.int .i64 0) 1 8 Tryd.underlying26 hi hz0 hz1 hz2 rfl (by decide) _ _ _ rfl ((hown2).alloc _) (some ⟨w2.heap.size, 0, none⟩) 1 1 [.int .i64 i.c] rfl rfl (rd_blk (k := 1) (heap_alloc_new _ _) rfl) (by simp [Value.oneCell']) (by have := HZ.out; simp only [maxLen]; omega) (by have := HZ.out; omega) (by have := HB2.out.size; have := HSZ.out; simp; omega) ?_; intro v3 w3 hown3 hg3 hb3 hat3; clear hg3 hat3; have HB3 := Lib.hid (HB2.out.trans (((Below.refl _ w2).alloc (by have := HB2.out.size; have := HSZ.out; omega) _).trans hb3)); obtain ⟨x30, x31, x32, x33, x34, x35, x36, x37, x38⟩ := in_cells ((HB3.out.block _ (Nat.lt_succ_self _)).trans HBK.out); clear x20 x21 x22 x23 x28 hb3 x34 x35 x36 x37)
          refine (HH2.out _).mono ?_
          rintro e w3 ⟨rfl, rfl⟩
          go_wp2
          go_ret
          obtain ⟨A9, c9, e9, -, -, hrd⟩ := own_rd hown3
          refine ⟨⟨A9, c9, ?_, ?_⟩, HAL.out.trans (HB3.out.mono (Nat.le_succ _))⟩
          · rw [HU.out, e9]; simp <;> omega
          · rw [HU.out]; simpa [IL] using hrd
      | false =>
        rw [h2] at HU HH1
        rw [if_neg Bool.false_ne_true] at HU
        clear h2
        cases h3 : hasL (shapeL i.o) 118 with
        | true =>
          rw [h3] at HU HH2
          rw [if_pos rfl] at HU
          clear h3
          go_enter Tryd.func25, Tryd.ntmps25
          go_wp2_with fail
          rw [← HW.out]
          refine (HSH.out _).mono ?_
          rintro e W ⟨rfl, rfl⟩
          go_wp2_with (at_builtin; refine wpList_app _ rfl _ _ 26 rfl (w.heap.size + 1) 3 i0 (.int .i64 0) 1 8 Tryd.underlying26 hi hz0 hz1 hz2 rfl (by decide) _ _ _ rfl ((World.ownsRow_nil _ _ _ _).alloc _) (some ⟨W.heap.size, 0, none⟩) 1 1 [.int .i64 i.a] rfl rfl (rd_blk (k := 1) (heap_alloc_new _ _) rfl) (by simp [Value.oneCell']) (by have := HZ.out; simp only [maxLen]; omega) (by have := HZ.out; omega) (by have := HB0.out.size; have := HSZ.out; simp; omega) ?_; intro v1 w1 hown1 hg1 hb1 hat1; clear hg1 hat1; have HB1 := Lib.hid (HB0.out.trans (((Below.refl _ W).alloc (by have := HB0.out.size; have := HSZ.out; omega) _).trans hb1)); obtain ⟨x10, x11, x12, x13, x14, x15, x16, x17, x18⟩ := in_cells ((HB1.out.block _ (Nat.lt_succ_self _)).trans HBK.out); clear g0 g1 g2 g3 g8 hb1 x14 x15 x16 x17)
          refine (HH0.out _).mono ?_
          rintro e w1 ⟨rfl, rfl⟩
          go_wp2_with (at_builtin; refine wpList_app _ rfl _ _ 26 rfl (w.heap.size + 1) 3 i0 (.int .i64 0) 1 8 Tryd.underlying26 hi hz0 hz1 hz2 rfl (by decide) _ _ _ rfl ((hown1).alloc _) (some ⟨w1.heap.size, 0, none⟩) 1 1 [.int .i64 i.b] rfl rfl (rd_blk (k := 1) (heap_alloc_new _ _) rfl) (by simp [Value.oneCell']) (by have := HZ.out; simp only [maxLen]; omega) (by have := HZ.out; omega) (by have := HB1.out.size; have := HSZ.out; simp; omega) ?_; intro v2 w2 hown2 hg2 hb2 hat2; clear hg2 hat2; have HB2 := Lib.hid (HB1.out.trans (((Below.refl _ w1).alloc (by have := HB1.out.size; have := HSZ.out; omega) _).trans hb2)); obtain ⟨x20, x21, x22, x23, x24, x25, x26, x27, x28⟩ := in_cells ((HB2.out.block _ (Nat.lt_succ_self _)).trans HBK.out); clear x10 x11 x12 x13 x18 hb2 x24 x25 x26 x27)
          refine (HH1.out _).mono ?_
          rintro e w2 ⟨rfl, rfl⟩
          go_wp2_with fail
          refine (HH2.out _).mono ?_
          rintro e w2 ⟨rfl, rfl⟩
          go_wp2_with (at_builtin; refine wpList_app _ rfl _ _ 26 rfl (w.heap.size + 1) 3 i0 (.int .i64 0) 1 8 Tryd.underlying26 hi hz0 hz1 hz2 rfl (by decide) _ _ _ rfl (hown2) A i.ar.length c (IL i.ar) rfl (by rw [IL_len, Nat.mul_one]) (HR.out.below (HAL.out.trans (HB2.out.mono (Nat.le_succ _)))) (IL_one _) (by have := HZ.out; simp only [maxLen]; omega) (by have := HZ.out; omega) (by have := HB2.out.size; have := HSZ.out; simp; omega) ?_; intro v3 w3 hown3 hg3 hb3 hat3; clear hg3 hat3; have HB3 := Lib.hid (HB2.out.trans hb3); obtain ⟨x30, x31, x32, x33, x34, x35, x36, x37, x38⟩ := in_cells ((HB3.out.block _ (Nat.lt_succ_self _)).trans HBK.out); clear x20 x21 x22 x23 x28 hb3 x34 x35 x36 x37)
          go_ret
          obtain ⟨A9, c9, e9, -, -, hrd⟩ := own_rd hown3
          refine ⟨⟨A9, c9, ?_, ?_⟩, HAL.out.trans (HB3.out.mono (Nat.le_succ _))⟩
          · rw [HU.out, e9]; simp <;> omega
          · rw [HU.out]; simpa [IL] using hrd
        | false =>
          rw [h3] at HU HH2
          rw [if_neg Bool.false_ne_true] at HU
          clear h3
          go_enter Tryd.func25, Tryd.ntmps25
          go_wp2_with fail
          rw [← HW.out]
          refine (HSH.out _).mono ?_
          rintro e W ⟨rfl, rfl⟩
          go_wp2_with (at_builtin; refine wpList_app _ rfl _ _ 26 rfl (w.heap.size + 1) 3 i0 (.int .i64 0) 1 8 Tryd.underlying26 hi hz0 hz1 hz2 rfl (by decide) _ _ _ rfl ((World.ownsRow_nil _ _ _ _).alloc _) (some ⟨W.heap.size, 0, none⟩) 1 1 [.int .i64 i.a] rfl rfl (rd_blk (k := 1) (heap_alloc_new _ _) rfl) (by simp [Value.oneCell']) (by have := HZ.out; simp only [maxLen]; omega) (by have := HZ.out; omega) (by have := HB0.out.size; have := HSZ.out; simp; omega) ?_; intro v1 w1 hown1 hg1 hb1 hat1; clear hg1 hat1; have HB1 := Lib.hid (HB0.out.trans (((Below.refl _ W).alloc (by have := HB0.out.size; have := HSZ.out; omega) _).trans hb1)); obtain ⟨x10, x11, x12, x13, x14, x15, x16, x17, x18⟩ := in_cells ((HB1.out.block _ (Nat.lt_succ_self _)).trans HBK.out); clear g0 g1 g2 g3 g8 hb1 x14 x15 x16 x17)
          refine (HH0.out _).mono ?_
          rintro e w1 ⟨rfl, rfl⟩
          go_wp2_with (at_builtin; refine wpList_app _ rfl _ _ 26 rfl (w.heap.size + 1) 3 i0 (.int .i64 0) 1 8 Tryd.underlying26 hi hz0 hz1 hz2 rfl (by decide) _ _ _ rfl ((hown1).alloc _) (some ⟨w1.heap.size, 0, none⟩) 1 1 [.int .i64 i.b] rfl rfl (rd_blk (k := 1) (heap_alloc_new _ _) rfl) (by simp [Value.oneCell']) (by have := HZ.out; simp only [maxLen]; omega) (by have := HZ.out; omega) (by have := HB1.out.size; have := HSZ.out; simp; omega) ?_; intro v2 w2 hown2 hg2 hb2 hat2; clear hg2 hat2; have HB2 := Lib.hid (HB1.out.trans (((Below.refl _ w1).alloc (by have := HB1.out.size; have := HSZ.out; omega) _).trans hb2)); obtain ⟨x20, x21, x22, x23, x24, x25, x26, x27, x28⟩ := in_cells ((HB2.out.block _ (Nat.lt_succ_self _)).trans HBK.out); clear x10 x11 x12 x13 x18 hb2 x24 x25 x26 x27)
          refine (HH1.out _).mono ?_
          rintro e w2 ⟨rfl, rfl⟩
          go_wp2_with fail
          refine (HH2.out _).mono ?_
          rintro e w2 ⟨rfl, rfl⟩
          go_wp2
          go_ret
          obtain ⟨A9, c9, e9, -, -, hrd⟩ := own_rd hown2
          refine ⟨⟨A9, c9, ?_, ?_⟩, HAL.out.trans (HB2.out.mono (Nat.le_succ _))⟩
          · rw [HU.out, e9]; simp <;> omega
          · rw [HU.out]; simpa [IL] using hrd
    | false =>
      rw [h1] at HU HH0
      rw [if_neg Bool.false_ne_true] at HU
      clear h1
      cases h2 : hasL (shapeL i.o) 99 with
      | true =>
        rw [h2] at HU HH1
        rw [if_pos rfl] at HU
        clear h2
        cases h3 : hasL (shapeL i.o) 118 with
        | true =>
          rw [h3] at HU HH2
          rw [if_pos rfl] at HU
          clear h3
          go_enter Tryd.func25, Tryd.ntmps25
          go_wp2_with fail
          rw [← HW.out]
          refine (HSH.out _).mono ?_
          rintro e W ⟨rfl, rfl⟩
          go_wp2_with (at_builtin; refine wpList_app _ rfl _ _ 26 rfl (w.heap.size + 1) 3 i0 (.int .i64 0) 1 8 Tryd.underlying26 hi hz0 hz1 hz2 rfl (by decide) _ _ _ rfl ((World.ownsRow_nil _ _ _ _).alloc _) (some ⟨W.heap.size, 0, none⟩) 1 1 [.int .i64 i.a] rfl rfl (rd_blk (k := 1) (heap_alloc_new _ _) rfl) (by simp [Value.oneCell']) (by have := HZ.out; simp only [maxLen]; omega) (by have := HZ.out; omega) (by have := HB0.out.size; have := HSZ.out; simp; omega) ?_; intro v1 w1 hown1 hg1 hb1 hat1; clear hg1 hat1; have HB1 := Lib.hid (HB0.out.trans (((Below.refl _ W).alloc (by have := HB0.out.size; have := HSZ.out; omega) _).trans hb1)); obtain ⟨x10, x11, x12, x13, x14, x15, x16, x17, x18⟩ := in_cells ((HB1.out.block _ (Nat.lt_succ_self _)).trans HBK.out); clear g0 g1 g2 g3 g8 hb1 x14 x15 x16 x17)
          refine (HH0.out _).mono ?_
          rintro e w1 ⟨rfl, rfl⟩
          go_wp2_with fail
          refine (HH1.out _).mono ?_
          rintro e w1 ⟨rfl, rfl⟩
          go_wp2_with (at_builtin; refine wpList_app _ rfl _ _ 26 rfl (w.heap.size + 1) 3 i0 (.int .i64 0) 1 8 Tryd.underlying26 hi hz0 hz1 hz2 rfl (by decide) _ _ _ rfl ((hown1).alloc _) (some ⟨w1.heap.size, 0, none⟩) 1 1 [.int .i64 i.c] rfl rfl (rd_blk (k := 1) (heap_alloc_new _ _) rfl) (by simp [Value.oneCell']) (by have := HZ.out; simp only [maxLen]; omega) (by have := HZ.out; omega) (by have := HB1.out.size; have := HSZ.out; simp; omega) ?_; intro v2 w2 hown2 hg2 hb2 hat2; clear hg2 hat2; have HB2 := Lib.hid (HB1.out.trans (((Below.refl _ w1).alloc (by have := HB1.out.size; have := HSZ.out; omega) _).trans hb2)); obtain ⟨x20, x21, x22, x23, x24, x25, x26, x27, x28⟩ := in_cells ((HB2.out.block _ (Nat.lt_succ_self _)).trans HBK.out); clear x10 x11 x12 x13 x18 hb2 x24 x25 x26 x27)
          refine (HH2.out _).mono ?_
          rintro e w2 ⟨rfl, rfl⟩
          go_wp2_with (at_builtin; refine wpList_app _ rfl _ _ 26 rfl (w.heap.size + 1) 3 i0 (.int .i64 0) 1 8 Tryd.underlying26 hi hz0 hz1 hz2 rfl (by decide) _ _ _ rfl (hown2) A i.ar.length c (IL i.ar) rfl (by rw [IL_len, Nat.mul_one]) (HR.out.below (HAL.out.trans (HB2.out.mono (Nat.le_succ _)))) (IL_one _) (by have := HZ.out; simp only [maxLen]; omega) (by have := HZ.out; omega) (by have := HB2.out.size; have := HSZ.out; simp; omega) ?_; intro v3 w3 hown3 hg3 hb3 hat3; clear hg3 hat3; have HB3 := Lib.hid (HB2.out.trans hb3); obtain ⟨x30, x31, x32, x33, x34, x35, x36, x37, x38⟩ := in_cells ((HB3.out.block _ (Nat.lt_succ_self _)).trans HBK.out); clear x20 x21 x22 x23 x28 hb3 x34 x35 x36 x37)
          go_ret
          obtain ⟨A9, c9, e9, -, -, hrd⟩ := own_rd hown3
          refine ⟨⟨A9, c9, ?_, ?_⟩, HAL.out.trans (HB3.out.mono (Nat.le_succ _))⟩
          · rw [HU.out, e9]; simp <;> omega
          · rw [HU.out]; simpa [IL] using hrd
        | false =>
          rw [h3] at HU HH2
          rw [if_neg Bool.false_ne_true] at HU
          clear h3
          go_enter Tryd.func25, Tryd.ntmps25
          go_wp2_with fail
          rw [← HW.out]
          refine (HSH.out _).mono ?_
          rintro e W ⟨rfl, rfl⟩
          go_wp2_with (at_builtin; refine wpList_app _ rfl _ _ 26 rfl (w.heap.size + 1) 3 i0 (.int .i64 0) 1 8 Tryd.underlying26 hi hz0 hz1 hz2 rfl (by decide) _ _ _ rfl ((World.ownsRow_nil _ _ _ _).alloc _) (some ⟨W.heap.size, 0, none⟩) 1 1 [.int .i64 i.a] rfl rfl (rd_blk (k := 1) (heap_alloc_new _ _) rfl) (by simp [Value.oneCell']) (by have := HZ.out; simp only [maxLen]; omega) (by have := HZ.out; omega) (by have := HB0.out.size; have := HSZ.out; simp; omega) ?_; intro v1 w1 hown1 hg1 hb1 hat1; clear hg1 hat1; have HB1 := Lib.hid (HB0.out.trans (((Below.refl _ W).alloc (by have := HB0.out.size; have := HSZ.out; omega) _).trans hb1)); obtain ⟨x10, x11, x12, x13, x14, x15, x16, x17, x18⟩ := in_cells ((HB1.out.block _ (Nat.lt_succ_self _)).trans HBK.out); clear g0 g1 g2 g3 g8 hb1 x14 x15 x16 x17)
          refine (HH0.out _).mono ?_
          rintro e w1 ⟨rfl, rfl⟩
          go_wp2_with fail
          refine (HH1.out _).mono ?_
          rintro e w1 ⟨rfl, rfl⟩
          go_wp2_with (at_builtin; refine wpList_app _ rfl _ _ 26 rfl (w.heap.size + 1) 3 i0 (.int .i64 0) 1 8 Tryd.underlying26 hi hz0 hz1 hz2 rfl (by decide) _ _ _ rfl ((hown1).alloc _) (some ⟨w1.heap.size, 0, none⟩) 1 1 [.int .i64 i.c] rfl rfl (rd_blk (k := 1) (heap_alloc_new _ _) rfl) (by simp [Value.oneCell']) (by have := HZ.out; simp only [maxLen]; omega) (by have := HZ.out; omega) (by have := HB1.out.size; have := HSZ.out; simp; omega) ?_; intro v2 w2 hown2 hg2 hb2 hat2; clear hg2 hat2; have HB2 := Lib.hid (HB1.out.trans (((Below.refl _ w1).alloc (by have := HB1.out.size; have := HSZ.out; omega) _).trans hb2)); obtain ⟨x20, x21, x22, x23, x24, x25, x26, x27, x28⟩ := in_cells ((HB2.out.block _ (Nat.lt_succ_self _)).trans HBK.out); clear x10 x11 x12 x13 x18 hb2 x24 x25 x26 x27)
          refine (HH2.out _).mono ?_
          rintro e w2 ⟨rfl, rfl⟩
          go_wp2
          go_ret
          obtain ⟨A9, c9, e9, -, -, hrd⟩ := own_rd hown2
          refine ⟨⟨A9, c9, ?_, ?_⟩, HAL.out.trans (HB2.out.mono (Nat.le_succ _))⟩
          · rw [HU.out, e9]; simp <;> omega
          · rw [HU.out]; simpa [IL] using hrd
      | false =>
        rw [h2] at HU HH1
        rw [if_neg Bool.false_ne_true] at HU
        clear h2
        cases h3 : hasL (shapeL i.o) 118 with
        | true =>
          rw [h3] at HU HH2
          rw [if_pos rfl] at HU
          clear h3
          go_enter Tryd.func25, Tryd.ntmps25
          go_wp2_with fail
          rw [← HW.out]
          refine (HSH.out _).mono ?_
          rintro e W ⟨rfl, rfl⟩
          go_wp2_with (at_builtin; refine wpList_app _ rfl _ _ 26 rfl (w.heap.size + 1) 3 i0 (.int .i64 0) 1 8 Tryd.underlying26 hi hz0 hz1 hz2 rfl (by decide) _ _ _ rfl ((World.ownsRow_nil _ _ _ _).alloc _) (some ⟨W.heap.size, 0, none⟩) 1 1 [.int .i64 i.a] rfl rfl (rd_blk (k := 1) (heap_alloc_new _ _) rfl) (by simp [Value.oneCell']) (by have := HZ.out; simp only [maxLen]; omega) (by have := HZ.out; omega) (by have := HB0.out.size; have := HSZ.out; simp; omega) ?_; intro v1 w1 hown1 hg1 hb1 hat1; clear hg1 hat1; have HB1 := Lib.hid (HB0.out.trans (((Below.refl _ W).alloc (by have := HB0.out.size; have := HSZ.out; omega) _).trans hb1)); obtain ⟨x10, x11, x12, x13, x14, x15, x16, x17, x18⟩ := in_cells ((HB1.out.block _ (Nat.lt_succ_self _)).trans HBK.out); clear g0 g1 g2 g3 g8 hb1 x14 x15 x16 x17)
          refine (HH0.out _).mono ?_
          rintro e w1 ⟨rfl, rfl⟩
          go_wp2_with fail
          refine (HH1.out _).mono ?_
          rintro e w1 ⟨rfl, rfl⟩
          go_wp2_with fail
          refine (HH2.out _).mono ?_
          rintro e w1 ⟨rfl, rfl⟩
          go_wp2_with (at_builtin; refine wpList_app _ rfl _ _ 26 rfl (w.heap.size + 1) 3 i0 (.int .i64 0) 1 8 Tryd.underlying26 hi hz0 hz1 hz2 rfl (by decide) _ _ _ rfl (hown1) A i.ar.length c (IL i.ar) rfl (by rw [IL_len, Nat.mul_one]) (HR.out.below (HAL.out.trans (HB1.out.mono (Nat.le_succ _)))) (IL_one _) (by have := HZ.out; simp only [maxLen]; omega) (by have := HZ.out; omega) (by have := HB1.out.size; have := HSZ.out; simp; omega) ?_; intro v2 w2 hown2 hg2 hb2 hat2; clear hg2 hat2; have HB2 := Lib.hid (HB1.out.trans hb2); obtain ⟨x20, x21, x22, x23, x24, x25, x26, x27, x28⟩ := in_cells ((HB2.out.block _ (Nat.lt_succ_self _)).trans HBK.out); clear x10 x11 x12 x13 x18 hb2 x24 x25 x26 x27)
          go_ret
          obtain ⟨A9, c9, e9, -, -, hrd⟩ := own_rd hown2
          refine ⟨⟨A9, c9, ?_, ?_⟩, HAL.out.trans (HB2.out.mono (Nat.le_succ _))⟩
          · rw [HU.out, e9]; simp <;> omega
          · rw [HU.out]; simpa [IL] using hrd
        | false =>
          rw [h3] at HU HH2
          rw [if_neg Bool.false_ne_true] at HU
          clear h3
          go_enter Tryd.func25, Tryd.ntmps25
          go_wp2_with fail
          rw [← HW.out]
          refine (HSH.out _).mono ?_
          rintro e W ⟨rfl, rfl⟩
          go_wp2_with (at_builtin; refine wpList_app _ rfl _ _ 26 rfl (w.heap.size + 1) 3 i0 (.int .i64 0) 1 8 Tryd.underlying26 hi hz0 hz1 hz2 rfl (by decide) _ _ _ rfl ((World.ownsRow_nil _ _ _ _).alloc _) (some ⟨W.heap.size, 0, none⟩) 1 1 [.int .i64 i.a] rfl rfl (rd_blk (k := 1) (heap_alloc_new _ _) rfl) (by simp [Value.oneCell']) (by have := HZ.out; simp only [maxLen]; omega) (by have := HZ.out; omega) (by have := HB0.out.size; have := HSZ.out; simp; omega) ?_; intro v1 w1 hown1 hg1 hb1 hat1; clear hg1 hat1; have HB1 := Lib.hid (HB0.out.trans (((Below.refl _ W).alloc (by have := HB0.out.size; have := HSZ.out; omega) _).trans hb1)); obtain ⟨x10, x11, x12, x13, x14, x15, x16, x17, x18⟩ := in_cells ((HB1.out.block _ (Nat.lt_succ_self _)).trans HBK.out); clear g0 g1 g2 g3 g8 hb1 x14 x15 x16 x17)
          refine (HH0.out _).mono ?_
          rintro e w1 ⟨rfl, rfl⟩
          go_wp2_with fail
          refine (HH1.out _).mono ?_
          rintro e w1 ⟨rfl, rfl⟩
          go_wp2_with fail
          refine (HH2.out _).mono ?_
          rintro e w1 ⟨rfl, rfl⟩
          go_wp2
          go_ret
          obtain ⟨A9, c9, e9, -, -, hrd⟩ := own_rd hown1
          refine ⟨⟨A9, c9, ?_, ?_⟩, HAL.out.trans (HB1.out.mono (Nat.le_succ _))⟩
          · rw [HU.out, e9]; simp <;> omega
          · rw [HU.out]; simpa [IL] using hrd
  · rw [if_neg h0] at HU
    have e0 : (i.o == 14) = false := by simpa using h0
    clear h0
    cases h1 : hasL (shapeL i.o) 98 with
    | true =>
      rw [h1] at HU HH0
      rw [if_pos rfl] at HU
      clear h1
      cases h2 : hasL (shapeL i.o) 99 with
      | true =>
        rw [h2] at HU HH1
        rw [if_pos rfl] at HU
        clear h2
        cases h3 : hasL (shapeL i.o) 118 with
        | true =>
          rw [h3] at HU HH2
          rw [if_pos rfl] at HU
          clear h3
          go_enter Tryd.func25, Tryd.ntmps25
          go_wp2_with fail
          rw [← HW.out]
          refine (HSH.out _).mono ?_
          rintro e W ⟨rfl, rfl⟩
          go_wp2_with fail
          refine (HH0.out _).mono ?_
          rintro e W ⟨rfl, rfl⟩
          go_wp2_with (at_builtin; refine wpList_app _ rfl _ _ 26 rfl (w.heap.size + 1) 3 i0 (.int .i64 0) 1 8 Tryd.underlying26 hi hz0 hz1 hz2 rfl (by decide) _ _ _ rfl ((World.ownsRow_nil _ _ _ _).alloc _) (some ⟨W.heap.size, 0, none⟩) 1 1 [.int .i64 i.b] rfl rfl (rd_blk (k := 1) (heap_alloc_new _ _) rfl) (by simp [Value.oneCell']) (by have := HZ.out; simp only [maxLen]; omega) (by have := HZ.out; omega) (by have := HB0.out.size; have := HSZ.out; simp; omega) ?_; intro v1 w1 hown1 hg1 hb1 hat1; clear hg1 hat1; have HB1 := Lib.hid (HB0.out.trans (((Below.refl _ W).alloc (by have := HB0.out.size; have := HSZ.out; omega) _).trans hb1)); obtain ⟨x10, x11, x12, x13, x14, x15, x16, x17, x18⟩ := in_cells ((HB1.out.block _ (Nat.lt_succ_self _)).trans HBK.out); clear g0 g1 g2 g3 g8 hb1 x14 x15 x16 x17)
          refine (HH1.out _).mono ?_
          rintro e w1 ⟨rfl, rfl⟩
          go_wp2_with (at_builtin; refine wpList_app _ rfl _ _ 26 rfl (w.heap.size + 1) 3 i0 (.int .i64 0) 1 8 Tryd.underlying26 hi hz0 hz1 hz2 rfl (by decide) _ _ _ rfl ((hown1).alloc _) (some ⟨w1.heap.size, 0, none⟩) 1 1 [.int .i64 i.c] rfl rfl (rd_blk (k := 1) (heap_alloc_new _ _) rfl) (by simp [Value.oneCell']) (by have := HZ.out; simp only [maxLen]; omega) (by have := HZ.out; omega) (by have := HB1.out.size; have := HSZ.out; simp; omega) ?_; intro v2 w2 hown2 hg2 hb2 hat2; clear hg2 hat2; have HB2 := Lib.hid (HB1.out.trans (((Below.refl _ w1).alloc (by have := HB1.out.size; have := HSZ.out; omega) _).trans hb2)); obtain ⟨x20, x21, x22, x23, x24, x25, x26, x27, x28⟩ := in_cells ((HB2.out.block _ (Nat.lt_succ_self _)).trans HBK.out); clear x10 x11 x12 x13 x18 hb2 x24 x25 x26 x27)
          refine (HH2.out _).mono ?_
          rintro e w2 ⟨rfl, rfl⟩
          go_wp2_with (at_builtin; refine wpList_app _ rfl _ _ 26 rfl (w.heap.size + 1) 3 i0 (.int .i64 0) 1 8 Tryd.underlying26 hi hz0 hz1 hz2 rfl (by decide) _ _ _ rfl (hown2) A i.ar.length c (IL i.ar) rfl (by rw [IL_len, Nat.mul_one]) (HR.out.below (HAL.out.trans (HB2.out.mono (Nat.le_succ _)))) (IL_one _) (by have := HZ.out; simp only [maxLen]; omega) (by have := HZ.out; omega) (by have := HB2.out.size; have := HSZ.out; simp; omega) ?_; intro v3 w3 hown3 hg3 hb3 hat3; clear hg3 hat3; have HB3 := Lib.hid (HB2.out.trans hb3); obtain ⟨x30, x31, x32, x33, x34, x35, x36, x37, x38⟩ := in_cells ((HB3.out.block _ (Nat.lt_succ_self _)).trans HBK.out); clear x20 x21 x22 x23 x28 hb3 x34 x35 x36 x37)
          go_ret
          obtain ⟨A9, c9, e9, -, -, hrd⟩ := own_rd hown3
          refine ⟨⟨A9, c9, ?_, ?_⟩, HAL.out.trans (HB3.out.mono (Nat.le_succ _))⟩
          · rw [HU.out, e9]; simp <;> omega
          · rw [HU.out]; simpa [IL] using hrd
        | false =>
          rw [h3] at HU HH2
          rw [if_neg Bool.false_ne_true] at HU
          clear h3
          go_enter Tryd.func25, Tryd.ntmps25
          go_wp2_with fail
          rw [← HW.out]
          refine (HSH.out _).mono ?_
          rintro e W ⟨rfl, rfl⟩
          go_wp2_with fail
          refine (HH0.out _).mono ?_
          rintro e W ⟨rfl, rfl⟩
          go_wp2_with (at_builtin; refine wpList_app _ rfl _ _ 26 rfl (w.heap.size + 1) 3 i0 (.int .i64 0) 1 8 Tryd.underlying26 hi hz0 hz1 hz2 rfl (by decide) _ _ _ rfl ((World.ownsRow_nil _ _ _ _).alloc _) (some ⟨W.heap.size, 0, none⟩) 1 1 [.int .i64 i.b] rfl rfl (rd_blk (k := 1) (heap_alloc_new _ _) rfl) (by simp [Value.oneCell']) (by have := HZ.out; simp only [maxLen]; omega) (by have := HZ.out; omega) (by have := HB0.out.size; have := HSZ.out; simp; omega) ?_; intro v1 w1 hown1 hg1 hb1 hat1; clear hg1 hat1; have HB1 := Lib.hid (HB0.out.trans (((Below.refl _ W).alloc (by have := HB0.out.size; have := HSZ.out; omega) _).trans hb1)); obtain ⟨x10, x11, x12, x13, x14, x15, x16, x17, x18⟩ := in_cells ((HB1.out.block _ (Nat.lt_succ_self _)).trans HBK.out); clear g0 g1 g2 g3 g8 hb1 x14 x15 x16 x17)
          refine (HH1.out _).mono ?_
          rintro e w1 ⟨rfl, rfl⟩
          go_wp2_with (at_builtin; refine wpList_app _ rfl _ _ 26 rfl (w.heap.size + 1) 3 i0 (.int .i64 0) 1 8 Tryd.underlying26 hi hz0 hz1 hz2 rfl (by decide) _ _ _ rfl ((hown1).alloc _) (some ⟨w1.heap.size, 0, none⟩) 1 1 [.int .i64 i.c] rfl rfl (rd_blk (k := 1) (heap_alloc_new _ _) rfl) (by simp [Value.oneCell']) (by have := HZ.out; simp only [maxLen]; omega) (by have := HZ.out; omega) (by have := HB1.out.size; have := HSZ.out; simp; omega) ?_; intro v2 w2 hown2 hg2 hb2 hat2; clear hg2 hat2; have HB2 := Lib.hid (HB1.out.trans (((Below.refl _ w1).alloc (by have := HB1.out.size; have := HSZ.out; omega) _).trans hb2)); obtain ⟨x20, x21, x22, x23, x24, x25, x26, x27, x28⟩ := in_cells ((HB2.out.block _ (Nat.lt_succ_self _)).trans HBK.out); clear x10 x11 x12 x13 x18 hb2 x24 x25 x26 x27)
          refine (HH2.out _).mono ?_
          rintro e w2 ⟨rfl, rfl⟩
          go_wp2
          go_ret
          obtain ⟨A9, c9, e9, -, -, hrd⟩ := own_rd hown2
          refine ⟨⟨A9, c9, ?_, ?_⟩, HAL.out.trans (HB2.out.mono (Nat.le_succ _))⟩
          · rw [HU.out, e9]; simp <;> omega
          · rw [HU.out]; simpa [IL] using hrd
      | false =>
        rw [h2] at HU HH1
        rw [if_neg Bool.false_ne_true] at HU
        clear h2
        cases h3 : hasL (shapeL i.o) 118 with
        | true =>
          rw [h3] at HU HH2
          rw [if_pos rfl] at HU
          clear h3
          go_enter Tryd.func25, Tryd.ntmps25
          go_wp2_with fail
          rw [← HW.out]
          refine (HSH.out _).mono ?_
          rintro e W ⟨rfl, rfl⟩
          go_wp2_with fail
          refine (HH0.out _).mono ?_
          rintro e W ⟨rfl, rfl⟩
          go_wp2_with (at_builtin; refine wpList_app _ rfl _ _ 26 rfl (w.heap.size + 1) 3 i0 (.int .i64 0) 1 8 Tryd.underlying26 hi hz0 hz1 hz2 rfl (by decide) _ _ _ rfl ((World.ownsRow_nil _ _ _ _).alloc _) (some ⟨W.heap.size, 0, none⟩) 1 1 [.int .i64 i.b] rfl rfl (rd_blk (k := 1) (heap_alloc_new _ _) rfl) (by simp [Value.oneCell']) (by have := HZ.out; simp only [maxLen]; omega) (by have := HZ.out; omega) (by have := HB0.out.size; have := HSZ.out; simp; omega) ?_; intro v1 w1 hown1 hg1 hb1 hat1; clear hg1 hat1; have HB1 := Lib.hid (HB0.out.trans (((Below.refl _ W).alloc (by have := HB0.out.size; have := HSZ.out; omega) _).trans hb1)); obtain ⟨x10, x11, x12, x13, x14, x15, x16, x17, x18⟩ := in_cells ((HB1.out.block _ (Nat.lt_succ_self _)).trans HBK.out); clear g0 g1 g2 g3 g8 hb1 x14 x15 x16 x17)
          refine (HH1.out _).mono ?_
          rintro e w1 ⟨rfl, rfl⟩
          go_wp2_with fail
          refine (HH2.out _).mono ?_
          rintro e w1 ⟨rfl, rfl⟩
          go_wp2_with (at_builtin; refine wpList_app _ rfl _ _ 26 rfl (w.heap.size + 1) 3 i0 (.int .i64 0) 1 8 Tryd.underlying26 hi hz0 hz1 hz2 rfl (by decide) _ _ _ rfl (hown1) A i.ar.length c (IL i.ar) rfl (by rw [IL_len, Nat.mul_one]) (HR.out.below (HAL.out.trans (HB1.out.mono (Nat.le_succ _)))) (IL_one _) (by have := HZ.out; simp only [maxLen]; omega) (by have := HZ.out; omega) (by have := HB1.out.size; have := HSZ.out; simp; omega) ?_; intro v2 w2 hown2 hg2 hb2 hat2; clear hg2 hat2; have HB2 := Lib.hid (HB1.out.trans hb2); obtain ⟨x20, x21, x22, x23, x24, x25, x26, x27, x28⟩ := in_cells ((HB2.out.block _ (Nat.lt_succ_self _)).trans HBK.out); clear x10 x11 x12 x13 x18 hb2 x24 x25 x26 x27)
          go_ret
          obtain ⟨A9, c9, e9, -, -, hrd⟩ := own_rd hown2
          refine ⟨⟨A9, c9, ?_, ?_⟩, HAL.out.trans (HB2.out.mono (Nat.le_succ _))⟩
          · rw [HU.out, e9]; simp <;> omega
          · rw [HU.out]; simpa [IL] using hrd
        | false =>
          rw [h3] at HU HH2
          rw [if_neg Bool.false_ne_true] at HU
          clear h3
          go_enter Tryd.func25, Tryd.ntmps25
          go_wp2_with fail
          rw [← HW.out]
          refine (HSH.out _).mono ?_
          rintro e W ⟨rfl, rfl⟩
          go_wp2_with fail
          refine (HH0.out _).mono ?_
          rintro e W ⟨rfl, rfl⟩
          go_wp2_with (at_builtin; refine wpList_app _ rfl _ _ 26 rfl (w.heap.size + 1) 3 i0 (.int .i64 0) 1 8 Tryd.underlying26 hi hz0 hz1 hz2 rfl (by decide) _ _ _ rfl ((World.ownsRow_nil _ _ _ _).alloc _) (some ⟨W.heap.size, 0, none⟩) 1 1 [.int .i64 i.b] rfl rfl (rd_blk (k := 1) (heap_alloc_new _ _) rfl) (by simp [Value.oneCell']) (by have := HZ.out; simp only [maxLen]; omega) (by have := HZ.out; omega) (by have := HB0.out.size; have := HSZ.out; simp; omega) ?_; intro v1 w1 hown1 hg1 hb1 hat1; clear hg1 hat1; have HB1 := Lib.hid (HB0.out.trans (((Below.refl _ W).alloc (by have := HB0.out.size; have := HSZ.out; omega) _).trans hb1)); obtain ⟨x10, x11, x12, x13, x14, x15, x16, x17, x18⟩ := in_cells ((HB1.out.block _ (Nat.lt_succ_self _)).trans HBK.out); clear g0 g1 g2 g3 g8 hb1 x14 x15 x16 x17)
          refine (HH1.out _).mono ?_
          rintro e w1 ⟨rfl, rfl⟩
          go_wp2_with fail
          refine (HH2.out _).mono ?_
          rintro e w1 ⟨rfl, rfl⟩
          go_wp2
          go_ret
          obtain ⟨A9, c9, e9, -, -, hrd⟩ := own_rd hown1
          refine ⟨⟨A9, c9, ?_, ?_⟩, HAL.out.trans (HB1.out.mono (Nat.le_succ _))⟩
          · rw [HU.out, e9]; simp <;> omega
          · rw [HU.out]; simpa [IL] using hrd
    | false =>
      rw [h1] at HU HH0
      rw [if_neg Bool.false_ne_true] at HU
      clear h1
      cases h2 : hasL (shapeL i.o) 99 with
      | true =>
        rw [h2] at HU HH1
        rw [if_pos rfl] at HU
        clear h2
        cases h3 : hasL (shapeL i.o) 118 with
        | true =>
          rw [h3] at HU HH2
          rw [if_pos rfl] at HU
          clear h3
          go_enter Tryd.func25, Tryd.ntmps25
          go_wp2_with fail
          rw [← HW.out]
          refine (HSH.out _).mono ?_
          rintro e W ⟨rfl, rfl⟩
          go_wp2_with fail
          refine (HH0.out _).mono ?_
          rintro e W ⟨rfl, rfl⟩
          go_wp2_with fail
          refine (HH1.out _).mono ?_
          rintro e W ⟨rfl, rfl⟩
          go_wp2_with (at_builtin; refine wpList_app _ rfl _ _ 26 rfl (w.heap.size + 1) 3 i0 (.int .i64 0) 1 8 Tryd.underlying26 hi hz0 hz1 hz2 rfl (by decide) _ _ _ rfl ((World.ownsRow_nil _ _ _ _).alloc _) (some ⟨W.heap.size, 0, none⟩) 1 1 [.int .i64 i.c] rfl rfl (rd_blk (k := 1) (heap_alloc_new _ _) rfl) (by simp [Value.oneCell']) (by have := HZ.out; simp only [maxLen]; omega) (by have := HZ.out; omega) (by have := HB0.out.size; have := HSZ.out; simp; omega) ?_; intro v1 w1 hown1 hg1 hb1 hat1; clear hg1 hat1; have HB1 := Lib.hid (HB0.out.trans (((Below.refl _ W).alloc (by have := HB0.out.size; have := HSZ.out; omega) _).trans hb1)); obtain ⟨x10, x11, x12, x13, x14, x15, x16, x17, x18⟩ := in_cells ((HB1.out.block _ (Nat.lt_succ_self _)).trans HBK.out); clear g0 g1 g2 g3 g8 hb1 x14 x15 x16 x17)
          refine (HH2.out _).mono ?_
          rintro e w1 ⟨rfl, rfl⟩
          go_wp2_with (at_builtin; refine wpList_app _ rfl _ _ 26 rfl (w.heap.size + 1) 3 i0 (.int .i64 0) 1 8 Tryd.underlying26 hi hz0 hz1 hz2 rfl (by decide) _ _ _ rfl (hown1) A i.ar.length c (IL i.ar) rfl (by rw [IL_len, Nat.mul_one]) (HR.out.below (HAL.out.trans (HB1.out.mono (Nat.le_succ _)))) (IL_one _) (by have := HZ.out; simp only [maxLen]; omega) (by have := HZ.out; omega) (by have := HB1.out.size; have := HSZ.out; simp; omega) ?_; intro v2 w2 hown2 hg2 hb2 hat2; clear hg2 hat2; have HB2 := Lib.hid (HB1.out.trans hb2); obtain ⟨x20, x21, x22, x23, x24, x25, x26, x27, x28⟩ := in_cells ((HB2.out.block _ (Nat.lt_succ_self _)).trans HBK.out); clear x10 x11 x12 x13 x18 hb2 x24 x25 x26 x27)
          go_ret
          obtain ⟨A9, c9, e9, -, -, hrd⟩ := own_rd hown2
          refine ⟨⟨A9, c9, ?_, ?_⟩, HAL.out.trans (HB2.out.mono (Nat.le_succ _))⟩
          · rw [HU.out, e9]; simp <;> omega
          · rw [HU.out]; simpa [IL] using hrd
        | false =>
          rw [h3] at HU HH2
          rw [if_neg Bool.false_ne_true] at HU
          clear h3
          go_enter Tryd.func25, Tryd.ntmps25
          go_wp2_with fail
          rw [← HW.out]
          refine (HSH.out _).mono ?_
          rintro e W ⟨rfl, rfl⟩
          go_wp2_with fail
          refine (HH0.out _).mono ?_
          rintro e W ⟨rfl, rfl⟩
          go_wp2_with fail
          refine (HH1.out _).mono ?_
          rintro e W ⟨rfl, rfl⟩
          go_wp2_with (at_builtin; refine wpList_app _ rfl _ _ 26 rfl (w.heap.size + 1) 3 i0 (.int .i64 0) 1 8 Tryd.underlying26 hi hz0 hz1 hz2 rfl (by decide) _ _ _ rfl ((World.ownsRow_nil _ _ _ _).alloc _) (some ⟨W.heap.size, 0, none⟩) 1 1 [.int .i64 i.c] rfl rfl (rd_blk (k := 1) (heap_alloc_new _ _) rfl) (by simp [Value.oneCell']) (by have := HZ.out; simp only [maxLen]; omega) (by have := HZ.out; omega) (by have := HB0.out.size; have := HSZ.out; simp; omega) ?_; intro v1 w1 hown1 hg1 hb1 hat1; clear hg1 hat1; have HB1 := Lib.hid (HB0.out.trans (((Below.refl _ W).alloc (by have := HB0.out.size; have := HSZ.out; omega) _).trans hb1)); obtain ⟨x10, x11, x12, x13, x14, x15, x16, x17, x18⟩ := in_cells ((HB1.out.block _ (Nat.lt_succ_self _)).trans HBK.out); clear g0 g1 g2 g3 g8 hb1 x14 x15 x16 x17)
          refine (HH2.out _).mono ?_
          rintro e w1 ⟨rfl, rfl⟩
          go_wp2
          go_ret
          obtain ⟨A9, c9, e9, -, -, hrd⟩ := own_rd hown1
          refine ⟨⟨A9, c9, ?_, ?_⟩, HAL.out.trans (HB1.out.mono (Nat.le_succ _))⟩
          · rw [HU.out, e9]; simp <;> omega
          · rw [HU.out]; simpa [IL] using hrd
      | false =>
        rw [h2] at HU HH1
        rw [if_neg Bool.false_ne_true] at HU
        clear h2
        cases h3 : hasL (shapeL i.o) 118 with
        | true =>
          rw [h3] at HU HH2
          rw [if_pos rfl] at HU
          clear h3
          go_enter Tryd.func25, Tryd.ntmps25
          go_wp2_with fail
          rw [← HW.out]
          refine (HSH.out _).mono ?_
          rintro e W ⟨rfl, rfl⟩
          go_wp2_with fail
          refine (HH0.out _).mono ?_
          rintro e W ⟨rfl, rfl⟩
          go_wp2_with fail
          refine (HH1.out _).mono ?_
          rintro e W ⟨rfl, rfl⟩
          go_wp2_with fail
          refine (HH2.out _).mono ?_
          rintro e W ⟨rfl, rfl⟩
          go_wp2_with (at_builtin; refine wpList_app _ rfl _ _ 26 rfl (w.heap.size + 1) 3 i0 (.int .i64 0) 1 8 Tryd.underlying26 hi hz0 hz1 hz2 rfl (by decide) _ _ _ rfl (World.ownsRow_nil _ _ _ _) A i.ar.length c (IL i.ar) rfl (by rw [IL_len, Nat.mul_one]) (HR.out.below (HAL.out.trans (HB0.out.mono (Nat.le_succ _)))) (IL_one _) (by have := HZ.out; simp only [maxLen]; omega) (by have := HZ.out; omega) (by have := HB0.out.size; have := HSZ.out; simp; omega) ?_; intro v1 w1 hown1 hg1 hb1 hat1; clear hg1 hat1; have HB1 := Lib.hid (HB0.out.trans hb1); obtain ⟨x10, x11, x12, x13, x14, x15, x16, x17, x18⟩ := in_cells ((HB1.out.block _ (Nat.lt_succ_self _)).trans HBK.out); clear g0 g1 g2 g3 g8 hb1 x14 x15 x16 x17)
          go_ret
          obtain ⟨A9, c9, e9, -, -, hrd⟩ := own_rd hown1
          refine ⟨⟨A9, c9, ?_, ?_⟩, HAL.out.trans (HB1.out.mono (Nat.le_succ _))⟩
          · rw [HU.out, e9]; simp <;> omega
          · rw [HU.out]; simpa [IL] using hrd
        | false =>
          rw [h3] at HU HH2
          rw [if_neg Bool.false_ne_true] at HU
          clear h3
          go_enter Tryd.func25, Tryd.ntmps25
          go_wp2_with fail
          rw [← HW.out]
          refine (HSH.out _).mono ?_
          rintro e W ⟨rfl, rfl⟩
          go_wp2_with fail
          refine (HH0.out _).mono ?_
          rintro e W ⟨rfl, rfl⟩
          go_wp2_with fail
          refine (HH1.out _).mono ?_
          rintro e W ⟨rfl, rfl⟩
          go_wp2_with fail
          refine (HH2.out _).mono ?_
          rintro e W ⟨rfl, rfl⟩
          go_wp2
          go_ret
          refine ⟨⟨none, 0, ?_, ?_⟩, HAL.out⟩
          · rw [HU.out]; rfl
          · rw [HU.out]; exact Rd.nil _ _
end Go.Proofs.YtdenpefihplnoaaDoor.op

/- Layer 7: the document's answers: whether two instructions are the same. -/
namespace Go.Proofs.YtdenpefihplnoaaDoor.op
open Go.RowKit
open Go.Proofs.YtdenpefihplnoaaDoor.words Go.Proofs.YtdenpefihplnoaaDoor.kindp Go.Proofs.YtdenpefihplnoaaDoor.opp Go.Proofs.YtdenpefihplnoaaDoor.kind

theorem in_eq {i j : In} (h : i.ar = j.ar) (e0 : (i.o == j.o) = true) (e1 : (i.a == j.a) = true) (e2 : (i.b == j.b) = true) (e3 : (i.c == j.c) = true) (e4 : (i.k == j.k) = true) (e5 : (i.cl == j.cl) = true) (e6 : (i.nm == j.nm) = true) (e7 : (i.ds == j.ds) = true) : i = j := by
  obtain ⟨o, a, b, c, k, cl, nm, ds, ar⟩ := i
  obtain ⟨o', a', b', c', k', cl', nm', ds', ar'⟩ := j
  simp only [beq_iff_eq] at e0 e1 e2 e3 e4 e5 e6 e7
  subst e0 e1 e2 e3 e4 e5 e6 e7 h
  rfl
set_option maxRecDepth 100000 in
set_option maxHeartbeats 8000000 in
theorem same_r (i j : In) (A C : Option Addr) (c d : Nat) (w : World) (hr : Rd w A (IL i.ar)) (kr : Rd w C (IL j.ar)) (hl : i.ar.length ≤ 281474976710656) (hk : j.ar.length ≤ 281474976710656) :
    Calls Tryd.prog 27 #[.agg (InV i A c), .agg (InV j C d)] w fun e w' => e = .returned (.bool (decide (i = j))) ∧ Below w.heap.size w w' := by
  obtain ⟨W, hW⟩ : ∃ W, W = (w.alloc (.cells (InV i A c) 28)).alloc (.cells (InV j C d) 28) := ⟨_, rfl⟩
  have hal : Below w.heap.size w W := by rw [hW]; exact ((Below.refl _ w).alloc (Nat.le_refl _) _).alloc (by simp) _
  have HAL := Lib.hid hal
  have hbi : W.heap[w.heap.size]? = some (.cells (InV i A c) 28 (0, 0)) := by rw [hW]; exact (Below.heap_alloc _ _ _ (by simp)).trans (heap_alloc_new w _)
  have hbj : W.heap[w.heap.size + 1]? = some (.cells (InV j C d) 28 (0, 0)) := by
    rw [hW]
    have := heap_alloc_new (w.alloc (.cells (InV i A c) 28)) (.cells (InV j C d) 28)
    rwa [World.size_alloc] at this
  obtain ⟨a0, a1, a2, a3, a4, a5, a6, a7, a8⟩ := in_cells hbi
  obtain ⟨b0, b1, b2, b3, b4, b5, b6, b7, b8⟩ := in_cells hbj
  have h1 := hr.below hal
  have h2 := kr.below hal
  obtain ⟨n, hn⟩ : ∃ n, n = i.ar.length := ⟨_, rfl⟩
  obtain ⟨m, hm⟩ : ∃ m, m = j.ar.length := ⟨_, rfl⟩
  have hnI : (n : Int) ≤ 281474976710656 := by omega
  have hmI : (m : Int) ≤ 281474976710656 := by omega
  obtain ⟨R, hR⟩ : ∃ R, R = decide (i = j) := ⟨_, rfl⟩
  dsimp only [InV] at hW ⊢
  rw [← hR, ← hn, ← hm]
  rw [← hn] at hW a8
  rw [← hm] at hW b8
  have HR := Lib.hid hR; have HN := Lib.hid hn; have HM := Lib.hid hm; have HW := Lib.hid hW
  clear hl hk hR hal hbi hbj hr kr hW
  by_cases hnm : n = m
  · subst hnm
    have hnn : ((n : Int) != n) = false := by simp
    clear hn hm
    go_enter Tryd.func27, Tryd.ntmps27
    go_wp2
    try simp only [World.size_alloc]
    rw [← HW.out]
    go_loopw [5] (fun z wr => ∃ k : Nat, k ≤ n ∧ z = .int .i64 (k : Int) ∧ (∃ q, wr = W.drewN q) ∧ i.ar.take k = j.ar.take k) (fun z _ => n - (intOf z).toNat)
    case atStart => exact ⟨0, Nat.zero_le _, rfl, ⟨0, rfl⟩, rfl⟩
    case round =>
      obtain ⟨k, hkn, rfl, ⟨q, rfl⟩, ht⟩ := hrel
      have HT := Lib.hid ht
      clear ht
      by_cases hlt : k < n
      · obtain ⟨x, hx⟩ : ∃ x, i.ar[k]? = some x := ⟨i.ar[k]'(by have := HN.out; omega), List.getElem?_eq_getElem _⟩
        obtain ⟨y, hy⟩ : ∃ y, j.ar[k]? = some y := ⟨j.ar[k]'(by have := HM.out; omega), List.getElem?_eq_getElem _⟩
        have HX := Lib.hid hx; have HY := Lib.hid hy
        obtain ⟨p, rfl, _, hp⟩ := h1.at_ (IL_at hx)
        obtain ⟨s, rfl, _, hs⟩ := h2.at_ (IL_at hy)
        by_cases hxy : x = y
        · subst hxy
          have hxx : (x != x) = false := by simp
          clear h1 h2 hx hy
          go_wp2
          go_quiet (fail)
          go_wp2
          go_roundw
          case rel => exact ⟨k + 1, by omega, by go_num, ⟨_, rfl⟩, by rw [List.take_add_one, List.take_add_one, HT.out, HX.out, HY.out]⟩
          case measure => simp [intOf]; omega
        · have hxx : (x != y) = true := by simpa using hxy
          have hf : R = false := by
            rw [HR.out]
            refine decide_eq_false fun e => hxy ?_
            have h1 := HX.out
            rw [e, HY.out] at h1
            exact (Option.some.inj h1).symm
          subst hf
          clear h1 h2 hx hy hxy
          go_wp2
          go_quiet (fail)
          go_wp2
          go_ret
          exact ⟨rfl, over (over HAL.out)⟩
      · have HEA := Lib.hid (show i.ar = j.ar by
          have h1 := HT.out
          rwa [List.take_of_length_le (by have := HN.out; omega), List.take_of_length_le (by have := HM.out; omega)] at h1)
        clear h1 h2
        cases e0 : (i.o == j.o) with
        | false =>
          obtain rfl : R = false := by rw [HR.out, in_ne (b := (i.o == j.o)) (fun h => by rw [h]; simp) e0]
          go_wp2
          go_ret
          exact ⟨rfl, over HAL.out⟩
        | true =>
          cases e1 : (i.a == j.a) with
          | false =>
            obtain rfl : R = false := by rw [HR.out, in_ne (b := (i.a == j.a)) (fun h => by rw [h]; simp) e1]
            go_wp2
            go_ret
            exact ⟨rfl, over HAL.out⟩
          | true =>
            cases e2 : (i.b == j.b) with
            | false =>
              obtain rfl : R = false := by rw [HR.out, in_ne (b := (i.b == j.b)) (fun h => by rw [h]; simp) e2]
              go_wp2
              go_ret
              exact ⟨rfl, over HAL.out⟩
            | true =>
              cases e3 : (i.c == j.c) with
              | false =>
                obtain rfl : R = false := by rw [HR.out, in_ne (b := (i.c == j.c)) (fun h => by rw [h]; simp) e3]
                go_wp2
                go_ret
                exact ⟨rfl, over HAL.out⟩
              | true =>
                cases e4 : (i.k == j.k) with
                | false =>
                  obtain rfl : R = false := by rw [HR.out, in_ne (b := (i.k == j.k)) (fun h => by rw [h]; simp) e4]
                  go_wp2
                  go_ret
                  exact ⟨rfl, over HAL.out⟩
                | true =>
                  cases e5 : (i.cl == j.cl) with
                  | false =>
                    obtain rfl : R = false := by rw [HR.out, in_ne (b := (i.cl == j.cl)) (fun h => by rw [h]; simp) e5]
                    go_wp2
                    go_ret
                    exact ⟨rfl, over HAL.out⟩
                  | true =>
                    cases e6 : (i.nm == j.nm) with
                    | false =>
                      obtain rfl : R = false := by rw [HR.out, in_ne (b := (i.nm == j.nm)) (fun h => by rw [h]; simp) e6]
                      go_wp2
                      go_ret
                      exact ⟨rfl, over HAL.out⟩
                    | true =>
                      cases e7 : (i.ds == j.ds) with
                      | false =>
                        obtain rfl : R = false := by rw [HR.out, in_ne (b := (i.ds == j.ds)) (fun h => by rw [h]; simp) e7]
                        go_wp2
                        go_ret
                        exact ⟨rfl, over HAL.out⟩
                      | true =>
                        obtain rfl : R = true := by
                          rw [HR.out]
                          refine decide_eq_true ?_
                          exact in_eq HEA.out e0 e1 e2 e3 e4 e5 e6 e7
                        go_wp2
                        go_ret
                        exact ⟨rfl, over HAL.out⟩
  · have hnn : ((n : Int) != m) = true := by
      have : (n : Int) ≠ m := by omega
      simpa using this
    obtain rfl : R = false := by
      rw [HR.out]
      refine decide_eq_false fun e => hnm ?_
      rw [HN.out, HM.out, e]
    clear hn hm h1 h2
    go_enter Tryd.func27, Tryd.ntmps27
    go_wp2
    go_ret
    exact ⟨rfl, by rw [← HW.out]; exact HAL.out⟩
end Go.Proofs.YtdenpefihplnoaaDoor.op

/- The walk of OpTells: what an instruction reads and sets, and where it may jump, is as the document says; and so is whether two are the same. -/
namespace Go.Proofs.YtdenpefihplnoaaDoor.opTells
open Go.RowKit
open Go.Proofs.YtdenpefihplnoaaDoor.words Go.Proofs.YtdenpefihplnoaaDoor.kindp Go.Proofs.YtdenpefihplnoaaDoor.opp Go.Proofs.YtdenpefihplnoaaDoor.op Go.Proofs.YtdenpefihplnoaaDoor.kind

theorem overD {b : Nat} {a c : World} (h : Below b a c) : Below b a c.drew := ⟨h.os, h.tape, h.output, h.size, h.block⟩
set_option maxRecDepth 100000 in
set_option maxHeartbeats 32000000 in
set_option linter.all false in
theorem walk (i : In) (A : Option Addr) (c : Nat) (j : In) (C : Option Addr) (d : Nat) (w : World) (hc : i.ar.length ≤ c) (hr : Rd w A (IL i.ar)) (hz : i.ar.length ≤ 140737488351232) (hcl : i.cl.length ≤ 140737488351232) (hnm : i.nm.length ≤ 140737488351232) (hd : i.ds.length ≤ 140737488351232)
    (kc : j.ar.length ≤ d) (kr : Rd w C (IL j.ar)) (kz : j.ar.length ≤ 140737488351232) (kcl : j.cl.length ≤ 140737488351232) (knm : j.nm.length ≤ 140737488351232) (kd : j.ds.length ≤ 140737488351232) (hs : Sh w) (hv : Vd w) (hm : Mx w) :
    Calls Tryd.prog 5 #[.agg (InV i A c), .agg (InV j C d)] w fun e w' => e = .returned (.bool true) ∧ Below w.heap.size w w' := by
  obtain ⟨W, hW⟩ : ∃ W, W = (w.alloc (.cells (InV i A c) 28)).alloc (.cells (InV j C d) 28) := ⟨_, rfl⟩
  have hal : Below w.heap.size w W := by rw [hW]; exact ((Below.refl _ w).alloc (Nat.le_refl _) _).alloc (by simp) _
  have HAL := Lib.hid hal
  have hbi : W.heap[w.heap.size]? = some (.cells (InV i A c) 28 (0, 0)) := by rw [hW]; exact (Below.heap_alloc _ _ _ (by simp)).trans (heap_alloc_new w _)
  have hbj : W.heap[w.heap.size + 1]? = some (.cells (InV j C d) 28 (0, 0)) := by
    rw [hW]
    have := heap_alloc_new (w.alloc (.cells (InV i A c) 28)) (.cells (InV j C d) 28)
    rwa [World.size_alloc] at this
  have HBI := Lib.hid hbi; have HLI := Lib.hid (blk_lt hbi)
  have HBJ := Lib.hid hbj; have HLJ := Lib.hid (blk_lt hbj)
  obtain ⟨a0, a1, a2, a3, a4, a5, a6, a7, a8⟩ := in_cells hbi
  obtain ⟨b0, b1, b2, b3, b4, b5, b6, b7, b8⟩ := in_cells hbj
  have HSW := Lib.hid (hs.below hal); have HMW := Lib.hid (hm.below hal); have HVW := Lib.hid (hv.below hal); have HRW := Lib.hid (hr.below hal); have KRW := Lib.hid (kr.below hal)
  have HLV := Lib.hid (fun w hs hm hv => live_any w hs hm hv)
  have HLG := Lib.hid (fun w => long_w i A c w (by omega) (by omega) (by omega) (by omega))
  have KLG := Lib.hid (fun w => long_w j C d w (by omega) (by omega) (by omega) (by omega))
  dsimp only [InV] at hW HLG KLG ⊢
  have HW := Lib.hid hW
  clear hal hbi hbj hW

  cases hlg : longB i with
  | true =>
    rw [hlg] at HLG
    clear hlg hc hr hz hcl hnm hd kc kr kz kcl knm kd hs hv hm
    go_enter Tryd.func5, Tryd.ntmps5
    go_wp2_with fail
    try simp only [World.size_alloc]
    rw [← HW.out]
    refine (HLG.out _).mono ?_; rintro e v1 ⟨rfl, k1x⟩; have k1 : Below W.heap.size W v1 := k1x; obtain ⟨a0x1, a1x1, a2x1, a3x1, a4x1, a5x1, a6x1, a7x1, a8x1⟩ := in_cells ((k1.block _ (Hid.out HLI)).trans (Hid.out HBI)); obtain ⟨b0x1, b1x1, b2x1, b3x1, b4x1, b5x1, b6x1, b7x1, b8x1⟩ := in_cells ((k1.block _ (Hid.out HLJ)).trans (Hid.out HBJ)); have K1 := Lib.hid k1; clear k1 k1x a0 a1 a2 a3 a4 a5 a6 a7 a8 b0 b1 b2 b3 b4 b5 b6 b7 b8
    go_wp2_with fail
    refine (HLV.out _ (show Sh _ from HSW.out.below K1.out) (show Mx _ from HMW.out.below K1.out) (show Vd _ from HVW.out.below K1.out)).mono ?_; rintro e v2 ⟨rfl, hb2⟩
    have K2 := Lib.hid (show Below W.heap.size W v2 from then' K1.out hb2)
    clear hb2
    go_wp2
    go_ret
    exact ⟨rfl, HAL.out.trans (K2.out.mono HAL.out.size)⟩
  | false =>
  cases klg : longB j with
  | true =>
    rw [hlg] at HLG
    rw [klg] at KLG
    clear hlg klg hc hr hz hcl hnm hd kc kr kz kcl knm kd hs hv hm
    go_enter Tryd.func5, Tryd.ntmps5
    go_wp2_with fail
    try simp only [World.size_alloc]
    rw [← HW.out]
    refine (HLG.out _).mono ?_; rintro e v1 ⟨rfl, k1x⟩; have k1 : Below W.heap.size W v1 := k1x; obtain ⟨a0x1, a1x1, a2x1, a3x1, a4x1, a5x1, a6x1, a7x1, a8x1⟩ := in_cells ((k1.block _ (Hid.out HLI)).trans (Hid.out HBI)); obtain ⟨b0x1, b1x1, b2x1, b3x1, b4x1, b5x1, b6x1, b7x1, b8x1⟩ := in_cells ((k1.block _ (Hid.out HLJ)).trans (Hid.out HBJ)); have K1 := Lib.hid k1; clear k1 k1x a0 a1 a2 a3 a4 a5 a6 a7 a8 b0 b1 b2 b3 b4 b5 b6 b7 b8
    go_wp2_with fail
    refine (KLG.out _).mono ?_; rintro e v2 ⟨rfl, hb2⟩; have k2 : Below W.heap.size W v2 := (by first | exact then' K1.out hb2 | exact then' K1.out (under hb2) | exact then' (overD K1.out) hb2); obtain ⟨a0x2, a1x2, a2x2, a3x2, a4x2, a5x2, a6x2, a7x2, a8x2⟩ := in_cells ((k2.block _ (Hid.out HLI)).trans (Hid.out HBI)); obtain ⟨b0x2, b1x2, b2x2, b3x2, b4x2, b5x2, b6x2, b7x2, b8x2⟩ := in_cells ((k2.block _ (Hid.out HLJ)).trans (Hid.out HBJ)); have K2 := Lib.hid k2; clear k2 hb2 a0x1 a1x1 a2x1 a3x1 a4x1 a5x1 a6x1 a7x1 a8x1 b0x1 b1x1 b2x1 b3x1 b4x1 b5x1 b6x1 b7x1 b8x1
    go_wp2_with fail
    refine (HLV.out _ (show Sh _ from HSW.out.below K2.out) (show Mx _ from HMW.out.below K2.out) (show Vd _ from HVW.out.below K2.out)).mono ?_; rintro e v3 ⟨rfl, hb3⟩
    have K3 := Lib.hid (show Below W.heap.size W v3 from then' K2.out hb3)
    clear hb3
    go_wp2
    go_ret
    exact ⟨rfl, HAL.out.trans (K3.out.mono HAL.out.size)⟩
  | false =>
  obtain ⟨l1, l2, l3, l4⟩ := long_not hlg
  obtain ⟨m1, m2, m3, m4⟩ := long_not klg
  rw [hlg] at HLG
  rw [klg] at KLG
  have HU := Lib.hid (fun w hs hr => uses_w i A c w hs hr hc (by omega))
  have HUR := Lib.hid (fun w hr => uses_r i A c w hr (by omega))
  have HSE := Lib.hid (fun w hs hm hv => sets_w i A c w hs (by omega) hm hv)
  have HSR := Lib.hid (fun w => sets_r i A c w (by omega))
  have HTG := Lib.hid (fun w hs => target_w i A c w hs)
  have HTR := Lib.hid (fun w => target_r i A c w)
  have HSA := Lib.hid (fun w hr kr => same_w i j A C c d w hr kr (by omega) (by omega))
  have HSB := Lib.hid (fun w hr kr => same_r i j A C c d w hr kr (by omega) (by omega))
  have HSS := Lib.hid (fun w hr => same_w i i A A c c w hr hr (by omega) (by omega))
  rw [show decide (i = i) = true by simp] at HSS
  have hul : (usesL i).length ≤ 300 := by
    have h1 := regs_len i
    have h2 : (usesL i).length ≤ (regsL i).length := useF_len i (regsL i)
    omega
  have HSI := Lib.hid (fun A C c d w h1 h2 => ints_same A C (usesL i).length c d (usesL i) w h1 h2 rfl (by omega))
  unfold UseP at HU HUR
  generalize usesL i = U at *
  generalize setsL i = SS at *
  generalize targetL i = T at *
  generalize decide (i = j) = R at *
  obtain ⟨sa, so⟩ := SS
  obtain ⟨tk, to⟩ := T
  dsimp only [InV] at HU HUR HSE HSR HTG HTR HSA HSB HSS
  obtain ⟨m, hmm⟩ : ∃ m, m = U.length := ⟨_, rfl⟩
  rw [← hmm] at HU HUR HSI
  have q1 : (sa == sa) = true := by simp
  have q2 : (so == so) = true := by simp
  have q3 : (tk == tk) = true := by simp
  have q4 : (to == to) = true := by simp
  have q5 : (R == R) = true := by simp
  clear hul hmm hlg klg hc hr hz hcl hnm hd kc kr kz kcl knm kd hs hv hm l1 l2 l3 l4 m1 m2 m3 m4
  go_enter Tryd.func5, Tryd.ntmps5
  go_wp2_with fail
  try simp only [World.size_alloc]
  rw [← HW.out]
  refine (HLG.out _).mono ?_; rintro e v1 ⟨rfl, k1x⟩; have k1 : Below W.heap.size W v1 := k1x; obtain ⟨a0x1, a1x1, a2x1, a3x1, a4x1, a5x1, a6x1, a7x1, a8x1⟩ := in_cells ((k1.block _ (Hid.out HLI)).trans (Hid.out HBI)); obtain ⟨b0x1, b1x1, b2x1, b3x1, b4x1, b5x1, b6x1, b7x1, b8x1⟩ := in_cells ((k1.block _ (Hid.out HLJ)).trans (Hid.out HBJ)); have K1 := Lib.hid k1; clear k1 k1x a0 a1 a2 a3 a4 a5 a6 a7 a8 b0 b1 b2 b3 b4 b5 b6 b7 b8
  go_wp2_with fail
  refine (KLG.out _).mono ?_; rintro e v2 ⟨rfl, hb2⟩; have k2 : Below W.heap.size W v2 := (by first | exact then' K1.out hb2 | exact then' K1.out (under hb2) | exact then' (overD K1.out) hb2); obtain ⟨a0x2, a1x2, a2x2, a3x2, a4x2, a5x2, a6x2, a7x2, a8x2⟩ := in_cells ((k2.block _ (Hid.out HLI)).trans (Hid.out HBI)); obtain ⟨b0x2, b1x2, b2x2, b3x2, b4x2, b5x2, b6x2, b7x2, b8x2⟩ := in_cells ((k2.block _ (Hid.out HLJ)).trans (Hid.out HBJ)); have K2 := Lib.hid k2; clear k2 hb2 a0x1 a1x1 a2x1 a3x1 a4x1 a5x1 a6x1 a7x1 a8x1 b0x1 b1x1 b2x1 b3x1 b4x1 b5x1 b6x1 b7x1 b8x1
  go_wp2_with fail
  refine (HSE.out _ (show Sh _ from HSW.out.below K2.out) (show Mx _ from HMW.out.below K2.out) (show Vd _ from HVW.out.below K2.out)).mono ?_; rintro e v3 ⟨rfl, hb3⟩; have k3 : Below W.heap.size W v3 := (by first | exact then' K2.out hb3 | exact then' K2.out (under hb3) | exact then' (overD K2.out) hb3); obtain ⟨a0x3, a1x3, a2x3, a3x3, a4x3, a5x3, a6x3, a7x3, a8x3⟩ := in_cells ((k3.block _ (Hid.out HLI)).trans (Hid.out HBI)); obtain ⟨b0x3, b1x3, b2x3, b3x3, b4x3, b5x3, b6x3, b7x3, b8x3⟩ := in_cells ((k3.block _ (Hid.out HLJ)).trans (Hid.out HBJ)); have K3 := Lib.hid k3; clear k3 hb3 a0x2 a1x2 a2x2 a3x2 a4x2 a5x2 a6x2 a7x2 a8x2 b0x2 b1x2 b2x2 b3x2 b4x2 b5x2 b6x2 b7x2 b8x2
  go_wp2_with fail
  refine (HSR.out _).mono ?_; rintro e v4 ⟨rfl, hb4⟩; have k4 : Below W.heap.size W v4 := (by first | exact then' K3.out hb4 | exact then' K3.out (under hb4) | exact then' (overD K3.out) hb4); obtain ⟨a0x4, a1x4, a2x4, a3x4, a4x4, a5x4, a6x4, a7x4, a8x4⟩ := in_cells ((k4.block _ (Hid.out HLI)).trans (Hid.out HBI)); obtain ⟨b0x4, b1x4, b2x4, b3x4, b4x4, b5x4, b6x4, b7x4, b8x4⟩ := in_cells ((k4.block _ (Hid.out HLJ)).trans (Hid.out HBJ)); have K4 := Lib.hid k4; clear k4 hb4 a0x3 a1x3 a2x3 a3x3 a4x3 a5x3 a6x3 a7x3 a8x3 b0x3 b1x3 b2x3 b3x3 b4x3 b5x3 b6x3 b7x3 b8x3
  go_wp2_with fail
  refine (HTG.out _ (show Sh _ from HSW.out.below K4.out)).mono ?_; rintro e v5 ⟨rfl, hb5⟩; have k5 : Below W.heap.size W v5 := (by first | exact then' K4.out hb5 | exact then' K4.out (under hb5) | exact then' (overD K4.out) hb5); obtain ⟨a0x5, a1x5, a2x5, a3x5, a4x5, a5x5, a6x5, a7x5, a8x5⟩ := in_cells ((k5.block _ (Hid.out HLI)).trans (Hid.out HBI)); obtain ⟨b0x5, b1x5, b2x5, b3x5, b4x5, b5x5, b6x5, b7x5, b8x5⟩ := in_cells ((k5.block _ (Hid.out HLJ)).trans (Hid.out HBJ)); have K5 := Lib.hid k5; clear k5 hb5 a0x4 a1x4 a2x4 a3x4 a4x4 a5x4 a6x4 a7x4 a8x4 b0x4 b1x4 b2x4 b3x4 b4x4 b5x4 b6x4 b7x4 b8x4
  go_wp2_with fail
  refine (HTR.out _).mono ?_; rintro e v6 ⟨rfl, hb6⟩; have k6 : Below W.heap.size W v6 := (by first | exact then' K5.out hb6 | exact then' K5.out (under hb6) | exact then' (overD K5.out) hb6); obtain ⟨a0x6, a1x6, a2x6, a3x6, a4x6, a5x6, a6x6, a7x6, a8x6⟩ := in_cells ((k6.block _ (Hid.out HLI)).trans (Hid.out HBI)); obtain ⟨b0x6, b1x6, b2x6, b3x6, b4x6, b5x6, b6x6, b7x6, b8x6⟩ := in_cells ((k6.block _ (Hid.out HLJ)).trans (Hid.out HBJ)); have K6 := Lib.hid k6; clear k6 hb6 a0x5 a1x5 a2x5 a3x5 a4x5 a5x5 a6x5 a7x5 a8x5 b0x5 b1x5 b2x5 b3x5 b4x5 b5x5 b6x5 b7x5 b8x5
  go_wp2_with fail
  refine wp_region_held_drew (S := (fun w' => w'.cell? ⟨w.heap.size, 0, none⟩ = some (.int .i64 i.o) ∧ w'.cell? ⟨w.heap.size, 1, none⟩ = some (.int .i64 i.a) ∧ w'.cell? ⟨w.heap.size, 2, none⟩ = some (.int .i64 i.b) ∧ w'.cell? ⟨w.heap.size, 3, none⟩ = some (.int .i64 i.c) ∧ w'.cell? ⟨w.heap.size, 4, none⟩ = some (.int .i64 i.k) ∧ w'.cell? ⟨w.heap.size, 5, none⟩ = some (.string ⟨i.cl.toArray⟩) ∧ w'.cell? ⟨w.heap.size, 6, none⟩ = some (.string ⟨i.nm.toArray⟩) ∧ w'.cell? ⟨w.heap.size, 7, none⟩ = some (.string ⟨i.ds.toArray⟩) ∧ w'.cell? ⟨w.heap.size, 8, none⟩ = some (.slice A i.ar.length c) ∧ w'.cell? ⟨w.heap.size + 1, 0, none⟩ = some (.int .i64 j.o) ∧ w'.cell? ⟨w.heap.size + 1, 1, none⟩ = some (.int .i64 j.a) ∧ w'.cell? ⟨w.heap.size + 1, 2, none⟩ = some (.int .i64 j.b) ∧ w'.cell? ⟨w.heap.size + 1, 3, none⟩ = some (.int .i64 j.c) ∧ w'.cell? ⟨w.heap.size + 1, 4, none⟩ = some (.int .i64 j.k) ∧ w'.cell? ⟨w.heap.size + 1, 5, none⟩ = some (.string ⟨j.cl.toArray⟩) ∧ w'.cell? ⟨w.heap.size + 1, 6, none⟩ = some (.string ⟨j.nm.toArray⟩) ∧ w'.cell? ⟨w.heap.size + 1, 7, none⟩ = some (.string ⟨j.ds.toArray⟩) ∧ w'.cell? ⟨w.heap.size + 1, 8, none⟩ = some (.slice C j.ar.length d))) (by kernel_rfl) ?_ (fun hHeld => ?_)
  · exact ⟨a0x6, a1x6, a2x6, a3x6, a4x6, a5x6, a6x6, a7x6, a8x6, b0x6, b1x6, b2x6, b3x6, b4x6, b5x6, b6x6, b7x6, b8x6⟩
  refine wpAnyH_ready (rs := [0]) (by kernel_rfl) (by simp) (AllReadyH.cons rfl (fun K hK => ?_) AllReadyH.nil)
  go_simp
  refine (HLV.out _ ?_ ?_ ?_).mono ?_; (first | exact HSW.out.below K6.out | exact HSW.out.below (overD K6.out)); (first | exact HMW.out.below K6.out | exact HMW.out.below (overD K6.out)); (first | exact HVW.out.below K6.out | exact HVW.out.below (overD K6.out)); rintro e v7 ⟨rfl, hb7⟩; have k7 : Below W.heap.size W v7 := (by first | exact then' K6.out hb7 | exact then' K6.out (under hb7) | exact then' (overD K6.out) hb7); obtain ⟨a0x7, a1x7, a2x7, a3x7, a4x7, a5x7, a6x7, a7x7, a8x7⟩ := in_cells ((k7.block _ (Hid.out HLI)).trans (Hid.out HBI)); obtain ⟨b0x7, b1x7, b2x7, b3x7, b4x7, b5x7, b6x7, b7x7, b8x7⟩ := in_cells ((k7.block _ (Hid.out HLJ)).trans (Hid.out HBJ)); have K7 := Lib.hid k7; clear k7 hb7 a0x6 a1x6 a2x6 a3x6 a4x6 a5x6 a6x6 a7x6 a8x6 b0x6 b1x6 b2x6 b3x6 b4x6 b5x6 b6x6 b7x6 b8x6; go_wp2_with fail
  refine hK.out _ _ ⟨a0x7, a1x7, a2x7, a3x7, a4x7, a5x7, a6x7, a7x7, a8x7, b0x7, b1x7, b2x7, b3x7, b4x7, b5x7, b6x7, b7x7, b8x7⟩ (fun hHeld => ?_)
  clear hK K
  try simp only [Act.put, List.getElem_toArray, List.getElem_cons_succ, List.getElem_cons_zero, List.setIfInBounds_toArray, List.set_cons_zero, List.set_cons_succ]
  refine wpAnyH_take (i := 1) (v := ?v1) rfl (by kernel_rfl) (by kernel_rfl) (by kernel_rfl) (fun _ _ _ h => h) (Or.inl ⟨by kernel_rfl, ?y1⟩) (by assumption) ?r1
  case y1 => (intro w hSw; (try dsimp only at hSw); go_simp; (try with_reducible rfl))
  try simp only [Act.put, List.getElem_toArray, List.getElem_cons_succ, List.getElem_cons_zero, List.setIfInBounds_toArray, List.set_cons_zero, List.set_cons_succ]
  refine wpAnyH_take (i := 2) (v := ?v2) rfl (by kernel_rfl) (by kernel_rfl) (by kernel_rfl) (fun _ _ _ h => h) (Or.inl ⟨by kernel_rfl, ?y2⟩) (by assumption) ?r2
  case y2 => (intro w hSw; (try dsimp only at hSw); go_simp; (try with_reducible rfl))
  try simp only [Act.put, List.getElem_toArray, List.getElem_cons_succ, List.getElem_cons_zero, List.setIfInBounds_toArray, List.set_cons_zero, List.set_cons_succ]
  refine wpAnyH_take (i := 4) (v := ?v3) rfl (by kernel_rfl) (by kernel_rfl) (by kernel_rfl) (fun _ _ _ h => h) (Or.inl ⟨by kernel_rfl, ?y3⟩) (by assumption) ?r3
  case y3 => (intro w hSw; (try dsimp only at hSw); go_simp; (try with_reducible rfl))
  try simp only [Act.put, List.getElem_toArray, List.getElem_cons_succ, List.getElem_cons_zero, List.setIfInBounds_toArray, List.set_cons_zero, List.set_cons_succ]
  refine wpAnyH_ready (rs := [3]) (by kernel_rfl) (by simp) (AllReadyH.cons rfl (fun K hK => ?_) AllReadyH.nil)
  go_simp
  refine (HU.out _ ?_ ?_).mono ?_; exact (show Sh _ from HSW.out.below K7.out); exact (show Rd _ _ _ from HRW.out.below K7.out); rintro e v8 ⟨⟨AU, cU, rfl, hr8⟩, hb8⟩; have HU := Lib.hid hr8; have k8 : Below W.heap.size W v8 := (by first | exact then' K7.out hb8 | exact then' K7.out (under hb8) | exact then' (overD K7.out) hb8); obtain ⟨a0x8, a1x8, a2x8, a3x8, a4x8, a5x8, a6x8, a7x8, a8x8⟩ := in_cells ((k8.block _ (Hid.out HLI)).trans (Hid.out HBI)); obtain ⟨b0x8, b1x8, b2x8, b3x8, b4x8, b5x8, b6x8, b7x8, b8x8⟩ := in_cells ((k8.block _ (Hid.out HLJ)).trans (Hid.out HBJ)); have K8 := Lib.hid k8; clear k8 hb8 hr8 a0x7 a1x7 a2x7 a3x7 a4x7 a5x7 a6x7 a7x7 a8x7 b0x7 b1x7 b2x7 b3x7 b4x7 b5x7 b6x7 b7x7 b8x7; go_wp2_with fail
  refine hK.out _ _ ⟨a0x8, a1x8, a2x8, a3x8, a4x8, a5x8, a6x8, a7x8, a8x8, b0x8, b1x8, b2x8, b3x8, b4x8, b5x8, b6x8, b7x8, b8x8⟩ (fun hHeld => ?_)
  clear hK K
  try simp only [Act.put, List.getElem_toArray, List.getElem_cons_succ, List.getElem_cons_zero, List.setIfInBounds_toArray, List.set_cons_zero, List.set_cons_succ]
  refine wpAnyH_ready (rs := [5]) (by kernel_rfl) (by simp) (AllReadyH.cons rfl (fun K hK => ?_) AllReadyH.nil)
  go_simp
  refine (HUR.out _ ?_).mono ?_; exact (show Rd _ _ _ from HRW.out.below K8.out); rintro e v9 ⟨⟨AUR, cUR, rfl, hr9⟩, hb9⟩; have HUR := Lib.hid hr9; have RU := Lib.hid (show Rd _ _ _ from (by first | exact HU.out.below hb9 | exact HU.out.below (under hb9))); have RUR := HUR; have k9 : Below W.heap.size W v9 := (by first | exact then' K8.out hb9 | exact then' K8.out (under hb9) | exact then' (overD K8.out) hb9); obtain ⟨a0x9, a1x9, a2x9, a3x9, a4x9, a5x9, a6x9, a7x9, a8x9⟩ := in_cells ((k9.block _ (Hid.out HLI)).trans (Hid.out HBI)); obtain ⟨b0x9, b1x9, b2x9, b3x9, b4x9, b5x9, b6x9, b7x9, b8x9⟩ := in_cells ((k9.block _ (Hid.out HLJ)).trans (Hid.out HBJ)); have K9 := Lib.hid k9; clear k9 hb9 hr9 a0x8 a1x8 a2x8 a3x8 a4x8 a5x8 a6x8 a7x8 a8x8 b0x8 b1x8 b2x8 b3x8 b4x8 b5x8 b6x8 b7x8 b8x8; go_wp2_with fail
  refine hK.out _ _ ⟨a0x9, a1x9, a2x9, a3x9, a4x9, a5x9, a6x9, a7x9, a8x9, b0x9, b1x9, b2x9, b3x9, b4x9, b5x9, b6x9, b7x9, b8x9⟩ (fun hHeld => ?_)
  clear hK K
  try simp only [Act.put, List.getElem_toArray, List.getElem_cons_succ, List.getElem_cons_zero, List.setIfInBounds_toArray, List.set_cons_zero, List.set_cons_succ]
  refine wpAnyH_ready (rs := [6]) (by kernel_rfl) (by simp) (AllReadyH.cons rfl (fun K hK => ?_) AllReadyH.nil)
  go_simp
  refine (HSI.out _ _ _ _ _ ?_ ?_).mono ?_; exact RU.out; exact RUR.out; rintro e v10 ⟨rfl, q, hq⟩; have k10 : Below W.heap.size W v10 := (by rw [hq]; first | exact over K9.out | exact over (over K9.out)); obtain ⟨a0x10, a1x10, a2x10, a3x10, a4x10, a5x10, a6x10, a7x10, a8x10⟩ := in_cells ((k10.block _ (Hid.out HLI)).trans (Hid.out HBI)); obtain ⟨b0x10, b1x10, b2x10, b3x10, b4x10, b5x10, b6x10, b7x10, b8x10⟩ := in_cells ((k10.block _ (Hid.out HLJ)).trans (Hid.out HBJ)); have K10 := Lib.hid k10; clear k10 hq a0x9 a1x9 a2x9 a3x9 a4x9 a5x9 a6x9 a7x9 a8x9 b0x9 b1x9 b2x9 b3x9 b4x9 b5x9 b6x9 b7x9 b8x9; go_wp2_with fail
  refine hK.out _ _ ⟨a0x10, a1x10, a2x10, a3x10, a4x10, a5x10, a6x10, a7x10, a8x10, b0x10, b1x10, b2x10, b3x10, b4x10, b5x10, b6x10, b7x10, b8x10⟩ (fun hHeld => ?_)
  clear hK K
  try simp only [Act.put, List.getElem_toArray, List.getElem_cons_succ, List.getElem_cons_zero, List.setIfInBounds_toArray, List.set_cons_zero, List.set_cons_succ]
  refine wpAnyH_take (i := 7) (v := ?v4) rfl (by kernel_rfl) (by kernel_rfl) (by kernel_rfl) (fun _ _ _ h => h) (Or.inl ⟨by kernel_rfl, ?y4⟩) (by assumption) ?r4
  case y4 => (intro w hSw; (try dsimp only at hSw); go_simp; (try with_reducible rfl))
  try simp only [Act.put, List.getElem_toArray, List.getElem_cons_succ, List.getElem_cons_zero, List.setIfInBounds_toArray, List.set_cons_zero, List.set_cons_succ]
  refine wpAnyH_take (i := 8) (v := ?v5) rfl (by kernel_rfl) (by kernel_rfl) (by kernel_rfl) (fun _ _ _ h => h) (Or.inl ⟨by kernel_rfl, ?y5⟩) (by assumption) ?r5
  case y5 => (intro w hSw; (try dsimp only at hSw); go_simp; (try with_reducible rfl))
  try simp only [Act.put, List.getElem_toArray, List.getElem_cons_succ, List.getElem_cons_zero, List.setIfInBounds_toArray, List.set_cons_zero, List.set_cons_succ]
  refine wpAnyH_take (i := 9) (v := ?v6) rfl (by kernel_rfl) (by kernel_rfl) (by kernel_rfl) (fun _ _ _ h => h) (Or.inl ⟨by kernel_rfl, ?y6⟩) (by assumption) ?r6
  case y6 => (intro w hSw; (try dsimp only at hSw); go_simp; (try with_reducible rfl))
  try simp only [Act.put, List.getElem_toArray, List.getElem_cons_succ, List.getElem_cons_zero, List.setIfInBounds_toArray, List.set_cons_zero, List.set_cons_succ]
  refine wpAnyH_take (i := 10) (v := ?v7) rfl (by kernel_rfl) (by kernel_rfl) (by kernel_rfl) (fun _ _ _ h => h) (Or.inl ⟨by kernel_rfl, ?y7⟩) (by assumption) ?r7
  case y7 => (intro w hSw; (try dsimp only at hSw); go_simp; (try with_reducible rfl))
  try simp only [Act.put, List.getElem_toArray, List.getElem_cons_succ, List.getElem_cons_zero, List.setIfInBounds_toArray, List.set_cons_zero, List.set_cons_succ]
  refine wpAnyH_take (i := 11) (v := ?v8) rfl (by kernel_rfl) (by kernel_rfl) (by kernel_rfl) (fun _ _ _ h => h) (Or.inl ⟨by kernel_rfl, ?y8⟩) (by assumption) ?r8
  case y8 => (intro w hSw; (try dsimp only at hSw); go_simp; (try with_reducible rfl))
  try simp only [Act.put, List.getElem_toArray, List.getElem_cons_succ, List.getElem_cons_zero, List.setIfInBounds_toArray, List.set_cons_zero, List.set_cons_succ]
  refine wpAnyH_take (i := 12) (v := ?v9) rfl (by kernel_rfl) (by kernel_rfl) (by kernel_rfl) (fun _ _ _ h => h) (Or.inl ⟨by kernel_rfl, ?y9⟩) (by assumption) ?r9
  case y9 => (intro w hSw; (try dsimp only at hSw); go_simp; (try with_reducible rfl))
  try simp only [Act.put, List.getElem_toArray, List.getElem_cons_succ, List.getElem_cons_zero, List.setIfInBounds_toArray, List.set_cons_zero, List.set_cons_succ]
  refine wpAnyH_take (i := 13) (v := ?v10) rfl (by kernel_rfl) (by kernel_rfl) (by kernel_rfl) (fun _ _ _ h => h) (Or.inl ⟨by kernel_rfl, ?y10⟩) (by assumption) ?r10
  case y10 => (intro w hSw; (try dsimp only at hSw); go_simp; (try with_reducible rfl))
  try simp only [Act.put, List.getElem_toArray, List.getElem_cons_succ, List.getElem_cons_zero, List.setIfInBounds_toArray, List.set_cons_zero, List.set_cons_succ]
  refine wpAnyH_take (i := 14) (v := ?v11) rfl (by kernel_rfl) (by kernel_rfl) (by kernel_rfl) (fun _ _ _ h => h) (Or.inl ⟨by kernel_rfl, ?y11⟩) (by assumption) ?r11
  case y11 => (intro w hSw; (try dsimp only at hSw); go_simp; (try with_reducible rfl))
  try simp only [Act.put, List.getElem_toArray, List.getElem_cons_succ, List.getElem_cons_zero, List.setIfInBounds_toArray, List.set_cons_zero, List.set_cons_succ]
  refine wpAnyH_take (i := 15) (v := ?v12) rfl (by kernel_rfl) (by kernel_rfl) (by kernel_rfl) (fun _ _ _ h => h) (Or.inl ⟨by kernel_rfl, ?y12⟩) (by assumption) ?r12
  case y12 => (intro w hSw; (try dsimp only at hSw); go_simp; (try with_reducible rfl))
  try simp only [Act.put, List.getElem_toArray, List.getElem_cons_succ, List.getElem_cons_zero, List.setIfInBounds_toArray, List.set_cons_zero, List.set_cons_succ]
  refine wpAnyH_take (i := 16) (v := ?v13) rfl (by kernel_rfl) (by kernel_rfl) (by kernel_rfl) (fun _ _ _ h => h) (Or.inl ⟨by kernel_rfl, ?y13⟩) (by assumption) ?r13
  case y13 => (intro w hSw; (try dsimp only at hSw); go_simp; (try with_reducible rfl))
  try simp only [Act.put, List.getElem_toArray, List.getElem_cons_succ, List.getElem_cons_zero, List.setIfInBounds_toArray, List.set_cons_zero, List.set_cons_succ]
  refine wpAnyH_take (i := 17) (v := ?v14) rfl (by kernel_rfl) (by kernel_rfl) (by kernel_rfl) (fun _ _ _ h => h) (Or.inl ⟨by kernel_rfl, ?y14⟩) (by assumption) ?r14
  case y14 => (intro w hSw; (try dsimp only at hSw); go_simp; (try with_reducible rfl))
  try simp only [Act.put, List.getElem_toArray, List.getElem_cons_succ, List.getElem_cons_zero, List.setIfInBounds_toArray, List.set_cons_zero, List.set_cons_succ]
  refine wpAnyH_take (i := 18) (v := ?v15) rfl (by kernel_rfl) (by kernel_rfl) (by kernel_rfl) (fun _ _ _ h => h) (Or.inl ⟨by kernel_rfl, ?y15⟩) (by assumption) ?r15
  case y15 => (intro w hSw; (try dsimp only at hSw); go_simp; (try with_reducible rfl))
  try simp only [Act.put, List.getElem_toArray, List.getElem_cons_succ, List.getElem_cons_zero, List.setIfInBounds_toArray, List.set_cons_zero, List.set_cons_succ]
  refine wpAnyH_take (i := 19) (v := ?v16) rfl (by kernel_rfl) (by kernel_rfl) (by kernel_rfl) (fun _ _ _ h => h) (Or.inl ⟨by kernel_rfl, ?y16⟩) (by assumption) ?r16
  case y16 => (intro w hSw; (try dsimp only at hSw); go_simp; (try with_reducible rfl))
  try simp only [Act.put, List.getElem_toArray, List.getElem_cons_succ, List.getElem_cons_zero, List.setIfInBounds_toArray, List.set_cons_zero, List.set_cons_succ]
  refine wpAnyH_take (i := 20) (v := ?v17) rfl (by kernel_rfl) (by kernel_rfl) (by kernel_rfl) (fun _ _ _ h => h) (Or.inl ⟨by kernel_rfl, ?y17⟩) (by assumption) ?r17
  case y17 => (intro w hSw; (try dsimp only at hSw); go_simp; (try with_reducible rfl))
  try simp only [Act.put, List.getElem_toArray, List.getElem_cons_succ, List.getElem_cons_zero, List.setIfInBounds_toArray, List.set_cons_zero, List.set_cons_succ]
  refine wpAnyH_take (i := 21) (v := ?v18) rfl (by kernel_rfl) (by kernel_rfl) (by kernel_rfl) (fun _ _ _ h => h) (Or.inl ⟨by kernel_rfl, ?y18⟩) (by assumption) ?r18
  case y18 => (intro w hSw; (try dsimp only at hSw); go_simp; (try with_reducible rfl))
  try simp only [Act.put, List.getElem_toArray, List.getElem_cons_succ, List.getElem_cons_zero, List.setIfInBounds_toArray, List.set_cons_zero, List.set_cons_succ]
  refine wpAnyH_take (i := 22) (v := ?v19) rfl (by kernel_rfl) (by kernel_rfl) (by kernel_rfl) (fun _ _ _ h => h) (Or.inl ⟨by kernel_rfl, ?y19⟩) (by assumption) ?r19
  case y19 => (intro w hSw; (try dsimp only at hSw); go_simp; (try with_reducible rfl))
  try simp only [Act.put, List.getElem_toArray, List.getElem_cons_succ, List.getElem_cons_zero, List.setIfInBounds_toArray, List.set_cons_zero, List.set_cons_succ]
  refine wpAnyH_take (i := 23) (v := ?v20) rfl (by kernel_rfl) (by kernel_rfl) (by kernel_rfl) (fun _ _ _ h => h) (Or.inl ⟨by kernel_rfl, ?y20⟩) (by assumption) ?r20
  case y20 => (intro w hSw; (try dsimp only at hSw); go_simp; (try with_reducible rfl))
  try simp only [Act.put, List.getElem_toArray, List.getElem_cons_succ, List.getElem_cons_zero, List.setIfInBounds_toArray, List.set_cons_zero, List.set_cons_succ]
  refine wpAnyH_take (i := 24) (v := ?v21) rfl (by kernel_rfl) (by kernel_rfl) (by kernel_rfl) (fun _ _ _ h => h) (Or.inl ⟨by kernel_rfl, ?y21⟩) (by assumption) ?r21
  case y21 => (intro w hSw; (try dsimp only at hSw); go_simp; (try with_reducible rfl))
  try simp only [Act.put, List.getElem_toArray, List.getElem_cons_succ, List.getElem_cons_zero, List.setIfInBounds_toArray, List.set_cons_zero, List.set_cons_succ]
  refine wpAnyH_take (i := 25) (v := ?v22) rfl (by kernel_rfl) (by kernel_rfl) (by kernel_rfl) (fun _ _ _ h => h) (Or.inl ⟨by kernel_rfl, ?y22⟩) (by assumption) ?r22
  case y22 => (intro w hSw; (try dsimp only at hSw); go_simp; (try with_reducible rfl))
  try simp only [Act.put, List.getElem_toArray, List.getElem_cons_succ, List.getElem_cons_zero, List.setIfInBounds_toArray, List.set_cons_zero, List.set_cons_succ]
  refine wpAnyH_take (i := 26) (v := ?v23) rfl (by kernel_rfl) (by kernel_rfl) (by kernel_rfl) (fun _ _ _ h => h) (Or.inl ⟨by kernel_rfl, ?y23⟩) (by assumption) ?r23
  case y23 => (intro w hSw; (try dsimp only at hSw); go_simp; (try with_reducible rfl))
  try simp only [Act.put, List.getElem_toArray, List.getElem_cons_succ, List.getElem_cons_zero, List.setIfInBounds_toArray, List.set_cons_zero, List.set_cons_succ]
  refine wpAnyH_take (i := 27) (v := ?v24) rfl (by kernel_rfl) (by kernel_rfl) (by kernel_rfl) (fun _ _ _ h => h) (Or.inl ⟨by kernel_rfl, ?y24⟩) (by assumption) ?r24
  case y24 => (intro w hSw; (try dsimp only at hSw); go_simp; (try with_reducible rfl))
  try simp only [Act.put, List.getElem_toArray, List.getElem_cons_succ, List.getElem_cons_zero, List.setIfInBounds_toArray, List.set_cons_zero, List.set_cons_succ]
  refine wpAnyH_take (i := 28) (v := ?v25) rfl (by kernel_rfl) (by kernel_rfl) (by kernel_rfl) (fun _ _ _ h => h) (Or.inl ⟨by kernel_rfl, ?y25⟩) (by assumption) ?r25
  case y25 => (intro w hSw; (try dsimp only at hSw); go_simp; (try with_reducible rfl))
  try simp only [Act.put, List.getElem_toArray, List.getElem_cons_succ, List.getElem_cons_zero, List.setIfInBounds_toArray, List.set_cons_zero, List.set_cons_succ]
  refine wpAnyH_take (i := 29) (v := ?v26) rfl (by kernel_rfl) (by kernel_rfl) (by kernel_rfl) (fun _ _ _ h => h) (Or.inl ⟨by kernel_rfl, ?y26⟩) (by assumption) ?r26
  case y26 => (intro w hSw; (try dsimp only at hSw); go_simp; (try with_reducible rfl))
  try simp only [Act.put, List.getElem_toArray, List.getElem_cons_succ, List.getElem_cons_zero, List.setIfInBounds_toArray, List.set_cons_zero, List.set_cons_succ]
  refine wpAnyH_take (i := 30) (v := ?v27) rfl (by kernel_rfl) (by kernel_rfl) (by kernel_rfl) (fun _ _ _ h => h) (Or.inl ⟨by kernel_rfl, ?y27⟩) (by assumption) ?r27
  case y27 => (intro w hSw; (try dsimp only at hSw); go_simp; (try with_reducible rfl))
  try simp only [Act.put, List.getElem_toArray, List.getElem_cons_succ, List.getElem_cons_zero, List.setIfInBounds_toArray, List.set_cons_zero, List.set_cons_succ]
  refine wpAnyH_take (i := 32) (v := ?v28) rfl (by kernel_rfl) (by kernel_rfl) (by kernel_rfl) (fun _ _ _ h => h) (Or.inl ⟨by kernel_rfl, ?y28⟩) (by assumption) ?r28
  case y28 => (intro w hSw; (try dsimp only at hSw); go_simp; (try with_reducible rfl))
  try simp only [Act.put, List.getElem_toArray, List.getElem_cons_succ, List.getElem_cons_zero, List.setIfInBounds_toArray, List.set_cons_zero, List.set_cons_succ]
  refine wpAnyH_take (i := 33) (v := ?v29) rfl (by kernel_rfl) (by kernel_rfl) (by kernel_rfl) (fun _ _ _ h => h) (Or.inl ⟨by kernel_rfl, ?y29⟩) (by assumption) ?r29
  case y29 => (intro w hSw; (try dsimp only at hSw); go_simp; (try with_reducible rfl))
  try simp only [Act.put, List.getElem_toArray, List.getElem_cons_succ, List.getElem_cons_zero, List.setIfInBounds_toArray, List.set_cons_zero, List.set_cons_succ]
  refine wpAnyH_ready (rs := [31]) (by kernel_rfl) (by simp) (AllReadyH.cons rfl (fun K hK => ?_) AllReadyH.nil)
  go_simp
  refine (HSA.out _ ?_ ?_).mono ?_; exact (show Rd _ _ _ from HRW.out.below K10.out); exact (show Rd _ _ _ from KRW.out.below K10.out); rintro e v11 ⟨rfl, hb11⟩; have k11 : Below W.heap.size W v11 := (by first | exact then' K10.out hb11 | exact then' K10.out (under hb11) | exact then' (overD K10.out) hb11); obtain ⟨a0x11, a1x11, a2x11, a3x11, a4x11, a5x11, a6x11, a7x11, a8x11⟩ := in_cells ((k11.block _ (Hid.out HLI)).trans (Hid.out HBI)); obtain ⟨b0x11, b1x11, b2x11, b3x11, b4x11, b5x11, b6x11, b7x11, b8x11⟩ := in_cells ((k11.block _ (Hid.out HLJ)).trans (Hid.out HBJ)); have K11 := Lib.hid k11; clear k11 hb11 a0x10 a1x10 a2x10 a3x10 a4x10 a5x10 a6x10 a7x10 a8x10 b0x10 b1x10 b2x10 b3x10 b4x10 b5x10 b6x10 b7x10 b8x10; go_wp2_with fail
  refine hK.out _ _ ⟨a0x11, a1x11, a2x11, a3x11, a4x11, a5x11, a6x11, a7x11, a8x11, b0x11, b1x11, b2x11, b3x11, b4x11, b5x11, b6x11, b7x11, b8x11⟩ (fun hHeld => ?_)
  clear hK K
  try simp only [Act.put, List.getElem_toArray, List.getElem_cons_succ, List.getElem_cons_zero, List.setIfInBounds_toArray, List.set_cons_zero, List.set_cons_succ]
  refine wpAnyH_ready (rs := [34]) (by kernel_rfl) (by simp) (AllReadyH.cons rfl (fun K hK => ?_) AllReadyH.nil)
  go_simp
  refine (HSB.out _ ?_ ?_).mono ?_; exact (show Rd _ _ _ from HRW.out.below K11.out); exact (show Rd _ _ _ from KRW.out.below K11.out); rintro e v12 ⟨rfl, hb12⟩; have k12 : Below W.heap.size W v12 := (by first | exact then' K11.out hb12 | exact then' K11.out (under hb12) | exact then' (overD K11.out) hb12); obtain ⟨a0x12, a1x12, a2x12, a3x12, a4x12, a5x12, a6x12, a7x12, a8x12⟩ := in_cells ((k12.block _ (Hid.out HLI)).trans (Hid.out HBI)); obtain ⟨b0x12, b1x12, b2x12, b3x12, b4x12, b5x12, b6x12, b7x12, b8x12⟩ := in_cells ((k12.block _ (Hid.out HLJ)).trans (Hid.out HBJ)); have K12 := Lib.hid k12; clear k12 hb12 a0x11 a1x11 a2x11 a3x11 a4x11 a5x11 a6x11 a7x11 a8x11 b0x11 b1x11 b2x11 b3x11 b4x11 b5x11 b6x11 b7x11 b8x11; go_wp2_with fail
  refine hK.out _ _ ⟨a0x12, a1x12, a2x12, a3x12, a4x12, a5x12, a6x12, a7x12, a8x12, b0x12, b1x12, b2x12, b3x12, b4x12, b5x12, b6x12, b7x12, b8x12⟩ (fun hHeld => ?_)
  clear hK K
  try simp only [Act.put, List.getElem_toArray, List.getElem_cons_succ, List.getElem_cons_zero, List.setIfInBounds_toArray, List.set_cons_zero, List.set_cons_succ]
  refine wpAnyH_take (i := 35) (v := ?v30) rfl (by kernel_rfl) (by kernel_rfl) (by kernel_rfl) (fun _ _ _ h => h) (Or.inl ⟨by kernel_rfl, ?y30⟩) (by assumption) ?r30
  case y30 => (intro w hSw; (try dsimp only at hSw); go_simp; (try with_reducible rfl))
  try simp only [Act.put, List.getElem_toArray, List.getElem_cons_succ, List.getElem_cons_zero, List.setIfInBounds_toArray, List.set_cons_zero, List.set_cons_succ]
  refine wpAnyH_take (i := 36) (v := ?v31) rfl (by kernel_rfl) (by kernel_rfl) (by kernel_rfl) (fun _ _ _ h => h) (Or.inl ⟨by kernel_rfl, ?y31⟩) (by assumption) ?r31
  case y31 => (intro w hSw; (try dsimp only at hSw); go_simp; (try with_reducible rfl))
  try simp only [Act.put, List.getElem_toArray, List.getElem_cons_succ, List.getElem_cons_zero, List.setIfInBounds_toArray, List.set_cons_zero, List.set_cons_succ]
  refine wpAnyH_take (i := 37) (v := ?v32) rfl (by kernel_rfl) (by kernel_rfl) (by kernel_rfl) (fun _ _ _ h => h) (Or.inl ⟨by kernel_rfl, ?y32⟩) (by assumption) ?r32
  case y32 => (intro w hSw; (try dsimp only at hSw); go_simp; (try with_reducible rfl))
  try simp only [Act.put, List.getElem_toArray, List.getElem_cons_succ, List.getElem_cons_zero, List.setIfInBounds_toArray, List.set_cons_zero, List.set_cons_succ]
  refine wpAnyH_take (i := 38) (v := ?v33) rfl (by kernel_rfl) (by kernel_rfl) (by kernel_rfl) (fun _ _ _ h => h) (Or.inl ⟨by kernel_rfl, ?y33⟩) (by assumption) ?r33
  case y33 => (intro w hSw; (try dsimp only at hSw); go_simp; (try with_reducible rfl))
  try simp only [Act.put, List.getElem_toArray, List.getElem_cons_succ, List.getElem_cons_zero, List.setIfInBounds_toArray, List.set_cons_zero, List.set_cons_succ]
  refine wpAnyH_take (i := 39) (v := ?v34) rfl (by kernel_rfl) (by kernel_rfl) (by kernel_rfl) (fun _ _ _ h => h) (Or.inl ⟨by kernel_rfl, ?y34⟩) (by assumption) ?r34
  case y34 => (intro w hSw; (try dsimp only at hSw); go_simp; (try with_reducible rfl))
  try simp only [Act.put, List.getElem_toArray, List.getElem_cons_succ, List.getElem_cons_zero, List.setIfInBounds_toArray, List.set_cons_zero, List.set_cons_succ]
  refine wpAnyH_ready (rs := [40]) (by kernel_rfl) (by simp) (AllReadyH.cons rfl (fun K hK => ?_) AllReadyH.nil)
  go_simp
  refine (HSS.out _ ?_).mono ?_; exact (show Rd _ _ _ from HRW.out.below K12.out); rintro e v13 ⟨rfl, hb13⟩; have k13 : Below W.heap.size W v13 := (by first | exact then' K12.out hb13 | exact then' K12.out (under hb13) | exact then' (overD K12.out) hb13); obtain ⟨a0x13, a1x13, a2x13, a3x13, a4x13, a5x13, a6x13, a7x13, a8x13⟩ := in_cells ((k13.block _ (Hid.out HLI)).trans (Hid.out HBI)); obtain ⟨b0x13, b1x13, b2x13, b3x13, b4x13, b5x13, b6x13, b7x13, b8x13⟩ := in_cells ((k13.block _ (Hid.out HLJ)).trans (Hid.out HBJ)); have K13 := Lib.hid k13; clear k13 hb13 a0x12 a1x12 a2x12 a3x12 a4x12 a5x12 a6x12 a7x12 a8x12 b0x12 b1x12 b2x12 b3x12 b4x12 b5x12 b6x12 b7x12 b8x12; go_wp2_with fail
  refine hK.out _ _ ⟨a0x13, a1x13, a2x13, a3x13, a4x13, a5x13, a6x13, a7x13, a8x13, b0x13, b1x13, b2x13, b3x13, b4x13, b5x13, b6x13, b7x13, b8x13⟩ (fun hHeld => ?_)
  clear hK K
  try simp only [Act.put, List.getElem_toArray, List.getElem_cons_succ, List.getElem_cons_zero, List.setIfInBounds_toArray, List.set_cons_zero, List.set_cons_succ]
  refine wpAnyH_take (i := 41) (v := ?v35) rfl (by kernel_rfl) (by kernel_rfl) (by kernel_rfl) (fun _ _ _ h => h) (Or.inl ⟨by kernel_rfl, ?y35⟩) (by assumption) ?r35
  case y35 => (intro w hSw; (try dsimp only at hSw); go_simp; (try with_reducible rfl))
  try simp only [Act.put, List.getElem_toArray, List.getElem_cons_succ, List.getElem_cons_zero, List.setIfInBounds_toArray, List.set_cons_zero, List.set_cons_succ]
  refine wpAnyH_take (i := 42) (v := ?v36) rfl (by kernel_rfl) (by kernel_rfl) (by kernel_rfl) (fun _ _ _ h => h) (Or.inl ⟨by kernel_rfl, ?y36⟩) (by assumption) ?r36
  case y36 => (intro w hSw; (try dsimp only at hSw); go_simp; (try with_reducible rfl))
  try simp only [Act.put, List.getElem_toArray, List.getElem_cons_succ, List.getElem_cons_zero, List.setIfInBounds_toArray, List.set_cons_zero, List.set_cons_succ]
  refine wpAnyH_done (by kernel_rfl) ?_ _
  clear a0x13 a1x13 a2x13 a3x13 a4x13 a5x13 a6x13 a7x13 a8x13 b0x13 b1x13 b2x13 b3x13 b4x13 b5x13 b6x13 b7x13 b8x13
  go_wp2
  go_ret
  exact ⟨rfl, HAL.out.trans (K13.out.mono HAL.out.size)⟩
end Go.Proofs.YtdenpefihplnoaaDoor.opTells

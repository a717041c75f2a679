/-
  Layer 7: whether a descriptor answers something; what an instruction sets: the program's answers.
-/
import Derived.Test.YtdenpefihplnoaaDoorOpC
namespace Go.Proofs.YtdenpefihplnoaaDoor.op
open Go.RowKit
open Go.Proofs.YtdenpefihplnoaaDoor.words Go.Proofs.YtdenpefihplnoaaDoor.kindp Go.Proofs.YtdenpefihplnoaaDoor.opp Go.Proofs.YtdenpefihplnoaaDoor.kind

def ansB (d : Tx) : Bool := decide ((splitT d).2.2 = 0) && decide ((splitT d).2.1.1 ≠ 1)
set_option maxRecDepth 100000 in
set_option maxHeartbeats 2000000 in
theorem answers_w (d : Tx) (w : World) (hd : d.length ≤ 65536) (hm : Mx w) (hv : Vd w) :
    Calls Tryd.prog 43 #[.string ⟨d.toArray⟩] w fun e w' => e = .returned (.bool (ansB d)) ∧ Below w.heap.size w w' := by
  have HS := Lib.hid (split_k d w hd hm hv)
  unfold SplitW at HS
  obtain ⟨E, hE⟩ : ∃ E, E = ansB d := ⟨_, rfl⟩
  rw [← hE]
  have HE : Hid (E = (decide ((splitT d).2.2 = 0) && decide ((splitT d).2.1.1 ≠ 1))) := Lib.hid hE
  obtain ⟨⟨ps, ⟨rk, rc⟩, er⟩, hsp⟩ : ∃ x, x = splitT d := ⟨_, rfl⟩
  rw [← hsp] at HS HE
  dsimp only at HS HE
  generalize ps.length = np at *
  clear hE hsp hm hv hd
  by_cases he : er = 0
  · subst he
    have HE1 : Hid (E = decide (rk ≠ 1)) := Lib.hid (by rw [HE.out]; simp)
    clear HE
    by_cases hk : rk = 1
    · subst hk
      obtain rfl : E = false := by rw [HE1.out]; simp
      clear HE1
      go_enter Tryd.func43, Tryd.ntmps43
      go_wp2_with fail
      refine HS.out.mono ?_
      rintro e w1 ⟨⟨A1, c1, rfl, ho⟩, hb⟩
      have HB := Lib.hid (hb.alloc hb.size (.cells #[.int .i64 1, .string ⟨rc.toArray⟩] 69))
      have z0 := cell_of_row _ _ 0 _ _ _ (heap_alloc_new w1 (.cells #[.int .i64 1, .string ⟨rc.toArray⟩] 69))
      clear ho hb
      go_wp2
      go_ret
      exact ⟨rfl, HB.out⟩
    · obtain rfl : E = true := by rw [HE1.out]; simpa using hk
      have hb2 : (rk != 1) = true := by simpa using hk
      clear HE1 hk
      go_enter Tryd.func43, Tryd.ntmps43
      go_wp2_with fail
      refine HS.out.mono ?_
      rintro e w1 ⟨⟨A1, c1, rfl, ho⟩, hb⟩
      have HB := Lib.hid (hb.alloc hb.size (.cells #[.int .i64 rk, .string ⟨rc.toArray⟩] 69))
      have z0 := cell_of_row _ _ 0 _ _ _ (heap_alloc_new w1 (.cells #[.int .i64 rk, .string ⟨rc.toArray⟩] 69))
      clear ho hb
      go_wp2
      go_ret
      exact ⟨rfl, HB.out⟩
  · obtain rfl : E = false := by rw [HE.out, decide_eq_false he, Bool.false_and]
    have hb1 : ((er : Int) == 0) = false := by rw [beq_eq_false_iff_ne]; omega
    clear HE he
    go_enter Tryd.func43, Tryd.ntmps43
    go_wp2_with fail
    refine HS.out.mono ?_
    rintro e w1 ⟨⟨A1, c1, rfl, ho⟩, hb⟩
    have HB := Lib.hid (hb.alloc hb.size (.cells #[.int .i64 rk, .string ⟨rc.toArray⟩] 69))
    clear ho hb
    go_wp2
    go_ret
    exact ⟨rfl, HB.out⟩

theorem sets_cut {i : In} {P : Int × Bool → Prop} (h1 : hasL (shapeL i.o) 97 = false → P (0, false)) (h2 : hasL (shapeL i.o) 97 = true → (i.o == 14) = true → P (0, false))
    (h3 : hasL (shapeL i.o) 97 = true → (i.o == 14) = false → isCall i.o = false → P (i.a, true)) (h4 : hasL (shapeL i.o) 97 = true → (i.o == 14) = false → isCall i.o = true → ansB i.ds = false → P (0, false))
    (h5 : hasL (shapeL i.o) 97 = true → (i.o == 14) = false → isCall i.o = true → ansB i.ds = true → P (i.a, true)) : P (setsL i) := by
  unfold setsL
  cases ha : hasL (shapeL i.o) 97 with
  | false => rw [if_pos (.inl rfl)]; exact h1 ha
  | true =>
    cases ho : (i.o == 14) with
    | true => rw [if_pos (.inr (by simpa using ho))]; exact h2 ha ho
    | false =>
      have ho2 : i.o ≠ 14 := by simpa using ho
      rw [if_neg (by simpa using ho2)]
      cases hc : isCall i.o with
      | false => rw [if_neg (by simp)]; exact h3 ha ho hc
      | true =>
        cases hb : ansB i.ds with
        | false =>
          have hne : ¬ ((splitT i.ds).2.2 = 0 ∧ (splitT i.ds).2.1.1 ≠ 1) := fun h => by unfold ansB at hb; rw [decide_eq_true h.1, decide_eq_true h.2] at hb; cases hb
          rw [if_pos ⟨rfl, hne⟩]
          exact h4 ha ho hc hb
        | true =>
          have hne : (splitT i.ds).2.2 = 0 ∧ (splitT i.ds).2.1.1 ≠ 1 := by unfold ansB at hb; rw [Bool.and_eq_true, decide_eq_true_eq, decide_eq_true_eq] at hb; exact hb
          rw [if_neg (fun h => h.2 hne)]
          exact h5 ha ho hc hb
set_option maxRecDepth 100000 in
set_option maxHeartbeats 4000000 in
theorem sets_w (i : In) (A : Option Addr) (c : Nat) (w : World) (hs : Sh w) (hd : i.ds.length ≤ 65536) (hm : Mx w) (hv : Vd w) :
    Calls Tryd.prog 19 #[.agg (InV i A c)] w fun e w' => e = .returned (.tuple #[.int .i64 (setsL i).1, .bool (setsL i).2]) ∧ Below w.heap.size w w' := by
  obtain ⟨W, hW⟩ : ∃ W, W = w.alloc (.cells (InV i A c) 28) := ⟨_, rfl⟩
  have hal : Below w.heap.size w W := by rw [hW]; exact (Below.refl _ w).alloc (Nat.le_refl _) _
  have HAL := Lib.hid hal
  have hblk : W.heap[w.heap.size]? = some (.cells (InV i A c) 28 (0, 0)) := by rw [hW]; exact heap_alloc_new w _
  have HBK := Lib.hid hblk; have HLT := Lib.hid (blk_lt hblk)
  obtain ⟨g0, g1, g2, g3, g4, g5, g6, g7, g8⟩ := in_cells hblk
  have HSH := Lib.hid (hs.below hal); have HM := Lib.hid (hm.below hal); have HV := Lib.hid (hv.below hal)
  have HHA := Lib.hid (fun w hs => has_w i.o [97] w hs (by decide) (by decide))
  rw [any_one] at HHA
  have HC := Lib.hid (fun w hs => call_w i.o w hs)
  have HAN := Lib.hid (fun w hm hv => answers_w i.ds w hd hm hv)
  dsimp only [InV] at hW ⊢
  have HW := Lib.hid hW
  clear hs hm hv hd hal hblk hW
  refine sets_cut (P := fun r => Calls Tryd.prog 19 _ w fun e w' => e = .returned (.tuple #[.int .i64 r.1, .bool r.2]) ∧ Below w.heap.size w w') ?_ ?_ ?_ ?_ ?_
  · intro h1
    dsimp only
    rw [h1] at HHA
    clear h1
    go_enter Tryd.func19, Tryd.ntmps19
    go_wp2_with fail
    rw [← HW.out]
    refine (HHA.out _ HSH.out).mono ?_
    rintro e v1 ⟨rfl, hb1⟩
    have k1 : Below W.heap.size W v1 := hb1
    obtain ⟨a0x1, a1x1, a2x1, a3x1, a4x1, a5x1, a6x1, a7x1, a8x1⟩ := in_cells ((k1.block _ HLT.out).trans HBK.out)
    have K1 := Lib.hid k1
    clear k1 hb1 g0 g1 g2 g3 g4 g5 g6 g7 g8
    go_wp2
    go_ret2
    exact ⟨rfl, HAL.out.trans (K1.out.mono HAL.out.size)⟩
  · intro h1 h2
    dsimp only
    rw [h1] at HHA
    clear h1
    go_enter Tryd.func19, Tryd.ntmps19
    go_wp2_with fail
    rw [← HW.out]
    refine (HHA.out _ HSH.out).mono ?_
    rintro e v1 ⟨rfl, hb1⟩
    have k1 : Below W.heap.size W v1 := hb1
    obtain ⟨a0x1, a1x1, a2x1, a3x1, a4x1, a5x1, a6x1, a7x1, a8x1⟩ := in_cells ((k1.block _ HLT.out).trans HBK.out)
    have K1 := Lib.hid k1
    clear k1 hb1 g0 g1 g2 g3 g4 g5 g6 g7 g8
    go_wp2
    go_ret2
    exact ⟨rfl, HAL.out.trans (K1.out.mono HAL.out.size)⟩
  · intro h1 h2 h3
    dsimp only
    rw [h1] at HHA
    rw [h3] at HC
    clear h1 h3
    go_enter Tryd.func19, Tryd.ntmps19
    go_wp2_with fail
    rw [← HW.out]
    refine (HHA.out _ HSH.out).mono ?_
    rintro e v1 ⟨rfl, hb1⟩
    have k1 : Below W.heap.size W v1 := hb1
    obtain ⟨a0x1, a1x1, a2x1, a3x1, a4x1, a5x1, a6x1, a7x1, a8x1⟩ := in_cells ((k1.block _ HLT.out).trans HBK.out)
    have K1 := Lib.hid k1
    clear k1 hb1 g0 g1 g2 g3 g4 g5 g6 g7 g8
    go_wp2_with fail
    refine (HC.out _ (HSH.out.below K1.out)).mono ?_
    rintro e v2 ⟨rfl, hb2⟩
    have k2 : Below W.heap.size W v2 := then' K1.out hb2
    obtain ⟨a0x2, a1x2, a2x2, a3x2, a4x2, a5x2, a6x2, a7x2, a8x2⟩ := in_cells ((k2.block _ HLT.out).trans HBK.out)
    have K2 := Lib.hid k2
    clear k2 hb2 a0x1 a1x1 a2x1 a3x1 a4x1 a5x1 a6x1 a7x1 a8x1
    go_wp2
    go_ret2
    exact ⟨rfl, HAL.out.trans (K2.out.mono HAL.out.size)⟩
  · intro h1 h2 h3 h4
    dsimp only
    rw [h1] at HHA
    rw [h3] at HC
    rw [h4] at HAN
    clear h1 h3 h4
    go_enter Tryd.func19, Tryd.ntmps19
    go_wp2_with fail
    rw [← HW.out]
    refine (HHA.out _ HSH.out).mono ?_
    rintro e v1 ⟨rfl, hb1⟩
    have k1 : Below W.heap.size W v1 := hb1
    obtain ⟨a0x1, a1x1, a2x1, a3x1, a4x1, a5x1, a6x1, a7x1, a8x1⟩ := in_cells ((k1.block _ HLT.out).trans HBK.out)
    have K1 := Lib.hid k1
    clear k1 hb1 g0 g1 g2 g3 g4 g5 g6 g7 g8
    go_wp2_with fail
    refine (HC.out _ (HSH.out.below K1.out)).mono ?_
    rintro e v2 ⟨rfl, hb2⟩
    have k2 : Below W.heap.size W v2 := then' K1.out hb2
    obtain ⟨a0x2, a1x2, a2x2, a3x2, a4x2, a5x2, a6x2, a7x2, a8x2⟩ := in_cells ((k2.block _ HLT.out).trans HBK.out)
    have K2 := Lib.hid k2
    clear k2 hb2 a0x1 a1x1 a2x1 a3x1 a4x1 a5x1 a6x1 a7x1 a8x1
    go_wp2_with fail
    refine (HAN.out _ (HM.out.below K2.out) (HV.out.below K2.out)).mono ?_
    rintro e v3 ⟨rfl, hb3⟩
    have k3 : Below W.heap.size W v3 := then' K2.out hb3
    obtain ⟨a0x3, a1x3, a2x3, a3x3, a4x3, a5x3, a6x3, a7x3, a8x3⟩ := in_cells ((k3.block _ HLT.out).trans HBK.out)
    have K3 := Lib.hid k3
    clear k3 hb3 a0x2 a1x2 a2x2 a3x2 a4x2 a5x2 a6x2 a7x2 a8x2
    go_wp2
    go_ret2
    exact ⟨rfl, HAL.out.trans (K3.out.mono HAL.out.size)⟩
  · intro h1 h2 h3 h4
    dsimp only
    rw [h1] at HHA
    rw [h3] at HC
    rw [h4] at HAN
    clear h1 h3 h4
    go_enter Tryd.func19, Tryd.ntmps19
    go_wp2_with fail
    rw [← HW.out]
    refine (HHA.out _ HSH.out).mono ?_
    rintro e v1 ⟨rfl, hb1⟩
    have k1 : Below W.heap.size W v1 := hb1
    obtain ⟨a0x1, a1x1, a2x1, a3x1, a4x1, a5x1, a6x1, a7x1, a8x1⟩ := in_cells ((k1.block _ HLT.out).trans HBK.out)
    have K1 := Lib.hid k1
    clear k1 hb1 g0 g1 g2 g3 g4 g5 g6 g7 g8
    go_wp2_with fail
    refine (HC.out _ (HSH.out.below K1.out)).mono ?_
    rintro e v2 ⟨rfl, hb2⟩
    have k2 : Below W.heap.size W v2 := then' K1.out hb2
    obtain ⟨a0x2, a1x2, a2x2, a3x2, a4x2, a5x2, a6x2, a7x2, a8x2⟩ := in_cells ((k2.block _ HLT.out).trans HBK.out)
    have K2 := Lib.hid k2
    clear k2 hb2 a0x1 a1x1 a2x1 a3x1 a4x1 a5x1 a6x1 a7x1 a8x1
    go_wp2_with fail
    refine (HAN.out _ (HM.out.below K2.out) (HV.out.below K2.out)).mono ?_
    rintro e v3 ⟨rfl, hb3⟩
    have k3 : Below W.heap.size W v3 := then' K2.out hb3
    obtain ⟨a0x3, a1x3, a2x3, a3x3, a4x3, a5x3, a6x3, a7x3, a8x3⟩ := in_cells ((k3.block _ HLT.out).trans HBK.out)
    have K3 := Lib.hid k3
    clear k3 hb3 a0x2 a1x2 a2x2 a3x2 a4x2 a5x2 a6x2 a7x2 a8x2
    go_wp2
    go_ret2
    exact ⟨rfl, HAL.out.trans (K3.out.mono HAL.out.size)⟩
end Go.Proofs.YtdenpefihplnoaaDoor.op

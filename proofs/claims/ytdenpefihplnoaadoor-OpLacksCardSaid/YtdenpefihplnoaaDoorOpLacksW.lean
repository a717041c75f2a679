/-
  The walk of OpLacks: what fits, with an operand that its shape lacks, does not fit.
-/
import Derived.Test.YtdenpefihplnoaaDoorOpL
import Derived.Test.YtdenpefihplnoaaDoorOpR
namespace Go.Proofs.YtdenpefihplnoaaDoor.opLacks
open Go.RowKit
open Go.Proofs.YtdenpefihplnoaaDoor.words Go.Proofs.YtdenpefihplnoaaDoor.kindp Go.Proofs.YtdenpefihplnoaaDoor.opp Go.Proofs.YtdenpefihplnoaaDoor.op Go.Proofs.YtdenpefihplnoaaDoor.kind

theorem lacks {i j : In} {regs code : Int} (ho : j.o = i.o) (h : bareL j (shapeL i.o) ≠ emptyI i.o) : fitsE j regs code = 1 := by
  refine fit_1 ?_
  have he : emptyB j (shapeL j.o) = false := by
    unfold emptyB
    rw [ho]
    exact decide_eq_false h
  unfold formedB
  rw [he]; simp
theorem lack_a {i : In} {regs code : Int} (h : hasL (shapeL i.o) 97 = false) : fitsE { i with a := 1 } regs code = 1 := lacks rfl (fun e => by have := congrArg In.a e; simp [bareL, h, emptyI] at this)
theorem lack_b {i : In} {regs code : Int} (h : hasL (shapeL i.o) 98 = false) : fitsE { i with b := 1 } regs code = 1 := lacks rfl (fun e => by have := congrArg In.b e; simp [bareL, h, emptyI] at this)
theorem lack_c {i : In} {regs code : Int} (h : hasL (shapeL i.o) 99 = false) : fitsE { i with c := 1 } regs code = 1 := lacks rfl (fun e => by have := congrArg In.c e; simp [bareL, h, emptyI] at this)
theorem lack_C {i : In} {regs code : Int} (h : hasL (shapeL i.o) 67 = false) (h2 : hasL (shapeL i.o) 70 = false) (h3 : hasL (shapeL i.o) 77 = false) : fitsE { i with cl := [65] } regs code = 1 := lacks rfl (fun e => by have := congrArg In.cl e; simp [bareL, h, h2, h3, emptyI] at this)
theorem lack_F {i : In} {regs code : Int} (h2 : hasL (shapeL i.o) 70 = false) (h3 : hasL (shapeL i.o) 77 = false) : fitsE { i with nm := [102] } regs code = 1 := lacks rfl (fun e => by have := congrArg In.nm e; simp [bareL, h2, h3, emptyI] at this)
theorem lack_M {i : In} {regs code : Int} (h3 : hasL (shapeL i.o) 77 = false) : fitsE { i with ds := [40, 41, 86] } regs code = 1 := lacks rfl (fun e => by have := congrArg In.ds e; simp [bareL, h3, emptyI] at this)
theorem lack_v {i : In} {regs code : Int} (h : hasL (shapeL i.o) 118 = false) : fitsE { i with ar := [1] } regs code = 1 := lacks rfl (fun e => by have := congrArg In.ar e; simp [bareL, h, emptyI] at this)
section
variable {w : World} {b t : Nat} {j : In} {A : Option Addr} {c : Nat}
theorem put_a (h : w.heap[b]? = some (.cells (InV j A c) t (0, 0))) : (w.setCell ⟨b, 1, none⟩ (.int .i64 1)).heap[b]? = some (.cells (InV { j with a := 1 } A c) t (0, 0)) := heap_setCell_same _ _ 1 _ _ _ h
theorem put_b (h : w.heap[b]? = some (.cells (InV j A c) t (0, 0))) : (w.setCell ⟨b, 2, none⟩ (.int .i64 1)).heap[b]? = some (.cells (InV { j with b := 1 } A c) t (0, 0)) := heap_setCell_same _ _ 2 _ _ _ h
theorem put_c (h : w.heap[b]? = some (.cells (InV j A c) t (0, 0))) : (w.setCell ⟨b, 3, none⟩ (.int .i64 1)).heap[b]? = some (.cells (InV { j with c := 1 } A c) t (0, 0)) := heap_setCell_same _ _ 3 _ _ _ h
theorem put_C (h : w.heap[b]? = some (.cells (InV j A c) t (0, 0))) : (w.setCell ⟨b, 5, none⟩ (.string ⟨#[65]⟩)).heap[b]? = some (.cells (InV { j with cl := [65] } A c) t (0, 0)) := heap_setCell_same _ _ 5 _ _ _ h
theorem put_F (h : w.heap[b]? = some (.cells (InV j A c) t (0, 0))) : (w.setCell ⟨b, 6, none⟩ (.string ⟨#[102]⟩)).heap[b]? = some (.cells (InV { j with nm := [102] } A c) t (0, 0)) := heap_setCell_same _ _ 6 _ _ _ h
theorem put_M (h : w.heap[b]? = some (.cells (InV j A c) t (0, 0))) : (w.setCell ⟨b, 7, none⟩ (.string ⟨#[40, 41, 86]⟩)).heap[b]? = some (.cells (InV { j with ds := [40, 41, 86] } A c) t (0, 0)) := heap_setCell_same _ _ 7 _ _ _ h
theorem put_v (C : Option Addr) (d : Nat) (h : w.heap[b]? = some (.cells (InV j A c) t (0, 0))) : (w.setCell ⟨b, 8, none⟩ (.slice C 1 d)).heap[b]? = some (.cells (InV { j with ar := [1] } C d) t (0, 0)) := heap_setCell_same _ _ 8 _ _ _ h
end
theorem seven (n : Int) (_ : 0 ≤ n) : n % 7 = 0 ∨ n % 7 = 1 ∨ n % 7 = 2 ∨ n % 7 = 3 ∨ n % 7 = 4 ∨ n % 7 = 5 ∨ n % 7 = 6 := by omega

set_option maxRecDepth 100000 in
set_option maxHeartbeats 16000000 in
theorem walk (i : In) (A : Option Addr) (c : Nat) (k : Int) (w : World) (hc : i.ar.length ≤ c) (hr : Rd w A (IL i.ar)) (hz : i.ar.length ≤ 140737488351232) (hcl : i.cl.length ≤ 140737488351232) (hnm : i.nm.length ≤ 140737488351232) (hd : i.ds.length ≤ 140737488351232)
    (k0 : 0 ≤ k) (k1 : k ≤ 255) (hs : Sh w) (hv : Vd w) (hm : Mx w) :
    Calls Tryd.prog 7 #[.agg (InV i A c), .int .u8 k] w fun e w' => e = .returned (.bool true) ∧ Below w.heap.size w w' := by
  obtain ⟨W, hW⟩ : ∃ W, W = w.alloc (.cells (InV i A c) 28) := ⟨_, rfl⟩
  have hal : Below w.heap.size w W := by rw [hW]; exact (Below.refl _ w).alloc (Nat.le_refl _) _
  have HAL := Lib.hid hal
  have hblk : W.heap[w.heap.size]? = some (.cells (InV i A c) 28 (0, 0)) := by rw [hW]; exact heap_alloc_new w _
  have HBK := Lib.hid hblk; have HLT := Lib.hid (blk_lt hblk)
  obtain ⟨g0, g1, g2, g3, g4, g5, g6, g7, g8⟩ := in_cells hblk
  have HSW := Lib.hid (hs.below hal); have HMW := Lib.hid (hm.below hal); have HVW := Lib.hid (hv.below hal); have HRW := Lib.hid (hr.below hal)
  have HLV := Lib.hid (fun w hs hm hv => live_any w hs hm hv)
  have HLG := Lib.hid (fun w => long_w i A c w (by omega) (by omega) (by omega) (by omega))
  have HCN := Lib.hid hc
  dsimp only [InV] at hW HLG ⊢
  have HW := Lib.hid hW
  clear hal hblk hW
  cases hlg : longB i with
  | true =>
    rw [hlg] at HLG
    clear hlg hc hr hz hcl hnm hd hs hv hm
    go_enter Tryd.func7, Tryd.ntmps7
    go_wp2_with fail
    rw [← HW.out]
    refine (HLG.out _).mono ?_
    rintro e v1 ⟨rfl, k1⟩
    have K1 := Lib.hid k1
    clear k1
    go_wp2_with fail
    refine (HLV.out _ (HSW.out.below K1.out) (HMW.out.below K1.out) (HVW.out.below K1.out)).mono ?_
    rintro e v2 ⟨rfl, hb⟩
    have K2 := Lib.hid (then' K1.out hb)
    clear hb
    go_wp2
    go_ret
    exact ⟨rfl, HAL.out.trans (K2.out.mono HAL.out.size)⟩
  | false =>
  obtain ⟨l1, l2, l3, l4⟩ := long_not hlg
  rw [hlg] at HLG
  have HF := Lib.hid (fun w hs hr hm hv => fits_w i A c 32 256 w hs hr hc (by omega) (by omega) (by omega) (by omega) hm hv)
  unfold FitP at HF
  have HSHP := Lib.hid (fun w hs => shape_w i.o w hs)
  have hs4 := (shape_letters i.o).1
  have HH := Lib.hid (fun c w => has_r (shapeL i.o) c w hs4)
  dsimp only [InV] at HF
  by_cases hE : fitsE i 32 256 = 0
  · rw [hE] at HF
    have HS0 := Lib.hid hs; have HM0 := Lib.hid hm; have HV0 := Lib.hid hv; have HR0 := Lib.hid hr
    clear hE hlg hc hz hs hv hm hr hs4 hcl hnm hd
    rcases seven k k0 with h7 | h7 | h7 | h7 | h7 | h7 | h7
    · cases hq1 : hasL (shapeL i.o) 97 with
      | true =>
        have H1 := Lib.hid (fun w => HH.out 97 w)
        rw [hq1] at H1
        clear HH hq1 l1 l2 l3 l4
        go_enter Tryd.func7, Tryd.ntmps7
        go_wp2_with fail
        rw [← HW.out]
        refine (HLG.out _).mono ?_
        rintro e v1 ⟨rfl, k1⟩
        have K1 := Lib.hid k1
        obtain ⟨a0x1, a1x1, a2x1, a3x1, a4x1, a5x1, a6x1, a7x1, a8x1⟩ := in_cells ((k1.block _ HLT.out).trans HBK.out)
        clear k1 g0 g1 g2 g3 g4 g5 g6 g7 g8
        go_wp2_with fail
        refine (HF.out _ (HSW.out.below K1.out) (HRW.out.below K1.out) (HMW.out.below K1.out) (HVW.out.below K1.out)).mono ?_
        rintro e v2 ⟨rfl, hb⟩
        have K2 := Lib.hid (show Below W.heap.size W v2 from then' K1.out hb)
        obtain ⟨a0x2, a1x2, a2x2, a3x2, a4x2, a5x2, a6x2, a7x2, a8x2⟩ := in_cells ((K2.out.block _ HLT.out).trans HBK.out)
        clear hb a0x1 a1x1 a2x1 a3x1 a4x1 a5x1 a6x1 a7x1 a8x1
        go_wp2_with fail
        refine (HSHP.out _ (HSW.out.below K2.out)).mono ?_
        rintro e v2 ⟨rfl, rfl⟩
        go_wp2_with fail
        refine (H1.out _).mono ?_
        rintro e v2 ⟨rfl, rfl⟩
        go_wp2_with fail
        refine (HLV.out _ (HSW.out.below K2.out) (HMW.out.below K2.out) (HVW.out.below K2.out)).mono ?_
        rintro e v3 ⟨rfl, hb⟩
        have K3 := Lib.hid (then' K2.out hb)
        clear hb
        go_wp2
        go_ret
        exact ⟨rfl, HAL.out.trans (K3.out.mono HAL.out.size)⟩
      | false =>
        have H97 := Lib.hid (fun w => HH.out 97 w)
        rw [hq1] at H97
        clear HH
        go_enter Tryd.func7, Tryd.ntmps7
        go_wp2_with fail
        rw [← HW.out]
        refine (HLG.out _).mono ?_
        rintro e v1 ⟨rfl, k1⟩
        have K1 := Lib.hid k1
        obtain ⟨a0x1, a1x1, a2x1, a3x1, a4x1, a5x1, a6x1, a7x1, a8x1⟩ := in_cells ((k1.block _ HLT.out).trans HBK.out)
        clear k1 g0 g1 g2 g3 g4 g5 g6 g7 g8
        go_wp2_with fail
        refine (HF.out _ (HSW.out.below K1.out) (HRW.out.below K1.out) (HMW.out.below K1.out) (HVW.out.below K1.out)).mono ?_
        rintro e v2 ⟨rfl, hb⟩
        have K2 := Lib.hid (show Below W.heap.size W v2 from then' K1.out hb)
        obtain ⟨a0x2, a1x2, a2x2, a3x2, a4x2, a5x2, a6x2, a7x2, a8x2⟩ := in_cells ((K2.out.block _ HLT.out).trans HBK.out)
        clear hb a0x1 a1x1 a2x1 a3x1 a4x1 a5x1 a6x1 a7x1 a8x1
        go_wp2_with fail
        refine (HSHP.out _ (HSW.out.below K2.out)).mono ?_
        rintro e v2 ⟨rfl, rfl⟩
        go_wp2_with fail
        refine (H97.out _).mono ?_
        rintro e v2 ⟨rfl, rfl⟩
        have hnb := put_a ((K2.out.block _ HLT.out).trans HBK.out)
        have hkb : Below w.heap.size v2 (v2.setCell ⟨w.heap.size, 1, none⟩ (.int .i64 1)) := (Below.refl _ _).setCell (p := ⟨w.heap.size, 1, none⟩) (Nat.le_refl _) _
        have hwb : Below w.heap.size w (v2.setCell ⟨w.heap.size, 1, none⟩ (.int .i64 1)) := (HAL.out.trans (K2.out.mono HAL.out.size)).trans hkb
        have HNB := Lib.hid hnb; have HWB := Lib.hid hwb
        have HRB := Lib.hid (HR0.out.below hwb)
        have f1 := frozen_of_row _ _ 1 _ _ ((K2.out.block _ HLT.out).trans HBK.out)
        clear hnb hwb hkb
        go_wp2_with fail
        obtain ⟨WN, hWN⟩ : ∃ WN, WN = (v2.setCell ⟨w.heap.size, 1, none⟩ (.int .i64 1)) := ⟨_, rfl⟩
        rw [← hWN] at HNB HWB HRB ⊢
        have HNL := Lib.hid (blk_lt HNB.out)
        clear hWN
        refine (HLV.out _ (HS0.out.below HWB.out) (HM0.out.below HWB.out) (HV0.out.below HWB.out)).mono ?_
        rintro e v4 ⟨rfl, hb4⟩
        have K4 := Lib.hid hb4
        have cc := in_cells ((hb4.block _ HNL.out).trans HNB.out)
        dsimp only at cc
        obtain ⟨d0, d1, d2, d3, d4, d5, d6, d7, d8⟩ := cc
        have HSB := Lib.hid ((HS0.out.below HWB.out).below hb4); have HMB := Lib.hid ((HM0.out.below HWB.out).below hb4); have HVB := Lib.hid ((HV0.out.below HWB.out).below hb4); have HRB4 := Lib.hid (HRB.out.below hb4)
        have HG := Lib.hid (fun w hs hr hm hv => fits_w { i with a := 1 } A c 32 256 w hs hr HCN.out (by dsimp only; omega) (by dsimp only; omega) (by dsimp only; omega) (by dsimp only; omega) hm hv)
        unfold FitP at HG
        rw [lack_a hq1] at HG
        dsimp only [InV, List.length_cons, List.length_nil] at HG
        clear hb4 hq1 l1 l2 l3 l4 a0x2 a1x2 a2x2 a3x2 a4x2 a5x2 a6x2 a7x2 a8x2
        go_wp2_with fail
        refine (HG.out _ HSB.out HRB4.out HMB.out HVB.out).mono ?_
        rintro e v5 ⟨rfl, hb5⟩
        have K5 := Lib.hid (HWB.out.trans ((then' K4.out hb5).mono HWB.out.size))
        clear hb5
        go_wp2
        go_ret
        exact ⟨rfl, K5.out⟩
    · cases hq1 : hasL (shapeL i.o) 98 with
      | true =>
        have H1 := Lib.hid (fun w => HH.out 98 w)
        rw [hq1] at H1
        clear HH hq1 l1 l2 l3 l4
        go_enter Tryd.func7, Tryd.ntmps7
        go_wp2_with fail
        rw [← HW.out]
        refine (HLG.out _).mono ?_
        rintro e v1 ⟨rfl, k1⟩
        have K1 := Lib.hid k1
        obtain ⟨a0x1, a1x1, a2x1, a3x1, a4x1, a5x1, a6x1, a7x1, a8x1⟩ := in_cells ((k1.block _ HLT.out).trans HBK.out)
        clear k1 g0 g1 g2 g3 g4 g5 g6 g7 g8
        go_wp2_with fail
        refine (HF.out _ (HSW.out.below K1.out) (HRW.out.below K1.out) (HMW.out.below K1.out) (HVW.out.below K1.out)).mono ?_
        rintro e v2 ⟨rfl, hb⟩
        have K2 := Lib.hid (show Below W.heap.size W v2 from then' K1.out hb)
        obtain ⟨a0x2, a1x2, a2x2, a3x2, a4x2, a5x2, a6x2, a7x2, a8x2⟩ := in_cells ((K2.out.block _ HLT.out).trans HBK.out)
        clear hb a0x1 a1x1 a2x1 a3x1 a4x1 a5x1 a6x1 a7x1 a8x1
        go_wp2_with fail
        refine (HSHP.out _ (HSW.out.below K2.out)).mono ?_
        rintro e v2 ⟨rfl, rfl⟩
        go_wp2_with fail
        refine (H1.out _).mono ?_
        rintro e v2 ⟨rfl, rfl⟩
        go_wp2_with fail
        refine (HLV.out _ (HSW.out.below K2.out) (HMW.out.below K2.out) (HVW.out.below K2.out)).mono ?_
        rintro e v3 ⟨rfl, hb⟩
        have K3 := Lib.hid (then' K2.out hb)
        clear hb
        go_wp2
        go_ret
        exact ⟨rfl, HAL.out.trans (K3.out.mono HAL.out.size)⟩
      | false =>
        have H98 := Lib.hid (fun w => HH.out 98 w)
        rw [hq1] at H98
        clear HH
        go_enter Tryd.func7, Tryd.ntmps7
        go_wp2_with fail
        rw [← HW.out]
        refine (HLG.out _).mono ?_
        rintro e v1 ⟨rfl, k1⟩
        have K1 := Lib.hid k1
        obtain ⟨a0x1, a1x1, a2x1, a3x1, a4x1, a5x1, a6x1, a7x1, a8x1⟩ := in_cells ((k1.block _ HLT.out).trans HBK.out)
        clear k1 g0 g1 g2 g3 g4 g5 g6 g7 g8
        go_wp2_with fail
        refine (HF.out _ (HSW.out.below K1.out) (HRW.out.below K1.out) (HMW.out.below K1.out) (HVW.out.below K1.out)).mono ?_
        rintro e v2 ⟨rfl, hb⟩
        have K2 := Lib.hid (show Below W.heap.size W v2 from then' K1.out hb)
        obtain ⟨a0x2, a1x2, a2x2, a3x2, a4x2, a5x2, a6x2, a7x2, a8x2⟩ := in_cells ((K2.out.block _ HLT.out).trans HBK.out)
        clear hb a0x1 a1x1 a2x1 a3x1 a4x1 a5x1 a6x1 a7x1 a8x1
        go_wp2_with fail
        refine (HSHP.out _ (HSW.out.below K2.out)).mono ?_
        rintro e v2 ⟨rfl, rfl⟩
        go_wp2_with fail
        refine (H98.out _).mono ?_
        rintro e v2 ⟨rfl, rfl⟩
        have hnb := put_b ((K2.out.block _ HLT.out).trans HBK.out)
        have hkb : Below w.heap.size v2 (v2.setCell ⟨w.heap.size, 2, none⟩ (.int .i64 1)) := (Below.refl _ _).setCell (p := ⟨w.heap.size, 2, none⟩) (Nat.le_refl _) _
        have hwb : Below w.heap.size w (v2.setCell ⟨w.heap.size, 2, none⟩ (.int .i64 1)) := (HAL.out.trans (K2.out.mono HAL.out.size)).trans hkb
        have HNB := Lib.hid hnb; have HWB := Lib.hid hwb
        have HRB := Lib.hid (HR0.out.below hwb)
        have f2 := frozen_of_row _ _ 2 _ _ ((K2.out.block _ HLT.out).trans HBK.out)
        clear hnb hwb hkb
        go_wp2_with fail
        obtain ⟨WN, hWN⟩ : ∃ WN, WN = (v2.setCell ⟨w.heap.size, 2, none⟩ (.int .i64 1)) := ⟨_, rfl⟩
        rw [← hWN] at HNB HWB HRB ⊢
        have HNL := Lib.hid (blk_lt HNB.out)
        clear hWN
        refine (HLV.out _ (HS0.out.below HWB.out) (HM0.out.below HWB.out) (HV0.out.below HWB.out)).mono ?_
        rintro e v4 ⟨rfl, hb4⟩
        have K4 := Lib.hid hb4
        have cc := in_cells ((hb4.block _ HNL.out).trans HNB.out)
        dsimp only at cc
        obtain ⟨d0, d1, d2, d3, d4, d5, d6, d7, d8⟩ := cc
        have HSB := Lib.hid ((HS0.out.below HWB.out).below hb4); have HMB := Lib.hid ((HM0.out.below HWB.out).below hb4); have HVB := Lib.hid ((HV0.out.below HWB.out).below hb4); have HRB4 := Lib.hid (HRB.out.below hb4)
        have HG := Lib.hid (fun w hs hr hm hv => fits_w { i with b := 1 } A c 32 256 w hs hr HCN.out (by dsimp only; omega) (by dsimp only; omega) (by dsimp only; omega) (by dsimp only; omega) hm hv)
        unfold FitP at HG
        rw [lack_b hq1] at HG
        dsimp only [InV, List.length_cons, List.length_nil] at HG
        clear hb4 hq1 l1 l2 l3 l4 a0x2 a1x2 a2x2 a3x2 a4x2 a5x2 a6x2 a7x2 a8x2
        go_wp2_with fail
        refine (HG.out _ HSB.out HRB4.out HMB.out HVB.out).mono ?_
        rintro e v5 ⟨rfl, hb5⟩
        have K5 := Lib.hid (HWB.out.trans ((then' K4.out hb5).mono HWB.out.size))
        clear hb5
        go_wp2
        go_ret
        exact ⟨rfl, K5.out⟩
    · cases hq1 : hasL (shapeL i.o) 99 with
      | true =>
        have H1 := Lib.hid (fun w => HH.out 99 w)
        rw [hq1] at H1
        clear HH hq1 l1 l2 l3 l4
        go_enter Tryd.func7, Tryd.ntmps7
        go_wp2_with fail
        rw [← HW.out]
        refine (HLG.out _).mono ?_
        rintro e v1 ⟨rfl, k1⟩
        have K1 := Lib.hid k1
        obtain ⟨a0x1, a1x1, a2x1, a3x1, a4x1, a5x1, a6x1, a7x1, a8x1⟩ := in_cells ((k1.block _ HLT.out).trans HBK.out)
        clear k1 g0 g1 g2 g3 g4 g5 g6 g7 g8
        go_wp2_with fail
        refine (HF.out _ (HSW.out.below K1.out) (HRW.out.below K1.out) (HMW.out.below K1.out) (HVW.out.below K1.out)).mono ?_
        rintro e v2 ⟨rfl, hb⟩
        have K2 := Lib.hid (show Below W.heap.size W v2 from then' K1.out hb)
        obtain ⟨a0x2, a1x2, a2x2, a3x2, a4x2, a5x2, a6x2, a7x2, a8x2⟩ := in_cells ((K2.out.block _ HLT.out).trans HBK.out)
        clear hb a0x1 a1x1 a2x1 a3x1 a4x1 a5x1 a6x1 a7x1 a8x1
        go_wp2_with fail
        refine (HSHP.out _ (HSW.out.below K2.out)).mono ?_
        rintro e v2 ⟨rfl, rfl⟩
        go_wp2_with fail
        refine (H1.out _).mono ?_
        rintro e v2 ⟨rfl, rfl⟩
        go_wp2_with fail
        refine (HLV.out _ (HSW.out.below K2.out) (HMW.out.below K2.out) (HVW.out.below K2.out)).mono ?_
        rintro e v3 ⟨rfl, hb⟩
        have K3 := Lib.hid (then' K2.out hb)
        clear hb
        go_wp2
        go_ret
        exact ⟨rfl, HAL.out.trans (K3.out.mono HAL.out.size)⟩
      | false =>
        have H99 := Lib.hid (fun w => HH.out 99 w)
        rw [hq1] at H99
        clear HH
        go_enter Tryd.func7, Tryd.ntmps7
        go_wp2_with fail
        rw [← HW.out]
        refine (HLG.out _).mono ?_
        rintro e v1 ⟨rfl, k1⟩
        have K1 := Lib.hid k1
        obtain ⟨a0x1, a1x1, a2x1, a3x1, a4x1, a5x1, a6x1, a7x1, a8x1⟩ := in_cells ((k1.block _ HLT.out).trans HBK.out)
        clear k1 g0 g1 g2 g3 g4 g5 g6 g7 g8
        go_wp2_with fail
        refine (HF.out _ (HSW.out.below K1.out) (HRW.out.below K1.out) (HMW.out.below K1.out) (HVW.out.below K1.out)).mono ?_
        rintro e v2 ⟨rfl, hb⟩
        have K2 := Lib.hid (show Below W.heap.size W v2 from then' K1.out hb)
        obtain ⟨a0x2, a1x2, a2x2, a3x2, a4x2, a5x2, a6x2, a7x2, a8x2⟩ := in_cells ((K2.out.block _ HLT.out).trans HBK.out)
        clear hb a0x1 a1x1 a2x1 a3x1 a4x1 a5x1 a6x1 a7x1 a8x1
        go_wp2_with fail
        refine (HSHP.out _ (HSW.out.below K2.out)).mono ?_
        rintro e v2 ⟨rfl, rfl⟩
        go_wp2_with fail
        refine (H99.out _).mono ?_
        rintro e v2 ⟨rfl, rfl⟩
        have hnb := put_c ((K2.out.block _ HLT.out).trans HBK.out)
        have hkb : Below w.heap.size v2 (v2.setCell ⟨w.heap.size, 3, none⟩ (.int .i64 1)) := (Below.refl _ _).setCell (p := ⟨w.heap.size, 3, none⟩) (Nat.le_refl _) _
        have hwb : Below w.heap.size w (v2.setCell ⟨w.heap.size, 3, none⟩ (.int .i64 1)) := (HAL.out.trans (K2.out.mono HAL.out.size)).trans hkb
        have HNB := Lib.hid hnb; have HWB := Lib.hid hwb
        have HRB := Lib.hid (HR0.out.below hwb)
        have f3 := frozen_of_row _ _ 3 _ _ ((K2.out.block _ HLT.out).trans HBK.out)
        clear hnb hwb hkb
        go_wp2_with fail
        obtain ⟨WN, hWN⟩ : ∃ WN, WN = (v2.setCell ⟨w.heap.size, 3, none⟩ (.int .i64 1)) := ⟨_, rfl⟩
        rw [← hWN] at HNB HWB HRB ⊢
        have HNL := Lib.hid (blk_lt HNB.out)
        clear hWN
        refine (HLV.out _ (HS0.out.below HWB.out) (HM0.out.below HWB.out) (HV0.out.below HWB.out)).mono ?_
        rintro e v4 ⟨rfl, hb4⟩
        have K4 := Lib.hid hb4
        have cc := in_cells ((hb4.block _ HNL.out).trans HNB.out)
        dsimp only at cc
        obtain ⟨d0, d1, d2, d3, d4, d5, d6, d7, d8⟩ := cc
        have HSB := Lib.hid ((HS0.out.below HWB.out).below hb4); have HMB := Lib.hid ((HM0.out.below HWB.out).below hb4); have HVB := Lib.hid ((HV0.out.below HWB.out).below hb4); have HRB4 := Lib.hid (HRB.out.below hb4)
        have HG := Lib.hid (fun w hs hr hm hv => fits_w { i with c := 1 } A c 32 256 w hs hr HCN.out (by dsimp only; omega) (by dsimp only; omega) (by dsimp only; omega) (by dsimp only; omega) hm hv)
        unfold FitP at HG
        rw [lack_c hq1] at HG
        dsimp only [InV, List.length_cons, List.length_nil] at HG
        clear hb4 hq1 l1 l2 l3 l4 a0x2 a1x2 a2x2 a3x2 a4x2 a5x2 a6x2 a7x2 a8x2
        go_wp2_with fail
        refine (HG.out _ HSB.out HRB4.out HMB.out HVB.out).mono ?_
        rintro e v5 ⟨rfl, hb5⟩
        have K5 := Lib.hid (HWB.out.trans ((then' K4.out hb5).mono HWB.out.size))
        clear hb5
        go_wp2
        go_ret
        exact ⟨rfl, K5.out⟩
    · cases hq1 : hasL (shapeL i.o) 67 with
      | true =>
        have H1 := Lib.hid (fun w => HH.out 67 w)
        rw [hq1] at H1
        clear HH hq1 l1 l2 l3 l4
        go_enter Tryd.func7, Tryd.ntmps7
        go_wp2_with fail
        rw [← HW.out]
        refine (HLG.out _).mono ?_
        rintro e v1 ⟨rfl, k1⟩
        have K1 := Lib.hid k1
        obtain ⟨a0x1, a1x1, a2x1, a3x1, a4x1, a5x1, a6x1, a7x1, a8x1⟩ := in_cells ((k1.block _ HLT.out).trans HBK.out)
        clear k1 g0 g1 g2 g3 g4 g5 g6 g7 g8
        go_wp2_with fail
        refine (HF.out _ (HSW.out.below K1.out) (HRW.out.below K1.out) (HMW.out.below K1.out) (HVW.out.below K1.out)).mono ?_
        rintro e v2 ⟨rfl, hb⟩
        have K2 := Lib.hid (show Below W.heap.size W v2 from then' K1.out hb)
        obtain ⟨a0x2, a1x2, a2x2, a3x2, a4x2, a5x2, a6x2, a7x2, a8x2⟩ := in_cells ((K2.out.block _ HLT.out).trans HBK.out)
        clear hb a0x1 a1x1 a2x1 a3x1 a4x1 a5x1 a6x1 a7x1 a8x1
        go_wp2_with fail
        refine (HSHP.out _ (HSW.out.below K2.out)).mono ?_
        rintro e v2 ⟨rfl, rfl⟩
        go_wp2_with fail
        refine (H1.out _).mono ?_
        rintro e v2 ⟨rfl, rfl⟩
        go_wp2_with fail
        refine (HLV.out _ (HSW.out.below K2.out) (HMW.out.below K2.out) (HVW.out.below K2.out)).mono ?_
        rintro e v3 ⟨rfl, hb⟩
        have K3 := Lib.hid (then' K2.out hb)
        clear hb
        go_wp2
        go_ret
        exact ⟨rfl, HAL.out.trans (K3.out.mono HAL.out.size)⟩
      | false =>
        cases hq2 : hasL (shapeL i.o) 70 with
        | true =>
          have H67 := Lib.hid (fun w => HH.out 67 w)
          rw [hq1] at H67
          have H70 := Lib.hid (fun w => HH.out 70 w)
          rw [hq2] at H70
          clear HH l1 l2 l3 l4 hq1 hq2
          go_enter Tryd.func7, Tryd.ntmps7
          go_wp2_with fail
          rw [← HW.out]
          refine (HLG.out _).mono ?_
          rintro e v1 ⟨rfl, k1⟩
          have K1 := Lib.hid k1
          obtain ⟨a0x1, a1x1, a2x1, a3x1, a4x1, a5x1, a6x1, a7x1, a8x1⟩ := in_cells ((k1.block _ HLT.out).trans HBK.out)
          clear k1 g0 g1 g2 g3 g4 g5 g6 g7 g8
          go_wp2_with fail
          refine (HF.out _ (HSW.out.below K1.out) (HRW.out.below K1.out) (HMW.out.below K1.out) (HVW.out.below K1.out)).mono ?_
          rintro e v2 ⟨rfl, hb⟩
          have K2 := Lib.hid (show Below W.heap.size W v2 from then' K1.out hb)
          obtain ⟨a0x2, a1x2, a2x2, a3x2, a4x2, a5x2, a6x2, a7x2, a8x2⟩ := in_cells ((K2.out.block _ HLT.out).trans HBK.out)
          clear hb a0x1 a1x1 a2x1 a3x1 a4x1 a5x1 a6x1 a7x1 a8x1
          go_wp2_with fail
          refine (HSHP.out _ (HSW.out.below K2.out)).mono ?_
          rintro e v2 ⟨rfl, rfl⟩
          go_wp2_with fail
          refine (H67.out _).mono ?_
          rintro e v2 ⟨rfl, rfl⟩
          go_wp2_with fail
          refine (H70.out _).mono ?_
          rintro e v2 ⟨rfl, rfl⟩
          go_wp2_with fail
          refine (HLV.out _ (HSW.out.below K2.out) (HMW.out.below K2.out) (HVW.out.below K2.out)).mono ?_
          rintro e v3 ⟨rfl, hb⟩
          have K3 := Lib.hid (then' K2.out hb)
          clear hb
          go_wp2
          go_ret
          exact ⟨rfl, HAL.out.trans (K3.out.mono HAL.out.size)⟩
        | false =>
          cases hq3 : hasL (shapeL i.o) 77 with
          | true =>
            have H67 := Lib.hid (fun w => HH.out 67 w)
            rw [hq1] at H67
            have H70 := Lib.hid (fun w => HH.out 70 w)
            rw [hq2] at H70
            have H77 := Lib.hid (fun w => HH.out 77 w)
            rw [hq3] at H77
            clear HH l1 l2 l3 l4 hq1 hq2 hq3
            go_enter Tryd.func7, Tryd.ntmps7
            go_wp2_with fail
            rw [← HW.out]
            refine (HLG.out _).mono ?_
            rintro e v1 ⟨rfl, k1⟩
            have K1 := Lib.hid k1
            obtain ⟨a0x1, a1x1, a2x1, a3x1, a4x1, a5x1, a6x1, a7x1, a8x1⟩ := in_cells ((k1.block _ HLT.out).trans HBK.out)
            clear k1 g0 g1 g2 g3 g4 g5 g6 g7 g8
            go_wp2_with fail
            refine (HF.out _ (HSW.out.below K1.out) (HRW.out.below K1.out) (HMW.out.below K1.out) (HVW.out.below K1.out)).mono ?_
            rintro e v2 ⟨rfl, hb⟩
            have K2 := Lib.hid (show Below W.heap.size W v2 from then' K1.out hb)
            obtain ⟨a0x2, a1x2, a2x2, a3x2, a4x2, a5x2, a6x2, a7x2, a8x2⟩ := in_cells ((K2.out.block _ HLT.out).trans HBK.out)
            clear hb a0x1 a1x1 a2x1 a3x1 a4x1 a5x1 a6x1 a7x1 a8x1
            go_wp2_with fail
            refine (HSHP.out _ (HSW.out.below K2.out)).mono ?_
            rintro e v2 ⟨rfl, rfl⟩
            go_wp2_with fail
            refine (H67.out _).mono ?_
            rintro e v2 ⟨rfl, rfl⟩
            go_wp2_with fail
            refine (H70.out _).mono ?_
            rintro e v2 ⟨rfl, rfl⟩
            go_wp2_with fail
            refine (H77.out _).mono ?_
            rintro e v2 ⟨rfl, rfl⟩
            go_wp2_with fail
            refine (HLV.out _ (HSW.out.below K2.out) (HMW.out.below K2.out) (HVW.out.below K2.out)).mono ?_
            rintro e v3 ⟨rfl, hb⟩
            have K3 := Lib.hid (then' K2.out hb)
            clear hb
            go_wp2
            go_ret
            exact ⟨rfl, HAL.out.trans (K3.out.mono HAL.out.size)⟩
          | false =>
            have H67 := Lib.hid (fun w => HH.out 67 w)
            rw [hq1] at H67
            have H70 := Lib.hid (fun w => HH.out 70 w)
            rw [hq2] at H70
            have H77 := Lib.hid (fun w => HH.out 77 w)
            rw [hq3] at H77
            clear HH
            go_enter Tryd.func7, Tryd.ntmps7
            go_wp2_with fail
            rw [← HW.out]
            refine (HLG.out _).mono ?_
            rintro e v1 ⟨rfl, k1⟩
            have K1 := Lib.hid k1
            obtain ⟨a0x1, a1x1, a2x1, a3x1, a4x1, a5x1, a6x1, a7x1, a8x1⟩ := in_cells ((k1.block _ HLT.out).trans HBK.out)
            clear k1 g0 g1 g2 g3 g4 g5 g6 g7 g8
            go_wp2_with fail
            refine (HF.out _ (HSW.out.below K1.out) (HRW.out.below K1.out) (HMW.out.below K1.out) (HVW.out.below K1.out)).mono ?_
            rintro e v2 ⟨rfl, hb⟩
            have K2 := Lib.hid (show Below W.heap.size W v2 from then' K1.out hb)
            obtain ⟨a0x2, a1x2, a2x2, a3x2, a4x2, a5x2, a6x2, a7x2, a8x2⟩ := in_cells ((K2.out.block _ HLT.out).trans HBK.out)
            clear hb a0x1 a1x1 a2x1 a3x1 a4x1 a5x1 a6x1 a7x1 a8x1
            go_wp2_with fail
            refine (HSHP.out _ (HSW.out.below K2.out)).mono ?_
            rintro e v2 ⟨rfl, rfl⟩
            go_wp2_with fail
            refine (H67.out _).mono ?_
            rintro e v2 ⟨rfl, rfl⟩
            go_wp2_with fail
            refine (H70.out _).mono ?_
            rintro e v2 ⟨rfl, rfl⟩
            go_wp2_with fail
            refine (H77.out _).mono ?_
            rintro e v2 ⟨rfl, rfl⟩
            have hnb := put_C ((K2.out.block _ HLT.out).trans HBK.out)
            have hkb : Below w.heap.size v2 (v2.setCell ⟨w.heap.size, 5, none⟩ (.string ⟨#[65]⟩)) := (Below.refl _ _).setCell (p := ⟨w.heap.size, 5, none⟩) (Nat.le_refl _) _
            have hwb : Below w.heap.size w (v2.setCell ⟨w.heap.size, 5, none⟩ (.string ⟨#[65]⟩)) := (HAL.out.trans (K2.out.mono HAL.out.size)).trans hkb
            have HNB := Lib.hid hnb; have HWB := Lib.hid hwb
            have HRB := Lib.hid (HR0.out.below hwb)
            have f5 := frozen_of_row _ _ 5 _ _ ((K2.out.block _ HLT.out).trans HBK.out)
            clear hnb hwb hkb
            go_wp2_with fail
            obtain ⟨WN, hWN⟩ : ∃ WN, WN = (v2.setCell ⟨w.heap.size, 5, none⟩ (.string ⟨#[65]⟩)) := ⟨_, rfl⟩
            rw [← hWN] at HNB HWB HRB ⊢
            have HNL := Lib.hid (blk_lt HNB.out)
            clear hWN
            refine (HLV.out _ (HS0.out.below HWB.out) (HM0.out.below HWB.out) (HV0.out.below HWB.out)).mono ?_
            rintro e v4 ⟨rfl, hb4⟩
            have K4 := Lib.hid hb4
            have cc := in_cells ((hb4.block _ HNL.out).trans HNB.out)
            dsimp only at cc
            obtain ⟨d0, d1, d2, d3, d4, d5, d6, d7, d8⟩ := cc
            have HSB := Lib.hid ((HS0.out.below HWB.out).below hb4); have HMB := Lib.hid ((HM0.out.below HWB.out).below hb4); have HVB := Lib.hid ((HV0.out.below HWB.out).below hb4); have HRB4 := Lib.hid (HRB.out.below hb4)
            have HG := Lib.hid (fun w hs hr hm hv => fits_w { i with cl := [65] } A c 32 256 w hs hr HCN.out (by dsimp only; omega) (by simp) (by dsimp only; omega) (by dsimp only; omega) hm hv)
            unfold FitP at HG
            rw [lack_C hq1 hq2 hq3] at HG
            dsimp only [InV, List.length_cons, List.length_nil] at HG
            clear hb4 hq1 hq2 hq3 l1 l2 l3 l4 a0x2 a1x2 a2x2 a3x2 a4x2 a5x2 a6x2 a7x2 a8x2
            go_wp2_with fail
            refine (HG.out _ HSB.out HRB4.out HMB.out HVB.out).mono ?_
            rintro e v5 ⟨rfl, hb5⟩
            have K5 := Lib.hid (HWB.out.trans ((then' K4.out hb5).mono HWB.out.size))
            clear hb5
            go_wp2
            go_ret
            exact ⟨rfl, K5.out⟩
    · cases hq1 : hasL (shapeL i.o) 70 with
      | true =>
        have H1 := Lib.hid (fun w => HH.out 70 w)
        rw [hq1] at H1
        clear HH hq1 l1 l2 l3 l4
        go_enter Tryd.func7, Tryd.ntmps7
        go_wp2_with fail
        rw [← HW.out]
        refine (HLG.out _).mono ?_
        rintro e v1 ⟨rfl, k1⟩
        have K1 := Lib.hid k1
        obtain ⟨a0x1, a1x1, a2x1, a3x1, a4x1, a5x1, a6x1, a7x1, a8x1⟩ := in_cells ((k1.block _ HLT.out).trans HBK.out)
        clear k1 g0 g1 g2 g3 g4 g5 g6 g7 g8
        go_wp2_with fail
        refine (HF.out _ (HSW.out.below K1.out) (HRW.out.below K1.out) (HMW.out.below K1.out) (HVW.out.below K1.out)).mono ?_
        rintro e v2 ⟨rfl, hb⟩
        have K2 := Lib.hid (show Below W.heap.size W v2 from then' K1.out hb)
        obtain ⟨a0x2, a1x2, a2x2, a3x2, a4x2, a5x2, a6x2, a7x2, a8x2⟩ := in_cells ((K2.out.block _ HLT.out).trans HBK.out)
        clear hb a0x1 a1x1 a2x1 a3x1 a4x1 a5x1 a6x1 a7x1 a8x1
        go_wp2_with fail
        refine (HSHP.out _ (HSW.out.below K2.out)).mono ?_
        rintro e v2 ⟨rfl, rfl⟩
        go_wp2_with fail
        refine (H1.out _).mono ?_
        rintro e v2 ⟨rfl, rfl⟩
        go_wp2_with fail
        refine (HLV.out _ (HSW.out.below K2.out) (HMW.out.below K2.out) (HVW.out.below K2.out)).mono ?_
        rintro e v3 ⟨rfl, hb⟩
        have K3 := Lib.hid (then' K2.out hb)
        clear hb
        go_wp2
        go_ret
        exact ⟨rfl, HAL.out.trans (K3.out.mono HAL.out.size)⟩
      | false =>
        cases hq3 : hasL (shapeL i.o) 77 with
        | true =>
          have H70 := Lib.hid (fun w => HH.out 70 w)
          rw [hq1] at H70
          have H77 := Lib.hid (fun w => HH.out 77 w)
          rw [hq3] at H77
          clear HH l1 l2 l3 l4 hq1 hq3
          go_enter Tryd.func7, Tryd.ntmps7
          go_wp2_with fail
          rw [← HW.out]
          refine (HLG.out _).mono ?_
          rintro e v1 ⟨rfl, k1⟩
          have K1 := Lib.hid k1
          obtain ⟨a0x1, a1x1, a2x1, a3x1, a4x1, a5x1, a6x1, a7x1, a8x1⟩ := in_cells ((k1.block _ HLT.out).trans HBK.out)
          clear k1 g0 g1 g2 g3 g4 g5 g6 g7 g8
          go_wp2_with fail
          refine (HF.out _ (HSW.out.below K1.out) (HRW.out.below K1.out) (HMW.out.below K1.out) (HVW.out.below K1.out)).mono ?_
          rintro e v2 ⟨rfl, hb⟩
          have K2 := Lib.hid (show Below W.heap.size W v2 from then' K1.out hb)
          obtain ⟨a0x2, a1x2, a2x2, a3x2, a4x2, a5x2, a6x2, a7x2, a8x2⟩ := in_cells ((K2.out.block _ HLT.out).trans HBK.out)
          clear hb a0x1 a1x1 a2x1 a3x1 a4x1 a5x1 a6x1 a7x1 a8x1
          go_wp2_with fail
          refine (HSHP.out _ (HSW.out.below K2.out)).mono ?_
          rintro e v2 ⟨rfl, rfl⟩
          go_wp2_with fail
          refine (H70.out _).mono ?_
          rintro e v2 ⟨rfl, rfl⟩
          go_wp2_with fail
          refine (H77.out _).mono ?_
          rintro e v2 ⟨rfl, rfl⟩
          go_wp2_with fail
          refine (HLV.out _ (HSW.out.below K2.out) (HMW.out.below K2.out) (HVW.out.below K2.out)).mono ?_
          rintro e v3 ⟨rfl, hb⟩
          have K3 := Lib.hid (then' K2.out hb)
          clear hb
          go_wp2
          go_ret
          exact ⟨rfl, HAL.out.trans (K3.out.mono HAL.out.size)⟩
        | false =>
          have H70 := Lib.hid (fun w => HH.out 70 w)
          rw [hq1] at H70
          have H77 := Lib.hid (fun w => HH.out 77 w)
          rw [hq3] at H77
          clear HH
          go_enter Tryd.func7, Tryd.ntmps7
          go_wp2_with fail
          rw [← HW.out]
          refine (HLG.out _).mono ?_
          rintro e v1 ⟨rfl, k1⟩
          have K1 := Lib.hid k1
          obtain ⟨a0x1, a1x1, a2x1, a3x1, a4x1, a5x1, a6x1, a7x1, a8x1⟩ := in_cells ((k1.block _ HLT.out).trans HBK.out)
          clear k1 g0 g1 g2 g3 g4 g5 g6 g7 g8
          go_wp2_with fail
          refine (HF.out _ (HSW.out.below K1.out) (HRW.out.below K1.out) (HMW.out.below K1.out) (HVW.out.below K1.out)).mono ?_
          rintro e v2 ⟨rfl, hb⟩
          have K2 := Lib.hid (show Below W.heap.size W v2 from then' K1.out hb)
          obtain ⟨a0x2, a1x2, a2x2, a3x2, a4x2, a5x2, a6x2, a7x2, a8x2⟩ := in_cells ((K2.out.block _ HLT.out).trans HBK.out)
          clear hb a0x1 a1x1 a2x1 a3x1 a4x1 a5x1 a6x1 a7x1 a8x1
          go_wp2_with fail
          refine (HSHP.out _ (HSW.out.below K2.out)).mono ?_
          rintro e v2 ⟨rfl, rfl⟩
          go_wp2_with fail
          refine (H70.out _).mono ?_
          rintro e v2 ⟨rfl, rfl⟩
          go_wp2_with fail
          refine (H77.out _).mono ?_
          rintro e v2 ⟨rfl, rfl⟩
          have hnb := put_F ((K2.out.block _ HLT.out).trans HBK.out)
          have hkb : Below w.heap.size v2 (v2.setCell ⟨w.heap.size, 6, none⟩ (.string ⟨#[102]⟩)) := (Below.refl _ _).setCell (p := ⟨w.heap.size, 6, none⟩) (Nat.le_refl _) _
          have hwb : Below w.heap.size w (v2.setCell ⟨w.heap.size, 6, none⟩ (.string ⟨#[102]⟩)) := (HAL.out.trans (K2.out.mono HAL.out.size)).trans hkb
          have HNB := Lib.hid hnb; have HWB := Lib.hid hwb
          have HRB := Lib.hid (HR0.out.below hwb)
          have f6 := frozen_of_row _ _ 6 _ _ ((K2.out.block _ HLT.out).trans HBK.out)
          clear hnb hwb hkb
          go_wp2_with fail
          obtain ⟨WN, hWN⟩ : ∃ WN, WN = (v2.setCell ⟨w.heap.size, 6, none⟩ (.string ⟨#[102]⟩)) := ⟨_, rfl⟩
          rw [← hWN] at HNB HWB HRB ⊢
          have HNL := Lib.hid (blk_lt HNB.out)
          clear hWN
          refine (HLV.out _ (HS0.out.below HWB.out) (HM0.out.below HWB.out) (HV0.out.below HWB.out)).mono ?_
          rintro e v4 ⟨rfl, hb4⟩
          have K4 := Lib.hid hb4
          have cc := in_cells ((hb4.block _ HNL.out).trans HNB.out)
          dsimp only at cc
          obtain ⟨d0, d1, d2, d3, d4, d5, d6, d7, d8⟩ := cc
          have HSB := Lib.hid ((HS0.out.below HWB.out).below hb4); have HMB := Lib.hid ((HM0.out.below HWB.out).below hb4); have HVB := Lib.hid ((HV0.out.below HWB.out).below hb4); have HRB4 := Lib.hid (HRB.out.below hb4)
          have HG := Lib.hid (fun w hs hr hm hv => fits_w { i with nm := [102] } A c 32 256 w hs hr HCN.out (by dsimp only; omega) (by dsimp only; omega) (by simp) (by dsimp only; omega) hm hv)
          unfold FitP at HG
          rw [lack_F hq1 hq3] at HG
          dsimp only [InV, List.length_cons, List.length_nil] at HG
          clear hb4 hq1 hq3 l1 l2 l3 l4 a0x2 a1x2 a2x2 a3x2 a4x2 a5x2 a6x2 a7x2 a8x2
          go_wp2_with fail
          refine (HG.out _ HSB.out HRB4.out HMB.out HVB.out).mono ?_
          rintro e v5 ⟨rfl, hb5⟩
          have K5 := Lib.hid (HWB.out.trans ((then' K4.out hb5).mono HWB.out.size))
          clear hb5
          go_wp2
          go_ret
          exact ⟨rfl, K5.out⟩
    · cases hq1 : hasL (shapeL i.o) 77 with
      | true =>
        have H1 := Lib.hid (fun w => HH.out 77 w)
        rw [hq1] at H1
        clear HH hq1 l1 l2 l3 l4
        go_enter Tryd.func7, Tryd.ntmps7
        go_wp2_with fail
        rw [← HW.out]
        refine (HLG.out _).mono ?_
        rintro e v1 ⟨rfl, k1⟩
        have K1 := Lib.hid k1
        obtain ⟨a0x1, a1x1, a2x1, a3x1, a4x1, a5x1, a6x1, a7x1, a8x1⟩ := in_cells ((k1.block _ HLT.out).trans HBK.out)
        clear k1 g0 g1 g2 g3 g4 g5 g6 g7 g8
        go_wp2_with fail
        refine (HF.out _ (HSW.out.below K1.out) (HRW.out.below K1.out) (HMW.out.below K1.out) (HVW.out.below K1.out)).mono ?_
        rintro e v2 ⟨rfl, hb⟩
        have K2 := Lib.hid (show Below W.heap.size W v2 from then' K1.out hb)
        obtain ⟨a0x2, a1x2, a2x2, a3x2, a4x2, a5x2, a6x2, a7x2, a8x2⟩ := in_cells ((K2.out.block _ HLT.out).trans HBK.out)
        clear hb a0x1 a1x1 a2x1 a3x1 a4x1 a5x1 a6x1 a7x1 a8x1
        go_wp2_with fail
        refine (HSHP.out _ (HSW.out.below K2.out)).mono ?_
        rintro e v2 ⟨rfl, rfl⟩
        go_wp2_with fail
        refine (H1.out _).mono ?_
        rintro e v2 ⟨rfl, rfl⟩
        go_wp2_with fail
        refine (HLV.out _ (HSW.out.below K2.out) (HMW.out.below K2.out) (HVW.out.below K2.out)).mono ?_
        rintro e v3 ⟨rfl, hb⟩
        have K3 := Lib.hid (then' K2.out hb)
        clear hb
        go_wp2
        go_ret
        exact ⟨rfl, HAL.out.trans (K3.out.mono HAL.out.size)⟩
      | false =>
        have H77 := Lib.hid (fun w => HH.out 77 w)
        rw [hq1] at H77
        clear HH
        go_enter Tryd.func7, Tryd.ntmps7
        go_wp2_with fail
        rw [← HW.out]
        refine (HLG.out _).mono ?_
        rintro e v1 ⟨rfl, k1⟩
        have K1 := Lib.hid k1
        obtain ⟨a0x1, a1x1, a2x1, a3x1, a4x1, a5x1, a6x1, a7x1, a8x1⟩ := in_cells ((k1.block _ HLT.out).trans HBK.out)
        clear k1 g0 g1 g2 g3 g4 g5 g6 g7 g8
        go_wp2_with fail
        refine (HF.out _ (HSW.out.below K1.out) (HRW.out.below K1.out) (HMW.out.below K1.out) (HVW.out.below K1.out)).mono ?_
        rintro e v2 ⟨rfl, hb⟩
        have K2 := Lib.hid (show Below W.heap.size W v2 from then' K1.out hb)
        obtain ⟨a0x2, a1x2, a2x2, a3x2, a4x2, a5x2, a6x2, a7x2, a8x2⟩ := in_cells ((K2.out.block _ HLT.out).trans HBK.out)
        clear hb a0x1 a1x1 a2x1 a3x1 a4x1 a5x1 a6x1 a7x1 a8x1
        go_wp2_with fail
        refine (HSHP.out _ (HSW.out.below K2.out)).mono ?_
        rintro e v2 ⟨rfl, rfl⟩
        go_wp2_with fail
        refine (H77.out _).mono ?_
        rintro e v2 ⟨rfl, rfl⟩
        have hnb := put_M ((K2.out.block _ HLT.out).trans HBK.out)
        have hkb : Below w.heap.size v2 (v2.setCell ⟨w.heap.size, 7, none⟩ (.string ⟨#[40, 41, 86]⟩)) := (Below.refl _ _).setCell (p := ⟨w.heap.size, 7, none⟩) (Nat.le_refl _) _
        have hwb : Below w.heap.size w (v2.setCell ⟨w.heap.size, 7, none⟩ (.string ⟨#[40, 41, 86]⟩)) := (HAL.out.trans (K2.out.mono HAL.out.size)).trans hkb
        have HNB := Lib.hid hnb; have HWB := Lib.hid hwb
        have HRB := Lib.hid (HR0.out.below hwb)
        have f7 := frozen_of_row _ _ 7 _ _ ((K2.out.block _ HLT.out).trans HBK.out)
        clear hnb hwb hkb
        go_wp2_with fail
        obtain ⟨WN, hWN⟩ : ∃ WN, WN = (v2.setCell ⟨w.heap.size, 7, none⟩ (.string ⟨#[40, 41, 86]⟩)) := ⟨_, rfl⟩
        rw [← hWN] at HNB HWB HRB ⊢
        have HNL := Lib.hid (blk_lt HNB.out)
        clear hWN
        refine (HLV.out _ (HS0.out.below HWB.out) (HM0.out.below HWB.out) (HV0.out.below HWB.out)).mono ?_
        rintro e v4 ⟨rfl, hb4⟩
        have K4 := Lib.hid hb4
        have cc := in_cells ((hb4.block _ HNL.out).trans HNB.out)
        dsimp only at cc
        obtain ⟨d0, d1, d2, d3, d4, d5, d6, d7, d8⟩ := cc
        have HSB := Lib.hid ((HS0.out.below HWB.out).below hb4); have HMB := Lib.hid ((HM0.out.below HWB.out).below hb4); have HVB := Lib.hid ((HV0.out.below HWB.out).below hb4); have HRB4 := Lib.hid (HRB.out.below hb4)
        have HG := Lib.hid (fun w hs hr hm hv => fits_w { i with ds := [40, 41, 86] } A c 32 256 w hs hr HCN.out (by dsimp only; omega) (by dsimp only; omega) (by dsimp only; omega) (by simp) hm hv)
        unfold FitP at HG
        rw [lack_M hq1] at HG
        dsimp only [InV, List.length_cons, List.length_nil] at HG
        clear hb4 hq1 l1 l2 l3 l4 a0x2 a1x2 a2x2 a3x2 a4x2 a5x2 a6x2 a7x2 a8x2
        go_wp2_with fail
        refine (HG.out _ HSB.out HRB4.out HMB.out HVB.out).mono ?_
        rintro e v5 ⟨rfl, hb5⟩
        have K5 := Lib.hid (HWB.out.trans ((then' K4.out hb5).mono HWB.out.size))
        clear hb5
        go_wp2
        go_ret
        exact ⟨rfl, K5.out⟩
    · cases hq1 : hasL (shapeL i.o) 118 with
      | true =>
        have H1 := Lib.hid (fun w => HH.out 118 w)
        rw [hq1] at H1
        clear HH hq1 l1 l2 l3 l4
        go_enter Tryd.func7, Tryd.ntmps7
        go_wp2_with fail
        rw [← HW.out]
        refine (HLG.out _).mono ?_
        rintro e v1 ⟨rfl, k1⟩
        have K1 := Lib.hid k1
        obtain ⟨a0x1, a1x1, a2x1, a3x1, a4x1, a5x1, a6x1, a7x1, a8x1⟩ := in_cells ((k1.block _ HLT.out).trans HBK.out)
        clear k1 g0 g1 g2 g3 g4 g5 g6 g7 g8
        go_wp2_with fail
        refine (HF.out _ (HSW.out.below K1.out) (HRW.out.below K1.out) (HMW.out.below K1.out) (HVW.out.below K1.out)).mono ?_
        rintro e v2 ⟨rfl, hb⟩
        have K2 := Lib.hid (show Below W.heap.size W v2 from then' K1.out hb)
        obtain ⟨a0x2, a1x2, a2x2, a3x2, a4x2, a5x2, a6x2, a7x2, a8x2⟩ := in_cells ((K2.out.block _ HLT.out).trans HBK.out)
        clear hb a0x1 a1x1 a2x1 a3x1 a4x1 a5x1 a6x1 a7x1 a8x1
        go_wp2_with fail
        refine (HSHP.out _ (HSW.out.below K2.out)).mono ?_
        rintro e v2 ⟨rfl, rfl⟩
        go_wp2_with fail
        refine (H1.out _).mono ?_
        rintro e v2 ⟨rfl, rfl⟩
        go_wp2_with fail
        refine (HLV.out _ (HSW.out.below K2.out) (HMW.out.below K2.out) (HVW.out.below K2.out)).mono ?_
        rintro e v3 ⟨rfl, hb⟩
        have K3 := Lib.hid (then' K2.out hb)
        clear hb
        go_wp2
        go_ret
        exact ⟨rfl, HAL.out.trans (K3.out.mono HAL.out.size)⟩
      | false =>
        have H118 := Lib.hid (fun w => HH.out 118 w)
        rw [hq1] at H118
        clear HH
        go_enter Tryd.func7, Tryd.ntmps7
        go_wp2_with fail
        rw [← HW.out]
        refine (HLG.out _).mono ?_
        rintro e v1 ⟨rfl, k1⟩
        have K1 := Lib.hid k1
        obtain ⟨a0x1, a1x1, a2x1, a3x1, a4x1, a5x1, a6x1, a7x1, a8x1⟩ := in_cells ((k1.block _ HLT.out).trans HBK.out)
        clear k1 g0 g1 g2 g3 g4 g5 g6 g7 g8
        go_wp2_with fail
        refine (HF.out _ (HSW.out.below K1.out) (HRW.out.below K1.out) (HMW.out.below K1.out) (HVW.out.below K1.out)).mono ?_
        rintro e v2 ⟨rfl, hb⟩
        have K2 := Lib.hid (show Below W.heap.size W v2 from then' K1.out hb)
        obtain ⟨a0x2, a1x2, a2x2, a3x2, a4x2, a5x2, a6x2, a7x2, a8x2⟩ := in_cells ((K2.out.block _ HLT.out).trans HBK.out)
        clear hb a0x1 a1x1 a2x1 a3x1 a4x1 a5x1 a6x1 a7x1 a8x1
        go_wp2_with fail
        refine (HSHP.out _ (HSW.out.below K2.out)).mono ?_
        rintro e v2 ⟨rfl, rfl⟩
        go_wp2_with fail
        refine (H118.out _).mono ?_
        rintro e v2 ⟨rfl, rfl⟩
        have hnb := put_v (some ⟨v2.heap.size, 0, none⟩) 1 ((Below.heap_alloc v2 (.cells #[.int .i64 1] 3) _ (Nat.lt_of_lt_of_le HLT.out K2.out.size)).trans ((K2.out.block _ HLT.out).trans HBK.out))
        have hrb := rd_blk (xs := IL [1]) ((Below.heap_setCell (v2.alloc (.cells #[.int .i64 1] 3)) ⟨w.heap.size, 8, none⟩ (.slice (some ⟨v2.heap.size, 0, none⟩) 1 1) v2.heap.size (Nat.ne_of_gt (Nat.lt_of_lt_of_le HLT.out K2.out.size))).trans (heap_alloc_new v2 (.cells #[.int .i64 1] 3))) (k := 1) rfl
        have hwb : Below w.heap.size w ((v2.alloc (.cells #[.int .i64 1] 3)).setCell ⟨w.heap.size, 8, none⟩ (.slice (some ⟨v2.heap.size, 0, none⟩) 1 1)) := ((HAL.out.trans (K2.out.mono HAL.out.size)).alloc (Nat.le_trans HAL.out.size K2.out.size) _).setCell (p := ⟨w.heap.size, 8, none⟩) (Nat.le_refl _) _
        have f8 := frozen_of_row _ _ 8 _ _ ((Below.heap_alloc v2 (.cells #[.int .i64 1] 3) _ (Nat.lt_of_lt_of_le HLT.out K2.out.size)).trans ((K2.out.block _ HLT.out).trans HBK.out))
        have c8 := (in_cells ((Below.heap_alloc v2 (.cells #[.int .i64 1] 3) _ (Nat.lt_of_lt_of_le HLT.out K2.out.size)).trans ((K2.out.block _ HLT.out).trans HBK.out))).2.2.2.2.2.2.2.2
        have HNB := Lib.hid hnb; have HWB := Lib.hid hwb
        have HRB := Lib.hid hrb
        clear hnb hwb hrb
        go_wp2_with fail
        obtain ⟨WN, hWN⟩ : ∃ WN, WN = ((v2.alloc (.cells #[.int .i64 1] 3)).setCell ⟨w.heap.size, 8, none⟩ (.slice (some ⟨v2.heap.size, 0, none⟩) 1 1)) := ⟨_, rfl⟩
        rw [← hWN] at HNB HWB HRB ⊢
        have HNL := Lib.hid (blk_lt HNB.out)
        clear hWN
        refine (HLV.out _ (HS0.out.below HWB.out) (HM0.out.below HWB.out) (HV0.out.below HWB.out)).mono ?_
        rintro e v4 ⟨rfl, hb4⟩
        have K4 := Lib.hid hb4
        have cc := in_cells ((hb4.block _ HNL.out).trans HNB.out)
        dsimp only at cc
        obtain ⟨d0, d1, d2, d3, d4, d5, d6, d7, d8⟩ := cc
        have HSB := Lib.hid ((HS0.out.below HWB.out).below hb4); have HMB := Lib.hid ((HM0.out.below HWB.out).below hb4); have HVB := Lib.hid ((HV0.out.below HWB.out).below hb4); have HRB4 := Lib.hid (HRB.out.below hb4)
        have HG := Lib.hid (fun w hs hr hm hv => fits_w { i with ar := [1] } (some ⟨v2.heap.size, 0, none⟩) 1 32 256 w hs hr (Nat.le_refl _) (by simp) (by dsimp only; omega) (by dsimp only; omega) (by dsimp only; omega) hm hv)
        unfold FitP at HG
        rw [lack_v hq1] at HG
        dsimp only [InV, List.length_cons, List.length_nil] at HG
        clear hb4 hq1 l1 l2 l3 l4 a0x2 a1x2 a2x2 a3x2 a4x2 a5x2 a6x2 a7x2 a8x2
        go_wp2_with fail
        refine (HG.out _ HSB.out HRB4.out HMB.out HVB.out).mono ?_
        rintro e v5 ⟨rfl, hb5⟩
        have K5 := Lib.hid (HWB.out.trans ((then' K4.out hb5).mono HWB.out.size))
        clear hb5
        go_wp2
        go_ret
        exact ⟨rfl, K5.out⟩
  · have hne : (fitsE i 32 256 != 0) = true := by simpa using hE
    generalize fitsE i 32 256 = E at *
    clear hE hlg l1 l2 l3 l4 hc hr hz hcl hnm hd hs hv hm
    go_enter Tryd.func7, Tryd.ntmps7
    go_wp2_with fail
    rw [← HW.out]
    refine (HLG.out _).mono ?_
    rintro e v1 ⟨rfl, k1⟩
    have K1 := Lib.hid k1
    obtain ⟨a0x1, a1x1, a2x1, a3x1, a4x1, a5x1, a6x1, a7x1, a8x1⟩ := in_cells ((k1.block _ HLT.out).trans HBK.out)
    clear k1 g0 g1 g2 g3 g4 g5 g6 g7 g8
    go_wp2_with fail
    refine (HF.out _ (HSW.out.below K1.out) (HRW.out.below K1.out) (HMW.out.below K1.out) (HVW.out.below K1.out)).mono ?_
    rintro e v2 ⟨rfl, hb⟩
    have K2 := Lib.hid (show Below W.heap.size W v2 from then' K1.out hb)
    obtain ⟨a0x2, a1x2, a2x2, a3x2, a4x2, a5x2, a6x2, a7x2, a8x2⟩ := in_cells ((K2.out.block _ HLT.out).trans HBK.out)
    clear hb a0x1 a1x1 a2x1 a3x1 a4x1 a5x1 a6x1 a7x1 a8x1
    go_wp2_with fail
    refine (HLV.out _ (HSW.out.below K2.out) (HMW.out.below K2.out) (HVW.out.below K2.out)).mono ?_
    rintro e v3 ⟨rfl, hb⟩
    have K3 := Lib.hid (then' K2.out hb)
    clear hb
    go_wp2
    go_ret
    exact ⟨rfl, HAL.out.trans (K3.out.mono HAL.out.size)⟩
end Go.Proofs.YtdenpefihplnoaaDoor.opLacks

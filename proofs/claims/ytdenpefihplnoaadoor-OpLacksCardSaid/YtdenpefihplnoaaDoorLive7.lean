/-
  Layer 7: what must be whatever is asked.
-/
import Derived.Test.YtdenpefihplnoaaDoorOpX
import Derived.Test.YtdenpefihplnoaaDoorOpG
namespace Go.Proofs.YtdenpefihplnoaaDoor.op
open Go.RowKit
open Go.Proofs.YtdenpefihplnoaaDoor.words Go.Proofs.YtdenpefihplnoaaDoor.kindp Go.Proofs.YtdenpefihplnoaaDoor.opp Go.Proofs.YtdenpefihplnoaaDoor.kind

set_option maxRecDepth 100000 in
set_option maxHeartbeats 400000 in
theorem ints_same (A C : Option Addr) (n c d : Nat) (l : List Int) (w : World) (h1 : Rd w A (IL l)) (h2 : Rd w C (IL l)) (hl : l.length = n) (hn : n ≤ 281474976710656) :
    Calls Tryd.prog 23 #[.slice A n c, .slice C n d] w fun e w' => e = .returned (.bool true) ∧ ∃ q, w' = w.drewN q := by
  have hnI : (n : Int) ≤ 281474976710656 := by omega
  have hnn : ((n : Int) != n) = false := by simp
  clear hn
  go_enter Tryd.func23, Tryd.ntmps23
  go_wp2
  go_loopw [5] (fun i wr => ∃ k : Nat, k ≤ n ∧ i = .int .i64 (k : Int) ∧ ∃ q, wr = w.drewN q) (fun i _ => n - (intOf i).toNat)
  case atStart => exact ⟨0, Nat.zero_le _, rfl, 0, rfl⟩
  case round =>
    obtain ⟨k, hk, rfl, q, rfl⟩ := hrel
    by_cases hlt : k < n
    · obtain ⟨x, hx⟩ : ∃ x, l[k]? = some x := ⟨l[k]'(by omega), List.getElem?_eq_getElem (by omega)⟩
      obtain ⟨a, rfl, _, ha⟩ := h1.at_ (IL_at hx)
      obtain ⟨b, rfl, _, hb⟩ := h2.at_ (IL_at hx)
      have hxx : (x != x) = false := by simp
      clear h1 h2 hx hl
      go_wp2
      go_quiet (fail)
      go_wp2
      go_roundw
      case rel => exact ⟨k + 1, by omega, by go_num, _, rfl⟩
      case measure => simp [intOf]; omega
    · go_wp2
      go_ret
      exact ⟨rfl, q, rfl⟩
def iCall : In := ⟨20, 0, 0, 0, 0, [65], [109], [40, 73, 41, 86], [0, 1]⟩
def iMove : In := ⟨4, 2, 1, 0, 0, [], [], [], []⟩
def iBranch : In := ⟨7, 0, 1, 0, 4, [], [], [], []⟩
def iJump : In := ⟨6, 0, 0, 0, 5, [], [], [], []⟩
theorem lv1 : setsL iMove = (2, true) := by decide +kernel
theorem lv2 : setsL iCall = (0, false) := by decide +kernel
theorem lv3 : targetL iBranch = (4, true) := by decide +kernel
theorem lv4 : fitsE iCall 2 1 = 0 := by decide +kernel
theorem lv5 : fitsE iJump 0 5 = 12 := by decide +kernel
theorem lv6 : shapeL 14 = [97, 98, 99] := by decide +kernel
theorem lv7 : usesL iCall = [0, 1] := by decide +kernel
set_option maxRecDepth 100000 in
set_option maxHeartbeats 8000000 in
theorem live_any (w : World) (hs : Sh w) (hm : Mx w) (hv : Vd w) : Calls Tryd.prog 9 #[] w fun e w' => e = .returned (.bool true) ∧ Below w.heap.size w w' := by
  have H1 := Lib.hid (fun w hs hm hv => sets_w iMove none 0 w hs (by decide) hm hv)
  rw [lv1] at H1
  have H2 := Lib.hid (fun A c w hs hm hv => sets_w iCall A c w hs (by decide) hm hv)
  rw [lv2] at H2
  have H3 := Lib.hid (fun w hs => target_w iBranch none 0 w hs)
  rw [lv3] at H3
  have H4 := Lib.hid (fun A c w hs hr hc hm hv => fits_w iCall A c 2 1 w hs hr hc (by decide) (by decide) (by decide) (by decide) hm hv)
  have H5 := Lib.hid (fun w hs hm hv => fits_w iJump none 0 0 5 w hs (Rd.nil _ _) (Nat.le_refl _) (by decide) (by decide) (by decide) (by decide) hm hv)
  unfold FitP at H4 H5
  rw [lv4] at H4
  rw [lv5] at H5
  have H6 := Lib.hid (fun w hs => shape_w 14 w hs)
  rw [lv6] at H6
  have H7 := Lib.hid (fun A c w hs hr hc => uses_w iCall A c w hs hr hc (by decide))
  unfold UseP at H7
  rw [lv7] at H7
  have HF1 := Lib.hid (fun w => falls_w 1 w)
  have HF2 := Lib.hid (fun w => falls_w 30 w)
  rw [show fallsB 1 = true by decide +kernel] at HF1
  rw [show fallsB 30 = false by decide +kernel] at HF2
  have HC := Lib.hid (fun w hs => call_w 20 w hs)
  rw [show isCall 20 = true by decide +kernel] at HC
  have HSA := Lib.hid (fun A c w hr => same_w iCall iCall A A c c w hr hr (by decide) (by decide))
  rw [show decide (iCall = iCall) = true by simp] at HSA
  have HSI := Lib.hid (fun A C c d w h1 h2 => ints_same A C 2 c d [0, 1] w h1 h2 rfl (by decide))
  dsimp only [iMove, iCall, iBranch, iJump, InV, List.length_nil, List.length_cons] at H1 H2 H3 H4 H5 H7 HSA
  have HS := Lib.hid hs; have HM := Lib.hid hm; have HV := Lib.hid hv
  clear hs hm hv
  go_enter Tryd.func9, Tryd.ntmps9
  go_wp2_with fail
  obtain ⟨W, hW⟩ : ∃ W, W = (w.alloc (.cells #[.int .i64 0, .int .i64 1] 3)).alloc (.cells #[.int .i64 20, .int .i64 0, .int .i64 0, .int .i64 0, .int .i64 0, .string ⟨#[65]⟩, .string ⟨#[109]⟩, .string ⟨#[40, 73, 41, 86]⟩, .slice (some ⟨w.heap.size, 0, none⟩) 2 2] 28) := ⟨_, rfl⟩
  have hal : Below w.heap.size w W := by rw [hW]; exact ((Below.refl _ w).alloc (Nat.le_refl _) _).alloc (by simp) _
  have hblk : W.heap[w.heap.size + 1]? = some (.cells (InV iCall (some ⟨w.heap.size, 0, none⟩) 2) 28 (0, 0)) := by
    rw [hW]; have := heap_alloc_new (w.alloc (.cells #[.int .i64 0, .int .i64 1] 3)) (.cells #[.int .i64 20, .int .i64 0, .int .i64 0, .int .i64 0, .int .i64 0, .string ⟨#[65]⟩, .string ⟨#[109]⟩, .string ⟨#[40, 73, 41, 86]⟩, .slice (some ⟨w.heap.size, 0, none⟩) 2 2] 28); rw [World.size_alloc] at this; exact this
  have hrd : Rd W (some ⟨w.heap.size, 0, none⟩) (IL [0, 1]) := by
    rw [hW]; exact rd_blk (k := 2) ((Below.heap_alloc _ _ _ (by simp)).trans (heap_alloc_new w _)) rfl
  rw [← hW]
  have HAL := Lib.hid hal; have HBK := Lib.hid hblk; have HLT := Lib.hid (blk_lt hblk); have HRD := Lib.hid hrd
  have HSW := Lib.hid (HS.out.below hal); have HMW := Lib.hid (HM.out.below hal); have HVW := Lib.hid (HV.out.below hal)
  clear hal hblk hrd hW HS HM HV
  have c0 := in_cells HBK.out
  dsimp only [iCall, List.length_cons, List.length_nil] at c0
  obtain ⟨g0, g1, g2, g3, g4, g5, g6, g7, g8⟩ := c0
  refine (H1.out _ HSW.out HMW.out HVW.out).mono ?_
  rintro e v1 ⟨rfl, k1⟩
  have K1 := Lib.hid k1
  have d1 := in_cells ((K1.out.block _ HLT.out).trans HBK.out)
  dsimp only [iCall, List.length_cons, List.length_nil] at d1
  obtain ⟨a0x1, a1x1, a2x1, a3x1, a4x1, a5x1, a6x1, a7x1, a8x1⟩ := d1
  clear k1 g0 g1 g2 g3 g4 g5 g6 g7 g8
  go_wp2_with fail
  refine (H2.out _ _ _ (HSW.out.below K1.out) (HMW.out.below K1.out) (HVW.out.below K1.out)).mono ?_
  rintro e v2 ⟨rfl, hb2⟩
  have K2 := Lib.hid (show Below W.heap.size W v2 from then' K1.out hb2)
  have d2 := in_cells ((K2.out.block _ HLT.out).trans HBK.out)
  dsimp only [iCall, List.length_cons, List.length_nil] at d2
  obtain ⟨a0x2, a1x2, a2x2, a3x2, a4x2, a5x2, a6x2, a7x2, a8x2⟩ := d2
  clear hb2 a0x1 a1x1 a2x1 a3x1 a4x1 a5x1 a6x1 a7x1 a8x1
  go_wp2_with fail
  refine (H3.out _ (HSW.out.below K2.out)).mono ?_
  rintro e v3 ⟨rfl, hb3⟩
  have K3 := Lib.hid (show Below W.heap.size W v3 from then' K2.out hb3)
  have d3 := in_cells ((K3.out.block _ HLT.out).trans HBK.out)
  dsimp only [iCall, List.length_cons, List.length_nil] at d3
  obtain ⟨a0x3, a1x3, a2x3, a3x3, a4x3, a5x3, a6x3, a7x3, a8x3⟩ := d3
  clear hb3 a0x2 a1x2 a2x2 a3x2 a4x2 a5x2 a6x2 a7x2 a8x2
  go_wp2_with fail
  refine (H4.out _ _ _ (HSW.out.below K3.out) (HRD.out.below K3.out) (Nat.le_refl _) (HMW.out.below K3.out) (HVW.out.below K3.out)).mono ?_
  rintro e v4 ⟨rfl, hb4⟩
  have K4 := Lib.hid (show Below W.heap.size W v4 from then' K3.out hb4)
  have d4 := in_cells ((K4.out.block _ HLT.out).trans HBK.out)
  dsimp only [iCall, List.length_cons, List.length_nil] at d4
  obtain ⟨a0x4, a1x4, a2x4, a3x4, a4x4, a5x4, a6x4, a7x4, a8x4⟩ := d4
  clear hb4 a0x3 a1x3 a2x3 a3x3 a4x3 a5x3 a6x3 a7x3 a8x3
  go_wp2_with fail
  refine (H5.out _ (HSW.out.below K4.out) (HMW.out.below K4.out) (HVW.out.below K4.out)).mono ?_
  rintro e v5 ⟨rfl, hb5⟩
  have K5 := Lib.hid (show Below W.heap.size W v5 from then' K4.out hb5)
  have d5 := in_cells ((K5.out.block _ HLT.out).trans HBK.out)
  dsimp only [iCall, List.length_cons, List.length_nil] at d5
  obtain ⟨a0x5, a1x5, a2x5, a3x5, a4x5, a5x5, a6x5, a7x5, a8x5⟩ := d5
  clear hb5 a0x4 a1x4 a2x4 a3x4 a4x4 a5x4 a6x4 a7x4 a8x4
  go_wp2_with fail
  refine (H6.out _ (HSW.out.below K5.out)).mono ?_
  rintro e v0 ⟨rfl, rfl⟩
  go_wp2_with fail
  refine (HF1.out _).mono ?_
  rintro e v0 ⟨rfl, rfl⟩
  go_wp2_with fail
  refine (HF2.out _).mono ?_
  rintro e v0 ⟨rfl, rfl⟩
  go_wp2_with fail
  refine (H7.out _ _ _ (HSW.out.below K5.out) (HRD.out.below K5.out) (Nat.le_refl _)).mono ?_
  rintro e v6 ⟨⟨A6, c6, rfl, hr6⟩, hb6⟩
  have K6 := Lib.hid (show Below W.heap.size W v6 from then' K5.out hb6)
  have K7 := Lib.hid (show Below W.heap.size W (v6.alloc (.cells #[.int .i64 0, .int .i64 1] 3)) from K6.out.alloc K6.out.size _)
  have HR6 := Lib.hid (hr6.below ((Below.refl v6.heap.size v6).alloc (Nat.le_refl _) (.cells #[.int .i64 0, .int .i64 1] 3)))
  have HR7 := Lib.hid (rd_blk (xs := IL [0, 1]) (heap_alloc_new v6 (.cells #[.int .i64 0, .int .i64 1] 3)) (k := 2) rfl)
  have d7 := in_cells ((K7.out.block _ HLT.out).trans HBK.out)
  dsimp only [iCall, List.length_cons, List.length_nil] at d7
  obtain ⟨a0x7, a1x7, a2x7, a3x7, a4x7, a5x7, a6x7, a7x7, a8x7⟩ := d7
  clear hb6 hr6 a0x5 a1x5 a2x5 a3x5 a4x5 a5x5 a6x5 a7x5 a8x5
  go_wp2_with fail
  refine (HSI.out _ _ _ _ _ HR6.out HR7.out).mono ?_
  rintro e v8 ⟨rfl, q, rfl⟩
  go_wp2_with fail
  refine (HC.out _ (HSW.out.below (over K7.out))).mono ?_
  rintro e v9 ⟨rfl, hb9⟩
  have K9 := Lib.hid (show Below W.heap.size W v9 from then' K7.out (under hb9))
  have d9 := in_cells ((K9.out.block _ HLT.out).trans HBK.out)
  dsimp only [iCall, List.length_cons, List.length_nil] at d9
  obtain ⟨a0x9, a1x9, a2x9, a3x9, a4x9, a5x9, a6x9, a7x9, a8x9⟩ := d9
  clear hb9 a0x7 a1x7 a2x7 a3x7 a4x7 a5x7 a6x7 a7x7 a8x7
  go_wp2_with fail
  refine (HSA.out _ _ _ (HRD.out.below K9.out)).mono ?_
  rintro e v10 ⟨rfl, hb10⟩
  have K10 := Lib.hid (show Below W.heap.size W v10 from then' K9.out hb10)
  clear hb10 a0x9 a1x9 a2x9 a3x9 a4x9 a5x9 a6x9 a7x9 a8x9
  go_wp2
  go_ret
  exact ⟨rfl, HAL.out.trans (K10.out.mono HAL.out.size)⟩
end Go.Proofs.YtdenpefihplnoaaDoor.op

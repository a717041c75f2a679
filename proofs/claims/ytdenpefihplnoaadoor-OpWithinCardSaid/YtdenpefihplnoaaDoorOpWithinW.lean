/-
  The walk of OpWithin: what fits reads and sets registers that there are, and jumps within the code; it fits where there are more of both.
-/
import Derived.Test.YtdenpefihplnoaaDoorOpL
import Derived.IntWalk
namespace Go.Proofs.YtdenpefihplnoaaDoor.opWithin
open Go.RowKit
open Go.Proofs.YtdenpefihplnoaaDoor.words Go.Proofs.YtdenpefihplnoaaDoor.kindp Go.Proofs.YtdenpefihplnoaaDoor.opp Go.Proofs.YtdenpefihplnoaaDoor.op Go.Proofs.YtdenpefihplnoaaDoor.kind

set_option maxRecDepth 100000 in
set_option maxHeartbeats 8000000 in
theorem walk (i : In) (A : Option Addr) (c : Nat) (r d : Int) (w : World) (hc : i.ar.length ≤ c) (hr : Rd w A (IL i.ar)) (hz : i.ar.length ≤ 140737488351232) (hcl : i.cl.length ≤ 140737488351232) (hnm : i.nm.length ≤ 140737488351232) (hd : i.ds.length ≤ 140737488351232)
    (r0 : 0 ≤ r) (r1 : r ≤ 255) (d0 : 0 ≤ d) (d1 : d ≤ 255) (hs : Sh w) (hv : Vd w) (hm : Mx w) :
    Calls Tryd.prog 6 #[.agg (InV i A c), .int .u8 r, .int .u8 d] w fun e w' => e = .returned (.bool true) ∧ Below w.heap.size w w' := by
  obtain ⟨W, hW⟩ : ∃ W, W = w.alloc (.cells (InV i A c) 28) := ⟨_, rfl⟩
  have hal : Below w.heap.size w W := by rw [hW]; exact (Below.refl _ w).alloc (Nat.le_refl _) _
  have HAL := Lib.hid hal
  have hblk : W.heap[w.heap.size]? = some (.cells (InV i A c) 28 (0, 0)) := by rw [hW]; exact heap_alloc_new w _
  have HBK := Lib.hid hblk; have HLT := Lib.hid (blk_lt hblk)
  obtain ⟨g0, g1, g2, g3, g4, g5, g6, g7, g8⟩ := in_cells hblk
  have HSW := Lib.hid (hs.below hal); have HMW := Lib.hid (hm.below hal); have HVW := Lib.hid (hv.below hal); have HRW := Lib.hid (hr.below hal)
  have HLV := Lib.hid (fun w hs hm hv => live_any w hs hm hv)
  have HLG := Lib.hid (fun w => long_w i A c w (by omega) (by omega) (by omega) (by omega))
  dsimp only [InV] at hW HLG ⊢
  have HW := Lib.hid hW
  clear hal hblk hW
  cases hlg : longB i with
  | true =>
    rw [hlg] at HLG
    clear hlg hc hr hz hcl hnm hd hs hv hm
    go_enter Tryd.func6, Tryd.ntmps6
    go_wp2_with fail
    rw [← HW.out]
    refine (HLG.out _).mono ?_
    rintro e v1 ⟨rfl, k1⟩
    have K1 := Lib.hid k1
    clear k1
    go_wp2_with fail
    refine (HLV.out _ (HSW.out.below K1.out) (HMW.out.below K1.out) (HVW.out.below K1.out)).mono ?_
    rintro e v2 ⟨rfl, hb⟩
    have K2 := Lib.hid (then' K1.out hb)
    clear hb
    go_wp2
    go_ret
    exact ⟨rfl, HAL.out.trans (K2.out.mono HAL.out.size)⟩
  | false =>
  obtain ⟨l1, l2, l3, l4⟩ := long_not hlg
  rw [hlg] at HLG
  have HF := Lib.hid (fun w hs hr hm hv => fits_w i A c r d w hs hr hc (by omega) (by omega) (by omega) (by omega) hm hv)
  have HF1 := Lib.hid (fun w hs hr hm hv => fits_w i A c (r + 1) d w hs hr hc (by omega) (by omega) (by omega) (by omega) hm hv)
  have HF2 := Lib.hid (fun w hs hr hm hv => fits_w i A c r (d + 1) w hs hr hc (by omega) (by omega) (by omega) (by omega) hm hv)
  have HU := Lib.hid (fun w hs hr => uses_w i A c w hs hr hc (by omega))
  have HSE := Lib.hid (fun w hs hm hv => sets_w i A c w hs (by omega) hm hv)
  have HTG := Lib.hid (fun w hs => target_w i A c w hs)
  unfold FitP at HF HF1 HF2
  unfold UseP at HU
  dsimp only [InV] at HF HF1 HF2 HU HSE HTG
  by_cases hE : fitsE i r d = 0
  · obtain ⟨m1, m2⟩ := fits_more hE
    rw [hE] at HF
    rw [m1] at HF1
    rw [m2] at HF2
    have HUW := Lib.hid (fun z (hz : z ∈ usesL i) => uses_within hE hz)
    have hsw := sets_within hE
    have hjw := jumps_within hE
    have hul : (usesL i).length ≤ 300 := by
      have h1 := regs_len i
      have h2 : (usesL i).length ≤ (regsL i).length := useF_len i (regsL i)
      omega
    generalize usesL i = U at *
    generalize setsL i = S at *
    generalize targetL i = T at *
    obtain ⟨sa, so⟩ := S
    obtain ⟨tk, to⟩ := T
    dsimp only at hsw hjw HSE HTG
    obtain ⟨m, hmm⟩ : ∃ m, m = U.length := ⟨_, rfl⟩
    rw [← hmm] at HU hul
    have HMM := Lib.hid hmm
    have hmI : (m : Int) ≤ 300 := by omega
    clear hE m1 m2 hlg hmm l1 l2 l3 l4 hc hr hz hcl hnm hd hs hv hm
    go_enter Tryd.func6, Tryd.ntmps6
    go_wp2_with fail
    rw [← HW.out]
    refine (HLG.out _).mono ?_
    rintro e v1 ⟨rfl, k1⟩
    have K1 := Lib.hid k1
    obtain ⟨a0x1, a1x1, a2x1, a3x1, a4x1, a5x1, a6x1, a7x1, a8x1⟩ := in_cells ((k1.block _ HLT.out).trans HBK.out)
    clear k1 g0 g1 g2 g3 g4 g5 g6 g7 g8
    go_wp2_with fail
    refine (HF.out _ (HSW.out.below K1.out) (HRW.out.below K1.out) (HMW.out.below K1.out) (HVW.out.below K1.out)).mono ?_
    rintro e v2 ⟨rfl, hb⟩
    have K2 := Lib.hid (show Below W.heap.size W v2 from then' K1.out hb)
    obtain ⟨a0x2, a1x2, a2x2, a3x2, a4x2, a5x2, a6x2, a7x2, a8x2⟩ := in_cells ((K2.out.block _ HLT.out).trans HBK.out)
    clear hb a0x1 a1x1 a2x1 a3x1 a4x1 a5x1 a6x1 a7x1 a8x1
    go_wp2_with fail
    refine (HU.out _ (HSW.out.below K2.out) (HRW.out.below K2.out)).mono ?_
    rintro e v3 ⟨⟨A3, c3, rfl, hr3⟩, hb⟩
    have HR3 := Lib.hid hr3
    clear hr3
    have K3 := Lib.hid (show Below W.heap.size W v3 from then' K2.out hb)
    obtain ⟨a0x3, a1x3, a2x3, a3x3, a4x3, a5x3, a6x3, a7x3, a8x3⟩ := in_cells ((K3.out.block _ HLT.out).trans HBK.out)
    clear hb a0x2 a1x2 a2x2 a3x2 a4x2 a5x2 a6x2 a7x2 a8x2
    go_wp2
    go_loopw [8] (fun v wr => ∃ k : Nat, k ≤ m ∧ v = .int .i64 (k : Int) ∧ wr = v3) (fun v _ => m - (intOf v).toNat)
    case atStart => exact ⟨0, Nat.zero_le _, rfl, rfl⟩
    case round =>
      obtain ⟨k, hk, rfl, rfl⟩ := hrel
      by_cases hlt : k < m
      · obtain ⟨z, hzz⟩ : ∃ z, U[k]? = some z := ⟨U[k]'(by rw [← HMM.out]; exact hlt), List.getElem?_eq_getElem _⟩
        have hzw := HUW.out z (List.mem_of_getElem? hzz)
        obtain ⟨a, rfl, _, hcz⟩ := HR3.out.at_ (IL_at hzz)
        have z0 := hzw.1
        have z1 : ¬ z < 0 := by omega
        have z2 : ¬ r ≤ z := by omega
        have z3 : decide (r ≤ z) = false := decide_eq_false z2
        clear hzz hzw
        go_wp2
        go_roundw
        case rel => exact ⟨k + 1, by omega, by go_num, by first | rfl | trivial⟩
        case measure => simp [intOf]; omega
      · have hltI : ¬ (k : Int) < (m : Int) := by omega
        go_wp2_with fail
        refine (HSE.out _ (HSW.out.below K3.out) (HMW.out.below K3.out) (HVW.out.below K3.out)).mono ?_
        rintro e v4 ⟨rfl, hb⟩
        have K4 := Lib.hid (show Below W.heap.size W v4 from then' K3.out hb)
        obtain ⟨a0x4, a1x4, a2x4, a3x4, a4x4, a5x4, a6x4, a7x4, a8x4⟩ := in_cells ((K4.out.block _ HLT.out).trans HBK.out)
        clear hb a0x3 a1x3 a2x3 a3x3 a4x3 a5x3 a6x3 a7x3 a8x3
        go_wp2_with fail
        refine (HTG.out _ (HSW.out.below K4.out)).mono ?_
        rintro e v5 ⟨rfl, hb⟩
        have K5 := Lib.hid (show Below W.heap.size W v5 from then' K4.out hb)
        obtain ⟨a0x5, a1x5, a2x5, a3x5, a4x5, a5x5, a6x5, a7x5, a8x5⟩ := in_cells ((K5.out.block _ HLT.out).trans HBK.out)
        clear hb a0x4 a1x4 a2x4 a3x4 a4x4 a5x4 a6x4 a7x4 a8x4
        go_wp2_with fail
        refine (HLV.out _ (HSW.out.below K5.out) (HMW.out.below K5.out) (HVW.out.below K5.out)).mono ?_
        rintro e v6 ⟨rfl, hb⟩
        have K6 := Lib.hid (show Below W.heap.size W v6 from then' K5.out hb)
        obtain ⟨a0x6, a1x6, a2x6, a3x6, a4x6, a5x6, a6x6, a7x6, a8x6⟩ := in_cells ((K6.out.block _ HLT.out).trans HBK.out)
        clear hb a0x5 a1x5 a2x5 a3x5 a4x5 a5x5 a6x5 a7x5 a8x5
        have hr1w : IntKind.i64.wrap (r + 1) = r + 1 := IntWalk.i64_in _ (by omega)
        have hd1w : IntKind.i64.wrap (d + 1) = d + 1 := IntWalk.i64_in _ (by omega)
        cases so with
        | false =>
          cases to with
          | false =>
            go_wp2_with fail
            refine (HF1.out _ (HSW.out.below K6.out) (HRW.out.below K6.out) (HMW.out.below K6.out) (HVW.out.below K6.out)).mono ?_
            rintro e v7 ⟨rfl, hb⟩
            have K7 := Lib.hid (show Below W.heap.size W v7 from then' K6.out hb)
            obtain ⟨a0x7, a1x7, a2x7, a3x7, a4x7, a5x7, a6x7, a7x7, a8x7⟩ := in_cells ((K7.out.block _ HLT.out).trans HBK.out)
            clear hb a0x6 a1x6 a2x6 a3x6 a4x6 a5x6 a6x6 a7x6 a8x6
            go_wp2_with fail
            refine (HF2.out _ (HSW.out.below K7.out) (HRW.out.below K7.out) (HMW.out.below K7.out) (HVW.out.below K7.out)).mono ?_
            rintro e v8 ⟨rfl, hb⟩
            have K8 := Lib.hid (show Below W.heap.size W v8 from then' K7.out hb)
            clear hb
            go_wp2
            go_ret
            exact ⟨rfl, HAL.out.trans (K8.out.mono HAL.out.size)⟩
          | true =>
            have j1 := hjw rfl
            go_wp2_with fail
            refine (HF1.out _ (HSW.out.below K6.out) (HRW.out.below K6.out) (HMW.out.below K6.out) (HVW.out.below K6.out)).mono ?_
            rintro e v7 ⟨rfl, hb⟩
            have K7 := Lib.hid (show Below W.heap.size W v7 from then' K6.out hb)
            obtain ⟨a0x7, a1x7, a2x7, a3x7, a4x7, a5x7, a6x7, a7x7, a8x7⟩ := in_cells ((K7.out.block _ HLT.out).trans HBK.out)
            clear hb a0x6 a1x6 a2x6 a3x6 a4x6 a5x6 a6x6 a7x6 a8x6
            go_wp2_with fail
            refine (HF2.out _ (HSW.out.below K7.out) (HRW.out.below K7.out) (HMW.out.below K7.out) (HVW.out.below K7.out)).mono ?_
            rintro e v8 ⟨rfl, hb⟩
            have K8 := Lib.hid (show Below W.heap.size W v8 from then' K7.out hb)
            clear hb
            go_wp2
            go_ret
            exact ⟨rfl, HAL.out.trans (K8.out.mono HAL.out.size)⟩
        | true =>
          obtain ⟨s0, s1⟩ := hsw rfl
          cases to with
          | false =>
            go_wp2_with fail
            refine (HF1.out _ (HSW.out.below K6.out) (HRW.out.below K6.out) (HMW.out.below K6.out) (HVW.out.below K6.out)).mono ?_
            rintro e v7 ⟨rfl, hb⟩
            have K7 := Lib.hid (show Below W.heap.size W v7 from then' K6.out hb)
            obtain ⟨a0x7, a1x7, a2x7, a3x7, a4x7, a5x7, a6x7, a7x7, a8x7⟩ := in_cells ((K7.out.block _ HLT.out).trans HBK.out)
            clear hb a0x6 a1x6 a2x6 a3x6 a4x6 a5x6 a6x6 a7x6 a8x6
            go_wp2_with fail
            refine (HF2.out _ (HSW.out.below K7.out) (HRW.out.below K7.out) (HMW.out.below K7.out) (HVW.out.below K7.out)).mono ?_
            rintro e v8 ⟨rfl, hb⟩
            have K8 := Lib.hid (show Below W.heap.size W v8 from then' K7.out hb)
            clear hb
            go_wp2
            go_ret
            exact ⟨rfl, HAL.out.trans (K8.out.mono HAL.out.size)⟩
          | true =>
            have j1 := hjw rfl
            go_wp2_with fail
            refine (HF1.out _ (HSW.out.below K6.out) (HRW.out.below K6.out) (HMW.out.below K6.out) (HVW.out.below K6.out)).mono ?_
            rintro e v7 ⟨rfl, hb⟩
            have K7 := Lib.hid (show Below W.heap.size W v7 from then' K6.out hb)
            obtain ⟨a0x7, a1x7, a2x7, a3x7, a4x7, a5x7, a6x7, a7x7, a8x7⟩ := in_cells ((K7.out.block _ HLT.out).trans HBK.out)
            clear hb a0x6 a1x6 a2x6 a3x6 a4x6 a5x6 a6x6 a7x6 a8x6
            go_wp2_with fail
            refine (HF2.out _ (HSW.out.below K7.out) (HRW.out.below K7.out) (HMW.out.below K7.out) (HVW.out.below K7.out)).mono ?_
            rintro e v8 ⟨rfl, hb⟩
            have K8 := Lib.hid (show Below W.heap.size W v8 from then' K7.out hb)
            clear hb
            go_wp2
            go_ret
            exact ⟨rfl, HAL.out.trans (K8.out.mono HAL.out.size)⟩
  · have hne : (fitsE i r d != 0) = true := by simpa using hE
    generalize fitsE i r d = E at *
    clear hE hlg l1 l2 l3 l4 hc hr hz hcl hnm hd hs hv hm
    go_enter Tryd.func6, Tryd.ntmps6
    go_wp2_with fail
    rw [← HW.out]
    refine (HLG.out _).mono ?_
    rintro e v1 ⟨rfl, k1⟩
    have K1 := Lib.hid k1
    obtain ⟨a0x1, a1x1, a2x1, a3x1, a4x1, a5x1, a6x1, a7x1, a8x1⟩ := in_cells ((k1.block _ HLT.out).trans HBK.out)
    clear k1 g0 g1 g2 g3 g4 g5 g6 g7 g8
    go_wp2_with fail
    refine (HF.out _ (HSW.out.below K1.out) (HRW.out.below K1.out) (HMW.out.below K1.out) (HVW.out.below K1.out)).mono ?_
    rintro e v2 ⟨rfl, hb⟩
    have K2 := Lib.hid (show Below W.heap.size W v2 from then' K1.out hb)
    obtain ⟨a0x2, a1x2, a2x2, a3x2, a4x2, a5x2, a6x2, a7x2, a8x2⟩ := in_cells ((K2.out.block _ HLT.out).trans HBK.out)
    clear hb a0x1 a1x1 a2x1 a3x1 a4x1 a5x1 a6x1 a7x1 a8x1
    go_wp2_with fail
    refine (HLV.out _ (HSW.out.below K2.out) (HMW.out.below K2.out) (HVW.out.below K2.out)).mono ?_
    rintro e v3 ⟨rfl, hb⟩
    have K3 := Lib.hid (then' K2.out hb)
    clear hb
    go_wp2
    go_ret
    exact ⟨rfl, HAL.out.trans (K3.out.mono HAL.out.size)⟩
end Go.Proofs.YtdenpefihplnoaaDoor.opWithin

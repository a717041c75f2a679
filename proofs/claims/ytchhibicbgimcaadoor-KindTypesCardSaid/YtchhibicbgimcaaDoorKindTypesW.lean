/-
  The walk of KindTypes: which types can be, their texts, and what any text is, as the document's answers are.
-/
import Derived.Test.YtchhibicbgimcaaDoorLive6
import Derived.Test.YtchhibicbgimcaaDoorKindU
import Derived.Deep.RegionHeld3
namespace Go.Proofs.YtchhibicbgimcaaDoor.kindTypes
open Go.RowKit
open Go.Proofs.YtchhibicbgimcaaDoor.words Go.Proofs.YtchhibicbgimcaaDoor.kindp Go.Proofs.YtchhibicbgimcaaDoor.word Go.Proofs.YtchhibicbgimcaaDoor.rdr Go.Proofs.YtchhibicbgimcaaDoor.kind

set_option maxRecDepth 100000 in
set_option maxHeartbeats 4000000 in
theorem walk (k : Int) (c : Tx) (s : ByteArray) (w : World) (hc : c.length ≤ 140737488351232) (hs : s.size ≤ 140737488351232) (hm : Mx w) (hv : Vd w) :
    Calls Tryd.prog 3 #[.agg #[.int .i64 k, .string ⟨c.toArray⟩], .string s] w fun e w' => e = .returned (.bool true) ∧ Below w.heap.size w w' := by
  have hal : Below w.heap.size w (w.alloc (.cells #[.int .i64 k, .string ⟨c.toArray⟩] 24)) := (Below.refl _ _).alloc (Nat.le_refl _) _
  have HAL := Lib.hid hal
  have HNW := Lib.hid (heap_alloc_new w (.cells #[.int .i64 k, .string ⟨c.toArray⟩] 24))
  have HM := Lib.hid hm; have HV := Lib.hid hv
  have HLV := Lib.hid (fun w hm hv => live_any w hm hv)
  have hsI : (s.size : Int) ≤ 140737488351232 := by omega
  have hcI : (c.length : Int) ≤ 140737488351232 := by omega
  by_cases h2 : 2000 < s.size
  · have hI : (2000 : Int) < (s.size : Int) := by omega
    clear hc hs hm hv hal h2
    go_enter Tryd.func3, Tryd.ntmps3
    go_wp2_with fail
    refine (HLV.out _ (HM.out.below HAL.out) (HV.out.below HAL.out)).mono ?_
    rintro e w1 ⟨rfl, hb1⟩
    have HB := Lib.hid (HAL.out.trans (hb1.mono (by simp)))
    clear hb1
    go_wp2
    go_ret
    exact ⟨rfl, HB.out⟩
  have hI : ¬ (2000 : Int) < (s.size : Int) := by omega
  by_cases h3 : 2000 < c.length
  · have hI2 : (2000 : Int) < (c.length : Int) := by omega
    clear hc hs hm hv hal h2 h3
    go_enter Tryd.func3, Tryd.ntmps3
    go_wp2_with fail
    refine (HLV.out _ (HM.out.below HAL.out) (HV.out.below HAL.out)).mono ?_
    rintro e w1 ⟨rfl, hb1⟩
    have HB := Lib.hid (HAL.out.trans (hb1.mono (by simp)))
    clear hb1
    go_wp2
    go_ret
    exact ⟨rfl, HB.out⟩
  have hI2 : ¬ (2000 : Int) < (c.length : Int) := by omega
  have hP1 := (fun w hm => parse_w s.data.toList w (by rw [size_data]; omega) hm)
  have hP2 := (fun w => parse_r s w (by omega))
  rw [data_mk] at hP1
  unfold parseV twoV tyV at hP1 hP2
  obtain ⟨⟨⟨kp, cp⟩, ep⟩, hpx⟩ : ∃ x, x = parseT s.data.toList := ⟨_, rfl⟩
  rw [← hpx] at hP1 hP2
  dsimp only at hP1 hP2
  have hE1 := (fun w => elem_w k c w)
  have hE2 := (fun w => elem_r k c w)
  unfold tyV at hE1 hE2
  obtain ⟨⟨k4, c4⟩, h4⟩ : ∃ x, x = elemT (k, c) := ⟨_, rfl⟩
  rw [← h4] at hE1 hE2
  dsimp only at hE1 hE2
  have hR1 := (fun w => right_w k c w (by omega))
  have hR2 := (fun w => right_r k c w (by omega))
  have hT1 := (fun w => text_w k c w (by omega))
  have hT2 := (fun w => text_rr k c w (by omega))
  have hI1 := (fun w => isref_w k c w)
  have hI22 := (fun w => isref_r k c w)
  generalize rightT (k, c) = br at *
  generalize textT (k, c) = T at *
  generalize (hasB k || (k == 4)) = bi at *
  have e1 : (br == br) = true := by simp
  have e2 : (bi == bi) = true := by simp
  have e3 : (T == T) = true := by simp
  have e4 : (k4 == k4) = true := by simp
  have e5 : (c4 == c4) = true := by simp
  have e6 : (kp == kp) = true := by simp
  have e7 : (cp == cp) = true := by simp
  have e8 : ((ep : Int) == (ep : Int)) = true := by simp
  have HP1 := Lib.hid hP1; have HP2 := Lib.hid hP2; have HE1 := Lib.hid hE1; have HE2 := Lib.hid hE2; have HR1 := Lib.hid hR1; have HR2 := Lib.hid hR2; have HT1 := Lib.hid hT1; have HT2 := Lib.hid hT2; have HI1 := Lib.hid hI1; have HI2 := Lib.hid hI22
  clear hP1 hP2 hE1 hE2 hR1 hR2 hT1 hT2 hI1 hI22 h4 hpx hc hs hm hv hal h2 h3
  go_enter Tryd.func3, Tryd.ntmps3
  go_wp2_with fail
  refine (HP1.out _ (HM.out.below HAL.out)).mono ?_
  rintro e w1 ⟨rfl, hb1⟩
  have HT_1 := Lib.hid ((hb1.block _ (by simp)).trans HNW.out)
  have HB1 := Lib.hid ((HAL.out.trans (hb1.mono (by simp))).alloc (Nat.le_trans (by simp) hb1.size) (.cells #[.int .i64 kp, .string ⟨cp.toArray⟩] 24))
  have hal1 : Below w1.heap.size w1 (w1.alloc (.cells #[.int .i64 kp, .string ⟨cp.toArray⟩] 24)) := (Below.refl _ _).alloc (Nat.le_refl _) _
  have HT_2 := Lib.hid ((hal1.block _ (blk_lt HT_1.out)).trans HT_1.out)
  have HX_2 := Lib.hid (heap_alloc_new w1 (.cells #[.int .i64 kp, .string ⟨cp.toArray⟩] 24))
  have HL2 := Lib.hid (blk_lt HT_1.out)
  clear hb1 hal1
  go_wp2_with fail
  refine (HP2.out _).mono ?_
  rintro e w2 ⟨rfl, hb2⟩
  have hal2 : Below w2.heap.size w2 (w2.alloc (.cells #[.int .i64 kp, .string ⟨cp.toArray⟩] 24)) := (Below.refl _ _).alloc (Nat.le_refl _) _
  have hT3 := (hal2.block _ (blk_lt ((hb2.block _ (blk_lt HT_2.out)).trans HT_2.out))).trans ((hb2.block _ (blk_lt HT_2.out)).trans HT_2.out)
  have hX3 := (hal2.block _ (blk_lt ((hb2.block _ (blk_lt HX_2.out)).trans HX_2.out))).trans ((hb2.block _ (blk_lt HX_2.out)).trans HX_2.out)
  have hY3 := heap_alloc_new w2 (.cells #[.int .i64 kp, .string ⟨cp.toArray⟩] 24)
  have hb12 := HB1.out.trans (hb2.mono HB1.out.size)
  have HB3 := Lib.hid (hb12.trans (hal2.mono hb12.size))
  have HMW := Lib.hid (HM.out.below HB3.out); have HVW := Lib.hid (HV.out.below HB3.out)
  clear hb2 hal2 hb12
  go_wp2_with fail
  generalize w2.alloc (.cells #[.int .i64 kp, .string ⟨cp.toArray⟩] 24) = W at *
  generalize w2.heap.size = Y at *
  generalize w1.heap.size = X at *
  have a0 : W.cell? ⟨w.heap.size, 0, none⟩ = some (.int .i64 k) := cell_of_row _ _ _ _ _ _ hT3
  have a1 : W.cell? ⟨w.heap.size, 1, none⟩ = some (.string ⟨c.toArray⟩) := cell_of_row _ _ _ _ _ _ hT3
  have b0 : W.cell? ⟨X, 0, none⟩ = some (.int .i64 kp) := cell_of_row _ _ _ _ _ _ hX3
  have b1 : W.cell? ⟨X, 1, none⟩ = some (.string ⟨cp.toArray⟩) := cell_of_row _ _ _ _ _ _ hX3
  have c0 : W.cell? ⟨Y, 0, none⟩ = some (.int .i64 kp) := cell_of_row _ _ _ _ _ _ hY3
  have c1 : W.cell? ⟨Y, 1, none⟩ = some (.string ⟨cp.toArray⟩) := cell_of_row _ _ _ _ _ _ hY3
  have A0H := Lib.hid a0; have A1H := Lib.hid a1; have B0H := Lib.hid b0; have B1H := Lib.hid b1; have C0H := Lib.hid c0; have C1H := Lib.hid c1
  have hlT := blk_lt hT3; have hlX := blk_lt hX3; have hlY := blk_lt hY3
  clear hT3 hX3 hY3 HT_1 HT_2 HX_2 HL2 HNW
  go_region_held3 (fun w' => w'.cell? ⟨w.heap.size, 0, none⟩ = some (.int .i64 k) ∧ w'.cell? ⟨w.heap.size, 1, none⟩ = some (.string ⟨c.toArray⟩) ∧ w'.cell? ⟨X, 0, none⟩ = some (.int .i64 kp) ∧ w'.cell? ⟨X, 1, none⟩ = some (.string ⟨cp.toArray⟩) ∧ w'.cell? ⟨Y, 0, none⟩ = some (.int .i64 kp) ∧ w'.cell? ⟨Y, 1, none⟩ = some (.string ⟨cp.toArray⟩)) (go_keep)
    (first
      | (go_at_call 8; refine (HLV.out _ ?_ ?_).mono ?_; exact HMW.out; exact HVW.out; rintro e v1 ⟨rfl, hb1⟩; have k1 := under hb1; have a0x1 := (k1.cell (p := ⟨w.heap.size, 0, none⟩) hlT).trans (Hid.out A0H); have a1x1 := (k1.cell (p := ⟨w.heap.size, 1, none⟩) hlT).trans (Hid.out A1H); have b0x1 := (k1.cell (p := ⟨X, 0, none⟩) hlX).trans (Hid.out B0H); have b1x1 := (k1.cell (p := ⟨X, 1, none⟩) hlX).trans (Hid.out B1H); have c0x1 := (k1.cell (p := ⟨Y, 0, none⟩) hlY).trans (Hid.out C0H); have c1x1 := (k1.cell (p := ⟨Y, 1, none⟩) hlY).trans (Hid.out C1H); have K1 := Lib.hid k1; clear k1 hb1)
      | (go_at_call 11; refine (HR1.out _).mono ?_; rintro e v2 ⟨rfl, hb2⟩; have k2 : Below W.heap.size W v2 := (by first | exact then' K1.out hb2 | exact then' K1.out (under hb2)); have a0x2 := (k2.cell (p := ⟨w.heap.size, 0, none⟩) hlT).trans (Hid.out A0H); have a1x2 := (k2.cell (p := ⟨w.heap.size, 1, none⟩) hlT).trans (Hid.out A1H); have b0x2 := (k2.cell (p := ⟨X, 0, none⟩) hlX).trans (Hid.out B0H); have b1x2 := (k2.cell (p := ⟨X, 1, none⟩) hlX).trans (Hid.out B1H); have c0x2 := (k2.cell (p := ⟨Y, 0, none⟩) hlY).trans (Hid.out C0H); have c1x2 := (k2.cell (p := ⟨Y, 1, none⟩) hlY).trans (Hid.out C1H); have K2 := Lib.hid k2; clear k2 hb2 a0x1 a1x1 b0x1 b1x1 c0x1 c1x1)
      | (go_at_call 12; refine (HR2.out _).mono ?_; rintro e v3 ⟨rfl, hb3⟩; have k3 : Below W.heap.size W v3 := (by first | exact then' K2.out hb3 | exact then' K2.out (under hb3)); have a0x3 := (k3.cell (p := ⟨w.heap.size, 0, none⟩) hlT).trans (Hid.out A0H); have a1x3 := (k3.cell (p := ⟨w.heap.size, 1, none⟩) hlT).trans (Hid.out A1H); have b0x3 := (k3.cell (p := ⟨X, 0, none⟩) hlX).trans (Hid.out B0H); have b1x3 := (k3.cell (p := ⟨X, 1, none⟩) hlX).trans (Hid.out B1H); have c0x3 := (k3.cell (p := ⟨Y, 0, none⟩) hlY).trans (Hid.out C0H); have c1x3 := (k3.cell (p := ⟨Y, 1, none⟩) hlY).trans (Hid.out C1H); have K3 := Lib.hid k3; clear k3 hb3 a0x2 a1x2 b0x2 b1x2 c0x2 c1x2)
      | (go_at_call 13; refine (HI1.out _).mono ?_; rintro e v4 ⟨rfl, hb4⟩; have k4 : Below W.heap.size W v4 := (by first | exact then' K3.out hb4 | exact then' K3.out (under hb4)); have a0x4 := (k4.cell (p := ⟨w.heap.size, 0, none⟩) hlT).trans (Hid.out A0H); have a1x4 := (k4.cell (p := ⟨w.heap.size, 1, none⟩) hlT).trans (Hid.out A1H); have b0x4 := (k4.cell (p := ⟨X, 0, none⟩) hlX).trans (Hid.out B0H); have b1x4 := (k4.cell (p := ⟨X, 1, none⟩) hlX).trans (Hid.out B1H); have c0x4 := (k4.cell (p := ⟨Y, 0, none⟩) hlY).trans (Hid.out C0H); have c1x4 := (k4.cell (p := ⟨Y, 1, none⟩) hlY).trans (Hid.out C1H); have K4 := Lib.hid k4; clear k4 hb4 a0x3 a1x3 b0x3 b1x3 c0x3 c1x3)
      | (go_at_call 14; refine (HI2.out _).mono ?_; rintro e v5 ⟨rfl, hb5⟩; have k5 : Below W.heap.size W v5 := (by first | exact then' K4.out hb5 | exact then' K4.out (under hb5)); have a0x5 := (k5.cell (p := ⟨w.heap.size, 0, none⟩) hlT).trans (Hid.out A0H); have a1x5 := (k5.cell (p := ⟨w.heap.size, 1, none⟩) hlT).trans (Hid.out A1H); have b0x5 := (k5.cell (p := ⟨X, 0, none⟩) hlX).trans (Hid.out B0H); have b1x5 := (k5.cell (p := ⟨X, 1, none⟩) hlX).trans (Hid.out B1H); have c0x5 := (k5.cell (p := ⟨Y, 0, none⟩) hlY).trans (Hid.out C0H); have c1x5 := (k5.cell (p := ⟨Y, 1, none⟩) hlY).trans (Hid.out C1H); have K5 := Lib.hid k5; clear k5 hb5 a0x4 a1x4 b0x4 b1x4 c0x4 c1x4)
      | (go_at_call 15; refine (HE1.out _).mono ?_; rintro e v6 ⟨rfl, hb6⟩; have k6 : Below W.heap.size W v6 := (by first | exact then' K5.out hb6 | exact then' K5.out (under hb6)); have a0x6 := (k6.cell (p := ⟨w.heap.size, 0, none⟩) hlT).trans (Hid.out A0H); have a1x6 := (k6.cell (p := ⟨w.heap.size, 1, none⟩) hlT).trans (Hid.out A1H); have b0x6 := (k6.cell (p := ⟨X, 0, none⟩) hlX).trans (Hid.out B0H); have b1x6 := (k6.cell (p := ⟨X, 1, none⟩) hlX).trans (Hid.out B1H); have c0x6 := (k6.cell (p := ⟨Y, 0, none⟩) hlY).trans (Hid.out C0H); have c1x6 := (k6.cell (p := ⟨Y, 1, none⟩) hlY).trans (Hid.out C1H); have K6 := Lib.hid k6; clear k6 hb6 a0x5 a1x5 b0x5 b1x5 c0x5 c1x5)
      | (go_at_call 16; refine (HE2.out _).mono ?_; rintro e v7 ⟨rfl, hb7⟩; have k7 : Below W.heap.size W v7 := (by first | exact then' K6.out hb7 | exact then' K6.out (under hb7)); have a0x7 := (k7.cell (p := ⟨w.heap.size, 0, none⟩) hlT).trans (Hid.out A0H); have a1x7 := (k7.cell (p := ⟨w.heap.size, 1, none⟩) hlT).trans (Hid.out A1H); have b0x7 := (k7.cell (p := ⟨X, 0, none⟩) hlX).trans (Hid.out B0H); have b1x7 := (k7.cell (p := ⟨X, 1, none⟩) hlX).trans (Hid.out B1H); have c0x7 := (k7.cell (p := ⟨Y, 0, none⟩) hlY).trans (Hid.out C0H); have c1x7 := (k7.cell (p := ⟨Y, 1, none⟩) hlY).trans (Hid.out C1H); have K7 := Lib.hid k7; clear k7 hb7 a0x6 a1x6 b0x6 b1x6 c0x6 c1x6)
      | (go_at_call 17; refine (HT1.out _).mono ?_; rintro e v8 ⟨rfl, hb8⟩; have k8 : Below W.heap.size W v8 := (by first | exact then' K7.out hb8 | exact then' K7.out (under hb8)); have a0x8 := (k8.cell (p := ⟨w.heap.size, 0, none⟩) hlT).trans (Hid.out A0H); have a1x8 := (k8.cell (p := ⟨w.heap.size, 1, none⟩) hlT).trans (Hid.out A1H); have b0x8 := (k8.cell (p := ⟨X, 0, none⟩) hlX).trans (Hid.out B0H); have b1x8 := (k8.cell (p := ⟨X, 1, none⟩) hlX).trans (Hid.out B1H); have c0x8 := (k8.cell (p := ⟨Y, 0, none⟩) hlY).trans (Hid.out C0H); have c1x8 := (k8.cell (p := ⟨Y, 1, none⟩) hlY).trans (Hid.out C1H); have K8 := Lib.hid k8; clear k8 hb8 a0x7 a1x7 b0x7 b1x7 c0x7 c1x7)
      | (go_at_call 18; refine (HT2.out _).mono ?_; rintro e v9 ⟨rfl, hb9⟩; have k9 : Below W.heap.size W v9 := (by first | exact then' K8.out hb9 | exact then' K8.out (under hb9)); have a0x9 := (k9.cell (p := ⟨w.heap.size, 0, none⟩) hlT).trans (Hid.out A0H); have a1x9 := (k9.cell (p := ⟨w.heap.size, 1, none⟩) hlT).trans (Hid.out A1H); have b0x9 := (k9.cell (p := ⟨X, 0, none⟩) hlX).trans (Hid.out B0H); have b1x9 := (k9.cell (p := ⟨X, 1, none⟩) hlX).trans (Hid.out B1H); have c0x9 := (k9.cell (p := ⟨Y, 0, none⟩) hlY).trans (Hid.out C0H); have c1x9 := (k9.cell (p := ⟨Y, 1, none⟩) hlY).trans (Hid.out C1H); have K9 := Lib.hid k9; clear k9 hb9 a0x8 a1x8 b0x8 b1x8 c0x8 c1x8)
    )
  have HB9 := K9
  clear a0x9 a1x9 b0x9 b1x9 c0x9 c1x9
  go_wp2
  go_ret
  exact ⟨rfl, HB3.out.trans (HB9.out.mono HB3.out.size)⟩
end Go.Proofs.YtchhibicbgimcaaDoor.kindTypes

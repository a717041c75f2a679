/-
  The walk of KindDescs: descriptors of any types, what any text is as one, and its classes, as the document's answers are.
-/
import Derived.Test.YtchhibicbgimcaaDoorLive6
import Derived.Test.YtchhibicbgimcaaDoorRefC
import Derived.Test.YtchhibicbgimcaaDoorTexts
import Derived.Deep.RegionHeld3
namespace Go.Proofs.YtchhibicbgimcaaDoor.kindDescs
open Go.RowKit
open Go.Proofs.YtchhibicbgimcaaDoor.words Go.Proofs.YtchhibicbgimcaaDoor.kindp Go.Proofs.YtchhibicbgimcaaDoor.word Go.Proofs.YtchhibicbgimcaaDoor.rdr Go.Proofs.YtchhibicbgimcaaDoor.kind

theorem sx_S (l : List Tx) : SX l = texts.S (l.map fun x => ⟨x.toArray⟩) := by unfold SX texts.S; rw [List.map_map]; rfl
theorem texts_any (l : List Tx) (hl : l.length ≤ 281474976710656) (A C : Option Addr) (c d : Nat) (w : World) (h1 : Rd w A (SX l)) (h2 : Rd w C (SX l)) :
    Calls Tryd.prog 24 #[.slice A l.length c, .slice C l.length d] w fun e w' => e = .returned (.bool true) ∧ Below w.heap.size w w' :=
  (texts.texts_same A C l.length c d (l.map fun x => ⟨x.toArray⟩) w (sx_S l ▸ h1) (sx_S l ▸ h2) (by rw [List.length_map]) hl).mono fun e w' ⟨he, q, hq⟩ => ⟨he, by rw [hq]; exact over (Below.refl _ _)⟩
theorem types_any (A C : Option Addr) (c d : Nat) (l : List Ty) (hl : l.length ≤ 281474976710656) (w : World) (h1 : Rd w A (TL l)) (h2 : Rd w C (TL l)) :
    Calls Tryd.prog 21 #[.slice A l.length c, .slice C l.length d] w fun e w' => e = .returned (.bool true) ∧ Below w.heap.size w w' :=
  (types_same A C c d l w h1 h2 hl).mono fun e w' ⟨he, q, hq⟩ => ⟨he, by rw [hq]; exact over (Below.refl _ _)⟩
theorem cls_small (s : Tx) : (classesT s).length ≤ 9 := by
  have h := cls_len ((splitT s).1 ++ [(splitT s).2.1])
  have h8 := split_len s
  have e : classesT s = clsL ((splitT s).1 ++ [(splitT s).2.1]) := rfl
  rw [List.length_append] at h
  rw [e]; simp at h ⊢; omega

theorem sizeT (w : World) : (sizeOf 24).run Tryd.prog w = .ok 2 w := by kernel_rfl
set_option maxRecDepth 100000 in
theorem cut_one (a : Addr) (m m1 cp : Nat) (hm : m = m1 + 1) : ∃ A', (∀ w xs, Rd w (some a) xs → xs.length ≤ cp * 2 → Rd w A' (xs.drop 2)) ∧
    ∀ w : World, (Instr.sliceAt 33 (.slice (some a) m cp) (some (.int .i64 1)) none none).run Tryd.prog w = .ok (.slice A' m1 (cp - 1)) w := by
  refine ⟨if cp = 1 then some a else (some a).map (·.add (1 * 2)), fun w xs h hx => ?_, fun w => ?_⟩
  · split
    · rename_i h1
      rw [List.drop_of_length_le (by omega)]; exact .inl rfl
    · exact h.drop 2
  · rw [run_sliceAt_slice w _ _ _ _ _ Tryd.underlying33, run_slice_l w _ (some a) m cp Tryd.underlying33 .i64 (1 : Int) (by omega) (by omega)]
    have h := sizeT w
    have he : Tryd.prog.elem 33 = 24 := by kernel_rfl
    rw [he, h]
    simp only [Result.andThen_ok, sliced]
    rw [show (1 : Int).toNat = 1 from rfl, show m - 1 = m1 by omega]

set_option maxRecDepth 100000 in
set_option maxHeartbeats 4000000 in
theorem walk (A : Option Addr) (cp : Nat) (l : List Ty) (s : ByteArray) (w : World) (hr : Rd w A (TL l)) (hcp : l.length ≤ cp) (hl : l.length * 24 ≤ 140737488351232) (hz : ∀ x ∈ l, x.2.length ≤ 140737488351232) (hs : s.size ≤ 140737488351232) (hm : Mx w) (hv : Vd w) :
    Calls Tryd.prog 5 #[.slice A l.length cp, .string s] w fun e w' => e = .returned (.bool true) ∧ Below w.heap.size w w' := by
  have HM := Lib.hid hm; have HV := Lib.hid hv; have HR := Lib.hid hr
  have HLV := Lib.hid (fun w hm hv => live_any w hm hv)
  have hsI : (s.size : Int) ≤ 140737488351232 := by omega
  by_cases h0 : l = []
  · subst h0
    clear hs hm hv hr hz hl hcp
    go_enter Tryd.func5, Tryd.ntmps5
    go_wp2_with fail
    refine (HLV.out _ HM.out HV.out).mono ?_
    rintro e w1 ⟨rfl, hb1⟩
    have HB := Lib.hid hb1
    clear hb1
    go_wp2
    go_ret
    exact ⟨rfl, HB.out⟩
  have hlp : 0 < l.length := by
    cases l with
    | nil => exact absurd rfl h0
    | cons a b => simp
  have h0I : ((l.length : Int) == 0) = false := by rw [beq_eq_false_iff_ne]; omega
  have hpI : (0 : Int) < (l.length : Int) := by omega
  have hlI : (l.length : Int) ≤ 281474976710656 := by omega
  by_cases h2 : 40 < l.length
  · have hI : (40 : Int) < (l.length : Int) := by omega
    obtain ⟨n, hn⟩ : ∃ n, n = l.length := ⟨_, rfl⟩
    rw [← hn] at h0I hpI hlI hI ⊢
    clear hs hm hv hr hz hl h2 h0 hcp hn hlp
    go_enter Tryd.func5, Tryd.ntmps5
    go_wp2_with fail
    refine (HLV.out _ HM.out HV.out).mono ?_
    rintro e w1 ⟨rfl, hb1⟩
    have HB := Lib.hid hb1
    clear hb1
    go_wp2
    go_ret
    exact ⟨rfl, HB.out⟩
  have hI : ¬ (40 : Int) < (l.length : Int) := by omega
  by_cases h3 : 2000 < s.size
  · have hI2 : (2000 : Int) < (s.size : Int) := by omega
    obtain ⟨n, hn⟩ : ∃ n, n = l.length := ⟨_, rfl⟩
    rw [← hn] at h0I hpI hlI hI ⊢
    clear hs hm hv hr hz hl h2 h3 h0 hcp hn hlp
    go_enter Tryd.func5, Tryd.ntmps5
    go_wp2_with fail
    refine (HLV.out _ HM.out HV.out).mono ?_
    rintro e w1 ⟨rfl, hb1⟩
    have HB := Lib.hid hb1
    clear hb1
    go_wp2
    go_ret
    exact ⟨rfl, HB.out⟩
  have hI2 : ¬ (2000 : Int) < (s.size : Int) := by omega
  obtain ⟨⟨k, c⟩, p, rfl⟩ : ∃ x p, l = x :: p := by
    cases l with
    | nil => exact absurd rfl h0
    | cons a b => exact ⟨a, b, rfl⟩
  obtain ⟨a, rfl, ha, t0, t1⟩ := tl_cell hr (i := 0) (t := (k, c)) rfl
  dsimp only at t0 t1
  rw [Nat.zero_mul, show a.add 0 = a from rfl] at t0 t1
  have hkc : c.length ≤ 281474976710656 := by have := hz (k, c) (by simp); dsimp only at this; omega
  obtain ⟨A', hcd, hcut⟩ := cut_one a (((k, c) : Ty) :: p).length p.length cp rfl
  have hrp : Rd w A' (TL p) := hcd w _ hr (by rw [TL_len]; omega)
  have hD1 := (fun A cc w hr hv => desc_w k c A cc p w hkc hr (by simp at hl; omega) (fun t ht => by have := hz t (by simp [ht]); omega) hv)
  have hD2 := (fun A cc w hr => desc_r k c A cc p w hkc hr (by simp at hl; omega) (fun t ht => by have := hz t (by simp [ht]); omega))
  unfold DescW at hD1 hD2
  obtain ⟨⟨T, er⟩, hTe⟩ : ∃ y, y = descT (k, c) p := ⟨_, rfl⟩
  rw [← hTe] at hD1 hD2
  dsimp only at hD1 hD2
  have hS1 := (fun w hm hv => split_k s.data.toList w (by rw [size_data]; omega) hm hv)
  have hS2 := (fun w => split_r s w (by omega))
  have hC1 := (fun w hm hv => classes_w s.data.toList w (by rw [size_data]; omega) hm hv)
  have hC2 := (fun w => classes_r s w (by omega))
  have hSX := texts_any (classesT s.data.toList) (by have := cls_small s.data.toList; omega)
  rw [data_mk] at hS1 hC1
  have h8 := split_len s.data.toList
  unfold SplitW at hS1 hS2
  unfold ClsW at hC1 hC2
  generalize classesT s.data.toList = CL at *
  obtain ⟨⟨q, ⟨kr, cr⟩, es⟩, hxs⟩ : ∃ x, x = splitT s.data.toList := ⟨_, rfl⟩
  rw [← hxs] at hS1 hS2 h8
  dsimp only at hS1 hS2 h8
  obtain ⟨m, hm0⟩ : ∃ m, m = (((k, c) : Ty) :: p).length := ⟨_, rfl⟩
  obtain ⟨m1, hm1⟩ : ∃ m1, m1 = p.length := ⟨_, rfl⟩
  have hmm : m = m1 + 1 := by rw [hm0, hm1]; rfl
  rw [← hm0] at h0I hpI hlI hI hcp h2 hl ⊢
  rw [← hm1] at hD1 hD2 hcut
  rw [← hm0] at hcut
  obtain ⟨c1, hc1⟩ : ∃ c1, c1 = cp - 1 := ⟨_, rfl⟩
  rw [← hc1] at hcut
  have hm40 : m ≤ 40 := by omega
  have hST := (fun A C c d w h1 h2 => types_any A C c d q (by omega) w h1 h2)
  obtain ⟨n, hn⟩ : ∃ n, n = q.length := ⟨_, rfl⟩
  rw [← hn] at hS1 hS2 hST h8
  have e3 : (T == T) = true := by simp
  have e4 : (kr == kr) = true := by simp
  have e5 : (cr == cr) = true := by simp
  have e6 : ((er : Int) == (er : Int)) = true := by simp
  have e7 : ((es : Int) == (es : Int)) = true := by simp
  have HD1 := Lib.hid hD1; have HD2 := Lib.hid hD2; have HS1 := Lib.hid hS1; have HS2 := Lib.hid hS2; have HC1 := Lib.hid hC1; have HC2 := Lib.hid hC2; have HSX := Lib.hid hSX; have HST := Lib.hid hST; have HRP0 := Lib.hid hrp
  have HT0 := Lib.hid t0; have HT1 := Lib.hid t1
  have hmI : (m : Int) ≤ 40 := by omega
  have hpN : 0 < m := by omega
  have hpN2 : ¬ m = 0 := by omega
  clear hD1 hD2 hS1 hS2 hC1 hC2 hSX hST hrp hs hm hv hr hz hl h2 h3 h0 hTe hxs hkc hm0 hm1 hn hlp hcp hcd hc1 hmm hm40
  go_enter Tryd.func5, Tryd.ntmps5
  go_wp2_with fail
  go_region_held3 (fun w' => w'.cell? a = some (.int .i64 k) ∧ w'.cell? ⟨a.block, a.off + 1, none⟩ = some (.string ⟨c.toArray⟩)) (go_keep)
    (first
      | (go_at_call 19; refine (HD1.out _ _ _ ?_ ?_).mono ?_; exact HRP0.out; exact HV.out; rintro e v1 ⟨rfl, hb1⟩; have k1 : Below w.heap.size w v1 := under hb1; have a0x1 := (k1.cell (World.block_lt_of_cell? _ _ HT0.out)).trans HT0.out; have a1x1 := (k1.cell (World.block_lt_of_cell? _ _ HT1.out)).trans HT1.out; have K1 := Lib.hid k1; clear k1 hb1)
    )
  go_wp2_with fail
  go_region_held3 (fun w' => w'.cell? a = some (.int .i64 k) ∧ w'.cell? ⟨a.block, a.off + 1, none⟩ = some (.string ⟨c.toArray⟩)) (go_keep)
    (first
      | (go_at_call 22; refine (HD2.out _ _ _ ?_).mono ?_; exact (show Rd v1 A' (TL p) from HRP0.out.below K1.out); rintro e v2 ⟨rfl, hb2⟩; have k2 : Below w.heap.size w v2 := (by first | exact then' K1.out hb2 | exact then' K1.out (under hb2)); have a0x2 := (k2.cell (World.block_lt_of_cell? _ _ HT0.out)).trans HT0.out; have a1x2 := (k2.cell (World.block_lt_of_cell? _ _ HT1.out)).trans HT1.out; have K2 := Lib.hid k2; clear k2 hb2 a0x1 a1x1)
    )
  clear a0x2 a1x2 t0 t1 ha
  go_wp2_with fail
  refine (HS1.out _ (HM.out.below K2.out) (HV.out.below K2.out)).mono ?_
  rintro e w3 ⟨⟨P, pc, rfl, hown3⟩, hb3⟩
  obtain ⟨_, _, e1, _, _, hrd3⟩ := own_rd hown3
  cases e1
  have HRP3 := Lib.hid hrd3
  have HB3 := Lib.hid (K2.out.trans (hb3.mono K2.out.size))
  have hal3 : Below w3.heap.size w3 (w3.alloc (.cells #[.int .i64 kr, .string ⟨cr.toArray⟩] 24)) := (Below.refl _ _).alloc (Nat.le_refl _) _
  have HX3 := Lib.hid (heap_alloc_new w3 (.cells #[.int .i64 kr, .string ⟨cr.toArray⟩] 24))
  have HAL3 := Lib.hid hal3
  clear hown3 hrd3 hb3 hal3
  go_wp2_with fail
  refine (HS2.out _).mono ?_
  rintro e w4 ⟨⟨Q, qc, rfl, hown4⟩, hb4⟩
  obtain ⟨_, _, e1, _, _, hrd4⟩ := own_rd hown4
  cases e1
  have HRQ4 := Lib.hid hrd4
  have HB4 := Lib.hid (HAL3.out.trans (hb4.mono HAL3.out.size))
  have HX4 := Lib.hid ((hb4.block w3.heap.size (by simp)).trans HX3.out)
  clear hown4 hrd4 hb4
  go_wp2_with fail
  have hal4 := (Below.refl w4.heap.size w4).alloc (Nat.le_refl _) (.cells #[.int .i64 kr, .string ⟨cr.toArray⟩] 24)
  have hX := (hal4.block _ (blk_lt HX4.out)).trans HX4.out
  have hY := heap_alloc_new w4 (.cells #[.int .i64 kr, .string ⟨cr.toArray⟩] 24)
  have HRQ := Lib.hid (HRQ4.out.below hal4)
  have HB5 := Lib.hid (HB4.out.trans (hal4.mono HB4.out.size))
  have HRP := Lib.hid ((HRP3.out.below HB5.out))
  have HBW := Lib.hid (HB3.out.trans (HB5.out.mono HB3.out.size))
  have HMW := Lib.hid (HM.out.below HBW.out); have HVW := Lib.hid (HV.out.below HBW.out)
  clear hal4
  generalize w4.alloc (.cells #[.int .i64 kr, .string ⟨cr.toArray⟩] 24) = W at *
  generalize w4.heap.size = Y at *
  generalize w3.heap.size = X at *
  have a0 : W.cell? ⟨X, 0, none⟩ = some (.int .i64 kr) := cell_of_row _ _ _ _ _ _ hX
  have a1 : W.cell? ⟨X, 1, none⟩ = some (.string ⟨cr.toArray⟩) := cell_of_row _ _ _ _ _ _ hX
  have b0 : W.cell? ⟨Y, 0, none⟩ = some (.int .i64 kr) := cell_of_row _ _ _ _ _ _ hY
  have b1 : W.cell? ⟨Y, 1, none⟩ = some (.string ⟨cr.toArray⟩) := cell_of_row _ _ _ _ _ _ hY
  have A0H := Lib.hid a0; have A1H := Lib.hid a1; have B0H := Lib.hid b0; have B1H := Lib.hid b1
  have hlX := blk_lt hX; have hlY := blk_lt hY
  clear hX hY
  refine (HLV.out _ HMW.out HVW.out).mono ?_
  rintro e v1 ⟨rfl, hb1⟩
  have hb1' : Below W.heap.size W v1 := hb1
  have a0x1 := (hb1'.cell (p := ⟨X, 0, none⟩) hlX).trans A0H.out; have a1x1 := (hb1'.cell (p := ⟨X, 1, none⟩) hlX).trans A1H.out; have b0x1 := (hb1'.cell (p := ⟨Y, 0, none⟩) hlY).trans B0H.out; have b1x1 := (hb1'.cell (p := ⟨Y, 1, none⟩) hlY).trans B1H.out
  have K1 := Lib.hid hb1'
  clear hb1 hb1' a0 a1 b0 b1
  go_wp2_with fail
  refine (HST.out _ _ _ _ _ (HRP.out.below K1.out) (HRQ.out.below K1.out)).mono ?_
  rintro e v2 ⟨rfl, hb2⟩
  have K2' := Lib.hid (then' K1.out hb2)
  have K2 := K2'
  have a0x2 := (K2.out.cell (p := ⟨X, 0, none⟩) hlX).trans A0H.out; have a1x2 := (K2.out.cell (p := ⟨X, 1, none⟩) hlX).trans A1H.out; have b0x2 := (K2.out.cell (p := ⟨Y, 0, none⟩) hlY).trans B0H.out; have b1x2 := (K2.out.cell (p := ⟨Y, 1, none⟩) hlY).trans B1H.out
  clear hb2 a0x1 a1x1 b0x1 b1x1
  go_wp2_with fail
  refine (HC1.out _ (HMW.out.below K2.out) (HVW.out.below K2.out)).mono ?_
  rintro e v3 ⟨⟨A3, c3, rfl, hrd3⟩, hb3⟩
  have HRD3 := Lib.hid hrd3
  have K3 := Lib.hid (then' K2.out hb3)
  clear hb3 hrd3 a0x2 a1x2 b0x2 b1x2
  go_wp2_with fail
  refine (HC2.out _).mono ?_
  rintro e v4 ⟨⟨A4, c4, rfl, hrd4⟩, hb4⟩
  have HRD4 := Lib.hid hrd4
  have HRD34 := Lib.hid (HRD3.out.below hb4)
  have K4 := Lib.hid (then' K3.out hb4)
  clear hb4 hrd4
  go_wp2_with fail
  refine (HSX.out _ _ _ _ _ HRD34.out HRD4.out).mono ?_
  rintro e v5 ⟨rfl, hb5⟩
  have K5 := Lib.hid (then' K4.out hb5)
  clear hb5
  go_wp2
  go_ret
  exact ⟨rfl, HBW.out.trans (K5.out.mono HBW.out.size)⟩
end Go.Proofs.YtchhibicbgimcaaDoor.kindDescs

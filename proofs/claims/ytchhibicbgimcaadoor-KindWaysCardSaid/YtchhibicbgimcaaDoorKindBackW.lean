/-
  The walk of KindBack: what is written is read as it was, and what is read is written so: types' texts, and descriptors.
-/
import Derived.Test.YtchhibicbgimcaaDoorKindDescsW
namespace Go.Proofs.YtchhibicbgimcaaDoor.kindBack
open Go.RowKit
open Go.Proofs.YtchhibicbgimcaaDoor.words Go.Proofs.YtchhibicbgimcaaDoor.kindp Go.Proofs.YtchhibicbgimcaaDoor.word Go.Proofs.YtchhibicbgimcaaDoor.rdr Go.Proofs.YtchhibicbgimcaaDoor.kind Go.Proofs.YtchhibicbgimcaaDoor.kindDescs

theorem desc_small (t : Ty) (p : List Ty) : (descT t p).1.length ≤ 64 := by
  unfold descT
  split
  · simp
  · split
    · simp
    · rename_i h
      show (wholeT t p).length ≤ 64
      omega
theorem right_small {t : Ty} (ht : rightT t = true) : t.2.length ≤ 32 := by
  rcases right_cases ht with rfl | rfl | rfl | ⟨c, rfl, hc⟩ | ⟨c, rfl, hc⟩
  · simp
  · simp
  · simp
  · exact (cls_no hc).2.2
  · exact (cls_no hc).2.2

set_option maxRecDepth 100000 in
set_option maxHeartbeats 4000000 in
theorem walk (A : Option Addr) (cp : Nat) (l : List Ty) (s d : ByteArray) (w : World) (hr : Rd w A (TL l)) (hcp : l.length ≤ cp) (hl : l.length * 24 ≤ 140737488351232) (hz : ∀ x ∈ l, x.2.length ≤ 140737488351232) (hs : s.size ≤ 140737488351232) (hd : d.size ≤ 140737488351232) (hm : Mx w) (hv : Vd w) :
    Calls Tryd.prog 4 #[.slice A l.length cp, .string s, .string d] w fun e w' => e = .returned (.bool true) ∧ Below w.heap.size w w' := by
  have HM := Lib.hid hm; have HV := Lib.hid hv; have HR := Lib.hid hr
  have HLV := Lib.hid (fun w hm hv => live_any w hm hv)
  have hsI : (s.size : Int) ≤ 140737488351232 := by omega
  have hdI : (d.size : Int) ≤ 140737488351232 := by omega
  by_cases h0 : l = []
  · subst h0
    clear hs hd hm hv hr hz hl hcp
    go_enter Tryd.func4, Tryd.ntmps4
    go_wp2_with fail
    refine (HLV.out _ HM.out HV.out).mono ?_
    rintro e w1 ⟨rfl, hb1⟩
    have HB := Lib.hid hb1
    clear hb1
    go_wp2
    go_ret
    exact ⟨rfl, HB.out⟩
  have hlp : 0 < l.length := by
    cases l with
    | nil => exact absurd rfl h0
    | cons a b => simp
  have h0I : ((l.length : Int) == 0) = false := by rw [beq_eq_false_iff_ne]; omega
  have hpI : (0 : Int) < (l.length : Int) := by omega
  have hlI : (l.length : Int) ≤ 281474976710656 := by omega
  by_cases h2 : 40 < l.length
  · have hI : (40 : Int) < (l.length : Int) := by omega
    obtain ⟨n, hn⟩ : ∃ n, n = l.length := ⟨_, rfl⟩
    rw [← hn] at h0I hpI hlI hI ⊢
    clear hs hd hm hv hr hz hl h2 h0 hcp hn hlp
    go_enter Tryd.func4, Tryd.ntmps4
    go_wp2_with fail
    refine (HLV.out _ HM.out HV.out).mono ?_
    rintro e w1 ⟨rfl, hb1⟩
    have HB := Lib.hid hb1
    clear hb1
    go_wp2
    go_ret
    exact ⟨rfl, HB.out⟩
  have hI : ¬ (40 : Int) < (l.length : Int) := by omega
  by_cases h3 : 2000 < s.size
  · have hI2 : (2000 : Int) < (s.size : Int) := by omega
    obtain ⟨n, hn⟩ : ∃ n, n = l.length := ⟨_, rfl⟩
    rw [← hn] at h0I hpI hlI hI ⊢
    clear hs hd hm hv hr hz hl h2 h3 h0 hcp hn hlp
    go_enter Tryd.func4, Tryd.ntmps4
    go_wp2_with fail
    refine (HLV.out _ HM.out HV.out).mono ?_
    rintro e w1 ⟨rfl, hb1⟩
    have HB := Lib.hid hb1
    clear hb1
    go_wp2
    go_ret
    exact ⟨rfl, HB.out⟩
  have hI2 : ¬ (2000 : Int) < (s.size : Int) := by omega
  by_cases h4 : 2000 < d.size
  · have hI3 : (2000 : Int) < (d.size : Int) := by omega
    obtain ⟨n, hn⟩ : ∃ n, n = l.length := ⟨_, rfl⟩
    rw [← hn] at h0I hpI hlI hI ⊢
    clear hs hd hm hv hr hz hl h2 h3 h4 h0 hcp hn hlp
    go_enter Tryd.func4, Tryd.ntmps4
    go_wp2_with fail
    refine (HLV.out _ HM.out HV.out).mono ?_
    rintro e w1 ⟨rfl, hb1⟩
    have HB := Lib.hid hb1
    clear hb1
    go_wp2
    go_ret
    exact ⟨rfl, HB.out⟩
  have hI3 : ¬ (2000 : Int) < (d.size : Int) := by omega
  obtain ⟨⟨k, c⟩, p, rfl⟩ : ∃ x p, l = x :: p := by
    cases l with
    | nil => exact absurd rfl h0
    | cons a b => exact ⟨a, b, rfl⟩
  obtain ⟨a, rfl, ha, t0, t1⟩ := tl_cell hr (i := 0) (t := (k, c)) rfl
  dsimp only at t0 t1
  rw [Nat.zero_mul, show a.add 0 = a from rfl] at t0 t1
  have hkc : c.length ≤ 281474976710656 := by have := hz (k, c) (by simp); dsimp only at this; omega
  obtain ⟨A', hcd, hcut⟩ := cut_one a (((k, c) : Ty) :: p).length p.length cp rfl
  have hrp : Rd w A' (TL p) := hcd w _ hr (by rw [TL_len]; omega)
  obtain ⟨m, hm0⟩ : ∃ m, m = (((k, c) : Ty) :: p).length := ⟨_, rfl⟩
  obtain ⟨m1, hm1⟩ : ∃ m1, m1 = p.length := ⟨_, rfl⟩
  have hmm : m = m1 + 1 := by rw [hm0, hm1]; rfl
  rw [← hm0] at h0I hpI hlI hI hcp h2 hl ⊢
  rw [← hm1] at hcut
  rw [← hm0] at hcut
  obtain ⟨c1, hc1⟩ : ∃ c1, c1 = cp - 1 := ⟨_, rfl⟩
  rw [← hc1] at hcut
  have hmI : (m : Int) ≤ 40 := by omega
  have hpN : 0 < m := by omega
  have hpN2 : ¬ m = 0 := by omega
  -- the contracts
  have hT1 := (fun w => text_w k c w hkc)
  have hR1 := (fun w => right_w k c w hkc)
  have htl := text_le (k, c)
  have hP1 := (fun w hm => parse_w (textT (k, c)) w (by omega) hm)
  have hpt := parse_text (t := (k, c))
  have hP2 := (fun w hm => parse_w s.data.toList w (by rw [size_data]; omega) hm)
  have hpo := (fun t => parse_of (s := s.data.toList) (t := t))
  have hDD := (fun A cc w hr hv => desc_w k c A cc p w hkc hr (by omega) (fun t ht => by have := hz t (by simp [ht]); omega) hv)
  have hsd := (fun d => split_desc (t := (k, c)) (p := p) (d := d))
  have hS2 := (fun w hm hv => split_k d.data.toList w (by rw [size_data]; omega) hm hv)
  have hds := (fun t p => desc_split (d := d.data.toList) (t := t) (p := p))
  have hsm := split_small (d := d.data.toList)
  have h8 := split_len d.data.toList
  have hST := (fun A C c d w h1 h2 => types_any A C c d p (by omega) w h1 h2)
  rw [data_mk] at hP2 hS2
  rw [← hm1] at hDD
  have hST : ∀ A C c d w, Rd w A (TL p) → Rd w C (TL p) → Calls Tryd.prog 21 #[.slice A p.length c, .slice C m1 d] w fun e w' => e = .returned (.bool true) ∧ Below w.heap.size w w' := by rw [hm1]; exact hST
  unfold DescW at hDD
  unfold SplitW at hS2
  unfold parseV twoV tyV at hP1 hP2
  generalize textT (k, c) = T0 at *
  obtain ⟨⟨⟨kx, cx⟩, ex⟩, hx⟩ : ∃ x, x = parseT T0 := ⟨_, rfl⟩
  rw [← hx] at hP1 hpt
  obtain ⟨⟨⟨ky, cy⟩, ey⟩, hy⟩ : ∃ x, x = parseT s.data.toList := ⟨_, rfl⟩
  rw [← hy] at hP2 hpo
  obtain ⟨⟨T, er⟩, hTe⟩ : ∃ y, y = descT (k, c) p := ⟨_, rfl⟩
  have hS1 := (fun w hm hv => split_k T w (by have := desc_small (k, c) p; rw [← hTe] at this; dsimp only at this; omega) hm hv)
  rw [← hTe] at hDD hsd
  unfold SplitW at hS1
  obtain ⟨⟨q5, ⟨k5, c5⟩, e5⟩, hx5⟩ : ∃ x, x = splitT T := ⟨_, rfl⟩
  have h85 := split_len T
  rw [← hx5] at hS1 h85
  dsimp only at hS1 h85
  have HS1 := Lib.hid hS1
  clear hS1
  obtain ⟨⟨q, ⟨kr, cr⟩, es⟩, hxs⟩ : ∃ x, x = splitT d.data.toList := ⟨_, rfl⟩
  rw [← hxs] at hS2 h8 hsm hds
  dsimp only at hP1 hP2 hDD hS2 h8 hsm
  generalize rightT (k, c) = br at *
  have HT1 := Lib.hid hT1; have HP1 := Lib.hid hP1; have HP2 := Lib.hid hP2; have HR1 := Lib.hid hR1; have HDD := Lib.hid hDD; have HS2 := Lib.hid hS2; have HST := Lib.hid hST
  have HRP := Lib.hid hrp; have HC0 := Lib.hid t0; have HC1 := Lib.hid t1
  clear hT1 hP1 hP2 hR1 hDD hS2 hST hrp hr HR h0 hlp hm0 hm1 hmm hcd hc1 hcp hl h2 hs hd hm hv htl
  clear hx hy hTe hxs
  go_enter Tryd.func4, Tryd.ntmps4
  go_wp2_with fail
  have hal0 := (Below.refl w.heap.size w).alloc (Nat.le_refl _) (.cells #[.int .i64 k, .string ⟨c.toArray⟩] 24)
  have HN0 := Lib.hid (heap_alloc_new w (.cells #[.int .i64 k, .string ⟨c.toArray⟩] 24))
  have HB0 := Lib.hid hal0
  clear hal0
  refine (HT1.out _).mono ?_
  rintro e w1 ⟨rfl, hb1⟩
  have HB1 := Lib.hid (HB0.out.trans (hb1.mono HB0.out.size))
  have HN1 := Lib.hid ((hb1.block _ (blk_lt HN0.out)).trans HN0.out)
  clear hb1
  go_wp2_with fail
  refine (HP1.out _ (HM.out.below HB1.out)).mono ?_
  rintro e w2 ⟨rfl, hb2⟩
  have HB2 := Lib.hid (HB1.out.trans (hb2.mono HB1.out.size))
  have HN2 := Lib.hid ((hb2.block _ (blk_lt HN1.out)).trans HN1.out)
  clear hb2
  have HB3 := Lib.hid (HB2.out.alloc HB2.out.size (.cells #[.int .i64 kx, .string ⟨cx.toArray⟩] 24))
  have HX3 := Lib.hid (heap_alloc_new w2 (.cells #[.int .i64 kx, .string ⟨cx.toArray⟩] 24))
  have HN3 := Lib.hid ((((Below.refl w2.heap.size w2).alloc (Nat.le_refl _) (.cells #[.int .i64 kx, .string ⟨cx.toArray⟩] 24)).block _ (blk_lt HN2.out)).trans HN2.out)
  go_wp2_with fail
  refine (HP2.out _ (HM.out.below HB3.out)).mono ?_
  rintro e w4 ⟨rfl, hb4⟩
  have HB4 := Lib.hid (HB3.out.trans (hb4.mono HB3.out.size))
  have HN4 := Lib.hid ((hb4.block _ (blk_lt HN3.out)).trans HN3.out)
  have HX4 := Lib.hid ((hb4.block _ (blk_lt HX3.out)).trans HX3.out)
  clear hb4
  have hal5 := (Below.refl w4.heap.size w4).alloc (Nat.le_refl _) (.cells #[.int .i64 ky, .string ⟨cy.toArray⟩] 24)
  have hY5 := heap_alloc_new w4 (.cells #[.int .i64 ky, .string ⟨cy.toArray⟩] 24)
  have hN5 := (hal5.block _ (blk_lt HN4.out)).trans HN4.out
  have hX5 := (hal5.block _ (blk_lt HX4.out)).trans HX4.out
  have HBW := Lib.hid (HB4.out.trans (hal5.mono HB4.out.size))
  clear hal5
  go_wp2_with fail
  generalize w4.alloc (.cells #[.int .i64 ky, .string ⟨cy.toArray⟩] 24) = W at *
  generalize w4.heap.size = Y at *
  generalize w2.heap.size = X at *
  have HMW := Lib.hid (HM.out.below HBW.out); have HVW := Lib.hid (HV.out.below HBW.out)
  have HCN0 := Lib.hid (cell_of_row _ _ 0 _ _ _ hN5); have HCN1 := Lib.hid (cell_of_row _ _ 1 _ _ _ hN5)
  have HCX0 := Lib.hid (cell_of_row _ _ 0 _ _ _ hX5); have HCX1 := Lib.hid (cell_of_row _ _ 1 _ _ _ hX5)
  have HCY0 := Lib.hid (cell_of_row _ _ 0 _ _ _ hY5); have HCY1 := Lib.hid (cell_of_row _ _ 1 _ _ _ hY5)
  have HHN := Lib.hid hN5; have HHX := Lib.hid hX5; have HHY := Lib.hid hY5
  have hlN := blk_lt hN5; have hlX := blk_lt hX5; have hlY := blk_lt hY5
  have HRPW := Lib.hid (HRP.out.below HBW.out)
  clear hN5 hX5 hY5
  refine (HLV.out _ HMW.out HVW.out).mono ?_
  rintro e v1 ⟨rfl, hb1⟩
  have hk1 : Below W.heap.size W v1 := hb1
  have K1 := Lib.hid hk1
  have n0 : v1.cell? ⟨w.heap.size, 0, none⟩ = some (.int .i64 k) := (hk1.cell (p := ⟨w.heap.size, 0, none⟩) hlN).trans HCN0.out
  have n1 : v1.cell? ⟨w.heap.size, 1, none⟩ = some (.string ⟨c.toArray⟩) := (hk1.cell (p := ⟨w.heap.size, 1, none⟩) hlN).trans HCN1.out
  have x0 : v1.cell? ⟨X, 0, none⟩ = some (.int .i64 kx) := (hk1.cell (p := ⟨X, 0, none⟩) hlX).trans HCX0.out
  have x1 : v1.cell? ⟨X, 1, none⟩ = some (.string ⟨cx.toArray⟩) := (hk1.cell (p := ⟨X, 1, none⟩) hlX).trans HCX1.out
  have y0 : v1.cell? ⟨Y, 0, none⟩ = some (.int .i64 ky) := (hk1.cell (p := ⟨Y, 0, none⟩) hlY).trans HCY0.out
  have y1 : v1.cell? ⟨Y, 1, none⟩ = some (.string ⟨cy.toArray⟩) := (hk1.cell (p := ⟨Y, 1, none⟩) hlY).trans HCY1.out
  clear hb1 hk1
  go_wp2_with fail
  refine (HR1.out _).mono ?_
  rintro e v2 ⟨rfl, hb2⟩
  have K2 := Lib.hid (then' K1.out hb2)
  clear hb2 n0 n1 x0 x1 y0 y1
  have n0 : v2.cell? ⟨w.heap.size, 0, none⟩ = some (.int .i64 k) := (K2.out.cell (p := ⟨w.heap.size, 0, none⟩) hlN).trans HCN0.out
  have n1 : v2.cell? ⟨w.heap.size, 1, none⟩ = some (.string ⟨c.toArray⟩) := (K2.out.cell (p := ⟨w.heap.size, 1, none⟩) hlN).trans HCN1.out
  have x0 : v2.cell? ⟨X, 0, none⟩ = some (.int .i64 kx) := (K2.out.cell (p := ⟨X, 0, none⟩) hlX).trans HCX0.out
  have x1 : v2.cell? ⟨X, 1, none⟩ = some (.string ⟨cx.toArray⟩) := (K2.out.cell (p := ⟨X, 1, none⟩) hlX).trans HCX1.out
  have y0 : v2.cell? ⟨Y, 0, none⟩ = some (.int .i64 ky) := (K2.out.cell (p := ⟨Y, 0, none⟩) hlY).trans HCY0.out
  have y1 : v2.cell? ⟨Y, 1, none⟩ = some (.string ⟨cy.toArray⟩) := (K2.out.cell (p := ⟨Y, 1, none⟩) hlY).trans HCY1.out
  by_cases hey : ey = 0
  · subst hey
    obtain ⟨hyr, hyt⟩ := hpo (ky, cy) rfl
    have HTY := Lib.hid (fun w => text_w ky cy w (Nat.le_trans (right_small hyr) (by omega)))
    rw [hyt] at HTY
    rw [data_mk] at HTY
    have eY : (s.toList != s.toList) = false := by simp
    have eY2 : (s.toList == s.toList) = true := by simp
    clear hpo hyr hyt
    cases br with
    | true =>
      cases hpt rfl
      have e0 : (k == k) = true := by simp
      have e1 : (c == c) = true := by simp
      clear hpt
      go_wp2_with fail
      refine (HTY.out _).mono ?_
      rintro e v3 ⟨rfl, hb3⟩
      have K3 := Lib.hid (then' K2.out hb3)
      clear hb3 n0 n1 x0 x1 y0 y1
      have n0 : v3.cell? ⟨w.heap.size, 0, none⟩ = some (.int .i64 k) := (K3.out.cell (p := ⟨w.heap.size, 0, none⟩) hlN).trans HCN0.out
      have n1 : v3.cell? ⟨w.heap.size, 1, none⟩ = some (.string ⟨c.toArray⟩) := (K3.out.cell (p := ⟨w.heap.size, 1, none⟩) hlN).trans HCN1.out
      go_wp2_with fail
      go_region_held3 (fun w' => w'.cell? ⟨w.heap.size, 0, none⟩ = some (.int .i64 k) ∧ w'.cell? ⟨w.heap.size, 1, none⟩ = some (.string ⟨c.toArray⟩)) (go_keep)
        (first
          | (go_at_call 19; refine (HDD.out _ _ _ ?_ ?_).mono ?_; exact (show Rd v3 A' (TL p) from HRPW.out.below K3.out); exact (show Vd v3 from HVW.out.below K3.out); rintro e v4 ⟨rfl, hb4⟩; have k4 : Below W.heap.size W v4 := (by first | exact then' K3.out hb4 | exact then' K3.out (under hb4)); have n0x := (k4.cell (p := ⟨w.heap.size, 0, none⟩) hlN).trans HCN0.out; have n1x := (k4.cell (p := ⟨w.heap.size, 1, none⟩) hlN).trans HCN1.out; have K4 := Lib.hid k4; clear k4 hb4 n0 n1)
        )
      go_wp2_with fail
      refine (HS1.out _ (HMW.out.below K4.out) (HVW.out.below K4.out)).mono ?_
      rintro e v5 ⟨⟨P, pc, rfl, hown⟩, hb5⟩
      obtain ⟨_, _, e9, _, _, hrdP⟩ := own_rd hown
      cases e9
      have HRDP := Lib.hid hrdP
      have K5 := Lib.hid (then' K4.out hb5)
      clear hb5 hown hrdP n0x n1x
      have n0 : v5.cell? ⟨w.heap.size, 0, none⟩ = some (.int .i64 k) := (K5.out.cell (p := ⟨w.heap.size, 0, none⟩) hlN).trans HCN0.out
      have n1 : v5.cell? ⟨w.heap.size, 1, none⟩ = some (.string ⟨c.toArray⟩) := (K5.out.cell (p := ⟨w.heap.size, 1, none⟩) hlN).trans HCN1.out
      have hlN5 : w.heap.size < v5.heap.size := Nat.lt_of_lt_of_le hlN K5.out.size
      by_cases her : er = 0
      · subst her
        have hq5 := (hsd T rfl).1
        rw [← hx5] at hq5
        cases hq5
        have f0 : (k == k) = true := by simp
        have f1 : (c == c) = true := by simp
        clear hx5 hsd
        have hal5 := (Below.refl v5.heap.size v5).alloc (Nat.le_refl _) (.cells #[.int .i64 k, .string ⟨c.toArray⟩] 24)
        have K6 := Lib.hid (then' K5.out hal5)
        have HRDP6 := Lib.hid (HRDP.out.below hal5)
        have hR5 := heap_alloc_new v5 (.cells #[.int .i64 k, .string ⟨c.toArray⟩] 24)
        have HR5 := Lib.hid hR5
        clear hal5 hR5
        go_wp2_with fail
        refine (HST.out _ _ _ _ _ HRDP6.out (HRPW.out.below K6.out)).mono ?_
        rintro e v6 ⟨rfl, hb6⟩
        have K7 := Lib.hid (then' K6.out hb6)
        have HRB := Lib.hid ((hb6.block _ (blk_lt HR5.out)).trans HR5.out)
        clear hb6 n0 n1
        go_wp2_with fail
        refine (HS2.out _ (HMW.out.below K7.out) (HVW.out.below K7.out)).mono ?_
        rintro e v8 ⟨⟨Q, qc, rfl, hown8⟩, hb8⟩
        have HRB8 := (hb8.block _ (blk_lt HRB.out)).trans HRB.out
        have K8 := Lib.hid (then' K7.out hb8)
        have HO8 := Lib.hid hown8
        have hltR := blk_lt HRB8
        have hltV := blk_lt HRB.out
        obtain ⟨_, _, e9, _, _, hrdQ⟩ := own_rd hown8
        cases e9
        have r0 : v8.cell? ⟨v5.heap.size, 0, none⟩ = some (.int .i64 k) := cell_of_row _ _ _ _ _ _ HRB8
        have r1 : v8.cell? ⟨v5.heap.size, 1, none⟩ = some (.string ⟨c.toArray⟩) := cell_of_row _ _ _ _ _ _ HRB8
        have f0r := frozen_of_row v8 _ 0 _ _ HRB8
        have f1r := frozen_of_row v8 _ 1 _ _ HRB8
        obtain ⟨z0, z1, -⟩ := two_set HRB8 (.int .i64 kr) (.string ⟨cr.toArray⟩)
        clear hb8 hown8 HRB8 hrdQ
        have HBF := Lib.hid (((HBW.out.trans (K8.out.mono HBW.out.size)).setCell (p := ⟨v5.heap.size, 0, none⟩) (Nat.le_of_lt hlN5) (.int .i64 kr)).setCell (p := ⟨v5.heap.size, 1, none⟩) (Nat.le_of_lt hlN5) (.string ⟨cr.toArray⟩))
        have HOF := own_but HO8.out (b := v5.heap.size) hltV (((But.refl v5.heap.size v8).set 0 (.int .i64 kr)).set 1 (.string ⟨cr.toArray⟩))
        obtain ⟨_, _, e9, _, _, hrdF⟩ := own_rd HOF
        cases e9
        have HRDF := Lib.hid hrdF
        have HVF := Lib.hid (HV.out.below HBF.out)
        clear HOF hrdF
        by_cases hes : es = 0
        · subst hes
          have hdq := (hds (kr, cr) q rfl).1
          obtain ⟨hs1, hs2⟩ := hsm rfl
          have hd2 := (fun A cc w hr hv => desc_w kr cr A cc q w (by omega) hr (by omega) (fun t ht => by have := hs2 t ht; omega) hv)
          rw [hdq] at hd2
          unfold DescW at hd2
          dsimp only at hd2
          rw [data_mk] at hd2
          have HD2 := Lib.hid hd2
          have eD : (d.toList == d.toList) = true := by simp
          clear hd2 hdq hs1 hs2 hds hsm
          go_wp2_with fail
          refine (HD2.out _ _ _ HRDF.out HVF.out).mono ?_
          rintro e v9 ⟨rfl, hb9⟩
          have HB9 := Lib.hid (HBF.out.trans (hb9.mono HBF.out.size))
          clear hb9
          go_wp2
          go_ret
          exact ⟨rfl, HB9.out⟩
        · have heS : ((es : Int) != 0) = true := by rw [bne_iff_ne]; omega
          clear hes hds hsm
          go_wp2
          go_ret
          exact ⟨rfl, HBF.out⟩
      · have heR : ((er : Int) == 0) = false := by rw [beq_eq_false_iff_ne]; omega
        clear hx5 hsd her
        have hal5 := (Below.refl v5.heap.size v5).alloc (Nat.le_refl _) (.cells #[.int .i64 k5, .string ⟨c5.toArray⟩] 24)
        have K7 := Lib.hid (then' K5.out hal5)
        have HRB := Lib.hid (heap_alloc_new v5 (.cells #[.int .i64 k5, .string ⟨c5.toArray⟩] 24))
        clear hal5
        go_wp2_with fail
        clear n0 n1
        refine (HS2.out _ (HMW.out.below K7.out) (HVW.out.below K7.out)).mono ?_
        rintro e v8 ⟨⟨Q, qc, rfl, hown8⟩, hb8⟩
        have HRB8 := (hb8.block _ (blk_lt HRB.out)).trans HRB.out
        have K8 := Lib.hid (then' K7.out hb8)
        have HO8 := Lib.hid hown8
        have hltR := blk_lt HRB8
        have hltV := blk_lt HRB.out
        obtain ⟨_, _, e9, _, _, hrdQ⟩ := own_rd hown8
        cases e9
        have r0 : v8.cell? ⟨v5.heap.size, 0, none⟩ = some (.int .i64 k5) := cell_of_row _ _ _ _ _ _ HRB8
        have r1 : v8.cell? ⟨v5.heap.size, 1, none⟩ = some (.string ⟨c5.toArray⟩) := cell_of_row _ _ _ _ _ _ HRB8
        have f0r := frozen_of_row v8 _ 0 _ _ HRB8
        have f1r := frozen_of_row v8 _ 1 _ _ HRB8
        obtain ⟨z0, z1, -⟩ := two_set HRB8 (.int .i64 kr) (.string ⟨cr.toArray⟩)
        clear hb8 hown8 HRB8 hrdQ
        have HBF := Lib.hid (((HBW.out.trans (K8.out.mono HBW.out.size)).setCell (p := ⟨v5.heap.size, 0, none⟩) (Nat.le_of_lt hlN5) (.int .i64 kr)).setCell (p := ⟨v5.heap.size, 1, none⟩) (Nat.le_of_lt hlN5) (.string ⟨cr.toArray⟩))
        have HOF := own_but HO8.out (b := v5.heap.size) hltV (((But.refl v5.heap.size v8).set 0 (.int .i64 kr)).set 1 (.string ⟨cr.toArray⟩))
        obtain ⟨_, _, e9, _, _, hrdF⟩ := own_rd HOF
        cases e9
        have HRDF := Lib.hid hrdF
        have HVF := Lib.hid (HV.out.below HBF.out)
        clear HOF hrdF
        by_cases hes : es = 0
        · subst hes
          have hdq := (hds (kr, cr) q rfl).1
          obtain ⟨hs1, hs2⟩ := hsm rfl
          have hd2 := (fun A cc w hr hv => desc_w kr cr A cc q w (by omega) hr (by omega) (fun t ht => by have := hs2 t ht; omega) hv)
          rw [hdq] at hd2
          unfold DescW at hd2
          dsimp only at hd2
          rw [data_mk] at hd2
          have HD2 := Lib.hid hd2
          have eD : (d.toList == d.toList) = true := by simp
          clear hd2 hdq hs1 hs2 hds hsm
          go_wp2_with fail
          refine (HD2.out _ _ _ HRDF.out HVF.out).mono ?_
          rintro e v9 ⟨rfl, hb9⟩
          have HB9 := Lib.hid (HBF.out.trans (hb9.mono HBF.out.size))
          clear hb9
          go_wp2
          go_ret
          exact ⟨rfl, HB9.out⟩
        · have heS : ((es : Int) != 0) = true := by rw [bne_iff_ne]; omega
          clear hes hds hsm
          go_wp2
          go_ret
          exact ⟨rfl, HBF.out⟩
    | false =>
      clear hpt
      go_wp2_with fail
      refine (HTY.out _).mono ?_
      rintro e v3 ⟨rfl, hb3⟩
      have K3 := Lib.hid (then' K2.out hb3)
      clear hb3 n0 n1 x0 x1 y0 y1
      have n0 : v3.cell? ⟨w.heap.size, 0, none⟩ = some (.int .i64 k) := (K3.out.cell (p := ⟨w.heap.size, 0, none⟩) hlN).trans HCN0.out
      have n1 : v3.cell? ⟨w.heap.size, 1, none⟩ = some (.string ⟨c.toArray⟩) := (K3.out.cell (p := ⟨w.heap.size, 1, none⟩) hlN).trans HCN1.out
      go_wp2_with fail
      go_region_held3 (fun w' => w'.cell? ⟨w.heap.size, 0, none⟩ = some (.int .i64 k) ∧ w'.cell? ⟨w.heap.size, 1, none⟩ = some (.string ⟨c.toArray⟩)) (go_keep)
        (first
          | (go_at_call 19; refine (HDD.out _ _ _ ?_ ?_).mono ?_; exact (show Rd v3 A' (TL p) from HRPW.out.below K3.out); exact (show Vd v3 from HVW.out.below K3.out); rintro e v4 ⟨rfl, hb4⟩; have k4 : Below W.heap.size W v4 := (by first | exact then' K3.out hb4 | exact then' K3.out (under hb4)); have n0x := (k4.cell (p := ⟨w.heap.size, 0, none⟩) hlN).trans HCN0.out; have n1x := (k4.cell (p := ⟨w.heap.size, 1, none⟩) hlN).trans HCN1.out; have K4 := Lib.hid k4; clear k4 hb4 n0 n1)
        )
      go_wp2_with fail
      refine (HS1.out _ (HMW.out.below K4.out) (HVW.out.below K4.out)).mono ?_
      rintro e v5 ⟨⟨P, pc, rfl, hown⟩, hb5⟩
      obtain ⟨_, _, e9, _, _, hrdP⟩ := own_rd hown
      cases e9
      have HRDP := Lib.hid hrdP
      have K5 := Lib.hid (then' K4.out hb5)
      clear hb5 hown hrdP n0x n1x
      have n0 : v5.cell? ⟨w.heap.size, 0, none⟩ = some (.int .i64 k) := (K5.out.cell (p := ⟨w.heap.size, 0, none⟩) hlN).trans HCN0.out
      have n1 : v5.cell? ⟨w.heap.size, 1, none⟩ = some (.string ⟨c.toArray⟩) := (K5.out.cell (p := ⟨w.heap.size, 1, none⟩) hlN).trans HCN1.out
      have hlN5 : w.heap.size < v5.heap.size := Nat.lt_of_lt_of_le hlN K5.out.size
      by_cases her : er = 0
      · subst her
        have hq5 := (hsd T rfl).1
        rw [← hx5] at hq5
        cases hq5
        have f0 : (k == k) = true := by simp
        have f1 : (c == c) = true := by simp
        clear hx5 hsd
        have hal5 := (Below.refl v5.heap.size v5).alloc (Nat.le_refl _) (.cells #[.int .i64 k, .string ⟨c.toArray⟩] 24)
        have K6 := Lib.hid (then' K5.out hal5)
        have HRDP6 := Lib.hid (HRDP.out.below hal5)
        have hR5 := heap_alloc_new v5 (.cells #[.int .i64 k, .string ⟨c.toArray⟩] 24)
        have HR5 := Lib.hid hR5
        clear hal5 hR5
        go_wp2_with fail
        refine (HST.out _ _ _ _ _ HRDP6.out (HRPW.out.below K6.out)).mono ?_
        rintro e v6 ⟨rfl, hb6⟩
        have K7 := Lib.hid (then' K6.out hb6)
        have HRB := Lib.hid ((hb6.block _ (blk_lt HR5.out)).trans HR5.out)
        clear hb6 n0 n1
        go_wp2_with fail
        refine (HS2.out _ (HMW.out.below K7.out) (HVW.out.below K7.out)).mono ?_
        rintro e v8 ⟨⟨Q, qc, rfl, hown8⟩, hb8⟩
        have HRB8 := (hb8.block _ (blk_lt HRB.out)).trans HRB.out
        have K8 := Lib.hid (then' K7.out hb8)
        have HO8 := Lib.hid hown8
        have hltR := blk_lt HRB8
        have hltV := blk_lt HRB.out
        obtain ⟨_, _, e9, _, _, hrdQ⟩ := own_rd hown8
        cases e9
        have r0 : v8.cell? ⟨v5.heap.size, 0, none⟩ = some (.int .i64 k) := cell_of_row _ _ _ _ _ _ HRB8
        have r1 : v8.cell? ⟨v5.heap.size, 1, none⟩ = some (.string ⟨c.toArray⟩) := cell_of_row _ _ _ _ _ _ HRB8
        have f0r := frozen_of_row v8 _ 0 _ _ HRB8
        have f1r := frozen_of_row v8 _ 1 _ _ HRB8
        obtain ⟨z0, z1, -⟩ := two_set HRB8 (.int .i64 kr) (.string ⟨cr.toArray⟩)
        clear hb8 hown8 HRB8 hrdQ
        have HBF := Lib.hid (((HBW.out.trans (K8.out.mono HBW.out.size)).setCell (p := ⟨v5.heap.size, 0, none⟩) (Nat.le_of_lt hlN5) (.int .i64 kr)).setCell (p := ⟨v5.heap.size, 1, none⟩) (Nat.le_of_lt hlN5) (.string ⟨cr.toArray⟩))
        have HOF := own_but HO8.out (b := v5.heap.size) hltV (((But.refl v5.heap.size v8).set 0 (.int .i64 kr)).set 1 (.string ⟨cr.toArray⟩))
        obtain ⟨_, _, e9, _, _, hrdF⟩ := own_rd HOF
        cases e9
        have HRDF := Lib.hid hrdF
        have HVF := Lib.hid (HV.out.below HBF.out)
        clear HOF hrdF
        by_cases hes : es = 0
        · subst hes
          have hdq := (hds (kr, cr) q rfl).1
          obtain ⟨hs1, hs2⟩ := hsm rfl
          have hd2 := (fun A cc w hr hv => desc_w kr cr A cc q w (by omega) hr (by omega) (fun t ht => by have := hs2 t ht; omega) hv)
          rw [hdq] at hd2
          unfold DescW at hd2
          dsimp only at hd2
          rw [data_mk] at hd2
          have HD2 := Lib.hid hd2
          have eD : (d.toList == d.toList) = true := by simp
          clear hd2 hdq hs1 hs2 hds hsm
          go_wp2_with fail
          refine (HD2.out _ _ _ HRDF.out HVF.out).mono ?_
          rintro e v9 ⟨rfl, hb9⟩
          have HB9 := Lib.hid (HBF.out.trans (hb9.mono HBF.out.size))
          clear hb9
          go_wp2
          go_ret
          exact ⟨rfl, HB9.out⟩
        · have heS : ((es : Int) != 0) = true := by rw [bne_iff_ne]; omega
          clear hes hds hsm
          go_wp2
          go_ret
          exact ⟨rfl, HBF.out⟩
      · have heR : ((er : Int) == 0) = false := by rw [beq_eq_false_iff_ne]; omega
        clear hx5 hsd her
        have hal5 := (Below.refl v5.heap.size v5).alloc (Nat.le_refl _) (.cells #[.int .i64 k5, .string ⟨c5.toArray⟩] 24)
        have K7 := Lib.hid (then' K5.out hal5)
        have HRB := Lib.hid (heap_alloc_new v5 (.cells #[.int .i64 k5, .string ⟨c5.toArray⟩] 24))
        clear hal5
        go_wp2_with fail
        clear n0 n1
        refine (HS2.out _ (HMW.out.below K7.out) (HVW.out.below K7.out)).mono ?_
        rintro e v8 ⟨⟨Q, qc, rfl, hown8⟩, hb8⟩
        have HRB8 := (hb8.block _ (blk_lt HRB.out)).trans HRB.out
        have K8 := Lib.hid (then' K7.out hb8)
        have HO8 := Lib.hid hown8
        have hltR := blk_lt HRB8
        have hltV := blk_lt HRB.out
        obtain ⟨_, _, e9, _, _, hrdQ⟩ := own_rd hown8
        cases e9
        have r0 : v8.cell? ⟨v5.heap.size, 0, none⟩ = some (.int .i64 k5) := cell_of_row _ _ _ _ _ _ HRB8
        have r1 : v8.cell? ⟨v5.heap.size, 1, none⟩ = some (.string ⟨c5.toArray⟩) := cell_of_row _ _ _ _ _ _ HRB8
        have f0r := frozen_of_row v8 _ 0 _ _ HRB8
        have f1r := frozen_of_row v8 _ 1 _ _ HRB8
        obtain ⟨z0, z1, -⟩ := two_set HRB8 (.int .i64 kr) (.string ⟨cr.toArray⟩)
        clear hb8 hown8 HRB8 hrdQ
        have HBF := Lib.hid (((HBW.out.trans (K8.out.mono HBW.out.size)).setCell (p := ⟨v5.heap.size, 0, none⟩) (Nat.le_of_lt hlN5) (.int .i64 kr)).setCell (p := ⟨v5.heap.size, 1, none⟩) (Nat.le_of_lt hlN5) (.string ⟨cr.toArray⟩))
        have HOF := own_but HO8.out (b := v5.heap.size) hltV (((But.refl v5.heap.size v8).set 0 (.int .i64 kr)).set 1 (.string ⟨cr.toArray⟩))
        obtain ⟨_, _, e9, _, _, hrdF⟩ := own_rd HOF
        cases e9
        have HRDF := Lib.hid hrdF
        have HVF := Lib.hid (HV.out.below HBF.out)
        clear HOF hrdF
        by_cases hes : es = 0
        · subst hes
          have hdq := (hds (kr, cr) q rfl).1
          obtain ⟨hs1, hs2⟩ := hsm rfl
          have hd2 := (fun A cc w hr hv => desc_w kr cr A cc q w (by omega) hr (by omega) (fun t ht => by have := hs2 t ht; omega) hv)
          rw [hdq] at hd2
          unfold DescW at hd2
          dsimp only at hd2
          rw [data_mk] at hd2
          have HD2 := Lib.hid hd2
          have eD : (d.toList == d.toList) = true := by simp
          clear hd2 hdq hs1 hs2 hds hsm
          go_wp2_with fail
          refine (HD2.out _ _ _ HRDF.out HVF.out).mono ?_
          rintro e v9 ⟨rfl, hb9⟩
          have HB9 := Lib.hid (HBF.out.trans (hb9.mono HBF.out.size))
          clear hb9
          go_wp2
          go_ret
          exact ⟨rfl, HB9.out⟩
        · have heS : ((es : Int) != 0) = true := by rw [bne_iff_ne]; omega
          clear hes hds hsm
          go_wp2
          go_ret
          exact ⟨rfl, HBF.out⟩
  · have heI : ((ey : Int) == 0) = false := by rw [beq_eq_false_iff_ne]; omega
    clear hpo hey
    cases br with
    | true =>
      cases hpt rfl
      have e0 : (k == k) = true := by simp
      have e1 : (c == c) = true := by simp
      clear hpt
      go_wp2_with fail
      clear x0 x1 y0 y1
      go_region_held3 (fun w' => w'.cell? ⟨w.heap.size, 0, none⟩ = some (.int .i64 k) ∧ w'.cell? ⟨w.heap.size, 1, none⟩ = some (.string ⟨c.toArray⟩)) (go_keep)
        (first
          | (go_at_call 19; refine (HDD.out _ _ _ ?_ ?_).mono ?_; exact (show Rd v2 A' (TL p) from HRPW.out.below K2.out); exact (show Vd v2 from HVW.out.below K2.out); rintro e v4 ⟨rfl, hb4⟩; have k4 : Below W.heap.size W v4 := (by first | exact then' K2.out hb4 | exact then' K2.out (under hb4)); have n0x := (k4.cell (p := ⟨w.heap.size, 0, none⟩) hlN).trans HCN0.out; have n1x := (k4.cell (p := ⟨w.heap.size, 1, none⟩) hlN).trans HCN1.out; have K4 := Lib.hid k4; clear k4 hb4 n0 n1)
        )
      go_wp2_with fail
      refine (HS1.out _ (HMW.out.below K4.out) (HVW.out.below K4.out)).mono ?_
      rintro e v5 ⟨⟨P, pc, rfl, hown⟩, hb5⟩
      obtain ⟨_, _, e9, _, _, hrdP⟩ := own_rd hown
      cases e9
      have HRDP := Lib.hid hrdP
      have K5 := Lib.hid (then' K4.out hb5)
      clear hb5 hown hrdP n0x n1x
      have n0 : v5.cell? ⟨w.heap.size, 0, none⟩ = some (.int .i64 k) := (K5.out.cell (p := ⟨w.heap.size, 0, none⟩) hlN).trans HCN0.out
      have n1 : v5.cell? ⟨w.heap.size, 1, none⟩ = some (.string ⟨c.toArray⟩) := (K5.out.cell (p := ⟨w.heap.size, 1, none⟩) hlN).trans HCN1.out
      have hlN5 : w.heap.size < v5.heap.size := Nat.lt_of_lt_of_le hlN K5.out.size
      by_cases her : er = 0
      · subst her
        have hq5 := (hsd T rfl).1
        rw [← hx5] at hq5
        cases hq5
        have f0 : (k == k) = true := by simp
        have f1 : (c == c) = true := by simp
        clear hx5 hsd
        have hal5 := (Below.refl v5.heap.size v5).alloc (Nat.le_refl _) (.cells #[.int .i64 k, .string ⟨c.toArray⟩] 24)
        have K6 := Lib.hid (then' K5.out hal5)
        have HRDP6 := Lib.hid (HRDP.out.below hal5)
        have hR5 := heap_alloc_new v5 (.cells #[.int .i64 k, .string ⟨c.toArray⟩] 24)
        have HR5 := Lib.hid hR5
        clear hal5 hR5
        go_wp2_with fail
        refine (HST.out _ _ _ _ _ HRDP6.out (HRPW.out.below K6.out)).mono ?_
        rintro e v6 ⟨rfl, hb6⟩
        have K7 := Lib.hid (then' K6.out hb6)
        have HRB := Lib.hid ((hb6.block _ (blk_lt HR5.out)).trans HR5.out)
        clear hb6 n0 n1
        go_wp2_with fail
        refine (HS2.out _ (HMW.out.below K7.out) (HVW.out.below K7.out)).mono ?_
        rintro e v8 ⟨⟨Q, qc, rfl, hown8⟩, hb8⟩
        have HRB8 := (hb8.block _ (blk_lt HRB.out)).trans HRB.out
        have K8 := Lib.hid (then' K7.out hb8)
        have HO8 := Lib.hid hown8
        have hltR := blk_lt HRB8
        have hltV := blk_lt HRB.out
        obtain ⟨_, _, e9, _, _, hrdQ⟩ := own_rd hown8
        cases e9
        have r0 : v8.cell? ⟨v5.heap.size, 0, none⟩ = some (.int .i64 k) := cell_of_row _ _ _ _ _ _ HRB8
        have r1 : v8.cell? ⟨v5.heap.size, 1, none⟩ = some (.string ⟨c.toArray⟩) := cell_of_row _ _ _ _ _ _ HRB8
        have f0r := frozen_of_row v8 _ 0 _ _ HRB8
        have f1r := frozen_of_row v8 _ 1 _ _ HRB8
        obtain ⟨z0, z1, -⟩ := two_set HRB8 (.int .i64 kr) (.string ⟨cr.toArray⟩)
        clear hb8 hown8 HRB8 hrdQ
        have HBF := Lib.hid (((HBW.out.trans (K8.out.mono HBW.out.size)).setCell (p := ⟨v5.heap.size, 0, none⟩) (Nat.le_of_lt hlN5) (.int .i64 kr)).setCell (p := ⟨v5.heap.size, 1, none⟩) (Nat.le_of_lt hlN5) (.string ⟨cr.toArray⟩))
        have HOF := own_but HO8.out (b := v5.heap.size) hltV (((But.refl v5.heap.size v8).set 0 (.int .i64 kr)).set 1 (.string ⟨cr.toArray⟩))
        obtain ⟨_, _, e9, _, _, hrdF⟩ := own_rd HOF
        cases e9
        have HRDF := Lib.hid hrdF
        have HVF := Lib.hid (HV.out.below HBF.out)
        clear HOF hrdF
        by_cases hes : es = 0
        · subst hes
          have hdq := (hds (kr, cr) q rfl).1
          obtain ⟨hs1, hs2⟩ := hsm rfl
          have hd2 := (fun A cc w hr hv => desc_w kr cr A cc q w (by omega) hr (by omega) (fun t ht => by have := hs2 t ht; omega) hv)
          rw [hdq] at hd2
          unfold DescW at hd2
          dsimp only at hd2
          rw [data_mk] at hd2
          have HD2 := Lib.hid hd2
          have eD : (d.toList == d.toList) = true := by simp
          clear hd2 hdq hs1 hs2 hds hsm
          go_wp2_with fail
          refine (HD2.out _ _ _ HRDF.out HVF.out).mono ?_
          rintro e v9 ⟨rfl, hb9⟩
          have HB9 := Lib.hid (HBF.out.trans (hb9.mono HBF.out.size))
          clear hb9
          go_wp2
          go_ret
          exact ⟨rfl, HB9.out⟩
        · have heS : ((es : Int) != 0) = true := by rw [bne_iff_ne]; omega
          clear hes hds hsm
          go_wp2
          go_ret
          exact ⟨rfl, HBF.out⟩
      · have heR : ((er : Int) == 0) = false := by rw [beq_eq_false_iff_ne]; omega
        clear hx5 hsd her
        have hal5 := (Below.refl v5.heap.size v5).alloc (Nat.le_refl _) (.cells #[.int .i64 k5, .string ⟨c5.toArray⟩] 24)
        have K7 := Lib.hid (then' K5.out hal5)
        have HRB := Lib.hid (heap_alloc_new v5 (.cells #[.int .i64 k5, .string ⟨c5.toArray⟩] 24))
        clear hal5
        go_wp2_with fail
        clear n0 n1
        refine (HS2.out _ (HMW.out.below K7.out) (HVW.out.below K7.out)).mono ?_
        rintro e v8 ⟨⟨Q, qc, rfl, hown8⟩, hb8⟩
        have HRB8 := (hb8.block _ (blk_lt HRB.out)).trans HRB.out
        have K8 := Lib.hid (then' K7.out hb8)
        have HO8 := Lib.hid hown8
        have hltR := blk_lt HRB8
        have hltV := blk_lt HRB.out
        obtain ⟨_, _, e9, _, _, hrdQ⟩ := own_rd hown8
        cases e9
        have r0 : v8.cell? ⟨v5.heap.size, 0, none⟩ = some (.int .i64 k5) := cell_of_row _ _ _ _ _ _ HRB8
        have r1 : v8.cell? ⟨v5.heap.size, 1, none⟩ = some (.string ⟨c5.toArray⟩) := cell_of_row _ _ _ _ _ _ HRB8
        have f0r := frozen_of_row v8 _ 0 _ _ HRB8
        have f1r := frozen_of_row v8 _ 1 _ _ HRB8
        obtain ⟨z0, z1, -⟩ := two_set HRB8 (.int .i64 kr) (.string ⟨cr.toArray⟩)
        clear hb8 hown8 HRB8 hrdQ
        have HBF := Lib.hid (((HBW.out.trans (K8.out.mono HBW.out.size)).setCell (p := ⟨v5.heap.size, 0, none⟩) (Nat.le_of_lt hlN5) (.int .i64 kr)).setCell (p := ⟨v5.heap.size, 1, none⟩) (Nat.le_of_lt hlN5) (.string ⟨cr.toArray⟩))
        have HOF := own_but HO8.out (b := v5.heap.size) hltV (((But.refl v5.heap.size v8).set 0 (.int .i64 kr)).set 1 (.string ⟨cr.toArray⟩))
        obtain ⟨_, _, e9, _, _, hrdF⟩ := own_rd HOF
        cases e9
        have HRDF := Lib.hid hrdF
        have HVF := Lib.hid (HV.out.below HBF.out)
        clear HOF hrdF
        by_cases hes : es = 0
        · subst hes
          have hdq := (hds (kr, cr) q rfl).1
          obtain ⟨hs1, hs2⟩ := hsm rfl
          have hd2 := (fun A cc w hr hv => desc_w kr cr A cc q w (by omega) hr (by omega) (fun t ht => by have := hs2 t ht; omega) hv)
          rw [hdq] at hd2
          unfold DescW at hd2
          dsimp only at hd2
          rw [data_mk] at hd2
          have HD2 := Lib.hid hd2
          have eD : (d.toList == d.toList) = true := by simp
          clear hd2 hdq hs1 hs2 hds hsm
          go_wp2_with fail
          refine (HD2.out _ _ _ HRDF.out HVF.out).mono ?_
          rintro e v9 ⟨rfl, hb9⟩
          have HB9 := Lib.hid (HBF.out.trans (hb9.mono HBF.out.size))
          clear hb9
          go_wp2
          go_ret
          exact ⟨rfl, HB9.out⟩
        · have heS : ((es : Int) != 0) = true := by rw [bne_iff_ne]; omega
          clear hes hds hsm
          go_wp2
          go_ret
          exact ⟨rfl, HBF.out⟩
    | false =>
      clear hpt
      go_wp2_with fail
      clear x0 x1 y0 y1
      go_region_held3 (fun w' => w'.cell? ⟨w.heap.size, 0, none⟩ = some (.int .i64 k) ∧ w'.cell? ⟨w.heap.size, 1, none⟩ = some (.string ⟨c.toArray⟩)) (go_keep)
        (first
          | (go_at_call 19; refine (HDD.out _ _ _ ?_ ?_).mono ?_; exact (show Rd v2 A' (TL p) from HRPW.out.below K2.out); exact (show Vd v2 from HVW.out.below K2.out); rintro e v4 ⟨rfl, hb4⟩; have k4 : Below W.heap.size W v4 := (by first | exact then' K2.out hb4 | exact then' K2.out (under hb4)); have n0x := (k4.cell (p := ⟨w.heap.size, 0, none⟩) hlN).trans HCN0.out; have n1x := (k4.cell (p := ⟨w.heap.size, 1, none⟩) hlN).trans HCN1.out; have K4 := Lib.hid k4; clear k4 hb4 n0 n1)
        )
      go_wp2_with fail
      refine (HS1.out _ (HMW.out.below K4.out) (HVW.out.below K4.out)).mono ?_
      rintro e v5 ⟨⟨P, pc, rfl, hown⟩, hb5⟩
      obtain ⟨_, _, e9, _, _, hrdP⟩ := own_rd hown
      cases e9
      have HRDP := Lib.hid hrdP
      have K5 := Lib.hid (then' K4.out hb5)
      clear hb5 hown hrdP n0x n1x
      have n0 : v5.cell? ⟨w.heap.size, 0, none⟩ = some (.int .i64 k) := (K5.out.cell (p := ⟨w.heap.size, 0, none⟩) hlN).trans HCN0.out
      have n1 : v5.cell? ⟨w.heap.size, 1, none⟩ = some (.string ⟨c.toArray⟩) := (K5.out.cell (p := ⟨w.heap.size, 1, none⟩) hlN).trans HCN1.out
      have hlN5 : w.heap.size < v5.heap.size := Nat.lt_of_lt_of_le hlN K5.out.size
      by_cases her : er = 0
      · subst her
        have hq5 := (hsd T rfl).1
        rw [← hx5] at hq5
        cases hq5
        have f0 : (k == k) = true := by simp
        have f1 : (c == c) = true := by simp
        clear hx5 hsd
        have hal5 := (Below.refl v5.heap.size v5).alloc (Nat.le_refl _) (.cells #[.int .i64 k, .string ⟨c.toArray⟩] 24)
        have K6 := Lib.hid (then' K5.out hal5)
        have HRDP6 := Lib.hid (HRDP.out.below hal5)
        have hR5 := heap_alloc_new v5 (.cells #[.int .i64 k, .string ⟨c.toArray⟩] 24)
        have HR5 := Lib.hid hR5
        clear hal5 hR5
        go_wp2_with fail
        refine (HST.out _ _ _ _ _ HRDP6.out (HRPW.out.below K6.out)).mono ?_
        rintro e v6 ⟨rfl, hb6⟩
        have K7 := Lib.hid (then' K6.out hb6)
        have HRB := Lib.hid ((hb6.block _ (blk_lt HR5.out)).trans HR5.out)
        clear hb6 n0 n1
        go_wp2_with fail
        refine (HS2.out _ (HMW.out.below K7.out) (HVW.out.below K7.out)).mono ?_
        rintro e v8 ⟨⟨Q, qc, rfl, hown8⟩, hb8⟩
        have HRB8 := (hb8.block _ (blk_lt HRB.out)).trans HRB.out
        have K8 := Lib.hid (then' K7.out hb8)
        have HO8 := Lib.hid hown8
        have hltR := blk_lt HRB8
        have hltV := blk_lt HRB.out
        obtain ⟨_, _, e9, _, _, hrdQ⟩ := own_rd hown8
        cases e9
        have r0 : v8.cell? ⟨v5.heap.size, 0, none⟩ = some (.int .i64 k) := cell_of_row _ _ _ _ _ _ HRB8
        have r1 : v8.cell? ⟨v5.heap.size, 1, none⟩ = some (.string ⟨c.toArray⟩) := cell_of_row _ _ _ _ _ _ HRB8
        have f0r := frozen_of_row v8 _ 0 _ _ HRB8
        have f1r := frozen_of_row v8 _ 1 _ _ HRB8
        obtain ⟨z0, z1, -⟩ := two_set HRB8 (.int .i64 kr) (.string ⟨cr.toArray⟩)
        clear hb8 hown8 HRB8 hrdQ
        have HBF := Lib.hid (((HBW.out.trans (K8.out.mono HBW.out.size)).setCell (p := ⟨v5.heap.size, 0, none⟩) (Nat.le_of_lt hlN5) (.int .i64 kr)).setCell (p := ⟨v5.heap.size, 1, none⟩) (Nat.le_of_lt hlN5) (.string ⟨cr.toArray⟩))
        have HOF := own_but HO8.out (b := v5.heap.size) hltV (((But.refl v5.heap.size v8).set 0 (.int .i64 kr)).set 1 (.string ⟨cr.toArray⟩))
        obtain ⟨_, _, e9, _, _, hrdF⟩ := own_rd HOF
        cases e9
        have HRDF := Lib.hid hrdF
        have HVF := Lib.hid (HV.out.below HBF.out)
        clear HOF hrdF
        by_cases hes : es = 0
        · subst hes
          have hdq := (hds (kr, cr) q rfl).1
          obtain ⟨hs1, hs2⟩ := hsm rfl
          have hd2 := (fun A cc w hr hv => desc_w kr cr A cc q w (by omega) hr (by omega) (fun t ht => by have := hs2 t ht; omega) hv)
          rw [hdq] at hd2
          unfold DescW at hd2
          dsimp only at hd2
          rw [data_mk] at hd2
          have HD2 := Lib.hid hd2
          have eD : (d.toList == d.toList) = true := by simp
          clear hd2 hdq hs1 hs2 hds hsm
          go_wp2_with fail
          refine (HD2.out _ _ _ HRDF.out HVF.out).mono ?_
          rintro e v9 ⟨rfl, hb9⟩
          have HB9 := Lib.hid (HBF.out.trans (hb9.mono HBF.out.size))
          clear hb9
          go_wp2
          go_ret
          exact ⟨rfl, HB9.out⟩
        · have heS : ((es : Int) != 0) = true := by rw [bne_iff_ne]; omega
          clear hes hds hsm
          go_wp2
          go_ret
          exact ⟨rfl, HBF.out⟩
      · have heR : ((er : Int) == 0) = false := by rw [beq_eq_false_iff_ne]; omega
        clear hx5 hsd her
        have hal5 := (Below.refl v5.heap.size v5).alloc (Nat.le_refl _) (.cells #[.int .i64 k5, .string ⟨c5.toArray⟩] 24)
        have K7 := Lib.hid (then' K5.out hal5)
        have HRB := Lib.hid (heap_alloc_new v5 (.cells #[.int .i64 k5, .string ⟨c5.toArray⟩] 24))
        clear hal5
        go_wp2_with fail
        clear n0 n1
        refine (HS2.out _ (HMW.out.below K7.out) (HVW.out.below K7.out)).mono ?_
        rintro e v8 ⟨⟨Q, qc, rfl, hown8⟩, hb8⟩
        have HRB8 := (hb8.block _ (blk_lt HRB.out)).trans HRB.out
        have K8 := Lib.hid (then' K7.out hb8)
        have HO8 := Lib.hid hown8
        have hltR := blk_lt HRB8
        have hltV := blk_lt HRB.out
        obtain ⟨_, _, e9, _, _, hrdQ⟩ := own_rd hown8
        cases e9
        have r0 : v8.cell? ⟨v5.heap.size, 0, none⟩ = some (.int .i64 k5) := cell_of_row _ _ _ _ _ _ HRB8
        have r1 : v8.cell? ⟨v5.heap.size, 1, none⟩ = some (.string ⟨c5.toArray⟩) := cell_of_row _ _ _ _ _ _ HRB8
        have f0r := frozen_of_row v8 _ 0 _ _ HRB8
        have f1r := frozen_of_row v8 _ 1 _ _ HRB8
        obtain ⟨z0, z1, -⟩ := two_set HRB8 (.int .i64 kr) (.string ⟨cr.toArray⟩)
        clear hb8 hown8 HRB8 hrdQ
        have HBF := Lib.hid (((HBW.out.trans (K8.out.mono HBW.out.size)).setCell (p := ⟨v5.heap.size, 0, none⟩) (Nat.le_of_lt hlN5) (.int .i64 kr)).setCell (p := ⟨v5.heap.size, 1, none⟩) (Nat.le_of_lt hlN5) (.string ⟨cr.toArray⟩))
        have HOF := own_but HO8.out (b := v5.heap.size) hltV (((But.refl v5.heap.size v8).set 0 (.int .i64 kr)).set 1 (.string ⟨cr.toArray⟩))
        obtain ⟨_, _, e9, _, _, hrdF⟩ := own_rd HOF
        cases e9
        have HRDF := Lib.hid hrdF
        have HVF := Lib.hid (HV.out.below HBF.out)
        clear HOF hrdF
        by_cases hes : es = 0
        · subst hes
          have hdq := (hds (kr, cr) q rfl).1
          obtain ⟨hs1, hs2⟩ := hsm rfl
          have hd2 := (fun A cc w hr hv => desc_w kr cr A cc q w (by omega) hr (by omega) (fun t ht => by have := hs2 t ht; omega) hv)
          rw [hdq] at hd2
          unfold DescW at hd2
          dsimp only at hd2
          rw [data_mk] at hd2
          have HD2 := Lib.hid hd2
          have eD : (d.toList == d.toList) = true := by simp
          clear hd2 hdq hs1 hs2 hds hsm
          go_wp2_with fail
          refine (HD2.out _ _ _ HRDF.out HVF.out).mono ?_
          rintro e v9 ⟨rfl, hb9⟩
          have HB9 := Lib.hid (HBF.out.trans (hb9.mono HBF.out.size))
          clear hb9
          go_wp2
          go_ret
          exact ⟨rfl, HB9.out⟩
        · have heS : ((es : Int) != 0) = true := by rw [bne_iff_ne]; omega
          clear hes hds hsm
          go_wp2
          go_ret
          exact ⟨rfl, HBF.out⟩
end Go.Proofs.YtchhibicbgimcaaDoor.kindBack

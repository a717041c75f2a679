/-
  The walk of NormPlaces: where classes, methods and fields stand, and all strings.
-/
import Derived.Test.YtjahilfapcljiaaGreatDoorNormLv
import Derived.Test.YtjahilfapcljiaaGreatDoorNormRp
import Derived.Test.YtjahilfapcljiaaGreatDoorNormRs
import Derived.Test.YtjahilfapcljiaaGreatDoorTexts
namespace Go.Proofs.YtjahilfapcljiaaGreatDoor.normPlaces
open Go.RowKit
open Go.Proofs.YtjahilfapcljiaaGreatDoor.words Go.Proofs.YtjahilfapcljiaaGreatDoor.kindp Go.Proofs.YtjahilfapcljiaaGreatDoor.opp Go.Proofs.YtjahilfapcljiaaGreatDoor.op Go.Proofs.YtjahilfapcljiaaGreatDoor.kind Go.Proofs.YtjahilfapcljiaaGreatDoor.word Go.Proofs.YtjahilfapcljiaaGreatDoor.prg

theorem sx_S (l : List Tx) : SX l = texts.S (l.map fun x => ⟨x.toArray⟩) := by unfold SX texts.S; rw [List.map_map]; rfl
theorem texts_any (l : List Tx) (hl : l.length ≤ 281474976710656) (A C : Option Addr) (c d : Nat) (w : World) (h1 : Rd w A (SX l)) (h2 : Rd w C (SX l)) :
    Calls Tryz.prog 23 #[.slice A l.length c, .slice C l.length d] w fun e w' => e = .returned (.bool true) ∧ Below w.heap.size w w' :=
  (texts.texts_same A C l.length c d (l.map fun x => ⟨x.toArray⟩) w (sx_S l ▸ h1) (sx_S l ▸ h2) (by rw [List.length_map]) hl).mono fun e w' ⟨he, q, hq⟩ => ⟨he, by rw [hq]; exact over (Below.refl _ _)⟩
theorem gr_most {x : PrM} (h : GrP x) : (stringsL x).length ≤ 4194304 := by
  unfold stringsL
  rw [List.length_append, List.length_append]
  have e1 := flat_most (l := x.cs) (f := classL) (n := 2 + 40 + 40 * 2 + 40 * (2 + 300 * 3)) (fun c hc => class_most (h.2 c hc).1.1 (h.2 c hc).1.2.1 (h.2 c hc).1.2.2.1 (fun m hm => ((h.2 c hc).2 m hm).1.1))
  have e2 := entry_most x
  have e3 := Nat.mul_le_mul_right (2 + 40 + 40 * 2 + 40 * (2 + 300 * 3)) h.1.1
  have e4 := h.1.2
  omega

set_option maxRecDepth 100000 in
set_option maxHeartbeats 8000000 in
set_option linter.all false in
theorem walk_t (x : PrM) (s d : Tx) (w : World) (hk : PrOk w x) (hb : PrBd x) (hs : Sh w) (hv : Vd w) (hm : Mx w) : Calls Tryz.prog 5 #[.agg (prC x).toArray, .string ⟨s.toArray⟩, .string ⟨d.toArray⟩] w fun e w' => e = .returned (.bool true) ∧ Below w.heap.size w w' := by
  have htw : Wd w := ⟨hs, hm, hv⟩
  obtain ⟨W, hW⟩ : ∃ W, W = w.alloc (.cells (prC x).toArray 27) := ⟨_, rfl⟩
  have hal : Below w.heap.size w W := by rw [hW]; exact (Below.refl _ w).alloc (Nat.le_refl _) _
  have HAL := Lib.hid hal
  have hblk : W.heap[w.heap.size]? = some (.cells (prC x).toArray 27 (0, 0)) := by rw [hW]; exact heap_alloc_new w _
  have HBK := Lib.hid hblk; have HLT := Lib.hid (blk_lt hblk)
  obtain ⟨x0_0, x0_1, x0_2, x0_3, x0_4⟩ := pr_cells hblk
  have K0 := Lib.hid (Below.refl W.heap.size W)
  have HTW := Lib.hid (htw.below hal)
  have hkW := hk.below hal
  have HKW := Lib.hid hkW
  have HBD := Lib.hid hb
  have HGR := Lib.hid (fun v (hv : Below W.heap.size W v) => great_w x v (hkW.below hv) hb)
  have HLV := Lib.hid (fun v (hv : Below W.heap.size W v) => live_w v ((htw.below hal).below hv))
  have HCP := Lib.hid (fun (t : Tx) v (hv : Below W.heap.size W v) => place_cl x t v (hkW.below hv).1.2 (by have := hb.1.1; omega))
  have HCR := Lib.hid (fun (t : Tx) v (hv : Below W.heap.size W v) => rplace_cl x t v (hkW.below hv).1.2 (by have := hb.1.1; omega))
  have HSP := Lib.hid (fun v (hv : Below W.heap.size W v) (hg : GrP x) => strings_w x v (hkW.below hv) hb (gr_most hg))
  have HSR := Lib.hid (fun v (hv : Below W.heap.size W v) (hg : GrP x) => rstrings_w x v (hkW.below hv) hb (gr_most hg))
  have HST := Lib.hid (fun (hg : GrP x) => texts_any (stringsL x) (by have := gr_most hg; omega))
  generalize stringsL x = sl at HSP HSR HST
  obtain ⟨ns, hns⟩ : ∃ n, n = sl.length := ⟨_, rfl⟩
  obtain ⟨n, hn⟩ : ∃ n, n = x.cs.length := ⟨_, rfl⟩
  have HN := Lib.hid hn
  have nI : (n : Int) ≤ 281474976710656 := by have := hb.1.1; omega
  obtain ⟨A1, hA1⟩ : ∃ A, A = x.A1 := ⟨_, rfl⟩
  have hrc := hkW.1.2
  rw [← hA1] at hrc
  have HRC := Lib.hid hrc
  have HCE := Lib.hid (show ∀ v : World, Below W.heap.size W v → v.cell? ⟨w.heap.size, 0, none⟩ = some (.slice A1 n x.c1) ∧ v.cell? ⟨w.heap.size, 1, none⟩ = some (.slice x.A2 x.ns.length x.c2) ∧ v.cell? ⟨w.heap.size, 2, none⟩ = some (.string ⟨x.ec.toArray⟩) ∧ v.cell? ⟨w.heap.size, 3, none⟩ = some (.string ⟨x.en.toArray⟩) ∧ v.cell? ⟨w.heap.size, 4, none⟩ = some (.string ⟨x.ed.toArray⟩) from fun v hv => by rw [hA1, hn]; exact pr_cells ((hv.block _ HLT.out).trans HBK.out))
  clear x0_0 x0_1 x0_2 x0_3 x0_4
  obtain ⟨x0_0, x0_1, x0_2, x0_3, x0_4⟩ := HCE.out _ K0.out
  unfold prC at hW HGR HCP HCR HSP HSR ⊢
  rw [← hn, ← hA1] at hW HGR HCP HCR HSP HSR ⊢
  try dsimp only at hW HGR HCP HCR HSP HSR ⊢
  have HW := Lib.hid hW
  clear hal hblk hW hk hb hs hv hm htw hkW hn hA1 hrc
  go_enter Tryz.func5, Tryz.ntmps5
  go_wp2_with fail
  rw [← HW.out]
  (try go_wp2_with fail)
  refine (HGR.out _ K0.out).mono ?_
  rintro e v3 ⟨g, rfl, hg, hb3⟩
  have K3 := Lib.hid hb3
  have HG := Lib.hid hg
  clear hb3 hg x0_0 x0_1 x0_2 x0_3 x0_4
  cases g with
  | true =>
    go_wp2_with fail
    refine (HLV.out _ K3.out).mono ?_
    rintro e v4 ⟨rfl, hb4⟩
    have K4 := Lib.hid (then' K3.out hb4)
    clear hb4
    go_wp2
    go_ret
    exact ⟨rfl, HAL.out.trans (K4.out.mono HAL.out.size)⟩
  | false =>
    have hgp := HG.out rfl
    have HGP := Lib.hid hgp
    clear hgp
    obtain ⟨x1_0, x1_1, x1_2, x1_3, x1_4⟩ := HCE.out _ K3.out
    go_wp2
    clear x1_0 x1_1 x1_2 x1_3 x1_4
    go_loopw [7] (fun i wr => ∃ k : Nat, i = .int .i64 (k : Int) ∧ k ≤ n ∧ Below W.heap.size W wr) (fun i _ => n - (intOf i).toNat)
    case atStart => exact ⟨0, rfl, Nat.zero_le _, K3.out⟩
    case round =>
      obtain ⟨k, rfl, hk, hbw⟩ := hrel
      obtain ⟨wa, hwa⟩ : ∃ u, u = wr := ⟨_, rfl⟩
      subst hwa
      have HB := Lib.hid hbw
      obtain ⟨p0, p1, p2, p3, p4⟩ := HCE.out _ hbw
      by_cases hlt : k < n
      · have hltI : (k : Int) < (n : Int) := by omega
        obtain ⟨y, hy⟩ : ∃ y, x.cs[k]? = some y := ⟨x.cs[k]'(by rw [← HN.out]; exact hlt), List.getElem?_eq_getElem _⟩
        have hmem := List.mem_of_getElem? hy
        obtain ⟨a, ea, ha, c0, c1, c2, c3, c4, c5, c6⟩ := cl_at (HRC.out.below hbw) hy
        subst ea
        obtain ⟨V, hV⟩ : ∃ V, V = wa.alloc (.cells (clC y).toArray 37) := ⟨_, rfl⟩
        have hbv : Below W.heap.size W V := by rw [hV]; exact hbw.alloc hbw.size _
        have hblv : V.heap[wa.heap.size]? = some (.cells (clC y).toArray 37 (0, 0)) := by rw [hV]; exact heap_alloc_new wa _
        have HVB := Lib.hid hbv
        have hky := (HKW.out.2.2 y hmem).below hbv
        have hby := HBD.out.1.2 y hmem
        have HMP := Lib.hid (fun u (hu : Below V.heap.size V u) => place_me y s d u (hky.below hu).2.2.1.2 (by have := hby.2.2.2.2.1; omega))
        have HMR := Lib.hid (fun u (hu : Below V.heap.size V u) => rplace_me y s d u (hky.below hu).2.2.1.2 (by have := hby.2.2.2.2.1; omega))
        have HFP := Lib.hid (fun u (hu : Below V.heap.size V u) => place_fi y s u (hky.below hu).2.1.2 (by have := hby.2.2.2.1.1; omega))
        have HFR := Lib.hid (fun u (hu : Below V.heap.size V u) => rplace_fi y s u (hky.below hu).2.1.2 (by have := hby.2.2.2.1.1; omega))
        have HLV2 := Lib.hid (blk_lt hblv); have HBV2 := Lib.hid hblv
        have HYC := Lib.hid (show ∀ u : World, Below V.heap.size V u → u.cell? ⟨wa.heap.size, 0, none⟩ = some (.string ⟨y.nm.toArray⟩) ∧ u.cell? ⟨wa.heap.size, 1, none⟩ = some (.string ⟨y.su.toArray⟩) ∧ u.cell? ⟨wa.heap.size, 2, none⟩ = some (.bool y.fc) ∧ u.cell? ⟨wa.heap.size, 3, none⟩ = some (.bool y.ab) ∧ u.cell? ⟨wa.heap.size, 4, none⟩ = some (.slice y.A1 y.is.length y.c1) ∧ u.cell? ⟨wa.heap.size, 5, none⟩ = some (.slice y.A2 y.fs.length y.c2) ∧ u.cell? ⟨wa.heap.size, 6, none⟩ = some (.slice y.A3 y.ms.length y.c3) from fun u hu => cl_cells ((hu.block _ HLV2.out).trans HBV2.out))
        have HPC := Lib.hid (show ∀ u : World, Below V.heap.size V u → u.cell? ⟨w.heap.size, 0, none⟩ = some (.slice (some a) n x.c1) ∧ u.cell? ⟨w.heap.size, 1, none⟩ = some (.slice x.A2 x.ns.length x.c2) ∧ u.cell? ⟨w.heap.size, 2, none⟩ = some (.string ⟨x.ec.toArray⟩) ∧ u.cell? ⟨w.heap.size, 3, none⟩ = some (.string ⟨x.en.toArray⟩) ∧ u.cell? ⟨w.heap.size, 4, none⟩ = some (.string ⟨x.ed.toArray⟩) from fun u hu => HCE.out u (HVB.out.trans (hu.mono HVB.out.size)))
        have D0 := Lib.hid (Below.refl V.heap.size V)
        obtain ⟨y0, y1, y2, y3, y4, y5, y6⟩ := HYC.out _ D0.out
        unfold clC at hV HMP HMR HFP HFR
        try dsimp only at hV HMP HMR HFP HFR
        have HVV := Lib.hid hV
        clear hbw hy hmem hV hbv hblv hky hby ha
        go_wp2_with fail
        rw [← HVV.out]
        (try go_wp2_with fail)
        clear p0 p1 p2 p3 p4 c0 c1 c2 c3 c4 c5 c6
        refine wp_region_held_drew (S := (fun w' => w'.cell? ⟨wa.heap.size, 0, none⟩ = some (.string ⟨y.nm.toArray⟩) ∧ w'.cell? ⟨wa.heap.size, 1, none⟩ = some (.string ⟨y.su.toArray⟩) ∧ w'.cell? ⟨wa.heap.size, 2, none⟩ = some (.bool y.fc) ∧ w'.cell? ⟨wa.heap.size, 3, none⟩ = some (.bool y.ab) ∧ w'.cell? ⟨wa.heap.size, 4, none⟩ = some (.slice y.A1 y.is.length y.c1) ∧ w'.cell? ⟨wa.heap.size, 5, none⟩ = some (.slice y.A2 y.fs.length y.c2) ∧ w'.cell? ⟨wa.heap.size, 6, none⟩ = some (.slice y.A3 y.ms.length y.c3))) (by kernel_rfl) ?_ (fun hHeld => ?_)
        · exact ⟨y0, y1, y2, y3, y4, y5, y6⟩
        refine wpAnyH_take (i := 0) (v := ?v1) rfl (by kernel_rfl) (by kernel_rfl) (by kernel_rfl) (fun _ _ _ h => h) (Or.inl ⟨by kernel_rfl, ?y1⟩) (by assumption) ?r1
        case y1 => (intro w hSw; (try dsimp only at hSw); go_simp; (try with_reducible rfl))
        try simp only [Act.put, List.getElem_toArray, List.getElem_cons_succ, List.getElem_cons_zero, List.setIfInBounds_toArray, List.set_cons_zero, List.set_cons_succ]
        refine wpAnyH_take (i := 1) (v := ?v2) rfl (by kernel_rfl) (by kernel_rfl) (by kernel_rfl) (fun _ _ _ h => h) (Or.inl ⟨by kernel_rfl, ?y2⟩) (by assumption) ?r2
        case y2 => (intro w hSw; (try dsimp only at hSw); go_simp; (try with_reducible rfl))
        try simp only [Act.put, List.getElem_toArray, List.getElem_cons_succ, List.getElem_cons_zero, List.setIfInBounds_toArray, List.set_cons_zero, List.set_cons_succ]
        refine wpAnyH_take (i := 2) (v := ?v3) rfl (by kernel_rfl) (by kernel_rfl) (by kernel_rfl) (fun _ _ _ h => h) (Or.inl ⟨by kernel_rfl, ?y3⟩) (by assumption) ?r3
        case y3 => (intro w hSw; (try dsimp only at hSw); go_simp; (try with_reducible rfl))
        try simp only [Act.put, List.getElem_toArray, List.getElem_cons_succ, List.getElem_cons_zero, List.setIfInBounds_toArray, List.set_cons_zero, List.set_cons_succ]
        refine wpAnyH_take (i := 4) (v := ?v4) rfl (by kernel_rfl) (by kernel_rfl) (by kernel_rfl) (fun _ _ _ h => h) (Or.inl ⟨by kernel_rfl, ?y4⟩) (by assumption) ?r4
        case y4 => (intro w hSw; (try dsimp only at hSw); go_simp; (try with_reducible rfl))
        try simp only [Act.put, List.getElem_toArray, List.getElem_cons_succ, List.getElem_cons_zero, List.setIfInBounds_toArray, List.set_cons_zero, List.set_cons_succ]
        refine wpAnyH_take (i := 5) (v := ?v5) rfl (by kernel_rfl) (by kernel_rfl) (by kernel_rfl) (fun _ _ _ h => h) (Or.inl ⟨by kernel_rfl, ?y5⟩) (by assumption) ?r5
        case y5 => (intro w hSw; (try dsimp only at hSw); go_simp; (try with_reducible rfl))
        try simp only [Act.put, List.getElem_toArray, List.getElem_cons_succ, List.getElem_cons_zero, List.setIfInBounds_toArray, List.set_cons_zero, List.set_cons_succ]
        refine wpAnyH_take (i := 6) (v := ?v6) rfl (by kernel_rfl) (by kernel_rfl) (by kernel_rfl) (fun _ _ _ h => h) (Or.inl ⟨by kernel_rfl, ?y6⟩) (by assumption) ?r6
        case y6 => (intro w hSw; (try dsimp only at hSw); go_simp; (try with_reducible rfl))
        try simp only [Act.put, List.getElem_toArray, List.getElem_cons_succ, List.getElem_cons_zero, List.setIfInBounds_toArray, List.set_cons_zero, List.set_cons_succ]
        refine wpAnyH_ready (rs := [3]) (by kernel_rfl) (by simp) (AllReadyH.cons rfl (fun K hK => ?_) AllReadyH.nil)
        go_simp
        refine (HMP.out _ ?_).mono ?_; (first | exact D0.out | exact overD D0.out); rintro e d1 ⟨r, rfl, ri, hb⟩; have D1 := Lib.hid (show Below V.heap.size V d1 from (by first | exact D0.out.trans (hb.mono D0.out.size) | exact (overD D0.out).trans (hb.mono (overD D0.out).size))); have Ir := Lib.hid ri; clear hb ri; go_wp2_with fail
        refine hK.out _ _ (HYC.out _ D1.out) (fun hHeld => ?_)
        clear hK K
        try simp only [Act.put, List.getElem_toArray, List.getElem_cons_succ, List.getElem_cons_zero, List.setIfInBounds_toArray, List.set_cons_zero, List.set_cons_succ]
        refine wpAnyH_ready (rs := [7]) (by kernel_rfl) (by simp) (AllReadyH.cons rfl (fun K hK => ?_) AllReadyH.nil)
        go_simp
        refine (HMR.out _ ?_).mono ?_; (first | exact D1.out | exact overD D1.out); rintro e d2 ⟨q, rfl, qi, hb⟩; have D2 := Lib.hid (show Below V.heap.size V d2 from (by first | exact D1.out.trans (hb.mono D1.out.size) | exact (overD D1.out).trans (hb.mono (overD D1.out).size))); have Iq := Lib.hid qi; clear hb qi; go_wp2_with fail
        refine hK.out _ _ (HYC.out _ D2.out) (fun hHeld => ?_)
        clear hK K
        try simp only [Act.put, List.getElem_toArray, List.getElem_cons_succ, List.getElem_cons_zero, List.setIfInBounds_toArray, List.set_cons_zero, List.set_cons_succ]
        obtain rfl := idx_same Ir.out Iq.out
        have hne1 : (r != r) = false := by simp
        refine wpAnyH_take (i := 8) (v := ?v7) rfl (by kernel_rfl) (by kernel_rfl) (by kernel_rfl) (fun _ _ _ h => h) (Or.inl ⟨by kernel_rfl, ?y7⟩) (by assumption) ?r7
        case y7 => (intro w hSw; (try dsimp only at hSw); go_simp; (try with_reducible rfl))
        try simp only [Act.put, List.getElem_toArray, List.getElem_cons_succ, List.getElem_cons_zero, List.setIfInBounds_toArray, List.set_cons_zero, List.set_cons_succ]
        refine wpAnyH_take (i := 9) (v := ?v8) rfl (by kernel_rfl) (by kernel_rfl) (by kernel_rfl) (fun _ _ _ h => h) (Or.inl ⟨by kernel_rfl, ?y8⟩) (by assumption) ?r8
        case y8 => (intro w hSw; (try dsimp only at hSw); go_simp; (try with_reducible rfl))
        try simp only [Act.put, List.getElem_toArray, List.getElem_cons_succ, List.getElem_cons_zero, List.setIfInBounds_toArray, List.set_cons_zero, List.set_cons_succ]
        refine wpAnyH_take (i := 10) (v := ?v9) rfl (by kernel_rfl) (by kernel_rfl) (by kernel_rfl) (fun _ _ _ h => h) (Or.inl ⟨by kernel_rfl, ?y9⟩) (by assumption) ?r9
        case y9 => (intro w hSw; (try dsimp only at hSw); go_simp; (try with_reducible rfl))
        try simp only [Act.put, List.getElem_toArray, List.getElem_cons_succ, List.getElem_cons_zero, List.setIfInBounds_toArray, List.set_cons_zero, List.set_cons_succ]
        refine wpAnyH_take (i := 11) (v := ?v10) rfl (by kernel_rfl) (by kernel_rfl) (by kernel_rfl) (fun _ _ _ h => h) (Or.inl ⟨by kernel_rfl, ?y10⟩) (by assumption) ?r10
        case y10 => (intro w hSw; (try dsimp only at hSw); go_simp; (try with_reducible rfl))
        try simp only [Act.put, List.getElem_toArray, List.getElem_cons_succ, List.getElem_cons_zero, List.setIfInBounds_toArray, List.set_cons_zero, List.set_cons_succ]
        refine wpAnyH_take (i := 13) (v := ?v11) rfl (by kernel_rfl) (by kernel_rfl) (by kernel_rfl) (fun _ _ _ h => h) (Or.inl ⟨by kernel_rfl, ?y11⟩) (by assumption) ?r11
        case y11 => (intro w hSw; (try dsimp only at hSw); go_simp; (try with_reducible rfl))
        try simp only [Act.put, List.getElem_toArray, List.getElem_cons_succ, List.getElem_cons_zero, List.setIfInBounds_toArray, List.set_cons_zero, List.set_cons_succ]
        refine wpAnyH_take (i := 14) (v := ?v12) rfl (by kernel_rfl) (by kernel_rfl) (by kernel_rfl) (fun _ _ _ h => h) (Or.inl ⟨by kernel_rfl, ?y12⟩) (by assumption) ?r12
        case y12 => (intro w hSw; (try dsimp only at hSw); go_simp; (try with_reducible rfl))
        try simp only [Act.put, List.getElem_toArray, List.getElem_cons_succ, List.getElem_cons_zero, List.setIfInBounds_toArray, List.set_cons_zero, List.set_cons_succ]
        refine wpAnyH_ready (rs := [12]) (by kernel_rfl) (by simp) (AllReadyH.cons rfl (fun K hK => ?_) AllReadyH.nil)
        go_simp
        refine (HFP.out _ ?_).mono ?_; (first | exact D2.out | exact overD D2.out); rintro e d3 ⟨r2, rfl, r2i, hb⟩; have D3 := Lib.hid (show Below V.heap.size V d3 from (by first | exact D2.out.trans (hb.mono D2.out.size) | exact (overD D2.out).trans (hb.mono (overD D2.out).size))); have Ir2 := Lib.hid r2i; clear hb r2i; go_wp2_with fail
        refine hK.out _ _ (HYC.out _ D3.out) (fun hHeld => ?_)
        clear hK K
        try simp only [Act.put, List.getElem_toArray, List.getElem_cons_succ, List.getElem_cons_zero, List.setIfInBounds_toArray, List.set_cons_zero, List.set_cons_succ]
        refine wpAnyH_ready (rs := [15]) (by kernel_rfl) (by simp) (AllReadyH.cons rfl (fun K hK => ?_) AllReadyH.nil)
        go_simp
        refine (HFR.out _ ?_).mono ?_; (first | exact D3.out | exact overD D3.out); rintro e d4 ⟨q2, rfl, q2i, hb⟩; have D4 := Lib.hid (show Below V.heap.size V d4 from (by first | exact D3.out.trans (hb.mono D3.out.size) | exact (overD D3.out).trans (hb.mono (overD D3.out).size))); have Iq2 := Lib.hid q2i; clear hb q2i; go_wp2_with fail
        refine hK.out _ _ (HYC.out _ D4.out) (fun hHeld => ?_)
        clear hK K
        try simp only [Act.put, List.getElem_toArray, List.getElem_cons_succ, List.getElem_cons_zero, List.setIfInBounds_toArray, List.set_cons_zero, List.set_cons_succ]
        obtain rfl := idx_same Ir2.out Iq2.out
        have hne2 : (r2 != r2) = false := by simp
        refine wpAnyH_take (i := 16) (v := ?v13) rfl (by kernel_rfl) (by kernel_rfl) (by kernel_rfl) (fun _ _ _ h => h) (Or.inl ⟨by kernel_rfl, ?y13⟩) (by assumption) ?r13
        case y13 => (intro w hSw; (try dsimp only at hSw); go_simp; (try with_reducible rfl))
        try simp only [Act.put, List.getElem_toArray, List.getElem_cons_succ, List.getElem_cons_zero, List.setIfInBounds_toArray, List.set_cons_zero, List.set_cons_succ]
        refine wpAnyH_take (i := 17) (v := ?v14) rfl (by kernel_rfl) (by kernel_rfl) (by kernel_rfl) (fun _ _ _ h => h) (Or.inl ⟨by kernel_rfl, ?y14⟩) (by assumption) ?r14
        case y14 => (intro w hSw; (try dsimp only at hSw); go_simp; (try with_reducible rfl))
        try simp only [Act.put, List.getElem_toArray, List.getElem_cons_succ, List.getElem_cons_zero, List.setIfInBounds_toArray, List.set_cons_zero, List.set_cons_succ]
        refine wpAnyH_done (by kernel_rfl) ?_ _
        clear y0 y1 y2 y3 y4 y5 y6
        obtain ⟨y0, -, -, -, -, -, -⟩ := HYC.out _ D4.out
        obtain ⟨p0, p1, p2, p3, p4⟩ := HPC.out _ D4.out
        go_wp2_with fail
        refine wp_region_held_drew (S := (fun w' => w'.cell? ⟨wa.heap.size, 0, none⟩ = some (.string ⟨y.nm.toArray⟩) ∧ w'.cell? ⟨w.heap.size, 0, none⟩ = some (.slice (some a) n x.c1) ∧ w'.cell? ⟨w.heap.size, 1, none⟩ = some (.slice x.A2 x.ns.length x.c2) ∧ w'.cell? ⟨w.heap.size, 2, none⟩ = some (.string ⟨x.ec.toArray⟩) ∧ w'.cell? ⟨w.heap.size, 3, none⟩ = some (.string ⟨x.en.toArray⟩) ∧ w'.cell? ⟨w.heap.size, 4, none⟩ = some (.string ⟨x.ed.toArray⟩))) (by kernel_rfl) ?_ (fun hHeld => ?_)
        · exact ⟨y0, p0, p1, p2, p3, p4⟩
        refine wpAnyH_take (i := 0) (v := ?v15) rfl (by kernel_rfl) (by kernel_rfl) (by kernel_rfl) (fun _ _ _ h => h) (Or.inl ⟨by kernel_rfl, ?y15⟩) (by assumption) ?r15
        case y15 => (intro w hSw; (try dsimp only at hSw); go_simp; (try with_reducible rfl))
        try simp only [Act.put, List.getElem_toArray, List.getElem_cons_succ, List.getElem_cons_zero, List.setIfInBounds_toArray, List.set_cons_zero, List.set_cons_succ]
        refine wpAnyH_take (i := 1) (v := ?v16) rfl (by kernel_rfl) (by kernel_rfl) (by kernel_rfl) (fun _ _ _ h => h) (Or.inl ⟨by kernel_rfl, ?y16⟩) (by assumption) ?r16
        case y16 => (intro w hSw; (try dsimp only at hSw); go_simp; (try with_reducible rfl))
        try simp only [Act.put, List.getElem_toArray, List.getElem_cons_succ, List.getElem_cons_zero, List.setIfInBounds_toArray, List.set_cons_zero, List.set_cons_succ]
        refine wpAnyH_take (i := 2) (v := ?v17) rfl (by kernel_rfl) (by kernel_rfl) (by kernel_rfl) (fun _ _ _ h => h) (Or.inl ⟨by kernel_rfl, ?y17⟩) (by assumption) ?r17
        case y17 => (intro w hSw; (try dsimp only at hSw); go_simp; (try with_reducible rfl))
        try simp only [Act.put, List.getElem_toArray, List.getElem_cons_succ, List.getElem_cons_zero, List.setIfInBounds_toArray, List.set_cons_zero, List.set_cons_succ]
        refine wpAnyH_take (i := 4) (v := ?v18) rfl (by kernel_rfl) (by kernel_rfl) (by kernel_rfl) (fun _ _ _ h => h) (Or.inl ⟨by kernel_rfl, ?y18⟩) (by assumption) ?r18
        case y18 => (intro w hSw; (try dsimp only at hSw); go_simp; (try with_reducible rfl))
        try simp only [Act.put, List.getElem_toArray, List.getElem_cons_succ, List.getElem_cons_zero, List.setIfInBounds_toArray, List.set_cons_zero, List.set_cons_succ]
        refine wpAnyH_take (i := 5) (v := ?v19) rfl (by kernel_rfl) (by kernel_rfl) (by kernel_rfl) (fun _ _ _ h => h) (Or.inl ⟨by kernel_rfl, ?y19⟩) (by assumption) ?r19
        case y19 => (intro w hSw; (try dsimp only at hSw); go_simp; (try with_reducible rfl))
        try simp only [Act.put, List.getElem_toArray, List.getElem_cons_succ, List.getElem_cons_zero, List.setIfInBounds_toArray, List.set_cons_zero, List.set_cons_succ]
        refine wpAnyH_take (i := 6) (v := ?v20) rfl (by kernel_rfl) (by kernel_rfl) (by kernel_rfl) (fun _ _ _ h => h) (Or.inl ⟨by kernel_rfl, ?y20⟩) (by assumption) ?r20
        case y20 => (intro w hSw; (try dsimp only at hSw); go_simp; (try with_reducible rfl))
        try simp only [Act.put, List.getElem_toArray, List.getElem_cons_succ, List.getElem_cons_zero, List.setIfInBounds_toArray, List.set_cons_zero, List.set_cons_succ]
        refine wpAnyH_ready (rs := [3]) (by kernel_rfl) (by simp) (AllReadyH.cons rfl (fun K hK => ?_) AllReadyH.nil)
        go_simp
        refine (HCP.out y.nm _ ?_).mono ?_; (first | exact HVB.out.trans (D4.out.mono HVB.out.size) | exact overD (HVB.out.trans (D4.out.mono HVB.out.size))); rintro e d5 ⟨r3, rfl, r3i, hb⟩; have D5 := Lib.hid (show Below V.heap.size V d5 from (by first | exact D4.out.trans (hb.mono D4.out.size) | exact (overD D4.out).trans (hb.mono (overD D4.out).size))); have Ir3 := Lib.hid r3i; clear hb r3i; go_wp2_with fail
        refine hK.out _ _ ⟨(HYC.out _ D5.out).1, HPC.out _ D5.out⟩ (fun hHeld => ?_)
        clear hK K
        try simp only [Act.put, List.getElem_toArray, List.getElem_cons_succ, List.getElem_cons_zero, List.setIfInBounds_toArray, List.set_cons_zero, List.set_cons_succ]
        refine wpAnyH_ready (rs := [7]) (by kernel_rfl) (by simp) (AllReadyH.cons rfl (fun K hK => ?_) AllReadyH.nil)
        go_simp
        refine (HCR.out y.nm _ ?_).mono ?_; (first | exact HVB.out.trans (D5.out.mono HVB.out.size) | exact overD (HVB.out.trans (D5.out.mono HVB.out.size))); rintro e d6 ⟨q3, rfl, q3i, hb⟩; have D6 := Lib.hid (show Below V.heap.size V d6 from (by first | exact D5.out.trans (hb.mono D5.out.size) | exact (overD D5.out).trans (hb.mono (overD D5.out).size))); have Iq3 := Lib.hid q3i; clear hb q3i; go_wp2_with fail
        refine hK.out _ _ ⟨(HYC.out _ D6.out).1, HPC.out _ D6.out⟩ (fun hHeld => ?_)
        clear hK K
        try simp only [Act.put, List.getElem_toArray, List.getElem_cons_succ, List.getElem_cons_zero, List.setIfInBounds_toArray, List.set_cons_zero, List.set_cons_succ]
        obtain rfl := idx_same Ir3.out Iq3.out
        have hne3 : (r3 != r3) = false := by simp
        refine wpAnyH_take (i := 8) (v := ?v21) rfl (by kernel_rfl) (by kernel_rfl) (by kernel_rfl) (fun _ _ _ h => h) (Or.inl ⟨by kernel_rfl, ?y21⟩) (by assumption) ?r21
        case y21 => (intro w hSw; (try dsimp only at hSw); go_simp; (try with_reducible rfl))
        try simp only [Act.put, List.getElem_toArray, List.getElem_cons_succ, List.getElem_cons_zero, List.setIfInBounds_toArray, List.set_cons_zero, List.set_cons_succ]
        refine wpAnyH_done (by kernel_rfl) ?_ _
        have HB9 := Lib.hid (HVB.out.trans (D6.out.mono HVB.out.size))
        go_wp2
        go_roundw
        case rel => exact ⟨k + 1, by go_num, by omega, HB9.out⟩
        case measure => simp [intOf]; omega
      · have hltI : ¬ (k : Int) < (n : Int) := by omega
        have K10 := Lib.hid hbw
        clear hbw
        go_wp2_with fail
        refine wp_region_held_drew (S := (fun w' => w'.cell? ⟨w.heap.size, 0, none⟩ = some (.slice A1 n x.c1) ∧ w'.cell? ⟨w.heap.size, 1, none⟩ = some (.slice x.A2 x.ns.length x.c2) ∧ w'.cell? ⟨w.heap.size, 2, none⟩ = some (.string ⟨x.ec.toArray⟩) ∧ w'.cell? ⟨w.heap.size, 3, none⟩ = some (.string ⟨x.en.toArray⟩) ∧ w'.cell? ⟨w.heap.size, 4, none⟩ = some (.string ⟨x.ed.toArray⟩))) (by kernel_rfl) ?_ (fun hHeld => ?_)
        · exact ⟨p0, p1, p2, p3, p4⟩
        refine wpAnyH_ready (rs := [0]) (by kernel_rfl) (by simp) (AllReadyH.cons rfl (fun K hK => ?_) AllReadyH.nil)
        go_simp
        refine (HLV.out _ ?_).mono ?_; (first | exact K10.out | exact overD K10.out); rintro e k11 ⟨rfl, hb⟩; have K11 := Lib.hid (show Below W.heap.size W k11 from (by first | exact K10.out.trans (hb.mono K10.out.size) | exact (overD K10.out).trans (hb.mono (overD K10.out).size))); clear hb; go_wp2_with fail
        refine hK.out _ _ (HCE.out _ K11.out) (fun hHeld => ?_)
        clear hK K
        try simp only [Act.put, List.getElem_toArray, List.getElem_cons_succ, List.getElem_cons_zero, List.setIfInBounds_toArray, List.set_cons_zero, List.set_cons_succ]
        refine wpAnyH_take (i := 1) (v := ?v22) rfl (by kernel_rfl) (by kernel_rfl) (by kernel_rfl) (fun _ _ _ h => h) (Or.inl ⟨by kernel_rfl, ?y22⟩) (by assumption) ?r22
        case y22 => (intro w hSw; (try dsimp only at hSw); go_simp; (try with_reducible rfl))
        try simp only [Act.put, List.getElem_toArray, List.getElem_cons_succ, List.getElem_cons_zero, List.setIfInBounds_toArray, List.set_cons_zero, List.set_cons_succ]
        refine wpAnyH_take (i := 2) (v := ?v23) rfl (by kernel_rfl) (by kernel_rfl) (by kernel_rfl) (fun _ _ _ h => h) (Or.inl ⟨by kernel_rfl, ?y23⟩) (by assumption) ?r23
        case y23 => (intro w hSw; (try dsimp only at hSw); go_simp; (try with_reducible rfl))
        try simp only [Act.put, List.getElem_toArray, List.getElem_cons_succ, List.getElem_cons_zero, List.setIfInBounds_toArray, List.set_cons_zero, List.set_cons_succ]
        refine wpAnyH_take (i := 3) (v := ?v24) rfl (by kernel_rfl) (by kernel_rfl) (by kernel_rfl) (fun _ _ _ h => h) (Or.inl ⟨by kernel_rfl, ?y24⟩) (by assumption) ?r24
        case y24 => (intro w hSw; (try dsimp only at hSw); go_simp; (try with_reducible rfl))
        try simp only [Act.put, List.getElem_toArray, List.getElem_cons_succ, List.getElem_cons_zero, List.setIfInBounds_toArray, List.set_cons_zero, List.set_cons_succ]
        refine wpAnyH_take (i := 5) (v := ?v25) rfl (by kernel_rfl) (by kernel_rfl) (by kernel_rfl) (fun _ _ _ h => h) (Or.inl ⟨by kernel_rfl, ?y25⟩) (by assumption) ?r25
        case y25 => (intro w hSw; (try dsimp only at hSw); go_simp; (try with_reducible rfl))
        try simp only [Act.put, List.getElem_toArray, List.getElem_cons_succ, List.getElem_cons_zero, List.setIfInBounds_toArray, List.set_cons_zero, List.set_cons_succ]
        refine wpAnyH_take (i := 6) (v := ?v26) rfl (by kernel_rfl) (by kernel_rfl) (by kernel_rfl) (fun _ _ _ h => h) (Or.inl ⟨by kernel_rfl, ?y26⟩) (by assumption) ?r26
        case y26 => (intro w hSw; (try dsimp only at hSw); go_simp; (try with_reducible rfl))
        try simp only [Act.put, List.getElem_toArray, List.getElem_cons_succ, List.getElem_cons_zero, List.setIfInBounds_toArray, List.set_cons_zero, List.set_cons_succ]
        refine wpAnyH_ready (rs := [4]) (by kernel_rfl) (by simp) (AllReadyH.cons rfl (fun K hK => ?_) AllReadyH.nil)
        go_simp
        refine (HCP.out s _ ?_).mono ?_; (first | exact K11.out | exact overD K11.out); rintro e k12 ⟨r4, rfl, r4i, hb⟩; have K12 := Lib.hid (show Below W.heap.size W k12 from (by first | exact K11.out.trans (hb.mono K11.out.size) | exact (overD K11.out).trans (hb.mono (overD K11.out).size))); have Ir4 := Lib.hid r4i; clear hb r4i; go_wp2_with fail
        refine hK.out _ _ (HCE.out _ K12.out) (fun hHeld => ?_)
        clear hK K
        try simp only [Act.put, List.getElem_toArray, List.getElem_cons_succ, List.getElem_cons_zero, List.setIfInBounds_toArray, List.set_cons_zero, List.set_cons_succ]
        refine wpAnyH_ready (rs := [7]) (by kernel_rfl) (by simp) (AllReadyH.cons rfl (fun K hK => ?_) AllReadyH.nil)
        go_simp
        refine (HCR.out s _ ?_).mono ?_; (first | exact K12.out | exact overD K12.out); rintro e k13 ⟨q4, rfl, q4i, hb⟩; have K13 := Lib.hid (show Below W.heap.size W k13 from (by first | exact K12.out.trans (hb.mono K12.out.size) | exact (overD K12.out).trans (hb.mono (overD K12.out).size))); have Iq4 := Lib.hid q4i; clear hb q4i; go_wp2_with fail
        refine hK.out _ _ (HCE.out _ K13.out) (fun hHeld => ?_)
        clear hK K
        try simp only [Act.put, List.getElem_toArray, List.getElem_cons_succ, List.getElem_cons_zero, List.setIfInBounds_toArray, List.set_cons_zero, List.set_cons_succ]
        obtain rfl := idx_same Ir4.out Iq4.out
        have heq4 : (r4 == r4) = true := by simp
        refine wpAnyH_take (i := 8) (v := ?v27) rfl (by kernel_rfl) (by kernel_rfl) (by kernel_rfl) (fun _ _ _ h => h) (Or.inl ⟨by kernel_rfl, ?y27⟩) (by assumption) ?r27
        case y27 => (intro w hSw; (try dsimp only at hSw); go_simp; (try with_reducible rfl))
        try simp only [Act.put, List.getElem_toArray, List.getElem_cons_succ, List.getElem_cons_zero, List.setIfInBounds_toArray, List.set_cons_zero, List.set_cons_succ]
        refine wpAnyH_take (i := 9) (v := ?v28) rfl (by kernel_rfl) (by kernel_rfl) (by kernel_rfl) (fun _ _ _ h => h) (Or.inl ⟨by kernel_rfl, ?y28⟩) (by assumption) ?r28
        case y28 => (intro w hSw; (try dsimp only at hSw); go_simp; (try with_reducible rfl))
        try simp only [Act.put, List.getElem_toArray, List.getElem_cons_succ, List.getElem_cons_zero, List.setIfInBounds_toArray, List.set_cons_zero, List.set_cons_succ]
        refine wpAnyH_take (i := 10) (v := ?v29) rfl (by kernel_rfl) (by kernel_rfl) (by kernel_rfl) (fun _ _ _ h => h) (Or.inl ⟨by kernel_rfl, ?y29⟩) (by assumption) ?r29
        case y29 => (intro w hSw; (try dsimp only at hSw); go_simp; (try with_reducible rfl))
        try simp only [Act.put, List.getElem_toArray, List.getElem_cons_succ, List.getElem_cons_zero, List.setIfInBounds_toArray, List.set_cons_zero, List.set_cons_succ]
        refine wpAnyH_take (i := 11) (v := ?v30) rfl (by kernel_rfl) (by kernel_rfl) (by kernel_rfl) (fun _ _ _ h => h) (Or.inl ⟨by kernel_rfl, ?y30⟩) (by assumption) ?r30
        case y30 => (intro w hSw; (try dsimp only at hSw); go_simp; (try with_reducible rfl))
        try simp only [Act.put, List.getElem_toArray, List.getElem_cons_succ, List.getElem_cons_zero, List.setIfInBounds_toArray, List.set_cons_zero, List.set_cons_succ]
        refine wpAnyH_take (i := 13) (v := ?v31) rfl (by kernel_rfl) (by kernel_rfl) (by kernel_rfl) (fun _ _ _ h => h) (Or.inl ⟨by kernel_rfl, ?y31⟩) (by assumption) ?r31
        case y31 => (intro w hSw; (try dsimp only at hSw); go_simp; (try with_reducible rfl))
        try simp only [Act.put, List.getElem_toArray, List.getElem_cons_succ, List.getElem_cons_zero, List.setIfInBounds_toArray, List.set_cons_zero, List.set_cons_succ]
        refine wpAnyH_ready (rs := [12]) (by kernel_rfl) (by simp) (AllReadyH.cons rfl (fun K hK => ?_) AllReadyH.nil)
        go_simp
        refine (HSP.out _ ?_ HGP.out).mono ?_; (first | exact K13.out | exact overD K13.out); rintro e k14 ⟨⟨Am, cm, rfl, mr⟩, hb⟩; have K14 := Lib.hid (show Below W.heap.size W k14 from (by first | exact K13.out.trans (hb.mono K13.out.size) | exact (overD K13.out).trans (hb.mono (overD K13.out).size))); have Rm := Lib.hid (Below.refl k14.heap.size k14); have Dm := Lib.hid mr; clear hb mr; go_wp2_with fail
        refine hK.out _ _ (HCE.out _ K14.out) (fun hHeld => ?_)
        clear hK K
        try simp only [Act.put, List.getElem_toArray, List.getElem_cons_succ, List.getElem_cons_zero, List.setIfInBounds_toArray, List.set_cons_zero, List.set_cons_succ]
        refine wpAnyH_ready (rs := [14]) (by kernel_rfl) (by simp) (AllReadyH.cons rfl (fun K hK => ?_) AllReadyH.nil)
        go_simp
        refine (HSR.out _ ?_ HGP.out).mono ?_; (first | exact K14.out | exact overD K14.out); rintro e k15 ⟨⟨Al, cl, rfl, lr⟩, hb⟩; have mr := Dm.out.below (by first | exact hb | exact under hb | exact ⟨hb.os, hb.tape, hb.output, hb.size, hb.block⟩); have K15 := Lib.hid (show Below W.heap.size W k15 from (by first | exact K14.out.trans (hb.mono K14.out.size) | exact (overD K14.out).trans (hb.mono (overD K14.out).size))); have T5 := Lib.hid (HST.out HGP.out Am Al cm cl k15 mr lr); clear hb lr mr; go_wp2_with fail
        refine hK.out _ _ (HCE.out _ K15.out) (fun hHeld => ?_)
        clear hK K
        try simp only [Act.put, List.getElem_toArray, List.getElem_cons_succ, List.getElem_cons_zero, List.setIfInBounds_toArray, List.set_cons_zero, List.set_cons_succ]
        refine wpAnyH_ready (rs := [15]) (by kernel_rfl) (by simp) (AllReadyH.cons rfl (fun K hK => ?_) AllReadyH.nil)
        go_simp
        refine T5.out.mono ?_; rintro e k16 ⟨rfl, hb⟩; have K16 := Lib.hid (show Below W.heap.size W k16 from (by first | exact K15.out.trans (hb.mono K15.out.size) | exact (overD K15.out).trans (hb.mono (overD K15.out).size))); clear hb; go_wp2_with fail
        refine hK.out _ _ (HCE.out _ K16.out) (fun hHeld => ?_)
        clear hK K
        try simp only [Act.put, List.getElem_toArray, List.getElem_cons_succ, List.getElem_cons_zero, List.setIfInBounds_toArray, List.set_cons_zero, List.set_cons_succ]
        refine wpAnyH_take (i := 16) (v := ?v32) rfl (by kernel_rfl) (by kernel_rfl) (by kernel_rfl) (fun _ _ _ h => h) (Or.inl ⟨by kernel_rfl, ?y32⟩) (by assumption) ?r32
        case y32 => (intro w hSw; (try dsimp only at hSw); go_simp; (try with_reducible rfl))
        try simp only [Act.put, List.getElem_toArray, List.getElem_cons_succ, List.getElem_cons_zero, List.setIfInBounds_toArray, List.set_cons_zero, List.set_cons_succ]
        refine wpAnyH_take (i := 17) (v := ?v33) rfl (by kernel_rfl) (by kernel_rfl) (by kernel_rfl) (fun _ _ _ h => h) (Or.inl ⟨by kernel_rfl, ?y33⟩) (by assumption) ?r33
        case y33 => (intro w hSw; (try dsimp only at hSw); go_simp; (try with_reducible rfl))
        try simp only [Act.put, List.getElem_toArray, List.getElem_cons_succ, List.getElem_cons_zero, List.setIfInBounds_toArray, List.set_cons_zero, List.set_cons_succ]
        refine wpAnyH_done (by kernel_rfl) ?_ _
        go_wp2
        go_ret
        exact ⟨rfl, HAL.out.trans (K16.out.mono HAL.out.size)⟩
theorem walk (x : PrM) (s d : ByteArray) (w : World) (hk : PrOk w x) (hb : PrBd x) (_ : s.size ≤ 140737488351232) (_ : d.size ≤ 140737488351232) (hs : Sh w) (hv : Vd w) (hm : Mx w) : Calls Tryz.prog 5 #[.agg (prC x).toArray, .string s, .string d] w fun e w' => e = .returned (.bool true) ∧ Below w.heap.size w w' :=
  walk_t x s.data.toList d.data.toList w hk hb hs hv hm
end Go.Proofs.YtjahilfapcljiaaGreatDoor.normPlaces

/- NormK -/
import Derived.Test.YtgociheckcpjkaaGreatDoorNormE
namespace Go.Proofs.YtgociheckcpjkaaGreatDoor.prg
open Go.RowKit
open words kindp opp op kind word
set_option maxRecDepth 100000
set_option maxHeartbeats 8000000
set_option linter.all false
theorem or_w (A : Option Addr) (c : Nat) (a b : Int) (w : World) (hr : Rd w A [.int .i64 a, .int .i64 b]) :
  Calls Tryz.prog 64 #[.slice A 2 c] w fun e w' => e = .returned (.int .i64 (if a = 0 then b else a)) ∧ Below w.heap.size w w' := by
 obtain ⟨R, hR⟩ : ∃ R, R = if a = 0 then b else a := ⟨_, rfl⟩
 rw [← hR]
 have HF := hh (show ∀ (k : Nat) (x : Int), [a, b][k]? = some x → (0 < k → a = 0) → x ≠ 0 → R = x from by
  intro k x hx h0 hne
  match k, hx, h0 with
  | 0, hx, _ => simp at hx; subst hx; rw [hR, if_neg hne]
  | 1, hx, h0 => simp at hx; subst hx; rw [hR, if_pos (h0 (by omega))]
  | k + 2, hx, _ => simp at hx)
 have HN := hh (show ∀ (k : Nat) (x : Int), [a, b][k]? = some x → x = 0 → (k = 0 → a = 0) ∧ (k = 1 → b = 0) from by
  intro k x hx h0
  match k, hx with
  | 0, hx => simp at hx; subst hx; exact ⟨fun _ => h0, fun h => by omega⟩
  | 1, hx => simp at hx; subst hx; exact ⟨fun h => by omega, fun _ => h0⟩
  | k + 2, hx => simp at hx)
 have HT := hh (show a = 0 → b = 0 → R = 0 from fun h1 h2 => by rw [hR, if_pos h1, h2])
 have HRD := hh hr
 clear hr hR
 go_enter Tryz.func64, Tryz.ntmps64
 go_wp2
 go_loopw [8] (fun i wr => ∃ k : Nat, i = .int .i64 (k : Int) ∧ k ≤ 2 ∧ (0 < k → a = 0) ∧ (1 < k → b = 0) ∧ Below w.heap.size w wr) (fun i _ => 2 - (intOf i).toNat)
 case atStart => exact ⟨0, rfl, Nat.zero_le _, fun h => by omega, fun h => by omega, Below.refl _ _⟩
 case round =>
  obtain ⟨k, rfl, hk, h0, h1, hbw⟩ := hrel
  have H0 := hh h0; have H1 := hh h1; have HB := hh hbw
  clear h0 h1
  by_cases hlt : k < 2
  ·have hltI : (k : Int) < 2 := by omega
   obtain ⟨x, hx⟩ : ∃ x, [a, b][k]? = some x := ⟨[a, b][k]'(by simpa using hlt), List.getElem?_eq_getElem _⟩
   obtain ⟨ad, rfl, ha, c0⟩ := (HRD.out.below hbw).at_ (u := .int .i64 x) (j := k) (by
    match k, hx with
    | 0, hx => simp at hx; subst hx; rfl
    | 1, hx => simp at hx; subst hx; rfl
    | k + 2, hx => simp at hx)
   by_cases hz : x = 0
   ·have HNX := hh (HN.out k x hx hz)
    have g : (x != 0) = false := by rw [hz]; rfl
    clear hx ha hz hbw
    go_wp2
    go_roundw
    case rel => exact ⟨k + 1, by go_num, by omega, fun _ => by rcases Nat.eq_zero_or_pos k with h | h; exact HNX.out.1 h; exact H0.out h, fun h => HNX.out.2 (by omega), HB.out⟩
    case measure => simp [intOf]; omega
   ·have HFX := hh (HF.out k x hx H0.out hz)
    have g : (x != 0) = true := by rw [bne_iff_ne]; exact hz
    clear hx ha hz hbw
    go_wp2
    go_ret
    exact ⟨by rw [HFX.out]; rfl, HB.out⟩
  ·have hltI : ¬ (k : Int) < 2 := by omega
   have HRT := hh (HT.out (H0.out (by omega)) (H1.out (by omega)))
   clear hbw
   go_wp2
   go_ret
   exact ⟨by rw [HRT.out]; rfl, HB.out⟩
theorem or_sign (x y : MeM) : (0 ≤ (if cmpI x.nm y.nm = 0 then cmpI x.ds y.ds else cmpI x.nm y.nm)) ↔ ltM x y = false := by
 have e : ∀ a b : Tx, cmpI a b = 0 ↔ a = b := by
  intro a b
  unfold cmpI
  rcases tri a b with h | ⟨h, h1⟩ | ⟨h, h1, h2⟩
  ·rw [if_pos h]; constructor
   ·intro k; omega
   ·intro k; subst k; exact absurd h (List.lt_irrefl a)
  ·subst h1; rw [if_neg h]; simp
  ·rw [if_neg h]; constructor
   ·intro k; split at k <;> simp_all
   ·intro k; exact absurd k h1
 have s1 := cmp_sign x.nm y.nm
 have s2 := cmp_sign x.ds y.ds
 unfold ltM
 by_cases h : cmpI x.nm y.nm = 0
 ·have h' := (e _ _).1 h
  rw [if_pos h, s2]
  have h3 : ltT x.nm y.nm = false := s1.1 (by omega)
  rw [h3, h']; simp
 ·have h' : ¬ x.nm = y.nm := fun k => h ((e _ _).2 k)
  have h4 : (x.nm == y.nm) = false := by simpa using h'
  rw [if_neg h, s1, h4]; simp
theorem byMethod_w (x y : MeM) (w : World) : Calls Tryz.prog 24 #[.agg (meC x).toArray, .agg (meC y).toArray] w fun e w' => ∃ r : Int, e = .returned (.int .i64 r) ∧ ((0 ≤ r) ↔ ltM x y = false) ∧ Below w.heap.size w w' := by
 obtain ⟨W, hW⟩ : ∃ W, W = (w.alloc (.cells (meC x).toArray 38)).alloc (.cells (meC y).toArray 38) := ⟨_, rfl⟩
 have hal : Below w.heap.size w W := by rw [hW]; exact ((Below.refl _ w).alloc (Nat.le_refl _) _).alloc (by simp) _
 have HAL := hh hal
 have hsz := hal.size
 have hbi : W.heap[w.heap.size]? = some (.cells (meC x).toArray 38 (0, 0)) := by rw [hW]; exact (Below.heap_alloc _ _ _ (by simp)).trans (heap_alloc_new w _)
 have hbj : W.heap[w.heap.size + 1]? = some (.cells (meC y).toArray 38 (0, 0)) := by
  rw [hW]
  have := heap_alloc_new (w.alloc (.cells (meC x).toArray 38)) (.cells (meC y).toArray 38)
  rwa [World.size_alloc] at this
 have x0 := (me_cells hbi).1
 have y0 := (me_cells hbj).1
 have x1 := (me_cells hbi).2.1
 have y1 := (me_cells hbj).2.1
 have HC0 := hh (fun w => cmp_w x.nm y.nm w)
 have HC1 := hh (fun w => cmp_w x.ds y.ds w)
 have HS := hh (or_sign x y)
 have HBI := hh (blk_lt hbi); have HBJ := hh (blk_lt hbj)
 generalize cmpI x.nm y.nm = r0 at *
 generalize cmpI x.ds y.ds = r1 at *
 have HOR := hh (fun A c w h => or_w A c r0 r1 w h)
 generalize (if r0 = 0 then r1 else r0) = rr at HOR HS
 unfold meC at hW ⊢
 have HW := hh hW
 have X0 := hh x0; have X1 := hh x1; have Y0 := hh y0; have Y1 := hh y1
 clear hal hbi hbj hW
 go_enter Tryz.func24, Tryz.ntmps24
 go_wp2_with fail
 try simp only [World.size_alloc]
 rw [← HW.out]
 (try go_wp2_with fail)
 refine wp_region_held_drew (S := (fun w' => w'.cell? ⟨w.heap.size, 0, none⟩ = some (.string ⟨x.nm.toArray⟩) ∧ w'.cell? ⟨w.heap.size, 1, none⟩ = some (.string ⟨x.ds.toArray⟩) ∧ w'.cell? ⟨w.heap.size + 1, 0, none⟩ = some (.string ⟨y.nm.toArray⟩) ∧ w'.cell? ⟨w.heap.size + 1, 1, none⟩ = some (.string ⟨y.ds.toArray⟩))) (by kernel_rfl) ?_ (fun hHeld => ?_)
 ·exact ⟨x0, x1, y0, y1⟩
 refine tkp 0 rfl ?_
 refine tkp 1 rfl ?_
 refine tkp 2 rfl ?_
 refine tkp 3 rfl ?_
 refine tkp 5 rfl ?_
 refine tkp 6 rfl ?_
 refine tkp 7 rfl ?_
 refine tkp 8 rfl ?_
 refine rdy 4 rfl (fun K hK => ?_)
 go_simp
 refine (HC0.out _).mono ?_; rintro e v0 ⟨rfl, rfl⟩; go_wp2_with fail
 refine hK.out _ _ (by assumption) (fun hHeld => ?_)
 clear hK K
 try simp only [puts]
 refine rdy 9 rfl (fun K hK => ?_)
 go_simp
 refine (HC1.out _).mono ?_; rintro e v0 ⟨rfl, rfl⟩; go_wp2_with fail
 refine hK.out _ _ (by assumption) (fun hHeld => ?_)
 clear hK K
 try simp only [puts]
 refine rdy 10 rfl (fun K hK => ?_)
 go_simp
 have k0 : Below W.heap.size W (W.alloc (.cells #[.int .i64 r0, .int .i64 r1] 3)).drew := overD ((Below.refl _ _).alloc (Nat.le_refl _) _); have hnw : (W.alloc (.cells #[.int .i64 r0, .int .i64 r1] 3)).drew.heap[W.heap.size]? = some (.cells #[.int .i64 r0, .int .i64 r1] 3 (0, 0)) := heap_alloc_new W _; have p0 := (k0.cell (p := ⟨w.heap.size, 0, none⟩) HBI.out).trans X0.out; have p1 := (k0.cell (p := ⟨w.heap.size, 1, none⟩) HBI.out).trans X1.out; have p2 := (k0.cell (p := ⟨w.heap.size + 1, 0, none⟩) HBJ.out).trans Y0.out; have p3 := (k0.cell (p := ⟨w.heap.size + 1, 1, none⟩) HBJ.out).trans Y1.out; have K0 := hh k0; have HNW := hh hnw; clear k0 hnw
 refine hK.out _ _ ⟨p0, p1, p2, p3⟩ (fun hHeld => ?_)
 clear hK K
 try simp only [puts]
 refine rdy 11 rfl (fun K hK => ?_)
 go_simp
 refine (HOR.out _ _ _ ?_).mono ?_; exact rd_blk HNW.out (k := 2) rfl; rintro e v1 ⟨rfl, hb⟩; have k1 : Below W.heap.size W v1 := (K0.out.trans (hb.mono K0.out.size)); have a0x1 := (k1.cell (p := ⟨w.heap.size, 0, none⟩) HBI.out).trans X0.out; have a1x1 := (k1.cell (p := ⟨w.heap.size, 1, none⟩) HBI.out).trans X1.out; have b0x1 := (k1.cell (p := ⟨w.heap.size + 1, 0, none⟩) HBJ.out).trans Y0.out; have b1x1 := (k1.cell (p := ⟨w.heap.size + 1, 1, none⟩) HBJ.out).trans Y1.out; have K1 := hh k1; clear k1 hb; go_wp2_with fail
 refine hK.out _ _ ⟨a0x1, a1x1, b0x1, b1x1⟩ (fun hHeld => ?_)
 clear hK K
 try simp only [puts]
 refine tkp 12 rfl ?_
 refine wpAnyH_done (by kernel_rfl) ?_ _
 (try go_wp2_with fail)
 go_ret
 exact ⟨_, rfl, HS.out, HAL.out.trans (K1.out.mono HAL.out.size)⟩
theorem cmp_o (x y : Tx) (w : World) : Calls Tryz.prog 35 #[.string ⟨x.toArray⟩, .string ⟨y.toArray⟩] w fun e w' => ∃ r : Int, e = .returned (.int .i64 r) ∧ ((0 ≤ r) ↔ ltT x y = false) ∧ Below w.heap.size w w' :=
 (cmp_w x y w).mono fun _ _ ⟨h1, h2⟩ => ⟨_, h1, cmp_sign x y, by rw [h2]; exact Below.refl _ _⟩
theorem orderC_w (x : ClM) (w : World) (hk : ClOk w x) (h1 : x.is.length ≤ 281474976710656) (h2 : x.fs.length ≤ 281474976710656) (h3 : x.ms.length ≤ 281474976710656) : Calls Tryz.prog 33 #[.agg (clC x).toArray] w fun e w' => e = .returned (.bool (orderC x)) ∧ Below w.heap.size w w' := by
 obtain ⟨W, hW⟩ : ∃ W, W = w.alloc (.cells (clC x).toArray 35) := ⟨_, rfl⟩
 have hal : Below w.heap.size w W := by rw [hW]; exact (Below.refl _ w).alloc (Nat.le_refl _) _
 have HAL := hh hal
 have hblk : W.heap[w.heap.size]? = some (.cells (clC x).toArray 35 (0, 0)) := by rw [hW]; exact heap_alloc_new w _
 have HBK := hh hblk; have HLT := hh (blk_lt hblk)
 obtain ⟨x0_0, x0_1, x0_2, x0_3, x0_4, x0_5, x0_6⟩ := cl_cells hblk
 have K0 := hh (Below.refl W.heap.size W)
 have hkW := hk.below hal
 have HA := hh (fun v (hb : Below W.heap.size W v) => rises_str x.A1 x.c1 x.is ltT v (hkW.1.2.below hb) h1 (fun a _ b _ u _ => cmp_o a b u))
 have HF := hh (fun v (hb : Below W.heap.size W v) => rises_fi x.A2 x.c2 x.fs ltF v (hkW.2.1.2.below hb) h2 (fun a _ b _ u _ => byField_w a b u))
 have HM := hh (fun v (hb : Below W.heap.size W v) => rises_me x.A3 x.c3 x.ms ltM v (hkW.2.2.1.2.below hb) h3 (fun a _ b _ u _ => byMethod_w a b u))
 unfold orderC
 generalize risesB ltT x.is = ba at *
 generalize risesB ltF x.fs = bb at *
 generalize risesB ltM x.ms = bc at *
 unfold clC at hW ⊢
 try dsimp only at hW ⊢
 have HW := hh hW
 clear hal hblk hW hkW hk h1 h2 h3
 go_enter Tryz.func33, Tryz.ntmps33
 go_wp2_with fail
 rw [← HW.out]
 (try go_wp2_with fail)
 refine (HA.out _ K0.out).mono ?_
 rintro e v1 ⟨rfl, hb⟩
 have K1 := hh (show Below W.heap.size W v1 from then' K0.out hb)
 obtain ⟨x1_0, x1_1, x1_2, x1_3, x1_4, x1_5, x1_6⟩ := cl_cells ((K1.out.block _ HLT.out).trans HBK.out)
 clear hb x0_0 x0_1 x0_2 x0_3 x0_4 x0_5 x0_6
 cases h0 : ba with
 | false =>
  (try go_wp2_with fail)
  go_ret
  exact ⟨by first | rfl | (simp only [h0, bls]; done) | (simp only [h0, bls]; rfl), HAL.out.trans (K1.out.mono HAL.out.size)⟩
 | true =>
  go_wp2_with fail
  refine (HF.out _ K1.out).mono ?_
  rintro e v2 ⟨rfl, hb⟩
  have K2 := hh (show Below W.heap.size W v2 from then' K1.out hb)
  obtain ⟨x2_0, x2_1, x2_2, x2_3, x2_4, x2_5, x2_6⟩ := cl_cells ((K2.out.block _ HLT.out).trans HBK.out)
  clear hb x1_0 x1_1 x1_2 x1_3 x1_4 x1_5 x1_6
  cases h1 : bb with
  | false =>
   (try go_wp2_with fail)
   go_ret
   exact ⟨by first | rfl | (simp only [h0, h1, bls]; done) | (simp only [h0, h1, bls]; rfl), HAL.out.trans (K2.out.mono HAL.out.size)⟩
  | true =>
   go_wp2_with fail
   refine (HM.out _ K2.out).mono ?_
   rintro e v3 ⟨rfl, hb⟩
   have K3 := hh (show Below W.heap.size W v3 from then' K2.out hb)
   obtain ⟨x3_0, x3_1, x3_2, x3_3, x3_4, x3_5, x3_6⟩ := cl_cells ((K3.out.block _ HLT.out).trans HBK.out)
   clear hb x2_0 x2_1 x2_2 x2_3 x2_4 x2_5 x2_6
   cases h2 : bc with
   | false =>
    (try go_wp2_with fail)
    go_ret
    exact ⟨by first | rfl | (simp only [h0, h1, h2, bls]; done) | (simp only [h0, h1, h2, bls]; rfl), HAL.out.trans (K3.out.mono HAL.out.size)⟩
   | true =>
    (try go_wp2_with fail)
    go_ret
    exact ⟨by first | rfl | (simp only [h0, h1, h2, bls]; done) | (simp only [h0, h1, h2, bls]; rfl), HAL.out.trans (K3.out.mono HAL.out.size)⟩
theorem order_w (x : PrM) (w : World) (hk : PrOk w x) (hb : PrBd x) : Calls Tryz.prog 10 #[.agg (prC x).toArray] w fun e w' => e = .returned (.bool (orderB x)) ∧ Below w.heap.size w w' := by
 obtain ⟨W, hW⟩ : ∃ W, W = w.alloc (.cells (prC x).toArray 27) := ⟨_, rfl⟩
 have hal : Below w.heap.size w W := by rw [hW]; exact (Below.refl _ w).alloc (Nat.le_refl _) _
 have HAL := hh hal
 have hblk : W.heap[w.heap.size]? = some (.cells (prC x).toArray 27 (0, 0)) := by rw [hW]; exact heap_alloc_new w _
 have HBK := hh hblk; have HLT := hh (blk_lt hblk)
 obtain ⟨x0_0, x0_1, x0_2, x0_3, x0_4⟩ := pr_cells hblk
 have K0 := hh (Below.refl W.heap.size W)
 have hkW := hk.below hal
 have hl : x.cs.length ≤ 281474976710656 := by have := hb.1.1; omega
 have HA := hh (fun v (hv : Below W.heap.size W v) => rises_cl x.A1 x.c1 x.cs ltC v (hkW.1.2.below hv) hl (fun a _ b _ u _ => byClass_w a b u))
 have HF := hh (fun v (hv : Below W.heap.size W v) => all_order x.A1 x.c1 x.cs orderC v (hkW.1.2.below hv) hl (fun a ha u hu => orderC_w a u (((hkW.2.2 a ha).below hv).below hu) (by have := (hb.1.2 a ha).2.2.1.1; omega) (by have := (hb.1.2 a ha).2.2.2.1.1; omega) (by have := (hb.1.2 a ha).2.2.2.2.1; omega)))
 unfold orderB
 generalize risesB ltC x.cs = ba at *
 obtain ⟨bb, hbb⟩ : ∃ b, b = x.cs.all orderC := ⟨_, rfl⟩
 rw [← hbb] at HF ⊢
 unfold prC at hW ⊢
 try dsimp only at hW ⊢
 have HW := hh hW
 clear hal hblk hW hkW hk hb hbb hl
 go_enter Tryz.func10, Tryz.ntmps10
 go_wp2_with fail
 rw [← HW.out]
 (try go_wp2_with fail)
 refine (HA.out _ K0.out).mono ?_
 rintro e v1 ⟨rfl, hb⟩
 have K1 := hh (show Below W.heap.size W v1 from then' K0.out hb)
 obtain ⟨x1_0, x1_1, x1_2, x1_3, x1_4⟩ := pr_cells ((K1.out.block _ HLT.out).trans HBK.out)
 clear hb x0_0 x0_1 x0_2 x0_3 x0_4
 cases h0 : ba with
 | false =>
  (try go_wp2_with fail)
  go_ret
  exact ⟨by first | rfl | (simp only [h0, bls]; done) | (simp only [h0, bls]; rfl), HAL.out.trans (K1.out.mono HAL.out.size)⟩
 | true =>
  go_wp2_with fail
  refine (HF.out _ K1.out).mono ?_
  rintro e v2 ⟨rfl, hb⟩
  have K2 := hh (show Below W.heap.size W v2 from then' K1.out hb)
  obtain ⟨x2_0, x2_1, x2_2, x2_3, x2_4⟩ := pr_cells ((K2.out.block _ HLT.out).trans HBK.out)
  clear hb x1_0 x1_1 x1_2 x1_3 x1_4
  cases h1 : bb with
  | false =>
   (try go_wp2_with fail)
   go_ret
   exact ⟨by first | rfl | (simp only [h0, h1, bls]; done) | (simp only [h0, h1, bls]; rfl), HAL.out.trans (K2.out.mono HAL.out.size)⟩
  | true =>
   (try go_wp2_with fail)
   go_ret
   exact ⟨by first | rfl | (simp only [h0, h1, bls]; done) | (simp only [h0, h1, bls]; rfl), HAL.out.trans (K2.out.mono HAL.out.size)⟩
theorem handed_w (x : MeM) (n : Nat) (w : World) (hn : n ≤ 281474976710656) : Calls Tryz.prog 113 #[.agg (meC x).toArray, .int .i64 (n : Int)] w fun e w' => e = .returned (.int .i64 (handedN x n : Int)) ∧ Below w.heap.size w w' := by
 obtain ⟨W, hW⟩ : ∃ W, W = w.alloc (.cells (meC x).toArray 38) := ⟨_, rfl⟩
 have hal : Below w.heap.size w W := by rw [hW]; exact (Below.refl _ w).alloc (Nat.le_refl _) _
 have HAL := hh hal
 have hblk : W.heap[w.heap.size]? = some (.cells (meC x).toArray 38 (0, 0)) := by rw [hW]; exact heap_alloc_new w _
 have HBK := hh hblk; have HLT := hh (blk_lt hblk)
 obtain ⟨x0_0, x0_1, x0_2, x0_3, x0_4, x0_5⟩ := me_cells hblk
 have K0 := hh (Below.refl W.heap.size W)
 unfold handedN
 unfold meC at hW ⊢
 try dsimp only at hW ⊢
 have HW := hh hW
 have hnI : (n : Int) ≤ 281474976710656 := by omega
 clear hal hblk hW
 cases h0 : x.st with
 | false =>
  (try simp only [h0] at HW)
  go_enter Tryz.func113, Tryz.ntmps113
  go_wp2_with fail
  rw [← HW.out]
  (try go_wp2_with fail)
  go_ret
  exact ⟨by first | rfl | simp, HAL.out⟩
 | true =>
  (try simp only [h0] at HW)
  go_enter Tryz.func113, Tryz.ntmps113
  go_wp2_with fail
  rw [← HW.out]
  (try go_wp2_with fail)
  go_ret
  exact ⟨by first | rfl | simp, HAL.out⟩
end Go.Proofs.YtgociheckcpjkaaGreatDoor.prg
namespace Go.Proofs.YtgociheckcpjkaaGreatDoor.prg
open Go.RowKit
open words kindp opp op kind word
set_option maxRecDepth 100000
set_option maxHeartbeats 8000000
set_option linter.all false
def Wd (w : World) : Prop := Sh w ∧ Mx w ∧ Vd w
theorem Wd.below {w w' : World} (h : Wd w) (hb : Below w.heap.size w w') : Wd w' := ⟨h.1.below hb, h.2.1.below hb, h.2.2.below hb⟩
def InFit (x : InM) : Prop := x.i.ds.length ≤ 65536 ∧ x.i.ar.length ≤ 1000
def MeFit (m : MeM) : Prop := m.ds.length ≤ 65536 ∧ ∀ y ∈ m.co, InFit y
def ClFit (c : ClM) : Prop := ∀ m ∈ c.ms, MeFit m
def PrFit (p : PrM) : Prop := ∀ c ∈ p.cs, ClFit c
theorem fitcode_w (x : InM) (g q : Nat) (rg sz : Int) (w : World) (ht : Wd w) (hk : InOk w x) (hb : InBd x) (hd : InFit x) (c1 : w.cell? ⟨g, 4, none⟩ = some (.int .i64 rg)) (c2 : w.cell? ⟨q, 0, none⟩ = some (.int .i64 sz)) :
  Calls Tryz.prog 129 #[.agg (inC x).toArray, .pointer (some ⟨g, 0, none⟩), .pointer (some ⟨q, 0, none⟩)] w fun e w' => e = .returned (.bool (fitsE x.i rg sz == 0)) ∧ Below w.heap.size w w' := by
 obtain ⟨W, hW⟩ : ∃ W, W = w.alloc (.cells (inC x).toArray 42) := ⟨_, rfl⟩
 have hal : Below w.heap.size w W := by rw [hW]; exact (Below.refl _ w).alloc (Nat.le_refl _) _
 have HAL := hh hal
 have hblk : W.heap[w.heap.size]? = some (.cells (inC x).toArray 42 (0, 0)) := by rw [hW]; exact heap_alloc_new w _
 obtain ⟨x0, x1, x2, x3, x4, x5, x6, x7, x8⟩ := in_cells (j := x.i) (A := x.A) (c := x.c) hblk
 have d1 := (hal.cell (World.block_lt_of_cell? _ _ c1)).trans c1
 have d2 := (hal.cell (World.block_lt_of_cell? _ _ c2)).trans c2
 have htW := ht.below hal
 have hkW := hk.below hal
 have HF := hh (fits_w x.i x.A x.c rg sz W htW.1 hkW.2 hkW.1 (by have := hb.1; omega) (by have := hb.2.1; omega) (by have := hb.2.2.1; omega) hd.1 htW.2.1 htW.2.2)
 unfold FitP at HF
 dsimp only [InV] at HF
 generalize fitsE x.i rg sz = r at *
 unfold inC at hW ⊢
 try dsimp only at hW
 have e1 := d1; have e2 := d2
 rw [hW] at e1 e2
 have HW := hh hW
 clear hal hblk hW htW hkW c1 c2 ht hk hb hd
 go_enter Tryz.func129, Tryz.ntmps129
 go_wp2_with fail
 rw [← HW.out]
 (try go_wp2_with fail)
 refine HF.out.mono ?_
 rintro e v ⟨rfl, hb⟩
 have K1 := hh hb
 clear hb x0 x1 x2 x3 x4 x5 x6 x7 x8 d1 d2 e1 e2
 (try go_wp2_with fail)
 go_ret
 exact ⟨rfl, HAL.out.trans (K1.out.mono HAL.out.size)⟩
theorem all_instr (g q : Nat) (A : Option Addr) (c : Nat) (l : List InM) (P : InM → Bool) (w : World) (hr : Rd w A (l.flatMap inC)) (hl : l.length ≤ 281474976710656)
  (HP : ∀ x ∈ l, ∀ v : World, Below w.heap.size w v → Calls Tryz.prog 129 #[.agg (inC x).toArray, .pointer (some ⟨g, 0, none⟩), .pointer (some ⟨q, 0, none⟩)] v fun e w' => e = .returned (.bool (P x)) ∧ Below v.heap.size v w') :
  Calls Tryz.prog 131 #[.slice A l.length c, .func (.func 129) #[] #[.pointer (some ⟨g, 0, none⟩), .pointer (some ⟨q, 0, none⟩)]] w fun e w' => e = .returned (.bool (l.all P)) ∧ Below w.heap.size w w' := by
 obtain ⟨R, hR⟩ : ∃ R, R = l.all P := ⟨_, rfl⟩
 rw [← hR]
 have HF := hh (show (∃ x ∈ l, P x = false) → R = false from fun ⟨x, hx, h⟩ => by rw [hR, List.all_eq_false]; exact ⟨x, hx, by rw [h]; simp⟩)
 have HT := hh (show (∀ x ∈ l, P x = true) → R = true from fun h => by rw [hR]; exact List.all_eq_true.2 h)
 obtain ⟨n, hn⟩ : ∃ n, n = l.length := ⟨_, rfl⟩
 rw [← hn] at hl ⊢
 have hnI : (n : Int) ≤ 281474976710656 := by omega
 have HN := hh hn; have HRD := hh hr; have HPP := hh HP
 clear hr hn hl hR HP
 go_enter Tryz.func131, Tryz.ntmps131
 go_wp2
 go_loopw [9] (fun i wr => ∃ k : Nat, i = .int .i64 (k : Int) ∧ k ≤ n ∧ (∀ t ∈ l.take k, (!P t) = false) ∧ Below w.heap.size w wr) (fun i _ => n - (intOf i).toNat)
 case atStart => exact ⟨0, rfl, Nat.zero_le _, by simp, Below.refl _ _⟩
 case round =>
  obtain ⟨k, rfl, hk, hall, hbw⟩ := hrel
  have HA := hh hall; have HB := hh hbw
  clear hall
  by_cases hlt : k < n
  ·have hltI : (k : Int) < (n : Int) := by omega
   obtain ⟨x, hx⟩ : ∃ x, l[k]? = some x := ⟨l[k]'(by rw [← HN.out]; exact hlt), List.getElem?_eq_getElem _⟩
   obtain ⟨a, rfl, ha, c0, c1, c2, c3, c4, c5, c6, c7, c8⟩ := in_at (HRD.out.below hbw) hx
   have hmem := List.mem_of_getElem? hx
   have hal := hbw.alloc hbw.size (.cells (inC x).toArray 42)
   have HCL := hh (HPP.out x hmem _ hal)
   have HAL := hh hal
   have hmt := take_more (P := fun t => !P t) HA.out hx
   dsimp only [inC] at HCL HAL
   cases hp : P x with
   | false =>
    have HRF := hh (HF.out ⟨x, hmem, hp⟩)
    rw [hp] at HCL
    clear hx hmem hmt hp hbw ha hal
    go_wp2_with fail
    refine HCL.out.mono ?_
    rintro e w1 ⟨rfl, hb1⟩
    have HB1 := hh (HAL.out.trans (hb1.mono HAL.out.size))
    clear hb1
    go_wp2
    go_ret
    exact ⟨by rw [HRF.out]; rfl, HB1.out⟩
   | true =>
    have HM := hh (hmt (by simp [hp]))
    rw [hp] at HCL
    clear hx hmem hmt hp hbw ha hal
    go_wp2_with fail
    refine HCL.out.mono ?_
    rintro e w1 ⟨rfl, hb1⟩
    have HB1 := hh (HAL.out.trans (hb1.mono HAL.out.size))
    clear hb1
    go_wp2
    go_roundw
    case rel => exact ⟨k + 1, by go_num, by omega, HM.out, HB1.out⟩
    case measure => simp [intOf]; omega
  ·have hltI : ¬ (k : Int) < (n : Int) := by omega
   have hall := HA.out
   rw [List.take_of_length_le (by rw [← HN.out]; omega)] at hall
   have HRT := hh (HT.out (fun x hx => by have := hall x hx; simpa using this))
   clear hall hbw
   go_wp2
   go_ret
   exact ⟨by rw [HRT.out]; rfl, HB.out⟩
end Go.Proofs.YtgociheckcpjkaaGreatDoor.prg
namespace Go.Proofs.YtgociheckcpjkaaGreatDoor.prg
open Go.RowKit
open words kindp opp op kind word
set_option maxRecDepth 100000
set_option maxHeartbeats 8000000
set_option linter.all false
theorem code_w (x : MeM) (w : World) (ht : Wd w) (hk : MeOk w x) (hb : MeBd x) (hf : MeFit x) : Calls Tryz.prog 114 #[.agg (meC x).toArray] w fun e w' => e = .returned (.bool (codeB x)) ∧ Below w.heap.size w w' := by
 obtain ⟨W, hW⟩ : ∃ W, W = w.alloc (.cells (meC x).toArray 38) := ⟨_, rfl⟩
 have hal : Below w.heap.size w W := by rw [hW]; exact (Below.refl _ w).alloc (Nat.le_refl _) _
 have HAL := hh hal
 have hblk : W.heap[w.heap.size]? = some (.cells (meC x).toArray 38 (0, 0)) := by rw [hW]; exact heap_alloc_new w _
 have HBK := hh hblk; have HLT := hh (blk_lt hblk)
 obtain ⟨x0_0, x0_1, x0_2, x0_3, x0_4, x0_5⟩ := me_cells hblk
 have K0 := hh (Below.refl W.heap.size W)
 have hkW := hk.below hal
 have htW := ht.below hal
 obtain ⟨V, hV⟩ : ∃ V, V = W.alloc (.cells #[.int .i64 (x.co.length : Int)] 3) := ⟨_, rfl⟩
 have hav : Below W.heap.size W V := by rw [hV]; exact (Below.refl _ W).alloc (Nat.le_refl _) _
 have hvb : V.heap[W.heap.size]? = some (.cells #[.int .i64 (x.co.length : Int)] 3 (0, 0)) := by rw [hV]; exact heap_alloc_new W _
 have z0 : V.cell? ⟨W.heap.size, 0, none⟩ = some (.int .i64 (x.co.length : Int)) := cell_of_row _ _ 0 _ _ _ hvb
 obtain ⟨y0_0, y0_1, y0_2, y0_3, y0_4, y0_5⟩ := me_cells ((hav.block _ HLT.out).trans HBK.out)
 have hlb : x.co.length ≤ 281474976710656 := by have := hb.2.2.1; omega
 have HA := hh (all_instr w.heap.size W.heap.size x.A x.c x.co (fun y => fitsE y.i x.rg (x.co.length : Int) == 0) V (hkW.2.1.below hav) hlb
  (fun y hy u hu => fitcode_w y w.heap.size W.heap.size x.rg (x.co.length : Int) u ((htW.below hav).below hu) (((hkW.2.2 y hy).below hav).below hu) (hb.2.2.2 y hy) (hf.2 y hy) ((hu.cell (World.block_lt_of_cell? _ _ y0_4)).trans y0_4) ((hu.cell (World.block_lt_of_cell? _ _ z0)).trans z0)))
 have hsW : W.heap.size = w.heap.size + 1 := by rw [hW]; simp
 rw [hsW] at HA
 unfold codeB
 obtain ⟨ba, hba⟩ : ∃ b, b = x.co.all (fun y => fitsE y.i x.rg (x.co.length : Int) == 0) := ⟨_, rfl⟩
 rw [← hba] at HA ⊢
 unfold meC at hW ⊢
 obtain ⟨n, hn⟩ : ∃ n, n = x.co.length := ⟨_, rfl⟩
 rw [← hn] at HA x0_5 y0_5 z0 hV hW hlb ⊢
 try dsimp only at hW ⊢
 have hnI : (n : Int) ≤ 281474976710656 := by omega
 have HV := hh hV
 have HVB := hh hav
 have HW := hh hW
 clear hal hblk hW hV hav hvb hkW htW hk ht hb hf hba hn hlb hsW
 cases h0 : decide (0 < n) with
 | false =>
  have g0 : ¬ (0 < n) := of_decide_eq_false h0
  have g1 : ¬ (0 : Int) < (n : Int) := by omega
  go_enter Tryz.func114, Tryz.ntmps114
  go_wp2_with fail
  rw [← HW.out]
  rw [← HV.out]
  go_ret
  exact ⟨rfl, HAL.out.trans (HVB.out.mono HAL.out.size)⟩
 | true =>
  have g0 : 0 < n := of_decide_eq_true h0
  have g1 : (0 : Int) < (n : Int) := by omega
  cases h1 : decide (n ≤ 256) with
  | false =>
   have g2 : ¬ ((n : Nat) : Int) ≤ 256 := by have := of_decide_eq_false h1; omega
   go_enter Tryz.func114, Tryz.ntmps114
   go_wp2_with fail
   rw [← HW.out]
   rw [← HV.out]
   go_ret
   exact ⟨rfl, HAL.out.trans (HVB.out.mono HAL.out.size)⟩
  | true =>
   have g2 : ((n : Nat) : Int) ≤ 256 := by have := of_decide_eq_true h1; omega
   go_enter Tryz.func114, Tryz.ntmps114
   go_wp2_with fail
   rw [← HW.out]
   rw [← HV.out]
   refine HA.out.mono ?_
   rintro e v ⟨rfl, hb⟩
   have K1 := hh (HVB.out.trans (hb.mono HVB.out.size))
   clear hb
   (try go_wp2_with fail)
   go_ret
   exact ⟨by first | rfl | (simp only [Bool.true_and]; done) | (simp only [Bool.true_and]; rfl), HAL.out.trans (K1.out.mono HAL.out.size)⟩
end Go.Proofs.YtgociheckcpjkaaGreatDoor.prg
namespace Go.Proofs.YtgociheckcpjkaaGreatDoor.prg
open Go.RowKit
open words kindp opp op kind word
set_option maxRecDepth 100000
set_option maxHeartbeats 8000000
set_option linter.all false
theorem ite_bool {b A B : Bool} : (if b = true then A else B) = ((b && A) || (!b && B)) := by cases b <;> cases A <;> cases B <;> rfl
theorem method_w (x : MeM) (w : World) (ht : Wd w) (hk : MeOk w x) (hb : MeBd x) (hf : MeFit x) : Calls Tryz.prog 80 #[.agg (meC x).toArray] w fun e w' => e = .returned (.bool (methodB x)) ∧ Below w.heap.size w w' := by
 obtain ⟨W, hW⟩ : ∃ W, W = w.alloc (.cells (meC x).toArray 38) := ⟨_, rfl⟩
 have hal : Below w.heap.size w W := by rw [hW]; exact (Below.refl _ w).alloc (Nat.le_refl _) _
 have HAL := hh hal
 have hblk : W.heap[w.heap.size]? = some (.cells (meC x).toArray 38 (0, 0)) := by rw [hW]; exact heap_alloc_new w _
 have HBK := hh hblk; have HLT := hh (blk_lt hblk)
 obtain ⟨x0_0, x0_1, x0_2, x0_3, x0_4, x0_5⟩ := me_cells hblk
 have K0 := hh (Below.refl W.heap.size W)
 have htW := ht.below hal
 have hkW := hk.below hal
 have hds := hf.1
 have HS := hh (split_k x.ds W hds htW.2.1 htW.2.2)
 have HN := hh (fun w => name_ww x.nm w (by have := hb.1; omega))
 have HH := hh (fun n w hn => handed_w x n w hn)
 have HCD := hh (fun v (hv : Below W.heap.size W v) => code_w x v (htW.below hv) (hkW.below hv) hb hf)
 unfold methodB headB abstractB concreteB initT
 rw [ite_bool]
 have h8 := split_len x.ds
 unfold SplitW at HS
 obtain ⟨s, hs⟩ : ∃ s, s = splitT x.ds := ⟨_, rfl⟩
 rw [← hs] at HS h8 ⊢
 obtain ⟨p, ⟨k, c⟩, er⟩ := s
 dsimp only at HS h8 ⊢
 obtain ⟨np, hnp⟩ : ∃ n, n = p.length := ⟨_, rfl⟩
 rw [← hnp] at HS h8 ⊢
 have hH := HH.out np
 obtain ⟨nh, hnh⟩ : ∃ n, n = handedN x np := ⟨_, rfl⟩
 rw [← hnh] at hH ⊢
 have HHH := hh (fun w => hH w (by omega))
 have hnpI : (np : Int) ≤ 8 := by omega
 generalize nmL x.nm = bn at *
 generalize codeB x = bc at *
 obtain ⟨n, hn⟩ : ∃ n, n = x.co.length := ⟨_, rfl⟩
 have hlb : x.co.length ≤ 281474976710656 := by have := hb.2.2.1; omega
 rw [← hn] at x0_5 hlb ⊢
 unfold meC at hW HHH HCD ⊢
 rw [← hn] at hW HHH HCD ⊢
 try dsimp only at hW HHH HCD ⊢
 have hlI : (n : Int) ≤ 281474976710656 := by omega
 have HW := hh hW
 have HN5 := hh hn
 clear hal hblk hW htW hkW ht hk hb hf hds hH HH hs hnp hnh hn hlb
 go_enter Tryz.func80, Tryz.ntmps80
 go_wp2_with fail
 rw [← HW.out]
 (try go_wp2_with fail)
 refine HS.out.mono ?_
 rintro e v ⟨⟨Ap, cp, rfl, -⟩, hb⟩
 have k1 : Below W.heap.size W (v.alloc (.cells #[.int .i64 k, .string ⟨c.toArray⟩] 56)) := hb.alloc hb.size _
 have K1 := hh k1
 obtain ⟨x1_0, x1_1, x1_2, x1_3, x1_4, x1_5⟩ := me_cells ((K1.out.block _ HLT.out).trans HBK.out)
 rw [← HN5.out] at x1_5
 clear hb k1 x0_0 x0_1 x0_2 x0_3 x0_4 x0_5
 cases h0 : decide (er = 0) with
 | false =>
  have g5 : ((er : Int) != 0) = true := by have := of_decide_eq_false h0; rw [bne_iff_ne]; omega
  (try go_wp2_with fail)
  go_ret
  exact ⟨by first | rfl | (simp only [h0, bls, reduceIte, Bool.false_eq_true, reduceCtorEq]; done) | (simp only [h0, bls, reduceIte, Bool.false_eq_true, reduceCtorEq]; rfl), HAL.out.trans (K1.out.mono HAL.out.size)⟩
 | true =>
  have g5 : ((er : Int) != 0) = false := by have := of_decide_eq_true h0; rw [this]; rfl
  go_wp2_with fail
  refine (HN.out _).mono ?_
  rintro e v2 ⟨rfl, hb⟩
  have K2 := hh (show Below W.heap.size W v2 from then' K1.out hb)
  obtain ⟨x2_0, x2_1, x2_2, x2_3, x2_4, x2_5⟩ := me_cells ((K2.out.block _ HLT.out).trans HBK.out)
  rw [← HN5.out] at x2_5
  clear hb x1_0 x1_1 x1_2 x1_3 x1_4 x1_5
  cases h1 : bn with
  | false =>
   (try go_wp2_with fail)
   go_ret
   exact ⟨by first | rfl | (simp only [h0, h1, bls, reduceIte, Bool.false_eq_true, reduceCtorEq]; done) | (simp only [h0, h1, bls, reduceIte, Bool.false_eq_true, reduceCtorEq]; rfl), HAL.out.trans (K2.out.mono HAL.out.size)⟩
  | true =>
   cases h2 : decide (0 ≤ x.rg) with
   | false =>
    have g6 : x.rg < 0 := by have := of_decide_eq_false h2; omega
    (try go_wp2_with fail)
    go_ret
    exact ⟨by first | rfl | (simp only [h0, h1, h2, bls, reduceIte, Bool.false_eq_true, reduceCtorEq]; done) | (simp only [h0, h1, h2, bls, reduceIte, Bool.false_eq_true, reduceCtorEq]; rfl), HAL.out.trans (K2.out.mono HAL.out.size)⟩
   | true =>
    have g6 : ¬ x.rg < 0 := by have := of_decide_eq_true h2; omega
    cases h3 : decide (x.rg ≤ 32) with
    | false =>
     have g7 : (32 : Int) < x.rg := by have := of_decide_eq_false h3; omega
     (try go_wp2_with fail)
     go_ret
     exact ⟨by first | rfl | (simp only [h0, h1, h2, h3, bls, reduceIte, Bool.false_eq_true, reduceCtorEq]; done) | (simp only [h0, h1, h2, h3, bls, reduceIte, Bool.false_eq_true, reduceCtorEq]; rfl), HAL.out.trans (K2.out.mono HAL.out.size)⟩
    | true =>
     have g7 : ¬ (32 : Int) < x.rg := by have := of_decide_eq_true h3; omega
     cases h4 : x.ab with
     | false =>
      simp only [h4] at HHH HCD
      cases h5 : decide ((nh : Int) ≤ x.rg) with
      | false =>
       (try go_wp2_with fail)
       refine wp_region_held_drew (S := (fun w' => w'.cell? ⟨w.heap.size, 0, none⟩ = some (.string ⟨x.nm.toArray⟩) ∧ w'.cell? ⟨w.heap.size, 1, none⟩ = some (.string ⟨x.ds.toArray⟩) ∧ w'.cell? ⟨w.heap.size, 2, none⟩ = some (.bool x.st) ∧ w'.cell? ⟨w.heap.size, 3, none⟩ = some (.bool x.ab) ∧ w'.cell? ⟨w.heap.size, 4, none⟩ = some (.int .i64 x.rg) ∧ w'.cell? ⟨w.heap.size, 5, none⟩ = some (.slice x.A n x.c))) (by kernel_rfl) ?_ (fun hHeld => ?_)
       ·exact ⟨x2_0, x2_1, x2_2, x2_3, x2_4, x2_5⟩
       refine tkp 0 rfl ?_
       refine tkp 1 rfl ?_
       refine tkp 2 rfl ?_
       refine tkp 3 rfl ?_
       refine tkp 4 rfl ?_
       refine rdy 5 rfl (fun K hK => ?_)
       go_simp
       refine (HHH.out _).mono ?_; rintro e v3 ⟨rfl, hb⟩; have K3 := hh (show Below W.heap.size W v3 from (by first | exact then' K2.out hb | exact then' (overD K2.out) hb)); obtain ⟨x3_0, x3_1, x3_2, x3_3, x3_4, x3_5⟩ := me_cells ((K3.out.block _ HLT.out).trans HBK.out); rw [← HN5.out] at x3_5; clear hb x2_0 x2_1 x2_2 x2_3 x2_4 x2_5; go_wp2_with fail
       refine hK.out _ _ ⟨x3_0, x3_1, x3_2, x3_3, x3_4, x3_5⟩ (fun hHeld => ?_)
       clear hK K
       try simp only [puts]
       refine tkp 6 rfl ?_
       refine tkp 7 rfl ?_
       refine tup 8 rfl ?_
       refine tup 9 rfl ?_
       refine tkp 10 rfl ?_
       refine tkp 11 rfl ?_
       refine tup 12 rfl ?_
       refine tup 13 rfl ?_
       refine tup 14 rfl ?_
       refine tup 15 rfl ?_
       refine tup 16 rfl ?_
       refine tup 17 rfl ?_
       refine tup 18 rfl ?_
       refine tup 19 rfl ?_
       refine tup 20 rfl ?_
       refine tup 21 rfl ?_
       refine tup 22 rfl ?_
       refine tup 23 rfl ?_
       refine tkp 24 rfl ?_
       refine tkp 25 rfl ?_
       refine wpAnyH_done (by kernel_rfl) ?_ _
       (try go_wp2_with fail)
       go_ret
       exact ⟨by first | rfl | (simp only [h0, h1, h2, h3, h4, h5, bls, reduceIte, Bool.false_eq_true, reduceCtorEq]; done) | (simp only [h0, h1, h2, h3, h4, h5, bls, reduceIte, Bool.false_eq_true, reduceCtorEq]; rfl), HAL.out.trans (K3.out.mono HAL.out.size)⟩
      | true =>
       cases h6 : bc with
       | false =>
        (try go_wp2_with fail)
        refine wp_region_held_drew (S := (fun w' => w'.cell? ⟨w.heap.size, 0, none⟩ = some (.string ⟨x.nm.toArray⟩) ∧ w'.cell? ⟨w.heap.size, 1, none⟩ = some (.string ⟨x.ds.toArray⟩) ∧ w'.cell? ⟨w.heap.size, 2, none⟩ = some (.bool x.st) ∧ w'.cell? ⟨w.heap.size, 3, none⟩ = some (.bool x.ab) ∧ w'.cell? ⟨w.heap.size, 4, none⟩ = some (.int .i64 x.rg) ∧ w'.cell? ⟨w.heap.size, 5, none⟩ = some (.slice x.A n x.c))) (by kernel_rfl) ?_ (fun hHeld => ?_)
        ·exact ⟨x2_0, x2_1, x2_2, x2_3, x2_4, x2_5⟩
        refine tkp 0 rfl ?_
        refine tkp 1 rfl ?_
        refine tkp 2 rfl ?_
        refine tkp 3 rfl ?_
        refine tkp 4 rfl ?_
        refine rdy 5 rfl (fun K hK => ?_)
        go_simp
        refine (HHH.out _).mono ?_; rintro e v3 ⟨rfl, hb⟩; have K3 := hh (show Below W.heap.size W v3 from (by first | exact then' K2.out hb | exact then' (overD K2.out) hb)); obtain ⟨x3_0, x3_1, x3_2, x3_3, x3_4, x3_5⟩ := me_cells ((K3.out.block _ HLT.out).trans HBK.out); rw [← HN5.out] at x3_5; clear hb x2_0 x2_1 x2_2 x2_3 x2_4 x2_5; go_wp2_with fail
        refine hK.out _ _ ⟨x3_0, x3_1, x3_2, x3_3, x3_4, x3_5⟩ (fun hHeld => ?_)
        clear hK K
        try simp only [puts]
        refine tkp 6 rfl ?_
        refine tkp 7 rfl ?_
        refine tkp 8 rfl ?_
        refine rdy 9 rfl (fun K hK => ?_)
        go_simp
        refine (HCD.out _ ?_).mono ?_; (first | exact K3.out | exact overD K3.out); rintro e v4 ⟨rfl, hb⟩; have K4 := hh (show Below W.heap.size W v4 from (by first | exact then' K3.out hb | exact then' (overD K3.out) hb)); obtain ⟨x4_0, x4_1, x4_2, x4_3, x4_4, x4_5⟩ := me_cells ((K4.out.block _ HLT.out).trans HBK.out); rw [← HN5.out] at x4_5; clear hb x3_0 x3_1 x3_2 x3_3 x3_4 x3_5; go_wp2_with fail
        refine hK.out _ _ ⟨x4_0, x4_1, x4_2, x4_3, x4_4, x4_5⟩ (fun hHeld => ?_)
        clear hK K
        try simp only [puts]
        refine tkp 10 rfl ?_
        refine tkp 11 rfl ?_
        refine tup 12 rfl ?_
        refine tup 13 rfl ?_
        refine tup 14 rfl ?_
        refine tup 15 rfl ?_
        refine tup 16 rfl ?_
        refine tup 17 rfl ?_
        refine tup 18 rfl ?_
        refine tup 19 rfl ?_
        refine tup 20 rfl ?_
        refine tup 21 rfl ?_
        refine tup 22 rfl ?_
        refine tup 23 rfl ?_
        refine tkp 24 rfl ?_
        refine tkp 25 rfl ?_
        refine wpAnyH_done (by kernel_rfl) ?_ _
        (try go_wp2_with fail)
        go_ret
        exact ⟨by first | rfl | (simp only [h0, h1, h2, h3, h4, h5, h6, bls, reduceIte, Bool.false_eq_true, reduceCtorEq]; done) | (simp only [h0, h1, h2, h3, h4, h5, h6, bls, reduceIte, Bool.false_eq_true, reduceCtorEq]; rfl), HAL.out.trans (K4.out.mono HAL.out.size)⟩
       | true =>
        cases h7 : (x.nm == [60, 99, 108, 105, 110, 105, 116, 62]) with
        | false =>
         have g1 := ne_of h7
         (try go_wp2_with fail)
         refine wp_region_held_drew (S := (fun w' => w'.cell? ⟨w.heap.size, 0, none⟩ = some (.string ⟨x.nm.toArray⟩) ∧ w'.cell? ⟨w.heap.size, 1, none⟩ = some (.string ⟨x.ds.toArray⟩) ∧ w'.cell? ⟨w.heap.size, 2, none⟩ = some (.bool x.st) ∧ w'.cell? ⟨w.heap.size, 3, none⟩ = some (.bool x.ab) ∧ w'.cell? ⟨w.heap.size, 4, none⟩ = some (.int .i64 x.rg) ∧ w'.cell? ⟨w.heap.size, 5, none⟩ = some (.slice x.A n x.c))) (by kernel_rfl) ?_ (fun hHeld => ?_)
         ·exact ⟨x2_0, x2_1, x2_2, x2_3, x2_4, x2_5⟩
         refine tkp 0 rfl ?_
         refine tkp 1 rfl ?_
         refine tkp 2 rfl ?_
         refine tkp 3 rfl ?_
         refine tkp 4 rfl ?_
         refine rdy 5 rfl (fun K hK => ?_)
         go_simp
         refine (HHH.out _).mono ?_; rintro e v3 ⟨rfl, hb⟩; have K3 := hh (show Below W.heap.size W v3 from (by first | exact then' K2.out hb | exact then' (overD K2.out) hb)); obtain ⟨x3_0, x3_1, x3_2, x3_3, x3_4, x3_5⟩ := me_cells ((K3.out.block _ HLT.out).trans HBK.out); rw [← HN5.out] at x3_5; clear hb x2_0 x2_1 x2_2 x2_3 x2_4 x2_5; go_wp2_with fail
         refine hK.out _ _ ⟨x3_0, x3_1, x3_2, x3_3, x3_4, x3_5⟩ (fun hHeld => ?_)
         clear hK K
         try simp only [puts]
         refine tkp 6 rfl ?_
         refine tkp 7 rfl ?_
         refine tkp 8 rfl ?_
         refine rdy 9 rfl (fun K hK => ?_)
         go_simp
         refine (HCD.out _ ?_).mono ?_; (first | exact K3.out | exact overD K3.out); rintro e v4 ⟨rfl, hb⟩; have K4 := hh (show Below W.heap.size W v4 from (by first | exact then' K3.out hb | exact then' (overD K3.out) hb)); obtain ⟨x4_0, x4_1, x4_2, x4_3, x4_4, x4_5⟩ := me_cells ((K4.out.block _ HLT.out).trans HBK.out); rw [← HN5.out] at x4_5; clear hb x3_0 x3_1 x3_2 x3_3 x3_4 x3_5; go_wp2_with fail
         refine hK.out _ _ ⟨x4_0, x4_1, x4_2, x4_3, x4_4, x4_5⟩ (fun hHeld => ?_)
         clear hK K
         try simp only [puts]
         refine tkp 10 rfl ?_
         refine tkp 11 rfl ?_
         refine tkp 12 rfl ?_
         refine tkp 13 rfl ?_
         refine tkp 14 rfl ?_
         refine tkp 15 rfl ?_
         refine tup 16 rfl ?_
         refine tup 17 rfl ?_
         refine tup 18 rfl ?_
         refine tup 19 rfl ?_
         refine tup 20 rfl ?_
         refine tup 21 rfl ?_
         refine tup 22 rfl ?_
         refine tkp 23 rfl ?_
         refine tkp 24 rfl ?_
         refine tkp 25 rfl ?_
         refine wpAnyH_done (by kernel_rfl) ?_ _
         (try go_wp2_with fail)
         go_ret
         exact ⟨by first | rfl | (simp only [h0, h1, h2, h3, h4, h5, h6, h7, bls, reduceIte, Bool.false_eq_true, reduceCtorEq]; done) | (simp only [h0, h1, h2, h3, h4, h5, h6, h7, bls, reduceIte, Bool.false_eq_true, reduceCtorEq]; rfl), HAL.out.trans (K4.out.mono HAL.out.size)⟩
        | true =>
         have g1 := ne_of h7
         cases h8 : x.st with
         | false =>
          simp only [h8] at HHH HCD
          (try go_wp2_with fail)
          refine wp_region_held_drew (S := (fun w' => w'.cell? ⟨w.heap.size, 0, none⟩ = some (.string ⟨x.nm.toArray⟩) ∧ w'.cell? ⟨w.heap.size, 1, none⟩ = some (.string ⟨x.ds.toArray⟩) ∧ w'.cell? ⟨w.heap.size, 2, none⟩ = some (.bool x.st) ∧ w'.cell? ⟨w.heap.size, 3, none⟩ = some (.bool x.ab) ∧ w'.cell? ⟨w.heap.size, 4, none⟩ = some (.int .i64 x.rg) ∧ w'.cell? ⟨w.heap.size, 5, none⟩ = some (.slice x.A n x.c))) (by kernel_rfl) ?_ (fun hHeld => ?_)
          ·exact ⟨x2_0, x2_1, x2_2, x2_3, x2_4, x2_5⟩
          refine tkp 0 rfl ?_
          refine tkp 1 rfl ?_
          refine tkp 2 rfl ?_
          refine tkp 3 rfl ?_
          refine tkp 4 rfl ?_
          refine rdy 5 rfl (fun K hK => ?_)
          go_simp
          refine (HHH.out _).mono ?_; rintro e v3 ⟨rfl, hb⟩; have K3 := hh (show Below W.heap.size W v3 from (by first | exact then' K2.out hb | exact then' (overD K2.out) hb)); obtain ⟨x3_0, x3_1, x3_2, x3_3, x3_4, x3_5⟩ := me_cells ((K3.out.block _ HLT.out).trans HBK.out); rw [← HN5.out] at x3_5; clear hb x2_0 x2_1 x2_2 x2_3 x2_4 x2_5; go_wp2_with fail
          refine hK.out _ _ ⟨x3_0, x3_1, x3_2, x3_3, x3_4, x3_5⟩ (fun hHeld => ?_)
          clear hK K
          try simp only [puts]
          refine tkp 6 rfl ?_
          refine tkp 7 rfl ?_
          refine tkp 8 rfl ?_
          refine rdy 9 rfl (fun K hK => ?_)
          go_simp
          refine (HCD.out _ ?_).mono ?_; (first | exact K3.out | exact overD K3.out); rintro e v4 ⟨rfl, hb⟩; have K4 := hh (show Below W.heap.size W v4 from (by first | exact then' K3.out hb | exact then' (overD K3.out) hb)); obtain ⟨x4_0, x4_1, x4_2, x4_3, x4_4, x4_5⟩ := me_cells ((K4.out.block _ HLT.out).trans HBK.out); rw [← HN5.out] at x4_5; clear hb x3_0 x3_1 x3_2 x3_3 x3_4 x3_5; go_wp2_with fail
          refine hK.out _ _ ⟨x4_0, x4_1, x4_2, x4_3, x4_4, x4_5⟩ (fun hHeld => ?_)
          clear hK K
          try simp only [puts]
          refine tkp 10 rfl ?_
          refine tkp 11 rfl ?_
          refine tkp 12 rfl ?_
          refine tkp 13 rfl ?_
          refine tkp 14 rfl ?_
          refine tkp 15 rfl ?_
          refine tkp 16 rfl ?_
          refine tkp 17 rfl ?_
          refine tkp 18 rfl ?_
          refine tup 19 rfl ?_
          refine tup 20 rfl ?_
          refine tup 21 rfl ?_
          refine tkp 22 rfl ?_
          refine tkp 23 rfl ?_
          refine tkp 24 rfl ?_
          refine tkp 25 rfl ?_
          refine wpAnyH_done (by kernel_rfl) ?_ _
          (try go_wp2_with fail)
          go_ret
          exact ⟨by first | rfl | (simp only [h0, h1, h2, h3, h4, h5, h6, h7, h8, bls, reduceIte, Bool.false_eq_true, reduceCtorEq]; done) | (simp only [h0, h1, h2, h3, h4, h5, h6, h7, h8, bls, reduceIte, Bool.false_eq_true, reduceCtorEq]; rfl), HAL.out.trans (K4.out.mono HAL.out.size)⟩
         | true =>
          simp only [h8] at HHH HCD
          cases h9 : (x.ds == [40, 41, 86]) with
          | false =>
           (try go_wp2_with fail)
           refine wp_region_held_drew (S := (fun w' => w'.cell? ⟨w.heap.size, 0, none⟩ = some (.string ⟨x.nm.toArray⟩) ∧ w'.cell? ⟨w.heap.size, 1, none⟩ = some (.string ⟨x.ds.toArray⟩) ∧ w'.cell? ⟨w.heap.size, 2, none⟩ = some (.bool x.st) ∧ w'.cell? ⟨w.heap.size, 3, none⟩ = some (.bool x.ab) ∧ w'.cell? ⟨w.heap.size, 4, none⟩ = some (.int .i64 x.rg) ∧ w'.cell? ⟨w.heap.size, 5, none⟩ = some (.slice x.A n x.c))) (by kernel_rfl) ?_ (fun hHeld => ?_)
           ·exact ⟨x2_0, x2_1, x2_2, x2_3, x2_4, x2_5⟩
           refine tkp 0 rfl ?_
           refine tkp 1 rfl ?_
           refine tkp 2 rfl ?_
           refine tkp 3 rfl ?_
           refine tkp 4 rfl ?_
           refine rdy 5 rfl (fun K hK => ?_)
           go_simp
           refine (HHH.out _).mono ?_; rintro e v3 ⟨rfl, hb⟩; have K3 := hh (show Below W.heap.size W v3 from (by first | exact then' K2.out hb | exact then' (overD K2.out) hb)); obtain ⟨x3_0, x3_1, x3_2, x3_3, x3_4, x3_5⟩ := me_cells ((K3.out.block _ HLT.out).trans HBK.out); rw [← HN5.out] at x3_5; clear hb x2_0 x2_1 x2_2 x2_3 x2_4 x2_5; go_wp2_with fail
           refine hK.out _ _ ⟨x3_0, x3_1, x3_2, x3_3, x3_4, x3_5⟩ (fun hHeld => ?_)
           clear hK K
           try simp only [puts]
           refine tkp 6 rfl ?_
           refine tkp 7 rfl ?_
           refine tkp 8 rfl ?_
           refine rdy 9 rfl (fun K hK => ?_)
           go_simp
           refine (HCD.out _ ?_).mono ?_; (first | exact K3.out | exact overD K3.out); rintro e v4 ⟨rfl, hb⟩; have K4 := hh (show Below W.heap.size W v4 from (by first | exact then' K3.out hb | exact then' (overD K3.out) hb)); obtain ⟨x4_0, x4_1, x4_2, x4_3, x4_4, x4_5⟩ := me_cells ((K4.out.block _ HLT.out).trans HBK.out); rw [← HN5.out] at x4_5; clear hb x3_0 x3_1 x3_2 x3_3 x3_4 x3_5; go_wp2_with fail
           refine hK.out _ _ ⟨x4_0, x4_1, x4_2, x4_3, x4_4, x4_5⟩ (fun hHeld => ?_)
           clear hK K
           try simp only [puts]
           refine tkp 10 rfl ?_
           refine tkp 11 rfl ?_
           refine tkp 12 rfl ?_
           refine tkp 13 rfl ?_
           refine tkp 14 rfl ?_
           refine tkp 15 rfl ?_
           refine tkp 16 rfl ?_
           refine tkp 17 rfl ?_
           refine tkp 18 rfl ?_
           refine tkp 19 rfl ?_
           refine tkp 20 rfl ?_
           refine tkp 21 rfl ?_
           refine tkp 22 rfl ?_
           refine tkp 23 rfl ?_
           refine tkp 24 rfl ?_
           refine tkp 25 rfl ?_
           refine wpAnyH_done (by kernel_rfl) ?_ _
           (try go_wp2_with fail)
           go_ret
           exact ⟨by first | rfl | (simp only [h0, h1, h2, h3, h4, h5, h6, h7, h8, h9, bls, reduceIte, Bool.false_eq_true, reduceCtorEq]; done) | (simp only [h0, h1, h2, h3, h4, h5, h6, h7, h8, h9, bls, reduceIte, Bool.false_eq_true, reduceCtorEq]; rfl), HAL.out.trans (K4.out.mono HAL.out.size)⟩
          | true =>
           (try go_wp2_with fail)
           refine wp_region_held_drew (S := (fun w' => w'.cell? ⟨w.heap.size, 0, none⟩ = some (.string ⟨x.nm.toArray⟩) ∧ w'.cell? ⟨w.heap.size, 1, none⟩ = some (.string ⟨x.ds.toArray⟩) ∧ w'.cell? ⟨w.heap.size, 2, none⟩ = some (.bool x.st) ∧ w'.cell? ⟨w.heap.size, 3, none⟩ = some (.bool x.ab) ∧ w'.cell? ⟨w.heap.size, 4, none⟩ = some (.int .i64 x.rg) ∧ w'.cell? ⟨w.heap.size, 5, none⟩ = some (.slice x.A n x.c))) (by kernel_rfl) ?_ (fun hHeld => ?_)
           ·exact ⟨x2_0, x2_1, x2_2, x2_3, x2_4, x2_5⟩
           refine tkp 0 rfl ?_
           refine tkp 1 rfl ?_
           refine tkp 2 rfl ?_
           refine tkp 3 rfl ?_
           refine tkp 4 rfl ?_
           refine rdy 5 rfl (fun K hK => ?_)
           go_simp
           refine (HHH.out _).mono ?_; rintro e v3 ⟨rfl, hb⟩; have K3 := hh (show Below W.heap.size W v3 from (by first | exact then' K2.out hb | exact then' (overD K2.out) hb)); obtain ⟨x3_0, x3_1, x3_2, x3_3, x3_4, x3_5⟩ := me_cells ((K3.out.block _ HLT.out).trans HBK.out); rw [← HN5.out] at x3_5; clear hb x2_0 x2_1 x2_2 x2_3 x2_4 x2_5; go_wp2_with fail
           refine hK.out _ _ ⟨x3_0, x3_1, x3_2, x3_3, x3_4, x3_5⟩ (fun hHeld => ?_)
           clear hK K
           try simp only [puts]
           refine tkp 6 rfl ?_
           refine tkp 7 rfl ?_
           refine tkp 8 rfl ?_
           refine rdy 9 rfl (fun K hK => ?_)
           go_simp
           refine (HCD.out _ ?_).mono ?_; (first | exact K3.out | exact overD K3.out); rintro e v4 ⟨rfl, hb⟩; have K4 := hh (show Below W.heap.size W v4 from (by first | exact then' K3.out hb | exact then' (overD K3.out) hb)); obtain ⟨x4_0, x4_1, x4_2, x4_3, x4_4, x4_5⟩ := me_cells ((K4.out.block _ HLT.out).trans HBK.out); rw [← HN5.out] at x4_5; clear hb x3_0 x3_1 x3_2 x3_3 x3_4 x3_5; go_wp2_with fail
           refine hK.out _ _ ⟨x4_0, x4_1, x4_2, x4_3, x4_4, x4_5⟩ (fun hHeld => ?_)
           clear hK K
           try simp only [puts]
           refine tkp 10 rfl ?_
           refine tkp 11 rfl ?_
           refine tkp 12 rfl ?_
           refine tkp 13 rfl ?_
           refine tkp 14 rfl ?_
           refine tkp 15 rfl ?_
           refine tkp 16 rfl ?_
           refine tkp 17 rfl ?_
           refine tkp 18 rfl ?_
           refine tkp 19 rfl ?_
           refine tkp 20 rfl ?_
           refine tkp 21 rfl ?_
           refine tkp 22 rfl ?_
           refine tkp 23 rfl ?_
           refine tkp 24 rfl ?_
           refine tkp 25 rfl ?_
           refine wpAnyH_done (by kernel_rfl) ?_ _
           (try go_wp2_with fail)
           go_ret
           exact ⟨by first | rfl | (simp only [h0, h1, h2, h3, h4, h5, h6, h7, h8, h9, bls, reduceIte, Bool.false_eq_true, reduceCtorEq]; done) | (simp only [h0, h1, h2, h3, h4, h5, h6, h7, h8, h9, bls, reduceIte, Bool.false_eq_true, reduceCtorEq]; rfl), HAL.out.trans (K4.out.mono HAL.out.size)⟩
     | true =>
      cases h5 : x.st with
      | false =>
       cases h6 : (x.nm == [60, 99, 108, 105, 110, 105, 116, 62]) with
       | false =>
        have g1 := ne_of h6
        cases h7 : decide (n = 0) with
        | false =>
         have g2 : ((n : Int) == 0) = false := by have := of_decide_eq_false h7; rw [beq_eq_false_iff_ne]; omega
         (try go_wp2_with fail)
         go_ret
         exact ⟨by first | rfl | (simp only [h0, h1, h2, h3, h4, h5, h6, h7, bls, reduceIte, Bool.false_eq_true, reduceCtorEq]; done) | (simp only [h0, h1, h2, h3, h4, h5, h6, h7, bls, reduceIte, Bool.false_eq_true, reduceCtorEq]; rfl), HAL.out.trans (K2.out.mono HAL.out.size)⟩
        | true =>
         have g2 : ((n : Int) == 0) = true := by have := of_decide_eq_true h7; rw [beq_iff_eq]; omega
         cases h8 : (x.rg == 0) with
         | false =>
          (try go_wp2_with fail)
          go_ret
          exact ⟨by first | rfl | (simp only [h0, h1, h2, h3, h4, h5, h6, h7, h8, bls, reduceIte, Bool.false_eq_true, reduceCtorEq]; done) | (simp only [h0, h1, h2, h3, h4, h5, h6, h7, h8, bls, reduceIte, Bool.false_eq_true, reduceCtorEq]; rfl), HAL.out.trans (K2.out.mono HAL.out.size)⟩
         | true =>
          (try go_wp2_with fail)
          go_ret
          exact ⟨by first | rfl | (simp only [h0, h1, h2, h3, h4, h5, h6, h7, h8, bls, reduceIte, Bool.false_eq_true, reduceCtorEq]; done) | (simp only [h0, h1, h2, h3, h4, h5, h6, h7, h8, bls, reduceIte, Bool.false_eq_true, reduceCtorEq]; rfl), HAL.out.trans (K2.out.mono HAL.out.size)⟩
       | true =>
        have g1 := ne_of h6
        (try go_wp2_with fail)
        go_ret
        exact ⟨by first | rfl | (simp only [h0, h1, h2, h3, h4, h5, h6, bls, reduceIte, Bool.false_eq_true, reduceCtorEq]; done) | (simp only [h0, h1, h2, h3, h4, h5, h6, bls, reduceIte, Bool.false_eq_true, reduceCtorEq]; rfl), HAL.out.trans (K2.out.mono HAL.out.size)⟩
      | true =>
       (try go_wp2_with fail)
       go_ret
       exact ⟨by first | rfl | (simp only [h0, h1, h2, h3, h4, h5, bls, reduceIte, Bool.false_eq_true, reduceCtorEq]; done) | (simp only [h0, h1, h2, h3, h4, h5, bls, reduceIte, Bool.false_eq_true, reduceCtorEq]; rfl), HAL.out.trans (K2.out.mono HAL.out.size)⟩
end Go.Proofs.YtgociheckcpjkaaGreatDoor.prg
namespace Go.Proofs.YtgociheckcpjkaaGreatDoor.prg
open Go.RowKit
open words kindp opp op kind word
set_option maxRecDepth 100000
set_option maxHeartbeats 8000000
set_option linter.all false
theorem class_w (x : ClM) (w : World) (ht : Wd w) (hk : ClOk w x) (hb : ClBd x) (hf : ClFit x) : Calls Tryz.prog 40 #[.agg (clC x).toArray] w fun e w' => e = .returned (.bool (classB x)) ∧ Below w.heap.size w w' := by
 obtain ⟨W, hW⟩ : ∃ W, W = w.alloc (.cells (clC x).toArray 35) := ⟨_, rfl⟩
 have hal : Below w.heap.size w W := by rw [hW]; exact (Below.refl _ w).alloc (Nat.le_refl _) _
 have HAL := hh hal
 have hblk : W.heap[w.heap.size]? = some (.cells (clC x).toArray 35 (0, 0)) := by rw [hW]; exact heap_alloc_new w _
 have HBK := hh hblk; have HLT := hh (blk_lt hblk)
 obtain ⟨x0_0, x0_1, x0_2, x0_3, x0_4, x0_5, x0_6⟩ := cl_cells hblk
 have K0 := hh (Below.refl W.heap.size W)
 have htW := ht.below hal
 have hkW := hk.below hal
 have l1 : x.is.length ≤ 281474976710656 := by have := hb.2.2.1.1; omega
 have l2 : x.fs.length ≤ 281474976710656 := by have := hb.2.2.2.1.1; omega
 have l3 : x.ms.length ≤ 281474976710656 := by have := hb.2.2.2.2.1; omega
 have H1 := hh (fun w => cls_ww x.nm w (by have := hb.1; omega))
 have H2 := hh (fun w => super_w x w (by have := hb.2.1; omega))
 have H3 := hh (fun v (hv : Below W.heap.size W v) => all_cls x.A1 x.c1 x.is clsB v (hkW.1.2.below hv) l1 (fun y hy u _ => cls_ww y u (by have := hb.2.2.1.2 y hy; omega)))
 have H4 := hh (fun v (hv : Below W.heap.size W v) => bare_if_w x v (hkW.2.2.1.2.below hv) l3)
 have H5 := hh (fun v (hv : Below W.heap.size W v) => all_field x.A2 x.c2 x.fs fieldB v (hkW.2.1.2.below hv) l2 (fun y hy u _ => field_w y u (by have := (hb.2.2.2.1.2 y hy).1; omega) (by have := (hb.2.2.2.1.2 y hy).2; omega)))
 have H6 := hh (fun v (hv : Below W.heap.size W v) => all_method x.A3 x.c3 x.ms methodB v (hkW.2.2.1.2.below hv) l3 (fun y hy u hu => method_w y u ((htW.below hv).below hu) (((hkW.2.2.2 y hy).below hv).below hu) (hb.2.2.2.2.2 y hy) (hf y hy)))
 have H7 := hh (fun v (hv : Below W.heap.size W v) => any_abs x.A3 x.c3 x.ms v (hkW.2.2.1.2.below hv) l3)
 unfold classB
 generalize clsB x.nm = b1 at *
 generalize superB x = b2 at *
 generalize bareIfaceB x = b4 at *
 obtain ⟨b3, hb3⟩ : ∃ b, b = x.is.all clsB := ⟨_, rfl⟩
 obtain ⟨b5, hb5⟩ : ∃ b, b = x.fs.all fieldB := ⟨_, rfl⟩
 obtain ⟨b6, hb6⟩ : ∃ b, b = x.ms.all methodB := ⟨_, rfl⟩
 obtain ⟨b7, hb7⟩ : ∃ b, b = x.ms.any (fun m : MeM => m.ab) := ⟨_, rfl⟩
 rw [← hb3] at H3 ⊢
 rw [← hb5] at H5 ⊢
 rw [← hb6] at H6 ⊢
 rw [← hb7] at H7 ⊢
 unfold clC at hW H2 H4 ⊢
 try dsimp only at hW H2 H4 ⊢
 have HW := hh hW
 clear hal hblk hW htW hkW ht hk hb hf l1 l2 l3 hb3 hb5 hb6 hb7
 go_enter Tryz.func40, Tryz.ntmps40
 go_wp2_with fail
 rw [← HW.out]
 (try go_wp2_with fail)
 refine (H1.out _).mono ?_
 rintro e v1 ⟨rfl, hb⟩
 have K1 := hh (show Below W.heap.size W v1 from then' K0.out hb)
 obtain ⟨x1_0, x1_1, x1_2, x1_3, x1_4, x1_5, x1_6⟩ := cl_cells ((K1.out.block _ HLT.out).trans HBK.out)
 clear hb x0_0 x0_1 x0_2 x0_3 x0_4 x0_5 x0_6
 cases h0 : b1 with
 | false =>
  (try go_wp2_with fail)
  go_ret
  exact ⟨by first | rfl | (simp only [h0, bls]; done) | (simp only [h0, bls]; rfl), HAL.out.trans (K1.out.mono HAL.out.size)⟩
 | true =>
  go_wp2_with fail
  refine (H2.out _).mono ?_
  rintro e v2 ⟨rfl, hb⟩
  have K2 := hh (show Below W.heap.size W v2 from then' K1.out hb)
  obtain ⟨x2_0, x2_1, x2_2, x2_3, x2_4, x2_5, x2_6⟩ := cl_cells ((K2.out.block _ HLT.out).trans HBK.out)
  clear hb x1_0 x1_1 x1_2 x1_3 x1_4 x1_5 x1_6
  cases h1 : b2 with
  | false =>
   (try go_wp2_with fail)
   go_ret
   exact ⟨by first | rfl | (simp only [h0, h1, bls]; done) | (simp only [h0, h1, bls]; rfl), HAL.out.trans (K2.out.mono HAL.out.size)⟩
  | true =>
   go_wp2_with fail
   refine (H3.out _ K2.out).mono ?_
   rintro e v3 ⟨rfl, hb⟩
   have K3 := hh (show Below W.heap.size W v3 from then' K2.out hb)
   obtain ⟨x3_0, x3_1, x3_2, x3_3, x3_4, x3_5, x3_6⟩ := cl_cells ((K3.out.block _ HLT.out).trans HBK.out)
   clear hb x2_0 x2_1 x2_2 x2_3 x2_4 x2_5 x2_6
   cases h2 : b3 with
   | false =>
    (try go_wp2_with fail)
    go_ret
    exact ⟨by first | rfl | (simp only [h0, h1, h2, bls]; done) | (simp only [h0, h1, h2, bls]; rfl), HAL.out.trans (K3.out.mono HAL.out.size)⟩
   | true =>
    cases h3 : x.fc with
    | false =>
     simp only [h3] at H4
     go_wp2_with fail
     refine (H5.out _ K3.out).mono ?_
     rintro e v4 ⟨rfl, hb⟩
     have K4 := hh (show Below W.heap.size W v4 from then' K3.out hb)
     obtain ⟨x4_0, x4_1, x4_2, x4_3, x4_4, x4_5, x4_6⟩ := cl_cells ((K4.out.block _ HLT.out).trans HBK.out)
     clear hb x3_0 x3_1 x3_2 x3_3 x3_4 x3_5 x3_6
     cases h4 : b5 with
     | false =>
      (try go_wp2_with fail)
      go_ret
      exact ⟨by first | rfl | (simp only [h0, h1, h2, h3, h4, bls]; done) | (simp only [h0, h1, h2, h3, h4, bls]; rfl), HAL.out.trans (K4.out.mono HAL.out.size)⟩
     | true =>
      go_wp2_with fail
      refine (H6.out _ K4.out).mono ?_
      rintro e v5 ⟨rfl, hb⟩
      have K5 := hh (show Below W.heap.size W v5 from then' K4.out hb)
      obtain ⟨x5_0, x5_1, x5_2, x5_3, x5_4, x5_5, x5_6⟩ := cl_cells ((K5.out.block _ HLT.out).trans HBK.out)
      clear hb x4_0 x4_1 x4_2 x4_3 x4_4 x4_5 x4_6
      cases h5 : b6 with
      | false =>
       (try go_wp2_with fail)
       go_ret
       exact ⟨by first | rfl | (simp only [h0, h1, h2, h3, h4, h5, bls]; done) | (simp only [h0, h1, h2, h3, h4, h5, bls]; rfl), HAL.out.trans (K5.out.mono HAL.out.size)⟩
      | true =>
       cases h6 : x.ab with
       | false =>
        go_wp2_with fail
        refine (H7.out _ K5.out).mono ?_
        rintro e v6 ⟨rfl, hb⟩
        have K6 := hh (show Below W.heap.size W v6 from then' K5.out hb)
        obtain ⟨x6_0, x6_1, x6_2, x6_3, x6_4, x6_5, x6_6⟩ := cl_cells ((K6.out.block _ HLT.out).trans HBK.out)
        clear hb x5_0 x5_1 x5_2 x5_3 x5_4 x5_5 x5_6
        cases h7 : b7 with
        | false =>
         (try go_wp2_with fail)
         go_ret
         exact ⟨by first | rfl | (simp only [h0, h1, h2, h3, h4, h5, h6, h7, bls]; done) | (simp only [h0, h1, h2, h3, h4, h5, h6, h7, bls]; rfl), HAL.out.trans (K6.out.mono HAL.out.size)⟩
        | true =>
         (try go_wp2_with fail)
         go_ret
         exact ⟨by first | rfl | (simp only [h0, h1, h2, h3, h4, h5, h6, h7, bls]; done) | (simp only [h0, h1, h2, h3, h4, h5, h6, h7, bls]; rfl), HAL.out.trans (K6.out.mono HAL.out.size)⟩
       | true =>
        (try go_wp2_with fail)
        go_ret
        exact ⟨by first | rfl | (simp only [h0, h1, h2, h3, h4, h5, h6, bls]; done) | (simp only [h0, h1, h2, h3, h4, h5, h6, bls]; rfl), HAL.out.trans (K5.out.mono HAL.out.size)⟩
    | true =>
     simp only [h3] at H4
     go_wp2_with fail
     refine (H4.out _ K3.out).mono ?_
     rintro e v4 ⟨rfl, hb⟩
     have K4 := hh (show Below W.heap.size W v4 from then' K3.out hb)
     obtain ⟨x4_0, x4_1, x4_2, x4_3, x4_4, x4_5, x4_6⟩ := cl_cells ((K4.out.block _ HLT.out).trans HBK.out)
     clear hb x3_0 x3_1 x3_2 x3_3 x3_4 x3_5 x3_6
     cases h4 : b4 with
     | false =>
      (try go_wp2_with fail)
      go_ret
      exact ⟨by first | rfl | (simp only [h0, h1, h2, h3, h4, bls]; done) | (simp only [h0, h1, h2, h3, h4, bls]; rfl), HAL.out.trans (K4.out.mono HAL.out.size)⟩
     | true =>
      go_wp2_with fail
      refine (H5.out _ K4.out).mono ?_
      rintro e v5 ⟨rfl, hb⟩
      have K5 := hh (show Below W.heap.size W v5 from then' K4.out hb)
      obtain ⟨x5_0, x5_1, x5_2, x5_3, x5_4, x5_5, x5_6⟩ := cl_cells ((K5.out.block _ HLT.out).trans HBK.out)
      clear hb x4_0 x4_1 x4_2 x4_3 x4_4 x4_5 x4_6
      cases h5 : b5 with
      | false =>
       (try go_wp2_with fail)
       go_ret
       exact ⟨by first | rfl | (simp only [h0, h1, h2, h3, h4, h5, bls]; done) | (simp only [h0, h1, h2, h3, h4, h5, bls]; rfl), HAL.out.trans (K5.out.mono HAL.out.size)⟩
      | true =>
       go_wp2_with fail
       refine (H6.out _ K5.out).mono ?_
       rintro e v6 ⟨rfl, hb⟩
       have K6 := hh (show Below W.heap.size W v6 from then' K5.out hb)
       obtain ⟨x6_0, x6_1, x6_2, x6_3, x6_4, x6_5, x6_6⟩ := cl_cells ((K6.out.block _ HLT.out).trans HBK.out)
       clear hb x5_0 x5_1 x5_2 x5_3 x5_4 x5_5 x5_6
       cases h6 : b6 with
       | false =>
        (try go_wp2_with fail)
        go_ret
        exact ⟨by first | rfl | (simp only [h0, h1, h2, h3, h4, h5, h6, bls]; done) | (simp only [h0, h1, h2, h3, h4, h5, h6, bls]; rfl), HAL.out.trans (K6.out.mono HAL.out.size)⟩
       | true =>
        cases h7 : x.ab with
        | false =>
         go_wp2_with fail
         refine (H7.out _ K6.out).mono ?_
         rintro e v7 ⟨rfl, hb⟩
         have K7 := hh (show Below W.heap.size W v7 from then' K6.out hb)
         obtain ⟨x7_0, x7_1, x7_2, x7_3, x7_4, x7_5, x7_6⟩ := cl_cells ((K7.out.block _ HLT.out).trans HBK.out)
         clear hb x6_0 x6_1 x6_2 x6_3 x6_4 x6_5 x6_6
         cases h8 : b7 with
         | false =>
          (try go_wp2_with fail)
          go_ret
          exact ⟨by first | rfl | (simp only [h0, h1, h2, h3, h4, h5, h6, h7, h8, bls]; done) | (simp only [h0, h1, h2, h3, h4, h5, h6, h7, h8, bls]; rfl), HAL.out.trans (K7.out.mono HAL.out.size)⟩
         | true =>
          (try go_wp2_with fail)
          go_ret
          exact ⟨by first | rfl | (simp only [h0, h1, h2, h3, h4, h5, h6, h7, h8, bls]; done) | (simp only [h0, h1, h2, h3, h4, h5, h6, h7, h8, bls]; rfl), HAL.out.trans (K7.out.mono HAL.out.size)⟩
        | true =>
         (try go_wp2_with fail)
         go_ret
         exact ⟨by first | rfl | (simp only [h0, h1, h2, h3, h4, h5, h6, h7, bls]; done) | (simp only [h0, h1, h2, h3, h4, h5, h6, h7, bls]; rfl), HAL.out.trans (K6.out.mono HAL.out.size)⟩
def entryT (a b c : Tx) : Bool := ((a == []) && ((b == []) && (c == []))) || (clsB a && (memberB b && ((c == [40, 41, 73]) || (c == [40, 41, 86]))))
theorem cls_nil : clsB [] = false := by decide +kernel
theorem entry_w (a b c : Tx) (w : World) (ha : a.length ≤ 281474976710656) (hb : b.length ≤ 281474976710656) : Calls Tryz.prog 41 #[.agg #[.string ⟨a.toArray⟩, .string ⟨b.toArray⟩, .string ⟨c.toArray⟩]] w fun e w' => e = .returned (.bool (entryT a b c)) ∧ Below w.heap.size w w' := by
 obtain ⟨W, hW⟩ : ∃ W, W = w.alloc (.cells #[.string ⟨a.toArray⟩, .string ⟨b.toArray⟩, .string ⟨c.toArray⟩] 25) := ⟨_, rfl⟩
 have hal : Below w.heap.size w W := by rw [hW]; exact (Below.refl _ w).alloc (Nat.le_refl _) _
 have HAL := hh hal
 have hblk : W.heap[w.heap.size]? = some (.cells #[.string ⟨a.toArray⟩, .string ⟨b.toArray⟩, .string ⟨c.toArray⟩] 25 (0, 0)) := by rw [hW]; exact heap_alloc_new w _
 have HBK := hh hblk; have HLT := hh (blk_lt hblk)
 have K0 := hh (Below.refl W.heap.size W)
 have H1 := hh (fun w => cls_ww a w ha)
 have H2 := hh (fun w => member_w b w hb)
 unfold entryT
 by_cases h1 : a = []
 ·subst h1
  rw [cls_nil] at H1 ⊢
  by_cases h2 : b = []
  ·subst h2
   by_cases h3 : c = []
   ·subst h3
    have HW := hh hW
    clear hal hblk hW ha hb
    go_enter Tryz.func41, Tryz.ntmps41
    go_wp2_with fail
    rw [← HW.out]
    go_ret
    exact ⟨rfl, HAL.out⟩
   ·have e : ((([] : Tx) == []) && ((([] : Tx) == []) && (c == [])) || (false && (memberB [] && ((c == [40, 41, 73]) || (c == [40, 41, 86]))))) = false := by simp [h3]
    rw [e]
    have HW := hh hW
    clear hal hblk hW ha hb e
    go_enter Tryz.func41, Tryz.ntmps41
    go_wp2_with fail
    rw [← HW.out]
    refine (H1.out _).mono ?_
    rintro e v ⟨rfl, hb⟩
    have K1 := hh hb
    clear hb
    (try go_wp2_with fail)
    go_ret
    exact ⟨rfl, HAL.out.trans (K1.out.mono HAL.out.size)⟩
  ·have e : ((([] : Tx) == []) && ((b == []) && (c == [])) || (false && (memberB b && ((c == [40, 41, 73]) || (c == [40, 41, 86]))))) = false := by simp [h2]
   rw [e]
   have HW := hh hW
   clear hal hblk hW ha hb e
   go_enter Tryz.func41, Tryz.ntmps41
   go_wp2_with fail
   rw [← HW.out]
   refine (H1.out _).mono ?_
   rintro e v ⟨rfl, hb⟩
   have K1 := hh hb
   clear hb
   (try go_wp2_with fail)
   go_ret
   exact ⟨rfl, HAL.out.trans (K1.out.mono HAL.out.size)⟩
 ·have e : ((a == []) && ((b == []) && (c == []))) = false := by simp [h1]
  rw [e, Bool.false_or]
  generalize clsB a = b1 at *
  generalize memberB b = b2 at *
  have x0_0 : W.cell? ⟨w.heap.size, 0, none⟩ = some (.string ⟨a.toArray⟩) := cell_of_row _ _ 0 _ _ _ hblk
  have x0_1 : W.cell? ⟨w.heap.size, 1, none⟩ = some (.string ⟨b.toArray⟩) := cell_of_row _ _ 1 _ _ _ hblk
  have x0_2 : W.cell? ⟨w.heap.size, 2, none⟩ = some (.string ⟨c.toArray⟩) := cell_of_row _ _ 2 _ _ _ hblk
  have HCE := hh (show ∀ v : World, v.heap[w.heap.size]? = some (.cells #[.string ⟨a.toArray⟩, .string ⟨b.toArray⟩, .string ⟨c.toArray⟩] 25 (0, 0)) → v.cell? ⟨w.heap.size, 0, none⟩ = some (.string ⟨a.toArray⟩) ∧ v.cell? ⟨w.heap.size, 1, none⟩ = some (.string ⟨b.toArray⟩) ∧ v.cell? ⟨w.heap.size, 2, none⟩ = some (.string ⟨c.toArray⟩) from fun v h => ⟨cell_of_row _ _ 0 _ _ _ h, cell_of_row _ _ 1 _ _ _ h, cell_of_row _ _ 2 _ _ _ h⟩)
  have HW := hh hW
  clear hal hblk hW ha hb e
  go_enter Tryz.func41, Tryz.ntmps41
  go_wp2_with fail
  rw [← HW.out]
  (try go_wp2_with fail)
  refine (H1.out _).mono ?_
  rintro e v1 ⟨rfl, hb⟩
  have K1 := hh (show Below W.heap.size W v1 from then' K0.out hb)
  obtain ⟨x1_0, x1_1, x1_2⟩ := HCE.out _ ((K1.out.block _ HLT.out).trans HBK.out)
  clear hb x0_0 x0_1 x0_2
  cases h0 : b1 with
  | false =>
   (try go_wp2_with fail)
   go_ret
   exact ⟨by first | rfl | (simp only [h0, bls]; done) | (simp only [h0, bls]; rfl), HAL.out.trans (K1.out.mono HAL.out.size)⟩
  | true =>
   go_wp2_with fail
   refine (H2.out _).mono ?_
   rintro e v2 ⟨rfl, hb⟩
   have K2 := hh (show Below W.heap.size W v2 from then' K1.out hb)
   obtain ⟨x2_0, x2_1, x2_2⟩ := HCE.out _ ((K2.out.block _ HLT.out).trans HBK.out)
   clear hb x1_0 x1_1 x1_2
   cases h1 : b2 with
   | false =>
    (try go_wp2_with fail)
    go_ret
    exact ⟨by first | rfl | (simp only [h0, h1, bls]; done) | (simp only [h0, h1, bls]; rfl), HAL.out.trans (K2.out.mono HAL.out.size)⟩
   | true =>
    cases h2 : (c == [40, 41, 73]) with
    | false =>
     cases h3 : (c == [40, 41, 86]) with
     | false =>
      (try go_wp2_with fail)
      go_ret
      exact ⟨by first | rfl | (simp only [h0, h1, h2, h3, bls]; done) | (simp only [h0, h1, h2, h3, bls]; rfl), HAL.out.trans (K2.out.mono HAL.out.size)⟩
     | true =>
      (try go_wp2_with fail)
      go_ret
      exact ⟨by first | rfl | (simp only [h0, h1, h2, h3, bls]; done) | (simp only [h0, h1, h2, h3, bls]; rfl), HAL.out.trans (K2.out.mono HAL.out.size)⟩
    | true =>
     (try go_wp2_with fail)
     go_ret
     exact ⟨by first | rfl | (simp only [h0, h1, h2, bls]; done) | (simp only [h0, h1, h2, bls]; rfl), HAL.out.trans (K2.out.mono HAL.out.size)⟩
theorem right_w (x : PrM) (w : World) (ht : Wd w) (hk : PrOk w x) (hb : PrBd x) (hf : PrFit x) : Calls Tryz.prog 12 #[.agg (prC x).toArray] w fun e w' => e = .returned (.int .i64 (rightE x)) ∧ Below w.heap.size w w' := by
 obtain ⟨W, hW⟩ : ∃ W, W = w.alloc (.cells (prC x).toArray 27) := ⟨_, rfl⟩
 have hal : Below w.heap.size w W := by rw [hW]; exact (Below.refl _ w).alloc (Nat.le_refl _) _
 have HAL := hh hal
 have hblk : W.heap[w.heap.size]? = some (.cells (prC x).toArray 27 (0, 0)) := by rw [hW]; exact heap_alloc_new w _
 have HBK := hh hblk; have HLT := hh (blk_lt hblk)
 obtain ⟨x0_0, x0_1, x0_2, x0_3, x0_4⟩ := pr_cells hblk
 have K0 := hh (Below.refl W.heap.size W)
 have htW := ht.below hal
 have hkW := hk.below hal
 have l1 : x.cs.length ≤ 281474976710656 := by have := hb.1.1; omega
 have l2 : x.ns.length ≤ 281474976710656 := by have := hb.2.1.1; omega
 have H1 := hh (fun v (hv : Below W.heap.size W v) => names_w x.A2 x.c2 x.ns v (hkW.2.1.2.below hv) l2 (fun y hy => by have := hb.2.1.2 y hy; omega))
 have H2 := hh (fun v (hv : Below W.heap.size W v) => all_few x.A1 x.c1 x.cs fewB v (hkW.1.2.below hv) l1 (fun y _ u _ => few_w y u))
 have H3 := hh (fun v (hv : Below W.heap.size W v) => all_class x.A1 x.c1 x.cs classB v (hkW.1.2.below hv) l1 (fun y hy u hu => class_w y u ((htW.below hv).below hu) (((hkW.2.2 y hy).below hv).below hu) (hb.1.2 y hy) (hf y hy)))
 have H4 := hh (fun v => entry_w x.ec x.en x.ed v (by have := hb.2.2.1; omega) (by have := hb.2.2.2.1; omega))
 have H5 := hh (fun v (hv : Below W.heap.size W v) => order_w x v (hkW.below hv) hb)
 have hR : rightE x = if (!fewNamesB x.ns || (decide (64 < x.cs.length) || !x.cs.all fewB)) = true then 3 else if (!x.cs.all classB || !entryT x.ec x.en x.ed) = true then 1 else if orderB x = false then 5 else 0 := rfl
 generalize rightE x = R at *
 generalize fewNamesB x.ns = b1 at *
 generalize entryT x.ec x.en x.ed = b4 at *
 generalize orderB x = b5 at *
 obtain ⟨b2, hb2⟩ : ∃ b, b = x.cs.all fewB := ⟨_, rfl⟩
 obtain ⟨b3, hb3⟩ : ∃ b, b = x.cs.all classB := ⟨_, rfl⟩
 rw [← hb2] at H2 hR
 rw [← hb3] at H3 hR
 obtain ⟨n, hn⟩ : ∃ n, n = x.cs.length := ⟨_, rfl⟩
 rw [← hn] at hR x0_0 H2 H3 l1
 unfold prC at hW H5 ⊢
 try dsimp only at hW H5 ⊢
 rw [← hn] at hW H5 ⊢
 have hnI : (n : Int) ≤ 281474976710656 := by omega
 have HW := hh hW
 have HR := hh hR
 have HN0 := hh hn
 clear hal hblk hW hR htW hkW ht hk hb hf l1 l2 hb2 hb3 hn
 go_enter Tryz.func12, Tryz.ntmps12
 go_wp2_with fail
 rw [← HW.out]
 (try go_wp2_with fail)
 refine (H1.out _ K0.out).mono ?_
 rintro e v1 ⟨rfl, hb⟩
 have K1 := hh (show Below W.heap.size W v1 from then' K0.out hb)
 obtain ⟨x1_0, x1_1, x1_2, x1_3, x1_4⟩ := pr_cells ((K1.out.block _ HLT.out).trans HBK.out)
 rw [← HN0.out] at x1_0
 clear hb x0_0 x0_1 x0_2 x0_3 x0_4
 cases h0 : b1 with
 | false =>
  (try go_wp2_with fail)
  go_ret
  exact ⟨by rw [HR.out]; first | rfl | (simp only [h0, bls, reduceIte, Bool.false_eq_true, reduceCtorEq]; done) | (simp only [h0, bls, reduceIte, Bool.false_eq_true, reduceCtorEq]; rfl), HAL.out.trans (K1.out.mono HAL.out.size)⟩
 | true =>
  cases h1 : decide (64 < n) with
  | false =>
   have g2 : ¬ (64 : Int) < (n : Int) := by have := of_decide_eq_false h1; omega
   go_wp2_with fail
   refine (H2.out _ K1.out).mono ?_
   rintro e v2 ⟨rfl, hb⟩
   have K2 := hh (show Below W.heap.size W v2 from then' K1.out hb)
   obtain ⟨x2_0, x2_1, x2_2, x2_3, x2_4⟩ := pr_cells ((K2.out.block _ HLT.out).trans HBK.out)
   rw [← HN0.out] at x2_0
   clear hb x1_0 x1_1 x1_2 x1_3 x1_4
   cases h2 : b2 with
   | false =>
    (try go_wp2_with fail)
    go_ret
    exact ⟨by rw [HR.out]; first | rfl | (simp only [h0, h1, h2, bls, reduceIte, Bool.false_eq_true, reduceCtorEq]; done) | (simp only [h0, h1, h2, bls, reduceIte, Bool.false_eq_true, reduceCtorEq]; rfl), HAL.out.trans (K2.out.mono HAL.out.size)⟩
   | true =>
    go_wp2_with fail
    refine (H3.out _ K2.out).mono ?_
    rintro e v3 ⟨rfl, hb⟩
    have K3 := hh (show Below W.heap.size W v3 from then' K2.out hb)
    obtain ⟨x3_0, x3_1, x3_2, x3_3, x3_4⟩ := pr_cells ((K3.out.block _ HLT.out).trans HBK.out)
    rw [← HN0.out] at x3_0
    clear hb x2_0 x2_1 x2_2 x2_3 x2_4
    cases h3 : b3 with
    | false =>
     (try go_wp2_with fail)
     go_ret
     exact ⟨by rw [HR.out]; first | rfl | (simp only [h0, h1, h2, h3, bls, reduceIte, Bool.false_eq_true, reduceCtorEq]; done) | (simp only [h0, h1, h2, h3, bls, reduceIte, Bool.false_eq_true, reduceCtorEq]; rfl), HAL.out.trans (K3.out.mono HAL.out.size)⟩
    | true =>
     go_wp2_with fail
     refine (H4.out _).mono ?_
     rintro e v4 ⟨rfl, hb⟩
     have K4 := hh (show Below W.heap.size W v4 from then' K3.out hb)
     obtain ⟨x4_0, x4_1, x4_2, x4_3, x4_4⟩ := pr_cells ((K4.out.block _ HLT.out).trans HBK.out)
     rw [← HN0.out] at x4_0
     clear hb x3_0 x3_1 x3_2 x3_3 x3_4
     cases h4 : b4 with
     | false =>
      (try go_wp2_with fail)
      go_ret
      exact ⟨by rw [HR.out]; first | rfl | (simp only [h0, h1, h2, h3, h4, bls, reduceIte, Bool.false_eq_true, reduceCtorEq]; done) | (simp only [h0, h1, h2, h3, h4, bls, reduceIte, Bool.false_eq_true, reduceCtorEq]; rfl), HAL.out.trans (K4.out.mono HAL.out.size)⟩
     | true =>
      go_wp2_with fail
      refine (H5.out _ K4.out).mono ?_
      rintro e v5 ⟨rfl, hb⟩
      have K5 := hh (show Below W.heap.size W v5 from then' K4.out hb)
      obtain ⟨x5_0, x5_1, x5_2, x5_3, x5_4⟩ := pr_cells ((K5.out.block _ HLT.out).trans HBK.out)
      rw [← HN0.out] at x5_0
      clear hb x4_0 x4_1 x4_2 x4_3 x4_4
      cases h5 : b5 with
      | false =>
       (try go_wp2_with fail)
       go_ret
       exact ⟨by rw [HR.out]; first | rfl | (simp only [h0, h1, h2, h3, h4, h5, bls, reduceIte, Bool.false_eq_true, reduceCtorEq]; done) | (simp only [h0, h1, h2, h3, h4, h5, bls, reduceIte, Bool.false_eq_true, reduceCtorEq]; rfl), HAL.out.trans (K5.out.mono HAL.out.size)⟩
      | true =>
       (try go_wp2_with fail)
       go_ret
       exact ⟨by rw [HR.out]; first | rfl | (simp only [h0, h1, h2, h3, h4, h5, bls, reduceIte, Bool.false_eq_true, reduceCtorEq]; done) | (simp only [h0, h1, h2, h3, h4, h5, bls, reduceIte, Bool.false_eq_true, reduceCtorEq]; rfl), HAL.out.trans (K5.out.mono HAL.out.size)⟩
  | true =>
   have g2 : (64 : Int) < (n : Int) := by have := of_decide_eq_true h1; omega
   (try go_wp2_with fail)
   go_ret
   exact ⟨by rw [HR.out]; first | rfl | (simp only [h0, h1, bls, reduceIte, Bool.false_eq_true, reduceCtorEq]; done) | (simp only [h0, h1, bls, reduceIte, Bool.false_eq_true, reduceCtorEq]; rfl), HAL.out.trans (K1.out.mono HAL.out.size)⟩
end Go.Proofs.YtgociheckcpjkaaGreatDoor.prg

/- HierW -/
import Derived.Test.YtdifmgeicnndfaaHierV
namespace Go.Proofs.Ytdifmgeicnndfaa.prg
open Go.RowKit
open words kindp opp op kind word sorts
set_option maxRecDepth 100000
set_option maxHeartbeats 16000000
set_option linter.all false
theorem sub_r (x : PrM) (a b : Tx) (w : World) (hpr : PrOk w x) (hgr : GrP x) :
  Calls Try.prog 48 #[.agg (prC x).toArray, .string ⟨a.toArray⟩, .string ⟨b.toArray⟩] w (SubR x.cs a b w) := by
 obtain ⟨cs, A1, c1, ns, A2, c2, ec, en, ed⟩ := x
 obtain ⟨W, hW⟩ : ∃ W, W = w.alloc (.cells (prC ⟨cs, A1, c1, ns, A2, c2, ec, en, ed⟩).toArray 27) := ⟨_, rfl⟩
 have hal : Below w.heap.size w W := by rw [hW]; exact (Below.refl _ w).alloc (Nat.le_refl _) _
 have hblk : W.heap[w.heap.size]? = some (.cells (prC ⟨cs, A1, c1, ns, A2, c2, ec, en, ed⟩).toArray 27 (0, 0)) := by rw [hW]; exact heap_alloc_new w _
 obtain ⟨x0, x1, x2, x3, x4⟩ := pr_cells hblk
 have HAN := anc_r ⟨cs, A1, c1, ns, A2, c2, ec, en, ed⟩ a W (hpr.below hal) hgr
 have HAL := zh hal
 unfold prC at hW HAN ⊢
 try dsimp only [List.cons_append, List.nil_append] at hW HAN ⊢
 have HAN := zh HAN
 have HW := zh hW
 clear hal hblk hW hpr hgr
 go_enter Try.func48, Try.ntmps48
 go_wp2_with fail
 rw [← HW.out]
 (try go_wp2_with fail)
 refine HAN.out.mono ?_
 rintro e w1 ⟨⟨A, cc, M, rfl, hl, hall, hr⟩, hb⟩
 obtain ⟨m, hm⟩ : ∃ m, m = M.length := ⟨_, rfl⟩
 have HIN := rin_w A cc M b w1 hr (by omega)
 obtain ⟨r, hrr⟩ : ∃ r, r = M.contains b := ⟨_, rfl⟩
 rw [← hm, ← hrr] at HIN
 rw [← hm]
 have HRR := zh (show findC cs [] = none → subB cs a b = true → r = true from fun h0 hs => by rw [hrr]; exact List.contains_iff_mem.2 (hall h0 b (sub_reach.1 hs)))
 have HB1 := zh (HAL.out.trans (hb.mono HAL.out.size))
 have HIN := zh HIN
 clear hl hall hr hb hm hrr x0 x1 x2 x3 x4
 go_wp2_with fail
 refine HIN.out.mono ?_
 rintro e w2 ⟨rfl, hb⟩
 have HB2 := zh (then' HB1.out hb)
 clear hb
 go_wp2
 go_ret
 exact ⟨r, rfl, HRR.out, HB2.out⟩
def ChkA (cs : List ClM) : Prop := ∀ c ∈ cs, (c.su ≠ [] → ifB cs c.su = false) ∧ ∀ s ∈ c.is, ifB cs s = true
def ChkB (cs : List ClM) : Prop := findC cs [] = none → ∀ c ∈ cs, cycB cs c = false
def CheckR (cs : List ClM) (w : World) (e : Ending) (w' : World) : Prop := ∃ (E : Int) (s : Tx), e = .returned (.tuple #[.int .i64 E, .string ⟨s.toArray⟩]) ∧ (E = 0 → ChkA cs ∧ ChkB cs) ∧ Below w.heap.size w w'
theorem Reach.one {cs : List ClM} {l : List Tx} {b : Tx} (h : Reach cs l b) : ∃ s ∈ l, Reach cs [s] b := by
 induction h with
 | base m k => exact ⟨_, m, .base (by simp) k⟩
 | step _ m k ih =>
  obtain ⟨s, hs, hr⟩ := ih
  exact ⟨s, hs, .step hr m k⟩
theorem Reach.begin {cs : List ClM} {s b : Tx} (h : Reach cs [s] b) : hasC cs s = true := by
 induction h with
 | base m k => rw [List.mem_singleton] at m; subst m; exact k
 | step _ _ _ ih => exact ih
theorem cyc_of {cs : List ClM} {c : ClM} (h0 : findC cs [] = none) (h1 : c.su ≠ [] → subB cs c.su c.nm = false) (h2 : ∀ s ∈ c.is, subB cs s c.nm = false) : cycB cs c = false := by
 cases hb : cycB cs c with
 | false => rfl
 | true =>
  exfalso
  unfold cycB at hb
  have hr := mem_up.1 (List.contains_iff_mem.1 hb)
  obtain ⟨s, hs, hr2⟩ := hr.one
  simp only [abv, List.mem_cons] at hs
  rcases hs with rfl | hs
  ·by_cases he : c.su = []
   ·rw [he] at hr2
    have := hr2.begin
    unfold hasC at this; rw [h0] at this; cases this
   ·rw [sub_reach.2 hr2] at h1; cases h1 he
  ·have := h2 s hs
   rw [sub_reach.2 hr2] at this; cases this
theorem check_r (x : PrM) (w : World) (hpr : PrOk w x) (hgr : GrP x) :
  Calls Try.prog 14 #[.agg (prC x).toArray] w (CheckR x.cs w) := by
 obtain ⟨cs, A1, c1, ns, A2, c2, ec, en, ed⟩ := x
 obtain ⟨W, hW⟩ : ∃ W, W = w.alloc (.cells (prC ⟨cs, A1, c1, ns, A2, c2, ec, en, ed⟩).toArray 27) := ⟨_, rfl⟩
 have hal : Below w.heap.size w W := by rw [hW]; exact (Below.refl _ w).alloc (Nat.le_refl _) _
 have hblk : W.heap[w.heap.size]? = some (.cells (prC ⟨cs, A1, c1, ns, A2, c2, ec, en, ed⟩).toArray 27 (0, 0)) := by rw [hW]; exact heap_alloc_new w _
 have h70 : cs.length ≤ 70 := hgr.1.1
 have HPL := fun (t : Tx) v (hv : Below W.heap.size W v) => rplace_cl ⟨cs, A1, c1, ns, A2, c2, ec, en, ed⟩ t v ((hpr.below hal).below hv).1.2 (by show cs.length ≤ _; omega)
 have HIF := fun (t : Tx) v (hv : Below W.heap.size W v) => riface_w ⟨cs, A1, c1, ns, A2, c2, ec, en, ed⟩ t v ((hpr.below hal).below hv) h70
 have HSB := fun (a b : Tx) v (hv : Below W.heap.size W v) => sub_r ⟨cs, A1, c1, ns, A2, c2, ec, en, ed⟩ a b v ((hpr.below hal).below hv) hgr
 have HPO := zh (fun v (hv : Below W.heap.size W v) => (hpr.below hal).below hv)
 have HCE := fun v (hv : Below W.heap.size W v) => pr_cells ((hv.block _ (blk_lt hblk)).trans hblk)
 have HGR := zh (fun (c : ClM) (hc : c ∈ cs) => show c.is.length ≤ 40 from (hgr.2 c hc).1.1)
 have HAL := zh hal
 have HEND := zh (fun (E : Int) (s : Tx) v (hE : E ≠ 0) (hv : Below W.heap.size W v) => show CheckR cs w (.returned (.tuple #[.int .i64 E, .string ⟨s.toArray⟩])) v from ⟨E, s, rfl, fun h => absurd h hE, hal.trans (hv.mono hal.size)⟩)
 obtain ⟨n, hn⟩ : ∃ n, n = cs.length := ⟨_, rfl⟩
 have hn70 : n ≤ 70 := by rw [hn]; exact h70
 have hnI : (n : Int) ≤ 70 := by omega
 have HN := zh hn
 dsimp only at HPL HIF HSB HCE
 unfold prC at hW HPL HIF HSB ⊢
 try dsimp only [List.cons_append, List.nil_append] at hW HPL HIF HSB ⊢
 rw [← hn] at hW ⊢
 simp only [← hn] at HPL HIF HSB HCE
 have HPL := zh HPL; have HIF := zh HIF; have HSB := zh HSB; have HCE := zh HCE
 have HW := zh hW
 clear hal hblk hW hpr hgr h70 hn
 obtain ⟨x0, x1, x2, x3, x4⟩ := HCE.out W (Below.refl _ _)
 go_enter Try.func14, Try.ntmps14
 go_wp2_with fail
 rw [← HW.out]
 (try go_wp2_with fail)
 have K0 := zh (Below.refl W.heap.size W)
 clear x0 x1 x2 x3 x4
 go_loopw [4] (fun i wr => ∃ k : Nat, i = .int .i64 (k : Int) ∧ k ≤ n ∧ (∀ c ∈ cs.take k, (c.su ≠ [] → ifB cs c.su = false) ∧ ∀ s ∈ c.is, ifB cs s = true) ∧ Below W.heap.size W wr) (fun i _ => n - (intOf i).toNat)
 case atStart => exact ⟨0, rfl, Nat.zero_le _, by simp, K0.out⟩
 case round =>
  obtain ⟨k, rfl, hk, hall, hbw⟩ := hrel
  have HA := zh hall; have HB := zh hbw
  clear hall
  by_cases hlt : k < n
  ·have hltI : (k : Int) < (n : Int) := by omega
   obtain ⟨c, hc⟩ : ∃ x, cs[k]? = some x := ⟨cs[k]'(by rw [← HN.out]; exact hlt), List.getElem?_eq_getElem _⟩
   have hmem := List.mem_of_getElem? hc
   obtain ⟨V, hV⟩ : ∃ V, V = wr.alloc (.cells (clC c).toArray 43) := ⟨_, rfl⟩
   have hbV : Below wr.heap.size wr V := by rw [hV]; exact (Below.refl _ wr).alloc (Nat.le_refl _) _
   have bV : V.heap[wr.heap.size]? = some (.cells (clC c).toArray 43 (0, 0)) := by rw [hV]; exact heap_alloc_new wr _
   have hWV : Below W.heap.size W V := hbw.trans (hbV.mono hbw.size)
   obtain ⟨bz, hbz⟩ : ∃ b, b = wr.heap.size := ⟨_, rfl⟩
   have HCB := zh (fun v (hv : Below V.heap.size V v) => cl_cells ((hv.block _ (blk_lt bV)).trans bV))
   have HIL := zh (HGR.out c hmem)
   have HRI := zh (fun v (hv : Below V.heap.size V v) => show Rd v c.A1 (SX c.is) from ((HPO.out v (hWV.trans (hv.mono hWV.size))).2.2 c hmem).1.2)
   have HWV := zh hWV
   have HC := zh hc
   obtain ⟨x0, x1, x2, x3, x4⟩ := HCE.out wr hbw
   obtain ⟨a, rfl, -, d0, d1, d2, d3, d4, d5, d6⟩ := cl_at (HPO.out wr hbw).1.2 hc
   have hil : (c.is.length : Int) ≤ 40 := by have := HIL.out; omega
   unfold clC at hV
   try dsimp only at hV
   have HV := zh hV
   rw [← hbz] at HCB
   have HBZ := zh hbz
   clear hc hmem hV hbV bV hWV hbw hbz
   have K1 := zh (Below.refl V.heap.size V)
   cases hs0 : (c.su == [])
   rotate_left 1
   focus
    have g1 := e_empty hs0
    obtain ⟨y0, y1, y2, y3, y4⟩ := HCE.out V HWV.out
    rw [HV.out] at y0 y1 y2 y3 y4
    go_wp2_with fail
    rw [← HV.out, ← HBZ.out]
    clear y0 y1 y2 y3 y4
    obtain ⟨z0, z1, z2, z3, z4, z5, z6⟩ := HCB.out V K1.out
    clear x0 x1 x2 x3 x4 d0 d1 d2 d3 d4 d5 d6
    obtain ⟨x0, x1, x2, x3, x4⟩ := HCE.out V HWV.out
    (try go_wp2_with fail)
    go_loopw [6] (fun i2 wq => ∃ q : Nat, i2 = .int .i64 (q : Int) ∧ q ≤ c.is.length ∧ Below V.heap.size V wq) (fun i2 _ => c.is.length - (intOf i2).toNat)
    case atStart => exact ⟨0, rfl, Nat.zero_le _, K1.out⟩
    case round =>
     obtain ⟨q, rfl, hq, hbq⟩ := hrel
     have KQ := zh hbq
     clear hbq
     clear x0 x1 x2 x3 x4 z0 z1 z2 z3 z4 z5 z6
     obtain ⟨x0, x1, x2, x3, x4⟩ := HCE.out _ (HWV.out.trans (KQ.out.mono HWV.out.size))
     obtain ⟨z0, z1, z2, z3, z4, z5, z6⟩ := HCB.out _ KQ.out
     by_cases hlq : q < c.is.length
     ·have hlqI : (q : Int) < (c.is.length : Int) := by omega
      obtain ⟨t, ht⟩ : ∃ t, c.is[q]? = some t := ⟨c.is[q]'hlq, List.getElem?_eq_getElem _⟩
      have hrd := HRI.out _ KQ.out
      obtain ⟨a2, ha2, _, htc⟩ := hrd.at_ (sx_get ht)
      rw [ha2] at z4
      have HA2 := zh ha2; have HT := zh ht
      clear ha2 hrd ht
      cases hft : findC cs t with
      | none =>
       have HQ1 := zh (fun v (hv : Below V.heap.size V v) => Calls.mono (R' := fun e w' => e = .returned (.int .i64 (-1)) ∧ Below v.heap.size v w') (HPL.out t v (HWV.out.trans (hv.mono HWV.out.size))) (fun e w' ⟨r, he, hr, hb⟩ => by
        rcases idx_two hr with ⟨rfl, -, -⟩ | ⟨k, x, -, -, -, -, h2⟩
        ·exact ⟨he, hb⟩
        ·unfold findC at hft; rw [hft] at h2; cases h2))
       clear hft
       have hB := KQ.out
       have hmx : Try.prog.follows .mixedOrders = true := by kernel_rfl
       have HTC := zh (fun v (hv : Below V.heap.size V v) => show v.cell? (a2.add q) = some (.string ⟨t.toArray⟩) from by
        obtain ⟨a9, e9, -, h9⟩ := (HRI.out v hv).at_ (sx_get HT.out)
        rw [HA2.out] at e9; cases e9; exact h9)
       have HZ4 := zh (fun v (hv : Below V.heap.size V v) => show v.cell? ⟨bz, 4, none⟩ = some (.slice (some a2) c.is.length c.c1) from by rw [← HA2.out]; exact (HCB.out v hv).2.2.2.2.1)
       (try go_wp2_with fail)
       clear z1 z2 z3 z5 z6
       go_region_held3 (fun w' => (w'.cell? ⟨w.heap.size, 0, none⟩ = some (.slice (some a) n c1) ∧ w'.cell? ⟨w.heap.size, 1, none⟩ = some (.slice A2 ns.length c2) ∧ w'.cell? ⟨w.heap.size, 2, none⟩ = some (.string ⟨ec.toArray⟩) ∧ w'.cell? ⟨w.heap.size, 3, none⟩ = some (.string ⟨en.toArray⟩) ∧ w'.cell? ⟨w.heap.size, 4, none⟩ = some (.string ⟨ed.toArray⟩)) ∧ w'.cell? ⟨bz, 0, none⟩ = some (.string ⟨c.nm.toArray⟩) ∧ w'.cell? ⟨bz, 4, none⟩ = some (.slice (some a2) c.is.length c.c1) ∧ w'.cell? (a2.add q) = some (.string ⟨t.toArray⟩)) (go_keep)
        ((go_at_call 11; refine (HQ1.out _ ?_).mono ?_; (first | exact hB | exact overA hB); rintro e v3 ⟨rfl, hbq⟩; have hB := (show Below V.heap.size V v3 from ⟨hbq.os.trans hB.os, hbq.tape.trans hB.tape, hbq.output.trans hB.output, Nat.le_trans hB.size hbq.size, fun k hk => (hbq.block k (Nat.lt_of_lt_of_le hk hB.size)).trans (hB.block k hk)⟩); clear hbq x0 x1 x2 x3 x4 z0 z4 htc; obtain ⟨x0, x1, x2, x3, x4⟩ := HCE.out _ (HWV.out.trans (hB.mono HWV.out.size)); have z0 := (HCB.out _ hB).1; have z4 := HZ4.out _ hB; have htc := HTC.out _ hB))
       have K3 := zh hB
       clear hB htc z4
       (try go_wp2_with fail)
       (try go_quiet (fail))
       (try go_wp2_with fail)
       go_ret2
       exact HEND.out 7 c.nm _ (by decide) ⟨(HWV.out.trans (K3.out.mono HWV.out.size)).os, (HWV.out.trans (K3.out.mono HWV.out.size)).tape, (HWV.out.trans (K3.out.mono HWV.out.size)).output, (HWV.out.trans (K3.out.mono HWV.out.size)).size, (HWV.out.trans (K3.out.mono HWV.out.size)).block⟩
      | some cj =>
       obtain ⟨j2, -, hj2n, hrj2⟩ := anc_at hft
       have HQ1 := zh (fun v (hv : Below V.heap.size V v) => Calls.mono (R' := fun e w' => e = .returned (.int .i64 (j2 : Int)) ∧ Below v.heap.size v w') (HPL.out t v (HWV.out.trans (hv.mono HWV.out.size))) (fun e w' ⟨r, he, hr, hb⟩ => ⟨by rw [he, hrj2 r hr], hb⟩))
       have hj0 : ¬ (j2 : Int) < 0 := by omega
       clear hft hrj2
       have hB := KQ.out
       have hmx : Try.prog.follows .mixedOrders = true := by kernel_rfl
       have HTC := zh (fun v (hv : Below V.heap.size V v) => show v.cell? (a2.add q) = some (.string ⟨t.toArray⟩) from by
        obtain ⟨a9, e9, -, h9⟩ := (HRI.out v hv).at_ (sx_get HT.out)
        rw [HA2.out] at e9; cases e9; exact h9)
       have HZ4 := zh (fun v (hv : Below V.heap.size V v) => show v.cell? ⟨bz, 4, none⟩ = some (.slice (some a2) c.is.length c.c1) from by rw [← HA2.out]; exact (HCB.out v hv).2.2.2.2.1)
       (try go_wp2_with fail)
       clear z1 z2 z3 z5 z6
       go_region_held3 (fun w' => (w'.cell? ⟨w.heap.size, 0, none⟩ = some (.slice (some a) n c1) ∧ w'.cell? ⟨w.heap.size, 1, none⟩ = some (.slice A2 ns.length c2) ∧ w'.cell? ⟨w.heap.size, 2, none⟩ = some (.string ⟨ec.toArray⟩) ∧ w'.cell? ⟨w.heap.size, 3, none⟩ = some (.string ⟨en.toArray⟩) ∧ w'.cell? ⟨w.heap.size, 4, none⟩ = some (.string ⟨ed.toArray⟩)) ∧ w'.cell? ⟨bz, 0, none⟩ = some (.string ⟨c.nm.toArray⟩) ∧ w'.cell? ⟨bz, 4, none⟩ = some (.slice (some a2) c.is.length c.c1) ∧ w'.cell? (a2.add q) = some (.string ⟨t.toArray⟩)) (go_keep)
        ((go_at_call 11; refine (HQ1.out _ ?_).mono ?_; (first | exact hB | exact overA hB); rintro e v3 ⟨rfl, hbq⟩; have hB := (show Below V.heap.size V v3 from ⟨hbq.os.trans hB.os, hbq.tape.trans hB.tape, hbq.output.trans hB.output, Nat.le_trans hB.size hbq.size, fun k hk => (hbq.block k (Nat.lt_of_lt_of_le hk hB.size)).trans (hB.block k hk)⟩); clear hbq x0 x1 x2 x3 x4 z0 z4 htc; obtain ⟨x0, x1, x2, x3, x4⟩ := HCE.out _ (HWV.out.trans (hB.mono HWV.out.size)); have z0 := (HCB.out _ hB).1; have z4 := HZ4.out _ hB; have htc := HTC.out _ hB))
       have K3 := zh hB
       clear hB htc z4
       (try go_wp2_with fail)
       go_roundw
       case rel => exact ⟨q + 1, by go_num, by omega, K3.out⟩
       case measure => simp [intOf]; omega
     ·have hlqI : ¬ (q : Int) < (c.is.length : Int) := by omega
      (try go_wp2_with fail)
      have HSU := zh (show c.su ≠ [] → ifB cs c.su = false from fun h => absurd (by simpa using hs0) h)
      go_loopw [7] (fun i2 wq => ∃ q : Nat, i2 = .int .i64 (q : Int) ∧ q ≤ c.is.length ∧ (∀ s ∈ c.is.take q, ifB cs s = true) ∧ Below V.heap.size V wq) (fun i2 _ => c.is.length - (intOf i2).toNat)
      case atStart => exact ⟨0, rfl, Nat.zero_le _, by simp, KQ.out⟩
      case round =>
       obtain ⟨q2, rfl, hq2, hall2, hbq⟩ := hrel
       have KR := zh hbq
       have HA3 := zh hall2
       clear hbq hall2
       clear x0 x1 x2 x3 x4 z0 z1 z2 z3 z4 z5 z6
       obtain ⟨x0, x1, x2, x3, x4⟩ := HCE.out _ (HWV.out.trans (KR.out.mono HWV.out.size))
       obtain ⟨z0, z1, z2, z3, z4, z5, z6⟩ := HCB.out _ KR.out
       by_cases hlq2 : q2 < c.is.length
       ·have hlqI2 : (q2 : Int) < (c.is.length : Int) := by omega
        obtain ⟨t, ht⟩ : ∃ t, c.is[q2]? = some t := ⟨c.is[q2]'hlq2, List.getElem?_eq_getElem _⟩
        have hrd := HRI.out _ KR.out
        obtain ⟨a2, ha2, _, htc⟩ := hrd.at_ (sx_get ht)
        rw [ha2] at z4
        have HA2 := zh ha2; have HT := zh ht
        clear ha2 hrd ht
        have HQ1 := fun v (hv : Below V.heap.size V v) => HIF.out t v (HWV.out.trans (hv.mono HWV.out.size))
        obtain ⟨bi, hbi⟩ : ∃ b, b = (findC cs t).elim false (·.fc) := ⟨_, rfl⟩
        rw [← hbi] at HQ1
        have HBI := zh hbi; have HQ1 := zh HQ1
        clear hbi
        cases bi
        focus
         have hB := KR.out
         have hmx : Try.prog.follows .mixedOrders = true := by kernel_rfl
         have HTC := zh (fun v (hv : Below V.heap.size V v) => show v.cell? (a2.add q2) = some (.string ⟨t.toArray⟩) from by
          obtain ⟨a9, e9, -, h9⟩ := (HRI.out v hv).at_ (sx_get HT.out)
          rw [HA2.out] at e9; cases e9; exact h9)
         have HZ4 := zh (fun v (hv : Below V.heap.size V v) => show v.cell? ⟨bz, 4, none⟩ = some (.slice (some a2) c.is.length c.c1) from by rw [← HA2.out]; exact (HCB.out v hv).2.2.2.2.1)
         (try go_wp2_with fail)
         clear z1 z2 z3 z5 z6
         go_region_held3 (fun w' => (w'.cell? ⟨w.heap.size, 0, none⟩ = some (.slice (some a) n c1) ∧ w'.cell? ⟨w.heap.size, 1, none⟩ = some (.slice A2 ns.length c2) ∧ w'.cell? ⟨w.heap.size, 2, none⟩ = some (.string ⟨ec.toArray⟩) ∧ w'.cell? ⟨w.heap.size, 3, none⟩ = some (.string ⟨en.toArray⟩) ∧ w'.cell? ⟨w.heap.size, 4, none⟩ = some (.string ⟨ed.toArray⟩)) ∧ w'.cell? ⟨bz, 0, none⟩ = some (.string ⟨c.nm.toArray⟩) ∧ w'.cell? ⟨bz, 4, none⟩ = some (.slice (some a2) c.is.length c.c1) ∧ w'.cell? (a2.add q2) = some (.string ⟨t.toArray⟩)) (go_keep)
          ((go_at_call 47; refine (HQ1.out _ ?_).mono ?_; (first | exact hB | exact overA hB); rintro e v3 ⟨rfl, hbq⟩; have hB := (show Below V.heap.size V v3 from ⟨hbq.os.trans hB.os, hbq.tape.trans hB.tape, hbq.output.trans hB.output, Nat.le_trans hB.size hbq.size, fun k hk => (hbq.block k (Nat.lt_of_lt_of_le hk hB.size)).trans (hB.block k hk)⟩); clear hbq x0 x1 x2 x3 x4 z0 z4 htc; obtain ⟨x0, x1, x2, x3, x4⟩ := HCE.out _ (HWV.out.trans (hB.mono HWV.out.size)); have z0 := (HCB.out _ hB).1; have z4 := HZ4.out _ hB; have htc := HTC.out _ hB))
         have K5 := zh hB
         clear hB htc z4
         (try go_wp2_with fail)
         (try go_quiet (fail))
         (try go_wp2_with fail)
         go_ret2
         exact HEND.out 9 c.nm _ (by decide) ⟨(HWV.out.trans (K5.out.mono HWV.out.size)).os, (HWV.out.trans (K5.out.mono HWV.out.size)).tape, (HWV.out.trans (K5.out.mono HWV.out.size)).output, (HWV.out.trans (K5.out.mono HWV.out.size)).size, (HWV.out.trans (K5.out.mono HWV.out.size)).block⟩
        focus
         have HAN := zh (all_more (P := fun s => ifB cs s = true) HA3.out HT.out (by unfold ifB; have := HBI.out; cases hf : findC cs t with | none => (rw [hf] at this; cases this) | some y => (rw [hf] at this; exact this.symm)))
         have hB := KR.out
         have hmx : Try.prog.follows .mixedOrders = true := by kernel_rfl
         have HTC := zh (fun v (hv : Below V.heap.size V v) => show v.cell? (a2.add q2) = some (.string ⟨t.toArray⟩) from by
          obtain ⟨a9, e9, -, h9⟩ := (HRI.out v hv).at_ (sx_get HT.out)
          rw [HA2.out] at e9; cases e9; exact h9)
         have HZ4 := zh (fun v (hv : Below V.heap.size V v) => show v.cell? ⟨bz, 4, none⟩ = some (.slice (some a2) c.is.length c.c1) from by rw [← HA2.out]; exact (HCB.out v hv).2.2.2.2.1)
         (try go_wp2_with fail)
         clear z1 z2 z3 z5 z6
         go_region_held3 (fun w' => (w'.cell? ⟨w.heap.size, 0, none⟩ = some (.slice (some a) n c1) ∧ w'.cell? ⟨w.heap.size, 1, none⟩ = some (.slice A2 ns.length c2) ∧ w'.cell? ⟨w.heap.size, 2, none⟩ = some (.string ⟨ec.toArray⟩) ∧ w'.cell? ⟨w.heap.size, 3, none⟩ = some (.string ⟨en.toArray⟩) ∧ w'.cell? ⟨w.heap.size, 4, none⟩ = some (.string ⟨ed.toArray⟩)) ∧ w'.cell? ⟨bz, 0, none⟩ = some (.string ⟨c.nm.toArray⟩) ∧ w'.cell? ⟨bz, 4, none⟩ = some (.slice (some a2) c.is.length c.c1) ∧ w'.cell? (a2.add q2) = some (.string ⟨t.toArray⟩)) (go_keep)
          ((go_at_call 47; refine (HQ1.out _ ?_).mono ?_; (first | exact hB | exact overA hB); rintro e v3 ⟨rfl, hbq⟩; have hB := (show Below V.heap.size V v3 from ⟨hbq.os.trans hB.os, hbq.tape.trans hB.tape, hbq.output.trans hB.output, Nat.le_trans hB.size hbq.size, fun k hk => (hbq.block k (Nat.lt_of_lt_of_le hk hB.size)).trans (hB.block k hk)⟩); clear hbq x0 x1 x2 x3 x4 z0 z4 htc; obtain ⟨x0, x1, x2, x3, x4⟩ := HCE.out _ (HWV.out.trans (hB.mono HWV.out.size)); have z0 := (HCB.out _ hB).1; have z4 := HZ4.out _ hB; have htc := HTC.out _ hB))
         have K5 := zh hB
         clear hB htc z4
         (try go_wp2_with fail)
         go_roundw
         case rel => exact ⟨q2 + 1, by go_num, by omega, HAN.out, K5.out⟩
         case measure => simp [intOf]; omega
       ·have hlqI2 : ¬ (q2 : Int) < (c.is.length : Int) := by omega
        have HAL2 := zh (show ∀ s ∈ c.is, ifB cs s = true from by have := HA3.out; rw [List.take_of_length_le (by omega)] at this; exact this)
        have HAN := zh (all_more (P := fun c : ClM => (c.su ≠ [] → ifB cs c.su = false) ∧ ∀ s ∈ c.is, ifB cs s = true) HA.out HC.out ⟨HSU.out, HAL2.out⟩)
        (try go_wp2_with fail)
        go_roundw
        case rel => exact ⟨k + 1, by go_num, by omega, HAN.out, (HWV.out.trans (KR.out.mono HWV.out.size))⟩
        case measure => simp [intOf]; omega
   skip
   focus
    have g1 := e_empty hs0
    obtain ⟨y0, y1, y2, y3, y4⟩ := HCE.out V HWV.out
    rw [HV.out] at y0 y1 y2 y3 y4
    go_wp2_with fail
    rw [← HV.out, ← HBZ.out]
    clear y0 y1 y2 y3 y4
    obtain ⟨z0, z1, z2, z3, z4, z5, z6⟩ := HCB.out V K1.out
    clear x0 x1 x2 x3 x4 d0 d1 d2 d3 d4 d5 d6
    obtain ⟨x0, x1, x2, x3, x4⟩ := HCE.out V HWV.out
    (try go_wp2_with fail)
    refine (HPL.out c.su V HWV.out).mono ?_
    rintro e v2 ⟨r, rfl, hix, hb⟩
    have K2 := zh (then' K1.out hb)
    clear hb
    clear x0 x1 x2 x3 x4 z0 z1 z2 z3 z4 z5 z6
    obtain ⟨x0, x1, x2, x3, x4⟩ := HCE.out v2 (HWV.out.trans (K2.out.mono HWV.out.size))
    obtain ⟨z0, z1, z2, z3, z4, z5, z6⟩ := HCB.out v2 K2.out
    rcases idx_two hix with ⟨rfl, -, -⟩ | ⟨j, y, rfl, -, -, -, -⟩
    ·clear hix
     (try go_wp2_with fail)
     (try go_quiet (fail))
     (try go_wp2_with fail)
     go_ret2
     exact HEND.out 7 c.nm _ (by decide) ⟨(HWV.out.trans (K2.out.mono HWV.out.size)).os, (HWV.out.trans (K2.out.mono HWV.out.size)).tape, (HWV.out.trans (K2.out.mono HWV.out.size)).output, (HWV.out.trans (K2.out.mono HWV.out.size)).size, (HWV.out.trans (K2.out.mono HWV.out.size)).block⟩
    have hj0 : ¬ (j : Int) < 0 := by omega
    clear hix
    (try go_wp2_with fail)
    go_loopw [6] (fun i2 wq => ∃ q : Nat, i2 = .int .i64 (q : Int) ∧ q ≤ c.is.length ∧ Below V.heap.size V wq) (fun i2 _ => c.is.length - (intOf i2).toNat)
    case atStart => exact ⟨0, rfl, Nat.zero_le _, K2.out⟩
    case round =>
     obtain ⟨q, rfl, hq, hbq⟩ := hrel
     have KQ := zh hbq
     clear hbq
     clear x0 x1 x2 x3 x4 z0 z1 z2 z3 z4 z5 z6
     obtain ⟨x0, x1, x2, x3, x4⟩ := HCE.out _ (HWV.out.trans (KQ.out.mono HWV.out.size))
     obtain ⟨z0, z1, z2, z3, z4, z5, z6⟩ := HCB.out _ KQ.out
     by_cases hlq : q < c.is.length
     ·have hlqI : (q : Int) < (c.is.length : Int) := by omega
      obtain ⟨t, ht⟩ : ∃ t, c.is[q]? = some t := ⟨c.is[q]'hlq, List.getElem?_eq_getElem _⟩
      have hrd := HRI.out _ KQ.out
      obtain ⟨a2, ha2, _, htc⟩ := hrd.at_ (sx_get ht)
      rw [ha2] at z4
      have HA2 := zh ha2; have HT := zh ht
      clear ha2 hrd ht
      cases hft : findC cs t with
      | none =>
       have HQ1 := zh (fun v (hv : Below V.heap.size V v) => Calls.mono (R' := fun e w' => e = .returned (.int .i64 (-1)) ∧ Below v.heap.size v w') (HPL.out t v (HWV.out.trans (hv.mono HWV.out.size))) (fun e w' ⟨r, he, hr, hb⟩ => by
        rcases idx_two hr with ⟨rfl, -, -⟩ | ⟨k, x, -, -, -, -, h2⟩
        ·exact ⟨he, hb⟩
        ·unfold findC at hft; rw [hft] at h2; cases h2))
       clear hft
       have hB := KQ.out
       have hmx : Try.prog.follows .mixedOrders = true := by kernel_rfl
       have HTC := zh (fun v (hv : Below V.heap.size V v) => show v.cell? (a2.add q) = some (.string ⟨t.toArray⟩) from by
        obtain ⟨a9, e9, -, h9⟩ := (HRI.out v hv).at_ (sx_get HT.out)
        rw [HA2.out] at e9; cases e9; exact h9)
       have HZ4 := zh (fun v (hv : Below V.heap.size V v) => show v.cell? ⟨bz, 4, none⟩ = some (.slice (some a2) c.is.length c.c1) from by rw [← HA2.out]; exact (HCB.out v hv).2.2.2.2.1)
       (try go_wp2_with fail)
       clear z1 z2 z3 z5 z6
       go_region_held3 (fun w' => (w'.cell? ⟨w.heap.size, 0, none⟩ = some (.slice (some a) n c1) ∧ w'.cell? ⟨w.heap.size, 1, none⟩ = some (.slice A2 ns.length c2) ∧ w'.cell? ⟨w.heap.size, 2, none⟩ = some (.string ⟨ec.toArray⟩) ∧ w'.cell? ⟨w.heap.size, 3, none⟩ = some (.string ⟨en.toArray⟩) ∧ w'.cell? ⟨w.heap.size, 4, none⟩ = some (.string ⟨ed.toArray⟩)) ∧ w'.cell? ⟨bz, 0, none⟩ = some (.string ⟨c.nm.toArray⟩) ∧ w'.cell? ⟨bz, 4, none⟩ = some (.slice (some a2) c.is.length c.c1) ∧ w'.cell? (a2.add q) = some (.string ⟨t.toArray⟩)) (go_keep)
        ((go_at_call 11; refine (HQ1.out _ ?_).mono ?_; (first | exact hB | exact overA hB); rintro e v3 ⟨rfl, hbq⟩; have hB := (show Below V.heap.size V v3 from ⟨hbq.os.trans hB.os, hbq.tape.trans hB.tape, hbq.output.trans hB.output, Nat.le_trans hB.size hbq.size, fun k hk => (hbq.block k (Nat.lt_of_lt_of_le hk hB.size)).trans (hB.block k hk)⟩); clear hbq x0 x1 x2 x3 x4 z0 z4 htc; obtain ⟨x0, x1, x2, x3, x4⟩ := HCE.out _ (HWV.out.trans (hB.mono HWV.out.size)); have z0 := (HCB.out _ hB).1; have z4 := HZ4.out _ hB; have htc := HTC.out _ hB))
       have K3 := zh hB
       clear hB htc z4
       (try go_wp2_with fail)
       (try go_quiet (fail))
       (try go_wp2_with fail)
       go_ret2
       exact HEND.out 7 c.nm _ (by decide) ⟨(HWV.out.trans (K3.out.mono HWV.out.size)).os, (HWV.out.trans (K3.out.mono HWV.out.size)).tape, (HWV.out.trans (K3.out.mono HWV.out.size)).output, (HWV.out.trans (K3.out.mono HWV.out.size)).size, (HWV.out.trans (K3.out.mono HWV.out.size)).block⟩
      | some cj =>
       obtain ⟨j2, -, hj2n, hrj2⟩ := anc_at hft
       have HQ1 := zh (fun v (hv : Below V.heap.size V v) => Calls.mono (R' := fun e w' => e = .returned (.int .i64 (j2 : Int)) ∧ Below v.heap.size v w') (HPL.out t v (HWV.out.trans (hv.mono HWV.out.size))) (fun e w' ⟨r, he, hr, hb⟩ => ⟨by rw [he, hrj2 r hr], hb⟩))
       have hj0 : ¬ (j2 : Int) < 0 := by omega
       clear hft hrj2
       have hB := KQ.out
       have hmx : Try.prog.follows .mixedOrders = true := by kernel_rfl
       have HTC := zh (fun v (hv : Below V.heap.size V v) => show v.cell? (a2.add q) = some (.string ⟨t.toArray⟩) from by
        obtain ⟨a9, e9, -, h9⟩ := (HRI.out v hv).at_ (sx_get HT.out)
        rw [HA2.out] at e9; cases e9; exact h9)
       have HZ4 := zh (fun v (hv : Below V.heap.size V v) => show v.cell? ⟨bz, 4, none⟩ = some (.slice (some a2) c.is.length c.c1) from by rw [← HA2.out]; exact (HCB.out v hv).2.2.2.2.1)
       (try go_wp2_with fail)
       clear z1 z2 z3 z5 z6
       go_region_held3 (fun w' => (w'.cell? ⟨w.heap.size, 0, none⟩ = some (.slice (some a) n c1) ∧ w'.cell? ⟨w.heap.size, 1, none⟩ = some (.slice A2 ns.length c2) ∧ w'.cell? ⟨w.heap.size, 2, none⟩ = some (.string ⟨ec.toArray⟩) ∧ w'.cell? ⟨w.heap.size, 3, none⟩ = some (.string ⟨en.toArray⟩) ∧ w'.cell? ⟨w.heap.size, 4, none⟩ = some (.string ⟨ed.toArray⟩)) ∧ w'.cell? ⟨bz, 0, none⟩ = some (.string ⟨c.nm.toArray⟩) ∧ w'.cell? ⟨bz, 4, none⟩ = some (.slice (some a2) c.is.length c.c1) ∧ w'.cell? (a2.add q) = some (.string ⟨t.toArray⟩)) (go_keep)
        ((go_at_call 11; refine (HQ1.out _ ?_).mono ?_; (first | exact hB | exact overA hB); rintro e v3 ⟨rfl, hbq⟩; have hB := (show Below V.heap.size V v3 from ⟨hbq.os.trans hB.os, hbq.tape.trans hB.tape, hbq.output.trans hB.output, Nat.le_trans hB.size hbq.size, fun k hk => (hbq.block k (Nat.lt_of_lt_of_le hk hB.size)).trans (hB.block k hk)⟩); clear hbq x0 x1 x2 x3 x4 z0 z4 htc; obtain ⟨x0, x1, x2, x3, x4⟩ := HCE.out _ (HWV.out.trans (hB.mono HWV.out.size)); have z0 := (HCB.out _ hB).1; have z4 := HZ4.out _ hB; have htc := HTC.out _ hB))
       have K3 := zh hB
       clear hB htc z4
       (try go_wp2_with fail)
       go_roundw
       case rel => exact ⟨q + 1, by go_num, by omega, K3.out⟩
       case measure => simp [intOf]; omega
     ·have hlqI : ¬ (q : Int) < (c.is.length : Int) := by omega
      (try go_wp2_with fail)
      refine (HIF.out c.su _ (HWV.out.trans (KQ.out.mono HWV.out.size))).mono ?_
      rintro e v4 ⟨rfl, hb⟩
      have K4 := zh (then' KQ.out hb)
      clear hb
      clear x0 x1 x2 x3 x4 z0 z1 z2 z3 z4 z5 z6
      obtain ⟨x0, x1, x2, x3, x4⟩ := HCE.out v4 (HWV.out.trans (K4.out.mono HWV.out.size))
      obtain ⟨z0, z1, z2, z3, z4, z5, z6⟩ := HCB.out v4 K4.out
      obtain ⟨bi, hbi⟩ : ∃ b, b = (findC cs c.su).elim false (·.fc) := ⟨_, rfl⟩
      rw [← hbi]
      have HBI := zh hbi
      clear hbi
      cases bi
      rotate_left 1
      ·(try go_wp2_with fail)
       (try go_quiet (fail))
       (try go_wp2_with fail)
       go_ret2
       exact HEND.out 9 c.nm _ (by decide) ⟨(HWV.out.trans (K4.out.mono HWV.out.size)).os, (HWV.out.trans (K4.out.mono HWV.out.size)).tape, (HWV.out.trans (K4.out.mono HWV.out.size)).output, (HWV.out.trans (K4.out.mono HWV.out.size)).size, (HWV.out.trans (K4.out.mono HWV.out.size)).block⟩
      have HSU := zh (show ifB cs c.su = false from by unfold ifB; have := HBI.out; cases hf : findC cs c.su with | none => rfl | some y => rw [hf] at this; exact this.symm)
      (try go_wp2_with fail)
      go_loopw [7] (fun i2 wq => ∃ q : Nat, i2 = .int .i64 (q : Int) ∧ q ≤ c.is.length ∧ (∀ s ∈ c.is.take q, ifB cs s = true) ∧ Below V.heap.size V wq) (fun i2 _ => c.is.length - (intOf i2).toNat)
      case atStart => exact ⟨0, rfl, Nat.zero_le _, by simp, K4.out⟩
      case round =>
       obtain ⟨q2, rfl, hq2, hall2, hbq⟩ := hrel
       have KR := zh hbq
       have HA3 := zh hall2
       clear hbq hall2
       clear x0 x1 x2 x3 x4 z0 z1 z2 z3 z4 z5 z6
       obtain ⟨x0, x1, x2, x3, x4⟩ := HCE.out _ (HWV.out.trans (KR.out.mono HWV.out.size))
       obtain ⟨z0, z1, z2, z3, z4, z5, z6⟩ := HCB.out _ KR.out
       by_cases hlq2 : q2 < c.is.length
       ·have hlqI2 : (q2 : Int) < (c.is.length : Int) := by omega
        obtain ⟨t, ht⟩ : ∃ t, c.is[q2]? = some t := ⟨c.is[q2]'hlq2, List.getElem?_eq_getElem _⟩
        have hrd := HRI.out _ KR.out
        obtain ⟨a2, ha2, _, htc⟩ := hrd.at_ (sx_get ht)
        rw [ha2] at z4
        have HA2 := zh ha2; have HT := zh ht
        clear ha2 hrd ht
        have HQ1 := fun v (hv : Below V.heap.size V v) => HIF.out t v (HWV.out.trans (hv.mono HWV.out.size))
        obtain ⟨bi, hbi⟩ : ∃ b, b = (findC cs t).elim false (·.fc) := ⟨_, rfl⟩
        rw [← hbi] at HQ1
        have HBI := zh hbi; have HQ1 := zh HQ1
        clear hbi
        cases bi
        focus
         have hB := KR.out
         have hmx : Try.prog.follows .mixedOrders = true := by kernel_rfl
         have HTC := zh (fun v (hv : Below V.heap.size V v) => show v.cell? (a2.add q2) = some (.string ⟨t.toArray⟩) from by
          obtain ⟨a9, e9, -, h9⟩ := (HRI.out v hv).at_ (sx_get HT.out)
          rw [HA2.out] at e9; cases e9; exact h9)
         have HZ4 := zh (fun v (hv : Below V.heap.size V v) => show v.cell? ⟨bz, 4, none⟩ = some (.slice (some a2) c.is.length c.c1) from by rw [← HA2.out]; exact (HCB.out v hv).2.2.2.2.1)
         (try go_wp2_with fail)
         clear z1 z2 z3 z5 z6
         go_region_held3 (fun w' => (w'.cell? ⟨w.heap.size, 0, none⟩ = some (.slice (some a) n c1) ∧ w'.cell? ⟨w.heap.size, 1, none⟩ = some (.slice A2 ns.length c2) ∧ w'.cell? ⟨w.heap.size, 2, none⟩ = some (.string ⟨ec.toArray⟩) ∧ w'.cell? ⟨w.heap.size, 3, none⟩ = some (.string ⟨en.toArray⟩) ∧ w'.cell? ⟨w.heap.size, 4, none⟩ = some (.string ⟨ed.toArray⟩)) ∧ w'.cell? ⟨bz, 0, none⟩ = some (.string ⟨c.nm.toArray⟩) ∧ w'.cell? ⟨bz, 4, none⟩ = some (.slice (some a2) c.is.length c.c1) ∧ w'.cell? (a2.add q2) = some (.string ⟨t.toArray⟩)) (go_keep)
          ((go_at_call 47; refine (HQ1.out _ ?_).mono ?_; (first | exact hB | exact overA hB); rintro e v3 ⟨rfl, hbq⟩; have hB := (show Below V.heap.size V v3 from ⟨hbq.os.trans hB.os, hbq.tape.trans hB.tape, hbq.output.trans hB.output, Nat.le_trans hB.size hbq.size, fun k hk => (hbq.block k (Nat.lt_of_lt_of_le hk hB.size)).trans (hB.block k hk)⟩); clear hbq x0 x1 x2 x3 x4 z0 z4 htc; obtain ⟨x0, x1, x2, x3, x4⟩ := HCE.out _ (HWV.out.trans (hB.mono HWV.out.size)); have z0 := (HCB.out _ hB).1; have z4 := HZ4.out _ hB; have htc := HTC.out _ hB))
         have K5 := zh hB
         clear hB htc z4
         (try go_wp2_with fail)
         (try go_quiet (fail))
         (try go_wp2_with fail)
         go_ret2
         exact HEND.out 9 c.nm _ (by decide) ⟨(HWV.out.trans (K5.out.mono HWV.out.size)).os, (HWV.out.trans (K5.out.mono HWV.out.size)).tape, (HWV.out.trans (K5.out.mono HWV.out.size)).output, (HWV.out.trans (K5.out.mono HWV.out.size)).size, (HWV.out.trans (K5.out.mono HWV.out.size)).block⟩
        focus
         have HAN := zh (all_more (P := fun s => ifB cs s = true) HA3.out HT.out (by unfold ifB; have := HBI.out; cases hf : findC cs t with | none => (rw [hf] at this; cases this) | some y => (rw [hf] at this; exact this.symm)))
         have hB := KR.out
         have hmx : Try.prog.follows .mixedOrders = true := by kernel_rfl
         have HTC := zh (fun v (hv : Below V.heap.size V v) => show v.cell? (a2.add q2) = some (.string ⟨t.toArray⟩) from by
          obtain ⟨a9, e9, -, h9⟩ := (HRI.out v hv).at_ (sx_get HT.out)
          rw [HA2.out] at e9; cases e9; exact h9)
         have HZ4 := zh (fun v (hv : Below V.heap.size V v) => show v.cell? ⟨bz, 4, none⟩ = some (.slice (some a2) c.is.length c.c1) from by rw [← HA2.out]; exact (HCB.out v hv).2.2.2.2.1)
         (try go_wp2_with fail)
         clear z1 z2 z3 z5 z6
         go_region_held3 (fun w' => (w'.cell? ⟨w.heap.size, 0, none⟩ = some (.slice (some a) n c1) ∧ w'.cell? ⟨w.heap.size, 1, none⟩ = some (.slice A2 ns.length c2) ∧ w'.cell? ⟨w.heap.size, 2, none⟩ = some (.string ⟨ec.toArray⟩) ∧ w'.cell? ⟨w.heap.size, 3, none⟩ = some (.string ⟨en.toArray⟩) ∧ w'.cell? ⟨w.heap.size, 4, none⟩ = some (.string ⟨ed.toArray⟩)) ∧ w'.cell? ⟨bz, 0, none⟩ = some (.string ⟨c.nm.toArray⟩) ∧ w'.cell? ⟨bz, 4, none⟩ = some (.slice (some a2) c.is.length c.c1) ∧ w'.cell? (a2.add q2) = some (.string ⟨t.toArray⟩)) (go_keep)
          ((go_at_call 47; refine (HQ1.out _ ?_).mono ?_; (first | exact hB | exact overA hB); rintro e v3 ⟨rfl, hbq⟩; have hB := (show Below V.heap.size V v3 from ⟨hbq.os.trans hB.os, hbq.tape.trans hB.tape, hbq.output.trans hB.output, Nat.le_trans hB.size hbq.size, fun k hk => (hbq.block k (Nat.lt_of_lt_of_le hk hB.size)).trans (hB.block k hk)⟩); clear hbq x0 x1 x2 x3 x4 z0 z4 htc; obtain ⟨x0, x1, x2, x3, x4⟩ := HCE.out _ (HWV.out.trans (hB.mono HWV.out.size)); have z0 := (HCB.out _ hB).1; have z4 := HZ4.out _ hB; have htc := HTC.out _ hB))
         have K5 := zh hB
         clear hB htc z4
         (try go_wp2_with fail)
         go_roundw
         case rel => exact ⟨q2 + 1, by go_num, by omega, HAN.out, K5.out⟩
         case measure => simp [intOf]; omega
       ·have hlqI2 : ¬ (q2 : Int) < (c.is.length : Int) := by omega
        have HAL2 := zh (show ∀ s ∈ c.is, ifB cs s = true from by have := HA3.out; rw [List.take_of_length_le (by omega)] at this; exact this)
        have HAN := zh (all_more (P := fun c : ClM => (c.su ≠ [] → ifB cs c.su = false) ∧ ∀ s ∈ c.is, ifB cs s = true) HA.out HC.out ⟨fun _ => HSU.out, HAL2.out⟩)
        (try go_wp2_with fail)
        go_roundw
        case rel => exact ⟨k + 1, by go_num, by omega, HAN.out, (HWV.out.trans (KR.out.mono HWV.out.size))⟩
        case measure => simp [intOf]; omega
  ·have hltI : ¬ (k : Int) < (n : Int) := by omega
   have HCA := zh (show ChkA cs from by have := HA.out; rw [List.take_of_length_le (by rw [← HN.out]; omega)] at this; exact this)
   clear HA hbw
   obtain ⟨x0, x1, x2, x3, x4⟩ := HCE.out _ HB.out
   (try go_wp2_with fail)
   clear x0 x1 x2 x3 x4
   go_loopw [8] (fun i wr => ∃ k : Nat, i = .int .i64 (k : Int) ∧ k ≤ n ∧ (∀ c ∈ cs.take k, findC cs [] = none → cycB cs c = false) ∧ Below W.heap.size W wr) (fun i _ => n - (intOf i).toNat)
   case atStart => exact ⟨0, rfl, Nat.zero_le _, by simp, HB.out⟩
   case round =>
    obtain ⟨k, rfl, hk, hall, hbw⟩ := hrel
    have HA := zh hall; have HB := zh hbw
    clear hall
    by_cases hlt : k < n
    ·have hltI : (k : Int) < (n : Int) := by omega
     obtain ⟨c, hc⟩ : ∃ x, cs[k]? = some x := ⟨cs[k]'(by rw [← HN.out]; exact hlt), List.getElem?_eq_getElem _⟩
     have hmem := List.mem_of_getElem? hc
     obtain ⟨V, hV⟩ : ∃ V, V = wr.alloc (.cells (clC c).toArray 43) := ⟨_, rfl⟩
     have hbV : Below wr.heap.size wr V := by rw [hV]; exact (Below.refl _ wr).alloc (Nat.le_refl _) _
     have bV : V.heap[wr.heap.size]? = some (.cells (clC c).toArray 43 (0, 0)) := by rw [hV]; exact heap_alloc_new wr _
     have hWV : Below W.heap.size W V := hbw.trans (hbV.mono hbw.size)
     obtain ⟨bz, hbz⟩ : ∃ b, b = wr.heap.size := ⟨_, rfl⟩
     have HCB := zh (fun v (hv : Below V.heap.size V v) => cl_cells ((hv.block _ (blk_lt bV)).trans bV))
     have HIL := zh (HGR.out c hmem)
     have HRI := zh (fun v (hv : Below V.heap.size V v) => show Rd v c.A1 (SX c.is) from ((HPO.out v (hWV.trans (hv.mono hWV.size))).2.2 c hmem).1.2)
     have HWV := zh hWV
     have HC := zh hc
     obtain ⟨x0, x1, x2, x3, x4⟩ := HCE.out wr hbw
     obtain ⟨a, rfl, -, d0, d1, d2, d3, d4, d5, d6⟩ := cl_at (HPO.out wr hbw).1.2 hc
     have hil : (c.is.length : Int) ≤ 40 := by have := HIL.out; omega
     unfold clC at hV
     try dsimp only at hV
     have HV := zh hV
     rw [← hbz] at HCB
     have HBZ := zh hbz
     clear hc hmem hV hbV bV hWV hbw hbz
     have K1 := zh (Below.refl V.heap.size V)
     cases hs0 : (c.su == [])
     rotate_left 1
     focus
      have g1 := e_empty hs0
      obtain ⟨y0, y1, y2, y3, y4⟩ := HCE.out V HWV.out
      rw [HV.out] at y0 y1 y2 y3 y4
      go_wp2_with fail
      rw [← HV.out, ← HBZ.out]
      clear y0 y1 y2 y3 y4
      obtain ⟨z0, z1, z2, z3, z4, z5, z6⟩ := HCB.out V K1.out
      clear x0 x1 x2 x3 x4 d0 d1 d2 d3 d4 d5 d6
      obtain ⟨x0, x1, x2, x3, x4⟩ := HCE.out V HWV.out
      (try go_wp2_with fail)
      have HSU := zh (show findC cs [] = none → c.su ≠ [] → subB cs c.su c.nm = false from fun _ h => absurd (by simpa using hs0) h)
      go_loopw [10] (fun i2 wq => ∃ q : Nat, i2 = .int .i64 (q : Int) ∧ q ≤ c.is.length ∧ (∀ s ∈ c.is.take q, findC cs [] = none → subB cs s c.nm = false) ∧ Below V.heap.size V wq) (fun i2 _ => c.is.length - (intOf i2).toNat)
      case atStart => exact ⟨0, rfl, Nat.zero_le _, by simp, K1.out⟩
      case round =>
       obtain ⟨q2, rfl, hq2, hall2, hbq⟩ := hrel
       have KR := zh hbq
       have HA3 := zh hall2
       clear hbq hall2
       clear x0 x1 x2 x3 x4 z0 z1 z2 z3 z4 z5 z6
       obtain ⟨x0, x1, x2, x3, x4⟩ := HCE.out _ (HWV.out.trans (KR.out.mono HWV.out.size))
       obtain ⟨z0, z1, z2, z3, z4, z5, z6⟩ := HCB.out _ KR.out
       by_cases hlq2 : q2 < c.is.length
       ·have hlqI2 : (q2 : Int) < (c.is.length : Int) := by omega
        obtain ⟨t, ht⟩ : ∃ t, c.is[q2]? = some t := ⟨c.is[q2]'hlq2, List.getElem?_eq_getElem _⟩
        have hrd := HRI.out _ KR.out
        obtain ⟨a2, ha2, _, htc⟩ := hrd.at_ (sx_get ht)
        rw [ha2] at z4
        have HA2 := zh ha2; have HT := zh ht
        clear ha2 hrd ht
        have HQ1 := zh (fun v (hv : Below V.heap.size V v) => HSB.out t c.nm v (HWV.out.trans (hv.mono HWV.out.size)))
        have hB := KR.out
        have hmx : Try.prog.follows .mixedOrders = true := by kernel_rfl
        have HTC := zh (fun v (hv : Below V.heap.size V v) => show v.cell? (a2.add q2) = some (.string ⟨t.toArray⟩) from by
         obtain ⟨a9, e9, -, h9⟩ := (HRI.out v hv).at_ (sx_get HT.out)
         rw [HA2.out] at e9; cases e9; exact h9)
        have HZ4 := zh (fun v (hv : Below V.heap.size V v) => show v.cell? ⟨bz, 4, none⟩ = some (.slice (some a2) c.is.length c.c1) from by rw [← HA2.out]; exact (HCB.out v hv).2.2.2.2.1)
        (try go_wp2_with fail)
        clear z1 z2 z3 z5 z6
        go_region_held3 (fun w' => (w'.cell? ⟨w.heap.size, 0, none⟩ = some (.slice (some a) n c1) ∧ w'.cell? ⟨w.heap.size, 1, none⟩ = some (.slice A2 ns.length c2) ∧ w'.cell? ⟨w.heap.size, 2, none⟩ = some (.string ⟨ec.toArray⟩) ∧ w'.cell? ⟨w.heap.size, 3, none⟩ = some (.string ⟨en.toArray⟩) ∧ w'.cell? ⟨w.heap.size, 4, none⟩ = some (.string ⟨ed.toArray⟩)) ∧ w'.cell? ⟨bz, 0, none⟩ = some (.string ⟨c.nm.toArray⟩) ∧ w'.cell? ⟨bz, 4, none⟩ = some (.slice (some a2) c.is.length c.c1) ∧ w'.cell? (a2.add q2) = some (.string ⟨t.toArray⟩)) (go_keep)
         ((go_at_call 48; refine (HQ1.out _ ?_).mono ?_; (first | exact hB | exact overA hB); rintro e v3 ⟨r, rfl, hsr, hbq⟩; have hB := (show Below V.heap.size V v3 from ⟨hbq.os.trans hB.os, hbq.tape.trans hB.tape, hbq.output.trans hB.output, Nat.le_trans hB.size hbq.size, fun k hk => (hbq.block k (Nat.lt_of_lt_of_le hk hB.size)).trans (hB.block k hk)⟩); clear hbq x0 x1 x2 x3 x4 z0 z4 htc; obtain ⟨x0, x1, x2, x3, x4⟩ := HCE.out _ (HWV.out.trans (hB.mono HWV.out.size)); have z0 := (HCB.out _ hB).1; have z4 := HZ4.out _ hB; have htc := HTC.out _ hB))
        have K5 := zh hB
        have HSR := zh hsr
        clear hB htc z4 hsr
        cases r
        rotate_left 1
        ·(try go_wp2_with fail)
         (try go_quiet (fail))
         (try go_wp2_with fail)
         go_ret2
         exact HEND.out 8 c.nm _ (by decide) ⟨(HWV.out.trans (K5.out.mono HWV.out.size)).os, (HWV.out.trans (K5.out.mono HWV.out.size)).tape, (HWV.out.trans (K5.out.mono HWV.out.size)).output, (HWV.out.trans (K5.out.mono HWV.out.size)).size, (HWV.out.trans (K5.out.mono HWV.out.size)).block⟩
        ·have HAN := zh (all_more (P := fun s => findC cs [] = none → subB cs s c.nm = false) HA3.out HT.out (fun h0 => by cases hs : subB cs t c.nm with | false => rfl | true => (have := HSR.out h0 hs; cases this)))
         (try go_wp2_with fail)
         go_roundw
         case rel => exact ⟨q2 + 1, by go_num, by omega, HAN.out, K5.out⟩
         case measure => simp [intOf]; omega
       ·have hlqI2 : ¬ (q2 : Int) < (c.is.length : Int) := by omega
        have HAL2 := zh (show ∀ s ∈ c.is, findC cs [] = none → subB cs s c.nm = false from by have := HA3.out; rw [List.take_of_length_le (by omega)] at this; exact this)
        have HAN := zh (all_more (P := fun c : ClM => findC cs [] = none → cycB cs c = false) HA.out HC.out (fun h0 => cyc_of h0 (HSU.out h0) (fun s hs => HAL2.out s hs h0)))
        (try go_wp2_with fail)
        go_roundw
        case rel => exact ⟨k + 1, by go_num, by omega, HAN.out, (HWV.out.trans (KR.out.mono HWV.out.size))⟩
        case measure => simp [intOf]; omega
     focus
      have g1 := e_empty hs0
      obtain ⟨y0, y1, y2, y3, y4⟩ := HCE.out V HWV.out
      rw [HV.out] at y0 y1 y2 y3 y4
      go_wp2_with fail
      rw [← HV.out, ← HBZ.out]
      clear y0 y1 y2 y3 y4
      obtain ⟨z0, z1, z2, z3, z4, z5, z6⟩ := HCB.out V K1.out
      clear x0 x1 x2 x3 x4 d0 d1 d2 d3 d4 d5 d6
      obtain ⟨x0, x1, x2, x3, x4⟩ := HCE.out V HWV.out
      (try go_wp2_with fail)
      refine (HSB.out c.su c.nm V HWV.out).mono ?_
      rintro e v2 ⟨r, rfl, hsr, hb⟩
      have K2 := zh (then' K1.out hb)
      have HSR := zh hsr
      clear hb hsr
      clear x0 x1 x2 x3 x4 z0 z1 z2 z3 z4 z5 z6
      obtain ⟨x0, x1, x2, x3, x4⟩ := HCE.out v2 (HWV.out.trans (K2.out.mono HWV.out.size))
      obtain ⟨z0, z1, z2, z3, z4, z5, z6⟩ := HCB.out v2 K2.out
      cases r
      rotate_left 1
      ·(try go_wp2_with fail)
       (try go_quiet (fail))
       (try go_wp2_with fail)
       go_ret2
       exact HEND.out 8 c.nm _ (by decide) ⟨(HWV.out.trans (K2.out.mono HWV.out.size)).os, (HWV.out.trans (K2.out.mono HWV.out.size)).tape, (HWV.out.trans (K2.out.mono HWV.out.size)).output, (HWV.out.trans (K2.out.mono HWV.out.size)).size, (HWV.out.trans (K2.out.mono HWV.out.size)).block⟩
      have HSU := zh (show findC cs [] = none → c.su ≠ [] → subB cs c.su c.nm = false from fun h0 _ => by cases hs : subB cs c.su c.nm with | false => rfl | true => (have := HSR.out h0 hs; cases this))
      (try go_wp2_with fail)
      go_loopw [10] (fun i2 wq => ∃ q : Nat, i2 = .int .i64 (q : Int) ∧ q ≤ c.is.length ∧ (∀ s ∈ c.is.take q, findC cs [] = none → subB cs s c.nm = false) ∧ Below V.heap.size V wq) (fun i2 _ => c.is.length - (intOf i2).toNat)
      case atStart => exact ⟨0, rfl, Nat.zero_le _, by simp, K2.out⟩
      case round =>
       obtain ⟨q2, rfl, hq2, hall2, hbq⟩ := hrel
       have KR := zh hbq
       have HA3 := zh hall2
       clear hbq hall2
       clear x0 x1 x2 x3 x4 z0 z1 z2 z3 z4 z5 z6
       obtain ⟨x0, x1, x2, x3, x4⟩ := HCE.out _ (HWV.out.trans (KR.out.mono HWV.out.size))
       obtain ⟨z0, z1, z2, z3, z4, z5, z6⟩ := HCB.out _ KR.out
       by_cases hlq2 : q2 < c.is.length
       ·have hlqI2 : (q2 : Int) < (c.is.length : Int) := by omega
        obtain ⟨t, ht⟩ : ∃ t, c.is[q2]? = some t := ⟨c.is[q2]'hlq2, List.getElem?_eq_getElem _⟩
        have hrd := HRI.out _ KR.out
        obtain ⟨a2, ha2, _, htc⟩ := hrd.at_ (sx_get ht)
        rw [ha2] at z4
        have HA2 := zh ha2; have HT := zh ht
        clear ha2 hrd ht
        have HQ1 := zh (fun v (hv : Below V.heap.size V v) => HSB.out t c.nm v (HWV.out.trans (hv.mono HWV.out.size)))
        have hB := KR.out
        have hmx : Try.prog.follows .mixedOrders = true := by kernel_rfl
        have HTC := zh (fun v (hv : Below V.heap.size V v) => show v.cell? (a2.add q2) = some (.string ⟨t.toArray⟩) from by
         obtain ⟨a9, e9, -, h9⟩ := (HRI.out v hv).at_ (sx_get HT.out)
         rw [HA2.out] at e9; cases e9; exact h9)
        have HZ4 := zh (fun v (hv : Below V.heap.size V v) => show v.cell? ⟨bz, 4, none⟩ = some (.slice (some a2) c.is.length c.c1) from by rw [← HA2.out]; exact (HCB.out v hv).2.2.2.2.1)
        (try go_wp2_with fail)
        clear z1 z2 z3 z5 z6
        go_region_held3 (fun w' => (w'.cell? ⟨w.heap.size, 0, none⟩ = some (.slice (some a) n c1) ∧ w'.cell? ⟨w.heap.size, 1, none⟩ = some (.slice A2 ns.length c2) ∧ w'.cell? ⟨w.heap.size, 2, none⟩ = some (.string ⟨ec.toArray⟩) ∧ w'.cell? ⟨w.heap.size, 3, none⟩ = some (.string ⟨en.toArray⟩) ∧ w'.cell? ⟨w.heap.size, 4, none⟩ = some (.string ⟨ed.toArray⟩)) ∧ w'.cell? ⟨bz, 0, none⟩ = some (.string ⟨c.nm.toArray⟩) ∧ w'.cell? ⟨bz, 4, none⟩ = some (.slice (some a2) c.is.length c.c1) ∧ w'.cell? (a2.add q2) = some (.string ⟨t.toArray⟩)) (go_keep)
         ((go_at_call 48; refine (HQ1.out _ ?_).mono ?_; (first | exact hB | exact overA hB); rintro e v3 ⟨r, rfl, hsr, hbq⟩; have hB := (show Below V.heap.size V v3 from ⟨hbq.os.trans hB.os, hbq.tape.trans hB.tape, hbq.output.trans hB.output, Nat.le_trans hB.size hbq.size, fun k hk => (hbq.block k (Nat.lt_of_lt_of_le hk hB.size)).trans (hB.block k hk)⟩); clear hbq x0 x1 x2 x3 x4 z0 z4 htc; obtain ⟨x0, x1, x2, x3, x4⟩ := HCE.out _ (HWV.out.trans (hB.mono HWV.out.size)); have z0 := (HCB.out _ hB).1; have z4 := HZ4.out _ hB; have htc := HTC.out _ hB))
        have K5 := zh hB
        have HSR := zh hsr
        clear hB htc z4 hsr
        cases r
        rotate_left 1
        ·(try go_wp2_with fail)
         (try go_quiet (fail))
         (try go_wp2_with fail)
         go_ret2
         exact HEND.out 8 c.nm _ (by decide) ⟨(HWV.out.trans (K5.out.mono HWV.out.size)).os, (HWV.out.trans (K5.out.mono HWV.out.size)).tape, (HWV.out.trans (K5.out.mono HWV.out.size)).output, (HWV.out.trans (K5.out.mono HWV.out.size)).size, (HWV.out.trans (K5.out.mono HWV.out.size)).block⟩
        ·have HAN := zh (all_more (P := fun s => findC cs [] = none → subB cs s c.nm = false) HA3.out HT.out (fun h0 => by cases hs : subB cs t c.nm with | false => rfl | true => (have := HSR.out h0 hs; cases this)))
         (try go_wp2_with fail)
         go_roundw
         case rel => exact ⟨q2 + 1, by go_num, by omega, HAN.out, K5.out⟩
         case measure => simp [intOf]; omega
       ·have hlqI2 : ¬ (q2 : Int) < (c.is.length : Int) := by omega
        have HAL2 := zh (show ∀ s ∈ c.is, findC cs [] = none → subB cs s c.nm = false from by have := HA3.out; rw [List.take_of_length_le (by omega)] at this; exact this)
        have HAN := zh (all_more (P := fun c : ClM => findC cs [] = none → cycB cs c = false) HA.out HC.out (fun h0 => cyc_of h0 (HSU.out h0) (fun s hs => HAL2.out s hs h0)))
        (try go_wp2_with fail)
        go_roundw
        case rel => exact ⟨k + 1, by go_num, by omega, HAN.out, (HWV.out.trans (KR.out.mono HWV.out.size))⟩
        case measure => simp [intOf]; omega
    ·have hltI : ¬ (k : Int) < (n : Int) := by omega
     obtain ⟨x0, x1, x2, x3, x4⟩ := HCE.out _ HB.out
     have HCB := zh (show ChkB cs from fun h0 c hc => by have := HA.out; rw [List.take_of_length_le (by rw [← HN.out]; omega)] at this; exact this c hc h0)
     clear HA hbw
     (try go_wp2_with fail)
     go_ret2
     exact ⟨0, [], rfl, fun _ => ⟨HCA.out, HCB.out⟩, HAL.out.trans (HB.out.mono HAL.out.size)⟩
end Go.Proofs.Ytdifmgeicnndfaa.prg

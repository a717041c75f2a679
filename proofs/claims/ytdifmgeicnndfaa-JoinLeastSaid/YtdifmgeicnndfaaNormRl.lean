/- NormRl -/
import Derived.Test.YtdifmgeicnndfaaNormRf
import Derived.Test.YtdifmgeicnndfaaOpFitsW
namespace Go.Proofs.Ytdifmgeicnndfaa.prg
open Go.RowKit
open words kindp opp op kind word
set_option maxRecDepth 100000
set_option maxHeartbeats 16000000
set_option linter.all false
theorem method_head {m : MeM} (h : headB m = false) : methodB m = false := by unfold methodB; rw [h]; rfl
theorem method_abs {m : MeM} (h : headB m = true) (h1 : m.ab = true) : methodB m = abstractB m := by unfold methodB; rw [h, if_pos h1]; rfl
theorem method_con {m : MeM} (h : headB m = true) (h1 : m.ab = false) : methodB m = concreteB m := by unfold methodB; rw [h, if_neg (by rw [h1]; simp)]; rfl
theorem concrete_regs {m : MeM} (h : ¬ (handedN m (splitT m.ds).1.length : Int) ≤ m.rg) : concreteB m = false := by unfold concreteB; rw [decide_eq_false h]; rfl
theorem concrete_none {m : MeM} (h : ¬ 0 < m.co.length) : concreteB m = false := by unfold concreteB codeB; rw [decide_eq_false h]; simp
theorem concrete_much {m : MeM} (h : ¬ m.co.length ≤ 256) : concreteB m = false := by unfold concreteB codeB; rw [decide_eq_false h]; simp
theorem concrete_code {m : MeM} {j : Nat} {y : InM} (h1 : m.co[j]? = some y) (h : ¬ fitsE y.i m.rg (m.co.length : Int) = 0) : concreteB m = false := by
 unfold concreteB codeB
 rw [show (m.co.all fun x => fitsE x.i m.rg (m.co.length : Int) == 0) = false from by rw [List.all_eq_false]; exact ⟨y, List.mem_of_getElem? h1, by simpa using h⟩]; simp
theorem concrete_good {m : MeM} (h0 : (handedN m (splitT m.ds).1.length : Int) ≤ m.rg) (h1 : 0 < m.co.length) (h2 : m.co.length ≤ 256) (h3 : ∀ (j : Nat) (y : InM), m.co[j]? = some y → fitsE y.i m.rg (m.co.length : Int) = 0) : concreteB m = (!(m.nm == initT) || (m.st && m.ds == [40, 41, 86])) := by
 unfold concreteB codeB
 rw [decide_eq_true h0, decide_eq_true h1, decide_eq_true h2, show (m.co.all fun x => fitsE x.i m.rg (m.co.length : Int) == 0) = true from by
  rw [List.all_eq_true]; intro c hc
  obtain ⟨j, hj⟩ := List.mem_iff_getElem?.1 hc
  rw [h3 j c hj]; rfl]; rfl
theorem method_r (x : MeM) (w : World) (hk : MeOk w x) (hb : MeBd x) (hf : MeFit x) : Calls Try.prog 123 #[.agg (meC x).toArray] w fun e w' => e = .returned (.bool (methodB x)) ∧ Below w.heap.size w w' := by
 obtain ⟨W, hW⟩ : ∃ W, W = w.alloc (.cells (meC x).toArray 37) := ⟨_, rfl⟩
 have hal : Below w.heap.size w W := by rw [hW]; exact (Below.refl _ w).alloc (Nat.le_refl _) _
 have HAL := zh hal
 have hblk : W.heap[w.heap.size]? = some (.cells (meC x).toArray 37 (0, 0)) := by rw [hW]; exact heap_alloc_new w _
 have HBK := zh hblk; have HLT := zh (blk_lt hblk)
 have K0 := zh (Below.refl W.heap.size W)
 have hkW := hk.below hal
 have HR := zh hkW.2.1
 have hsz : (⟨x.ds.toArray⟩ : ByteArray).size = x.ds.length := mk_len x.ds
 have HS := zh (kind.split_r ⟨x.ds.toArray⟩ W (by have := hf.1; omega))
 have HNM := zh (fun z => name_rw x.nm z (by have := hb.1; omega))
 have HFT := zh (show ∀ y ∈ x.co, ∀ z : World, Below W.heap.size W z → Calls Try.prog 144 #[.agg (InV y.i y.A y.c), .int .i64 x.rg, .int .i64 (x.co.length : Int)] z fun e w' => e = .returned (.int .i64 (fitsE y.i x.rg (x.co.length : Int))) ∧ Below z.heap.size z w' from fun y hy z hz => opFits.fits_r y.i y.A y.c x.rg (x.co.length : Int) z ((hkW.2.2 y hy).2.below hz) ((hf.2 y hy).2) ((hf.2 y hy).1) (by have := (hb.2.2.2 y hy).2.1; omega) (by have := (hb.2.2.2 y hy).2.2.1; omega))
 obtain ⟨R, hR⟩ : ∃ R, R = methodB x := ⟨_, rfl⟩
 rw [← hR]
 have hdt : (⟨x.ds.toArray⟩ : ByteArray).data.toList = x.ds := rfl
 rw [hdt] at HS
 unfold SplitW at HS
 have h8 := split_len x.ds
 have HF0 := zh (show headB x = false → R = false from fun h => by rw [hR]; exact method_head h)
 have HAB := zh (show headB x = true → x.ab = true → R = abstractB x from fun h h1 => by rw [hR]; exact method_abs h h1)
 have HC0 := zh (show headB x = true → x.ab = false → ¬ (handedN x (splitT x.ds).1.length : Int) ≤ x.rg → R = false from fun h h1 h2 => by rw [hR, method_con h h1]; exact concrete_regs h2)
 have HC1 := zh (show headB x = true → x.ab = false → ¬ 0 < x.co.length → R = false from fun h h1 h2 => by rw [hR, method_con h h1]; exact concrete_none h2)
 have HC2 := zh (show headB x = true → x.ab = false → ¬ x.co.length ≤ 256 → R = false from fun h h1 h2 => by rw [hR, method_con h h1]; exact concrete_much h2)
 have HC3 := zh (show headB x = true → x.ab = false → ∀ (j : Nat) (y : InM), x.co[j]? = some y → ¬ fitsE y.i x.rg (x.co.length : Int) = 0 → R = false from fun h h1 j y h2 h3 => by rw [hR, method_con h h1]; exact concrete_code h2 h3)
 have HT := zh (show headB x = true → x.ab = false → (handedN x (splitT x.ds).1.length : Int) ≤ x.rg → 0 < x.co.length → x.co.length ≤ 256 → (∀ (j : Nat) (y : InM), x.co[j]? = some y → fitsE y.i x.rg (x.co.length : Int) = 0) → R = (!(x.nm == initT) || (x.st && x.ds == [40, 41, 86])) from fun h h1 h2 h3 h4 h5 => by rw [hR, method_con h h1]; exact concrete_good h2 h3 h4 h5)
 unfold abstractB at HAB
 unfold initT at HAB HT
 unfold handedN at HC0 HT
 have hhd : headB x = (decide ((splitT x.ds).2.2 = 0) && (nmL x.nm && (decide (0 ≤ x.rg) && decide (x.rg ≤ 32)))) := rfl
 rw [hhd] at HF0 HAB HC0 HC1 HC2 HC3 HT
 obtain ⟨s, hs⟩ : ∃ s, s = splitT x.ds := ⟨_, rfl⟩
 rw [← hs] at HS h8 HF0 HAB HC0 HC1 HC2 HC3 HT
 obtain ⟨p, ⟨tk, tc⟩, er⟩ := s
 dsimp only at HS h8 HF0 HAB HC0 HC1 HC2 HC3 HT
 obtain ⟨np, hnp⟩ : ∃ n, n = p.length := ⟨_, rfl⟩
 rw [← hnp] at HS h8 HC0 HT
 have hnpI : (np : Int) ≤ 8 := by omega
 generalize nmL x.nm = bn at HNM HF0 HAB HC0 HC1 HC2 HC3 HT
 obtain ⟨n, hn⟩ : ∃ n, n = x.co.length := ⟨_, rfl⟩
 have nI : (n : Int) ≤ 281474976710656 := by have := hb.2.2.1; omega
 have HCE := zh (show ∀ v : World, Below W.heap.size W v → v.cell? ⟨w.heap.size, 0, none⟩ = some (.string ⟨x.nm.toArray⟩) ∧ v.cell? ⟨w.heap.size, 1, none⟩ = some (.string ⟨x.ds.toArray⟩) ∧ v.cell? ⟨w.heap.size, 2, none⟩ = some (.bool x.st) ∧ v.cell? ⟨w.heap.size, 3, none⟩ = some (.bool x.ab) ∧ v.cell? ⟨w.heap.size, 4, none⟩ = some (.int .i64 x.rg) ∧ v.cell? ⟨w.heap.size, 5, none⟩ = some (.slice x.A n x.c) from fun v hv => by
  rw [hn]; exact me_cells ((hv.block _ HLT.out).trans HBK.out))
 obtain ⟨x0, x1, x2, x3, x4, x5⟩ := HCE.out _ (Below.refl W.heap.size W)
 have HN := zh hn
 rw [← hn] at HFT HAB HC1 HC2 HC3 HT
 unfold meC at hW ⊢
 rw [← hn] at hW ⊢
 try dsimp only at hW ⊢
 have HW := zh hW
 clear hal hblk hW hkW hk hb hf hR hn hs hnp hsz hdt hhd h8
 go_enter Try.func123, Try.ntmps123
 go_wp2_with fail
 rw [← HW.out]
 (try go_wp2_with fail)
 refine HS.out.mono ?_
 rintro e v ⟨⟨Ap, cp, rfl, -⟩, hb⟩
 have K1 := zh (show Below W.heap.size W (v.alloc (.cells #[.int .i64 tk, .string ⟨tc.toArray⟩] 63)) from hb.alloc hb.size _)
 obtain ⟨y0, y1, y2, y3, y4, y5⟩ := HCE.out _ K1.out
 clear hb x0 x1 x2 x3 x4 x5
 cases h0 : decide (er = 0) with
 | false =>
  have g5 : ((er : Int) != 0) = true := by have := of_decide_eq_false h0; rw [bne_iff_ne]; omega
  have HRF := zh (HF0.out (by simp [h0]))
  (try go_wp2_with fail)
  go_ret
  exact ⟨by rw [HRF.out]; rfl, HAL.out.trans (K1.out.mono HAL.out.size)⟩
 | true =>
  have g5 : ((er : Int) != 0) = false := by have := of_decide_eq_true h0; rw [this]; rfl
  go_wp2_with fail
  refine (HNM.out _).mono ?_
  rintro e v2 ⟨rfl, hb⟩
  have K2 := zh (show Below W.heap.size W v2 from then' K1.out hb)
  obtain ⟨z0, z1, z2, z3, z4, z5⟩ := HCE.out _ K2.out
  clear hb y0 y1 y2 y3 y4 y5
  cases h1 : bn with
  | false =>
   have HRF := zh (HF0.out (by simp [h1]))
   (try go_wp2_with fail)
   go_ret
   exact ⟨by rw [HRF.out]; rfl, HAL.out.trans (K2.out.mono HAL.out.size)⟩
  | true =>
   cases h2 : decide (0 ≤ x.rg) with
   | false =>
    have g6 : x.rg < 0 := by have := of_decide_eq_false h2; omega
    have HRF := zh (HF0.out (by simp [h2]))
    (try go_wp2_with fail)
    go_ret
    exact ⟨by rw [HRF.out]; rfl, HAL.out.trans (K2.out.mono HAL.out.size)⟩
   | true =>
    have g6 : ¬ x.rg < 0 := by have := of_decide_eq_true h2; omega
    cases h3 : decide (x.rg ≤ 32) with
    | false =>
     have g7 : (32 : Int) < x.rg := by have := of_decide_eq_false h3; omega
     have HRF := zh (HF0.out (by simp [h3]))
     (try go_wp2_with fail)
     go_ret
     exact ⟨by rw [HRF.out]; rfl, HAL.out.trans (K2.out.mono HAL.out.size)⟩
    | true =>
     have g7 : ¬ (32 : Int) < x.rg := by have := of_decide_eq_true h3; omega
     have hh : (decide (er = 0) && (bn && (decide (0 ≤ x.rg) && decide (x.rg ≤ 32)))) = true := by rw [h0, h1, h2, h3]; rfl
     have HAB' := zh (HAB.out hh); have HC0' := zh (HC0.out hh); have HC1' := zh (HC1.out hh); have HC2' := zh (HC2.out hh); have HC3' := zh (HC3.out hh); have HT' := zh (HT.out hh)
     have HRG := zh (of_decide_eq_true h2)
     have g7' : x.rg ≤ 32 := of_decide_eq_true h3
     clear HF0 HAB HC0 HC1 HC2 HC3 HT hh
     cases h4 : x.ab with
     | true =>
      have HA := zh (HAB'.out h4)
      clear HAB' HC0' HC1' HC2' HC3' HT'
      rw [h4] at z3
      cases a1 : x.st with
      | true =>
       rw [a1] at z2
       have HRF := zh (show R = false from by rw [HA.out]; simp [a1])
       (try go_wp2_with fail)
       go_ret
       exact ⟨by rw [HRF.out]; rfl, HAL.out.trans (K2.out.mono HAL.out.size)⟩
      | false =>
       rw [a1] at z2
       cases a2 : (x.nm == [60, 99, 108, 105, 110, 105, 116, 62]) with
       | true =>
        have q2 := ne_of a2
        have HRF := zh (show R = false from by rw [HA.out]; simp [a1, a2])
        (try go_wp2_with fail)
        go_ret
        exact ⟨by rw [HRF.out]; rfl, HAL.out.trans (K2.out.mono HAL.out.size)⟩
       | false =>
        have q2 := ne_of a2
        by_cases a3 : n = 0
        ·have q3 : decide (n = 0) = true := decide_eq_true a3
         have q3I : ((n : Int) == 0) = true := by rw [beq_iff_eq]; omega
         have A3 := zh a3
         clear a3
         cases a4 : (x.rg == 0) with
         | true =>
          have HRF := zh (show R = true from by rw [HA.out]; simp [a1, a2, q3, a4])
          (try go_wp2_with fail)
          go_ret
          exact ⟨by rw [HRF.out]; rfl, HAL.out.trans (K2.out.mono HAL.out.size)⟩
         | false =>
          have HRF := zh (show R = false from by rw [HA.out]; simp [a1, a2, q3, a4])
          (try go_wp2_with fail)
          go_ret
          exact ⟨by rw [HRF.out]; rfl, HAL.out.trans (K2.out.mono HAL.out.size)⟩
        ·have q3 : decide (n = 0) = false := decide_eq_false a3
         have q3I : ((n : Int) == 0) = false := by rw [beq_eq_false_iff_ne]; omega
         have HRF := zh (show R = false from by rw [HA.out]; simp [a1, a2, q3])
         (try go_wp2_with fail)
         go_ret
         exact ⟨by rw [HRF.out]; rfl, HAL.out.trans (K2.out.mono HAL.out.size)⟩
     | false =>
      have HD0 := zh (HC0'.out h4); have HD1 := zh (HC1'.out h4); have HD2 := zh (HC2'.out h4); have HD3 := zh (HC3'.out h4); have HDT := zh (HT'.out h4)
      clear HAB' HC0' HC1' HC2' HC3' HT'
      rw [h4] at z3
      cases h5 : x.st with
      | false =>
       rw [h5] at z2
       have HE0 := zh (show ¬ ((np + 1 : Nat) : Int) ≤ x.rg → R = false from fun h => HD0.out (by rw [h5]; simpa using h))
       have HET := zh (show ((np + 1 : Nat) : Int) ≤ x.rg → 0 < n → n ≤ 256 → (∀ (j : Nat) (y : InM), x.co[j]? = some y → fitsE y.i x.rg (n : Int) = 0) → R = (!(x.nm == [60, 99, 108, 105, 110, 105, 116, 62]) || (false && x.ds == [40, 41, 86])) from fun h => by have := HDT.out (by rw [h5]; simpa using h); rwa [h5] at this)
       clear HD0 HDT
       by_cases b1 : 0 < n
       ·have b1I : ¬ (n : Int) < 1 := by omega
        by_cases b2 : n ≤ 256
        ·have b2I : ¬ (256 : Int) < (n : Int) := by omega
         by_cases b3 : ((np + 1 : Nat) : Int) ≤ x.rg
         ·have b3I : ¬ x.rg < ((np + 1 : Nat) : Int) := by omega
          have HEE := zh (HET.out b3 b1 b2)
          clear HE0 HD1 HD2 HET b1 b2
          go_wp2_with fail
          go_loopw [7] (fun i wr => ∃ k : Nat, i = .int .i64 (k : Int) ∧ k ≤ n ∧ (∀ (j : Nat) (y : InM), j < k → x.co[j]? = some y → fitsE y.i x.rg (n : Int) = 0) ∧ Below W.heap.size W wr) (fun i _ => n - (intOf i).toNat)
          case atStart => exact ⟨0, rfl, Nat.zero_le _, fun j _ h => by omega, K2.out⟩
          case round =>
           obtain ⟨k, rfl, hk, hall, hbw⟩ := hrel
           obtain ⟨q, q_eq⟩ : ∃ v, v = wr := ⟨_, rfl⟩
           subst q_eq
           have HA := zh hall; have HB := zh hbw
           obtain ⟨g0, g1, g2, g3, g4, g5'⟩ := HCE.out _ hbw
           rw [h4] at g3
           rw [h5] at g2
           clear hall
           by_cases hlt : k < n
           ·have hltI : (k : Int) < (n : Int) := by omega
            obtain ⟨u, hx⟩ : ∃ u, x.co[k]? = some u := ⟨x.co[k]'(by rw [← HN.out]; exact hlt), List.getElem?_eq_getElem _⟩
            obtain ⟨a, ea, ha, c0, c1, c2, c3, c4, c5, c6, c7, c8⟩ := in_at (HR.out.below hbw) hx
            rw [ea] at g5'
            have HFX := zh (fun h => HD3.out k u hx h)
            have HNX := zh (show fitsE u.i x.rg (n : Int) = 0 → ∀ (j : Nat) (y : InM), j < k + 1 → x.co[j]? = some y → fitsE y.i x.rg (n : Int) = 0 from fun h j c hj h1 => by
             rcases Nat.lt_succ_iff_lt_or_eq.1 hj with h3 | rfl
             ·exact HA.out j c h3 h1
             ·rw [hx] at h1; cases h1; exact h)
            have HCU := zh (fun z hz => HFT.out u (List.mem_of_getElem? hx) z hz)
            dsimp only [InV] at HCU
            have HX := zh hx; have HEA := zh ea
            clear hx ea hk hlt
            obtain ⟨f, hf⟩ : ∃ f, f = fitsE u.i x.rg (n : Int) := ⟨_, rfl⟩
            rw [← hf] at HFX HNX HCU
            clear hf
            cases hz : (f != 0) with
            | true =>
             have HRF := zh (HFX.out (by rw [bne_iff_ne] at hz; exact hz))
             clear HFX HNX
             go_wp2_with fail
             refine wp_region_held_drew (S := (fun w' => w'.cell? (a.add (k * 9)) = some (.int .i64 u.i.o) ∧ w'.cell? ⟨(a.add (k * 9)).block, (a.add (k * 9)).off + 1, none⟩ = some (.int .i64 u.i.a) ∧ w'.cell? ⟨(a.add (k * 9)).block, (a.add (k * 9)).off + 2, none⟩ = some (.int .i64 u.i.b) ∧ w'.cell? ⟨(a.add (k * 9)).block, (a.add (k * 9)).off + 3, none⟩ = some (.int .i64 u.i.c) ∧ w'.cell? ⟨(a.add (k * 9)).block, (a.add (k * 9)).off + 4, none⟩ = some (.int .i64 u.i.k) ∧ w'.cell? ⟨(a.add (k * 9)).block, (a.add (k * 9)).off + 5, none⟩ = some (.string ⟨u.i.cl.toArray⟩) ∧ w'.cell? ⟨(a.add (k * 9)).block, (a.add (k * 9)).off + 6, none⟩ = some (.string ⟨u.i.nm.toArray⟩) ∧ w'.cell? ⟨(a.add (k * 9)).block, (a.add (k * 9)).off + 7, none⟩ = some (.string ⟨u.i.ds.toArray⟩) ∧ w'.cell? ⟨(a.add (k * 9)).block, (a.add (k * 9)).off + 8, none⟩ = some (.slice u.A u.i.ar.length u.c) ∧ w'.cell? ⟨w.heap.size, 4, none⟩ = some (.int .i64 x.rg) ∧ w'.cell? ⟨w.heap.size, 5, none⟩ = some (.slice (some a) n x.c))) (by kernel_rfl) ?_ (fun hHeld => ?_)
             ·exact ⟨c0, c1, c2, c3, c4, c5, c6, c7, c8, g4, g5'⟩
             refine tkp 0 rfl ?_
             refine tkp 1 rfl ?_
             refine tkp 2 rfl ?_
             refine tkp 3 rfl ?_
             refine tkp 4 rfl ?_
             refine tkp 5 rfl ?_
             refine tkp 6 rfl ?_
             refine tkp 7 rfl ?_
             refine tkp 8 rfl ?_
             refine tkp 9 rfl ?_
             refine rdy 10 rfl (fun K hK => ?_)
             go_simp
             refine (HCU.out _ (by first | exact HB.out | exact overD HB.out)).mono ?_; rintro e v1 ⟨rfl, hb⟩; have k1 : Below W.heap.size W v1 := (by first | exact then' HB.out hb | exact then' (overD HB.out) hb); obtain ⟨a1, q1, _, e0, e1, e2, e3, e4, e5, e6, e7, e8⟩ := in_at (HR.out.below k1) HX.out; rw [HEA.out] at q1; cases q1; obtain ⟨_, _, _, _, j4, j5⟩ := HCE.out _ k1; rw [HEA.out] at j5; have KZ := zh k1; clear hb k1; go_wp2_with fail
             refine hK.out _ _ ⟨e0, e1, e2, e3, e4, e5, e6, e7, e8, j4, j5⟩ (fun hHeld => ?_)
             clear hK K
             try simp only [puts]
             refine tkp 11 rfl ?_
             refine wpAnyH_done (by kernel_rfl) ?_ _
             go_wp2
             go_ret
             exact ⟨by rw [HRF.out]; rfl, HAL.out.trans (KZ.out.mono HAL.out.size)⟩
            | false =>
             have HRN := zh (HNX.out (by simpa using hz))
             clear HFX HNX
             go_wp2_with fail
             refine wp_region_held_drew (S := (fun w' => w'.cell? (a.add (k * 9)) = some (.int .i64 u.i.o) ∧ w'.cell? ⟨(a.add (k * 9)).block, (a.add (k * 9)).off + 1, none⟩ = some (.int .i64 u.i.a) ∧ w'.cell? ⟨(a.add (k * 9)).block, (a.add (k * 9)).off + 2, none⟩ = some (.int .i64 u.i.b) ∧ w'.cell? ⟨(a.add (k * 9)).block, (a.add (k * 9)).off + 3, none⟩ = some (.int .i64 u.i.c) ∧ w'.cell? ⟨(a.add (k * 9)).block, (a.add (k * 9)).off + 4, none⟩ = some (.int .i64 u.i.k) ∧ w'.cell? ⟨(a.add (k * 9)).block, (a.add (k * 9)).off + 5, none⟩ = some (.string ⟨u.i.cl.toArray⟩) ∧ w'.cell? ⟨(a.add (k * 9)).block, (a.add (k * 9)).off + 6, none⟩ = some (.string ⟨u.i.nm.toArray⟩) ∧ w'.cell? ⟨(a.add (k * 9)).block, (a.add (k * 9)).off + 7, none⟩ = some (.string ⟨u.i.ds.toArray⟩) ∧ w'.cell? ⟨(a.add (k * 9)).block, (a.add (k * 9)).off + 8, none⟩ = some (.slice u.A u.i.ar.length u.c) ∧ w'.cell? ⟨w.heap.size, 4, none⟩ = some (.int .i64 x.rg) ∧ w'.cell? ⟨w.heap.size, 5, none⟩ = some (.slice (some a) n x.c))) (by kernel_rfl) ?_ (fun hHeld => ?_)
             ·exact ⟨c0, c1, c2, c3, c4, c5, c6, c7, c8, g4, g5'⟩
             refine tkp 0 rfl ?_
             refine tkp 1 rfl ?_
             refine tkp 2 rfl ?_
             refine tkp 3 rfl ?_
             refine tkp 4 rfl ?_
             refine tkp 5 rfl ?_
             refine tkp 6 rfl ?_
             refine tkp 7 rfl ?_
             refine tkp 8 rfl ?_
             refine tkp 9 rfl ?_
             refine rdy 10 rfl (fun K hK => ?_)
             go_simp
             refine (HCU.out _ (by first | exact HB.out | exact overD HB.out)).mono ?_; rintro e v1 ⟨rfl, hb⟩; have k1 : Below W.heap.size W v1 := (by first | exact then' HB.out hb | exact then' (overD HB.out) hb); obtain ⟨a1, q1, _, e0, e1, e2, e3, e4, e5, e6, e7, e8⟩ := in_at (HR.out.below k1) HX.out; rw [HEA.out] at q1; cases q1; obtain ⟨_, _, _, _, j4, j5⟩ := HCE.out _ k1; rw [HEA.out] at j5; have KZ := zh k1; clear hb k1; go_wp2_with fail
             refine hK.out _ _ ⟨e0, e1, e2, e3, e4, e5, e6, e7, e8, j4, j5⟩ (fun hHeld => ?_)
             clear hK K
             try simp only [puts]
             refine tkp 11 rfl ?_
             refine wpAnyH_done (by kernel_rfl) ?_ _
             go_wp2
             go_roundw
             case rel => exact ⟨k + 1, by go_num, by omega, HRN.out, KZ.out⟩
             case measure => simp [intOf]; omega
           ·have hltI : ¬ (k : Int) < (n : Int) := by omega
            have HRT := zh (HEE.out (fun j c h1 => HA.out j c (by have := (List.getElem?_eq_some_iff.1 h1).1; rw [← HN.out] at this; omega) h1))
            clear hk hlt
            cases a2 : (x.nm == [60, 99, 108, 105, 110, 105, 116, 62]) with
            | false =>
             have q2 := ne_of a2
             have HRF := zh (show R = true from by rw [HRT.out]; simp [a2])
             (try go_wp2_with fail)
             go_ret
             exact ⟨by rw [HRF.out]; rfl, HAL.out.trans (HB.out.mono HAL.out.size)⟩
            | true =>
             have q2 := ne_of a2
             have HRF := zh (show R = false from by rw [HRT.out]; simp [a2])
             (try go_wp2_with fail)
             go_ret
             exact ⟨by rw [HRF.out]; rfl, HAL.out.trans (HB.out.mono HAL.out.size)⟩
         ·have b3I : x.rg < ((np + 1 : Nat) : Int) := by omega
          have HRF := zh (HE0.out b3)
          (try go_wp2_with fail)
          go_ret
          exact ⟨by rw [HRF.out]; rfl, HAL.out.trans (K2.out.mono HAL.out.size)⟩
        ·have b2I : (256 : Int) < (n : Int) := by omega
         have HRF := zh (HD2.out b2)
         (try go_wp2_with fail)
         go_ret
         exact ⟨by rw [HRF.out]; rfl, HAL.out.trans (K2.out.mono HAL.out.size)⟩
       ·have b1I : (n : Int) < 1 := by omega
        have HRF := zh (HD1.out b1)
        (try go_wp2_with fail)
        go_ret
        exact ⟨by rw [HRF.out]; rfl, HAL.out.trans (K2.out.mono HAL.out.size)⟩
      | true =>
       rw [h5] at z2
       have HE0 := zh (show ¬ ((np : Nat) : Int) ≤ x.rg → R = false from fun h => HD0.out (by rw [h5]; simpa using h))
       have HET := zh (show ((np : Nat) : Int) ≤ x.rg → 0 < n → n ≤ 256 → (∀ (j : Nat) (y : InM), x.co[j]? = some y → fitsE y.i x.rg (n : Int) = 0) → R = (!(x.nm == [60, 99, 108, 105, 110, 105, 116, 62]) || (true && x.ds == [40, 41, 86])) from fun h => by have := HDT.out (by rw [h5]; simpa using h); rwa [h5] at this)
       clear HD0 HDT
       by_cases b1 : 0 < n
       ·have b1I : ¬ (n : Int) < 1 := by omega
        by_cases b2 : n ≤ 256
        ·have b2I : ¬ (256 : Int) < (n : Int) := by omega
         by_cases b3 : ((np : Nat) : Int) ≤ x.rg
         ·have b3I : ¬ x.rg < ((np : Nat) : Int) := by omega
          have HEE := zh (HET.out b3 b1 b2)
          clear HE0 HD1 HD2 HET b1 b2
          go_wp2_with fail
          go_loopw [7] (fun i wr => ∃ k : Nat, i = .int .i64 (k : Int) ∧ k ≤ n ∧ (∀ (j : Nat) (y : InM), j < k → x.co[j]? = some y → fitsE y.i x.rg (n : Int) = 0) ∧ Below W.heap.size W wr) (fun i _ => n - (intOf i).toNat)
          case atStart => exact ⟨0, rfl, Nat.zero_le _, fun j _ h => by omega, K2.out⟩
          case round =>
           obtain ⟨k, rfl, hk, hall, hbw⟩ := hrel
           obtain ⟨q, q_eq⟩ : ∃ v, v = wr := ⟨_, rfl⟩
           subst q_eq
           have HA := zh hall; have HB := zh hbw
           obtain ⟨g0, g1, g2, g3, g4, g5'⟩ := HCE.out _ hbw
           rw [h4] at g3
           rw [h5] at g2
           clear hall
           by_cases hlt : k < n
           ·have hltI : (k : Int) < (n : Int) := by omega
            obtain ⟨u, hx⟩ : ∃ u, x.co[k]? = some u := ⟨x.co[k]'(by rw [← HN.out]; exact hlt), List.getElem?_eq_getElem _⟩
            obtain ⟨a, ea, ha, c0, c1, c2, c3, c4, c5, c6, c7, c8⟩ := in_at (HR.out.below hbw) hx
            rw [ea] at g5'
            have HFX := zh (fun h => HD3.out k u hx h)
            have HNX := zh (show fitsE u.i x.rg (n : Int) = 0 → ∀ (j : Nat) (y : InM), j < k + 1 → x.co[j]? = some y → fitsE y.i x.rg (n : Int) = 0 from fun h j c hj h1 => by
             rcases Nat.lt_succ_iff_lt_or_eq.1 hj with h3 | rfl
             ·exact HA.out j c h3 h1
             ·rw [hx] at h1; cases h1; exact h)
            have HCU := zh (fun z hz => HFT.out u (List.mem_of_getElem? hx) z hz)
            dsimp only [InV] at HCU
            have HX := zh hx; have HEA := zh ea
            clear hx ea hk hlt
            obtain ⟨f, hf⟩ : ∃ f, f = fitsE u.i x.rg (n : Int) := ⟨_, rfl⟩
            rw [← hf] at HFX HNX HCU
            clear hf
            cases hz : (f != 0) with
            | true =>
             have HRF := zh (HFX.out (by rw [bne_iff_ne] at hz; exact hz))
             clear HFX HNX
             go_wp2_with fail
             refine wp_region_held_drew (S := (fun w' => w'.cell? (a.add (k * 9)) = some (.int .i64 u.i.o) ∧ w'.cell? ⟨(a.add (k * 9)).block, (a.add (k * 9)).off + 1, none⟩ = some (.int .i64 u.i.a) ∧ w'.cell? ⟨(a.add (k * 9)).block, (a.add (k * 9)).off + 2, none⟩ = some (.int .i64 u.i.b) ∧ w'.cell? ⟨(a.add (k * 9)).block, (a.add (k * 9)).off + 3, none⟩ = some (.int .i64 u.i.c) ∧ w'.cell? ⟨(a.add (k * 9)).block, (a.add (k * 9)).off + 4, none⟩ = some (.int .i64 u.i.k) ∧ w'.cell? ⟨(a.add (k * 9)).block, (a.add (k * 9)).off + 5, none⟩ = some (.string ⟨u.i.cl.toArray⟩) ∧ w'.cell? ⟨(a.add (k * 9)).block, (a.add (k * 9)).off + 6, none⟩ = some (.string ⟨u.i.nm.toArray⟩) ∧ w'.cell? ⟨(a.add (k * 9)).block, (a.add (k * 9)).off + 7, none⟩ = some (.string ⟨u.i.ds.toArray⟩) ∧ w'.cell? ⟨(a.add (k * 9)).block, (a.add (k * 9)).off + 8, none⟩ = some (.slice u.A u.i.ar.length u.c) ∧ w'.cell? ⟨w.heap.size, 4, none⟩ = some (.int .i64 x.rg) ∧ w'.cell? ⟨w.heap.size, 5, none⟩ = some (.slice (some a) n x.c))) (by kernel_rfl) ?_ (fun hHeld => ?_)
             ·exact ⟨c0, c1, c2, c3, c4, c5, c6, c7, c8, g4, g5'⟩
             refine tkp 0 rfl ?_
             refine tkp 1 rfl ?_
             refine tkp 2 rfl ?_
             refine tkp 3 rfl ?_
             refine tkp 4 rfl ?_
             refine tkp 5 rfl ?_
             refine tkp 6 rfl ?_
             refine tkp 7 rfl ?_
             refine tkp 8 rfl ?_
             refine tkp 9 rfl ?_
             refine rdy 10 rfl (fun K hK => ?_)
             go_simp
             refine (HCU.out _ (by first | exact HB.out | exact overD HB.out)).mono ?_; rintro e v1 ⟨rfl, hb⟩; have k1 : Below W.heap.size W v1 := (by first | exact then' HB.out hb | exact then' (overD HB.out) hb); obtain ⟨a1, q1, _, e0, e1, e2, e3, e4, e5, e6, e7, e8⟩ := in_at (HR.out.below k1) HX.out; rw [HEA.out] at q1; cases q1; obtain ⟨_, _, _, _, j4, j5⟩ := HCE.out _ k1; rw [HEA.out] at j5; have KZ := zh k1; clear hb k1; go_wp2_with fail
             refine hK.out _ _ ⟨e0, e1, e2, e3, e4, e5, e6, e7, e8, j4, j5⟩ (fun hHeld => ?_)
             clear hK K
             try simp only [puts]
             refine tkp 11 rfl ?_
             refine wpAnyH_done (by kernel_rfl) ?_ _
             go_wp2
             go_ret
             exact ⟨by rw [HRF.out]; rfl, HAL.out.trans (KZ.out.mono HAL.out.size)⟩
            | false =>
             have HRN := zh (HNX.out (by simpa using hz))
             clear HFX HNX
             go_wp2_with fail
             refine wp_region_held_drew (S := (fun w' => w'.cell? (a.add (k * 9)) = some (.int .i64 u.i.o) ∧ w'.cell? ⟨(a.add (k * 9)).block, (a.add (k * 9)).off + 1, none⟩ = some (.int .i64 u.i.a) ∧ w'.cell? ⟨(a.add (k * 9)).block, (a.add (k * 9)).off + 2, none⟩ = some (.int .i64 u.i.b) ∧ w'.cell? ⟨(a.add (k * 9)).block, (a.add (k * 9)).off + 3, none⟩ = some (.int .i64 u.i.c) ∧ w'.cell? ⟨(a.add (k * 9)).block, (a.add (k * 9)).off + 4, none⟩ = some (.int .i64 u.i.k) ∧ w'.cell? ⟨(a.add (k * 9)).block, (a.add (k * 9)).off + 5, none⟩ = some (.string ⟨u.i.cl.toArray⟩) ∧ w'.cell? ⟨(a.add (k * 9)).block, (a.add (k * 9)).off + 6, none⟩ = some (.string ⟨u.i.nm.toArray⟩) ∧ w'.cell? ⟨(a.add (k * 9)).block, (a.add (k * 9)).off + 7, none⟩ = some (.string ⟨u.i.ds.toArray⟩) ∧ w'.cell? ⟨(a.add (k * 9)).block, (a.add (k * 9)).off + 8, none⟩ = some (.slice u.A u.i.ar.length u.c) ∧ w'.cell? ⟨w.heap.size, 4, none⟩ = some (.int .i64 x.rg) ∧ w'.cell? ⟨w.heap.size, 5, none⟩ = some (.slice (some a) n x.c))) (by kernel_rfl) ?_ (fun hHeld => ?_)
             ·exact ⟨c0, c1, c2, c3, c4, c5, c6, c7, c8, g4, g5'⟩
             refine tkp 0 rfl ?_
             refine tkp 1 rfl ?_
             refine tkp 2 rfl ?_
             refine tkp 3 rfl ?_
             refine tkp 4 rfl ?_
             refine tkp 5 rfl ?_
             refine tkp 6 rfl ?_
             refine tkp 7 rfl ?_
             refine tkp 8 rfl ?_
             refine tkp 9 rfl ?_
             refine rdy 10 rfl (fun K hK => ?_)
             go_simp
             refine (HCU.out _ (by first | exact HB.out | exact overD HB.out)).mono ?_; rintro e v1 ⟨rfl, hb⟩; have k1 : Below W.heap.size W v1 := (by first | exact then' HB.out hb | exact then' (overD HB.out) hb); obtain ⟨a1, q1, _, e0, e1, e2, e3, e4, e5, e6, e7, e8⟩ := in_at (HR.out.below k1) HX.out; rw [HEA.out] at q1; cases q1; obtain ⟨_, _, _, _, j4, j5⟩ := HCE.out _ k1; rw [HEA.out] at j5; have KZ := zh k1; clear hb k1; go_wp2_with fail
             refine hK.out _ _ ⟨e0, e1, e2, e3, e4, e5, e6, e7, e8, j4, j5⟩ (fun hHeld => ?_)
             clear hK K
             try simp only [puts]
             refine tkp 11 rfl ?_
             refine wpAnyH_done (by kernel_rfl) ?_ _
             go_wp2
             go_roundw
             case rel => exact ⟨k + 1, by go_num, by omega, HRN.out, KZ.out⟩
             case measure => simp [intOf]; omega
           ·have hltI : ¬ (k : Int) < (n : Int) := by omega
            have HRT := zh (HEE.out (fun j c h1 => HA.out j c (by have := (List.getElem?_eq_some_iff.1 h1).1; rw [← HN.out] at this; omega) h1))
            clear hk hlt
            cases a2 : (x.nm == [60, 99, 108, 105, 110, 105, 116, 62]) with
            | false =>
             have q2 := ne_of a2
             have HRF := zh (show R = true from by rw [HRT.out]; simp [a2])
             (try go_wp2_with fail)
             go_ret
             exact ⟨by rw [HRF.out]; rfl, HAL.out.trans (HB.out.mono HAL.out.size)⟩
            | true =>
             have q2 := ne_of a2
             cases a3 : (x.ds == [40, 41, 86]) with
             | false =>
              have HRF := zh (show R = false from by rw [HRT.out]; simp [a2, a3])
              (try go_wp2_with fail)
              go_ret
              exact ⟨by rw [HRF.out]; rfl, HAL.out.trans (HB.out.mono HAL.out.size)⟩
             | true =>
              have HRF := zh (show R = true from by rw [HRT.out]; simp [a2, a3])
              (try go_wp2_with fail)
              go_ret
              exact ⟨by rw [HRF.out]; rfl, HAL.out.trans (HB.out.mono HAL.out.size)⟩
         ·have b3I : x.rg < ((np : Nat) : Int) := by omega
          have HRF := zh (HE0.out b3)
          (try go_wp2_with fail)
          go_ret
          exact ⟨by rw [HRF.out]; rfl, HAL.out.trans (K2.out.mono HAL.out.size)⟩
        ·have b2I : (256 : Int) < (n : Int) := by omega
         have HRF := zh (HD2.out b2)
         (try go_wp2_with fail)
         go_ret
         exact ⟨by rw [HRF.out]; rfl, HAL.out.trans (K2.out.mono HAL.out.size)⟩
       ·have b1I : (n : Int) < 1 := by omega
        have HRF := zh (HD1.out b1)
        (try go_wp2_with fail)
        go_ret
        exact ⟨by rw [HRF.out]; rfl, HAL.out.trans (K2.out.mono HAL.out.size)⟩
end Go.Proofs.Ytdifmgeicnndfaa.prg

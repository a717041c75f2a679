/- NormO -/
import Derived.Test.YtgociheckcpjkaaGreatDoorNormRw
import Derived.Test.YtgociheckcpjkaaGreatDoorNormE
namespace Go.Proofs.YtgociheckcpjkaaGreatDoor.prg
open Go.RowKit
open words kindp opp op kind word
set_option maxRecDepth 100000
set_option maxHeartbeats 8000000
set_option linter.all false
theorem eqf_fi (A C : Option Addr) (c d : Nat) (l k : List FiM) (w : World) (hr : Rd w A (l.flatMap fiC)) (kr : Rd w C (k.flatMap fiC)) (hl : l.length ≤ 281474976710656) (hk : k.length ≤ 281474976710656) :
  Calls Tryz.prog 65 #[.slice A l.length c, .slice C k.length d] w fun e w' => e = .returned (.bool (decide (l.map pF = k.map pF))) ∧ ∃ q, w' = w.drewN q := by
 obtain ⟨n, hn⟩ : ∃ n, n = l.length := ⟨_, rfl⟩
 obtain ⟨m, hm⟩ : ∃ m, m = k.length := ⟨_, rfl⟩
 rw [← hn, ← hm]
 have hnI : (n : Int) ≤ 281474976710656 := by omega
 have hmI : (m : Int) ≤ 281474976710656 := by omega
 by_cases hnm : n = m
 ·subst hnm
  have hnn : ((n : Int) != n) = false := by simp
  obtain ⟨R, hR⟩ : ∃ R : Bool, R = decide (l.map pF = k.map pF) := ⟨_, rfl⟩
  rw [← hR]
  have HR := hh hR; have HN := hh hn; have HM := hh hm
  clear hl hk hR hn hm
  go_enter Tryz.func65, Tryz.ntmps65
  go_wp2
  go_loopw [13] (fun i wr => ∃ j : Nat, j ≤ n ∧ i = .int .i64 (j : Int) ∧ (∃ q, wr = w.drewN q) ∧ l.take j = k.take j) (fun i _ => n - (intOf i).toNat)
  case atStart => exact ⟨0, Nat.zero_le _, rfl, ⟨0, rfl⟩, rfl⟩
  case round =>
   obtain ⟨j, hj, rfl, ⟨q, rfl⟩, ht⟩ := hrel
   have HT := hh ht
   clear ht
   by_cases hlt : j < n
   ·obtain ⟨x, hx⟩ : ∃ x, l[j]? = some x := ⟨l[j]'(by have := HN.out; omega), List.getElem?_eq_getElem _⟩
    obtain ⟨y, hy⟩ : ∃ y, k[j]? = some y := ⟨k[j]'(by have := HM.out; omega), List.getElem?_eq_getElem _⟩
    have HX := hh hx; have HY := hh hy
    obtain ⟨a, ea, _, s0, s1, s2, s3⟩ := fi_at hr hx
    obtain ⟨b, eb, _, t0, t1, t2, t3⟩ := fi_at kr hy
    subst ea
    subst eb
    by_cases hxy : x = y
    ·subst hxy
     have j1 : (x.nm == x.nm) = true := by simp
     have j2 : (x.k == x.k) = true := by simp
     have j3 : (x.cl == x.cl) = true := by simp
     have j4 : (x.st == x.st) = true := by simp
     clear hr kr hx hy
     go_wp2
     go_quiet (fail)
     go_wp2
     go_roundw
     case rel => exact ⟨j + 1, by omega, by go_num, ⟨_, rfl⟩, by rw [List.take_add_one, List.take_add_one, HT.out, HX.out, HY.out]⟩
     case measure => simp [intOf]; omega
    ·have hf : R = false := by
      rw [HR.out]
      refine decide_eq_false fun e => hxy ?_
      have h1 : (l.map pF)[j]? = some (pF x) := by rw [List.getElem?_map, HX.out]; rfl
      have h2 : (k.map pF)[j]? = some (pF y) := by rw [List.getElem?_map, HY.out]; rfl
      rw [e, h2] at h1
      have h3 := fs_same (l := [x]) (k := [y]) (by simp only [List.map_cons, List.map_nil]; rw [Option.some.inj h1])
      exact List.head_eq_of_cons_eq h3
     subst hf
     have hd : ((x.nm == y.nm) = false) ∨ ((x.nm == y.nm) = true ∧ (x.k == y.k) = false) ∨ ((x.nm == y.nm) = true ∧ (x.k == y.k) = true ∧ (x.cl == y.cl) = false) ∨ ((x.nm == y.nm) = true ∧ (x.k == y.k) = true ∧ (x.cl == y.cl) = true ∧ (x.st == y.st) = false) := by
      cases k1 : (x.nm == y.nm) with
      | false => exact .inl rfl
      | true =>
       cases k2 : (x.k == y.k) with
       | false => exact .inr (.inl ⟨rfl, rfl⟩)
       | true =>
        cases k3 : (x.cl == y.cl) with
        | false => exact .inr (.inr (.inl ⟨rfl, rfl, rfl⟩))
        | true =>
         cases k4 : (x.st == y.st) with
         | false => exact .inr (.inr (.inr ⟨rfl, rfl, rfl, rfl⟩))
         | true =>
          refine absurd ?_ hxy
          cases x; cases y
          simp at k1 k2 k3 k4
          subst k1; subst k2; subst k3; subst k4; rfl
     clear hr kr hx hy hxy
     rcases hd with j1 | ⟨j1, j2⟩ | ⟨j1, j2, j3⟩ | ⟨j1, j2, j3, j4⟩
     all_goals (go_wp2; go_quiet (fail); go_wp2; go_ret; exact ⟨rfl, _, World.drewN_drewN _ _ _⟩)
   ·have hf : R = true := by
     rw [HR.out]
     refine decide_eq_true ?_
     refine congrArg (List.map pF) ?_
     have h1 := HT.out
     rwa [List.take_of_length_le (by have := HN.out; omega), List.take_of_length_le (by have := HM.out; omega)] at h1
    subst hf
    go_wp2
    go_ret
    exact ⟨rfl, q, rfl⟩
 ·have hne : ((n : Int) != (m : Int)) = true := by simp; omega
  rw [show decide (l.map pF = k.map pF) = false from decide_eq_false (fun e => hnm (by rw [hn, hm]; have := congrArg List.length e; simpa using this))]
  clear hn hm hnm hr kr
  go_enter Tryz.func65, Tryz.ntmps65
  go_wp2
  go_ret
  exact ⟨rfl, 0, rfl⟩
end Go.Proofs.YtgociheckcpjkaaGreatDoor.prg
namespace Go.Proofs.YtgociheckcpjkaaGreatDoor.prg
open Go.RowKit
open words kindp opp op kind word
set_option maxRecDepth 100000
set_option maxHeartbeats 8000000
set_option linter.all false
theorem pC_eq_g (c d : ClM) : decide (pC c = pC d) = ((c.nm == d.nm) && ((c.su == d.su) && ((c.fc == d.fc) && ((c.ab == d.ab) && (decide (c.is = d.is) && (decide (c.fs.map pF = d.fs.map pF) && decide (c.ms.map pM = d.ms.map pM))))))) := by
 rw [Bool.eq_iff_iff]; simp [pC]
theorem pP_eq_g (p q : PrM) : decide (pP p = pP q) = (decide (p.cs.map pC = q.cs.map pC) && (decide (p.ns = q.ns) && ((p.ec == q.ec) && ((p.en == q.en) && (p.ed == q.ed))))) := by
 rw [Bool.eq_iff_iff]; simp [pP]
theorem sameC_g (x y : ClM) (w : World) (hx : ClOk w x) (hy : ClOk w y) (bx : ClBd x) (by' : ClBd y) : Calls Tryz.prog 26 #[.agg (clC x).toArray, .agg (clC y).toArray] w fun e w' => e = .returned (.bool (decide (pC x = pC y))) ∧ Below w.heap.size w w' := by
 obtain ⟨W, hW⟩ : ∃ W, W = (w.alloc (.cells (clC x).toArray 35)).alloc (.cells (clC y).toArray 35) := ⟨_, rfl⟩
 have hal : Below w.heap.size w W := by rw [hW]; exact ((Below.refl _ w).alloc (Nat.le_refl _) _).alloc (by simp) _
 have HAL := hh hal
 have hbi : W.heap[w.heap.size]? = some (.cells (clC x).toArray 35 (0, 0)) := by rw [hW]; exact (Below.heap_alloc _ _ _ (by simp)).trans (heap_alloc_new w _)
 have hbj : W.heap[w.heap.size + 1]? = some (.cells (clC y).toArray 35 (0, 0)) := by
  rw [hW]
  have := heap_alloc_new (w.alloc (.cells (clC x).toArray 35)) (.cells (clC y).toArray 35)
  rwa [World.size_alloc] at this
 have HBX := hh hbi; have HBY := hh hbj; have HLX := hh (blk_lt hbi); have HLY := hh (blk_lt hbj)
 obtain ⟨x0_0, x0_1, x0_2, x0_3, x0_4, x0_5, x0_6⟩ := cl_cells hbi
 obtain ⟨y0_0, y0_1, y0_2, y0_3, y0_4, y0_5, y0_6⟩ := cl_cells hbj
 have K0 := hh (Below.refl W.heap.size W)
 have hxW := hx.below hal; have hyW := hy.below hal
 have HA := hh (fun v (hv : Below W.heap.size W v) => eqs_w x.A1 y.A1 x.c1 y.c1 x.is y.is v (hxW.1.2.below hv) (hyW.1.2.below hv) (by have := bx.2.2.1.1; omega) (by have := by'.2.2.1.1; omega))
 have HF := hh (fun v (hv : Below W.heap.size W v) => eqf_fi x.A2 y.A2 x.c2 y.c2 x.fs y.fs v (hxW.2.1.2.below hv) (hyW.2.1.2.below hv) (by have := bx.2.2.2.1.1; omega) (by have := by'.2.2.2.1.1; omega))
 have HC := hh (fun v (hv : Below W.heap.size W v) => eqf_me x.A3 y.A3 x.c3 y.c3 x.ms y.ms v (hxW.2.2.1.2.below hv) (hyW.2.2.1.2.below hv) (by have := bx.2.2.2.2.1; omega) (by have := by'.2.2.2.2.1; omega)
  (fun a ha b hb u hu => sameM_w a b u (((hxW.2.2.2 a ha).below hv).below hu) (((hyW.2.2.2 b hb).below hv).below hu) (bx.2.2.2.2.2 a ha) (by'.2.2.2.2.2 b hb)))
 rw [pC_eq_g x y]
 obtain ⟨ba, hba⟩ : ∃ b, b = decide (x.is = y.is) := ⟨_, rfl⟩
 obtain ⟨bc, hbc⟩ : ∃ b, b = decide (x.ms.map pM = y.ms.map pM) := ⟨_, rfl⟩
 obtain ⟨bf, hbf⟩ : ∃ b, b = decide (x.fs.map pF = y.fs.map pF) := ⟨_, rfl⟩
 rw [← hbf] at HF ⊢
 rw [← hbc] at HC ⊢
 rw [← hba] at HA ⊢
 unfold clC at hW ⊢
 have HW := hh hW
 clear hal hbi hbj hW hxW hyW hx hy bx by' hbc hba hbf
 cases h0 : (x.nm == y.nm) with
 | false =>
  (try simp only [h0] at HW)
  go_enter Tryz.func26, Tryz.ntmps26
  go_wp2_with fail
  try simp only [World.size_alloc]
  rw [← HW.out]
  (try go_wp2_with fail)
  go_ret
  exact ⟨by first | rfl | (simp only [h0, bls]; done) | (simp only [h0, bls]; rfl), HAL.out.trans (K0.out.mono HAL.out.size)⟩
 | true =>
  cases h1 : (x.su == y.su) with
  | false =>
   (try simp only [h0, h1] at HW)
   go_enter Tryz.func26, Tryz.ntmps26
   go_wp2_with fail
   try simp only [World.size_alloc]
   rw [← HW.out]
   (try go_wp2_with fail)
   go_ret
   exact ⟨by first | rfl | (simp only [h0, h1, bls]; done) | (simp only [h0, h1, bls]; rfl), HAL.out.trans (K0.out.mono HAL.out.size)⟩
  | true =>
   cases h2 : (x.fc == y.fc) with
   | false =>
    (try simp only [h0, h1, h2] at HW)
    go_enter Tryz.func26, Tryz.ntmps26
    go_wp2_with fail
    try simp only [World.size_alloc]
    rw [← HW.out]
    (try go_wp2_with fail)
    go_ret
    exact ⟨by first | rfl | (simp only [h0, h1, h2, bls]; done) | (simp only [h0, h1, h2, bls]; rfl), HAL.out.trans (K0.out.mono HAL.out.size)⟩
   | true =>
    cases h3 : (x.ab == y.ab) with
    | false =>
     (try simp only [h0, h1, h2, h3] at HW)
     go_enter Tryz.func26, Tryz.ntmps26
     go_wp2_with fail
     try simp only [World.size_alloc]
     rw [← HW.out]
     (try go_wp2_with fail)
     go_ret
     exact ⟨by first | rfl | (simp only [h0, h1, h2, h3, bls]; done) | (simp only [h0, h1, h2, h3, bls]; rfl), HAL.out.trans (K0.out.mono HAL.out.size)⟩
    | true =>
     (try simp only [h0, h1, h2, h3] at HW)
     go_enter Tryz.func26, Tryz.ntmps26
     go_wp2_with fail
     try simp only [World.size_alloc]
     rw [← HW.out]
     (try go_wp2_with fail)
     refine (HA.out _ K0.out).mono ?_
     rintro e v1 ⟨rfl, hb⟩
     have K1 := hh (show Below W.heap.size W v1 from then' K0.out (by first | exact hb | (obtain ⟨q, rfl⟩ := hb; exact over (Below.refl _ _))))
     obtain ⟨x1_0, x1_1, x1_2, x1_3, x1_4, x1_5, x1_6⟩ := cl_cells ((K1.out.block _ HLX.out).trans HBX.out)
     obtain ⟨y1_0, y1_1, y1_2, y1_3, y1_4, y1_5, y1_6⟩ := cl_cells ((K1.out.block _ HLY.out).trans HBY.out)
     clear hb x0_0 x0_1 x0_2 x0_3 x0_4 x0_5 x0_6 y0_0 y0_1 y0_2 y0_3 y0_4 y0_5 y0_6
     cases h4 : ba with
     | false =>
      (try go_wp2_with fail)
      go_ret
      exact ⟨by first | rfl | (simp only [h0, h1, h2, h3, h4, bls]; done) | (simp only [h0, h1, h2, h3, h4, bls]; rfl), HAL.out.trans (K1.out.mono HAL.out.size)⟩
     | true =>
      go_wp2_with fail
      refine (HF.out _ K1.out).mono ?_
      rintro e v2 ⟨rfl, hb⟩
      have K2 := hh (show Below W.heap.size W v2 from then' K1.out (by first | exact hb | (obtain ⟨q, rfl⟩ := hb; exact over (Below.refl _ _))))
      obtain ⟨x2_0, x2_1, x2_2, x2_3, x2_4, x2_5, x2_6⟩ := cl_cells ((K2.out.block _ HLX.out).trans HBX.out)
      obtain ⟨y2_0, y2_1, y2_2, y2_3, y2_4, y2_5, y2_6⟩ := cl_cells ((K2.out.block _ HLY.out).trans HBY.out)
      clear hb x1_0 x1_1 x1_2 x1_3 x1_4 x1_5 x1_6 y1_0 y1_1 y1_2 y1_3 y1_4 y1_5 y1_6
      cases h5 : bf with
      | false =>
       (try go_wp2_with fail)
       go_ret
       exact ⟨by first | rfl | (simp only [h0, h1, h2, h3, h4, h5, bls]; done) | (simp only [h0, h1, h2, h3, h4, h5, bls]; rfl), HAL.out.trans (K2.out.mono HAL.out.size)⟩
      | true =>
       go_wp2_with fail
       refine (HC.out _ K2.out).mono ?_
       rintro e v3 ⟨rfl, hb⟩
       have K3 := hh (show Below W.heap.size W v3 from then' K2.out (by first | exact hb | (obtain ⟨q, rfl⟩ := hb; exact over (Below.refl _ _))))
       obtain ⟨x3_0, x3_1, x3_2, x3_3, x3_4, x3_5, x3_6⟩ := cl_cells ((K3.out.block _ HLX.out).trans HBX.out)
       obtain ⟨y3_0, y3_1, y3_2, y3_3, y3_4, y3_5, y3_6⟩ := cl_cells ((K3.out.block _ HLY.out).trans HBY.out)
       clear hb x2_0 x2_1 x2_2 x2_3 x2_4 x2_5 x2_6 y2_0 y2_1 y2_2 y2_3 y2_4 y2_5 y2_6
       cases h6 : bc with
       | false =>
        (try go_wp2_with fail)
        go_ret
        exact ⟨by first | rfl | (simp only [h0, h1, h2, h3, h4, h5, h6, bls]; done) | (simp only [h0, h1, h2, h3, h4, h5, h6, bls]; rfl), HAL.out.trans (K3.out.mono HAL.out.size)⟩
       | true =>
        (try go_wp2_with fail)
        go_ret
        exact ⟨by first | rfl | (simp only [h0, h1, h2, h3, h4, h5, h6, bls]; done) | (simp only [h0, h1, h2, h3, h4, h5, h6, bls]; rfl), HAL.out.trans (K3.out.mono HAL.out.size)⟩
theorem same_g (x y : PrM) (w : World) (hx : PrOk w x) (hy : PrOk w y) (bx : PrBd x) (by' : PrBd y) : Calls Tryz.prog 7 #[.agg (prC x).toArray, .agg (prC y).toArray] w fun e w' => e = .returned (.bool (decide (pP x = pP y))) ∧ Below w.heap.size w w' := by
 obtain ⟨W, hW⟩ : ∃ W, W = (w.alloc (.cells (prC x).toArray 27)).alloc (.cells (prC y).toArray 27) := ⟨_, rfl⟩
 have hal : Below w.heap.size w W := by rw [hW]; exact ((Below.refl _ w).alloc (Nat.le_refl _) _).alloc (by simp) _
 have HAL := hh hal
 have hbi : W.heap[w.heap.size]? = some (.cells (prC x).toArray 27 (0, 0)) := by rw [hW]; exact (Below.heap_alloc _ _ _ (by simp)).trans (heap_alloc_new w _)
 have hbj : W.heap[w.heap.size + 1]? = some (.cells (prC y).toArray 27 (0, 0)) := by
  rw [hW]
  have := heap_alloc_new (w.alloc (.cells (prC x).toArray 27)) (.cells (prC y).toArray 27)
  rwa [World.size_alloc] at this
 have HBX := hh hbi; have HBY := hh hbj; have HLX := hh (blk_lt hbi); have HLY := hh (blk_lt hbj)
 obtain ⟨x0_0, x0_1, x0_2, x0_3, x0_4⟩ := pr_cells hbi
 obtain ⟨y0_0, y0_1, y0_2, y0_3, y0_4⟩ := pr_cells hbj
 have K0 := hh (Below.refl W.heap.size W)
 have hxW := hx.below hal; have hyW := hy.below hal
 have HC := hh (fun v (hv : Below W.heap.size W v) => eqf_cl x.A1 y.A1 x.c1 y.c1 x.cs y.cs v (hxW.1.2.below hv) (hyW.1.2.below hv) (by have := bx.1.1; omega) (by have := by'.1.1; omega)
  (fun a ha b hb u hu => sameC_g a b u (((hxW.2.2 a ha).below hv).below hu) (((hyW.2.2 b hb).below hv).below hu) (bx.1.2 a ha) (by'.1.2 b hb)))
 have HA := hh (fun v (hv : Below W.heap.size W v) => eqs_w x.A2 y.A2 x.c2 y.c2 x.ns y.ns v (hxW.2.1.2.below hv) (hyW.2.1.2.below hv) (by have := bx.2.1.1; omega) (by have := by'.2.1.1; omega))
 rw [pP_eq_g x y]
 obtain ⟨bc, hbc⟩ : ∃ b, b = decide (x.cs.map pC = y.cs.map pC) := ⟨_, rfl⟩
 obtain ⟨ba, hba⟩ : ∃ b, b = decide (x.ns = y.ns) := ⟨_, rfl⟩
 rw [← hbc] at HC ⊢
 rw [← hba] at HA ⊢
 unfold prC at hW ⊢
 have HW := hh hW
 clear hal hbi hbj hW hxW hyW hx hy bx by' hbc hba
 go_enter Tryz.func7, Tryz.ntmps7
 go_wp2_with fail
 try simp only [World.size_alloc]
 rw [← HW.out]
 (try go_wp2_with fail)
 refine (HC.out _ K0.out).mono ?_
 rintro e v1 ⟨rfl, hb⟩
 have K1 := hh (show Below W.heap.size W v1 from then' K0.out (by first | exact hb | (obtain ⟨q, rfl⟩ := hb; exact over (Below.refl _ _))))
 obtain ⟨x1_0, x1_1, x1_2, x1_3, x1_4⟩ := pr_cells ((K1.out.block _ HLX.out).trans HBX.out)
 obtain ⟨y1_0, y1_1, y1_2, y1_3, y1_4⟩ := pr_cells ((K1.out.block _ HLY.out).trans HBY.out)
 clear hb x0_0 x0_1 x0_2 x0_3 x0_4 y0_0 y0_1 y0_2 y0_3 y0_4
 cases h0 : bc with
 | false =>
  (try go_wp2_with fail)
  go_ret
  exact ⟨by first | rfl | (simp only [h0, bls]; done) | (simp only [h0, bls]; rfl), HAL.out.trans (K1.out.mono HAL.out.size)⟩
 | true =>
  go_wp2_with fail
  refine (HA.out _ K1.out).mono ?_
  rintro e v2 ⟨rfl, hb⟩
  have K2 := hh (show Below W.heap.size W v2 from then' K1.out (by first | exact hb | (obtain ⟨q, rfl⟩ := hb; exact over (Below.refl _ _))))
  obtain ⟨x2_0, x2_1, x2_2, x2_3, x2_4⟩ := pr_cells ((K2.out.block _ HLX.out).trans HBX.out)
  obtain ⟨y2_0, y2_1, y2_2, y2_3, y2_4⟩ := pr_cells ((K2.out.block _ HLY.out).trans HBY.out)
  clear hb x1_0 x1_1 x1_2 x1_3 x1_4 y1_0 y1_1 y1_2 y1_3 y1_4
  cases h1 : ba with
  | false =>
   (try go_wp2_with fail)
   go_ret
   exact ⟨by first | rfl | (simp only [h0, h1, bls]; done) | (simp only [h0, h1, bls]; rfl), HAL.out.trans (K2.out.mono HAL.out.size)⟩
  | true =>
   have hd : ((x.ec == y.ec) = false) ∨ ((x.ec == y.ec) = true ∧ (x.en == y.en) = false) ∨ ((x.ec == y.ec) = true ∧ (x.en == y.en) = true ∧ (x.ed == y.ed) = false) ∨ ((x.ec == y.ec) = true ∧ (x.en == y.en) = true ∧ (x.ed == y.ed) = true) := by
    cases (x.ec == y.ec) <;> cases (x.en == y.en) <;> cases (x.ed == y.ed) <;> simp
   rcases hd with j1 | ⟨j1, j2⟩ | ⟨j1, j2, j3⟩ | ⟨j1, j2, j3⟩
   ·(try go_wp2_with fail)
    go_ret
    exact ⟨by first | rfl | (simp only [h0, h1, j1, bls]; done) | (simp only [h0, h1, j1, bls]; rfl), HAL.out.trans (K2.out.mono HAL.out.size)⟩
   ·(try go_wp2_with fail)
    go_ret
    exact ⟨by first | rfl | (simp only [h0, h1, j1, j2, bls]; done) | (simp only [h0, h1, j1, j2, bls]; rfl), HAL.out.trans (K2.out.mono HAL.out.size)⟩
   ·(try go_wp2_with fail)
    go_ret
    exact ⟨by first | rfl | (simp only [h0, h1, j1, j2, j3, bls]; done) | (simp only [h0, h1, j1, j2, j3, bls]; rfl), HAL.out.trans (K2.out.mono HAL.out.size)⟩
   ·(try go_wp2_with fail)
    go_ret
    exact ⟨by first | rfl | (simp only [h0, h1, j1, j2, j3, bls]; done) | (simp only [h0, h1, j1, j2, j3, bls]; rfl), HAL.out.trans (K2.out.mono HAL.out.size)⟩
end Go.Proofs.YtgociheckcpjkaaGreatDoor.prg
namespace Go.Proofs.YtgociheckcpjkaaGreatDoor.prg
open Go.RowKit
open words kindp opp op kind word
set_option maxRecDepth 100000
set_option maxHeartbeats 4000000
set_option linter.all false
theorem at_cl (x : ClM) (g : Nat) (s : Tx) (w : World) (hg : w.cell? ⟨g, 0, none⟩ = some (.string ⟨s.toArray⟩)) : Calls Tryz.prog 43 #[.agg (clC x).toArray, .pointer (some ⟨g, 0, none⟩)] w fun e w' => e = .returned (.bool (x.nm == s)) ∧ Below w.heap.size w w' := by
 obtain ⟨W, hW⟩ : ∃ W, W = w.alloc (.cells (clC x).toArray 35) := ⟨_, rfl⟩
 have hal : Below w.heap.size w W := by rw [hW]; exact (Below.refl _ w).alloc (Nat.le_refl _) _
 have HAL := hh hal
 have hblk : W.heap[w.heap.size]? = some (.cells (clC x).toArray 35 (0, 0)) := by rw [hW]; exact heap_alloc_new w _
 have HBK := hh hblk; have HLT := hh (blk_lt hblk)
 obtain ⟨x0_0, x0_1, x0_2, x0_3, x0_4, x0_5, x0_6⟩ := cl_cells hblk
 have K0 := hh (Below.refl W.heap.size W)
 have kg := (hal.cell (World.block_lt_of_cell? _ _ hg)).trans hg
 unfold clC at hW ⊢
 try dsimp only at hW ⊢
 have ke := kg
 rw [hW] at ke
 have HW := hh hW
 clear hal hblk hW
 cases h0 : (x.nm == s) with
 | false =>
  (try simp only [h0] at HW)
  go_enter Tryz.func43, Tryz.ntmps43
  go_wp2_with fail
  rw [← HW.out]
  (try go_wp2_with fail)
  go_ret
  exact ⟨by first | rfl | (simp only [h0, bls]; done) | (simp only [h0, bls]; rfl), HAL.out.trans (K0.out.mono HAL.out.size)⟩
 | true =>
  (try simp only [h0] at HW)
  go_enter Tryz.func43, Tryz.ntmps43
  go_wp2_with fail
  rw [← HW.out]
  (try go_wp2_with fail)
  go_ret
  exact ⟨by first | rfl | (simp only [h0, bls]; done) | (simp only [h0, bls]; rfl), HAL.out.trans (K0.out.mono HAL.out.size)⟩
theorem find_cl (g : Nat) (s : Tx) (A : Option Addr) (c : Nat) (l : List ClM) (w : World) (hr : Rd w A (l.flatMap clC)) (hl : l.length ≤ 281474976710656) (hg : w.cell? ⟨g, 0, none⟩ = some (.string ⟨s.toArray⟩)) :
  Calls Tryz.prog 42 #[.slice A l.length c, .func (.func 43) #[] #[.pointer (some ⟨g, 0, none⟩)]] w fun e w' => ∃ r, e = .returned (.int .i64 r) ∧ Idx (fun x : ClM => (x.nm == s)) l r ∧ Below w.heap.size w w' := by
 obtain ⟨n, hn⟩ : ∃ n, n = l.length := ⟨_, rfl⟩
 rw [← hn] at hl ⊢
 have hnI : (n : Int) ≤ 281474976710656 := by omega
 have HN := hh hn; have HRD := hh hr
 have HGG := hh hg
 clear hr hn hl
 go_enter Tryz.func42, Tryz.ntmps42
 go_wp2
 go_loopw [8] (fun i wr => ∃ k : Nat, i = .int .i64 (k : Int) ∧ k ≤ n ∧ (∀ t ∈ l.take k, (fun x : ClM => (x.nm == s)) t = false) ∧ Below w.heap.size w wr) (fun i _ => n - (intOf i).toNat)
 case atStart => exact ⟨0, rfl, Nat.zero_le _, by simp, Below.refl _ _⟩
 case round =>
  obtain ⟨k, rfl, hk, hall, hbw⟩ := hrel
  have HA := hh hall; have HB := hh hbw
  clear hall
  by_cases hlt : k < n
  ·have hltI : (k : Int) < (n : Int) := by omega
   obtain ⟨x, hx⟩ : ∃ x, l[k]? = some x := ⟨l[k]'(by rw [← HN.out]; exact hlt), List.getElem?_eq_getElem _⟩
   obtain ⟨a, rfl, ha, c0, c1, c2, c3, c4, c5, c6⟩ := cl_at (HRD.out.below hbw) hx
   have hgw := (hbw.cell (World.block_lt_of_cell? _ _ HGG.out)).trans HGG.out
   have HW := hh (at_cl x g s wr hgw)
   have HX := hh hx
   have hmt := take_more (P := (fun x : ClM => (x.nm == s))) HA.out hx
   dsimp only [clC] at HW
   cases hwr : (x.nm == s) with
   | true =>
    rw [hwr] at HW
    have HI := hh (show Idx (fun x : ClM => (x.nm == s)) l (k : Int) from .inr ⟨k, _, rfl, hx, hwr, HA.out⟩)
    clear hx hmt hwr hbw ha hgw
    go_wp2_with fail
    refine HW.out.mono ?_
    rintro e w1 ⟨rfl, hb1⟩
    have HB1 := hh (HB.out.trans (hb1.mono HB.out.size))
    clear hb1
    go_wp2
    go_ret
    exact ⟨_, rfl, HI.out, HB1.out⟩
   | false =>
    rw [hwr] at HW
    have HM := hh (hmt hwr)
    clear hx hmt hwr hbw ha hgw
    go_wp2_with fail
    refine HW.out.mono ?_
    rintro e w1 ⟨rfl, hb1⟩
    have HB1 := hh (HB.out.trans (hb1.mono HB.out.size))
    clear hb1
    go_wp2
    go_roundw
    case rel => exact ⟨k + 1, by go_num, by omega, HM.out, HB1.out⟩
    case measure => simp [intOf]; omega
  ·have hltI : ¬ (k : Int) < (n : Int) := by omega
   have hall := HA.out
   rw [List.take_of_length_le (by rw [← HN.out]; omega)] at hall
   have HI := hh (show Idx (fun x : ClM => (x.nm == s)) l (-1) from .inl ⟨rfl, hall⟩)
   clear hall hbw
   go_wp2
   go_ret
   exact ⟨_, rfl, HI.out, HB.out⟩
theorem at_me (x : MeM) (g h : Nat) (s d : Tx) (w : World) (hg : w.cell? ⟨g, 0, none⟩ = some (.string ⟨s.toArray⟩)) (hg9 : w.cell? ⟨h, 0, none⟩ = some (.string ⟨d.toArray⟩)) : Calls Tryz.prog 45 #[.agg (meC x).toArray, .pointer (some ⟨g, 0, none⟩), .pointer (some ⟨h, 0, none⟩)] w fun e w' => e = .returned (.bool ((x.nm == s) && (x.ds == d))) ∧ Below w.heap.size w w' := by
 obtain ⟨W, hW⟩ : ∃ W, W = w.alloc (.cells (meC x).toArray 38) := ⟨_, rfl⟩
 have hal : Below w.heap.size w W := by rw [hW]; exact (Below.refl _ w).alloc (Nat.le_refl _) _
 have HAL := hh hal
 have hblk : W.heap[w.heap.size]? = some (.cells (meC x).toArray 38 (0, 0)) := by rw [hW]; exact heap_alloc_new w _
 have HBK := hh hblk; have HLT := hh (blk_lt hblk)
 obtain ⟨x0_0, x0_1, x0_2, x0_3, x0_4, x0_5⟩ := me_cells hblk
 have K0 := hh (Below.refl W.heap.size W)
 have kg := (hal.cell (World.block_lt_of_cell? _ _ hg)).trans hg
 have kh := (hal.cell (World.block_lt_of_cell? _ _ hg9)).trans hg9
 unfold meC at hW ⊢
 try dsimp only at hW ⊢
 have ke := kg
 rw [hW] at ke
 have kf := kh
 rw [hW] at kf
 have HW := hh hW
 clear hal hblk hW
 cases h0 : (x.nm == s) with
 | false =>
  (try simp only [h0] at HW)
  go_enter Tryz.func45, Tryz.ntmps45
  go_wp2_with fail
  rw [← HW.out]
  (try go_wp2_with fail)
  go_ret
  exact ⟨by first | rfl | (simp only [h0, bls]; done) | (simp only [h0, bls]; rfl), HAL.out.trans (K0.out.mono HAL.out.size)⟩
 | true =>
  cases h1 : (x.ds == d) with
  | false =>
   (try simp only [h0, h1] at HW)
   go_enter Tryz.func45, Tryz.ntmps45
   go_wp2_with fail
   rw [← HW.out]
   (try go_wp2_with fail)
   go_ret
   exact ⟨by first | rfl | (simp only [h0, h1, bls]; done) | (simp only [h0, h1, bls]; rfl), HAL.out.trans (K0.out.mono HAL.out.size)⟩
  | true =>
   (try simp only [h0, h1] at HW)
   go_enter Tryz.func45, Tryz.ntmps45
   go_wp2_with fail
   rw [← HW.out]
   (try go_wp2_with fail)
   go_ret
   exact ⟨by first | rfl | (simp only [h0, h1, bls]; done) | (simp only [h0, h1, bls]; rfl), HAL.out.trans (K0.out.mono HAL.out.size)⟩
theorem find_me (g h : Nat) (s d : Tx) (A : Option Addr) (c : Nat) (l : List MeM) (w : World) (hr : Rd w A (l.flatMap meC)) (hl : l.length ≤ 281474976710656) (hg : w.cell? ⟨g, 0, none⟩ = some (.string ⟨s.toArray⟩)) (hg9 : w.cell? ⟨h, 0, none⟩ = some (.string ⟨d.toArray⟩)) :
  Calls Tryz.prog 44 #[.slice A l.length c, .func (.func 45) #[] #[.pointer (some ⟨g, 0, none⟩), .pointer (some ⟨h, 0, none⟩)]] w fun e w' => ∃ r, e = .returned (.int .i64 r) ∧ Idx (fun x : MeM => ((x.nm == s) && (x.ds == d))) l r ∧ Below w.heap.size w w' := by
 obtain ⟨n, hn⟩ : ∃ n, n = l.length := ⟨_, rfl⟩
 rw [← hn] at hl ⊢
 have hnI : (n : Int) ≤ 281474976710656 := by omega
 have HN := hh hn; have HRD := hh hr
 have HGG := hh hg; have HHH := hh hg9
 clear hr hn hl
 go_enter Tryz.func44, Tryz.ntmps44
 go_wp2
 go_loopw [8] (fun i wr => ∃ k : Nat, i = .int .i64 (k : Int) ∧ k ≤ n ∧ (∀ t ∈ l.take k, (fun x : MeM => ((x.nm == s) && (x.ds == d))) t = false) ∧ Below w.heap.size w wr) (fun i _ => n - (intOf i).toNat)
 case atStart => exact ⟨0, rfl, Nat.zero_le _, by simp, Below.refl _ _⟩
 case round =>
  obtain ⟨k, rfl, hk, hall, hbw⟩ := hrel
  have HA := hh hall; have HB := hh hbw
  clear hall
  by_cases hlt : k < n
  ·have hltI : (k : Int) < (n : Int) := by omega
   obtain ⟨x, hx⟩ : ∃ x, l[k]? = some x := ⟨l[k]'(by rw [← HN.out]; exact hlt), List.getElem?_eq_getElem _⟩
   obtain ⟨a, rfl, ha, c0, c1, c2, c3, c4, c5⟩ := me_at (HRD.out.below hbw) hx
   have hgw := (hbw.cell (World.block_lt_of_cell? _ _ HGG.out)).trans HGG.out
   have hhw := (hbw.cell (World.block_lt_of_cell? _ _ HHH.out)).trans HHH.out
   have HW := hh (at_me x g h s d wr hgw hhw)
   have HX := hh hx
   have hmt := take_more (P := (fun x : MeM => ((x.nm == s) && (x.ds == d)))) HA.out hx
   dsimp only [meC] at HW
   cases hwr : ((x.nm == s) && (x.ds == d)) with
   | true =>
    rw [hwr] at HW
    have HI := hh (show Idx (fun x : MeM => ((x.nm == s) && (x.ds == d))) l (k : Int) from .inr ⟨k, _, rfl, hx, hwr, HA.out⟩)
    clear hx hmt hwr hbw ha hgw
    go_wp2_with fail
    refine HW.out.mono ?_
    rintro e w1 ⟨rfl, hb1⟩
    have HB1 := hh (HB.out.trans (hb1.mono HB.out.size))
    clear hb1
    go_wp2
    go_ret
    exact ⟨_, rfl, HI.out, HB1.out⟩
   | false =>
    rw [hwr] at HW
    have HM := hh (hmt hwr)
    clear hx hmt hwr hbw ha hgw
    go_wp2_with fail
    refine HW.out.mono ?_
    rintro e w1 ⟨rfl, hb1⟩
    have HB1 := hh (HB.out.trans (hb1.mono HB.out.size))
    clear hb1
    go_wp2
    go_roundw
    case rel => exact ⟨k + 1, by go_num, by omega, HM.out, HB1.out⟩
    case measure => simp [intOf]; omega
  ·have hltI : ¬ (k : Int) < (n : Int) := by omega
   have hall := HA.out
   rw [List.take_of_length_le (by rw [← HN.out]; omega)] at hall
   have HI := hh (show Idx (fun x : MeM => ((x.nm == s) && (x.ds == d))) l (-1) from .inl ⟨rfl, hall⟩)
   clear hall hbw
   go_wp2
   go_ret
   exact ⟨_, rfl, HI.out, HB.out⟩
theorem at_fi (x : FiM) (g : Nat) (s : Tx) (w : World) (hg : w.cell? ⟨g, 0, none⟩ = some (.string ⟨s.toArray⟩)) : Calls Tryz.prog 47 #[.agg (fiC x).toArray, .pointer (some ⟨g, 0, none⟩)] w fun e w' => e = .returned (.bool (x.nm == s)) ∧ Below w.heap.size w w' := by
 obtain ⟨W, hW⟩ : ∃ W, W = w.alloc (.cells (fiC x).toArray 58) := ⟨_, rfl⟩
 have hal : Below w.heap.size w W := by rw [hW]; exact (Below.refl _ w).alloc (Nat.le_refl _) _
 have HAL := hh hal
 have hblk : W.heap[w.heap.size]? = some (.cells (fiC x).toArray 58 (0, 0)) := by rw [hW]; exact heap_alloc_new w _
 have HBK := hh hblk; have HLT := hh (blk_lt hblk)
 obtain ⟨x0_0, x0_1, x0_2, x0_3⟩ := fi_cells hblk
 have K0 := hh (Below.refl W.heap.size W)
 have kg := (hal.cell (World.block_lt_of_cell? _ _ hg)).trans hg
 unfold fiC at hW ⊢
 try dsimp only at hW ⊢
 have ke := kg
 rw [hW] at ke
 have HW := hh hW
 clear hal hblk hW
 cases h0 : (x.nm == s) with
 | false =>
  (try simp only [h0] at HW)
  go_enter Tryz.func47, Tryz.ntmps47
  go_wp2_with fail
  rw [← HW.out]
  (try go_wp2_with fail)
  go_ret
  exact ⟨by first | rfl | (simp only [h0, bls]; done) | (simp only [h0, bls]; rfl), HAL.out.trans (K0.out.mono HAL.out.size)⟩
 | true =>
  (try simp only [h0] at HW)
  go_enter Tryz.func47, Tryz.ntmps47
  go_wp2_with fail
  rw [← HW.out]
  (try go_wp2_with fail)
  go_ret
  exact ⟨by first | rfl | (simp only [h0, bls]; done) | (simp only [h0, bls]; rfl), HAL.out.trans (K0.out.mono HAL.out.size)⟩
theorem find_fi (g : Nat) (s : Tx) (A : Option Addr) (c : Nat) (l : List FiM) (w : World) (hr : Rd w A (l.flatMap fiC)) (hl : l.length ≤ 281474976710656) (hg : w.cell? ⟨g, 0, none⟩ = some (.string ⟨s.toArray⟩)) :
  Calls Tryz.prog 46 #[.slice A l.length c, .func (.func 47) #[] #[.pointer (some ⟨g, 0, none⟩)]] w fun e w' => ∃ r, e = .returned (.int .i64 r) ∧ Idx (fun x : FiM => (x.nm == s)) l r ∧ Below w.heap.size w w' := by
 obtain ⟨n, hn⟩ : ∃ n, n = l.length := ⟨_, rfl⟩
 rw [← hn] at hl ⊢
 have hnI : (n : Int) ≤ 281474976710656 := by omega
 have HN := hh hn; have HRD := hh hr
 have HGG := hh hg
 clear hr hn hl
 go_enter Tryz.func46, Tryz.ntmps46
 go_wp2
 go_loopw [8] (fun i wr => ∃ k : Nat, i = .int .i64 (k : Int) ∧ k ≤ n ∧ (∀ t ∈ l.take k, (fun x : FiM => (x.nm == s)) t = false) ∧ Below w.heap.size w wr) (fun i _ => n - (intOf i).toNat)
 case atStart => exact ⟨0, rfl, Nat.zero_le _, by simp, Below.refl _ _⟩
 case round =>
  obtain ⟨k, rfl, hk, hall, hbw⟩ := hrel
  have HA := hh hall; have HB := hh hbw
  clear hall
  by_cases hlt : k < n
  ·have hltI : (k : Int) < (n : Int) := by omega
   obtain ⟨x, hx⟩ : ∃ x, l[k]? = some x := ⟨l[k]'(by rw [← HN.out]; exact hlt), List.getElem?_eq_getElem _⟩
   obtain ⟨a, rfl, ha, c0, c1, c2, c3⟩ := fi_at (HRD.out.below hbw) hx
   have hgw := (hbw.cell (World.block_lt_of_cell? _ _ HGG.out)).trans HGG.out
   have HW := hh (at_fi x g s wr hgw)
   have HX := hh hx
   have hmt := take_more (P := (fun x : FiM => (x.nm == s))) HA.out hx
   dsimp only [fiC] at HW
   cases hwr : (x.nm == s) with
   | true =>
    rw [hwr] at HW
    have HI := hh (show Idx (fun x : FiM => (x.nm == s)) l (k : Int) from .inr ⟨k, _, rfl, hx, hwr, HA.out⟩)
    clear hx hmt hwr hbw ha hgw
    go_wp2_with fail
    refine HW.out.mono ?_
    rintro e w1 ⟨rfl, hb1⟩
    have HB1 := hh (HB.out.trans (hb1.mono HB.out.size))
    clear hb1
    go_wp2
    go_ret
    exact ⟨_, rfl, HI.out, HB1.out⟩
   | false =>
    rw [hwr] at HW
    have HM := hh (hmt hwr)
    clear hx hmt hwr hbw ha hgw
    go_wp2_with fail
    refine HW.out.mono ?_
    rintro e w1 ⟨rfl, hb1⟩
    have HB1 := hh (HB.out.trans (hb1.mono HB.out.size))
    clear hb1
    go_wp2
    go_roundw
    case rel => exact ⟨k + 1, by go_num, by omega, HM.out, HB1.out⟩
    case measure => simp [intOf]; omega
  ·have hltI : ¬ (k : Int) < (n : Int) := by omega
   have hall := HA.out
   rw [List.take_of_length_le (by rw [← HN.out]; omega)] at hall
   have HI := hh (show Idx (fun x : FiM => (x.nm == s)) l (-1) from .inl ⟨rfl, hall⟩)
   clear hall hbw
   go_wp2
   go_ret
   exact ⟨_, rfl, HI.out, HB.out⟩
theorem place_cl (x : PrM) (s : Tx) (w : World) (hr : Rd w x.A1 (x.cs.flatMap clC)) (hl : x.cs.length ≤ 281474976710656) : Calls Tryz.prog 13 #[.agg (prC x).toArray, .string ⟨s.toArray⟩] w fun e w' => ∃ r, e = .returned (.int .i64 r) ∧ Idx (fun y : ClM => (y.nm == s)) x.cs r ∧ Below w.heap.size w w' := by
 have hmf : ∀ (fn : Fn) (first cap : Array Value) (w : World), (Instr.makeFunc fn first cap).run Tryz.prog w = .ok (.func fn first cap) w := fun _ _ _ _ => rfl
 obtain ⟨W, hW⟩ : ∃ W, W = ((w.alloc (.cells (prC x).toArray 27)).alloc (.cells #[.string ⟨s.toArray⟩] 9)) := ⟨_, rfl⟩
 have hal : Below w.heap.size w W := by rw [hW]; exact (((Below.refl _ w).alloc (Nat.le_refl _) (.cells (prC x).toArray 27)).alloc (by simp; try omega) (.cells #[.string ⟨s.toArray⟩] 9))
 have HAL := hh hal
 have hblk : W.heap[w.heap.size]? = some (.cells (prC x).toArray 27 (0, 0)) := by rw [hW]; exact (Below.heap_alloc _ _ _ (by simp; try omega)).trans (heap_alloc_new w _)
 have hg : W.cell? ⟨w.heap.size + 1, 0, none⟩ = some (.string ⟨s.toArray⟩) := by
  have h := heap_alloc_new (w.alloc (.cells (prC x).toArray 27)) (.cells #[.string ⟨s.toArray⟩] 9)
  rw [World.size_alloc] at h
  have h2 : W.heap[w.heap.size + 1]? = some (.cells #[.string ⟨s.toArray⟩] 9 (0, 0)) := by rw [hW]; exact h
  exact cell_of_row _ _ 0 _ _ _ h2
 obtain ⟨x0_0, x0_1, x0_2, x0_3, x0_4⟩ := pr_cells hblk
 have HF := hh (find_cl (w.heap.size + 1) s x.A1 x.c1 x.cs W (hr.below hal) hl hg)
 unfold prC at hW ⊢
 try dsimp only at hW ⊢
 have HW := hh hW
 clear hal hblk hW hr hl hg
 go_enter Tryz.func13, Tryz.ntmps13
 go_wp2_with fail
 try simp only [World.size_alloc, Nat.add_assoc, Nat.reduceAdd]
 rw [← HW.out]
 (try go_wp2_with fail)
 refine HF.out.mono ?_
 rintro e v ⟨r, rfl, hi, hb⟩
 have HI := hh hi; have HB := hh hb
 clear hi hb
 (try go_wp2_with fail)
 go_ret
 exact ⟨r, rfl, HI.out, HAL.out.trans (HB.out.mono HAL.out.size)⟩
theorem place_me (x : ClM) (s d : Tx) (w : World) (hr : Rd w x.A3 (x.ms.flatMap meC)) (hl : x.ms.length ≤ 281474976710656) : Calls Tryz.prog 14 #[.agg (clC x).toArray, .string ⟨s.toArray⟩, .string ⟨d.toArray⟩] w fun e w' => ∃ r, e = .returned (.int .i64 r) ∧ Idx (fun y : MeM => ((y.nm == s) && (y.ds == d))) x.ms r ∧ Below w.heap.size w w' := by
 have hmf : ∀ (fn : Fn) (first cap : Array Value) (w : World), (Instr.makeFunc fn first cap).run Tryz.prog w = .ok (.func fn first cap) w := fun _ _ _ _ => rfl
 obtain ⟨W, hW⟩ : ∃ W, W = (((w.alloc (.cells (clC x).toArray 35)).alloc (.cells #[.string ⟨s.toArray⟩] 9)).alloc (.cells #[.string ⟨d.toArray⟩] 9)) := ⟨_, rfl⟩
 have hal : Below w.heap.size w W := by rw [hW]; exact ((((Below.refl _ w).alloc (Nat.le_refl _) (.cells (clC x).toArray 35)).alloc (by simp; try omega) (.cells #[.string ⟨s.toArray⟩] 9)).alloc (by simp; try omega) (.cells #[.string ⟨d.toArray⟩] 9))
 have HAL := hh hal
 have hblk : W.heap[w.heap.size]? = some (.cells (clC x).toArray 35 (0, 0)) := by rw [hW]; exact (Below.heap_alloc _ _ _ (by simp; try omega)).trans ((Below.heap_alloc _ _ _ (by simp; try omega)).trans (heap_alloc_new w _))
 have hg : W.cell? ⟨w.heap.size + 1, 0, none⟩ = some (.string ⟨s.toArray⟩) := by
  have h := heap_alloc_new (w.alloc (.cells (clC x).toArray 35)) (.cells #[.string ⟨s.toArray⟩] 9)
  rw [World.size_alloc] at h
  have h2 : W.heap[w.heap.size + 1]? = some (.cells #[.string ⟨s.toArray⟩] 9 (0, 0)) := by rw [hW]; exact (Below.heap_alloc _ _ _ (by simp)).trans h
  exact cell_of_row _ _ 0 _ _ _ h2
 have hg9 : W.cell? ⟨w.heap.size + 2, 0, none⟩ = some (.string ⟨d.toArray⟩) := by
  have h := heap_alloc_new ((w.alloc (.cells (clC x).toArray 35)).alloc (.cells #[.string ⟨s.toArray⟩] 9)) (.cells #[.string ⟨d.toArray⟩] 9)
  rw [World.size_alloc, World.size_alloc] at h
  have h2 : W.heap[w.heap.size + 2]? = some (.cells #[.string ⟨d.toArray⟩] 9 (0, 0)) := by rw [hW]; exact h
  exact cell_of_row _ _ 0 _ _ _ h2
 obtain ⟨x0_0, x0_1, x0_2, x0_3, x0_4, x0_5, x0_6⟩ := cl_cells hblk
 have HF := hh (find_me (w.heap.size + 1) (w.heap.size + 2) s d x.A3 x.c3 x.ms W (hr.below hal) hl hg hg9)
 unfold clC at hW ⊢
 try dsimp only at hW ⊢
 have HW := hh hW
 clear hal hblk hW hr hl hg hg9
 go_enter Tryz.func14, Tryz.ntmps14
 go_wp2_with fail
 try simp only [World.size_alloc, Nat.add_assoc, Nat.reduceAdd]
 rw [← HW.out]
 (try go_wp2_with fail)
 refine HF.out.mono ?_
 rintro e v ⟨r, rfl, hi, hb⟩
 have HI := hh hi; have HB := hh hb
 clear hi hb
 (try go_wp2_with fail)
 go_ret
 exact ⟨r, rfl, HI.out, HAL.out.trans (HB.out.mono HAL.out.size)⟩
theorem place_fi (x : ClM) (s : Tx) (w : World) (hr : Rd w x.A2 (x.fs.flatMap fiC)) (hl : x.fs.length ≤ 281474976710656) : Calls Tryz.prog 15 #[.agg (clC x).toArray, .string ⟨s.toArray⟩] w fun e w' => ∃ r, e = .returned (.int .i64 r) ∧ Idx (fun y : FiM => (y.nm == s)) x.fs r ∧ Below w.heap.size w w' := by
 have hmf : ∀ (fn : Fn) (first cap : Array Value) (w : World), (Instr.makeFunc fn first cap).run Tryz.prog w = .ok (.func fn first cap) w := fun _ _ _ _ => rfl
 obtain ⟨W, hW⟩ : ∃ W, W = ((w.alloc (.cells (clC x).toArray 35)).alloc (.cells #[.string ⟨s.toArray⟩] 9)) := ⟨_, rfl⟩
 have hal : Below w.heap.size w W := by rw [hW]; exact (((Below.refl _ w).alloc (Nat.le_refl _) (.cells (clC x).toArray 35)).alloc (by simp; try omega) (.cells #[.string ⟨s.toArray⟩] 9))
 have HAL := hh hal
 have hblk : W.heap[w.heap.size]? = some (.cells (clC x).toArray 35 (0, 0)) := by rw [hW]; exact (Below.heap_alloc _ _ _ (by simp; try omega)).trans (heap_alloc_new w _)
 have hg : W.cell? ⟨w.heap.size + 1, 0, none⟩ = some (.string ⟨s.toArray⟩) := by
  have h := heap_alloc_new (w.alloc (.cells (clC x).toArray 35)) (.cells #[.string ⟨s.toArray⟩] 9)
  rw [World.size_alloc] at h
  have h2 : W.heap[w.heap.size + 1]? = some (.cells #[.string ⟨s.toArray⟩] 9 (0, 0)) := by rw [hW]; exact h
  exact cell_of_row _ _ 0 _ _ _ h2
 obtain ⟨x0_0, x0_1, x0_2, x0_3, x0_4, x0_5, x0_6⟩ := cl_cells hblk
 have HF := hh (find_fi (w.heap.size + 1) s x.A2 x.c2 x.fs W (hr.below hal) hl hg)
 unfold clC at hW ⊢
 try dsimp only at hW ⊢
 have HW := hh hW
 clear hal hblk hW hr hl hg
 go_enter Tryz.func15, Tryz.ntmps15
 go_wp2_with fail
 try simp only [World.size_alloc, Nat.add_assoc, Nat.reduceAdd]
 rw [← HW.out]
 (try go_wp2_with fail)
 refine HF.out.mono ?_
 rintro e v ⟨r, rfl, hi, hb⟩
 have HI := hh hi; have HB := hh hb
 clear hi hb
 (try go_wp2_with fail)
 go_ret
 exact ⟨r, rfl, HI.out, HAL.out.trans (HB.out.mono HAL.out.size)⟩
end Go.Proofs.YtgociheckcpjkaaGreatDoor.prg

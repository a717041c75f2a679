/- NormRf -/
import Derived.Test.YtdifmgeicnndfaaFind
namespace Go.Proofs.Ytdifmgeicnndfaa.prg
open Go.RowKit
open words kindp opp op kind word
set_option maxRecDepth 100000
set_option maxHeartbeats 16000000
set_option linter.all false
theorem cls_rw (c : Tx) (w : World) (hc : c.length ≤ 281474976710656) : Calls Try.prog 120 #[.string ⟨c.toArray⟩] w fun e w' => e = .returned (.bool (clsB c)) ∧ Below w.heap.size w w' :=
 (kind.cls_rr c w hc).mono fun e w' ⟨h1, h2⟩ => ⟨h1, by subst h2; exact Below.refl _ _⟩
theorem name_rw (c : Tx) (w : World) (hc : c.length ≤ 281474976710656) : Calls Try.prog 121 #[.string ⟨c.toArray⟩] w fun e w' => e = .returned (.bool (nmL c)) ∧ Below w.heap.size w w' := by
 have h := word.name_r ⟨c.toArray⟩ w (by rw [mk_len]; exact hc)
 exact h.mono fun e w' ⟨h1, h2⟩ => ⟨h1, by subst h2; exact Below.refl _ _⟩
theorem mr_cells {w : World} {b : Nat} {t fz} {x y z : Tx} (h : w.heap[b]? = some (.cells [.string ⟨x.toArray⟩, .string ⟨y.toArray⟩, .string ⟨z.toArray⟩].toArray t fz)) : w.cell? ⟨b, 0, none⟩ = some (.string ⟨x.toArray⟩) ∧ w.cell? ⟨b, 1, none⟩ = some (.string ⟨y.toArray⟩) ∧ w.cell? ⟨b, 2, none⟩ = some (.string ⟨z.toArray⟩) :=
 ⟨cell_of_row _ _ 0 _ _ _ h, cell_of_row _ _ 1 _ _ _ h, cell_of_row _ _ 2 _ _ _ h⟩
theorem entry_r (a b c : Tx) (w : World) (ha : a.length ≤ 281474976710656) (hb : b.length ≤ 281474976710656) : Calls Try.prog 84 #[.agg #[.string ⟨a.toArray⟩, .string ⟨b.toArray⟩, .string ⟨c.toArray⟩]] w fun e w' => e = .returned (.bool (entryT a b c)) ∧ Below w.heap.size w w' := by
 obtain ⟨W, hW⟩ : ∃ W, W = w.alloc (.cells [.string ⟨a.toArray⟩, .string ⟨b.toArray⟩, .string ⟨c.toArray⟩].toArray 25) := ⟨_, rfl⟩
 have hal : Below w.heap.size w W := by rw [hW]; exact (Below.refl _ w).alloc (Nat.le_refl _) _
 have HAL := zh hal
 have hblk : W.heap[w.heap.size]? = some (.cells [.string ⟨a.toArray⟩, .string ⟨b.toArray⟩, .string ⟨c.toArray⟩].toArray 25 (0, 0)) := by rw [hW]; exact heap_alloc_new w _
 have HBK := zh hblk; have HLT := zh (blk_lt hblk)
 obtain ⟨x0_0, x0_1, x0_2⟩ := mr_cells hblk
 have K0 := zh (Below.refl W.heap.size W)
 have H1 := zh (fun w => cls_rw a w ha)
 have H2 := zh (fun w => name_rw b w hb)
 unfold entryT memberB initT
 generalize clsB a = b1 at *
 generalize nmL b = b2 at *
 try dsimp only at hW ⊢
 have HW := zh hW
 clear hal hblk hW ha hb
 cases h0 : (a == []) with
 | false =>
  have ga := e_empty h0
  (try simp only [h0] at HW)
  go_enter Try.func84, Try.ntmps84
  go_wp2_with fail
  rw [← HW.out]
  (try go_wp2_with fail)
  refine (H1.out _).mono ?_
  rintro e v1 ⟨rfl, hb⟩
  have K1 := zh (show Below W.heap.size W v1 from then' K0.out hb)
  obtain ⟨x1_0, x1_1, x1_2⟩ := mr_cells ((K1.out.block _ HLT.out).trans HBK.out)
  clear hb x0_0 x0_1 x0_2
  cases h1 : b1 with
  | false =>
   (try go_wp2_with fail)
   go_ret
   exact ⟨by first | rfl | (simp only [h0, h1, bls]; done) | (simp only [h0, h1, bls]; rfl), HAL.out.trans (K1.out.mono HAL.out.size)⟩
  | true =>
   go_wp2_with fail
   refine (H2.out _).mono ?_
   rintro e v2 ⟨rfl, hb⟩
   have K2 := zh (show Below W.heap.size W v2 from then' K1.out hb)
   obtain ⟨x2_0, x2_1, x2_2⟩ := mr_cells ((K2.out.block _ HLT.out).trans HBK.out)
   clear hb x1_0 x1_1 x1_2
   cases h2 : b2 with
   | false =>
    (try go_wp2_with fail)
    go_ret
    exact ⟨by first | rfl | (simp only [h0, h1, h2, bls]; done) | (simp only [h0, h1, h2, bls]; rfl), HAL.out.trans (K2.out.mono HAL.out.size)⟩
   | true =>
    cases h3 : (b == [60, 99, 108, 105, 110, 105, 116, 62]) with
    | false =>
     have gi := ne_of h3
     cases h4 : (c == [40, 41, 73]) with
     | false =>
      cases h5 : (c == [40, 41, 86]) with
      | false =>
       (try go_wp2_with fail)
       go_ret
       exact ⟨by first | rfl | (simp only [h0, h1, h2, h3, h4, h5, bls]; done) | (simp only [h0, h1, h2, h3, h4, h5, bls]; rfl), HAL.out.trans (K2.out.mono HAL.out.size)⟩
      | true =>
       (try go_wp2_with fail)
       go_ret
       exact ⟨by first | rfl | (simp only [h0, h1, h2, h3, h4, h5, bls]; done) | (simp only [h0, h1, h2, h3, h4, h5, bls]; rfl), HAL.out.trans (K2.out.mono HAL.out.size)⟩
     | true =>
      (try go_wp2_with fail)
      go_ret
      exact ⟨by first | rfl | (simp only [h0, h1, h2, h3, h4, bls]; done) | (simp only [h0, h1, h2, h3, h4, bls]; rfl), HAL.out.trans (K2.out.mono HAL.out.size)⟩
    | true =>
     have gi := ne_of h3
     (try go_wp2_with fail)
     go_ret
     exact ⟨by first | rfl | (simp only [h0, h1, h2, h3, bls]; done) | (simp only [h0, h1, h2, h3, bls]; rfl), HAL.out.trans (K2.out.mono HAL.out.size)⟩
 | true =>
  have ga := e_empty h0
  cases h1 : (b == []) with
  | false =>
   have gb := e_empty h1
   (try simp only [h0, h1] at HW)
   go_enter Try.func84, Try.ntmps84
   go_wp2_with fail
   rw [← HW.out]
   (try go_wp2_with fail)
   refine (H1.out _).mono ?_
   rintro e v1 ⟨rfl, hb⟩
   have K1 := zh (show Below W.heap.size W v1 from then' K0.out hb)
   obtain ⟨x1_0, x1_1, x1_2⟩ := mr_cells ((K1.out.block _ HLT.out).trans HBK.out)
   clear hb x0_0 x0_1 x0_2
   cases h2 : b1 with
   | false =>
    (try go_wp2_with fail)
    go_ret
    exact ⟨by first | rfl | (simp only [h0, h1, h2, bls]; done) | (simp only [h0, h1, h2, bls]; rfl), HAL.out.trans (K1.out.mono HAL.out.size)⟩
   | true =>
    go_wp2_with fail
    refine (H2.out _).mono ?_
    rintro e v2 ⟨rfl, hb⟩
    have K2 := zh (show Below W.heap.size W v2 from then' K1.out hb)
    obtain ⟨x2_0, x2_1, x2_2⟩ := mr_cells ((K2.out.block _ HLT.out).trans HBK.out)
    clear hb x1_0 x1_1 x1_2
    cases h3 : b2 with
    | false =>
     (try go_wp2_with fail)
     go_ret
     exact ⟨by first | rfl | (simp only [h0, h1, h2, h3, bls]; done) | (simp only [h0, h1, h2, h3, bls]; rfl), HAL.out.trans (K2.out.mono HAL.out.size)⟩
    | true =>
     cases h4 : (b == [60, 99, 108, 105, 110, 105, 116, 62]) with
     | false =>
      have gi := ne_of h4
      cases h5 : (c == [40, 41, 73]) with
      | false =>
       cases h6 : (c == [40, 41, 86]) with
       | false =>
        (try go_wp2_with fail)
        go_ret
        exact ⟨by first | rfl | (simp only [h0, h1, h2, h3, h4, h5, h6, bls]; done) | (simp only [h0, h1, h2, h3, h4, h5, h6, bls]; rfl), HAL.out.trans (K2.out.mono HAL.out.size)⟩
       | true =>
        (try go_wp2_with fail)
        go_ret
        exact ⟨by first | rfl | (simp only [h0, h1, h2, h3, h4, h5, h6, bls]; done) | (simp only [h0, h1, h2, h3, h4, h5, h6, bls]; rfl), HAL.out.trans (K2.out.mono HAL.out.size)⟩
      | true =>
       (try go_wp2_with fail)
       go_ret
       exact ⟨by first | rfl | (simp only [h0, h1, h2, h3, h4, h5, bls]; done) | (simp only [h0, h1, h2, h3, h4, h5, bls]; rfl), HAL.out.trans (K2.out.mono HAL.out.size)⟩
     | true =>
      have gi := ne_of h4
      (try go_wp2_with fail)
      go_ret
      exact ⟨by first | rfl | (simp only [h0, h1, h2, h3, h4, bls]; done) | (simp only [h0, h1, h2, h3, h4, bls]; rfl), HAL.out.trans (K2.out.mono HAL.out.size)⟩
  | true =>
   have gb := e_empty h1
   cases h2 : (c == []) with
   | false =>
    have gc := e_empty h2
    (try simp only [h0, h1, h2] at HW)
    go_enter Try.func84, Try.ntmps84
    go_wp2_with fail
    rw [← HW.out]
    (try go_wp2_with fail)
    refine (H1.out _).mono ?_
    rintro e v1 ⟨rfl, hb⟩
    have K1 := zh (show Below W.heap.size W v1 from then' K0.out hb)
    obtain ⟨x1_0, x1_1, x1_2⟩ := mr_cells ((K1.out.block _ HLT.out).trans HBK.out)
    clear hb x0_0 x0_1 x0_2
    cases h3 : b1 with
    | false =>
     (try go_wp2_with fail)
     go_ret
     exact ⟨by first | rfl | (simp only [h0, h1, h2, h3, bls]; done) | (simp only [h0, h1, h2, h3, bls]; rfl), HAL.out.trans (K1.out.mono HAL.out.size)⟩
    | true =>
     go_wp2_with fail
     refine (H2.out _).mono ?_
     rintro e v2 ⟨rfl, hb⟩
     have K2 := zh (show Below W.heap.size W v2 from then' K1.out hb)
     obtain ⟨x2_0, x2_1, x2_2⟩ := mr_cells ((K2.out.block _ HLT.out).trans HBK.out)
     clear hb x1_0 x1_1 x1_2
     cases h4 : b2 with
     | false =>
      (try go_wp2_with fail)
      go_ret
      exact ⟨by first | rfl | (simp only [h0, h1, h2, h3, h4, bls]; done) | (simp only [h0, h1, h2, h3, h4, bls]; rfl), HAL.out.trans (K2.out.mono HAL.out.size)⟩
     | true =>
      cases h5 : (b == [60, 99, 108, 105, 110, 105, 116, 62]) with
      | false =>
       have gi := ne_of h5
       cases h6 : (c == [40, 41, 73]) with
       | false =>
        cases h7 : (c == [40, 41, 86]) with
        | false =>
         (try go_wp2_with fail)
         go_ret
         exact ⟨by first | rfl | (simp only [h0, h1, h2, h3, h4, h5, h6, h7, bls]; done) | (simp only [h0, h1, h2, h3, h4, h5, h6, h7, bls]; rfl), HAL.out.trans (K2.out.mono HAL.out.size)⟩
        | true =>
         (try go_wp2_with fail)
         go_ret
         exact ⟨by first | rfl | (simp only [h0, h1, h2, h3, h4, h5, h6, h7, bls]; done) | (simp only [h0, h1, h2, h3, h4, h5, h6, h7, bls]; rfl), HAL.out.trans (K2.out.mono HAL.out.size)⟩
       | true =>
        (try go_wp2_with fail)
        go_ret
        exact ⟨by first | rfl | (simp only [h0, h1, h2, h3, h4, h5, h6, bls]; done) | (simp only [h0, h1, h2, h3, h4, h5, h6, bls]; rfl), HAL.out.trans (K2.out.mono HAL.out.size)⟩
      | true =>
       have gi := ne_of h5
       (try go_wp2_with fail)
       go_ret
       exact ⟨by first | rfl | (simp only [h0, h1, h2, h3, h4, h5, bls]; done) | (simp only [h0, h1, h2, h3, h4, h5, bls]; rfl), HAL.out.trans (K2.out.mono HAL.out.size)⟩
   | true =>
    have gc := e_empty h2
    (try simp only [h0, h1, h2] at HW)
    go_enter Try.func84, Try.ntmps84
    go_wp2_with fail
    rw [← HW.out]
    (try go_wp2_with fail)
    go_ret
    exact ⟨by first | rfl | (simp only [h0, h1, h2, bls]; done) | (simp only [h0, h1, h2, bls]; rfl), HAL.out.trans (K0.out.mono HAL.out.size)⟩
theorem below_r (x y : MeM) (w : World) : Calls Try.prog 145 #[.agg (meC x).toArray, .agg (meC y).toArray] w fun e w' => e = .returned (.bool (ltM x y)) ∧ Below w.heap.size w w' := by
 obtain ⟨W, hW⟩ : ∃ W, W = (w.alloc (.cells (meC x).toArray 37)).alloc (.cells (meC y).toArray 37) := ⟨_, rfl⟩
 have hal : Below w.heap.size w W := by rw [hW]; exact ((Below.refl _ w).alloc (Nat.le_refl _) _).alloc (by simp) _
 have HAL := zh hal
 have hnw := two_new w (.cells (meC x).toArray 37) (.cells (meC y).toArray 37)
 rw [← hW] at hnw
 obtain ⟨c0, c1, c2, c3, c4, c5⟩ := me_cells hnw.1
 obtain ⟨d0, d1, d2, d3, d4, d5⟩ := me_cells hnw.2
 unfold ltM ltT
 have l1 := less_mk x.nm y.nm
 have l2 := less_mk x.ds y.ds
 unfold meC at hW ⊢
 try dsimp only at hW ⊢
 have HW := zh hW
 clear hal hnw hW
 cases h1 : decide (x.nm < y.nm) with
 | true =>
  rw [h1] at l1
  go_enter Try.func145, Try.ntmps145
  go_wp2_with fail
  rw [← HW.out]
  (try go_wp2_with fail)
  go_ret
  exact ⟨by first | rfl | (simp only [h1, Bool.true_or, Bool.false_or, Bool.true_and, Bool.false_and]; done) | (simp only [h1, Bool.true_or, Bool.false_or, Bool.true_and, Bool.false_and]; rfl), HAL.out⟩
 | false =>
  rw [h1] at l1
  cases h2 : (x.nm == y.nm) with
  | false =>
   go_enter Try.func145, Try.ntmps145
   go_wp2_with fail
   rw [← HW.out]
   (try go_wp2_with fail)
   go_ret
   exact ⟨by first | rfl | (simp only [h1, h2, Bool.true_or, Bool.false_or, Bool.true_and, Bool.false_and]; done) | (simp only [h1, h2, Bool.true_or, Bool.false_or, Bool.true_and, Bool.false_and]; rfl), HAL.out⟩
  | true =>
   cases h3 : decide (x.ds < y.ds) with
   | false =>
    rw [h3] at l2
    go_enter Try.func145, Try.ntmps145
    go_wp2_with fail
    rw [← HW.out]
    (try go_wp2_with fail)
    go_ret
    exact ⟨by first | rfl | (simp only [h1, h2, h3, Bool.true_or, Bool.false_or, Bool.true_and, Bool.false_and]; done) | (simp only [h1, h2, h3, Bool.true_or, Bool.false_or, Bool.true_and, Bool.false_and]; rfl), HAL.out⟩
   | true =>
    rw [h3] at l2
    go_enter Try.func145, Try.ntmps145
    go_wp2_with fail
    rw [← HW.out]
    (try go_wp2_with fail)
    go_ret
    exact ⟨by first | rfl | (simp only [h1, h2, h3, Bool.true_or, Bool.false_or, Bool.true_and, Bool.false_and]; done) | (simp only [h1, h2, h3, Bool.true_or, Bool.false_or, Bool.true_and, Bool.false_and]; rfl), HAL.out⟩
end Go.Proofs.Ytdifmgeicnndfaa.prg
namespace Go.Proofs.Ytdifmgeicnndfaa.prg
open Go.RowKit
open words kindp opp op kind word
set_option maxRecDepth 100000
set_option maxHeartbeats 16000000
set_option linter.all false
theorem ordered_r (x : ClM) (w : World) (hk : ClOk w x) (h1 : x.is.length ≤ 281474976710656) (h2 : x.fs.length ≤ 281474976710656) (h3 : x.ms.length ≤ 281474976710656) : Calls Try.prog 124 #[.agg (clC x).toArray] w fun e w' => e = .returned (.bool (orderC x)) ∧ Below w.heap.size w w' := by
 obtain ⟨W, hW⟩ : ∃ W, W = w.alloc (.cells (clC x).toArray 43) := ⟨_, rfl⟩
 have hal : Below w.heap.size w W := by rw [hW]; exact (Below.refl _ w).alloc (Nat.le_refl _) _
 have HAL := zh hal
 have hblk : W.heap[w.heap.size]? = some (.cells (clC x).toArray 43 (0, 0)) := by rw [hW]; exact heap_alloc_new w _
 have HBK := zh hblk; have HLT := zh (blk_lt hblk)
 obtain ⟨x0_0, x0_1, x0_2, x0_3, x0_4, x0_5, x0_6⟩ := cl_cells hblk
 have hkW := hk.below hal
 have HR1 := zh hkW.1.2; have HR2 := zh hkW.2.1.2; have HR3 := zh hkW.2.2.1.2
 obtain ⟨R, hR⟩ : ∃ R, R = orderC x := ⟨_, rfl⟩
 rw [← hR]
 have HF1 := zh (show ∀ j a b, x.is[j]? = some a → x.is[j + 1]? = some b → ltT a b = false → R = false from fun j a b e1 e2 e3 => by rw [hR]; unfold orderC; rw [rises_no e1 e2 e3]; rfl)
 have HF2 := zh (show ∀ j a b, x.fs[j]? = some a → x.fs[j + 1]? = some b → ltF a b = false → R = false from fun j a b e1 e2 e3 => by rw [hR]; unfold orderC; rw [rises_no e1 e2 e3]; simp)
 have HF3 := zh (show ∀ j a b, x.ms[j]? = some a → x.ms[j + 1]? = some b → ltM a b = false → R = false from fun j a b e1 e2 e3 => by rw [hR]; unfold orderC; rw [rises_no e1 e2 e3]; simp)
 have HT := zh (show (∀ j a b, x.is[j]? = some a → x.is[j + 1]? = some b → ltT a b = true) → (∀ j a b, x.fs[j]? = some a → x.fs[j + 1]? = some b → ltF a b = true) → (∀ j a b, x.ms[j]? = some a → x.ms[j + 1]? = some b → ltM a b = true) → R = true from fun e1 e2 e3 => by rw [hR]; unfold orderC; rw [rises_yes e1, rises_yes e2, rises_yes e3]; rfl)
 obtain ⟨n1, hn1⟩ : ∃ n, n = x.is.length := ⟨_, rfl⟩
 obtain ⟨n2, hn2⟩ : ∃ n, n = x.fs.length := ⟨_, rfl⟩
 obtain ⟨n3, hn3⟩ : ∃ n, n = x.ms.length := ⟨_, rfl⟩
 have HCE := zh (show ∀ v : World, Below W.heap.size W v → v.cell? ⟨w.heap.size, 4, none⟩ = some (.slice x.A1 n1 x.c1) ∧ v.cell? ⟨w.heap.size, 5, none⟩ = some (.slice x.A2 n2 x.c2) ∧ v.cell? ⟨w.heap.size, 6, none⟩ = some (.slice x.A3 n3 x.c3) from fun v hv => by
  obtain ⟨_, _, _, _, q4, q5, q6⟩ := cl_cells ((hv.block _ HLT.out).trans HBK.out)
  rw [hn1, hn2, hn3]; exact ⟨q4, q5, q6⟩)
 rw [← hn1] at h1; rw [← hn2] at h2; rw [← hn3] at h3
 have n1I : (n1 : Int) ≤ 281474976710656 := by omega
 have n2I : (n2 : Int) ≤ 281474976710656 := by omega
 have n3I : (n3 : Int) ≤ 281474976710656 := by omega
 have HN1 := zh hn1; have HN2 := zh hn2; have HN3 := zh hn3
 have HBL := zh (show R = R from rfl)
 unfold clC at hW ⊢
 rw [← hn1, ← hn2, ← hn3] at hW ⊢
 rw [← hn1] at x0_4; rw [← hn2] at x0_5; rw [← hn3] at x0_6
 try dsimp only at hW ⊢
 have HW := zh hW
 clear hal hblk hW hkW hk hn1 hn2 hn3 h1 h2 h3 hR
 go_enter Try.func124, Try.ntmps124
 go_wp2_with fail
 rw [← HW.out]
 (try go_wp2_with fail)
 go_loopw [3] (fun i wr => ∃ k : Nat, i = .int .i64 ((k + 1 : Nat) : Int) ∧ (k + 1 ≤ n1 ∨ k = 0) ∧ (∀ j a b, j < k → x.is[j]? = some a → x.is[j + 1]? = some b → ltT a b = true) ∧ Below W.heap.size W wr) (fun i _ => n1 - (intOf i).toNat)
 case atStart => exact ⟨0, rfl, .inr rfl, fun j _ _ h => by omega, Below.refl _ _⟩
 case round =>
  obtain ⟨k, rfl, hk, hall, hbw⟩ := hrel
  obtain ⟨y1, y1_eq⟩ : ∃ v, v = wr := ⟨_, rfl⟩
  subst y1_eq
  have HA1 := zh hall; have HB1 := zh hbw
  obtain ⟨g4, g5, g6⟩ := HCE.out _ hbw
  clear hall
  by_cases hlt : k + 1 < n1
  ·have hltI : ((k + 1 : Nat) : Int) < (n1 : Int) := by omega
   have hkI : (k : Int) < (n1 : Int) := by omega
   have hsub : IntKind.i64.wrap (k : Int) = (k : Int) := IntWalk.i64_in _ (by omega)
   have hkJ : (k : Int) + 1 < (n1 : Int) := by omega
   have hk0 : (0 : Int) ≤ (k : Int) + 1 := by omega
   have htn : ((k : Int) + 1).toNat = k + 1 := by omega
   obtain ⟨u, hx⟩ : ∃ u, x.is[k]? = some u := ⟨x.is[k]'(by rw [← HN1.out]; omega), List.getElem?_eq_getElem _⟩
   obtain ⟨v, hy⟩ : ∃ u, x.is[k + 1]? = some u := ⟨x.is[k + 1]'(by rw [← HN1.out]; exact hlt), List.getElem?_eq_getElem _⟩
   obtain ⟨a, ea, ha, c0⟩ := (HR1.out.below hbw).at_ (sx_get hx)
   obtain ⟨a', ea1, _, d0⟩ := (HR1.out.below hbw).at_ (sx_get hy)
   rw [ea] at ea1; cases ea1
   have ea2 : a.add (k + 1) = ⟨a.block, a.off + (k + 1), none⟩ := by unfold Addr.add; rw [if_neg (by omega)]
   rw [ea2] at d0
   rw [ea] at g4
   have HFX := zh (fun h => HF1.out k u v hx hy h)
   have HNX := zh (show ltT u v = true → ∀ j a b, j < k + 1 → x.is[j]? = some a → x.is[j + 1]? = some b → ltT a b = true from fun h j x' y' hj h1 h2 => by
    rcases Nat.lt_succ_iff_lt_or_eq.1 hj with h3 | rfl
    ·exact HA1.out j x' y' h3 h1 h2
    ·rw [hx] at h1; rw [hy] at h2; cases h1; cases h2; exact h)
   have HX := zh hx; have HY := zh hy; have HE := zh ea
   clear hx hy hk ea
   cases hlt2 : ltT u v with
   | false =>
    have HRF := zh (HFX.out hlt2)
    clear HNX HFX
    have l1 : Op.bytesLess u v = false := by rw [less_mk]; exact hlt2
    go_wp2_with fail
    go_region
    (try go_wp2)
    go_ret
    exact ⟨by rw [HRF.out]; rfl, HAL.out.trans (Below.mono (by first | exact HB1.out | exact overD HB1.out) HAL.out.size)⟩
   | true =>
    have HRN := zh (HNX.out hlt2)
    clear HNX HFX
    have l1 : Op.bytesLess u v = true := by rw [less_mk]; exact hlt2
    go_wp2_with fail
    go_region
    (try go_wp2)
    go_roundw
    case rel => exact ⟨k + 1, by go_num, by omega, HRN.out, by first | exact HB1.out | exact overD HB1.out⟩
    case measure => simp [intOf]; omega
  ·have hltI : ¬ ((k + 1 : Nat) : Int) < (n1 : Int) := by omega
   have HT1 := zh (show ∀ j a b, x.is[j]? = some a → x.is[j + 1]? = some b → ltT a b = true from fun j a b h1 h2 => HA1.out j a b (by have := (List.getElem?_eq_some_iff.1 h2).1; rw [← HN1.out] at this; omega) h1 h2)
   clear hk hlt
   go_wp2_with fail
   go_loopw [4] (fun i wr => ∃ k : Nat, i = .int .i64 ((k + 1 : Nat) : Int) ∧ (k + 1 ≤ n2 ∨ k = 0) ∧ (∀ j a b, j < k → x.fs[j]? = some a → x.fs[j + 1]? = some b → ltF a b = true) ∧ Below W.heap.size W wr) (fun i _ => n2 - (intOf i).toNat)
   case atStart => exact ⟨0, rfl, .inr rfl, fun j _ _ h => by omega, HB1.out⟩
   case round =>
    obtain ⟨k, rfl, hk, hall, hbw⟩ := hrel
    obtain ⟨y2, y2_eq⟩ : ∃ v, v = wr := ⟨_, rfl⟩
    subst y2_eq
    have HA2 := zh hall; have HB2 := zh hbw
    obtain ⟨g4, g5, g6⟩ := HCE.out _ hbw
    clear hall
    by_cases hlt : k + 1 < n2
    ·have hltI : ((k + 1 : Nat) : Int) < (n2 : Int) := by omega
     have hkI : (k : Int) < (n2 : Int) := by omega
     have hsub : IntKind.i64.wrap (k : Int) = (k : Int) := IntWalk.i64_in _ (by omega)
     have hkJ : (k : Int) + 1 < (n2 : Int) := by omega
     have hk0 : (0 : Int) ≤ (k : Int) + 1 := by omega
     have htn : ((k : Int) + 1).toNat = k + 1 := by omega
     obtain ⟨u, hx⟩ : ∃ u, x.fs[k]? = some u := ⟨x.fs[k]'(by rw [← HN2.out]; omega), List.getElem?_eq_getElem _⟩
     obtain ⟨v, hy⟩ : ∃ u, x.fs[k + 1]? = some u := ⟨x.fs[k + 1]'(by rw [← HN2.out]; exact hlt), List.getElem?_eq_getElem _⟩
     obtain ⟨a, ea, ha, c0, c1, c2, c3⟩ := fi_at (HR2.out.below hbw) hx
     obtain ⟨a', ea1, _, d0, d1, d2, d3⟩ := fi_at (HR2.out.below hbw) hy
     rw [ea] at ea1; cases ea1
     have ea2 : a.add ((k + 1) * 4) = ⟨a.block, a.off + (k + 1) * 4, none⟩ := by unfold Addr.add; rw [if_neg (by omega)]
     rw [ea2] at d0 d1 d2 d3
     dsimp only at d0 d1 d2 d3
     rw [ea] at g5
     have HFX := zh (fun h => HF2.out k u v hx hy h)
     have HNX := zh (show ltF u v = true → ∀ j a b, j < k + 1 → x.fs[j]? = some a → x.fs[j + 1]? = some b → ltF a b = true from fun h j x' y' hj h1 h2 => by
      rcases Nat.lt_succ_iff_lt_or_eq.1 hj with h3 | rfl
      ·exact HA2.out j x' y' h3 h1 h2
      ·rw [hx] at h1; rw [hy] at h2; cases h1; cases h2; exact h)
     have HX := zh hx; have HY := zh hy; have HE := zh ea
     clear hx hy hk ea
     cases hlt2 : ltF u v with
     | false =>
      have HRF := zh (HFX.out hlt2)
      clear HNX HFX
      have l1 : Op.bytesLess u.nm v.nm = false := by rw [less_mk]; exact hlt2
      go_wp2_with fail
      go_region
      (try go_wp2)
      go_ret
      exact ⟨by rw [HRF.out]; rfl, HAL.out.trans (Below.mono (by first | exact HB2.out | exact overD HB2.out) HAL.out.size)⟩
     | true =>
      have HRN := zh (HNX.out hlt2)
      clear HNX HFX
      have l1 : Op.bytesLess u.nm v.nm = true := by rw [less_mk]; exact hlt2
      go_wp2_with fail
      go_region
      (try go_wp2)
      go_roundw
      case rel => exact ⟨k + 1, by go_num, by omega, HRN.out, by first | exact HB2.out | exact overD HB2.out⟩
      case measure => simp [intOf]; omega
    ·have hltI : ¬ ((k + 1 : Nat) : Int) < (n2 : Int) := by omega
     have HT2 := zh (show ∀ j a b, x.fs[j]? = some a → x.fs[j + 1]? = some b → ltF a b = true from fun j a b h1 h2 => HA2.out j a b (by have := (List.getElem?_eq_some_iff.1 h2).1; rw [← HN2.out] at this; omega) h1 h2)
     clear hk hlt
     go_wp2_with fail
     go_loopw [5] (fun i wr => ∃ k : Nat, i = .int .i64 ((k + 1 : Nat) : Int) ∧ (k + 1 ≤ n3 ∨ k = 0) ∧ (∀ j a b, j < k → x.ms[j]? = some a → x.ms[j + 1]? = some b → ltM a b = true) ∧ Below W.heap.size W wr) (fun i _ => n3 - (intOf i).toNat)
     case atStart => exact ⟨0, rfl, .inr rfl, fun j _ _ h => by omega, HB2.out⟩
     case round =>
      obtain ⟨k, rfl, hk, hall, hbw⟩ := hrel
      obtain ⟨y3, y3_eq⟩ : ∃ v, v = wr := ⟨_, rfl⟩
      subst y3_eq
      have HA3 := zh hall; have HB3 := zh hbw
      obtain ⟨g4, g5, g6⟩ := HCE.out _ hbw
      clear hall
      by_cases hlt : k + 1 < n3
      ·have hltI : ((k + 1 : Nat) : Int) < (n3 : Int) := by omega
       have hkI : (k : Int) < (n3 : Int) := by omega
       have hsub : IntKind.i64.wrap (k : Int) = (k : Int) := IntWalk.i64_in _ (by omega)
       have hkJ : (k : Int) + 1 < (n3 : Int) := by omega
       have hk0 : (0 : Int) ≤ (k : Int) + 1 := by omega
       have htn : ((k : Int) + 1).toNat = k + 1 := by omega
       obtain ⟨u, hx⟩ : ∃ u, x.ms[k]? = some u := ⟨x.ms[k]'(by rw [← HN3.out]; omega), List.getElem?_eq_getElem _⟩
       obtain ⟨v, hy⟩ : ∃ u, x.ms[k + 1]? = some u := ⟨x.ms[k + 1]'(by rw [← HN3.out]; exact hlt), List.getElem?_eq_getElem _⟩
       obtain ⟨a, ea, ha, c0, c1, c2, c3, c4, c5⟩ := me_at (HR3.out.below hbw) hx
       obtain ⟨a', ea1, _, d0, d1, d2, d3, d4, d5⟩ := me_at (HR3.out.below hbw) hy
       rw [ea] at ea1; cases ea1
       have ea2 : a.add ((k + 1) * 6) = ⟨a.block, a.off + (k + 1) * 6, none⟩ := by unfold Addr.add; rw [if_neg (by omega)]
       rw [ea2] at d0 d1 d2 d3 d4 d5
       dsimp only at d0 d1 d2 d3 d4 d5
       rw [ea] at g6
       have HFX := zh (fun h => HF3.out k u v hx hy h)
       have HNX := zh (show ltM u v = true → ∀ j a b, j < k + 1 → x.ms[j]? = some a → x.ms[j + 1]? = some b → ltM a b = true from fun h j x' y' hj h1 h2 => by
        rcases Nat.lt_succ_iff_lt_or_eq.1 hj with h3 | rfl
        ·exact HA3.out j x' y' h3 h1 h2
        ·rw [hx] at h1; rw [hy] at h2; cases h1; cases h2; exact h)
       have HX := zh hx; have HY := zh hy; have HE := zh ea
       clear hx hy hk ea
       cases hlt2 : ltM u v with
       | false =>
        have HRF := zh (HFX.out hlt2)
        clear HNX HFX
        have HCL := zh (fun z => below_r u v z)
        dsimp only [meC] at HCL
        go_wp2_with fail
        refine wp_region_held_drew (S := (fun w' => w'.cell? (a.add (k * 6)) = some (.string ⟨u.nm.toArray⟩) ∧ w'.cell? ⟨(a.add (k * 6)).block, (a.add (k * 6)).off + 1, none⟩ = some (.string ⟨u.ds.toArray⟩) ∧ w'.cell? ⟨(a.add (k * 6)).block, (a.add (k * 6)).off + 2, none⟩ = some (.bool u.st) ∧ w'.cell? ⟨(a.add (k * 6)).block, (a.add (k * 6)).off + 3, none⟩ = some (.bool u.ab) ∧ w'.cell? ⟨(a.add (k * 6)).block, (a.add (k * 6)).off + 4, none⟩ = some (.int .i64 u.rg) ∧ w'.cell? ⟨(a.add (k * 6)).block, (a.add (k * 6)).off + 5, none⟩ = some (.slice u.A u.co.length u.c) ∧ w'.cell? ⟨a.block, a.off + (k + 1) * 6, none⟩ = some (.string ⟨v.nm.toArray⟩) ∧ w'.cell? ⟨a.block, a.off + (k + 1) * 6 + 1, none⟩ = some (.string ⟨v.ds.toArray⟩) ∧ w'.cell? ⟨a.block, a.off + (k + 1) * 6 + 2, none⟩ = some (.bool v.st) ∧ w'.cell? ⟨a.block, a.off + (k + 1) * 6 + 3, none⟩ = some (.bool v.ab) ∧ w'.cell? ⟨a.block, a.off + (k + 1) * 6 + 4, none⟩ = some (.int .i64 v.rg) ∧ w'.cell? ⟨a.block, a.off + (k + 1) * 6 + 5, none⟩ = some (.slice v.A v.co.length v.c) ∧ w'.cell? ⟨w.heap.size, 6, none⟩ = some (.slice (some a) n3 x.c3))) (by kernel_rfl) ?_ (fun hHeld => ?_)
        ·exact ⟨c0, c1, c2, c3, c4, c5, d0, d1, d2, d3, d4, d5, g6⟩
        refine tkp 0 rfl ?_
        refine tkp 1 rfl ?_
        refine tkp 2 rfl ?_
        refine tkp 3 rfl ?_
        refine tkp 4 rfl ?_
        refine tkp 5 rfl ?_
        refine tkp 6 rfl ?_
        refine tkp 7 rfl ?_
        refine tkp 8 rfl ?_
        refine tkp 9 rfl ?_
        refine tkp 10 rfl ?_
        refine rdy 11 rfl (fun K hK => ?_)
        go_simp
        refine (HCL.out _).mono ?_; rintro e v1 ⟨he, hb⟩; rw [hlt2] at he; subst he; have k1 : Below W.heap.size W v1 := (by first | exact then' HB3.out hb | exact then' (overD HB3.out) hb); obtain ⟨a1, q1, _, e0, e1, e2, e3, e4, e5⟩ := me_at (HR3.out.below k1) HX.out; rw [HE.out] at q1; cases q1; obtain ⟨a1, q1, _, f0, f1, f2, f3, f4, f5⟩ := me_at (HR3.out.below k1) HY.out; rw [HE.out] at q1; cases q1; rw [ea2] at f0 f1 f2 f3 f4 f5; dsimp only at f0 f1 f2 f3 f4 f5; obtain ⟨_, _, j6⟩ := HCE.out _ k1; rw [HE.out] at j6; have K1 := zh k1; clear hb k1; go_wp2_with fail
        refine hK.out _ _ ⟨e0, e1, e2, e3, e4, e5, f0, f1, f2, f3, f4, f5, j6⟩ (fun hHeld => ?_)
        clear hK K
        try simp only [puts]
        refine tkp 12 rfl ?_
        refine wpAnyH_done (by kernel_rfl) ?_ _
        go_wp2
        go_ret
        exact ⟨by rw [HRF.out]; rfl, HAL.out.trans (K1.out.mono HAL.out.size)⟩
       | true =>
        have HRN := zh (HNX.out hlt2)
        clear HNX HFX
        have HCL := zh (fun z => below_r u v z)
        dsimp only [meC] at HCL
        go_wp2_with fail
        refine wp_region_held_drew (S := (fun w' => w'.cell? (a.add (k * 6)) = some (.string ⟨u.nm.toArray⟩) ∧ w'.cell? ⟨(a.add (k * 6)).block, (a.add (k * 6)).off + 1, none⟩ = some (.string ⟨u.ds.toArray⟩) ∧ w'.cell? ⟨(a.add (k * 6)).block, (a.add (k * 6)).off + 2, none⟩ = some (.bool u.st) ∧ w'.cell? ⟨(a.add (k * 6)).block, (a.add (k * 6)).off + 3, none⟩ = some (.bool u.ab) ∧ w'.cell? ⟨(a.add (k * 6)).block, (a.add (k * 6)).off + 4, none⟩ = some (.int .i64 u.rg) ∧ w'.cell? ⟨(a.add (k * 6)).block, (a.add (k * 6)).off + 5, none⟩ = some (.slice u.A u.co.length u.c) ∧ w'.cell? ⟨a.block, a.off + (k + 1) * 6, none⟩ = some (.string ⟨v.nm.toArray⟩) ∧ w'.cell? ⟨a.block, a.off + (k + 1) * 6 + 1, none⟩ = some (.string ⟨v.ds.toArray⟩) ∧ w'.cell? ⟨a.block, a.off + (k + 1) * 6 + 2, none⟩ = some (.bool v.st) ∧ w'.cell? ⟨a.block, a.off + (k + 1) * 6 + 3, none⟩ = some (.bool v.ab) ∧ w'.cell? ⟨a.block, a.off + (k + 1) * 6 + 4, none⟩ = some (.int .i64 v.rg) ∧ w'.cell? ⟨a.block, a.off + (k + 1) * 6 + 5, none⟩ = some (.slice v.A v.co.length v.c) ∧ w'.cell? ⟨w.heap.size, 6, none⟩ = some (.slice (some a) n3 x.c3))) (by kernel_rfl) ?_ (fun hHeld => ?_)
        ·exact ⟨c0, c1, c2, c3, c4, c5, d0, d1, d2, d3, d4, d5, g6⟩
        refine tkp 0 rfl ?_
        refine tkp 1 rfl ?_
        refine tkp 2 rfl ?_
        refine tkp 3 rfl ?_
        refine tkp 4 rfl ?_
        refine tkp 5 rfl ?_
        refine tkp 6 rfl ?_
        refine tkp 7 rfl ?_
        refine tkp 8 rfl ?_
        refine tkp 9 rfl ?_
        refine tkp 10 rfl ?_
        refine rdy 11 rfl (fun K hK => ?_)
        go_simp
        refine (HCL.out _).mono ?_; rintro e v1 ⟨he, hb⟩; rw [hlt2] at he; subst he; have k1 : Below W.heap.size W v1 := (by first | exact then' HB3.out hb | exact then' (overD HB3.out) hb); obtain ⟨a1, q1, _, e0, e1, e2, e3, e4, e5⟩ := me_at (HR3.out.below k1) HX.out; rw [HE.out] at q1; cases q1; obtain ⟨a1, q1, _, f0, f1, f2, f3, f4, f5⟩ := me_at (HR3.out.below k1) HY.out; rw [HE.out] at q1; cases q1; rw [ea2] at f0 f1 f2 f3 f4 f5; dsimp only at f0 f1 f2 f3 f4 f5; obtain ⟨_, _, j6⟩ := HCE.out _ k1; rw [HE.out] at j6; have K1 := zh k1; clear hb k1; go_wp2_with fail
        refine hK.out _ _ ⟨e0, e1, e2, e3, e4, e5, f0, f1, f2, f3, f4, f5, j6⟩ (fun hHeld => ?_)
        clear hK K
        try simp only [puts]
        refine tkp 12 rfl ?_
        refine wpAnyH_done (by kernel_rfl) ?_ _
        go_wp2
        go_roundw
        case rel => exact ⟨k + 1, by go_num, by omega, HRN.out, K1.out⟩
        case measure => simp [intOf]; omega
      ·have hltI : ¬ ((k + 1 : Nat) : Int) < (n3 : Int) := by omega
       have HT3 := zh (show ∀ j a b, x.ms[j]? = some a → x.ms[j + 1]? = some b → ltM a b = true from fun j a b h1 h2 => HA3.out j a b (by have := (List.getElem?_eq_some_iff.1 h2).1; rw [← HN3.out] at this; omega) h1 h2)
       clear hk hlt
       have HRT := zh (HT.out HT1.out HT2.out HT3.out)
       go_wp2
       go_ret
       exact ⟨by rw [HRT.out]; rfl, HAL.out.trans (HB3.out.mono HAL.out.size)⟩
end Go.Proofs.Ytdifmgeicnndfaa.prg
namespace Go.Proofs.Ytdifmgeicnndfaa.prg
open Go.RowKit
open words kindp opp op kind word
set_option maxRecDepth 100000
set_option maxHeartbeats 16000000
set_option linter.all false
theorem order_no_c {x : PrM} {j : Nat} {c : ClM} (h1 : x.cs[j]? = some c) (h : orderC c = false) : orderB x = false := by
 unfold orderB
 rw [show x.cs.all orderC = false from ?_, Bool.and_false]
 rw [List.all_eq_false]; exact ⟨c, List.mem_of_getElem? h1, by rw [h]; simp⟩
theorem order_no_l {x : PrM} {j : Nat} {a b : ClM} (h1 : x.cs[j]? = some a) (h2 : x.cs[j + 1]? = some b) (h : ltC a b = false) : orderB x = false := by
 unfold orderB; rw [rises_no h1 h2 h]; rfl
theorem order_yes {x : PrM} (h1 : ∀ (j : Nat) (c : ClM), x.cs[j]? = some c → orderC c = true) (h2 : ∀ (j : Nat) (a b : ClM), x.cs[j]? = some a → x.cs[j + 1]? = some b → ltC a b = true) : orderB x = true := by
 unfold orderB; rw [rises_yes h2, Bool.true_and, List.all_eq_true]
 intro c hc
 obtain ⟨j, hj⟩ := List.mem_iff_getElem?.1 hc
 exact h1 j c hj
theorem inorder_r (x : PrM) (w : World) (hk : PrOk w x) (hb : PrBd x) : Calls Try.prog 85 #[.agg (prC x).toArray] w fun e w' => e = .returned (.bool (orderB x)) ∧ Below w.heap.size w w' := by
 obtain ⟨W, hW⟩ : ∃ W, W = w.alloc (.cells (prC x).toArray 27) := ⟨_, rfl⟩
 have hal : Below w.heap.size w W := by rw [hW]; exact (Below.refl _ w).alloc (Nat.le_refl _) _
 have HAL := zh hal
 have hblk : W.heap[w.heap.size]? = some (.cells (prC x).toArray 27 (0, 0)) := by rw [hW]; exact heap_alloc_new w _
 have HBK := zh hblk; have HLT := zh (blk_lt hblk)
 obtain ⟨x0_0, x0_1, x0_2, x0_3, x0_4⟩ := pr_cells hblk
 have hkW := hk.below hal
 have HR := zh hkW.1.2
 have hl : x.cs.length ≤ 281474976710656 := by have := hb.1.1; omega
 have HCC := zh (show ∀ c ∈ x.cs, ∀ z : World, Below W.heap.size W z → Calls Try.prog 124 #[.agg (clC c).toArray] z fun e w' => e = .returned (.bool (orderC c)) ∧ Below z.heap.size z w' from fun c hc z hz => ordered_r c z ((hkW.2.2 c hc).below hz) (by have := (hb.1.2 c hc).2.2.1.1; omega) (by have := (hb.1.2 c hc).2.2.2.1.1; omega) (by have := (hb.1.2 c hc).2.2.2.2.1; omega))
 obtain ⟨R, hR⟩ : ∃ R, R = orderB x := ⟨_, rfl⟩
 rw [← hR]
 have HF1 := zh (show ∀ j c, x.cs[j]? = some c → orderC c = false → R = false from fun j c e1 e2 => by rw [hR]; exact order_no_c e1 e2)
 have HF2 := zh (show ∀ j a b, x.cs[j]? = some a → x.cs[j + 1]? = some b → ltC a b = false → R = false from fun j a b e1 e2 e3 => by rw [hR]; exact order_no_l e1 e2 e3)
 have HT := zh (show (∀ (j : Nat) (c : ClM), x.cs[j]? = some c → orderC c = true) → (∀ (j : Nat) (a b : ClM), x.cs[j]? = some a → x.cs[j + 1]? = some b → ltC a b = true) → R = true from fun e1 e2 => by rw [hR]; exact order_yes e1 e2)
 obtain ⟨n, hn⟩ : ∃ n, n = x.cs.length := ⟨_, rfl⟩
 have HCE := zh (show ∀ v : World, Below W.heap.size W v → v.cell? ⟨w.heap.size, 0, none⟩ = some (.slice x.A1 n x.c1) from fun v hv => by
  obtain ⟨q0, _⟩ := pr_cells ((hv.block _ HLT.out).trans HBK.out)
  rw [hn]; exact q0)
 rw [← hn] at hl
 have nI : (n : Int) ≤ 281474976710656 := by omega
 have HN := zh hn
 unfold prC at hW ⊢
 rw [← hn] at hW ⊢
 rw [← hn] at x0_0
 try dsimp only at hW ⊢
 have HW := zh hW
 clear hal hblk hW hkW hk hn hl hb hR
 go_enter Try.func85, Try.ntmps85
 go_wp2_with fail
 rw [← HW.out]
 (try go_wp2_with fail)
 go_loopw [3] (fun i wr => ∃ k : Nat, i = .int .i64 (k : Int) ∧ k ≤ n ∧ (∀ j c, j < k → x.cs[j]? = some c → orderC c = true) ∧ (∀ j a b, j + 1 < k → x.cs[j]? = some a → x.cs[j + 1]? = some b → ltC a b = true) ∧ Below W.heap.size W wr) (fun i _ => n - (intOf i).toNat)
 case atStart => exact ⟨0, rfl, Nat.zero_le _, fun j _ h => by omega, fun j _ _ h => by omega, Below.refl _ _⟩
 case round =>
  obtain ⟨k, rfl, hk, hall, hlts, hbw⟩ := hrel
  have HA := zh hall; have HA2 := zh hlts; have HB := zh hbw
  have g0 := HCE.out _ hbw
  clear hall hlts
  by_cases hlt : k < n
  ·have hltI : (k : Int) < (n : Int) := by omega
   obtain ⟨v, hy⟩ : ∃ u, x.cs[k]? = some u := ⟨x.cs[k]'(by rw [← HN.out]; omega), List.getElem?_eq_getElem _⟩
   have HCL := zh (fun z hz => HCC.out v (List.mem_of_getElem? hy) z hz)
   dsimp only [clC] at HCL
   cases ho : orderC v with
   | false =>
    have HRF := zh (HF1.out k v hy ho)
    obtain ⟨a, ea, ha, c0, c1, c2, c3, c4, c5, c6⟩ := cl_at (HR.out.below hbw) hy
    rw [ea] at g0
    have HY := zh hy; have HE := zh ea
    clear hy ea hk
    go_wp2_with fail
    refine wp_region_held_drew (S := (fun w' => w'.cell? (a.add (k * 7)) = some (.string ⟨v.nm.toArray⟩) ∧ w'.cell? ⟨(a.add (k * 7)).block, (a.add (k * 7)).off + 1, none⟩ = some (.string ⟨v.su.toArray⟩) ∧ w'.cell? ⟨(a.add (k * 7)).block, (a.add (k * 7)).off + 2, none⟩ = some (.bool v.fc) ∧ w'.cell? ⟨(a.add (k * 7)).block, (a.add (k * 7)).off + 3, none⟩ = some (.bool v.ab) ∧ w'.cell? ⟨(a.add (k * 7)).block, (a.add (k * 7)).off + 4, none⟩ = some (.slice v.A1 v.is.length v.c1) ∧ w'.cell? ⟨(a.add (k * 7)).block, (a.add (k * 7)).off + 5, none⟩ = some (.slice v.A2 v.fs.length v.c2) ∧ w'.cell? ⟨(a.add (k * 7)).block, (a.add (k * 7)).off + 6, none⟩ = some (.slice v.A3 v.ms.length v.c3) ∧ w'.cell? ⟨w.heap.size, 0, none⟩ = some (.slice (some a) n x.c1))) (by kernel_rfl) ?_ (fun hHeld => ?_)
    ·exact ⟨c0, c1, c2, c3, c4, c5, c6, g0⟩
    refine tkp 0 rfl ?_
    refine tkp 1 rfl ?_
    refine tkp 2 rfl ?_
    refine tkp 3 rfl ?_
    refine tkp 4 rfl ?_
    refine rdy 5 rfl (fun K hK => ?_)
    go_simp
    refine (HCL.out _ (by first | exact HB.out | exact overD HB.out)).mono ?_; rintro e v1 ⟨he, hb⟩; rw [ho] at he; subst he; have k1 : Below W.heap.size W v1 := (by first | exact then' HB.out hb | exact then' (overD HB.out) hb); have j0 := HCE.out _ k1; rw [HE.out] at j0; obtain ⟨a1, q1, _, e0, e1, e2, e3, e4, e5, e6⟩ := cl_at (HR.out.below k1) HY.out; rw [HE.out] at q1; cases q1; have K1 := zh k1; clear hb k1; go_wp2_with fail
    refine hK.out _ _ ⟨e0, e1, e2, e3, e4, e5, e6, j0⟩ (fun hHeld => ?_)
    clear hK K
    try simp only [puts]
    refine tkp 6 rfl ?_
    refine tkp 7 rfl ?_
    refine tup 8 rfl ?_
    refine tup 9 rfl ?_
    refine tup 10 rfl ?_
    refine tup 11 rfl ?_
    refine tup 12 rfl ?_
    refine tup 13 rfl ?_
    refine tup 14 rfl ?_
    refine tup 15 rfl ?_
    refine tup 16 rfl ?_
    refine tup 17 rfl ?_
    refine tup 18 rfl ?_
    refine tup 19 rfl ?_
    refine tup 20 rfl ?_
    refine tup 21 rfl ?_
    refine tup 22 rfl ?_
    refine tup 23 rfl ?_
    refine tup 24 rfl ?_
    refine tup 25 rfl ?_
    refine tkp 26 rfl ?_
    refine wpAnyH_done (by kernel_rfl) ?_ _
    go_wp2
    go_ret
    exact ⟨by rw [HRF.out]; rfl, HAL.out.trans (K1.out.mono HAL.out.size)⟩
   | true =>
    by_cases hz : k = 0
    ·have h0 : decide (0 < k) = false := decide_eq_false (by omega)
     have h0I : decide ((0 : Int) < (k : Int)) = false := decide_eq_false (by omega)
     have HRN := zh (show ∀ j c, j < k + 1 → x.cs[j]? = some c → orderC c = true from fun j c hj h1 => by
      have : j = k := by omega
      subst this; rw [hy] at h1; cases h1; exact ho)
     have HRL := zh (show ∀ j a b, j + 1 < k + 1 → x.cs[j]? = some a → x.cs[j + 1]? = some b → ltC a b = true from fun j a b hj => by omega)
     obtain ⟨a, ea, ha, c0, c1, c2, c3, c4, c5, c6⟩ := cl_at (HR.out.below hbw) hy
     rw [ea] at g0
     have HY := zh hy; have HE := zh ea; have HZ := zh hz
     clear hy ea hk hz
     go_wp2_with fail
     refine wp_region_held_drew (S := (fun w' => w'.cell? (a.add (k * 7)) = some (.string ⟨v.nm.toArray⟩) ∧ w'.cell? ⟨(a.add (k * 7)).block, (a.add (k * 7)).off + 1, none⟩ = some (.string ⟨v.su.toArray⟩) ∧ w'.cell? ⟨(a.add (k * 7)).block, (a.add (k * 7)).off + 2, none⟩ = some (.bool v.fc) ∧ w'.cell? ⟨(a.add (k * 7)).block, (a.add (k * 7)).off + 3, none⟩ = some (.bool v.ab) ∧ w'.cell? ⟨(a.add (k * 7)).block, (a.add (k * 7)).off + 4, none⟩ = some (.slice v.A1 v.is.length v.c1) ∧ w'.cell? ⟨(a.add (k * 7)).block, (a.add (k * 7)).off + 5, none⟩ = some (.slice v.A2 v.fs.length v.c2) ∧ w'.cell? ⟨(a.add (k * 7)).block, (a.add (k * 7)).off + 6, none⟩ = some (.slice v.A3 v.ms.length v.c3) ∧ w'.cell? ⟨w.heap.size, 0, none⟩ = some (.slice (some a) n x.c1))) (by kernel_rfl) ?_ (fun hHeld => ?_)
     ·exact ⟨c0, c1, c2, c3, c4, c5, c6, g0⟩
     refine tkp 0 rfl ?_
     refine tkp 1 rfl ?_
     refine tkp 2 rfl ?_
     refine tkp 3 rfl ?_
     refine tkp 4 rfl ?_
     refine rdy 5 rfl (fun K hK => ?_)
     go_simp
     refine (HCL.out _ (by first | exact HB.out | exact overD HB.out)).mono ?_; rintro e v1 ⟨he, hb⟩; rw [ho] at he; subst he; have k1 : Below W.heap.size W v1 := (by first | exact then' HB.out hb | exact then' (overD HB.out) hb); have j0 := HCE.out _ k1; rw [HE.out] at j0; obtain ⟨a1, q1, _, e0, e1, e2, e3, e4, e5, e6⟩ := cl_at (HR.out.below k1) HY.out; rw [HE.out] at q1; cases q1; have K1 := zh k1; clear hb k1; go_wp2_with fail
     refine hK.out _ _ ⟨e0, e1, e2, e3, e4, e5, e6, j0⟩ (fun hHeld => ?_)
     clear hK K
     try simp only [puts]
     refine tkp 6 rfl ?_
     refine tkp 7 rfl ?_
     refine tkp 8 rfl ?_
     refine tkp 9 rfl ?_
     refine tkp 10 rfl ?_
     refine tup 11 rfl ?_
     refine tup 12 rfl ?_
     refine tup 13 rfl ?_
     refine tup 14 rfl ?_
     refine tup 15 rfl ?_
     refine tup 16 rfl ?_
     refine tup 17 rfl ?_
     refine tup 18 rfl ?_
     refine tup 19 rfl ?_
     refine tup 20 rfl ?_
     refine tup 21 rfl ?_
     refine tup 22 rfl ?_
     refine tup 23 rfl ?_
     refine tup 24 rfl ?_
     refine tkp 25 rfl ?_
     refine tkp 26 rfl ?_
     refine wpAnyH_done (by kernel_rfl) ?_ _
     go_wp2
     go_roundw
     case rel => exact ⟨k + 1, by go_num, by omega, HRN.out, HRL.out, K1.out⟩
     case measure => simp [intOf]; omega
    ·obtain ⟨m, rfl⟩ : ∃ m, k = m + 1 := ⟨k - 1, by omega⟩
     have h0 : decide (0 < m + 1) = true := decide_eq_true (by omega)
     have h0I : decide ((0 : Int) < (m : Int) + 1) = true := decide_eq_true (by omega)
     have hkI : (m : Int) < (n : Int) := by omega
     have hsub : IntKind.i64.wrap (m : Int) = (m : Int) := IntWalk.i64_in _ (by omega)
     have hkJ : (m : Int) + 1 < (n : Int) := by omega
     have hk0 : (0 : Int) ≤ (m : Int) + 1 := by omega
     have htn : ((m : Int) + 1).toNat = m + 1 := by omega
     obtain ⟨u, hx⟩ : ∃ u, x.cs[m]? = some u := ⟨x.cs[m]'(by rw [← HN.out]; omega), List.getElem?_eq_getElem _⟩
     obtain ⟨a, ea, ha, c0, c1, c2, c3, c4, c5, c6⟩ := cl_at (HR.out.below hbw) hx
     obtain ⟨a', ea1, _, d0, d1, d2, d3, d4, d5, d6⟩ := cl_at (HR.out.below hbw) hy
     rw [ea] at ea1; cases ea1
     have ea2 : a.add ((m + 1) * 7) = ⟨a.block, a.off + (m + 1) * 7, none⟩ := by unfold Addr.add; rw [if_neg (by omega)]
     rw [ea2] at d0 d1 d2 d3 d4 d5 d6
     dsimp only at d0 d1 d2 d3 d4 d5 d6
     rw [ea] at g0
     have HRF0 := zh (fun h => HF2.out m u v hx hy h)
     have HRN := zh (show ∀ j c, j < m + 1 + 1 → x.cs[j]? = some c → orderC c = true from fun j c hj h1 => by
      rcases Nat.lt_succ_iff_lt_or_eq.1 hj with h3 | rfl
      ·exact HA.out j c h3 h1
      ·rw [hy] at h1; cases h1; exact ho)
     have HRL0 := zh (show ltC u v = true → ∀ j a b, j + 1 < m + 1 + 1 → x.cs[j]? = some a → x.cs[j + 1]? = some b → ltC a b = true from fun h j a b hj h1 h2 => by
      rcases Nat.lt_succ_iff_lt_or_eq.1 (Nat.lt_of_succ_lt_succ hj) with h3 | rfl
      ·exact HA2.out j a b (by omega) h1 h2
      ·rw [hx] at h1; rw [hy] at h2; cases h1; cases h2; exact h)
     have HX := zh hx; have HY := zh hy; have HE := zh ea
     clear hx hy ea hk hz
     cases hlt2 : ltC u v with
     | false =>
      have HRF := zh (HRF0.out hlt2)
      have l1 : Op.bytesLess u.nm v.nm = false := by rw [less_mk]; exact hlt2
      clear HRF0 HRL0
      go_wp2_with fail
      refine wp_region_held_drew (S := (fun w' => w'.cell? (a.add (m * 7)) = some (.string ⟨u.nm.toArray⟩) ∧ w'.cell? ⟨a.block, a.off + (m + 1) * 7, none⟩ = some (.string ⟨v.nm.toArray⟩) ∧ w'.cell? ⟨a.block, a.off + (m + 1) * 7 + 1, none⟩ = some (.string ⟨v.su.toArray⟩) ∧ w'.cell? ⟨a.block, a.off + (m + 1) * 7 + 2, none⟩ = some (.bool v.fc) ∧ w'.cell? ⟨a.block, a.off + (m + 1) * 7 + 3, none⟩ = some (.bool v.ab) ∧ w'.cell? ⟨a.block, a.off + (m + 1) * 7 + 4, none⟩ = some (.slice v.A1 v.is.length v.c1) ∧ w'.cell? ⟨a.block, a.off + (m + 1) * 7 + 5, none⟩ = some (.slice v.A2 v.fs.length v.c2) ∧ w'.cell? ⟨a.block, a.off + (m + 1) * 7 + 6, none⟩ = some (.slice v.A3 v.ms.length v.c3) ∧ w'.cell? ⟨w.heap.size, 0, none⟩ = some (.slice (some a) n x.c1))) (by kernel_rfl) ?_ (fun hHeld => ?_)
      ·exact ⟨c0, d0, d1, d2, d3, d4, d5, d6, g0⟩
      refine tkp 0 rfl ?_
      refine tkp 1 rfl ?_
      refine tkp 2 rfl ?_
      refine tkp 3 rfl ?_
      refine tkp 4 rfl ?_
      refine rdy 5 rfl (fun K hK => ?_)
      go_simp
      refine (HCL.out _ (by first | exact HB.out | exact overD HB.out)).mono ?_; rintro e v1 ⟨he, hb⟩; rw [ho] at he; subst he; have k1 : Below W.heap.size W v1 := (by first | exact then' HB.out hb | exact then' (overD HB.out) hb); have j0 := HCE.out _ k1; rw [HE.out] at j0; obtain ⟨a1, q1, _, e0, e1, e2, e3, e4, e5, e6⟩ := cl_at (HR.out.below k1) HX.out; rw [HE.out] at q1; cases q1; obtain ⟨a1, q1, _, f0, f1, f2, f3, f4, f5, f6⟩ := cl_at (HR.out.below k1) HY.out; rw [HE.out] at q1; cases q1; rw [ea2] at f0 f1 f2 f3 f4 f5 f6; dsimp only at f0 f1 f2 f3 f4 f5 f6; have K1 := zh k1; clear hb k1; go_wp2_with fail
      refine hK.out _ _ ⟨e0, f0, f1, f2, f3, f4, f5, f6, j0⟩ (fun hHeld => ?_)
      clear hK K
      try simp only [puts]
      refine tkp 6 rfl ?_
      refine tkp 7 rfl ?_
      refine tkp 8 rfl ?_
      refine tkp 9 rfl ?_
      refine tkp 10 rfl ?_
      refine tkp 11 rfl ?_
      refine tkp 12 rfl ?_
      refine tkp 13 rfl ?_
      refine tkp 14 rfl ?_
      refine tkp 15 rfl ?_
      refine tkp 16 rfl ?_
      refine tkp 17 rfl ?_
      refine tkp 18 rfl ?_
      refine tkp 19 rfl ?_
      refine tkp 20 rfl ?_
      refine tkp 21 rfl ?_
      refine tkp 22 rfl ?_
      refine tkp 23 rfl ?_
      refine tkp 24 rfl ?_
      refine tkp 25 rfl ?_
      refine tkp 26 rfl ?_
      refine wpAnyH_done (by kernel_rfl) ?_ _
      go_wp2
      go_ret
      exact ⟨by rw [HRF.out]; rfl, HAL.out.trans (K1.out.mono HAL.out.size)⟩
     | true =>
      have HRL := zh (HRL0.out hlt2)
      have l1 : Op.bytesLess u.nm v.nm = true := by rw [less_mk]; exact hlt2
      clear HRF0 HRL0
      go_wp2_with fail
      refine wp_region_held_drew (S := (fun w' => w'.cell? (a.add (m * 7)) = some (.string ⟨u.nm.toArray⟩) ∧ w'.cell? ⟨a.block, a.off + (m + 1) * 7, none⟩ = some (.string ⟨v.nm.toArray⟩) ∧ w'.cell? ⟨a.block, a.off + (m + 1) * 7 + 1, none⟩ = some (.string ⟨v.su.toArray⟩) ∧ w'.cell? ⟨a.block, a.off + (m + 1) * 7 + 2, none⟩ = some (.bool v.fc) ∧ w'.cell? ⟨a.block, a.off + (m + 1) * 7 + 3, none⟩ = some (.bool v.ab) ∧ w'.cell? ⟨a.block, a.off + (m + 1) * 7 + 4, none⟩ = some (.slice v.A1 v.is.length v.c1) ∧ w'.cell? ⟨a.block, a.off + (m + 1) * 7 + 5, none⟩ = some (.slice v.A2 v.fs.length v.c2) ∧ w'.cell? ⟨a.block, a.off + (m + 1) * 7 + 6, none⟩ = some (.slice v.A3 v.ms.length v.c3) ∧ w'.cell? ⟨w.heap.size, 0, none⟩ = some (.slice (some a) n x.c1))) (by kernel_rfl) ?_ (fun hHeld => ?_)
      ·exact ⟨c0, d0, d1, d2, d3, d4, d5, d6, g0⟩
      refine tkp 0 rfl ?_
      refine tkp 1 rfl ?_
      refine tkp 2 rfl ?_
      refine tkp 3 rfl ?_
      refine tkp 4 rfl ?_
      refine rdy 5 rfl (fun K hK => ?_)
      go_simp
      refine (HCL.out _ (by first | exact HB.out | exact overD HB.out)).mono ?_; rintro e v1 ⟨he, hb⟩; rw [ho] at he; subst he; have k1 : Below W.heap.size W v1 := (by first | exact then' HB.out hb | exact then' (overD HB.out) hb); have j0 := HCE.out _ k1; rw [HE.out] at j0; obtain ⟨a1, q1, _, e0, e1, e2, e3, e4, e5, e6⟩ := cl_at (HR.out.below k1) HX.out; rw [HE.out] at q1; cases q1; obtain ⟨a1, q1, _, f0, f1, f2, f3, f4, f5, f6⟩ := cl_at (HR.out.below k1) HY.out; rw [HE.out] at q1; cases q1; rw [ea2] at f0 f1 f2 f3 f4 f5 f6; dsimp only at f0 f1 f2 f3 f4 f5 f6; have K1 := zh k1; clear hb k1; go_wp2_with fail
      refine hK.out _ _ ⟨e0, f0, f1, f2, f3, f4, f5, f6, j0⟩ (fun hHeld => ?_)
      clear hK K
      try simp only [puts]
      refine tkp 6 rfl ?_
      refine tkp 7 rfl ?_
      refine tkp 8 rfl ?_
      refine tkp 9 rfl ?_
      refine tkp 10 rfl ?_
      refine tkp 11 rfl ?_
      refine tkp 12 rfl ?_
      refine tkp 13 rfl ?_
      refine tkp 14 rfl ?_
      refine tkp 15 rfl ?_
      refine tkp 16 rfl ?_
      refine tkp 17 rfl ?_
      refine tkp 18 rfl ?_
      refine tkp 19 rfl ?_
      refine tkp 20 rfl ?_
      refine tkp 21 rfl ?_
      refine tkp 22 rfl ?_
      refine tkp 23 rfl ?_
      refine tkp 24 rfl ?_
      refine tkp 25 rfl ?_
      refine tkp 26 rfl ?_
      refine wpAnyH_done (by kernel_rfl) ?_ _
      go_wp2
      go_roundw
      case rel => exact ⟨(m + 1) + 1, by go_num, by omega, HRN.out, HRL.out, K1.out⟩
      case measure => simp [intOf]; omega
  ·have hltI : ¬ (k : Int) < (n : Int) := by omega
   have HRT := zh (HT.out (fun j c h1 => HA.out j c (by have := (List.getElem?_eq_some_iff.1 h1).1; rw [← HN.out] at this; omega) h1) (fun j a b h1 h2 => HA2.out j a b (by have := (List.getElem?_eq_some_iff.1 h2).1; rw [← HN.out] at this; omega) h1 h2))
   clear hk hlt
   go_wp2
   go_ret
   exact ⟨by rw [HRT.out]; rfl, HAL.out.trans (HB.out.mono HAL.out.size)⟩
end Go.Proofs.Ytdifmgeicnndfaa.prg
namespace Go.Proofs.Ytdifmgeicnndfaa.prg
open Go.RowKit
open words kindp opp op kind word
set_option maxRecDepth 100000
set_option maxHeartbeats 16000000
set_option linter.all false
theorem long_top {x : PrM} (h : 64 < x.cs.length ∨ 64 < x.ns.length) : longP x = true := by
 unfold longP fewNamesB
 rcases h with h | h
 ·rw [decide_eq_true h]; simp
 ·rw [decide_eq_false (by omega : ¬ x.ns.length ≤ 64)]; rfl
theorem long_class {x : PrM} {j : Nat} {c : ClM} (h1 : x.cs[j]? = some c) (h : fewB c = false) : longP x = true := by
 unfold longP
 rw [show x.cs.all fewB = false from by rw [List.all_eq_false]; exact ⟨c, List.mem_of_getElem? h1, by rw [h]; simp⟩]; simp
theorem long_name {x : PrM} {j : Nat} {s : Tx} (h1 : x.ns[j]? = some s) (h : ¬ s.length ≤ 64) : longP x = true := by
 unfold longP fewNamesB
 rw [show (x.ns.all fun s => decide (s.length ≤ 64)) = false from by rw [List.all_eq_false]; exact ⟨s, List.mem_of_getElem? h1, by rw [decide_eq_false h]; simp⟩]; simp
theorem long_not {x : PrM} (h1 : x.cs.length ≤ 64) (h2 : x.ns.length ≤ 64) (h3 : ∀ (j : Nat) (c : ClM), x.cs[j]? = some c → fewB c = true) (h4 : ∀ (j : Nat) (s : Tx), x.ns[j]? = some s → s.length ≤ 64) : longP x = false := by
 unfold longP fewNamesB
 have e1 : x.cs.all fewB = true := by
  rw [List.all_eq_true]; intro c hc
  obtain ⟨j, hj⟩ := List.mem_iff_getElem?.1 hc
  exact h3 j c hj
 have e2 : (x.ns.all fun s => decide (s.length ≤ 64)) = true := by
  rw [List.all_eq_true]; intro c hc
  obtain ⟨j, hj⟩ := List.mem_iff_getElem?.1 hc
  exact decide_eq_true (h4 j c hj)
 rw [e1, e2, decide_eq_true h2, decide_eq_false (by omega : ¬ 64 < x.cs.length)]; rfl
theorem long_r (x : PrM) (w : World) (hk : PrOk w x) (hb : PrBd x) : Calls Try.prog 82 #[.agg (prC x).toArray] w fun e w' => e = .returned (.bool (longP x)) ∧ Below w.heap.size w w' := by
 obtain ⟨W, hW⟩ : ∃ W, W = w.alloc (.cells (prC x).toArray 27) := ⟨_, rfl⟩
 have hal : Below w.heap.size w W := by rw [hW]; exact (Below.refl _ w).alloc (Nat.le_refl _) _
 have HAL := zh hal
 have hblk : W.heap[w.heap.size]? = some (.cells (prC x).toArray 27 (0, 0)) := by rw [hW]; exact heap_alloc_new w _
 have HBK := zh hblk; have HLT := zh (blk_lt hblk)
 obtain ⟨x0_0, x0_1, x0_2, x0_3, x0_4⟩ := pr_cells hblk
 have hkW := hk.below hal
 have HR1 := zh hkW.1.2; have HR2 := zh hkW.2.1.2
 have hl1 : x.cs.length ≤ 281474976710656 := by have := hb.1.1; omega
 have hl2 : x.ns.length ≤ 281474976710656 := by have := hb.2.1.1; omega
 have HZ := zh hb.2.1.2; have HZ1 := zh hb.1.2
 obtain ⟨R, hR⟩ : ∃ R, R = longP x := ⟨_, rfl⟩
 rw [← hR]
 obtain ⟨n1, hn1⟩ : ∃ n, n = x.cs.length := ⟨_, rfl⟩
 obtain ⟨n2, hn2⟩ : ∃ n, n = x.ns.length := ⟨_, rfl⟩
 have HF0 := zh (show 64 < n1 ∨ 64 < n2 → R = true from fun h => by rw [hR]; rw [hn1, hn2] at h; exact long_top h)
 have HF1 := zh (show ∀ j c, x.cs[j]? = some c → fewB c = false → R = true from fun j c e1 e2 => by rw [hR]; exact long_class e1 e2)
 have HF2 := zh (show ∀ (j : Nat) (s : Tx), x.ns[j]? = some s → ¬ s.length ≤ 64 → R = true from fun j s e1 e2 => by rw [hR]; exact long_name e1 e2)
 have HT := zh (show n1 ≤ 64 → n2 ≤ 64 → (∀ (j : Nat) (c : ClM), x.cs[j]? = some c → fewB c = true) → (∀ (j : Nat) (s : Tx), x.ns[j]? = some s → s.length ≤ 64) → R = false from fun e1 e2 e3 e4 => by rw [hR]; exact long_not (by omega) (by omega) e3 e4)
 have HCE := zh (show ∀ v : World, Below W.heap.size W v → v.cell? ⟨w.heap.size, 0, none⟩ = some (.slice x.A1 n1 x.c1) ∧ v.cell? ⟨w.heap.size, 1, none⟩ = some (.slice x.A2 n2 x.c2) from fun v hv => by
  obtain ⟨q0, q1, _⟩ := pr_cells ((hv.block _ HLT.out).trans HBK.out)
  rw [hn1, hn2]; exact ⟨q0, q1⟩)
 rw [← hn1] at hl1; rw [← hn2] at hl2
 have n1I : (n1 : Int) ≤ 281474976710656 := by omega
 have n2I : (n2 : Int) ≤ 281474976710656 := by omega
 have HN1 := zh hn1; have HN2 := zh hn2
 unfold prC at hW ⊢
 rw [← hn1, ← hn2] at hW ⊢
 rw [← hn1] at x0_0; rw [← hn2] at x0_1
 try dsimp only at hW ⊢
 have HW := zh hW
 clear hal hblk hW hkW hk hn1 hn2 hl1 hl2 hb hR
 by_cases t1 : 64 < n1
 ·have t1I : (64 : Int) < (n1 : Int) := by omega
  have HRF := zh (HF0.out (.inl t1))
  clear t1
  go_enter Try.func82, Try.ntmps82
  go_wp2_with fail
  rw [← HW.out]
  (try go_wp2_with fail)
  go_ret
  exact ⟨by rw [HRF.out]; rfl, HAL.out⟩
 have t1I : ¬ (64 : Int) < (n1 : Int) := by omega
 by_cases t2 : 64 < n2
 ·have t2I : (64 : Int) < (n2 : Int) := by omega
  have HRF := zh (HF0.out (.inr t2))
  clear t1 t2
  go_enter Try.func82, Try.ntmps82
  go_wp2_with fail
  rw [← HW.out]
  (try go_wp2_with fail)
  go_ret
  exact ⟨by rw [HRF.out]; rfl, HAL.out⟩
 have t2I : ¬ (64 : Int) < (n2 : Int) := by omega
 have HT0 := zh (HT.out (by omega) (by omega))
 clear t1 t2
 go_enter Try.func82, Try.ntmps82
 go_wp2_with fail
 rw [← HW.out]
 (try go_wp2_with fail)
 go_loopw [3] (fun i wr => ∃ k : Nat, i = .int .i64 (k : Int) ∧ k ≤ n1 ∧ (∀ j c, j < k → x.cs[j]? = some c → fewB c = true) ∧ Below W.heap.size W wr) (fun i _ => n1 - (intOf i).toNat)
 case atStart => exact ⟨0, rfl, Nat.zero_le _, fun j _ h => by omega, Below.refl _ _⟩
 case round =>
  obtain ⟨k, rfl, hk, hall, hbw⟩ := hrel
  obtain ⟨y1, y1_eq⟩ : ∃ v, v = wr := ⟨_, rfl⟩
  subst y1_eq
  have HA1 := zh hall; have HB1 := zh hbw
  obtain ⟨g0, g1⟩ := HCE.out _ hbw
  clear hall
  by_cases hlt : k < n1
  ·have hltI : (k : Int) < (n1 : Int) := by omega
   obtain ⟨u, hx⟩ : ∃ u, x.cs[k]? = some u := ⟨x.cs[k]'(by rw [← HN1.out]; exact hlt), List.getElem?_eq_getElem _⟩
   obtain ⟨a, ea, ha, c0, c1, c2, c3, c4, c5, c6⟩ := cl_at (HR1.out.below hbw) hx
   rw [ea] at g0
   have HFX := zh (fun h => HF1.out k u hx h)
   have HNX := zh (show fewB u = true → ∀ j c, j < k + 1 → x.cs[j]? = some c → fewB c = true from fun h j c hj h1 => by
    rcases Nat.lt_succ_iff_lt_or_eq.1 hj with h3 | rfl
    ·exact HA1.out j c h3 h1
    ·rw [hx] at h1; cases h1; exact h)
   obtain ⟨W2, hW2⟩ : ∃ v, v = y1.alloc (.cells (clC u).toArray 43) := ⟨_, rfl⟩
   have hb2 : Below W.heap.size W W2 := by rw [hW2]; exact hbw.alloc hbw.size _
   have hblk2 : W2.heap[y1.heap.size]? = some (.cells (clC u).toArray 43 (0, 0)) := by rw [hW2]; exact heap_alloc_new y1 _
   obtain ⟨l0, l1, l2, l3, l4, l5, l6⟩ := cl_cells hblk2
   obtain ⟨p0, p1⟩ := HCE.out _ hb2
   have HB2 := zh hb2
   have q1 := (HZ1.out u (List.mem_of_getElem? hx)).2.2.1.1
   have q2 := (HZ1.out u (List.mem_of_getElem? hx)).2.2.2.1.1
   have q3 := (HZ1.out u (List.mem_of_getElem? hx)).2.2.2.2.1
   unfold clC at hW2
   try dsimp only at hW2
   obtain ⟨m1, hm1⟩ : ∃ n, n = u.is.length := ⟨_, rfl⟩
   obtain ⟨m2, hm2⟩ : ∃ n, n = u.fs.length := ⟨_, rfl⟩
   obtain ⟨m3, hm3⟩ : ∃ n, n = u.ms.length := ⟨_, rfl⟩
   have hfw : fewB u = (decide (m1 ≤ 8) && (decide (m2 ≤ 32) && decide (m3 ≤ 32))) := by rw [hm1, hm2, hm3]; rfl
   rw [← hm1] at c4 l4 q1; rw [← hm2] at c5 l5 q2; rw [← hm3] at c6 l6 q3
   rw [← hm1, ← hm2, ← hm3] at hW2
   have HW2 := zh hW2
   clear hW2 hblk2 hb2 hm1 hm2 hm3 hx ea hk hlt
   have m1I : (m1 : Int) ≤ 281474976710656 := by omega
   have m2I : (m2 : Int) ≤ 281474976710656 := by omega
   have m3I : (m3 : Int) ≤ 281474976710656 := by omega
   clear q1 q2 q3
   by_cases s1 : m1 ≤ 8
   ·have s1I : ¬ (8 : Int) < (m1 : Int) := by omega
    by_cases s2 : m2 ≤ 32
    ·have s2I : ¬ (32 : Int) < (m2 : Int) := by omega
     by_cases s3 : m3 ≤ 32
     ·have s3I : ¬ (32 : Int) < (m3 : Int) := by omega
      have HRN := zh (HNX.out (by rw [hfw, decide_eq_true s1, decide_eq_true s2, decide_eq_true s3]; rfl))
      clear s1 s2 s3 hfw HFX HNX
      go_wp2_with fail
      rw [← HW2.out]
      (try go_wp2_with fail)
      go_roundw
      case rel => exact ⟨k + 1, by go_num, by omega, HRN.out, HB2.out⟩
      case measure => simp [intOf]; omega
     ·have s3I : (32 : Int) < (m3 : Int) := by omega
      have HRF := zh (HFX.out (by rw [hfw, decide_eq_true s1, decide_eq_true s2, decide_eq_false s3]; simp))
      clear s3 hfw HFX HNX
      go_wp2_with fail
      rw [← HW2.out]
      (try go_wp2_with fail)
      go_ret
      exact ⟨by rw [HRF.out]; rfl, HAL.out.trans (HB2.out.mono HAL.out.size)⟩
    ·have s2I : (32 : Int) < (m2 : Int) := by omega
     have HRF := zh (HFX.out (by rw [hfw, decide_eq_true s1, decide_eq_false s2]; simp))
     clear s2 hfw HFX HNX
     go_wp2_with fail
     rw [← HW2.out]
     (try go_wp2_with fail)
     go_ret
     exact ⟨by rw [HRF.out]; rfl, HAL.out.trans (HB2.out.mono HAL.out.size)⟩
   ·have s1I : (8 : Int) < (m1 : Int) := by omega
    have HRF := zh (HFX.out (by rw [hfw, decide_eq_false s1]; simp))
    clear s1 hfw HFX HNX
    go_wp2_with fail
    rw [← HW2.out]
    (try go_wp2_with fail)
    go_ret
    exact ⟨by rw [HRF.out]; rfl, HAL.out.trans (HB2.out.mono HAL.out.size)⟩
  ·have hltI : ¬ (k : Int) < (n1 : Int) := by omega
   have HT1 := zh (HT0.out (fun j c h1 => HA1.out j c (by have := (List.getElem?_eq_some_iff.1 h1).1; rw [← HN1.out] at this; omega) h1))
   clear hk hlt
   go_wp2_with fail
   go_loopw [5] (fun i wr => ∃ k : Nat, i = .int .i64 (k : Int) ∧ k ≤ n2 ∧ (∀ (j : Nat) (s : Tx), j < k → x.ns[j]? = some s → s.length ≤ 64) ∧ Below W.heap.size W wr) (fun i _ => n2 - (intOf i).toNat)
   case atStart => exact ⟨0, rfl, Nat.zero_le _, fun j _ h => by omega, HB1.out⟩
   case round =>
    obtain ⟨k, rfl, hk, hall, hbw⟩ := hrel
    obtain ⟨y2, y2_eq⟩ : ∃ v, v = wr := ⟨_, rfl⟩
    subst y2_eq
    have HA2 := zh hall; have HB2 := zh hbw
    obtain ⟨g0, g1⟩ := HCE.out _ hbw
    clear hall
    by_cases hlt : k < n2
    ·have hltI : (k : Int) < (n2 : Int) := by omega
     obtain ⟨u, hx⟩ : ∃ u, x.ns[k]? = some u := ⟨x.ns[k]'(by rw [← HN2.out]; exact hlt), List.getElem?_eq_getElem _⟩
     obtain ⟨a, ea, ha, c0⟩ := (HR2.out.below hbw).at_ (sx_get hx)
     rw [ea] at g1
     have q1 := HZ.out u (List.mem_of_getElem? hx)
     have HFX := zh (fun h => HF2.out k u hx h)
     have HNX := zh (show u.length ≤ 64 → ∀ (j : Nat) (s : Tx), j < k + 1 → x.ns[j]? = some s → s.length ≤ 64 from fun h j c hj h1 => by
      rcases Nat.lt_succ_iff_lt_or_eq.1 hj with h3 | rfl
      ·exact HA2.out j c h3 h1
      ·rw [hx] at h1; cases h1; exact h)
     have hsz : (⟨u.toArray⟩ : ByteArray).size = u.length := mk_len u
     obtain ⟨m1, hm1⟩ : ∃ n, n = u.length := ⟨_, rfl⟩
     rw [← hm1] at hsz HFX HNX q1
     have m1I : (m1 : Int) ≤ 281474976710656 := by omega
     clear hm1 hx ea hk hlt q1
     by_cases s1 : m1 ≤ 64
     ·have s1I : ¬ (64 : Int) < (m1 : Int) := by omega
      have HRN := zh (HNX.out s1)
      clear s1 HFX HNX
      go_wp2
      go_roundw
      case rel => exact ⟨k + 1, by go_num, by omega, HRN.out, HB2.out⟩
      case measure => simp [intOf]; omega
     ·have s1I : (64 : Int) < (m1 : Int) := by omega
      have HRF := zh (HFX.out s1)
      clear s1 HFX HNX
      go_wp2
      go_ret
      exact ⟨by rw [HRF.out]; rfl, HAL.out.trans (HB2.out.mono HAL.out.size)⟩
    ·have hltI : ¬ (k : Int) < (n2 : Int) := by omega
     have HRT := zh (HT1.out (fun j c h1 => HA2.out j c (by have := (List.getElem?_eq_some_iff.1 h1).1; rw [← HN2.out] at this; omega) h1))
     clear hk hlt
     go_wp2
     go_ret
     exact ⟨by rw [HRT.out]; rfl, HAL.out.trans (HB2.out.mono HAL.out.size)⟩
end Go.Proofs.Ytdifmgeicnndfaa.prg
namespace Go.Proofs.Ytdifmgeicnndfaa.prg
open Go.RowKit
open words kindp opp op kind word
set_option maxRecDepth 100000
set_option maxHeartbeats 16000000
set_option linter.all false
def okM (x : ClM) (m : MeM) : Bool := methodB m && ((!x.fc || m.ab) && (x.ab || !m.ab))
def topB (x : ClM) : Bool := clsB x.nm && (((x.su == []) || (!(x.su == x.nm) && clsB x.su)) && (!x.fc || (x.ab && ((x.su == []) && !decide (0 < x.fs.length)))))
theorem class_iff (x : ClM) : classB x = true ↔ (topB x = true ∧ (∀ s ∈ x.is, clsB s = true) ∧ (∀ f ∈ x.fs, fieldB f = true) ∧ (∀ m ∈ x.ms, okM x m = true)) := by
 unfold classB topB okM superB bareIfaceB
 rw [show decide (x.fs.length = 0) = !decide (0 < x.fs.length) from by by_cases h : x.fs.length = 0 <;> simp [h]; try omega]
 generalize decide (0 < x.fs.length) = z
 generalize (x.su == []) = z1
 generalize (!(x.su == x.nm) && clsB x.su) = z2
 generalize clsB x.nm = z3
 cases x.fc <;> cases x.ab <;> cases z <;> cases z1 <;> cases z2 <;> cases z3 <;> simp [List.all_eq_true, List.any_eq_false] <;> grind
theorem class_r (x : ClM) (w : World) (hk : ClOk w x) (hb : ClBd x) (hmm : ∀ m ∈ x.ms, ∀ z : World, Below w.heap.size w z → Calls Try.prog 123 #[.agg (meC m).toArray] z fun e w' => e = .returned (.bool (methodB m)) ∧ Below z.heap.size z w') : Calls Try.prog 83 #[.agg (clC x).toArray] w fun e w' => e = .returned (.bool (classB x)) ∧ Below w.heap.size w w' := by
 obtain ⟨W, hW⟩ : ∃ W, W = w.alloc (.cells (clC x).toArray 43) := ⟨_, rfl⟩
 have hal : Below w.heap.size w W := by rw [hW]; exact (Below.refl _ w).alloc (Nat.le_refl _) _
 have HAL := zh hal
 have hblk : W.heap[w.heap.size]? = some (.cells (clC x).toArray 43 (0, 0)) := by rw [hW]; exact heap_alloc_new w _
 have HBK := zh hblk; have HLT := zh (blk_lt hblk)
 have K0 := zh (Below.refl W.heap.size W)
 have hkW := hk.below hal
 have HR1 := zh hkW.1.2; have HR2 := zh hkW.2.1.2; have HR3 := zh hkW.2.2.1.2
 have hq1 : x.nm.length ≤ 281474976710656 := by have := hb.1; omega
 have hq2 : x.su.length ≤ 281474976710656 := by have := hb.2.1; omega
 have HC1 := zh (fun z => cls_rw x.nm z hq1)
 have HC2 := zh (fun z => cls_rw x.su z hq2)
 have HC3 := zh (show ∀ s ∈ x.is, ∀ z, Calls Try.prog 120 #[.string ⟨s.toArray⟩] z fun e w' => e = .returned (.bool (clsB s)) ∧ Below z.heap.size z w' from fun s hs z => cls_rw s z (by have := hb.2.2.1.2 s hs; omega))
 have HC4 := zh (show ∀ f ∈ x.fs, ∀ z, Calls Try.prog 121 #[.string ⟨f.nm.toArray⟩] z fun e w' => e = .returned (.bool (nmL f.nm)) ∧ Below z.heap.size z w' from fun f hf z => name_rw f.nm z (by have := (hb.2.2.2.1.2 f hf).1; omega))
 have HC5 := zh (show ∀ f ∈ x.fs, ∀ z, Calls Try.prog 122 #[.agg #[.int .i64 f.k, .string ⟨f.cl.toArray⟩]] z fun e w' => e = .returned (.bool (rightT (f.k, f.cl))) ∧ Below z.heap.size z w' from fun f hf z => kind.right_r f.k f.cl z (by have := (hb.2.2.2.1.2 f hf).2; omega))
 have HC6 := zh (show ∀ m ∈ x.ms, ∀ z : World, Below W.heap.size W z → Calls Try.prog 123 #[.agg (meC m).toArray] z fun e w' => e = .returned (.bool (methodB m)) ∧ Below z.heap.size z w' from fun m hm z hz => hmm m hm z (hal.trans (hz.mono hal.size)))
 obtain ⟨R, hR⟩ : ∃ R, R = classB x := ⟨_, rfl⟩
 rw [← hR]
 have hiff := class_iff x
 rw [← hR] at hiff
 have hno : ∀ {P : Prop}, ¬ P → (R = true → P) → R = false := fun h1 h2 => by cases hr : R with
  | false => rfl
  | true => exact absurd (h2 hr) h1
 have HF0 := zh (show topB x = false → R = false from fun h => hno (by rw [h]; simp) (fun hr => (hiff.1 hr).1))
 have HF1 := zh (show ∀ (j : Nat) (s : Tx), x.is[j]? = some s → clsB s = false → R = false from fun j s e1 e2 => hno (by rw [e2]; simp) (fun hr => (hiff.1 hr).2.1 s (List.mem_of_getElem? e1)))
 have HF2 := zh (show ∀ (j : Nat) (f : FiM), x.fs[j]? = some f → fieldB f = false → R = false from fun j s e1 e2 => hno (by rw [e2]; simp) (fun hr => (hiff.1 hr).2.2.1 s (List.mem_of_getElem? e1)))
 have HF3 := zh (show ∀ (j : Nat) (m : MeM), x.ms[j]? = some m → okM x m = false → R = false from fun j s e1 e2 => hno (by rw [e2]; simp) (fun hr => (hiff.1 hr).2.2.2 s (List.mem_of_getElem? e1)))
 have hget : ∀ {α : Type} {l : List α} {P : α → Prop}, (∀ (j : Nat) (s : α), l[j]? = some s → P s) → ∀ s ∈ l, P s := fun h s hs => by
  obtain ⟨j, hj⟩ := List.mem_iff_getElem?.1 hs
  exact h j s hj
 have HT := zh (show topB x = true → (∀ (j : Nat) (s : Tx), x.is[j]? = some s → clsB s = true) → (∀ (j : Nat) (f : FiM), x.fs[j]? = some f → fieldB f = true) → (∀ (j : Nat) (m : MeM), x.ms[j]? = some m → okM x m = true) → R = true from fun e0 e1 e2 e3 => hiff.2 ⟨e0, hget e1, hget e2, hget e3⟩)
 obtain ⟨n1, hn1⟩ : ∃ n, n = x.is.length := ⟨_, rfl⟩
 obtain ⟨n2, hn2⟩ : ∃ n, n = x.fs.length := ⟨_, rfl⟩
 obtain ⟨n3, hn3⟩ : ∃ n, n = x.ms.length := ⟨_, rfl⟩
 have HCE := zh (show ∀ v : World, Below W.heap.size W v → v.cell? ⟨w.heap.size, 0, none⟩ = some (.string ⟨x.nm.toArray⟩) ∧ v.cell? ⟨w.heap.size, 1, none⟩ = some (.string ⟨x.su.toArray⟩) ∧ v.cell? ⟨w.heap.size, 2, none⟩ = some (.bool x.fc) ∧ v.cell? ⟨w.heap.size, 3, none⟩ = some (.bool x.ab) ∧ v.cell? ⟨w.heap.size, 4, none⟩ = some (.slice x.A1 n1 x.c1) ∧ v.cell? ⟨w.heap.size, 5, none⟩ = some (.slice x.A2 n2 x.c2) ∧ v.cell? ⟨w.heap.size, 6, none⟩ = some (.slice x.A3 n3 x.c3) from fun v hv => by
  obtain ⟨q0, q1, q2, q3, q4, q5, q6⟩ := cl_cells ((hv.block _ HLT.out).trans HBK.out)
  rw [hn1, hn2, hn3]; exact ⟨q0, q1, q2, q3, q4, q5, q6⟩)
 obtain ⟨x0_0, x0_1, x0_2, x0_3, x0_4, x0_5, x0_6⟩ := HCE.out _ (Below.refl W.heap.size W)
 unfold topB at HF0 HT
 rw [← hn2] at HF0 HT
 generalize clsB x.nm = b1 at HC1 HF0 HT
 generalize clsB x.su = b2 at HC2 HF0 HT
 have n1I : (n1 : Int) ≤ 281474976710656 := by have := hb.2.2.1.1; omega
 have n2I : (n2 : Int) ≤ 281474976710656 := by have := hb.2.2.2.1.1; omega
 have n3I : (n3 : Int) ≤ 281474976710656 := by have := hb.2.2.2.2.1; omega
 have HN1 := zh hn1; have HN2 := zh hn2; have HN3 := zh hn3
 unfold clC at hW ⊢
 rw [← hn1, ← hn2, ← hn3] at hW ⊢
 try dsimp only at hW ⊢
 have HW := zh hW
 clear hal hblk hW hkW hk hb hmm hR hiff hno hget hn1 hn2 hn3 hq1 hq2
 go_enter Try.func83, Try.ntmps83
 go_wp2_with fail
 rw [← HW.out]
 (try go_wp2_with fail)
 refine (HC1.out _).mono ?_
 rintro e v1 ⟨rfl, hb⟩
 have K1 := zh (show Below W.heap.size W v1 from then' K0.out hb)
 obtain ⟨x1_0, x1_1, x1_2, x1_3, x1_4, x1_5, x1_6⟩ := HCE.out _ K1.out
 clear hb x0_0 x0_1 x0_2 x0_3 x0_4 x0_5 x0_6
 cases h0 : b1 with
 | false =>
  have HRF := zh (HF0.out (by simp [h0]))
  (try go_wp2_with fail)
  go_ret
  exact ⟨by rw [HRF.out]; rfl, HAL.out.trans (K1.out.mono HAL.out.size)⟩
 | true =>
  cases h1 : (x.su == []) with
  | false =>
   have g1 := e_empty h1
   go_wp2_with fail
   refine (HC2.out _).mono ?_
   rintro e v2 ⟨rfl, hb⟩
   have K2 := zh (show Below W.heap.size W v2 from then' K1.out hb)
   obtain ⟨x2_0, x2_1, x2_2, x2_3, x2_4, x2_5, x2_6⟩ := HCE.out _ K2.out
   clear hb x1_0 x1_1 x1_2 x1_3 x1_4 x1_5 x1_6
   cases h2 : b2 with
   | false =>
    have HRF := zh (HF0.out (by simp [h0, h1, h2]))
    (try go_wp2_with fail)
    go_ret
    exact ⟨by rw [HRF.out]; rfl, HAL.out.trans (K2.out.mono HAL.out.size)⟩
   | true =>
    cases h3 : (x.su == x.nm) with
    | false =>
     cases h4 : x.fc with
     | false =>
      have hfc : x.fc = false := h4
      cases h5 : x.ab with
      | false =>
       have hfa : x.ab = false := h5
       have HTT := zh (HT.out (by simp [h0, h1, h2, h3, h4, h5]))
       go_wp2_with fail
       go_loopw [3] (fun i wr => ∃ k : Nat, i = .int .i64 (k : Int) ∧ k ≤ n1 ∧ (∀ (j : Nat) (s : Tx), j < k → x.is[j]? = some s → clsB s = true) ∧ Below W.heap.size W wr) (fun i _ => n1 - (intOf i).toNat)
       case atStart => exact ⟨0, rfl, Nat.zero_le _, fun j _ h => by omega, K2.out⟩
       case round =>
        obtain ⟨k, rfl, hk, hall, hbw⟩ := hrel
        obtain ⟨y1, y1_eq⟩ : ∃ v, v = wr := ⟨_, rfl⟩
        subst y1_eq
        have HA1 := zh hall; have HB1 := zh hbw
        obtain ⟨g0, g1, g2, g3, g4, g5, g6⟩ := HCE.out _ hbw
        clear hall
        by_cases hlt : k < n1
        ·have hltI : (k : Int) < (n1 : Int) := by omega
         obtain ⟨u, hx⟩ : ∃ u, x.is[k]? = some u := ⟨x.is[k]'(by rw [← HN1.out]; exact hlt), List.getElem?_eq_getElem _⟩
         obtain ⟨a, ea, ha, c0⟩ := (HR1.out.below hbw).at_ (sx_get hx)
         rw [ea] at g4
         have HFX := zh (fun h => HF1.out k u hx h)
         have HNX := zh (show clsB u = true → ∀ (j : Nat) (s : Tx), j < k + 1 → x.is[j]? = some s → clsB s = true from fun h j c hj h1 => by
          rcases Nat.lt_succ_iff_lt_or_eq.1 hj with h3 | rfl
          ·exact HA1.out j c h3 h1
          ·rw [hx] at h1; cases h1; exact h)
         have hmem := List.mem_of_getElem? hx
         have HC := zh (HC3.out u hmem)
         clear hx ea hmem hk hlt
         go_wp2_with fail
         refine (HC.out _).mono ?_
         rintro e z ⟨rfl, hb⟩
         have KZ := zh (show Below W.heap.size W z from then' HB1.out hb)
         obtain ⟨g0, g1, g2, g3, g4, g5, g6⟩ := HCE.out _ KZ.out
         clear hb
         cases hc : clsB u with
         | false =>
          have HRF := zh (HFX.out (hc))
          (try go_wp2_with fail)
          go_ret
          exact ⟨by rw [HRF.out]; rfl, HAL.out.trans (KZ.out.mono HAL.out.size)⟩
         | true =>
          have HRN := zh (HNX.out (hc))
          (try go_wp2_with fail)
          go_roundw
          case rel => exact ⟨k + 1, by go_num, by omega, HRN.out, KZ.out⟩
          case measure => simp [intOf]; omega
        ·have hltI : ¬ (k : Int) < (n1 : Int) := by omega
         have HT1 := zh (HTT.out (fun j c h1 => HA1.out j c (by have := (List.getElem?_eq_some_iff.1 h1).1; rw [← HN1.out] at this; omega) h1))
         clear hk hlt
         go_wp2_with fail
         go_loopw [4] (fun i wr => ∃ k : Nat, i = .int .i64 (k : Int) ∧ k ≤ n2 ∧ (∀ (j : Nat) (s : FiM), j < k → x.fs[j]? = some s → fieldB s = true) ∧ Below W.heap.size W wr) (fun i _ => n2 - (intOf i).toNat)
         case atStart => exact ⟨0, rfl, Nat.zero_le _, fun j _ h => by omega, HB1.out⟩
         case round =>
          obtain ⟨k, rfl, hk, hall, hbw⟩ := hrel
          obtain ⟨y2, y2_eq⟩ : ∃ v, v = wr := ⟨_, rfl⟩
          subst y2_eq
          have HA2 := zh hall; have HB2 := zh hbw
          obtain ⟨g0, g1, g2, g3, g4, g5, g6⟩ := HCE.out _ hbw
          clear hall
          by_cases hlt : k < n2
          ·have hltI : (k : Int) < (n2 : Int) := by omega
           obtain ⟨u, hx⟩ : ∃ u, x.fs[k]? = some u := ⟨x.fs[k]'(by rw [← HN2.out]; exact hlt), List.getElem?_eq_getElem _⟩
           obtain ⟨a, ea, ha, c0, c1, c2, c3⟩ := fi_at (HR2.out.below hbw) hx
           rw [ea] at g5
           have HFX := zh (fun h => HF2.out k u hx h)
           have HNX := zh (show fieldB u = true → ∀ (j : Nat) (s : FiM), j < k + 1 → x.fs[j]? = some s → fieldB s = true from fun h j c hj h1 => by
            rcases Nat.lt_succ_iff_lt_or_eq.1 hj with h3 | rfl
            ·exact HA2.out j c h3 h1
            ·rw [hx] at h1; cases h1; exact h)
           have hmem := List.mem_of_getElem? hx
           have HC := zh (HC4.out u hmem); have HD := zh (HC5.out u hmem)
           obtain ⟨W2, hW2⟩ : ∃ v, v = y2.alloc (.cells (fiC u).toArray 92) := ⟨_, rfl⟩
           have hb2 : Below W.heap.size W W2 := by rw [hW2]; exact hbw.alloc hbw.size _
           have hblk2 : W2.heap[y2.heap.size]? = some (.cells (fiC u).toArray 92 (0, 0)) := by rw [hW2]; exact heap_alloc_new y2 _
           have HBK2 := zh hblk2; have HLT2 := zh (blk_lt hblk2)
           obtain ⟨l0, l1, l2, l3⟩ := fi_cells hblk2
           obtain ⟨p0, p1, p2, p3, p4, p5, p6⟩ := HCE.out _ hb2
           have J0 := zh hb2
           have I0 := zh (Below.refl W2.heap.size W2)
           have hfb : fieldB u = ((nmL u.nm && !(u.nm == [60, 99, 108, 105, 110, 105, 116, 62])) && (rightT (u.k, u.cl) && !(u.k == 1))) := rfl
           have HFB := zh hfb
           unfold fiC at hW2
           try dsimp only at hW2
           have HW2 := zh hW2
           clear hW2 hblk2 hb2 hx ea hmem hk hlt hfb
           go_wp2_with fail
           rw [← HW2.out]
           (try go_wp2_with fail)
           refine (HC.out _).mono ?_
           rintro e z ⟨rfl, hb⟩
           have J1 := zh (show Below W.heap.size W z from then' J0.out hb)
           have I1 := zh (show Below W2.heap.size W2 z from then' I0.out hb)
           obtain ⟨r0, r1, r2, r3⟩ := fi_cells ((I1.out.block _ HLT2.out).trans HBK2.out)
           obtain ⟨g0, g1, g2, g3, g4, g5, g6⟩ := HCE.out _ J1.out
           clear hb l0 l1 l2 l3
           cases d0 : nmL u.nm with
           | false =>
            have HRF := zh (HFX.out (by rw [HFB.out]; simp [d0]))
            (try go_wp2_with fail)
            go_ret
            exact ⟨by rw [HRF.out]; rfl, HAL.out.trans (J1.out.mono HAL.out.size)⟩
           | true =>
            cases d1 : (u.nm == [60, 99, 108, 105, 110, 105, 116, 62]) with
            | true =>
             have HRF := zh (HFX.out (by rw [HFB.out, d1]; simp))
             (try go_wp2_with fail)
             go_ret
             exact ⟨by rw [HRF.out]; rfl, HAL.out.trans (J1.out.mono HAL.out.size)⟩
            | false =>
             go_wp2_with fail
             refine (HD.out _).mono ?_
             rintro e z' ⟨rfl, hb⟩
             have J2 := zh (show Below W.heap.size W z' from then' J1.out hb)
             have I2 := zh (show Below W2.heap.size W2 z' from then' I1.out hb)
             obtain ⟨s0, s1, s2, s3⟩ := fi_cells ((I2.out.block _ HLT2.out).trans HBK2.out)
             obtain ⟨g0, g1, g2, g3, g4, g5, g6⟩ := HCE.out _ J2.out
             clear hb r0 r1 r2 r3
             cases d2 : rightT (u.k, u.cl) with
             | false =>
              have HRF := zh (HFX.out (by rw [HFB.out, d2]; simp))
              (try go_wp2_with fail)
              go_ret
              exact ⟨by rw [HRF.out]; rfl, HAL.out.trans (J2.out.mono HAL.out.size)⟩
             | true =>
              cases d3 : (u.k == 1) with
              | true =>
               have HRF := zh (HFX.out (by rw [HFB.out, d3]; simp))
               (try go_wp2_with fail)
               go_ret
               exact ⟨by rw [HRF.out]; rfl, HAL.out.trans (J2.out.mono HAL.out.size)⟩
              | false =>
               have HRN := zh (HNX.out (by rw [HFB.out, d0, d1, d2, d3]; rfl))
               (try go_wp2_with fail)
               go_roundw
               case rel => exact ⟨k + 1, by go_num, by omega, HRN.out, J2.out⟩
               case measure => simp [intOf]; omega
          ·have hltI : ¬ (k : Int) < (n2 : Int) := by omega
           have HT2 := zh (HT1.out (fun j c h1 => HA2.out j c (by have := (List.getElem?_eq_some_iff.1 h1).1; rw [← HN2.out] at this; omega) h1))
           clear hk hlt
           go_wp2_with fail
           go_loopw [6] (fun i wr => ∃ k : Nat, i = .int .i64 (k : Int) ∧ k ≤ n3 ∧ (∀ (j : Nat) (s : MeM), j < k → x.ms[j]? = some s → okM x s = true) ∧ Below W.heap.size W wr) (fun i _ => n3 - (intOf i).toNat)
           case atStart => exact ⟨0, rfl, Nat.zero_le _, fun j _ h => by omega, HB2.out⟩
           case round =>
            obtain ⟨k, rfl, hk, hall, hbw⟩ := hrel
            obtain ⟨y3, y3_eq⟩ : ∃ v, v = wr := ⟨_, rfl⟩
            subst y3_eq
            have HA3 := zh hall; have HB3 := zh hbw
            obtain ⟨g0, g1, g2, g3, g4, g5, g6⟩ := HCE.out _ hbw
            clear hall
            by_cases hlt : k < n3
            ·have hltI : (k : Int) < (n3 : Int) := by omega
             obtain ⟨u, hx⟩ : ∃ u, x.ms[k]? = some u := ⟨x.ms[k]'(by rw [← HN3.out]; exact hlt), List.getElem?_eq_getElem _⟩
             obtain ⟨a, ea, ha, c0, c1, c2, c3, c4, c5⟩ := me_at (HR3.out.below hbw) hx
             rw [ea] at g6
             have HFX := zh (fun h => HF3.out k u hx h)
             have HNX := zh (show okM x u = true → ∀ (j : Nat) (s : MeM), j < k + 1 → x.ms[j]? = some s → okM x s = true from fun h j c hj h1 => by
              rcases Nat.lt_succ_iff_lt_or_eq.1 hj with h3 | rfl
              ·exact HA3.out j c h3 h1
              ·rw [hx] at h1; cases h1; exact h)
             have hmem := List.mem_of_getElem? hx
             have HC := zh (HC6.out u hmem)
             dsimp only [meC] at HC
             obtain ⟨W2, hW2⟩ : ∃ v, v = y3.alloc (.cells (meC u).toArray 37) := ⟨_, rfl⟩
             have hb2 : Below W.heap.size W W2 := by rw [hW2]; exact hbw.alloc hbw.size _
             have hblk2 : W2.heap[y3.heap.size]? = some (.cells (meC u).toArray 37 (0, 0)) := by rw [hW2]; exact heap_alloc_new y3 _
             have HBK2 := zh hblk2; have HLT2 := zh (blk_lt hblk2)
             obtain ⟨l0, l1, l2, l3, l4, l5⟩ := me_cells hblk2
             obtain ⟨p0, p1, p2, p3, p4, p5, p6⟩ := HCE.out _ hb2
             have J0 := zh hb2
             have I0 := zh (Below.refl W2.heap.size W2)
             have HFB := zh (show okM x u = (methodB u && ((!x.fc || u.ab) && (x.ab || !u.ab))) from rfl)
             unfold meC at hW2
             try dsimp only at hW2
             have HW2 := zh hW2
             clear hW2 hblk2 hb2 hx ea hmem hk hlt
             go_wp2_with fail
             rw [← HW2.out]
             (try go_wp2_with fail)
             refine (HC.out _ J0.out).mono ?_
             rintro e z ⟨rfl, hb⟩
             have J1 := zh (show Below W.heap.size W z from then' J0.out hb)
             have I1 := zh (show Below W2.heap.size W2 z from then' I0.out hb)
             obtain ⟨r0, r1, r2, r3, r4, r5⟩ := me_cells ((I1.out.block _ HLT2.out).trans HBK2.out)
             obtain ⟨g0, g1, g2, g3, g4, g5, g6⟩ := HCE.out _ J1.out
             clear hb l0 l1 l2 l3 l4 l5
             rw [hfc] at g2
             cases d0 : methodB u with
             | false =>
              have HRF := zh (HFX.out (by rw [HFB.out, d0]; rfl))
              (try go_wp2_with fail)
              go_ret
              exact ⟨by rw [HRF.out]; rfl, HAL.out.trans (J1.out.mono HAL.out.size)⟩
             | true =>
              cases d1 : u.ab with
              | false =>
               rw [d1] at r3
               have HRN := zh (HNX.out (by rw [HFB.out, d0, d1]; simp [hfc]))
               (try go_wp2_with fail)
               go_roundw
               case rel => exact ⟨k + 1, by go_num, by omega, HRN.out, J1.out⟩
               case measure => simp [intOf]; omega
              | true =>
               rw [d1] at r3
               rw [hfa] at g3
               have HRF := zh (HFX.out (by rw [HFB.out, d0, d1]; simp [hfa]))
               (try go_wp2_with fail)
               go_ret
               exact ⟨by rw [HRF.out]; rfl, HAL.out.trans (J1.out.mono HAL.out.size)⟩
            ·have hltI : ¬ (k : Int) < (n3 : Int) := by omega
             have HT3 := zh (HT2.out (fun j c h1 => HA3.out j c (by have := (List.getElem?_eq_some_iff.1 h1).1; rw [← HN3.out] at this; omega) h1))
             clear hk hlt
             go_wp2
             go_ret
             exact ⟨by rw [HT3.out]; rfl, HAL.out.trans (HB3.out.mono HAL.out.size)⟩
      | true =>
       have hfa : x.ab = true := h5
       have HTT := zh (HT.out (by simp [h0, h1, h2, h3, h4, h5]))
       go_wp2_with fail
       go_loopw [3] (fun i wr => ∃ k : Nat, i = .int .i64 (k : Int) ∧ k ≤ n1 ∧ (∀ (j : Nat) (s : Tx), j < k → x.is[j]? = some s → clsB s = true) ∧ Below W.heap.size W wr) (fun i _ => n1 - (intOf i).toNat)
       case atStart => exact ⟨0, rfl, Nat.zero_le _, fun j _ h => by omega, K2.out⟩
       case round =>
        obtain ⟨k, rfl, hk, hall, hbw⟩ := hrel
        obtain ⟨y1, y1_eq⟩ : ∃ v, v = wr := ⟨_, rfl⟩
        subst y1_eq
        have HA1 := zh hall; have HB1 := zh hbw
        obtain ⟨g0, g1, g2, g3, g4, g5, g6⟩ := HCE.out _ hbw
        clear hall
        by_cases hlt : k < n1
        ·have hltI : (k : Int) < (n1 : Int) := by omega
         obtain ⟨u, hx⟩ : ∃ u, x.is[k]? = some u := ⟨x.is[k]'(by rw [← HN1.out]; exact hlt), List.getElem?_eq_getElem _⟩
         obtain ⟨a, ea, ha, c0⟩ := (HR1.out.below hbw).at_ (sx_get hx)
         rw [ea] at g4
         have HFX := zh (fun h => HF1.out k u hx h)
         have HNX := zh (show clsB u = true → ∀ (j : Nat) (s : Tx), j < k + 1 → x.is[j]? = some s → clsB s = true from fun h j c hj h1 => by
          rcases Nat.lt_succ_iff_lt_or_eq.1 hj with h3 | rfl
          ·exact HA1.out j c h3 h1
          ·rw [hx] at h1; cases h1; exact h)
         have hmem := List.mem_of_getElem? hx
         have HC := zh (HC3.out u hmem)
         clear hx ea hmem hk hlt
         go_wp2_with fail
         refine (HC.out _).mono ?_
         rintro e z ⟨rfl, hb⟩
         have KZ := zh (show Below W.heap.size W z from then' HB1.out hb)
         obtain ⟨g0, g1, g2, g3, g4, g5, g6⟩ := HCE.out _ KZ.out
         clear hb
         cases hc : clsB u with
         | false =>
          have HRF := zh (HFX.out (hc))
          (try go_wp2_with fail)
          go_ret
          exact ⟨by rw [HRF.out]; rfl, HAL.out.trans (KZ.out.mono HAL.out.size)⟩
         | true =>
          have HRN := zh (HNX.out (hc))
          (try go_wp2_with fail)
          go_roundw
          case rel => exact ⟨k + 1, by go_num, by omega, HRN.out, KZ.out⟩
          case measure => simp [intOf]; omega
        ·have hltI : ¬ (k : Int) < (n1 : Int) := by omega
         have HT1 := zh (HTT.out (fun j c h1 => HA1.out j c (by have := (List.getElem?_eq_some_iff.1 h1).1; rw [← HN1.out] at this; omega) h1))
         clear hk hlt
         go_wp2_with fail
         go_loopw [4] (fun i wr => ∃ k : Nat, i = .int .i64 (k : Int) ∧ k ≤ n2 ∧ (∀ (j : Nat) (s : FiM), j < k → x.fs[j]? = some s → fieldB s = true) ∧ Below W.heap.size W wr) (fun i _ => n2 - (intOf i).toNat)
         case atStart => exact ⟨0, rfl, Nat.zero_le _, fun j _ h => by omega, HB1.out⟩
         case round =>
          obtain ⟨k, rfl, hk, hall, hbw⟩ := hrel
          obtain ⟨y2, y2_eq⟩ : ∃ v, v = wr := ⟨_, rfl⟩
          subst y2_eq
          have HA2 := zh hall; have HB2 := zh hbw
          obtain ⟨g0, g1, g2, g3, g4, g5, g6⟩ := HCE.out _ hbw
          clear hall
          by_cases hlt : k < n2
          ·have hltI : (k : Int) < (n2 : Int) := by omega
           obtain ⟨u, hx⟩ : ∃ u, x.fs[k]? = some u := ⟨x.fs[k]'(by rw [← HN2.out]; exact hlt), List.getElem?_eq_getElem _⟩
           obtain ⟨a, ea, ha, c0, c1, c2, c3⟩ := fi_at (HR2.out.below hbw) hx
           rw [ea] at g5
           have HFX := zh (fun h => HF2.out k u hx h)
           have HNX := zh (show fieldB u = true → ∀ (j : Nat) (s : FiM), j < k + 1 → x.fs[j]? = some s → fieldB s = true from fun h j c hj h1 => by
            rcases Nat.lt_succ_iff_lt_or_eq.1 hj with h3 | rfl
            ·exact HA2.out j c h3 h1
            ·rw [hx] at h1; cases h1; exact h)
           have hmem := List.mem_of_getElem? hx
           have HC := zh (HC4.out u hmem); have HD := zh (HC5.out u hmem)
           obtain ⟨W2, hW2⟩ : ∃ v, v = y2.alloc (.cells (fiC u).toArray 92) := ⟨_, rfl⟩
           have hb2 : Below W.heap.size W W2 := by rw [hW2]; exact hbw.alloc hbw.size _
           have hblk2 : W2.heap[y2.heap.size]? = some (.cells (fiC u).toArray 92 (0, 0)) := by rw [hW2]; exact heap_alloc_new y2 _
           have HBK2 := zh hblk2; have HLT2 := zh (blk_lt hblk2)
           obtain ⟨l0, l1, l2, l3⟩ := fi_cells hblk2
           obtain ⟨p0, p1, p2, p3, p4, p5, p6⟩ := HCE.out _ hb2
           have J0 := zh hb2
           have I0 := zh (Below.refl W2.heap.size W2)
           have hfb : fieldB u = ((nmL u.nm && !(u.nm == [60, 99, 108, 105, 110, 105, 116, 62])) && (rightT (u.k, u.cl) && !(u.k == 1))) := rfl
           have HFB := zh hfb
           unfold fiC at hW2
           try dsimp only at hW2
           have HW2 := zh hW2
           clear hW2 hblk2 hb2 hx ea hmem hk hlt hfb
           go_wp2_with fail
           rw [← HW2.out]
           (try go_wp2_with fail)
           refine (HC.out _).mono ?_
           rintro e z ⟨rfl, hb⟩
           have J1 := zh (show Below W.heap.size W z from then' J0.out hb)
           have I1 := zh (show Below W2.heap.size W2 z from then' I0.out hb)
           obtain ⟨r0, r1, r2, r3⟩ := fi_cells ((I1.out.block _ HLT2.out).trans HBK2.out)
           obtain ⟨g0, g1, g2, g3, g4, g5, g6⟩ := HCE.out _ J1.out
           clear hb l0 l1 l2 l3
           cases d0 : nmL u.nm with
           | false =>
            have HRF := zh (HFX.out (by rw [HFB.out]; simp [d0]))
            (try go_wp2_with fail)
            go_ret
            exact ⟨by rw [HRF.out]; rfl, HAL.out.trans (J1.out.mono HAL.out.size)⟩
           | true =>
            cases d1 : (u.nm == [60, 99, 108, 105, 110, 105, 116, 62]) with
            | true =>
             have HRF := zh (HFX.out (by rw [HFB.out, d1]; simp))
             (try go_wp2_with fail)
             go_ret
             exact ⟨by rw [HRF.out]; rfl, HAL.out.trans (J1.out.mono HAL.out.size)⟩
            | false =>
             go_wp2_with fail
             refine (HD.out _).mono ?_
             rintro e z' ⟨rfl, hb⟩
             have J2 := zh (show Below W.heap.size W z' from then' J1.out hb)
             have I2 := zh (show Below W2.heap.size W2 z' from then' I1.out hb)
             obtain ⟨s0, s1, s2, s3⟩ := fi_cells ((I2.out.block _ HLT2.out).trans HBK2.out)
             obtain ⟨g0, g1, g2, g3, g4, g5, g6⟩ := HCE.out _ J2.out
             clear hb r0 r1 r2 r3
             cases d2 : rightT (u.k, u.cl) with
             | false =>
              have HRF := zh (HFX.out (by rw [HFB.out, d2]; simp))
              (try go_wp2_with fail)
              go_ret
              exact ⟨by rw [HRF.out]; rfl, HAL.out.trans (J2.out.mono HAL.out.size)⟩
             | true =>
              cases d3 : (u.k == 1) with
              | true =>
               have HRF := zh (HFX.out (by rw [HFB.out, d3]; simp))
               (try go_wp2_with fail)
               go_ret
               exact ⟨by rw [HRF.out]; rfl, HAL.out.trans (J2.out.mono HAL.out.size)⟩
              | false =>
               have HRN := zh (HNX.out (by rw [HFB.out, d0, d1, d2, d3]; rfl))
               (try go_wp2_with fail)
               go_roundw
               case rel => exact ⟨k + 1, by go_num, by omega, HRN.out, J2.out⟩
               case measure => simp [intOf]; omega
          ·have hltI : ¬ (k : Int) < (n2 : Int) := by omega
           have HT2 := zh (HT1.out (fun j c h1 => HA2.out j c (by have := (List.getElem?_eq_some_iff.1 h1).1; rw [← HN2.out] at this; omega) h1))
           clear hk hlt
           go_wp2_with fail
           go_loopw [6] (fun i wr => ∃ k : Nat, i = .int .i64 (k : Int) ∧ k ≤ n3 ∧ (∀ (j : Nat) (s : MeM), j < k → x.ms[j]? = some s → okM x s = true) ∧ Below W.heap.size W wr) (fun i _ => n3 - (intOf i).toNat)
           case atStart => exact ⟨0, rfl, Nat.zero_le _, fun j _ h => by omega, HB2.out⟩
           case round =>
            obtain ⟨k, rfl, hk, hall, hbw⟩ := hrel
            obtain ⟨y3, y3_eq⟩ : ∃ v, v = wr := ⟨_, rfl⟩
            subst y3_eq
            have HA3 := zh hall; have HB3 := zh hbw
            obtain ⟨g0, g1, g2, g3, g4, g5, g6⟩ := HCE.out _ hbw
            clear hall
            by_cases hlt : k < n3
            ·have hltI : (k : Int) < (n3 : Int) := by omega
             obtain ⟨u, hx⟩ : ∃ u, x.ms[k]? = some u := ⟨x.ms[k]'(by rw [← HN3.out]; exact hlt), List.getElem?_eq_getElem _⟩
             obtain ⟨a, ea, ha, c0, c1, c2, c3, c4, c5⟩ := me_at (HR3.out.below hbw) hx
             rw [ea] at g6
             have HFX := zh (fun h => HF3.out k u hx h)
             have HNX := zh (show okM x u = true → ∀ (j : Nat) (s : MeM), j < k + 1 → x.ms[j]? = some s → okM x s = true from fun h j c hj h1 => by
              rcases Nat.lt_succ_iff_lt_or_eq.1 hj with h3 | rfl
              ·exact HA3.out j c h3 h1
              ·rw [hx] at h1; cases h1; exact h)
             have hmem := List.mem_of_getElem? hx
             have HC := zh (HC6.out u hmem)
             dsimp only [meC] at HC
             obtain ⟨W2, hW2⟩ : ∃ v, v = y3.alloc (.cells (meC u).toArray 37) := ⟨_, rfl⟩
             have hb2 : Below W.heap.size W W2 := by rw [hW2]; exact hbw.alloc hbw.size _
             have hblk2 : W2.heap[y3.heap.size]? = some (.cells (meC u).toArray 37 (0, 0)) := by rw [hW2]; exact heap_alloc_new y3 _
             have HBK2 := zh hblk2; have HLT2 := zh (blk_lt hblk2)
             obtain ⟨l0, l1, l2, l3, l4, l5⟩ := me_cells hblk2
             obtain ⟨p0, p1, p2, p3, p4, p5, p6⟩ := HCE.out _ hb2
             have J0 := zh hb2
             have I0 := zh (Below.refl W2.heap.size W2)
             have HFB := zh (show okM x u = (methodB u && ((!x.fc || u.ab) && (x.ab || !u.ab))) from rfl)
             unfold meC at hW2
             try dsimp only at hW2
             have HW2 := zh hW2
             clear hW2 hblk2 hb2 hx ea hmem hk hlt
             go_wp2_with fail
             rw [← HW2.out]
             (try go_wp2_with fail)
             refine (HC.out _ J0.out).mono ?_
             rintro e z ⟨rfl, hb⟩
             have J1 := zh (show Below W.heap.size W z from then' J0.out hb)
             have I1 := zh (show Below W2.heap.size W2 z from then' I0.out hb)
             obtain ⟨r0, r1, r2, r3, r4, r5⟩ := me_cells ((I1.out.block _ HLT2.out).trans HBK2.out)
             obtain ⟨g0, g1, g2, g3, g4, g5, g6⟩ := HCE.out _ J1.out
             clear hb l0 l1 l2 l3 l4 l5
             rw [hfc] at g2
             cases d0 : methodB u with
             | false =>
              have HRF := zh (HFX.out (by rw [HFB.out, d0]; rfl))
              (try go_wp2_with fail)
              go_ret
              exact ⟨by rw [HRF.out]; rfl, HAL.out.trans (J1.out.mono HAL.out.size)⟩
             | true =>
              cases d1 : u.ab with
              | false =>
               rw [d1] at r3
               have HRN := zh (HNX.out (by rw [HFB.out, d0, d1]; simp [hfc]))
               (try go_wp2_with fail)
               go_roundw
               case rel => exact ⟨k + 1, by go_num, by omega, HRN.out, J1.out⟩
               case measure => simp [intOf]; omega
              | true =>
               rw [d1] at r3
               rw [hfa] at g3
               have HRN := zh (HNX.out (by rw [HFB.out, d0, d1]; simp [hfc, hfa]))
               (try go_wp2_with fail)
               go_roundw
               case rel => exact ⟨k + 1, by go_num, by omega, HRN.out, J1.out⟩
               case measure => simp [intOf]; omega
            ·have hltI : ¬ (k : Int) < (n3 : Int) := by omega
             have HT3 := zh (HT2.out (fun j c h1 => HA3.out j c (by have := (List.getElem?_eq_some_iff.1 h1).1; rw [← HN3.out] at this; omega) h1))
             clear hk hlt
             go_wp2
             go_ret
             exact ⟨by rw [HT3.out]; rfl, HAL.out.trans (HB3.out.mono HAL.out.size)⟩
     | true =>
      have hfc : x.fc = true := h4
      cases h5 : x.ab with
      | false =>
       have HRF := zh (HF0.out (by simp [h0, h1, h2, h3, h4, h5]))
       (try go_wp2_with fail)
       go_ret
       exact ⟨by rw [HRF.out]; rfl, HAL.out.trans (K2.out.mono HAL.out.size)⟩
      | true =>
       have hfa : x.ab = true := h5
       have HRF := zh (HF0.out (by simp [h0, h1, h2, h3, h4, h5]))
       (try go_wp2_with fail)
       go_ret
       exact ⟨by rw [HRF.out]; rfl, HAL.out.trans (K2.out.mono HAL.out.size)⟩
    | true =>
     have HRF := zh (HF0.out (by simp [h0, h1, h2, h3]))
     (try go_wp2_with fail)
     go_ret
     exact ⟨by rw [HRF.out]; rfl, HAL.out.trans (K2.out.mono HAL.out.size)⟩
  | true =>
   have g1 := e_empty h1
   cases h2 : x.fc with
   | false =>
    have hfc : x.fc = false := h2
    cases h3 : x.ab with
    | false =>
     have hfa : x.ab = false := h3
     have HTT := zh (HT.out (by simp [h0, h1, h2, h3]))
     go_wp2_with fail
     go_loopw [3] (fun i wr => ∃ k : Nat, i = .int .i64 (k : Int) ∧ k ≤ n1 ∧ (∀ (j : Nat) (s : Tx), j < k → x.is[j]? = some s → clsB s = true) ∧ Below W.heap.size W wr) (fun i _ => n1 - (intOf i).toNat)
     case atStart => exact ⟨0, rfl, Nat.zero_le _, fun j _ h => by omega, K1.out⟩
     case round =>
      obtain ⟨k, rfl, hk, hall, hbw⟩ := hrel
      obtain ⟨y1, y1_eq⟩ : ∃ v, v = wr := ⟨_, rfl⟩
      subst y1_eq
      have HA1 := zh hall; have HB1 := zh hbw
      obtain ⟨g0, g1, g2, g3, g4, g5, g6⟩ := HCE.out _ hbw
      clear hall
      by_cases hlt : k < n1
      ·have hltI : (k : Int) < (n1 : Int) := by omega
       obtain ⟨u, hx⟩ : ∃ u, x.is[k]? = some u := ⟨x.is[k]'(by rw [← HN1.out]; exact hlt), List.getElem?_eq_getElem _⟩
       obtain ⟨a, ea, ha, c0⟩ := (HR1.out.below hbw).at_ (sx_get hx)
       rw [ea] at g4
       have HFX := zh (fun h => HF1.out k u hx h)
       have HNX := zh (show clsB u = true → ∀ (j : Nat) (s : Tx), j < k + 1 → x.is[j]? = some s → clsB s = true from fun h j c hj h1 => by
        rcases Nat.lt_succ_iff_lt_or_eq.1 hj with h3 | rfl
        ·exact HA1.out j c h3 h1
        ·rw [hx] at h1; cases h1; exact h)
       have hmem := List.mem_of_getElem? hx
       have HC := zh (HC3.out u hmem)
       clear hx ea hmem hk hlt
       go_wp2_with fail
       refine (HC.out _).mono ?_
       rintro e z ⟨rfl, hb⟩
       have KZ := zh (show Below W.heap.size W z from then' HB1.out hb)
       obtain ⟨g0, g1, g2, g3, g4, g5, g6⟩ := HCE.out _ KZ.out
       clear hb
       cases hc : clsB u with
       | false =>
        have HRF := zh (HFX.out (hc))
        (try go_wp2_with fail)
        go_ret
        exact ⟨by rw [HRF.out]; rfl, HAL.out.trans (KZ.out.mono HAL.out.size)⟩
       | true =>
        have HRN := zh (HNX.out (hc))
        (try go_wp2_with fail)
        go_roundw
        case rel => exact ⟨k + 1, by go_num, by omega, HRN.out, KZ.out⟩
        case measure => simp [intOf]; omega
      ·have hltI : ¬ (k : Int) < (n1 : Int) := by omega
       have HT1 := zh (HTT.out (fun j c h1 => HA1.out j c (by have := (List.getElem?_eq_some_iff.1 h1).1; rw [← HN1.out] at this; omega) h1))
       clear hk hlt
       go_wp2_with fail
       go_loopw [4] (fun i wr => ∃ k : Nat, i = .int .i64 (k : Int) ∧ k ≤ n2 ∧ (∀ (j : Nat) (s : FiM), j < k → x.fs[j]? = some s → fieldB s = true) ∧ Below W.heap.size W wr) (fun i _ => n2 - (intOf i).toNat)
       case atStart => exact ⟨0, rfl, Nat.zero_le _, fun j _ h => by omega, HB1.out⟩
       case round =>
        obtain ⟨k, rfl, hk, hall, hbw⟩ := hrel
        obtain ⟨y2, y2_eq⟩ : ∃ v, v = wr := ⟨_, rfl⟩
        subst y2_eq
        have HA2 := zh hall; have HB2 := zh hbw
        obtain ⟨g0, g1, g2, g3, g4, g5, g6⟩ := HCE.out _ hbw
        clear hall
        by_cases hlt : k < n2
        ·have hltI : (k : Int) < (n2 : Int) := by omega
         obtain ⟨u, hx⟩ : ∃ u, x.fs[k]? = some u := ⟨x.fs[k]'(by rw [← HN2.out]; exact hlt), List.getElem?_eq_getElem _⟩
         obtain ⟨a, ea, ha, c0, c1, c2, c3⟩ := fi_at (HR2.out.below hbw) hx
         rw [ea] at g5
         have HFX := zh (fun h => HF2.out k u hx h)
         have HNX := zh (show fieldB u = true → ∀ (j : Nat) (s : FiM), j < k + 1 → x.fs[j]? = some s → fieldB s = true from fun h j c hj h1 => by
          rcases Nat.lt_succ_iff_lt_or_eq.1 hj with h3 | rfl
          ·exact HA2.out j c h3 h1
          ·rw [hx] at h1; cases h1; exact h)
         have hmem := List.mem_of_getElem? hx
         have HC := zh (HC4.out u hmem); have HD := zh (HC5.out u hmem)
         obtain ⟨W2, hW2⟩ : ∃ v, v = y2.alloc (.cells (fiC u).toArray 92) := ⟨_, rfl⟩
         have hb2 : Below W.heap.size W W2 := by rw [hW2]; exact hbw.alloc hbw.size _
         have hblk2 : W2.heap[y2.heap.size]? = some (.cells (fiC u).toArray 92 (0, 0)) := by rw [hW2]; exact heap_alloc_new y2 _
         have HBK2 := zh hblk2; have HLT2 := zh (blk_lt hblk2)
         obtain ⟨l0, l1, l2, l3⟩ := fi_cells hblk2
         obtain ⟨p0, p1, p2, p3, p4, p5, p6⟩ := HCE.out _ hb2
         have J0 := zh hb2
         have I0 := zh (Below.refl W2.heap.size W2)
         have hfb : fieldB u = ((nmL u.nm && !(u.nm == [60, 99, 108, 105, 110, 105, 116, 62])) && (rightT (u.k, u.cl) && !(u.k == 1))) := rfl
         have HFB := zh hfb
         unfold fiC at hW2
         try dsimp only at hW2
         have HW2 := zh hW2
         clear hW2 hblk2 hb2 hx ea hmem hk hlt hfb
         go_wp2_with fail
         rw [← HW2.out]
         (try go_wp2_with fail)
         refine (HC.out _).mono ?_
         rintro e z ⟨rfl, hb⟩
         have J1 := zh (show Below W.heap.size W z from then' J0.out hb)
         have I1 := zh (show Below W2.heap.size W2 z from then' I0.out hb)
         obtain ⟨r0, r1, r2, r3⟩ := fi_cells ((I1.out.block _ HLT2.out).trans HBK2.out)
         obtain ⟨g0, g1, g2, g3, g4, g5, g6⟩ := HCE.out _ J1.out
         clear hb l0 l1 l2 l3
         cases d0 : nmL u.nm with
         | false =>
          have HRF := zh (HFX.out (by rw [HFB.out]; simp [d0]))
          (try go_wp2_with fail)
          go_ret
          exact ⟨by rw [HRF.out]; rfl, HAL.out.trans (J1.out.mono HAL.out.size)⟩
         | true =>
          cases d1 : (u.nm == [60, 99, 108, 105, 110, 105, 116, 62]) with
          | true =>
           have HRF := zh (HFX.out (by rw [HFB.out, d1]; simp))
           (try go_wp2_with fail)
           go_ret
           exact ⟨by rw [HRF.out]; rfl, HAL.out.trans (J1.out.mono HAL.out.size)⟩
          | false =>
           go_wp2_with fail
           refine (HD.out _).mono ?_
           rintro e z' ⟨rfl, hb⟩
           have J2 := zh (show Below W.heap.size W z' from then' J1.out hb)
           have I2 := zh (show Below W2.heap.size W2 z' from then' I1.out hb)
           obtain ⟨s0, s1, s2, s3⟩ := fi_cells ((I2.out.block _ HLT2.out).trans HBK2.out)
           obtain ⟨g0, g1, g2, g3, g4, g5, g6⟩ := HCE.out _ J2.out
           clear hb r0 r1 r2 r3
           cases d2 : rightT (u.k, u.cl) with
           | false =>
            have HRF := zh (HFX.out (by rw [HFB.out, d2]; simp))
            (try go_wp2_with fail)
            go_ret
            exact ⟨by rw [HRF.out]; rfl, HAL.out.trans (J2.out.mono HAL.out.size)⟩
           | true =>
            cases d3 : (u.k == 1) with
            | true =>
             have HRF := zh (HFX.out (by rw [HFB.out, d3]; simp))
             (try go_wp2_with fail)
             go_ret
             exact ⟨by rw [HRF.out]; rfl, HAL.out.trans (J2.out.mono HAL.out.size)⟩
            | false =>
             have HRN := zh (HNX.out (by rw [HFB.out, d0, d1, d2, d3]; rfl))
             (try go_wp2_with fail)
             go_roundw
             case rel => exact ⟨k + 1, by go_num, by omega, HRN.out, J2.out⟩
             case measure => simp [intOf]; omega
        ·have hltI : ¬ (k : Int) < (n2 : Int) := by omega
         have HT2 := zh (HT1.out (fun j c h1 => HA2.out j c (by have := (List.getElem?_eq_some_iff.1 h1).1; rw [← HN2.out] at this; omega) h1))
         clear hk hlt
         go_wp2_with fail
         go_loopw [6] (fun i wr => ∃ k : Nat, i = .int .i64 (k : Int) ∧ k ≤ n3 ∧ (∀ (j : Nat) (s : MeM), j < k → x.ms[j]? = some s → okM x s = true) ∧ Below W.heap.size W wr) (fun i _ => n3 - (intOf i).toNat)
         case atStart => exact ⟨0, rfl, Nat.zero_le _, fun j _ h => by omega, HB2.out⟩
         case round =>
          obtain ⟨k, rfl, hk, hall, hbw⟩ := hrel
          obtain ⟨y3, y3_eq⟩ : ∃ v, v = wr := ⟨_, rfl⟩
          subst y3_eq
          have HA3 := zh hall; have HB3 := zh hbw
          obtain ⟨g0, g1, g2, g3, g4, g5, g6⟩ := HCE.out _ hbw
          clear hall
          by_cases hlt : k < n3
          ·have hltI : (k : Int) < (n3 : Int) := by omega
           obtain ⟨u, hx⟩ : ∃ u, x.ms[k]? = some u := ⟨x.ms[k]'(by rw [← HN3.out]; exact hlt), List.getElem?_eq_getElem _⟩
           obtain ⟨a, ea, ha, c0, c1, c2, c3, c4, c5⟩ := me_at (HR3.out.below hbw) hx
           rw [ea] at g6
           have HFX := zh (fun h => HF3.out k u hx h)
           have HNX := zh (show okM x u = true → ∀ (j : Nat) (s : MeM), j < k + 1 → x.ms[j]? = some s → okM x s = true from fun h j c hj h1 => by
            rcases Nat.lt_succ_iff_lt_or_eq.1 hj with h3 | rfl
            ·exact HA3.out j c h3 h1
            ·rw [hx] at h1; cases h1; exact h)
           have hmem := List.mem_of_getElem? hx
           have HC := zh (HC6.out u hmem)
           dsimp only [meC] at HC
           obtain ⟨W2, hW2⟩ : ∃ v, v = y3.alloc (.cells (meC u).toArray 37) := ⟨_, rfl⟩
           have hb2 : Below W.heap.size W W2 := by rw [hW2]; exact hbw.alloc hbw.size _
           have hblk2 : W2.heap[y3.heap.size]? = some (.cells (meC u).toArray 37 (0, 0)) := by rw [hW2]; exact heap_alloc_new y3 _
           have HBK2 := zh hblk2; have HLT2 := zh (blk_lt hblk2)
           obtain ⟨l0, l1, l2, l3, l4, l5⟩ := me_cells hblk2
           obtain ⟨p0, p1, p2, p3, p4, p5, p6⟩ := HCE.out _ hb2
           have J0 := zh hb2
           have I0 := zh (Below.refl W2.heap.size W2)
           have HFB := zh (show okM x u = (methodB u && ((!x.fc || u.ab) && (x.ab || !u.ab))) from rfl)
           unfold meC at hW2
           try dsimp only at hW2
           have HW2 := zh hW2
           clear hW2 hblk2 hb2 hx ea hmem hk hlt
           go_wp2_with fail
           rw [← HW2.out]
           (try go_wp2_with fail)
           refine (HC.out _ J0.out).mono ?_
           rintro e z ⟨rfl, hb⟩
           have J1 := zh (show Below W.heap.size W z from then' J0.out hb)
           have I1 := zh (show Below W2.heap.size W2 z from then' I0.out hb)
           obtain ⟨r0, r1, r2, r3, r4, r5⟩ := me_cells ((I1.out.block _ HLT2.out).trans HBK2.out)
           obtain ⟨g0, g1, g2, g3, g4, g5, g6⟩ := HCE.out _ J1.out
           clear hb l0 l1 l2 l3 l4 l5
           rw [hfc] at g2
           cases d0 : methodB u with
           | false =>
            have HRF := zh (HFX.out (by rw [HFB.out, d0]; rfl))
            (try go_wp2_with fail)
            go_ret
            exact ⟨by rw [HRF.out]; rfl, HAL.out.trans (J1.out.mono HAL.out.size)⟩
           | true =>
            cases d1 : u.ab with
            | false =>
             rw [d1] at r3
             have HRN := zh (HNX.out (by rw [HFB.out, d0, d1]; simp [hfc]))
             (try go_wp2_with fail)
             go_roundw
             case rel => exact ⟨k + 1, by go_num, by omega, HRN.out, J1.out⟩
             case measure => simp [intOf]; omega
            | true =>
             rw [d1] at r3
             rw [hfa] at g3
             have HRF := zh (HFX.out (by rw [HFB.out, d0, d1]; simp [hfa]))
             (try go_wp2_with fail)
             go_ret
             exact ⟨by rw [HRF.out]; rfl, HAL.out.trans (J1.out.mono HAL.out.size)⟩
          ·have hltI : ¬ (k : Int) < (n3 : Int) := by omega
           have HT3 := zh (HT2.out (fun j c h1 => HA3.out j c (by have := (List.getElem?_eq_some_iff.1 h1).1; rw [← HN3.out] at this; omega) h1))
           clear hk hlt
           go_wp2
           go_ret
           exact ⟨by rw [HT3.out]; rfl, HAL.out.trans (HB3.out.mono HAL.out.size)⟩
    | true =>
     have hfa : x.ab = true := h3
     have HTT := zh (HT.out (by simp [h0, h1, h2, h3]))
     go_wp2_with fail
     go_loopw [3] (fun i wr => ∃ k : Nat, i = .int .i64 (k : Int) ∧ k ≤ n1 ∧ (∀ (j : Nat) (s : Tx), j < k → x.is[j]? = some s → clsB s = true) ∧ Below W.heap.size W wr) (fun i _ => n1 - (intOf i).toNat)
     case atStart => exact ⟨0, rfl, Nat.zero_le _, fun j _ h => by omega, K1.out⟩
     case round =>
      obtain ⟨k, rfl, hk, hall, hbw⟩ := hrel
      obtain ⟨y1, y1_eq⟩ : ∃ v, v = wr := ⟨_, rfl⟩
      subst y1_eq
      have HA1 := zh hall; have HB1 := zh hbw
      obtain ⟨g0, g1, g2, g3, g4, g5, g6⟩ := HCE.out _ hbw
      clear hall
      by_cases hlt : k < n1
      ·have hltI : (k : Int) < (n1 : Int) := by omega
       obtain ⟨u, hx⟩ : ∃ u, x.is[k]? = some u := ⟨x.is[k]'(by rw [← HN1.out]; exact hlt), List.getElem?_eq_getElem _⟩
       obtain ⟨a, ea, ha, c0⟩ := (HR1.out.below hbw).at_ (sx_get hx)
       rw [ea] at g4
       have HFX := zh (fun h => HF1.out k u hx h)
       have HNX := zh (show clsB u = true → ∀ (j : Nat) (s : Tx), j < k + 1 → x.is[j]? = some s → clsB s = true from fun h j c hj h1 => by
        rcases Nat.lt_succ_iff_lt_or_eq.1 hj with h3 | rfl
        ·exact HA1.out j c h3 h1
        ·rw [hx] at h1; cases h1; exact h)
       have hmem := List.mem_of_getElem? hx
       have HC := zh (HC3.out u hmem)
       clear hx ea hmem hk hlt
       go_wp2_with fail
       refine (HC.out _).mono ?_
       rintro e z ⟨rfl, hb⟩
       have KZ := zh (show Below W.heap.size W z from then' HB1.out hb)
       obtain ⟨g0, g1, g2, g3, g4, g5, g6⟩ := HCE.out _ KZ.out
       clear hb
       cases hc : clsB u with
       | false =>
        have HRF := zh (HFX.out (hc))
        (try go_wp2_with fail)
        go_ret
        exact ⟨by rw [HRF.out]; rfl, HAL.out.trans (KZ.out.mono HAL.out.size)⟩
       | true =>
        have HRN := zh (HNX.out (hc))
        (try go_wp2_with fail)
        go_roundw
        case rel => exact ⟨k + 1, by go_num, by omega, HRN.out, KZ.out⟩
        case measure => simp [intOf]; omega
      ·have hltI : ¬ (k : Int) < (n1 : Int) := by omega
       have HT1 := zh (HTT.out (fun j c h1 => HA1.out j c (by have := (List.getElem?_eq_some_iff.1 h1).1; rw [← HN1.out] at this; omega) h1))
       clear hk hlt
       go_wp2_with fail
       go_loopw [4] (fun i wr => ∃ k : Nat, i = .int .i64 (k : Int) ∧ k ≤ n2 ∧ (∀ (j : Nat) (s : FiM), j < k → x.fs[j]? = some s → fieldB s = true) ∧ Below W.heap.size W wr) (fun i _ => n2 - (intOf i).toNat)
       case atStart => exact ⟨0, rfl, Nat.zero_le _, fun j _ h => by omega, HB1.out⟩
       case round =>
        obtain ⟨k, rfl, hk, hall, hbw⟩ := hrel
        obtain ⟨y2, y2_eq⟩ : ∃ v, v = wr := ⟨_, rfl⟩
        subst y2_eq
        have HA2 := zh hall; have HB2 := zh hbw
        obtain ⟨g0, g1, g2, g3, g4, g5, g6⟩ := HCE.out _ hbw
        clear hall
        by_cases hlt : k < n2
        ·have hltI : (k : Int) < (n2 : Int) := by omega
         obtain ⟨u, hx⟩ : ∃ u, x.fs[k]? = some u := ⟨x.fs[k]'(by rw [← HN2.out]; exact hlt), List.getElem?_eq_getElem _⟩
         obtain ⟨a, ea, ha, c0, c1, c2, c3⟩ := fi_at (HR2.out.below hbw) hx
         rw [ea] at g5
         have HFX := zh (fun h => HF2.out k u hx h)
         have HNX := zh (show fieldB u = true → ∀ (j : Nat) (s : FiM), j < k + 1 → x.fs[j]? = some s → fieldB s = true from fun h j c hj h1 => by
          rcases Nat.lt_succ_iff_lt_or_eq.1 hj with h3 | rfl
          ·exact HA2.out j c h3 h1
          ·rw [hx] at h1; cases h1; exact h)
         have hmem := List.mem_of_getElem? hx
         have HC := zh (HC4.out u hmem); have HD := zh (HC5.out u hmem)
         obtain ⟨W2, hW2⟩ : ∃ v, v = y2.alloc (.cells (fiC u).toArray 92) := ⟨_, rfl⟩
         have hb2 : Below W.heap.size W W2 := by rw [hW2]; exact hbw.alloc hbw.size _
         have hblk2 : W2.heap[y2.heap.size]? = some (.cells (fiC u).toArray 92 (0, 0)) := by rw [hW2]; exact heap_alloc_new y2 _
         have HBK2 := zh hblk2; have HLT2 := zh (blk_lt hblk2)
         obtain ⟨l0, l1, l2, l3⟩ := fi_cells hblk2
         obtain ⟨p0, p1, p2, p3, p4, p5, p6⟩ := HCE.out _ hb2
         have J0 := zh hb2
         have I0 := zh (Below.refl W2.heap.size W2)
         have hfb : fieldB u = ((nmL u.nm && !(u.nm == [60, 99, 108, 105, 110, 105, 116, 62])) && (rightT (u.k, u.cl) && !(u.k == 1))) := rfl
         have HFB := zh hfb
         unfold fiC at hW2
         try dsimp only at hW2
         have HW2 := zh hW2
         clear hW2 hblk2 hb2 hx ea hmem hk hlt hfb
         go_wp2_with fail
         rw [← HW2.out]
         (try go_wp2_with fail)
         refine (HC.out _).mono ?_
         rintro e z ⟨rfl, hb⟩
         have J1 := zh (show Below W.heap.size W z from then' J0.out hb)
         have I1 := zh (show Below W2.heap.size W2 z from then' I0.out hb)
         obtain ⟨r0, r1, r2, r3⟩ := fi_cells ((I1.out.block _ HLT2.out).trans HBK2.out)
         obtain ⟨g0, g1, g2, g3, g4, g5, g6⟩ := HCE.out _ J1.out
         clear hb l0 l1 l2 l3
         cases d0 : nmL u.nm with
         | false =>
          have HRF := zh (HFX.out (by rw [HFB.out]; simp [d0]))
          (try go_wp2_with fail)
          go_ret
          exact ⟨by rw [HRF.out]; rfl, HAL.out.trans (J1.out.mono HAL.out.size)⟩
         | true =>
          cases d1 : (u.nm == [60, 99, 108, 105, 110, 105, 116, 62]) with
          | true =>
           have HRF := zh (HFX.out (by rw [HFB.out, d1]; simp))
           (try go_wp2_with fail)
           go_ret
           exact ⟨by rw [HRF.out]; rfl, HAL.out.trans (J1.out.mono HAL.out.size)⟩
          | false =>
           go_wp2_with fail
           refine (HD.out _).mono ?_
           rintro e z' ⟨rfl, hb⟩
           have J2 := zh (show Below W.heap.size W z' from then' J1.out hb)
           have I2 := zh (show Below W2.heap.size W2 z' from then' I1.out hb)
           obtain ⟨s0, s1, s2, s3⟩ := fi_cells ((I2.out.block _ HLT2.out).trans HBK2.out)
           obtain ⟨g0, g1, g2, g3, g4, g5, g6⟩ := HCE.out _ J2.out
           clear hb r0 r1 r2 r3
           cases d2 : rightT (u.k, u.cl) with
           | false =>
            have HRF := zh (HFX.out (by rw [HFB.out, d2]; simp))
            (try go_wp2_with fail)
            go_ret
            exact ⟨by rw [HRF.out]; rfl, HAL.out.trans (J2.out.mono HAL.out.size)⟩
           | true =>
            cases d3 : (u.k == 1) with
            | true =>
             have HRF := zh (HFX.out (by rw [HFB.out, d3]; simp))
             (try go_wp2_with fail)
             go_ret
             exact ⟨by rw [HRF.out]; rfl, HAL.out.trans (J2.out.mono HAL.out.size)⟩
            | false =>
             have HRN := zh (HNX.out (by rw [HFB.out, d0, d1, d2, d3]; rfl))
             (try go_wp2_with fail)
             go_roundw
             case rel => exact ⟨k + 1, by go_num, by omega, HRN.out, J2.out⟩
             case measure => simp [intOf]; omega
        ·have hltI : ¬ (k : Int) < (n2 : Int) := by omega
         have HT2 := zh (HT1.out (fun j c h1 => HA2.out j c (by have := (List.getElem?_eq_some_iff.1 h1).1; rw [← HN2.out] at this; omega) h1))
         clear hk hlt
         go_wp2_with fail
         go_loopw [6] (fun i wr => ∃ k : Nat, i = .int .i64 (k : Int) ∧ k ≤ n3 ∧ (∀ (j : Nat) (s : MeM), j < k → x.ms[j]? = some s → okM x s = true) ∧ Below W.heap.size W wr) (fun i _ => n3 - (intOf i).toNat)
         case atStart => exact ⟨0, rfl, Nat.zero_le _, fun j _ h => by omega, HB2.out⟩
         case round =>
          obtain ⟨k, rfl, hk, hall, hbw⟩ := hrel
          obtain ⟨y3, y3_eq⟩ : ∃ v, v = wr := ⟨_, rfl⟩
          subst y3_eq
          have HA3 := zh hall; have HB3 := zh hbw
          obtain ⟨g0, g1, g2, g3, g4, g5, g6⟩ := HCE.out _ hbw
          clear hall
          by_cases hlt : k < n3
          ·have hltI : (k : Int) < (n3 : Int) := by omega
           obtain ⟨u, hx⟩ : ∃ u, x.ms[k]? = some u := ⟨x.ms[k]'(by rw [← HN3.out]; exact hlt), List.getElem?_eq_getElem _⟩
           obtain ⟨a, ea, ha, c0, c1, c2, c3, c4, c5⟩ := me_at (HR3.out.below hbw) hx
           rw [ea] at g6
           have HFX := zh (fun h => HF3.out k u hx h)
           have HNX := zh (show okM x u = true → ∀ (j : Nat) (s : MeM), j < k + 1 → x.ms[j]? = some s → okM x s = true from fun h j c hj h1 => by
            rcases Nat.lt_succ_iff_lt_or_eq.1 hj with h3 | rfl
            ·exact HA3.out j c h3 h1
            ·rw [hx] at h1; cases h1; exact h)
           have hmem := List.mem_of_getElem? hx
           have HC := zh (HC6.out u hmem)
           dsimp only [meC] at HC
           obtain ⟨W2, hW2⟩ : ∃ v, v = y3.alloc (.cells (meC u).toArray 37) := ⟨_, rfl⟩
           have hb2 : Below W.heap.size W W2 := by rw [hW2]; exact hbw.alloc hbw.size _
           have hblk2 : W2.heap[y3.heap.size]? = some (.cells (meC u).toArray 37 (0, 0)) := by rw [hW2]; exact heap_alloc_new y3 _
           have HBK2 := zh hblk2; have HLT2 := zh (blk_lt hblk2)
           obtain ⟨l0, l1, l2, l3, l4, l5⟩ := me_cells hblk2
           obtain ⟨p0, p1, p2, p3, p4, p5, p6⟩ := HCE.out _ hb2
           have J0 := zh hb2
           have I0 := zh (Below.refl W2.heap.size W2)
           have HFB := zh (show okM x u = (methodB u && ((!x.fc || u.ab) && (x.ab || !u.ab))) from rfl)
           unfold meC at hW2
           try dsimp only at hW2
           have HW2 := zh hW2
           clear hW2 hblk2 hb2 hx ea hmem hk hlt
           go_wp2_with fail
           rw [← HW2.out]
           (try go_wp2_with fail)
           refine (HC.out _ J0.out).mono ?_
           rintro e z ⟨rfl, hb⟩
           have J1 := zh (show Below W.heap.size W z from then' J0.out hb)
           have I1 := zh (show Below W2.heap.size W2 z from then' I0.out hb)
           obtain ⟨r0, r1, r2, r3, r4, r5⟩ := me_cells ((I1.out.block _ HLT2.out).trans HBK2.out)
           obtain ⟨g0, g1, g2, g3, g4, g5, g6⟩ := HCE.out _ J1.out
           clear hb l0 l1 l2 l3 l4 l5
           rw [hfc] at g2
           cases d0 : methodB u with
           | false =>
            have HRF := zh (HFX.out (by rw [HFB.out, d0]; rfl))
            (try go_wp2_with fail)
            go_ret
            exact ⟨by rw [HRF.out]; rfl, HAL.out.trans (J1.out.mono HAL.out.size)⟩
           | true =>
            cases d1 : u.ab with
            | false =>
             rw [d1] at r3
             have HRN := zh (HNX.out (by rw [HFB.out, d0, d1]; simp [hfc]))
             (try go_wp2_with fail)
             go_roundw
             case rel => exact ⟨k + 1, by go_num, by omega, HRN.out, J1.out⟩
             case measure => simp [intOf]; omega
            | true =>
             rw [d1] at r3
             rw [hfa] at g3
             have HRN := zh (HNX.out (by rw [HFB.out, d0, d1]; simp [hfc, hfa]))
             (try go_wp2_with fail)
             go_roundw
             case rel => exact ⟨k + 1, by go_num, by omega, HRN.out, J1.out⟩
             case measure => simp [intOf]; omega
          ·have hltI : ¬ (k : Int) < (n3 : Int) := by omega
           have HT3 := zh (HT2.out (fun j c h1 => HA3.out j c (by have := (List.getElem?_eq_some_iff.1 h1).1; rw [← HN3.out] at this; omega) h1))
           clear hk hlt
           go_wp2
           go_ret
           exact ⟨by rw [HT3.out]; rfl, HAL.out.trans (HB3.out.mono HAL.out.size)⟩
   | true =>
    have hfc : x.fc = true := h2
    cases h3 : x.ab with
    | false =>
     have HRF := zh (HF0.out (by simp [h0, h1, h2, h3]))
     (try go_wp2_with fail)
     go_ret
     exact ⟨by rw [HRF.out]; rfl, HAL.out.trans (K1.out.mono HAL.out.size)⟩
    | true =>
     have hfa : x.ab = true := h3
     cases h4 : decide (0 < n2) with
     | false =>
      have gn : ¬ (0 : Int) < (n2 : Int) := by have := of_decide_eq_false h4; omega
      have HTT := zh (HT.out (by simp [h0, h1, h2, h3, h4]))
      go_wp2_with fail
      go_loopw [3] (fun i wr => ∃ k : Nat, i = .int .i64 (k : Int) ∧ k ≤ n1 ∧ (∀ (j : Nat) (s : Tx), j < k → x.is[j]? = some s → clsB s = true) ∧ Below W.heap.size W wr) (fun i _ => n1 - (intOf i).toNat)
      case atStart => exact ⟨0, rfl, Nat.zero_le _, fun j _ h => by omega, K1.out⟩
      case round =>
       obtain ⟨k, rfl, hk, hall, hbw⟩ := hrel
       obtain ⟨y1, y1_eq⟩ : ∃ v, v = wr := ⟨_, rfl⟩
       subst y1_eq
       have HA1 := zh hall; have HB1 := zh hbw
       obtain ⟨g0, g1, g2, g3, g4, g5, g6⟩ := HCE.out _ hbw
       clear hall
       by_cases hlt : k < n1
       ·have hltI : (k : Int) < (n1 : Int) := by omega
        obtain ⟨u, hx⟩ : ∃ u, x.is[k]? = some u := ⟨x.is[k]'(by rw [← HN1.out]; exact hlt), List.getElem?_eq_getElem _⟩
        obtain ⟨a, ea, ha, c0⟩ := (HR1.out.below hbw).at_ (sx_get hx)
        rw [ea] at g4
        have HFX := zh (fun h => HF1.out k u hx h)
        have HNX := zh (show clsB u = true → ∀ (j : Nat) (s : Tx), j < k + 1 → x.is[j]? = some s → clsB s = true from fun h j c hj h1 => by
         rcases Nat.lt_succ_iff_lt_or_eq.1 hj with h3 | rfl
         ·exact HA1.out j c h3 h1
         ·rw [hx] at h1; cases h1; exact h)
        have hmem := List.mem_of_getElem? hx
        have HC := zh (HC3.out u hmem)
        clear hx ea hmem hk hlt
        go_wp2_with fail
        refine (HC.out _).mono ?_
        rintro e z ⟨rfl, hb⟩
        have KZ := zh (show Below W.heap.size W z from then' HB1.out hb)
        obtain ⟨g0, g1, g2, g3, g4, g5, g6⟩ := HCE.out _ KZ.out
        clear hb
        cases hc : clsB u with
        | false =>
         have HRF := zh (HFX.out (hc))
         (try go_wp2_with fail)
         go_ret
         exact ⟨by rw [HRF.out]; rfl, HAL.out.trans (KZ.out.mono HAL.out.size)⟩
        | true =>
         have HRN := zh (HNX.out (hc))
         (try go_wp2_with fail)
         go_roundw
         case rel => exact ⟨k + 1, by go_num, by omega, HRN.out, KZ.out⟩
         case measure => simp [intOf]; omega
       ·have hltI : ¬ (k : Int) < (n1 : Int) := by omega
        have HT1 := zh (HTT.out (fun j c h1 => HA1.out j c (by have := (List.getElem?_eq_some_iff.1 h1).1; rw [← HN1.out] at this; omega) h1))
        clear hk hlt
        go_wp2_with fail
        go_loopw [4] (fun i wr => ∃ k : Nat, i = .int .i64 (k : Int) ∧ k ≤ n2 ∧ (∀ (j : Nat) (s : FiM), j < k → x.fs[j]? = some s → fieldB s = true) ∧ Below W.heap.size W wr) (fun i _ => n2 - (intOf i).toNat)
        case atStart => exact ⟨0, rfl, Nat.zero_le _, fun j _ h => by omega, HB1.out⟩
        case round =>
         obtain ⟨k, rfl, hk, hall, hbw⟩ := hrel
         obtain ⟨y2, y2_eq⟩ : ∃ v, v = wr := ⟨_, rfl⟩
         subst y2_eq
         have HA2 := zh hall; have HB2 := zh hbw
         obtain ⟨g0, g1, g2, g3, g4, g5, g6⟩ := HCE.out _ hbw
         clear hall
         by_cases hlt : k < n2
         ·have hltI : (k : Int) < (n2 : Int) := by omega
          exfalso; omega
         ·have hltI : ¬ (k : Int) < (n2 : Int) := by omega
          have HT2 := zh (HT1.out (fun j c h1 => HA2.out j c (by have := (List.getElem?_eq_some_iff.1 h1).1; rw [← HN2.out] at this; omega) h1))
          clear hk hlt
          go_wp2_with fail
          go_loopw [6] (fun i wr => ∃ k : Nat, i = .int .i64 (k : Int) ∧ k ≤ n3 ∧ (∀ (j : Nat) (s : MeM), j < k → x.ms[j]? = some s → okM x s = true) ∧ Below W.heap.size W wr) (fun i _ => n3 - (intOf i).toNat)
          case atStart => exact ⟨0, rfl, Nat.zero_le _, fun j _ h => by omega, HB2.out⟩
          case round =>
           obtain ⟨k, rfl, hk, hall, hbw⟩ := hrel
           obtain ⟨y3, y3_eq⟩ : ∃ v, v = wr := ⟨_, rfl⟩
           subst y3_eq
           have HA3 := zh hall; have HB3 := zh hbw
           obtain ⟨g0, g1, g2, g3, g4, g5, g6⟩ := HCE.out _ hbw
           clear hall
           by_cases hlt : k < n3
           ·have hltI : (k : Int) < (n3 : Int) := by omega
            obtain ⟨u, hx⟩ : ∃ u, x.ms[k]? = some u := ⟨x.ms[k]'(by rw [← HN3.out]; exact hlt), List.getElem?_eq_getElem _⟩
            obtain ⟨a, ea, ha, c0, c1, c2, c3, c4, c5⟩ := me_at (HR3.out.below hbw) hx
            rw [ea] at g6
            have HFX := zh (fun h => HF3.out k u hx h)
            have HNX := zh (show okM x u = true → ∀ (j : Nat) (s : MeM), j < k + 1 → x.ms[j]? = some s → okM x s = true from fun h j c hj h1 => by
             rcases Nat.lt_succ_iff_lt_or_eq.1 hj with h3 | rfl
             ·exact HA3.out j c h3 h1
             ·rw [hx] at h1; cases h1; exact h)
            have hmem := List.mem_of_getElem? hx
            have HC := zh (HC6.out u hmem)
            dsimp only [meC] at HC
            obtain ⟨W2, hW2⟩ : ∃ v, v = y3.alloc (.cells (meC u).toArray 37) := ⟨_, rfl⟩
            have hb2 : Below W.heap.size W W2 := by rw [hW2]; exact hbw.alloc hbw.size _
            have hblk2 : W2.heap[y3.heap.size]? = some (.cells (meC u).toArray 37 (0, 0)) := by rw [hW2]; exact heap_alloc_new y3 _
            have HBK2 := zh hblk2; have HLT2 := zh (blk_lt hblk2)
            obtain ⟨l0, l1, l2, l3, l4, l5⟩ := me_cells hblk2
            obtain ⟨p0, p1, p2, p3, p4, p5, p6⟩ := HCE.out _ hb2
            have J0 := zh hb2
            have I0 := zh (Below.refl W2.heap.size W2)
            have HFB := zh (show okM x u = (methodB u && ((!x.fc || u.ab) && (x.ab || !u.ab))) from rfl)
            unfold meC at hW2
            try dsimp only at hW2
            have HW2 := zh hW2
            clear hW2 hblk2 hb2 hx ea hmem hk hlt
            go_wp2_with fail
            rw [← HW2.out]
            (try go_wp2_with fail)
            refine (HC.out _ J0.out).mono ?_
            rintro e z ⟨rfl, hb⟩
            have J1 := zh (show Below W.heap.size W z from then' J0.out hb)
            have I1 := zh (show Below W2.heap.size W2 z from then' I0.out hb)
            obtain ⟨r0, r1, r2, r3, r4, r5⟩ := me_cells ((I1.out.block _ HLT2.out).trans HBK2.out)
            obtain ⟨g0, g1, g2, g3, g4, g5, g6⟩ := HCE.out _ J1.out
            clear hb l0 l1 l2 l3 l4 l5
            rw [hfc] at g2
            cases d0 : methodB u with
            | false =>
             have HRF := zh (HFX.out (by rw [HFB.out, d0]; rfl))
             (try go_wp2_with fail)
             go_ret
             exact ⟨by rw [HRF.out]; rfl, HAL.out.trans (J1.out.mono HAL.out.size)⟩
            | true =>
             cases d1 : u.ab with
             | false =>
              rw [d1] at r3
              have HRF := zh (HFX.out (by rw [HFB.out, d0, d1]; simp [hfc]))
              (try go_wp2_with fail)
              go_ret
              exact ⟨by rw [HRF.out]; rfl, HAL.out.trans (J1.out.mono HAL.out.size)⟩
             | true =>
              rw [d1] at r3
              rw [hfa] at g3
              have HRN := zh (HNX.out (by rw [HFB.out, d0, d1]; simp [hfc, hfa]))
              (try go_wp2_with fail)
              go_roundw
              case rel => exact ⟨k + 1, by go_num, by omega, HRN.out, J1.out⟩
              case measure => simp [intOf]; omega
           ·have hltI : ¬ (k : Int) < (n3 : Int) := by omega
            have HT3 := zh (HT2.out (fun j c h1 => HA3.out j c (by have := (List.getElem?_eq_some_iff.1 h1).1; rw [← HN3.out] at this; omega) h1))
            clear hk hlt
            go_wp2
            go_ret
            exact ⟨by rw [HT3.out]; rfl, HAL.out.trans (HB3.out.mono HAL.out.size)⟩
     | true =>
      have gn : (0 : Int) < (n2 : Int) := by have := of_decide_eq_true h4; omega
      have HRF := zh (HF0.out (by simp [h0, h1, h2, h3, h4]))
      (try go_wp2_with fail)
      go_ret
      exact ⟨by rw [HRF.out]; rfl, HAL.out.trans (K1.out.mono HAL.out.size)⟩
end Go.Proofs.Ytdifmgeicnndfaa.prg
namespace Go.Proofs.Ytdifmgeicnndfaa.prg
open Go.RowKit
open words kindp opp op kind word
set_option maxRecDepth 100000
set_option maxHeartbeats 16000000
set_option linter.all false
theorem right_class {x : PrM} (h0 : longP x = false) {j : Nat} {c : ClM} (h1 : x.cs[j]? = some c) (h : classB c = false) : rightE x = 1 := by
 unfold rightE
 rw [show x.cs.all classB = false from by rw [List.all_eq_false]; exact ⟨c, List.mem_of_getElem? h1, by rw [h]; simp⟩, h0]; simp
theorem right_entry {x : PrM} (h0 : longP x = false) (h : entryT x.ec x.en x.ed = false) : rightE x = 1 := by
 unfold rightE
 rw [show entryB x = false from h, h0]; simp
theorem right_good {x : PrM} (h0 : longP x = false) (h1 : ∀ (j : Nat) (c : ClM), x.cs[j]? = some c → classB c = true) (h2 : entryT x.ec x.en x.ed = true) : rightE x = if orderB x = false then 5 else 0 := by
 unfold rightE
 rw [show entryB x = true from h2, h0, show x.cs.all classB = true from by
  rw [List.all_eq_true]; intro c hc
  obtain ⟨j, hj⟩ := List.mem_iff_getElem?.1 hc
  exact h1 j c hj]; simp
theorem right8_r (x : PrM) (w : World) (hk : PrOk w x) (hb : PrBd x) (hmm : ∀ c ∈ x.cs, ∀ m ∈ c.ms, ∀ z : World, Below w.heap.size w z → Calls Try.prog 123 #[.agg (meC m).toArray] z fun e w' => e = .returned (.bool (methodB m)) ∧ Below z.heap.size z w') : Calls Try.prog 49 #[.agg (prC x).toArray] w fun e w' => e = .returned (.int .i64 (rightE x)) ∧ Below w.heap.size w w' := by
 obtain ⟨W, hW⟩ : ∃ W, W = w.alloc (.cells (prC x).toArray 27) := ⟨_, rfl⟩
 have hal : Below w.heap.size w W := by rw [hW]; exact (Below.refl _ w).alloc (Nat.le_refl _) _
 have HAL := zh hal
 have hblk : W.heap[w.heap.size]? = some (.cells (prC x).toArray 27 (0, 0)) := by rw [hW]; exact heap_alloc_new w _
 have HBK := zh hblk; have HLT := zh (blk_lt hblk)
 have K0 := zh (Below.refl W.heap.size W)
 have hkW := hk.below hal
 have HR := zh hkW.1.2
 have nI : (x.cs.length : Int) ≤ 281474976710656 := by have := hb.1.1; omega
 have HL := zh (fun z (hz : Below W.heap.size W z) => long_r x z (hkW.below hz) hb)
 have HO := zh (fun z (hz : Below W.heap.size W z) => inorder_r x z (hkW.below hz) hb)
 have HE := zh (fun z => entry_r x.ec x.en x.ed z (by have := hb.2.2.1; omega) (by have := hb.2.2.2.1; omega))
 have HC := zh (show ∀ c ∈ x.cs, ∀ z : World, Below W.heap.size W z → Calls Try.prog 83 #[.agg (clC c).toArray] z fun e w' => e = .returned (.bool (classB c)) ∧ Below z.heap.size z w' from fun c hc z hz => class_r c z ((hkW.2.2 c hc).below hz) (hb.1.2 c hc) (fun m hm u hu => hmm c hc m hm u (hal.trans ((hz.trans (hu.mono hz.size)).mono hal.size))))
 obtain ⟨R, hR⟩ : ∃ R, R = rightE x := ⟨_, rfl⟩
 rw [← hR]
 have HF0 := zh (show longP x = true → R = 3 from fun h => by rw [hR]; unfold rightE; rw [if_pos h])
 have HF1 := zh (show longP x = false → ∀ (j : Nat) (c : ClM), x.cs[j]? = some c → classB c = false → R = 1 from fun h0 j c e1 e2 => by rw [hR]; exact right_class h0 e1 e2)
 have HF2 := zh (show longP x = false → entryT x.ec x.en x.ed = false → R = 1 from fun h0 e1 => by rw [hR]; exact right_entry h0 e1)
 have HT := zh (show longP x = false → (∀ (j : Nat) (c : ClM), x.cs[j]? = some c → classB c = true) → entryT x.ec x.en x.ed = true → R = if orderB x = false then 5 else 0 from fun h0 e1 e2 => by rw [hR]; exact right_good h0 e1 e2)
 generalize entryT x.ec x.en x.ed = be at HE HF2 HT
 generalize longP x = bl at HL HF0 HF1 HF2 HT
 generalize orderB x = bo at HO HT
 obtain ⟨n, hn⟩ : ∃ n, n = x.cs.length := ⟨_, rfl⟩
 have HCE := zh (show ∀ v : World, Below W.heap.size W v → v.cell? ⟨w.heap.size, 0, none⟩ = some (.slice x.A1 n x.c1) ∧ v.cell? ⟨w.heap.size, 1, none⟩ = some (.slice x.A2 x.ns.length x.c2) ∧ v.cell? ⟨w.heap.size, 2, none⟩ = some (.string ⟨x.ec.toArray⟩) ∧ v.cell? ⟨w.heap.size, 3, none⟩ = some (.string ⟨x.en.toArray⟩) ∧ v.cell? ⟨w.heap.size, 4, none⟩ = some (.string ⟨x.ed.toArray⟩) from fun v hv => by
  rw [hn]; exact pr_cells ((hv.block _ HLT.out).trans HBK.out))
 obtain ⟨x0, x1, x2, x3, x4⟩ := HCE.out _ (Below.refl W.heap.size W)
 have HN := zh hn
 rw [← hn] at nI
 unfold prC at hW HL HO ⊢
 rw [← hn] at hW HL HO ⊢
 try dsimp only at hW HL HO ⊢
 have HW := zh hW
 clear hal hblk hW hkW hk hb hmm hR hn
 go_enter Try.func49, Try.ntmps49
 go_wp2_with fail
 rw [← HW.out]
 (try go_wp2_with fail)
 refine (HL.out _ K0.out).mono ?_
 rintro e v1 ⟨rfl, hb⟩
 have K1 := zh (show Below W.heap.size W v1 from then' K0.out hb)
 obtain ⟨y0, y1, y2, y3, y4⟩ := HCE.out _ K1.out
 clear hb x0 x1 x2 x3 x4
 cases h0 : bl with
 | true =>
  have HRF := zh (HF0.out h0)
  (try go_wp2_with fail)
  go_ret
  exact ⟨by rw [HRF.out]; rfl, HAL.out.trans (K1.out.mono HAL.out.size)⟩
 | false =>
  have HG1 := zh (HF1.out h0); have HG2 := zh (HF2.out h0); have HT0 := zh (HT.out h0)
  clear HF0 HF1 HF2 HT
  go_wp2_with fail
  go_loopw [3] (fun i wr => ∃ k : Nat, i = .int .i64 (k : Int) ∧ k ≤ n ∧ (∀ (j : Nat) (c : ClM), j < k → x.cs[j]? = some c → classB c = true) ∧ Below W.heap.size W wr) (fun i _ => n - (intOf i).toNat)
  case atStart => exact ⟨0, rfl, Nat.zero_le _, fun j _ h => by omega, K1.out⟩
  case round =>
   obtain ⟨k, rfl, hk, hall, hbw⟩ := hrel
   obtain ⟨q, q_eq⟩ : ∃ v, v = wr := ⟨_, rfl⟩
   subst q_eq
   have HA := zh hall; have HB := zh hbw
   obtain ⟨g0, g1, g2, g3, g4⟩ := HCE.out _ hbw
   clear hall
   by_cases hlt : k < n
   ·have hltI : (k : Int) < (n : Int) := by omega
    obtain ⟨u, hx⟩ : ∃ u, x.cs[k]? = some u := ⟨x.cs[k]'(by rw [← HN.out]; exact hlt), List.getElem?_eq_getElem _⟩
    obtain ⟨a, ea, ha, c0, c1, c2, c3, c4, c5, c6⟩ := cl_at (HR.out.below hbw) hx
    rw [ea] at g0
    have HFX := zh (fun h => HG1.out k u hx h)
    have HNX := zh (show classB u = true → ∀ (j : Nat) (c : ClM), j < k + 1 → x.cs[j]? = some c → classB c = true from fun h j c hj h1 => by
     rcases Nat.lt_succ_iff_lt_or_eq.1 hj with h3 | rfl
     ·exact HA.out j c h3 h1
     ·rw [hx] at h1; cases h1; exact h)
    have HCU := zh (fun z hz => HC.out u (List.mem_of_getElem? hx) z hz)
    dsimp only [clC] at HCU
    clear hx ea hk hlt
    go_wp2_with fail
    refine (HCU.out _ HB.out).mono ?_
    rintro e z ⟨rfl, hb⟩
    have KZ := zh (show Below W.heap.size W z from then' HB.out hb)
    obtain ⟨r0, r1, r2, r3, r4⟩ := HCE.out _ KZ.out
    clear hb
    cases hc : classB u with
    | false =>
     have HRF := zh (HFX.out hc)
     (try go_wp2_with fail)
     go_ret
     exact ⟨by rw [HRF.out]; rfl, HAL.out.trans (KZ.out.mono HAL.out.size)⟩
    | true =>
     have HRN := zh (HNX.out hc)
     (try go_wp2_with fail)
     go_roundw
     case rel => exact ⟨k + 1, by go_num, by omega, HRN.out, KZ.out⟩
     case measure => simp [intOf]; omega
   ·have hltI : ¬ (k : Int) < (n : Int) := by omega
    have HT1 := zh (HT0.out (fun j c h1 => HA.out j c (by have := (List.getElem?_eq_some_iff.1 h1).1; rw [← HN.out] at this; omega) h1))
    clear hk hlt
    go_wp2_with fail
    refine (HE.out _).mono ?_
    rintro e z ⟨rfl, hb⟩
    have K2 := zh (show Below W.heap.size W z from then' HB.out hb)
    obtain ⟨r0, r1, r2, r3, r4⟩ := HCE.out _ K2.out
    clear hb g0 g1 g2 g3 g4
    cases h1 : be with
    | false =>
     have HRF := zh (HG2.out h1)
     (try go_wp2_with fail)
     go_ret
     exact ⟨by rw [HRF.out]; rfl, HAL.out.trans (K2.out.mono HAL.out.size)⟩
    | true =>
     have HT2 := zh (HT1.out h1)
     go_wp2_with fail
     refine (HO.out _ K2.out).mono ?_
     rintro e z' ⟨rfl, hb⟩
     have K3 := zh (show Below W.heap.size W z' from then' K2.out hb)
     clear hb
     cases h2 : bo with
     | false =>
      have HRF := zh (show R = 5 from by rw [HT2.out, if_pos h2])
      (try go_wp2_with fail)
      go_ret
      exact ⟨by rw [HRF.out]; rfl, HAL.out.trans (K3.out.mono HAL.out.size)⟩
     | true =>
      have HRF := zh (show R = 0 from by rw [HT2.out, if_neg (by rw [h2]; simp)])
      (try go_wp2_with fail)
      go_ret
      exact ⟨by rw [HRF.out]; rfl, HAL.out.trans (K3.out.mono HAL.out.size)⟩
end Go.Proofs.Ytdifmgeicnndfaa.prg

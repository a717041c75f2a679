/- Laid7A -/
import Derived.Test.YtdifmgeicnndfaaFindS
import Derived.Test.YtdifmgeicnndfaaLive12
import Derived.Test.YtdifmgeicnndfaaAsked
import Derived.Test.YtdifmgeicnndfaaHierW
import Derived.Test.YtdifmgeicnndfaaNormE
import Derived.ChangeMaps5
import Derived.Test.YtdifmgeicnndfaaProg
import Derived.Lib.Hide
import Derived.Deep.QuietTactic
import Derived.BigQuiet
import Derived.SliceStrings
import Derived.Test.YtdifmgeicnndfaaRows
import Derived.ProofKit
import Derived.Deep.DeepHandedRow
import Derived.Lib.LaidTab
import Derived.Lib.SmallJoins
import Derived.Deep.Fields
namespace Go.Proofs.Ytdifmgeicnndfaa.findOverrides
open Go.RowKit
open words kindp opp op kind word prg sorts find askd
set_option maxRecDepth 100000
set_option maxHeartbeats 16000000
set_option linter.all false
theorem walk (x : PrM) (a0 b0 c0 : Nat) (w : World) (hk : PrOk w x) (hb : PrBd x) (he : a0 < 256 ∧ b0 < 256 ∧ c0 < 256) : Calls Try.prog 3 #[.agg (prC x).toArray, .agg #[.int .u8 (a0 : Int), .int .u8 (b0 : Int), .int .u8 (c0 : Int)]] w fun e w' => e = .returned (.bool true) ∧ Below w.heap.size w w' := by
 obtain ⟨cs, xA1, xc1, xns, xA2, xc2, xec, xen, xed⟩ := x
 obtain ⟨n, hn⟩ : ∃ n, n = cs.length := ⟨_, rfl⟩
 obtain ⟨W, hW⟩ : ∃ W, W = (w.alloc (.cells (prC ⟨cs, xA1, xc1, xns, xA2, xc2, xec, xen, xed⟩).toArray 27)).alloc (.cells #[.int .u8 (a0 : Int), .int .u8 (b0 : Int), .int .u8 (c0 : Int)] 28) := ⟨_, rfl⟩
 have hal : Below w.heap.size w W := by rw [hW]; exact ((Below.refl _ w).alloc (Nat.le_refl _) _).alloc (by simp) _
 have hbi : W.heap[w.heap.size]? = some (.cells (prC ⟨cs, xA1, xc1, xns, xA2, xc2, xec, xen, xed⟩).toArray 27 (0, 0)) := by rw [hW]; exact (Below.heap_alloc _ _ _ (by simp)).trans (heap_alloc_new w _)
 have hbj : W.heap[w.heap.size + 1]? = some (.cells #[.int .u8 (a0 : Int), .int .u8 (b0 : Int), .int .u8 (c0 : Int)] 28 (0, 0)) := by
  have := heap_alloc_new (w.alloc (.cells (prC ⟨cs, xA1, xc1, xns, xA2, xc2, xec, xen, xed⟩).toArray 27)) (.cells #[.int .u8 (a0 : Int), .int .u8 (b0 : Int), .int .u8 (c0 : Int)] 28)
  rw [World.size_alloc] at this
  rw [hW]; exact this
 have HAL := zh hal
 have HCE := zh (show ∀ v : World, Below W.heap.size W v → (v.cell? ⟨w.heap.size, 0, none⟩ = some (.slice xA1 n xc1) ∧ v.cell? ⟨w.heap.size, 1, none⟩ = some (.slice xA2 xns.length xc2) ∧ v.cell? ⟨w.heap.size, 2, none⟩ = some (.string ⟨xec.toArray⟩) ∧ v.cell? ⟨w.heap.size, 3, none⟩ = some (.string ⟨xen.toArray⟩) ∧ v.cell? ⟨w.heap.size, 4, none⟩ = some (.string ⟨xed.toArray⟩)) ∧ (v.cell? ⟨w.heap.size + 1, 0, none⟩ = some (.int .u8 (a0 : Int)) ∧ v.cell? ⟨w.heap.size + 1, 1, none⟩ = some (.int .u8 (b0 : Int)) ∧ v.cell? ⟨w.heap.size + 1, 2, none⟩ = some (.int .u8 (c0 : Int))) from fun v hv => by
  rw [hn]
  exact ⟨pr_cells ((hv.block _ (blk_lt hbi)).trans hbi), cell_of_row _ _ 0 _ _ _ ((hv.block _ (blk_lt hbj)).trans hbj), cell_of_row _ _ 1 _ _ _ ((hv.block _ (blk_lt hbj)).trans hbj), cell_of_row _ _ 2 _ _ _ ((hv.block _ (blk_lt hbj)).trans hbj)⟩)
 have HKX := zh (fun v (hv : Below W.heap.size W v) => (hk.below hal).below hv)
 have HGR := zh (fun v (hv : Below W.heap.size W v) => great_w ⟨cs, xA1, xc1, xns, xA2, xc2, xec, xen, xed⟩ v ((hk.below hal).below hv) hb)
 have HAS := zh (fun v (hv : Below W.heap.size W v) (hg : GrP ⟨cs, xA1, xc1, xns, xA2, xc2, xec, xen, xed⟩) => asked_w ⟨cs, xA1, xc1, xns, xA2, xc2, xec, xen, xed⟩ a0 b0 c0 v ((hk.below hal).below hv) hg he)
 have HCL := zh (fun (c : Tx) v (hv : Below W.heap.size W v) => rplace_cl ⟨cs, xA1, xc1, xns, xA2, xc2, xec, xen, xed⟩ c v ((hk.below hal).below hv).1.2 hb.1.1)
 have HDI := zh (fun (c s d : Tx) v (hv : Below W.heap.size W v) (hg : GrP ⟨cs, xA1, xc1, xns, xA2, xc2, xec, xen, xed⟩) => dispatch_w ⟨cs, xA1, xc1, xns, xA2, xc2, xec, xen, xed⟩ c s d v ((hk.below hal).below hv) hg)
 have HGE := zh (fun (c s d : Tx) v (hv : Below W.heap.size W v) (hg : GrP ⟨cs, xA1, xc1, xns, xA2, xc2, xec, xen, xed⟩) => get_w ⟨cs, xA1, xc1, xns, xA2, xc2, xec, xen, xed⟩ c s d v ((hk.below hal).below hv) hg)
 have HCK := zh (fun v (hv : Below W.heap.size W v) (hg : GrP ⟨cs, xA1, xc1, xns, xA2, xc2, xec, xen, xed⟩) => check_r ⟨cs, xA1, xc1, xns, xA2, xc2, xec, xen, xed⟩ v ((hk.below hal).below hv) hg)
 have HN := zh hn
 unfold prC at hW HGR HAS HCL HDI HGE HCK ⊢
 try dsimp only at hW HGR HAS HCL HDI HGE HCK ⊢
 rw [← hn] at hW HGR HAS HCL HDI HGE HCK ⊢
 have HW := zh hW
 clear hal hbi hbj hW hk hb hn he
 go_enter Try.func3, Try.ntmps3
 go_wp2_with fail
 try simp only [World.size_alloc]
 rw [← HW.out]
 (try go_wp2_with fail)
 refine (HGR.out _ (Below.refl _ _)).mono ?_
 rintro e v1 ⟨g, rfl, hg, hb1⟩
 have K1 := zh hb1
 have HGA := zh hg
 clear hb1 hg
 cases g with
 | true =>
  go_wp2_with fail
  refine (live_f _).mono ?_
  rintro e z ⟨rfl, hbz⟩
  go_wp2
  go_ret
  exact ⟨rfl, HAL.out.trans ((then' K1.out hbz).mono HAL.out.size)⟩
 | false =>
  have hgp := HGA.out (by first | rfl | trivial)
  have HGP := zh hgp
  clear hgp
  obtain ⟨⟨x0, x1, x2, x3, x4⟩, p0, p1, p2⟩ := HCE.out _ K1.out
  go_wp2_with fail
  clear x0 x1 x2 x3 x4 p0 p1 p2
  refine (HAS.out _ K1.out HGP.out).mono ?_
  rintro e v2 ⟨⟨cn, s, d, rfl⟩, hb2⟩
  have K2 := zh (then' K1.out hb2)
  clear hb2
  obtain ⟨b5, hB⟩ : ∃ q, q = v2.heap.size := ⟨_, rfl⟩
  obtain ⟨V3, hV⟩ : ∃ v, v = v2.alloc (.cells #[.string ⟨cn.toArray⟩, .string ⟨s.toArray⟩, .string ⟨d.toArray⟩] 25) := ⟨_, rfl⟩
  have hbv : Below v2.heap.size v2 V3 := by rw [hV]; exact (Below.refl _ _).alloc (Nat.le_refl _) _
  have K3 := zh (then' K2.out hbv)
  have M3 := zh (show V3.heap[b5]? = some (.cells #[.string ⟨cn.toArray⟩, .string ⟨s.toArray⟩, .string ⟨d.toArray⟩] 25 (0, 0)) from by rw [hV, hB]; exact heap_alloc_new _ _)
  have HB5 := zh hB; have HV3 := zh hV
  clear hbv hB hV
  obtain ⟨⟨x0, x1, x2, x3, x4⟩, -⟩ := HCE.out _ K3.out
  have m0 := cell_of_row _ _ 0 _ _ _ M3.out
  rw [HV3.out] at x0 x1 x2 x3 x4 m0
  (try rw [HB5.out] at x0)
  (try rw [HB5.out] at x1)
  (try rw [HB5.out] at x2)
  (try rw [HB5.out] at x3)
  (try rw [HB5.out] at x4)
  (try rw [HB5.out] at m0)
  go_wp2_with fail
  rw [← HV3.out]
  (try rw [← HB5.out])
  clear x0 x1 x2 x3 x4 m0
  refine (HCL.out cn _ K3.out).mono ?_
  rintro e v4 ⟨r, rfl, hidx, hb4⟩
  have K4 := zh (then' K3.out hb4)
  have M4 := zh ((hb4.block _ (blk_lt M3.out)).trans M3.out)
  have HIX := zh hidx
  clear hb4 hidx
  have m1 := cell_of_row _ _ 1 _ _ _ M4.out
  rcases HIX.out with ⟨rfl, -⟩ | ⟨i, y, rfl, hy, hyn, hyt⟩
  ·have g0 : decide ((-1 : Int) < 0) = true := by decide
   go_wp2_with fail
   refine (live_f _).mono ?_
   rintro e z ⟨rfl, hbz⟩
   go_wp2
   go_ret
   exact ⟨rfl, HAL.out.trans ((then' K4.out hbz).mono HAL.out.size)⟩
  ·have g0 : decide ((i : Int) < 0) = false := by rw [decide_eq_false_iff_not]; omega
   have g0n : ¬ (i : Int) < 0 := by omega
   have hfc : findC cs cn = some y := by
    unfold findC
    exact (idx_at (P := fun u : ClM => u.nm == cn) hy hyn hyt).2
   have HFC := zh hfc; have HY := zh hy
   clear hfc hy hyn hyt
   cases hi : (s == clinit) with
   | true =>
    have hi' : (s == [60, 99, 108, 105, 110, 105, 116, 62]) = true := hi
    go_wp2_with fail
    refine (live_f _).mono ?_
    rintro e z ⟨rfl, hbz⟩
    go_wp2
    go_ret
    exact ⟨rfl, HAL.out.trans ((then' K4.out hbz).mono HAL.out.size)⟩
   | false =>
    have hi' : (s == [60, 99, 108, 105, 110, 105, 116, 62]) = false := hi
    have HI := zh hi
    clear hi
    obtain ⟨⟨x0, x1, x2, x3, x4⟩, -⟩ := HCE.out _ K4.out
    have m0 := cell_of_row _ _ 0 _ _ _ M4.out
    have m2 := cell_of_row _ _ 2 _ _ _ M4.out
    obtain ⟨a1, a2, a3, ok, hv⟩ := refV_form (dispR cs cn s d) s d
    have hd1 := fun v hv => HDI.out cn s d v hv HGP.out
    rw [hv] at hd1
    have HD1 := zh hd1
    have HV := zh hv
    clear hd1 hv
    go_wp2_with fail
    clear x0 x1 x2 x3 x4 m0 m1 m2
    refine (HD1.out _ K4.out).mono ?_
    rintro e v5 ⟨rfl, hb5⟩
    have K5 := zh (then' K4.out hb5)
    have M5 := zh ((hb5.block _ (blk_lt M4.out)).trans M4.out)
    clear hb5
    obtain ⟨b7, hB⟩ : ∃ q, q = v5.heap.size := ⟨_, rfl⟩
    obtain ⟨V6, hV⟩ : ∃ v, v = v5.alloc (.cells #[.string ⟨a1.toArray⟩, .string ⟨a2.toArray⟩, .string ⟨a3.toArray⟩] 25) := ⟨_, rfl⟩
    have hbv : Below v5.heap.size v5 V6 := by rw [hV]; exact (Below.refl _ _).alloc (Nat.le_refl _) _
    have K6 := zh (then' K5.out hbv)
    have A6 := zh (show V6.heap[b7]? = some (.cells #[.string ⟨a1.toArray⟩, .string ⟨a2.toArray⟩, .string ⟨a3.toArray⟩] 25 (0, 0)) from by rw [hV, hB]; exact heap_alloc_new _ _)
    have M6 := zh ((hbv.block _ (blk_lt M5.out)).trans M5.out)
    have HB7 := zh hB; have HV6 := zh hV
    clear hbv hB hV
    obtain ⟨⟨x0, x1, x2, x3, x4⟩, -⟩ := HCE.out _ K6.out
    have m0 := cell_of_row _ _ 0 _ _ _ M6.out
    have m1 := cell_of_row _ _ 1 _ _ _ M6.out
    have m2 := cell_of_row _ _ 2 _ _ _ M6.out
    rw [HV6.out] at x0 x1 x2 x3 x4 m0 m1 m2
    (try rw [HB7.out] at x0)
    (try rw [HB7.out] at x1)
    (try rw [HB7.out] at x2)
    (try rw [HB7.out] at x3)
    (try rw [HB7.out] at x4)
    (try rw [HB7.out] at m0)
    (try rw [HB7.out] at m1)
    (try rw [HB7.out] at m2)
    go_wp2_with fail
    rw [← HV6.out]
    (try rw [← HB7.out])
    clear x0 x1 x2 x3 x4 m0 m1 m2
    refine (HGE.out cn s d _ K6.out HGP.out).mono ?_
    rintro e v7 ⟨⟨k, has, rfl, hget⟩, hb7⟩
    have K7 := zh (then' K6.out hb7)
    have M7 := zh ((hb7.block _ (blk_lt M6.out)).trans M6.out)
    have A7 := zh ((hb7.block _ (blk_lt A6.out)).trans A6.out)
    have HGT := zh hget
    clear hb7 hget
    unfold meC
    obtain ⟨b9, hB⟩ : ∃ q, q = v7.heap.size := ⟨_, rfl⟩
    obtain ⟨V8, hV⟩ : ∃ v, v = v7.alloc (.cells #[.string ⟨k.nm.toArray⟩, .string ⟨k.ds.toArray⟩, .bool k.st, .bool k.ab, .int .i64 k.rg, .slice k.A k.co.length k.c] 37) := ⟨_, rfl⟩
    have hbv : Below v7.heap.size v7 V8 := by rw [hV]; exact (Below.refl _ _).alloc (Nat.le_refl _) _
    have K8 := zh (then' K7.out hbv)
    have N8 := zh (show V8.heap[b9]? = some (.cells #[.string ⟨k.nm.toArray⟩, .string ⟨k.ds.toArray⟩, .bool k.st, .bool k.ab, .int .i64 k.rg, .slice k.A k.co.length k.c] 37 (0, 0)) from by rw [hV, hB]; exact heap_alloc_new _ _)
    have M8 := zh ((hbv.block _ (blk_lt M7.out)).trans M7.out)
    have A8 := zh ((hbv.block _ (blk_lt A7.out)).trans A7.out)
    have HB9 := zh hB; have HV8 := zh hV
    clear hbv hB hV
    cases has with
    | true =>
     have hown : ok = (!k.st && !k.ab) ∧ ((!k.st && !k.ab) = true → a1 = cn ∧ a2 = s ∧ a3 = d) := by
      have h1 := HGT.out
      unfold GetR at h1
      (try dsimp only at h1)
      cases hf : firstM cs [cn] s d with
      | none => rw [hf] at h1; exact absurd h1.1 (by simp)
      | some cj =>
       obtain ⟨c, j⟩ := cj
       rw [hf] at h1
       obtain ⟨-, m, hm, hp⟩ := h1
       have e1 : k.st = m.st := congrArg (fun z : MeP => z.st) hp
       have e2 : k.ab = m.ab := congrArg (fun z : MeP => z.ab) hp
       have h2 := HV.out
       rw [disp_own hf hm HI.out] at h2
       rw [e1, e2]
       exact refV_if h2
     have HOW := zh hown
     clear hown
     skip
     go_wp2_with fail
     rw [← HV8.out]
     (try rw [← HB9.out])
     refine (live_f _).mono ?_
     rintro e v9 ⟨rfl, hb9⟩
     have K9 := zh (then' K8.out hb9)
     have M9 := zh ((hb9.block _ (blk_lt M8.out)).trans M8.out)
     have A9 := zh ((hb9.block _ (blk_lt A8.out)).trans A8.out)
     have N9 := zh ((hb9.block _ (blk_lt N8.out)).trans N8.out)
     clear hb9
     obtain ⟨m0, m1, m2⟩ : v9.cell? ⟨b5, 0, none⟩ = some (.string ⟨cn.toArray⟩) ∧ v9.cell? ⟨b5, 1, none⟩ = some (.string ⟨s.toArray⟩) ∧ v9.cell? ⟨b5, 2, none⟩ = some (.string ⟨d.toArray⟩) := ⟨cell_of_row _ _ 0 _ _ _ M9.out, cell_of_row _ _ 1 _ _ _ M9.out, cell_of_row _ _ 2 _ _ _ M9.out⟩
     obtain ⟨q0, q1, q2⟩ : v9.cell? ⟨b7, 0, none⟩ = some (.string ⟨a1.toArray⟩) ∧ v9.cell? ⟨b7, 1, none⟩ = some (.string ⟨a2.toArray⟩) ∧ v9.cell? ⟨b7, 2, none⟩ = some (.string ⟨a3.toArray⟩) := ⟨cell_of_row _ _ 0 _ _ _ A9.out, cell_of_row _ _ 1 _ _ _ A9.out, cell_of_row _ _ 2 _ _ _ A9.out⟩
     have n2 : v9.cell? ⟨b9, 2, none⟩ = some (.bool k.st) := cell_of_row _ _ 2 _ _ _ N9.out
     have n3 : v9.cell? ⟨b9, 3, none⟩ = some (.bool k.ab) := cell_of_row _ _ 3 _ _ _ N9.out
     clear M9 A9 N9
     obtain ⟨knm, kds, kst, kab, krg, kco, kA, kc⟩ := k
     dsimp only at n2 n3 HOW
     cases kst <;> cases kab
     ·obtain ⟨rfl, h3⟩ := HOW.out
      obtain ⟨rfl, rfl, rfl⟩ := h3 rfl
      go_wp2
      go_ret
      exact ⟨rfl, HAL.out.trans (K9.out.mono HAL.out.size)⟩
     all_goals
      obtain ⟨rfl, -⟩ := HOW.out
      go_wp2
      go_ret
      exact ⟨rfl, HAL.out.trans (K9.out.mono HAL.out.size)⟩
    | false =>
     have hab : dispR cs cn s d = dispR cs y.su s d := by
      refine disp_above HFC.out ?_
      have h1 := HGT.out
      unfold GetR at h1
      (try dsimp only at h1)
      cases hf : firstM cs [cn] s d with
      | none => rfl
      | some cj => rw [hf] at h1; exact absurd h1.1 (by simp)
     have hv2 := HV.out
     rw [hab] at hv2
     have hd2 := fun v hv => HDI.out y.su s d v hv HGP.out
     rw [hv2] at hd2
     have HD2 := zh hd2
     clear hd2 hv2 hab
     obtain ⟨⟨x0, x1, x2, x3, x4⟩, -⟩ := HCE.out _ K8.out
     have hrd := (HKX.out _ K8.out).1.2
     (try dsimp only at hrd)
     obtain ⟨a, rfl, -, p0, p1, p2, p3, p4, p5, p6⟩ := cl_at hrd HY.out
     have hin : (i : Int) < (n : Int) := by have := (List.getElem?_eq_some_iff.1 HY.out).1; have := HN.out; omega
     have hi0 : (0 : Int) ≤ (i : Int) := by omega
     have hn70 : (n : Int) ≤ 70 := by have := HGP.out.1.1; (try dsimp only at this); have := HN.out; omega
     have hwi : IntKind.i64.wrap (i : Int) = (i : Int) := IntWalk.i64_in _ (by omega)
     clear hrd
     have hx9 : b9 = v7.heap.size := HB9.out
     rw [HV8.out] at x0 x1 x2 x3 x4 p0 p1 p2 p3 p4 p5 p6
     (try rw [HB9.out] at x0)
     (try rw [HB9.out] at x1)
     (try rw [HB9.out] at x2)
     (try rw [HB9.out] at x3)
     (try rw [HB9.out] at x4)
     (try rw [HB9.out] at p0)
     (try rw [HB9.out] at p1)
     (try rw [HB9.out] at p2)
     (try rw [HB9.out] at p3)
     (try rw [HB9.out] at p4)
     (try rw [HB9.out] at p5)
     (try rw [HB9.out] at p6)
     obtain ⟨b11, hB⟩ : ∃ q, q = V8.heap.size := ⟨_, rfl⟩
     obtain ⟨V9, hV⟩ : ∃ v, v = V8.alloc (.cells #[.string ⟨y.nm.toArray⟩, .string ⟨y.su.toArray⟩, .bool y.fc, .bool y.ab, .slice y.A1 y.is.length y.c1, .slice y.A2 y.fs.length y.c2, .slice y.A3 y.ms.length y.c3] 43) := ⟨_, rfl⟩
     have hbv : Below V8.heap.size V8 V9 := by rw [hV]; exact (Below.refl _ _).alloc (Nat.le_refl _) _
     have K9 := zh (then' K8.out hbv)
     have C9 := zh (show V9.heap[b11]? = some (.cells #[.string ⟨y.nm.toArray⟩, .string ⟨y.su.toArray⟩, .bool y.fc, .bool y.ab, .slice y.A1 y.is.length y.c1, .slice y.A2 y.fs.length y.c2, .slice y.A3 y.ms.length y.c3] 43 (0, 0)) from by rw [hV, hB]; exact heap_alloc_new _ _)
     have M9 := zh ((hbv.block _ (blk_lt M8.out)).trans M8.out)
     have A9 := zh ((hbv.block _ (blk_lt A8.out)).trans A8.out)
     have HB11 := zh hB; have HV9 := zh hV
     clear hbv hB hV
     obtain ⟨⟨z0, z1, z2, z3, z4⟩, -⟩ := HCE.out _ K9.out
     rw [HV9.out, HV8.out] at z0 z1 z2 z3 z4
     have e11 : b11 = v7.heap.size + 1 := by rw [HB11.out, HV8.out]; simp
     have E11 := zh e11
     clear e11
     go_wp2_with fail
     rw [← HV8.out, ← HV9.out]
     (try rw [← E11.out])
     (try rw [← HB9.out])
     clear x0 x1 x2 x3 x4 p0 p1 p2 p3 p4 p5 p6 z0 z1 z2 z3 z4
     refine (HCK.out _ K9.out HGP.out).mono ?_
     rintro e v10 ⟨E, t, rfl, -, hb10⟩
     have K10 := zh (then' K9.out hb10)
     have M10 := zh ((hb10.block _ (blk_lt M9.out)).trans M9.out)
     have A10 := zh ((hb10.block _ (blk_lt A9.out)).trans A9.out)
     have C10 := zh ((hb10.block _ (blk_lt C9.out)).trans C9.out)
     clear hb10
     have c1 : v10.cell? ⟨b11, 1, none⟩ = some (.string ⟨y.su.toArray⟩) := cell_of_row _ _ 1 _ _ _ C10.out
     by_cases hE : E = 0
     ·have hz0 : (E != 0) = false := by rw [hE]; rfl
      cases hsu : (y.su == []) with
      | true =>
       have hsu' : y.su = [] := by simpa using hsu
       rw [hsu'] at c1
       go_wp2_with fail
       refine (live_f _).mono ?_
       rintro e z ⟨rfl, hbz⟩
       go_wp2
       go_ret
       exact ⟨rfl, HAL.out.trans ((then' K10.out hbz).mono HAL.out.size)⟩
      | false =>
       obtain ⟨⟨x0, x1, x2, x3, x4⟩, -⟩ := HCE.out _ K10.out
       have m1 : v10.cell? ⟨b5, 1, none⟩ = some (.string ⟨s.toArray⟩) := cell_of_row _ _ 1 _ _ _ M10.out
       have m2 : v10.cell? ⟨b5, 2, none⟩ = some (.string ⟨d.toArray⟩) := cell_of_row _ _ 2 _ _ _ M10.out
       go_wp2_with fail
       clear x0 x1 x2 x3 x4 m1 m2 c1
       refine (HD2.out _ K10.out).mono ?_
       rintro e v11 ⟨rfl, hb11⟩
       have K11 := zh (then' K10.out hb11)
       have A11 := zh ((hb11.block _ (blk_lt A10.out)).trans A10.out)
       clear hb11
       obtain ⟨b14, hB⟩ : ∃ q, q = v11.heap.size := ⟨_, rfl⟩
       obtain ⟨V12, hV⟩ : ∃ v, v = v11.alloc (.cells #[.string ⟨a1.toArray⟩, .string ⟨a2.toArray⟩, .string ⟨a3.toArray⟩] 25) := ⟨_, rfl⟩
       have hbv : Below v11.heap.size v11 V12 := by rw [hV]; exact (Below.refl _ _).alloc (Nat.le_refl _) _
       have K12 := zh (then' K11.out hbv)
       have B12 := zh (show V12.heap[b14]? = some (.cells #[.string ⟨a1.toArray⟩, .string ⟨a2.toArray⟩, .string ⟨a3.toArray⟩] 25 (0, 0)) from by rw [hV, hB]; exact heap_alloc_new _ _)
       have A12 := zh ((hbv.block _ (blk_lt A11.out)).trans A11.out)
       have HB14 := zh hB; have HV12 := zh hV
       clear hbv hB hV
       go_wp2_with fail
       rw [← HV12.out]
       (try rw [← HB14.out])
       refine (live_f _).mono ?_
       rintro e v13 ⟨rfl, hb13⟩
       have K13 := zh (then' K12.out hb13)
       have rA := (hb13.block _ (blk_lt A12.out)).trans A12.out
       have rB := (hb13.block _ (blk_lt B12.out)).trans B12.out
       obtain ⟨q0, q1, q2⟩ : v13.cell? ⟨b7, 0, none⟩ = some (.string ⟨a1.toArray⟩) ∧ v13.cell? ⟨b7, 1, none⟩ = some (.string ⟨a2.toArray⟩) ∧ v13.cell? ⟨b7, 2, none⟩ = some (.string ⟨a3.toArray⟩) := ⟨cell_of_row _ _ 0 _ _ _ rA, cell_of_row _ _ 1 _ _ _ rA, cell_of_row _ _ 2 _ _ _ rA⟩
       obtain ⟨t0, t1, t2⟩ : v13.cell? ⟨b14, 0, none⟩ = some (.string ⟨a1.toArray⟩) ∧ v13.cell? ⟨b14, 1, none⟩ = some (.string ⟨a2.toArray⟩) ∧ v13.cell? ⟨b14, 2, none⟩ = some (.string ⟨a3.toArray⟩) := ⟨cell_of_row _ _ 0 _ _ _ rB, cell_of_row _ _ 1 _ _ _ rB, cell_of_row _ _ 2 _ _ _ rB⟩
       clear rA rB hb13
       cases ok <;>
       ·go_wp2
        go_ret
        exact ⟨rfl, HAL.out.trans (K13.out.mono HAL.out.size)⟩
     ·have hz0 : (E != 0) = true := by rw [bne_iff_ne]; exact hE
      go_wp2_with fail
      refine (live_f _).mono ?_
      rintro e z ⟨rfl, hbz⟩
      go_wp2
      go_ret
      exact ⟨rfl, HAL.out.trans ((then' K10.out hbz).mono HAL.out.size)⟩
end Go.Proofs.Ytdifmgeicnndfaa.findOverrides
namespace Go.Proofs.Ytdifmgeicnndfaa.frame
open Go.ChangeShapes Go.WideShapes Go.ChangeAt Go.RowKit
end Go.Proofs.Ytdifmgeicnndfaa.frame
namespace Go.Proofs.Ytdifmgeicnndfaa.texts
open Go.RowKit
open words
def S (l : List ByteArray) : List Value := l.map Value.string
end Go.Proofs.Ytdifmgeicnndfaa.texts
namespace Go.Proofs.Ytdifmgeicnndfaa.frame
open Go.ChangeShapes Go.WideShapes Go.ChangeAt Go.RowKit
open words texts
theorem weights_all {H : Type} {P : Program} {e : TypeId} {y : DataW H} {n : Nat} (hn : n ∈ y.weights P e) : ∀ {l : List (DataW H)}, y ∈ l → n ∈ DataW.weightsAll P e l
 | [], h => by cases h
 | d :: r, h => by
  simp only [DataW.weightsAll, List.mem_append]
  rcases List.mem_cons.1 h with rfl | h
  ·exact .inl hn
  ·exact .inr (weights_all hn h)
end Go.Proofs.Ytdifmgeicnndfaa.frame
namespace Go.Proofs.Ytdifmgeicnndfaa.frame7
open Go.Joins Go.ChangeShapes Go.WideShapes Go.ChangeAt Go.RowKit Go.Deep
open words frame kindp opp op kind
section
variable {H : Type} {enc : TypeId × Value → H} {P : Program} {w : World} {base : Nat} {spare : Nat → Bool} {held : Bool}
end
end Go.Proofs.Ytdifmgeicnndfaa.frame7
namespace Go.Proofs.Ytdifmgeicnndfaa.Laid7
open Go.ChangeShapes Go.WideShapes Go.ChangeAt Go.RowKit
open kindp opp op kind
theorem open_two {H : Type} {enc : TypeId × Value → H} {P : Program} {w : World} {base : Nat} {spare : Nat → Bool} {held : Bool} {t : TypeId} {f0 f1 : Field} {fuel : Nat} {cs : List Value} {x : DataW H × List MemPlace} (ht : P.underlying t = some (.struct #[f0, f1])) (ce : P.cellsOf t = 2)
  (o0 : f0.offset = 0) (o1 : f1.offset = 1) (c0 : P.cellsOf f0.type = 1) (c1 : P.cellsOf f1.type = 1) (h : DataW.trod enc P w base spare held fuel t cs = some x) :
  ∃ (n : Nat) (v0 v1 : Value) (y0 y1 : DataW H × List MemPlace), cs = [v0, v1] ∧ x = (.agg [y0.1, y1.1], y0.2 ++ y1.2) ∧ DataW.trod enc P w base spare held n f0.type [v0] = some y0 ∧ DataW.trod enc P w base spare held n f1.type [v1] = some y1 := by
 obtain ⟨xs, n, _, hxy, hl, hxl, hf⟩ := DataW.trod_struct ht h
 rw [ce] at hl
 match xs, hxl, cs, hl with
 | [y0, y1], _, [v0, v1], _ =>
  have g0 := hf 0 f0 rfl
  have g1 := hf 1 f1 rfl
  simp [o0, o1, c0, c1] at g0 g1
  exact ⟨n, v0, v1, y0, y1, rfl, by rw [hxy]; simp, g0, g1⟩
end Go.Proofs.Ytdifmgeicnndfaa.Laid7

/-
 Layer 8: where classes, methods and fields stand: the program's answers.
-/
import Derived.Test.YtgpfohpmgbnimaaNormE
namespace Go.Proofs.Ytgpfohpmgbnimaa.prg
open Go.RowKit
open words kindp opp op kind word

set_option maxRecDepth 100000 in
set_option maxHeartbeats 4000000 in
set_option linter.all false in
theorem at_cl (x : ClM) (g : Nat) (s : Tx) (w : World) (hg : w.cell? ⟨g, 0, none⟩ = some (.string ⟨s.toArray⟩)) : Calls Try.prog 69 #[.agg (clC x).toArray, .pointer (some ⟨g, 0, none⟩)] w fun e w' => e = .returned (.bool (x.nm == s)) ∧ Below w.heap.size w w' := by
 obtain ⟨W, hW⟩ : ∃ W, W = w.alloc (.cells (clC x).toArray 42) := ⟨_, rfl⟩
 have hal : Below w.heap.size w W := by rw [hW]; exact (Below.refl _ w).alloc (Nat.le_refl _) _
 have HAL := Lib.hid hal
 have hblk : W.heap[w.heap.size]? = some (.cells (clC x).toArray 42 (0, 0)) := by rw [hW]; exact heap_alloc_new w _
 have HBK := Lib.hid hblk; have HLT := Lib.hid (blk_lt hblk)
 obtain ⟨x0_0, x0_1, x0_2, x0_3, x0_4, x0_5, x0_6⟩ := cl_cells hblk
 have K0 := Lib.hid (Below.refl W.heap.size W)
 have kg := (hal.cell (World.block_lt_of_cell? _ _ hg)).trans hg
 unfold clC at hW ⊢
 try dsimp only at hW ⊢
 have ke := kg
 rw [hW] at ke
 have HW := Lib.hid hW
 clear hal hblk hW
 cases h0 : (x.nm == s) with
 | false =>
  (try simp only [h0] at HW)
  go_enter Try.func69, Try.ntmps69
  go_wp2_with fail
  rw [← HW.out]
  (try go_wp2_with fail)
  go_ret
  exact ⟨by first | rfl | (simp only [h0, bls]; done) | (simp only [h0, bls]; rfl), HAL.out.trans (K0.out.mono HAL.out.size)⟩
 | true =>
  (try simp only [h0] at HW)
  go_enter Try.func69, Try.ntmps69
  go_wp2_with fail
  rw [← HW.out]
  (try go_wp2_with fail)
  go_ret
  exact ⟨by first | rfl | (simp only [h0, bls]; done) | (simp only [h0, bls]; rfl), HAL.out.trans (K0.out.mono HAL.out.size)⟩

set_option maxRecDepth 100000 in
set_option maxHeartbeats 4000000 in
set_option linter.all false in
theorem find_cl (g : Nat) (s : Tx) (A : Option Addr) (c : Nat) (l : List ClM) (w : World) (hr : Rd w A (l.flatMap clC)) (hl : l.length ≤ 281474976710656) (hg : w.cell? ⟨g, 0, none⟩ = some (.string ⟨s.toArray⟩)) :
  Calls Try.prog 68 #[.slice A l.length c, .func (.func 69) #[] #[.pointer (some ⟨g, 0, none⟩)]] w fun e w' => ∃ r, e = .returned (.int .i64 r) ∧ Idx (fun x : ClM => (x.nm == s)) l r ∧ Below w.heap.size w w' := by
 obtain ⟨n, hn⟩ : ∃ n, n = l.length := ⟨_, rfl⟩
 rw [← hn] at hl ⊢
 have hnI : (n : Int) ≤ 281474976710656 := by omega
 have HN := Lib.hid hn; have HRD := Lib.hid hr
 have HGG := Lib.hid hg
 clear hr hn hl
 go_enter Try.func68, Try.ntmps68
 go_wp2
 go_loopw [8] (fun i wr => ∃ k : Nat, i = .int .i64 (k : Int) ∧ k ≤ n ∧ (∀ t ∈ l.take k, (fun x : ClM => (x.nm == s)) t = false) ∧ Below w.heap.size w wr) (fun i _ => n - (intOf i).toNat)
 case atStart => exact ⟨0, rfl, Nat.zero_le _, by simp, Below.refl _ _⟩
 case round =>
  obtain ⟨k, rfl, hk, hall, hbw⟩ := hrel
  have HA := Lib.hid hall; have HB := Lib.hid hbw
  clear hall
  by_cases hlt : k < n
  ·have hltI : (k : Int) < (n : Int) := by omega
   obtain ⟨x, hx⟩ : ∃ x, l[k]? = some x := ⟨l[k]'(by rw [← HN.out]; exact hlt), List.getElem?_eq_getElem _⟩
   obtain ⟨a, rfl, ha, c0, c1, c2, c3, c4, c5, c6⟩ := cl_at (HRD.out.below hbw) hx
   have hgw := (hbw.cell (World.block_lt_of_cell? _ _ HGG.out)).trans HGG.out
   have HW := Lib.hid (at_cl x g s wr hgw)
   have HX := Lib.hid hx
   have hmt := take_more (P := (fun x : ClM => (x.nm == s))) HA.out hx
   dsimp only [clC] at HW
   cases hwr : (x.nm == s) with
   | true =>
    rw [hwr] at HW
    have HI := Lib.hid (show Idx (fun x : ClM => (x.nm == s)) l (k : Int) from .inr ⟨k, _, rfl, hx, hwr, HA.out⟩)
    clear hx hmt hwr hbw ha hgw
    go_wp2_with fail
    refine HW.out.mono ?_
    rintro e w1 ⟨rfl, hb1⟩
    have HB1 := Lib.hid (HB.out.trans (hb1.mono HB.out.size))
    clear hb1
    go_wp2
    go_ret
    exact ⟨_, rfl, HI.out, HB1.out⟩
   | false =>
    rw [hwr] at HW
    have HM := Lib.hid (hmt hwr)
    clear hx hmt hwr hbw ha hgw
    go_wp2_with fail
    refine HW.out.mono ?_
    rintro e w1 ⟨rfl, hb1⟩
    have HB1 := Lib.hid (HB.out.trans (hb1.mono HB.out.size))
    clear hb1
    go_wp2
    go_roundw
    case rel => exact ⟨k + 1, by go_num, by omega, HM.out, HB1.out⟩
    case measure => simp [intOf]; omega
  ·have hltI : ¬ (k : Int) < (n : Int) := by omega
   have hall := HA.out
   rw [List.take_of_length_le (by rw [← HN.out]; omega)] at hall
   have HI := Lib.hid (show Idx (fun x : ClM => (x.nm == s)) l (-1) from .inl ⟨rfl, hall⟩)
   clear hall hbw
   go_wp2
   go_ret
   exact ⟨_, rfl, HI.out, HB.out⟩

set_option maxRecDepth 100000 in
set_option maxHeartbeats 4000000 in
set_option linter.all false in
theorem at_me (x : MeM) (g h : Nat) (s d : Tx) (w : World) (hg : w.cell? ⟨g, 0, none⟩ = some (.string ⟨s.toArray⟩)) (hh : w.cell? ⟨h, 0, none⟩ = some (.string ⟨d.toArray⟩)) : Calls Try.prog 80 #[.agg (meC x).toArray, .pointer (some ⟨g, 0, none⟩), .pointer (some ⟨h, 0, none⟩)] w fun e w' => e = .returned (.bool ((x.nm == s) && (x.ds == d))) ∧ Below w.heap.size w w' := by
 obtain ⟨W, hW⟩ : ∃ W, W = w.alloc (.cells (meC x).toArray 48) := ⟨_, rfl⟩
 have hal : Below w.heap.size w W := by rw [hW]; exact (Below.refl _ w).alloc (Nat.le_refl _) _
 have HAL := Lib.hid hal
 have hblk : W.heap[w.heap.size]? = some (.cells (meC x).toArray 48 (0, 0)) := by rw [hW]; exact heap_alloc_new w _
 have HBK := Lib.hid hblk; have HLT := Lib.hid (blk_lt hblk)
 obtain ⟨x0_0, x0_1, x0_2, x0_3, x0_4, x0_5⟩ := me_cells hblk
 have K0 := Lib.hid (Below.refl W.heap.size W)
 have kg := (hal.cell (World.block_lt_of_cell? _ _ hg)).trans hg
 have kh := (hal.cell (World.block_lt_of_cell? _ _ hh)).trans hh
 unfold meC at hW ⊢
 try dsimp only at hW ⊢
 have ke := kg
 rw [hW] at ke
 have kf := kh
 rw [hW] at kf
 have HW := Lib.hid hW
 clear hal hblk hW
 cases h0 : (x.nm == s) with
 | false =>
  (try simp only [h0] at HW)
  go_enter Try.func80, Try.ntmps80
  go_wp2_with fail
  rw [← HW.out]
  (try go_wp2_with fail)
  go_ret
  exact ⟨by first | rfl | (simp only [h0, bls]; done) | (simp only [h0, bls]; rfl), HAL.out.trans (K0.out.mono HAL.out.size)⟩
 | true =>
  cases h1 : (x.ds == d) with
  | false =>
   (try simp only [h0, h1] at HW)
   go_enter Try.func80, Try.ntmps80
   go_wp2_with fail
   rw [← HW.out]
   (try go_wp2_with fail)
   go_ret
   exact ⟨by first | rfl | (simp only [h0, h1, bls]; done) | (simp only [h0, h1, bls]; rfl), HAL.out.trans (K0.out.mono HAL.out.size)⟩
  | true =>
   (try simp only [h0, h1] at HW)
   go_enter Try.func80, Try.ntmps80
   go_wp2_with fail
   rw [← HW.out]
   (try go_wp2_with fail)
   go_ret
   exact ⟨by first | rfl | (simp only [h0, h1, bls]; done) | (simp only [h0, h1, bls]; rfl), HAL.out.trans (K0.out.mono HAL.out.size)⟩

set_option maxRecDepth 100000 in
set_option maxHeartbeats 4000000 in
set_option linter.all false in
theorem find_me (g h : Nat) (s d : Tx) (A : Option Addr) (c : Nat) (l : List MeM) (w : World) (hr : Rd w A (l.flatMap meC)) (hl : l.length ≤ 281474976710656) (hg : w.cell? ⟨g, 0, none⟩ = some (.string ⟨s.toArray⟩)) (hh : w.cell? ⟨h, 0, none⟩ = some (.string ⟨d.toArray⟩)) :
  Calls Try.prog 79 #[.slice A l.length c, .func (.func 80) #[] #[.pointer (some ⟨g, 0, none⟩), .pointer (some ⟨h, 0, none⟩)]] w fun e w' => ∃ r, e = .returned (.int .i64 r) ∧ Idx (fun x : MeM => ((x.nm == s) && (x.ds == d))) l r ∧ Below w.heap.size w w' := by
 obtain ⟨n, hn⟩ : ∃ n, n = l.length := ⟨_, rfl⟩
 rw [← hn] at hl ⊢
 have hnI : (n : Int) ≤ 281474976710656 := by omega
 have HN := Lib.hid hn; have HRD := Lib.hid hr
 have HGG := Lib.hid hg; have HHH := Lib.hid hh
 clear hr hn hl
 go_enter Try.func79, Try.ntmps79
 go_wp2
 go_loopw [8] (fun i wr => ∃ k : Nat, i = .int .i64 (k : Int) ∧ k ≤ n ∧ (∀ t ∈ l.take k, (fun x : MeM => ((x.nm == s) && (x.ds == d))) t = false) ∧ Below w.heap.size w wr) (fun i _ => n - (intOf i).toNat)
 case atStart => exact ⟨0, rfl, Nat.zero_le _, by simp, Below.refl _ _⟩
 case round =>
  obtain ⟨k, rfl, hk, hall, hbw⟩ := hrel
  have HA := Lib.hid hall; have HB := Lib.hid hbw
  clear hall
  by_cases hlt : k < n
  ·have hltI : (k : Int) < (n : Int) := by omega
   obtain ⟨x, hx⟩ : ∃ x, l[k]? = some x := ⟨l[k]'(by rw [← HN.out]; exact hlt), List.getElem?_eq_getElem _⟩
   obtain ⟨a, rfl, ha, c0, c1, c2, c3, c4, c5⟩ := me_at (HRD.out.below hbw) hx
   have hgw := (hbw.cell (World.block_lt_of_cell? _ _ HGG.out)).trans HGG.out
   have hhw := (hbw.cell (World.block_lt_of_cell? _ _ HHH.out)).trans HHH.out
   have HW := Lib.hid (at_me x g h s d wr hgw hhw)
   have HX := Lib.hid hx
   have hmt := take_more (P := (fun x : MeM => ((x.nm == s) && (x.ds == d)))) HA.out hx
   dsimp only [meC] at HW
   cases hwr : ((x.nm == s) && (x.ds == d)) with
   | true =>
    rw [hwr] at HW
    have HI := Lib.hid (show Idx (fun x : MeM => ((x.nm == s) && (x.ds == d))) l (k : Int) from .inr ⟨k, _, rfl, hx, hwr, HA.out⟩)
    clear hx hmt hwr hbw ha hgw
    go_wp2_with fail
    refine HW.out.mono ?_
    rintro e w1 ⟨rfl, hb1⟩
    have HB1 := Lib.hid (HB.out.trans (hb1.mono HB.out.size))
    clear hb1
    go_wp2
    go_ret
    exact ⟨_, rfl, HI.out, HB1.out⟩
   | false =>
    rw [hwr] at HW
    have HM := Lib.hid (hmt hwr)
    clear hx hmt hwr hbw ha hgw
    go_wp2_with fail
    refine HW.out.mono ?_
    rintro e w1 ⟨rfl, hb1⟩
    have HB1 := Lib.hid (HB.out.trans (hb1.mono HB.out.size))
    clear hb1
    go_wp2
    go_roundw
    case rel => exact ⟨k + 1, by go_num, by omega, HM.out, HB1.out⟩
    case measure => simp [intOf]; omega
  ·have hltI : ¬ (k : Int) < (n : Int) := by omega
   have hall := HA.out
   rw [List.take_of_length_le (by rw [← HN.out]; omega)] at hall
   have HI := Lib.hid (show Idx (fun x : MeM => ((x.nm == s) && (x.ds == d))) l (-1) from .inl ⟨rfl, hall⟩)
   clear hall hbw
   go_wp2
   go_ret
   exact ⟨_, rfl, HI.out, HB.out⟩

set_option maxRecDepth 100000 in
set_option maxHeartbeats 4000000 in
set_option linter.all false in
theorem at_fi (x : FiM) (g : Nat) (s : Tx) (w : World) (hg : w.cell? ⟨g, 0, none⟩ = some (.string ⟨s.toArray⟩)) : Calls Try.prog 104 #[.agg (fiC x).toArray, .pointer (some ⟨g, 0, none⟩)] w fun e w' => e = .returned (.bool (x.nm == s)) ∧ Below w.heap.size w w' := by
 obtain ⟨W, hW⟩ : ∃ W, W = w.alloc (.cells (fiC x).toArray 74) := ⟨_, rfl⟩
 have hal : Below w.heap.size w W := by rw [hW]; exact (Below.refl _ w).alloc (Nat.le_refl _) _
 have HAL := Lib.hid hal
 have hblk : W.heap[w.heap.size]? = some (.cells (fiC x).toArray 74 (0, 0)) := by rw [hW]; exact heap_alloc_new w _
 have HBK := Lib.hid hblk; have HLT := Lib.hid (blk_lt hblk)
 obtain ⟨x0_0, x0_1, x0_2, x0_3⟩ := fi_cells hblk
 have K0 := Lib.hid (Below.refl W.heap.size W)
 have kg := (hal.cell (World.block_lt_of_cell? _ _ hg)).trans hg
 unfold fiC at hW ⊢
 try dsimp only at hW ⊢
 have ke := kg
 rw [hW] at ke
 have HW := Lib.hid hW
 clear hal hblk hW
 cases h0 : (x.nm == s) with
 | false =>
  (try simp only [h0] at HW)
  go_enter Try.func104, Try.ntmps104
  go_wp2_with fail
  rw [← HW.out]
  (try go_wp2_with fail)
  go_ret
  exact ⟨by first | rfl | (simp only [h0, bls]; done) | (simp only [h0, bls]; rfl), HAL.out.trans (K0.out.mono HAL.out.size)⟩
 | true =>
  (try simp only [h0] at HW)
  go_enter Try.func104, Try.ntmps104
  go_wp2_with fail
  rw [← HW.out]
  (try go_wp2_with fail)
  go_ret
  exact ⟨by first | rfl | (simp only [h0, bls]; done) | (simp only [h0, bls]; rfl), HAL.out.trans (K0.out.mono HAL.out.size)⟩

set_option maxRecDepth 100000 in
set_option maxHeartbeats 4000000 in
set_option linter.all false in
theorem find_fi (g : Nat) (s : Tx) (A : Option Addr) (c : Nat) (l : List FiM) (w : World) (hr : Rd w A (l.flatMap fiC)) (hl : l.length ≤ 281474976710656) (hg : w.cell? ⟨g, 0, none⟩ = some (.string ⟨s.toArray⟩)) :
  Calls Try.prog 103 #[.slice A l.length c, .func (.func 104) #[] #[.pointer (some ⟨g, 0, none⟩)]] w fun e w' => ∃ r, e = .returned (.int .i64 r) ∧ Idx (fun x : FiM => (x.nm == s)) l r ∧ Below w.heap.size w w' := by
 obtain ⟨n, hn⟩ : ∃ n, n = l.length := ⟨_, rfl⟩
 rw [← hn] at hl ⊢
 have hnI : (n : Int) ≤ 281474976710656 := by omega
 have HN := Lib.hid hn; have HRD := Lib.hid hr
 have HGG := Lib.hid hg
 clear hr hn hl
 go_enter Try.func103, Try.ntmps103
 go_wp2
 go_loopw [8] (fun i wr => ∃ k : Nat, i = .int .i64 (k : Int) ∧ k ≤ n ∧ (∀ t ∈ l.take k, (fun x : FiM => (x.nm == s)) t = false) ∧ Below w.heap.size w wr) (fun i _ => n - (intOf i).toNat)
 case atStart => exact ⟨0, rfl, Nat.zero_le _, by simp, Below.refl _ _⟩
 case round =>
  obtain ⟨k, rfl, hk, hall, hbw⟩ := hrel
  have HA := Lib.hid hall; have HB := Lib.hid hbw
  clear hall
  by_cases hlt : k < n
  ·have hltI : (k : Int) < (n : Int) := by omega
   obtain ⟨x, hx⟩ : ∃ x, l[k]? = some x := ⟨l[k]'(by rw [← HN.out]; exact hlt), List.getElem?_eq_getElem _⟩
   obtain ⟨a, rfl, ha, c0, c1, c2, c3⟩ := fi_at (HRD.out.below hbw) hx
   have hgw := (hbw.cell (World.block_lt_of_cell? _ _ HGG.out)).trans HGG.out
   have HW := Lib.hid (at_fi x g s wr hgw)
   have HX := Lib.hid hx
   have hmt := take_more (P := (fun x : FiM => (x.nm == s))) HA.out hx
   dsimp only [fiC] at HW
   cases hwr : (x.nm == s) with
   | true =>
    rw [hwr] at HW
    have HI := Lib.hid (show Idx (fun x : FiM => (x.nm == s)) l (k : Int) from .inr ⟨k, _, rfl, hx, hwr, HA.out⟩)
    clear hx hmt hwr hbw ha hgw
    go_wp2_with fail
    refine HW.out.mono ?_
    rintro e w1 ⟨rfl, hb1⟩
    have HB1 := Lib.hid (HB.out.trans (hb1.mono HB.out.size))
    clear hb1
    go_wp2
    go_ret
    exact ⟨_, rfl, HI.out, HB1.out⟩
   | false =>
    rw [hwr] at HW
    have HM := Lib.hid (hmt hwr)
    clear hx hmt hwr hbw ha hgw
    go_wp2_with fail
    refine HW.out.mono ?_
    rintro e w1 ⟨rfl, hb1⟩
    have HB1 := Lib.hid (HB.out.trans (hb1.mono HB.out.size))
    clear hb1
    go_wp2
    go_roundw
    case rel => exact ⟨k + 1, by go_num, by omega, HM.out, HB1.out⟩
    case measure => simp [intOf]; omega
  ·have hltI : ¬ (k : Int) < (n : Int) := by omega
   have hall := HA.out
   rw [List.take_of_length_le (by rw [← HN.out]; omega)] at hall
   have HI := Lib.hid (show Idx (fun x : FiM => (x.nm == s)) l (-1) from .inl ⟨rfl, hall⟩)
   clear hall hbw
   go_wp2
   go_ret
   exact ⟨_, rfl, HI.out, HB.out⟩

set_option maxRecDepth 100000 in
set_option maxHeartbeats 4000000 in
set_option linter.all false in
theorem place_cl (x : PrM) (s : Tx) (w : World) (hr : Rd w x.A1 (x.cs.flatMap clC)) (hl : x.cs.length ≤ 281474976710656) : Calls Try.prog 46 #[.agg (prC x).toArray, .string ⟨s.toArray⟩] w fun e w' => ∃ r, e = .returned (.int .i64 r) ∧ Idx (fun y : ClM => (y.nm == s)) x.cs r ∧ Below w.heap.size w w' := by
 have hmf : ∀ (fn : Fn) (first cap : Array Value) (w : World), (Instr.makeFunc fn first cap).run Try.prog w = .ok (.func fn first cap) w := fun _ _ _ _ => rfl
 obtain ⟨W, hW⟩ : ∃ W, W = ((w.alloc (.cells (prC x).toArray 27)).alloc (.cells #[.string ⟨s.toArray⟩] 9)) := ⟨_, rfl⟩
 have hal : Below w.heap.size w W := by rw [hW]; exact (((Below.refl _ w).alloc (Nat.le_refl _) (.cells (prC x).toArray 27)).alloc (by simp; try omega) (.cells #[.string ⟨s.toArray⟩] 9))
 have HAL := Lib.hid hal
 have hblk : W.heap[w.heap.size]? = some (.cells (prC x).toArray 27 (0, 0)) := by rw [hW]; exact (Below.heap_alloc _ _ _ (by simp; try omega)).trans (heap_alloc_new w _)
 have hg : W.cell? ⟨w.heap.size + 1, 0, none⟩ = some (.string ⟨s.toArray⟩) := by
  have h := heap_alloc_new (w.alloc (.cells (prC x).toArray 27)) (.cells #[.string ⟨s.toArray⟩] 9)
  rw [World.size_alloc] at h
  have h2 : W.heap[w.heap.size + 1]? = some (.cells #[.string ⟨s.toArray⟩] 9 (0, 0)) := by rw [hW]; exact h
  exact cell_of_row _ _ 0 _ _ _ h2
 obtain ⟨x0_0, x0_1, x0_2, x0_3, x0_4⟩ := pr_cells hblk
 have HF := Lib.hid (find_cl (w.heap.size + 1) s x.A1 x.c1 x.cs W (hr.below hal) hl hg)
 unfold prC at hW ⊢
 try dsimp only at hW ⊢
 have HW := Lib.hid hW
 clear hal hblk hW hr hl hg
 go_enter Try.func46, Try.ntmps46
 go_wp2_with fail
 try simp only [World.size_alloc, Nat.add_assoc, Nat.reduceAdd]
 rw [← HW.out]
 (try go_wp2_with fail)
 refine HF.out.mono ?_
 rintro e v ⟨r, rfl, hi, hb⟩
 have HI := Lib.hid hi; have HB := Lib.hid hb
 clear hi hb
 (try go_wp2_with fail)
 go_ret
 exact ⟨r, rfl, HI.out, HAL.out.trans (HB.out.mono HAL.out.size)⟩

set_option maxRecDepth 100000 in
set_option maxHeartbeats 4000000 in
set_option linter.all false in
theorem place_me (x : ClM) (s d : Tx) (w : World) (hr : Rd w x.A3 (x.ms.flatMap meC)) (hl : x.ms.length ≤ 281474976710656) : Calls Try.prog 64 #[.agg (clC x).toArray, .string ⟨s.toArray⟩, .string ⟨d.toArray⟩] w fun e w' => ∃ r, e = .returned (.int .i64 r) ∧ Idx (fun y : MeM => ((y.nm == s) && (y.ds == d))) x.ms r ∧ Below w.heap.size w w' := by
 have hmf : ∀ (fn : Fn) (first cap : Array Value) (w : World), (Instr.makeFunc fn first cap).run Try.prog w = .ok (.func fn first cap) w := fun _ _ _ _ => rfl
 obtain ⟨W, hW⟩ : ∃ W, W = (((w.alloc (.cells (clC x).toArray 42)).alloc (.cells #[.string ⟨s.toArray⟩] 9)).alloc (.cells #[.string ⟨d.toArray⟩] 9)) := ⟨_, rfl⟩
 have hal : Below w.heap.size w W := by rw [hW]; exact ((((Below.refl _ w).alloc (Nat.le_refl _) (.cells (clC x).toArray 42)).alloc (by simp; try omega) (.cells #[.string ⟨s.toArray⟩] 9)).alloc (by simp; try omega) (.cells #[.string ⟨d.toArray⟩] 9))
 have HAL := Lib.hid hal
 have hblk : W.heap[w.heap.size]? = some (.cells (clC x).toArray 42 (0, 0)) := by rw [hW]; exact (Below.heap_alloc _ _ _ (by simp; try omega)).trans ((Below.heap_alloc _ _ _ (by simp; try omega)).trans (heap_alloc_new w _))
 have hg : W.cell? ⟨w.heap.size + 1, 0, none⟩ = some (.string ⟨s.toArray⟩) := by
  have h := heap_alloc_new (w.alloc (.cells (clC x).toArray 42)) (.cells #[.string ⟨s.toArray⟩] 9)
  rw [World.size_alloc] at h
  have h2 : W.heap[w.heap.size + 1]? = some (.cells #[.string ⟨s.toArray⟩] 9 (0, 0)) := by rw [hW]; exact (Below.heap_alloc _ _ _ (by simp)).trans h
  exact cell_of_row _ _ 0 _ _ _ h2
 have hh : W.cell? ⟨w.heap.size + 2, 0, none⟩ = some (.string ⟨d.toArray⟩) := by
  have h := heap_alloc_new ((w.alloc (.cells (clC x).toArray 42)).alloc (.cells #[.string ⟨s.toArray⟩] 9)) (.cells #[.string ⟨d.toArray⟩] 9)
  rw [World.size_alloc, World.size_alloc] at h
  have h2 : W.heap[w.heap.size + 2]? = some (.cells #[.string ⟨d.toArray⟩] 9 (0, 0)) := by rw [hW]; exact h
  exact cell_of_row _ _ 0 _ _ _ h2
 obtain ⟨x0_0, x0_1, x0_2, x0_3, x0_4, x0_5, x0_6⟩ := cl_cells hblk
 have HF := Lib.hid (find_me (w.heap.size + 1) (w.heap.size + 2) s d x.A3 x.c3 x.ms W (hr.below hal) hl hg hh)
 unfold clC at hW ⊢
 try dsimp only at hW ⊢
 have HW := Lib.hid hW
 clear hal hblk hW hr hl hg hh
 go_enter Try.func64, Try.ntmps64
 go_wp2_with fail
 try simp only [World.size_alloc, Nat.add_assoc, Nat.reduceAdd]
 rw [← HW.out]
 (try go_wp2_with fail)
 refine HF.out.mono ?_
 rintro e v ⟨r, rfl, hi, hb⟩
 have HI := Lib.hid hi; have HB := Lib.hid hb
 clear hi hb
 (try go_wp2_with fail)
 go_ret
 exact ⟨r, rfl, HI.out, HAL.out.trans (HB.out.mono HAL.out.size)⟩

set_option maxRecDepth 100000 in
set_option maxHeartbeats 4000000 in
set_option linter.all false in
theorem place_fi (x : ClM) (s : Tx) (w : World) (hr : Rd w x.A2 (x.fs.flatMap fiC)) (hl : x.fs.length ≤ 281474976710656) : Calls Try.prog 77 #[.agg (clC x).toArray, .string ⟨s.toArray⟩] w fun e w' => ∃ r, e = .returned (.int .i64 r) ∧ Idx (fun y : FiM => (y.nm == s)) x.fs r ∧ Below w.heap.size w w' := by
 have hmf : ∀ (fn : Fn) (first cap : Array Value) (w : World), (Instr.makeFunc fn first cap).run Try.prog w = .ok (.func fn first cap) w := fun _ _ _ _ => rfl
 obtain ⟨W, hW⟩ : ∃ W, W = ((w.alloc (.cells (clC x).toArray 42)).alloc (.cells #[.string ⟨s.toArray⟩] 9)) := ⟨_, rfl⟩
 have hal : Below w.heap.size w W := by rw [hW]; exact (((Below.refl _ w).alloc (Nat.le_refl _) (.cells (clC x).toArray 42)).alloc (by simp; try omega) (.cells #[.string ⟨s.toArray⟩] 9))
 have HAL := Lib.hid hal
 have hblk : W.heap[w.heap.size]? = some (.cells (clC x).toArray 42 (0, 0)) := by rw [hW]; exact (Below.heap_alloc _ _ _ (by simp; try omega)).trans (heap_alloc_new w _)
 have hg : W.cell? ⟨w.heap.size + 1, 0, none⟩ = some (.string ⟨s.toArray⟩) := by
  have h := heap_alloc_new (w.alloc (.cells (clC x).toArray 42)) (.cells #[.string ⟨s.toArray⟩] 9)
  rw [World.size_alloc] at h
  have h2 : W.heap[w.heap.size + 1]? = some (.cells #[.string ⟨s.toArray⟩] 9 (0, 0)) := by rw [hW]; exact h
  exact cell_of_row _ _ 0 _ _ _ h2
 obtain ⟨x0_0, x0_1, x0_2, x0_3, x0_4, x0_5, x0_6⟩ := cl_cells hblk
 have HF := Lib.hid (find_fi (w.heap.size + 1) s x.A2 x.c2 x.fs W (hr.below hal) hl hg)
 unfold clC at hW ⊢
 try dsimp only at hW ⊢
 have HW := Lib.hid hW
 clear hal hblk hW hr hl hg
 go_enter Try.func77, Try.ntmps77
 go_wp2_with fail
 try simp only [World.size_alloc, Nat.add_assoc, Nat.reduceAdd]
 rw [← HW.out]
 (try go_wp2_with fail)
 refine HF.out.mono ?_
 rintro e v ⟨r, rfl, hi, hb⟩
 have HI := Lib.hid hi; have HB := Lib.hid hb
 clear hi hb
 (try go_wp2_with fail)
 go_ret
 exact ⟨r, rfl, HI.out, HAL.out.trans (HB.out.mono HAL.out.size)⟩

end Go.Proofs.Ytgpfohpmgbnimaa.prg

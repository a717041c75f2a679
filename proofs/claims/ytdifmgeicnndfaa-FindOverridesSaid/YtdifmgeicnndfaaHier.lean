/- Hier -/
import Derived.Test.YtdifmgeicnndfaaNormE
import Derived.RegionTactic
import Derived.Deep.RegionHeld3
namespace Go.Proofs.Ytdifmgeicnndfaa.prg
open Go.RowKit
open words kindp opp op kind word
set_option maxRecDepth 100000
set_option maxHeartbeats 4000000
set_option linter.all false
theorem at_cl (x : ClM) (g : Nat) (s : Tx) (w : World) (hg : w.cell? ⟨g, 0, none⟩ = some (.string ⟨s.toArray⟩)) : Calls Try.prog 107 #[.agg (clC x).toArray, .pointer (some ⟨g, 0, none⟩)] w fun e w' => e = .returned (.bool (x.nm == s)) ∧ Below w.heap.size w w' := by
 obtain ⟨W, hW⟩ : ∃ W, W = w.alloc (.cells (clC x).toArray 43) := ⟨_, rfl⟩
 have hal : Below w.heap.size w W := by rw [hW]; exact (Below.refl _ w).alloc (Nat.le_refl _) _
 have HAL := zh hal
 have hblk : W.heap[w.heap.size]? = some (.cells (clC x).toArray 43 (0, 0)) := by rw [hW]; exact heap_alloc_new w _
 have HBK := zh hblk; have HLT := zh (blk_lt hblk)
 obtain ⟨x0_0, x0_1, x0_2, x0_3, x0_4, x0_5, x0_6⟩ := cl_cells hblk
 have K0 := zh (Below.refl W.heap.size W)
 have kg := (hal.cell (World.block_lt_of_cell? _ _ hg)).trans hg
 unfold clC at hW ⊢
 try dsimp only at hW ⊢
 have ke := kg
 rw [hW] at ke
 have HW := zh hW
 clear hal hblk hW
 cases h0 : (x.nm == s) with
 | false =>
  (try simp only [h0] at HW)
  go_enter Try.func107, Try.ntmps107
  go_wp2_with fail
  rw [← HW.out]
  (try go_wp2_with fail)
  go_ret
  exact ⟨by first | rfl | (simp only [h0, bls]; done) | (simp only [h0, bls]; rfl), HAL.out.trans (K0.out.mono HAL.out.size)⟩
 | true =>
  (try simp only [h0] at HW)
  go_enter Try.func107, Try.ntmps107
  go_wp2_with fail
  rw [← HW.out]
  (try go_wp2_with fail)
  go_ret
  exact ⟨by first | rfl | (simp only [h0, bls]; done) | (simp only [h0, bls]; rfl), HAL.out.trans (K0.out.mono HAL.out.size)⟩
theorem find_cl (g : Nat) (s : Tx) (A : Option Addr) (c : Nat) (l : List ClM) (w : World) (hr : Rd w A (l.flatMap clC)) (hl : l.length ≤ 281474976710656) (hg : w.cell? ⟨g, 0, none⟩ = some (.string ⟨s.toArray⟩)) :
  Calls Try.prog 106 #[.slice A l.length c, .func (.func 107) #[] #[.pointer (some ⟨g, 0, none⟩)]] w fun e w' => ∃ r, e = .returned (.int .i64 r) ∧ Idx (fun x : ClM => (x.nm == s)) l r ∧ Below w.heap.size w w' := by
 obtain ⟨n, hn⟩ : ∃ n, n = l.length := ⟨_, rfl⟩
 rw [← hn] at hl ⊢
 have hnI : (n : Int) ≤ 281474976710656 := by omega
 have HN := zh hn; have HRD := zh hr
 have HGG := zh hg
 clear hr hn hl
 go_enter Try.func106, Try.ntmps106
 go_wp2
 go_loopw [8] (fun i wr => ∃ k : Nat, i = .int .i64 (k : Int) ∧ k ≤ n ∧ (∀ t ∈ l.take k, (fun x : ClM => (x.nm == s)) t = false) ∧ Below w.heap.size w wr) (fun i _ => n - (intOf i).toNat)
 case atStart => exact ⟨0, rfl, Nat.zero_le _, by simp, Below.refl _ _⟩
 case round =>
  obtain ⟨k, rfl, hk, hall, hbw⟩ := hrel
  have HA := zh hall; have HB := zh hbw
  clear hall
  by_cases hlt : k < n
  ·have hltI : (k : Int) < (n : Int) := by omega
   obtain ⟨x, hx⟩ : ∃ x, l[k]? = some x := ⟨l[k]'(by rw [← HN.out]; exact hlt), List.getElem?_eq_getElem _⟩
   obtain ⟨a, rfl, ha, c0, c1, c2, c3, c4, c5, c6⟩ := cl_at (HRD.out.below hbw) hx
   have hgw := (hbw.cell (World.block_lt_of_cell? _ _ HGG.out)).trans HGG.out
   have HW := zh (at_cl x g s wr hgw)
   have HX := zh hx
   have hmt := take_more (P := (fun x : ClM => (x.nm == s))) HA.out hx
   dsimp only [clC] at HW
   cases hwr : (x.nm == s) with
   | true =>
    rw [hwr] at HW
    have HI := zh (show Idx (fun x : ClM => (x.nm == s)) l (k : Int) from .inr ⟨k, _, rfl, hx, hwr, HA.out⟩)
    clear hx hmt hwr hbw ha hgw
    go_wp2_with fail
    refine HW.out.mono ?_
    rintro e w1 ⟨rfl, hb1⟩
    have HB1 := zh (HB.out.trans (hb1.mono HB.out.size))
    clear hb1
    go_wp2
    go_ret
    exact ⟨_, rfl, HI.out, HB1.out⟩
   | false =>
    rw [hwr] at HW
    have HM := zh (hmt hwr)
    clear hx hmt hwr hbw ha hgw
    go_wp2_with fail
    refine HW.out.mono ?_
    rintro e w1 ⟨rfl, hb1⟩
    have HB1 := zh (HB.out.trans (hb1.mono HB.out.size))
    clear hb1
    go_wp2
    go_roundw
    case rel => exact ⟨k + 1, by go_num, by omega, HM.out, HB1.out⟩
    case measure => simp [intOf]; omega
  ·have hltI : ¬ (k : Int) < (n : Int) := by omega
   have hall := HA.out
   rw [List.take_of_length_le (by rw [← HN.out]; omega)] at hall
   have HI := zh (show Idx (fun x : ClM => (x.nm == s)) l (-1) from .inl ⟨rfl, hall⟩)
   clear hall hbw
   go_wp2
   go_ret
   exact ⟨_, rfl, HI.out, HB.out⟩
theorem at_me (x : MeM) (g h : Nat) (s d : Tx) (w : World) (hg : w.cell? ⟨g, 0, none⟩ = some (.string ⟨s.toArray⟩)) (hh : w.cell? ⟨h, 0, none⟩ = some (.string ⟨d.toArray⟩)) : Calls Try.prog 109 #[.agg (meC x).toArray, .pointer (some ⟨g, 0, none⟩), .pointer (some ⟨h, 0, none⟩)] w fun e w' => e = .returned (.bool ((x.nm == s) && (x.ds == d))) ∧ Below w.heap.size w w' := by
 obtain ⟨W, hW⟩ : ∃ W, W = w.alloc (.cells (meC x).toArray 37) := ⟨_, rfl⟩
 have hal : Below w.heap.size w W := by rw [hW]; exact (Below.refl _ w).alloc (Nat.le_refl _) _
 have HAL := zh hal
 have hblk : W.heap[w.heap.size]? = some (.cells (meC x).toArray 37 (0, 0)) := by rw [hW]; exact heap_alloc_new w _
 have HBK := zh hblk; have HLT := zh (blk_lt hblk)
 obtain ⟨x0_0, x0_1, x0_2, x0_3, x0_4, x0_5⟩ := me_cells hblk
 have K0 := zh (Below.refl W.heap.size W)
 have kg := (hal.cell (World.block_lt_of_cell? _ _ hg)).trans hg
 have kh := (hal.cell (World.block_lt_of_cell? _ _ hh)).trans hh
 unfold meC at hW ⊢
 try dsimp only at hW ⊢
 have ke := kg
 rw [hW] at ke
 have kf := kh
 rw [hW] at kf
 have HW := zh hW
 clear hal hblk hW
 cases h0 : (x.nm == s) with
 | false =>
  (try simp only [h0] at HW)
  go_enter Try.func109, Try.ntmps109
  go_wp2_with fail
  rw [← HW.out]
  (try go_wp2_with fail)
  go_ret
  exact ⟨by first | rfl | (simp only [h0, bls]; done) | (simp only [h0, bls]; rfl), HAL.out.trans (K0.out.mono HAL.out.size)⟩
 | true =>
  cases h1 : (x.ds == d) with
  | false =>
   (try simp only [h0, h1] at HW)
   go_enter Try.func109, Try.ntmps109
   go_wp2_with fail
   rw [← HW.out]
   (try go_wp2_with fail)
   go_ret
   exact ⟨by first | rfl | (simp only [h0, h1, bls]; done) | (simp only [h0, h1, bls]; rfl), HAL.out.trans (K0.out.mono HAL.out.size)⟩
  | true =>
   (try simp only [h0, h1] at HW)
   go_enter Try.func109, Try.ntmps109
   go_wp2_with fail
   rw [← HW.out]
   (try go_wp2_with fail)
   go_ret
   exact ⟨by first | rfl | (simp only [h0, h1, bls]; done) | (simp only [h0, h1, bls]; rfl), HAL.out.trans (K0.out.mono HAL.out.size)⟩
theorem find_me (g h : Nat) (s d : Tx) (A : Option Addr) (c : Nat) (l : List MeM) (w : World) (hr : Rd w A (l.flatMap meC)) (hl : l.length ≤ 281474976710656) (hg : w.cell? ⟨g, 0, none⟩ = some (.string ⟨s.toArray⟩)) (hh : w.cell? ⟨h, 0, none⟩ = some (.string ⟨d.toArray⟩)) :
  Calls Try.prog 108 #[.slice A l.length c, .func (.func 109) #[] #[.pointer (some ⟨g, 0, none⟩), .pointer (some ⟨h, 0, none⟩)]] w fun e w' => ∃ r, e = .returned (.int .i64 r) ∧ Idx (fun x : MeM => ((x.nm == s) && (x.ds == d))) l r ∧ Below w.heap.size w w' := by
 obtain ⟨n, hn⟩ : ∃ n, n = l.length := ⟨_, rfl⟩
 rw [← hn] at hl ⊢
 have hnI : (n : Int) ≤ 281474976710656 := by omega
 have HN := zh hn; have HRD := zh hr
 have HGG := zh hg; have HHH := zh hh
 clear hr hn hl
 go_enter Try.func108, Try.ntmps108
 go_wp2
 go_loopw [8] (fun i wr => ∃ k : Nat, i = .int .i64 (k : Int) ∧ k ≤ n ∧ (∀ t ∈ l.take k, (fun x : MeM => ((x.nm == s) && (x.ds == d))) t = false) ∧ Below w.heap.size w wr) (fun i _ => n - (intOf i).toNat)
 case atStart => exact ⟨0, rfl, Nat.zero_le _, by simp, Below.refl _ _⟩
 case round =>
  obtain ⟨k, rfl, hk, hall, hbw⟩ := hrel
  have HA := zh hall; have HB := zh hbw
  clear hall
  by_cases hlt : k < n
  ·have hltI : (k : Int) < (n : Int) := by omega
   obtain ⟨x, hx⟩ : ∃ x, l[k]? = some x := ⟨l[k]'(by rw [← HN.out]; exact hlt), List.getElem?_eq_getElem _⟩
   obtain ⟨a, rfl, ha, c0, c1, c2, c3, c4, c5⟩ := me_at (HRD.out.below hbw) hx
   have hgw := (hbw.cell (World.block_lt_of_cell? _ _ HGG.out)).trans HGG.out
   have hhw := (hbw.cell (World.block_lt_of_cell? _ _ HHH.out)).trans HHH.out
   have HW := zh (at_me x g h s d wr hgw hhw)
   have HX := zh hx
   have hmt := take_more (P := (fun x : MeM => ((x.nm == s) && (x.ds == d)))) HA.out hx
   dsimp only [meC] at HW
   cases hwr : ((x.nm == s) && (x.ds == d)) with
   | true =>
    rw [hwr] at HW
    have HI := zh (show Idx (fun x : MeM => ((x.nm == s) && (x.ds == d))) l (k : Int) from .inr ⟨k, _, rfl, hx, hwr, HA.out⟩)
    clear hx hmt hwr hbw ha hgw
    go_wp2_with fail
    refine HW.out.mono ?_
    rintro e w1 ⟨rfl, hb1⟩
    have HB1 := zh (HB.out.trans (hb1.mono HB.out.size))
    clear hb1
    go_wp2
    go_ret
    exact ⟨_, rfl, HI.out, HB1.out⟩
   | false =>
    rw [hwr] at HW
    have HM := zh (hmt hwr)
    clear hx hmt hwr hbw ha hgw
    go_wp2_with fail
    refine HW.out.mono ?_
    rintro e w1 ⟨rfl, hb1⟩
    have HB1 := zh (HB.out.trans (hb1.mono HB.out.size))
    clear hb1
    go_wp2
    go_roundw
    case rel => exact ⟨k + 1, by go_num, by omega, HM.out, HB1.out⟩
    case measure => simp [intOf]; omega
  ·have hltI : ¬ (k : Int) < (n : Int) := by omega
   have hall := HA.out
   rw [List.take_of_length_le (by rw [← HN.out]; omega)] at hall
   have HI := zh (show Idx (fun x : MeM => ((x.nm == s) && (x.ds == d))) l (-1) from .inl ⟨rfl, hall⟩)
   clear hall hbw
   go_wp2
   go_ret
   exact ⟨_, rfl, HI.out, HB.out⟩
theorem at_fi (x : FiM) (g : Nat) (s : Tx) (w : World) (hg : w.cell? ⟨g, 0, none⟩ = some (.string ⟨s.toArray⟩)) : Calls Try.prog 139 #[.agg (fiC x).toArray, .pointer (some ⟨g, 0, none⟩)] w fun e w' => e = .returned (.bool (x.nm == s)) ∧ Below w.heap.size w w' := by
 obtain ⟨W, hW⟩ : ∃ W, W = w.alloc (.cells (fiC x).toArray 92) := ⟨_, rfl⟩
 have hal : Below w.heap.size w W := by rw [hW]; exact (Below.refl _ w).alloc (Nat.le_refl _) _
 have HAL := zh hal
 have hblk : W.heap[w.heap.size]? = some (.cells (fiC x).toArray 92 (0, 0)) := by rw [hW]; exact heap_alloc_new w _
 have HBK := zh hblk; have HLT := zh (blk_lt hblk)
 obtain ⟨x0_0, x0_1, x0_2, x0_3⟩ := fi_cells hblk
 have K0 := zh (Below.refl W.heap.size W)
 have kg := (hal.cell (World.block_lt_of_cell? _ _ hg)).trans hg
 unfold fiC at hW ⊢
 try dsimp only at hW ⊢
 have ke := kg
 rw [hW] at ke
 have HW := zh hW
 clear hal hblk hW
 cases h0 : (x.nm == s) with
 | false =>
  (try simp only [h0] at HW)
  go_enter Try.func139, Try.ntmps139
  go_wp2_with fail
  rw [← HW.out]
  (try go_wp2_with fail)
  go_ret
  exact ⟨by first | rfl | (simp only [h0, bls]; done) | (simp only [h0, bls]; rfl), HAL.out.trans (K0.out.mono HAL.out.size)⟩
 | true =>
  (try simp only [h0] at HW)
  go_enter Try.func139, Try.ntmps139
  go_wp2_with fail
  rw [← HW.out]
  (try go_wp2_with fail)
  go_ret
  exact ⟨by first | rfl | (simp only [h0, bls]; done) | (simp only [h0, bls]; rfl), HAL.out.trans (K0.out.mono HAL.out.size)⟩
theorem find_fi (g : Nat) (s : Tx) (A : Option Addr) (c : Nat) (l : List FiM) (w : World) (hr : Rd w A (l.flatMap fiC)) (hl : l.length ≤ 281474976710656) (hg : w.cell? ⟨g, 0, none⟩ = some (.string ⟨s.toArray⟩)) :
  Calls Try.prog 138 #[.slice A l.length c, .func (.func 139) #[] #[.pointer (some ⟨g, 0, none⟩)]] w fun e w' => ∃ r, e = .returned (.int .i64 r) ∧ Idx (fun x : FiM => (x.nm == s)) l r ∧ Below w.heap.size w w' := by
 obtain ⟨n, hn⟩ : ∃ n, n = l.length := ⟨_, rfl⟩
 rw [← hn] at hl ⊢
 have hnI : (n : Int) ≤ 281474976710656 := by omega
 have HN := zh hn; have HRD := zh hr
 have HGG := zh hg
 clear hr hn hl
 go_enter Try.func138, Try.ntmps138
 go_wp2
 go_loopw [8] (fun i wr => ∃ k : Nat, i = .int .i64 (k : Int) ∧ k ≤ n ∧ (∀ t ∈ l.take k, (fun x : FiM => (x.nm == s)) t = false) ∧ Below w.heap.size w wr) (fun i _ => n - (intOf i).toNat)
 case atStart => exact ⟨0, rfl, Nat.zero_le _, by simp, Below.refl _ _⟩
 case round =>
  obtain ⟨k, rfl, hk, hall, hbw⟩ := hrel
  have HA := zh hall; have HB := zh hbw
  clear hall
  by_cases hlt : k < n
  ·have hltI : (k : Int) < (n : Int) := by omega
   obtain ⟨x, hx⟩ : ∃ x, l[k]? = some x := ⟨l[k]'(by rw [← HN.out]; exact hlt), List.getElem?_eq_getElem _⟩
   obtain ⟨a, rfl, ha, c0, c1, c2, c3⟩ := fi_at (HRD.out.below hbw) hx
   have hgw := (hbw.cell (World.block_lt_of_cell? _ _ HGG.out)).trans HGG.out
   have HW := zh (at_fi x g s wr hgw)
   have HX := zh hx
   have hmt := take_more (P := (fun x : FiM => (x.nm == s))) HA.out hx
   dsimp only [fiC] at HW
   cases hwr : (x.nm == s) with
   | true =>
    rw [hwr] at HW
    have HI := zh (show Idx (fun x : FiM => (x.nm == s)) l (k : Int) from .inr ⟨k, _, rfl, hx, hwr, HA.out⟩)
    clear hx hmt hwr hbw ha hgw
    go_wp2_with fail
    refine HW.out.mono ?_
    rintro e w1 ⟨rfl, hb1⟩
    have HB1 := zh (HB.out.trans (hb1.mono HB.out.size))
    clear hb1
    go_wp2
    go_ret
    exact ⟨_, rfl, HI.out, HB1.out⟩
   | false =>
    rw [hwr] at HW
    have HM := zh (hmt hwr)
    clear hx hmt hwr hbw ha hgw
    go_wp2_with fail
    refine HW.out.mono ?_
    rintro e w1 ⟨rfl, hb1⟩
    have HB1 := zh (HB.out.trans (hb1.mono HB.out.size))
    clear hb1
    go_wp2
    go_roundw
    case rel => exact ⟨k + 1, by go_num, by omega, HM.out, HB1.out⟩
    case measure => simp [intOf]; omega
  ·have hltI : ¬ (k : Int) < (n : Int) := by omega
   have hall := HA.out
   rw [List.take_of_length_le (by rw [← HN.out]; omega)] at hall
   have HI := zh (show Idx (fun x : FiM => (x.nm == s)) l (-1) from .inl ⟨rfl, hall⟩)
   clear hall hbw
   go_wp2
   go_ret
   exact ⟨_, rfl, HI.out, HB.out⟩
theorem place_cl (x : PrM) (s : Tx) (w : World) (hr : Rd w x.A1 (x.cs.flatMap clC)) (hl : x.cs.length ≤ 281474976710656) : Calls Try.prog 76 #[.agg (prC x).toArray, .string ⟨s.toArray⟩] w fun e w' => ∃ r, e = .returned (.int .i64 r) ∧ Idx (fun y : ClM => (y.nm == s)) x.cs r ∧ Below w.heap.size w w' := by
 have hmf : ∀ (fn : Fn) (first cap : Array Value) (w : World), (Instr.makeFunc fn first cap).run Try.prog w = .ok (.func fn first cap) w := fun _ _ _ _ => rfl
 obtain ⟨W, hW⟩ : ∃ W, W = ((w.alloc (.cells (prC x).toArray 27)).alloc (.cells #[.string ⟨s.toArray⟩] 9)) := ⟨_, rfl⟩
 have hal : Below w.heap.size w W := by rw [hW]; exact (((Below.refl _ w).alloc (Nat.le_refl _) (.cells (prC x).toArray 27)).alloc (by simp; try omega) (.cells #[.string ⟨s.toArray⟩] 9))
 have HAL := zh hal
 have hblk : W.heap[w.heap.size]? = some (.cells (prC x).toArray 27 (0, 0)) := by rw [hW]; exact (Below.heap_alloc _ _ _ (by simp; try omega)).trans (heap_alloc_new w _)
 have hg : W.cell? ⟨w.heap.size + 1, 0, none⟩ = some (.string ⟨s.toArray⟩) := by
  have h := heap_alloc_new (w.alloc (.cells (prC x).toArray 27)) (.cells #[.string ⟨s.toArray⟩] 9)
  rw [World.size_alloc] at h
  have h2 : W.heap[w.heap.size + 1]? = some (.cells #[.string ⟨s.toArray⟩] 9 (0, 0)) := by rw [hW]; exact h
  exact cell_of_row _ _ 0 _ _ _ h2
 obtain ⟨x0_0, x0_1, x0_2, x0_3, x0_4⟩ := pr_cells hblk
 have HF := zh (find_cl (w.heap.size + 1) s x.A1 x.c1 x.cs W (hr.below hal) hl hg)
 unfold prC at hW ⊢
 try dsimp only at hW ⊢
 have HW := zh hW
 clear hal hblk hW hr hl hg
 go_enter Try.func76, Try.ntmps76
 go_wp2_with fail
 try simp only [World.size_alloc, Nat.add_assoc, Nat.reduceAdd]
 rw [← HW.out]
 (try go_wp2_with fail)
 refine HF.out.mono ?_
 rintro e v ⟨r, rfl, hi, hb⟩
 have HI := zh hi; have HB := zh hb
 clear hi hb
 (try go_wp2_with fail)
 go_ret
 exact ⟨r, rfl, HI.out, HAL.out.trans (HB.out.mono HAL.out.size)⟩
theorem place_me (x : ClM) (s d : Tx) (w : World) (hr : Rd w x.A3 (x.ms.flatMap meC)) (hl : x.ms.length ≤ 281474976710656) : Calls Try.prog 78 #[.agg (clC x).toArray, .string ⟨s.toArray⟩, .string ⟨d.toArray⟩] w fun e w' => ∃ r, e = .returned (.int .i64 r) ∧ Idx (fun y : MeM => ((y.nm == s) && (y.ds == d))) x.ms r ∧ Below w.heap.size w w' := by
 have hmf : ∀ (fn : Fn) (first cap : Array Value) (w : World), (Instr.makeFunc fn first cap).run Try.prog w = .ok (.func fn first cap) w := fun _ _ _ _ => rfl
 obtain ⟨W, hW⟩ : ∃ W, W = (((w.alloc (.cells (clC x).toArray 43)).alloc (.cells #[.string ⟨s.toArray⟩] 9)).alloc (.cells #[.string ⟨d.toArray⟩] 9)) := ⟨_, rfl⟩
 have hal : Below w.heap.size w W := by rw [hW]; exact ((((Below.refl _ w).alloc (Nat.le_refl _) (.cells (clC x).toArray 43)).alloc (by simp; try omega) (.cells #[.string ⟨s.toArray⟩] 9)).alloc (by simp; try omega) (.cells #[.string ⟨d.toArray⟩] 9))
 have HAL := zh hal
 have hblk : W.heap[w.heap.size]? = some (.cells (clC x).toArray 43 (0, 0)) := by rw [hW]; exact (Below.heap_alloc _ _ _ (by simp; try omega)).trans ((Below.heap_alloc _ _ _ (by simp; try omega)).trans (heap_alloc_new w _))
 have hg : W.cell? ⟨w.heap.size + 1, 0, none⟩ = some (.string ⟨s.toArray⟩) := by
  have h := heap_alloc_new (w.alloc (.cells (clC x).toArray 43)) (.cells #[.string ⟨s.toArray⟩] 9)
  rw [World.size_alloc] at h
  have h2 : W.heap[w.heap.size + 1]? = some (.cells #[.string ⟨s.toArray⟩] 9 (0, 0)) := by rw [hW]; exact (Below.heap_alloc _ _ _ (by simp)).trans h
  exact cell_of_row _ _ 0 _ _ _ h2
 have hh : W.cell? ⟨w.heap.size + 2, 0, none⟩ = some (.string ⟨d.toArray⟩) := by
  have h := heap_alloc_new ((w.alloc (.cells (clC x).toArray 43)).alloc (.cells #[.string ⟨s.toArray⟩] 9)) (.cells #[.string ⟨d.toArray⟩] 9)
  rw [World.size_alloc, World.size_alloc] at h
  have h2 : W.heap[w.heap.size + 2]? = some (.cells #[.string ⟨d.toArray⟩] 9 (0, 0)) := by rw [hW]; exact h
  exact cell_of_row _ _ 0 _ _ _ h2
 obtain ⟨x0_0, x0_1, x0_2, x0_3, x0_4, x0_5, x0_6⟩ := cl_cells hblk
 have HF := zh (find_me (w.heap.size + 1) (w.heap.size + 2) s d x.A3 x.c3 x.ms W (hr.below hal) hl hg hh)
 unfold clC at hW ⊢
 try dsimp only at hW ⊢
 have HW := zh hW
 clear hal hblk hW hr hl hg hh
 go_enter Try.func78, Try.ntmps78
 go_wp2_with fail
 try simp only [World.size_alloc, Nat.add_assoc, Nat.reduceAdd]
 rw [← HW.out]
 (try go_wp2_with fail)
 refine HF.out.mono ?_
 rintro e v ⟨r, rfl, hi, hb⟩
 have HI := zh hi; have HB := zh hb
 clear hi hb
 (try go_wp2_with fail)
 go_ret
 exact ⟨r, rfl, HI.out, HAL.out.trans (HB.out.mono HAL.out.size)⟩
theorem place_fi (x : ClM) (s : Tx) (w : World) (hr : Rd w x.A2 (x.fs.flatMap fiC)) (hl : x.fs.length ≤ 281474976710656) : Calls Try.prog 102 #[.agg (clC x).toArray, .string ⟨s.toArray⟩] w fun e w' => ∃ r, e = .returned (.int .i64 r) ∧ Idx (fun y : FiM => (y.nm == s)) x.fs r ∧ Below w.heap.size w w' := by
 have hmf : ∀ (fn : Fn) (first cap : Array Value) (w : World), (Instr.makeFunc fn first cap).run Try.prog w = .ok (.func fn first cap) w := fun _ _ _ _ => rfl
 obtain ⟨W, hW⟩ : ∃ W, W = ((w.alloc (.cells (clC x).toArray 43)).alloc (.cells #[.string ⟨s.toArray⟩] 9)) := ⟨_, rfl⟩
 have hal : Below w.heap.size w W := by rw [hW]; exact (((Below.refl _ w).alloc (Nat.le_refl _) (.cells (clC x).toArray 43)).alloc (by simp; try omega) (.cells #[.string ⟨s.toArray⟩] 9))
 have HAL := zh hal
 have hblk : W.heap[w.heap.size]? = some (.cells (clC x).toArray 43 (0, 0)) := by rw [hW]; exact (Below.heap_alloc _ _ _ (by simp; try omega)).trans (heap_alloc_new w _)
 have hg : W.cell? ⟨w.heap.size + 1, 0, none⟩ = some (.string ⟨s.toArray⟩) := by
  have h := heap_alloc_new (w.alloc (.cells (clC x).toArray 43)) (.cells #[.string ⟨s.toArray⟩] 9)
  rw [World.size_alloc] at h
  have h2 : W.heap[w.heap.size + 1]? = some (.cells #[.string ⟨s.toArray⟩] 9 (0, 0)) := by rw [hW]; exact h
  exact cell_of_row _ _ 0 _ _ _ h2
 obtain ⟨x0_0, x0_1, x0_2, x0_3, x0_4, x0_5, x0_6⟩ := cl_cells hblk
 have HF := zh (find_fi (w.heap.size + 1) s x.A2 x.c2 x.fs W (hr.below hal) hl hg)
 unfold clC at hW ⊢
 try dsimp only at hW ⊢
 have HW := zh hW
 clear hal hblk hW hr hl hg
 go_enter Try.func102, Try.ntmps102
 go_wp2_with fail
 try simp only [World.size_alloc, Nat.add_assoc, Nat.reduceAdd]
 rw [← HW.out]
 (try go_wp2_with fail)
 refine HF.out.mono ?_
 rintro e v ⟨r, rfl, hi, hb⟩
 have HI := zh hi; have HB := zh hb
 clear hi hb
 (try go_wp2_with fail)
 go_ret
 exact ⟨r, rfl, HI.out, HAL.out.trans (HB.out.mono HAL.out.size)⟩
end Go.Proofs.Ytdifmgeicnndfaa.prg
namespace Go.Proofs.Ytdifmgeicnndfaa.prg
open Go.RowKit
open words kindp opp op kind word
end Go.Proofs.Ytdifmgeicnndfaa.prg
namespace Go.Proofs.Ytdifmgeicnndfaa.prg
open Go.RowKit
open words kindp opp op kind word
end Go.Proofs.Ytdifmgeicnndfaa.prg
namespace Go.Proofs.Ytdifmgeicnndfaa.prg
open Go.RowKit
open words kindp opp op kind word
end Go.Proofs.Ytdifmgeicnndfaa.prg
namespace Go.Proofs.Ytdifmgeicnndfaa.prg
open Go.RowKit
open words kindp opp op kind word
end Go.Proofs.Ytdifmgeicnndfaa.prg
namespace Go.Proofs.Ytdifmgeicnndfaa.prg
open Go.RowKit
open words kindp opp op kind word
end Go.Proofs.Ytdifmgeicnndfaa.prg
namespace Go.Proofs.Ytdifmgeicnndfaa.words
open Go.RowKit
end Go.Proofs.Ytdifmgeicnndfaa.words
namespace Go.Proofs.Ytdifmgeicnndfaa.prg
open Go.RowKit
open words kindp opp op kind word
set_option maxRecDepth 100000
set_option maxHeartbeats 16000000
set_option linter.all false
def GrI (x : InM) : Prop := x.i.ar.length ≤ 60 ∧ x.i.cl.length ≤ 300 ∧ x.i.nm.length ≤ 300 ∧ x.i.ds.length ≤ 300
def GrM (m : MeM) : Prop := (m.co.length ≤ 300 ∧ m.nm.length ≤ 300 ∧ m.ds.length ≤ 300) ∧ ∀ x ∈ m.co, GrI x
def GrC (c : ClM) : Prop := (c.is.length ≤ 40 ∧ c.fs.length ≤ 40 ∧ c.ms.length ≤ 40 ∧ c.nm.length ≤ 300 ∧ c.su.length ≤ 300) ∧ ∀ m ∈ c.ms, GrM m
def GrP (p : PrM) : Prop := (p.cs.length ≤ 70 ∧ p.ns.length ≤ 70) ∧ ∀ c ∈ p.cs, GrC c
def GrW (x : PrM) (w : World) (e : Ending) (w' : World) : Prop := ∃ g, e = .returned (.bool g) ∧ (g = false → GrP x) ∧ Below w.heap.size w w'
theorem gr_mk {x : PrM} {w w' : World} {e : Ending} {g : Bool} (h : e = .returned (.bool g)) (h1 : g = false → GrP x) (h2 : Below w.heap.size w w') : GrW x w e w' := ⟨g, h, h1, h2⟩
theorem all_more {α : Type} {P : α → Prop} {l : List α} {k : Nat} {x : α} (h : ∀ y ∈ l.take k, P y) (hx : l[k]? = some x) (hp : P x) : ∀ y ∈ l.take (k + 1), P y := by
 intro y hy
 rw [List.take_add_one, hx, List.mem_append] at hy
 rcases hy with hy | hy
 ·exact h y hy
 ·simp at hy; subst hy; exact hp
theorem great_w (x : PrM) (w : World) (hk : PrOk w x) (hb : PrBd x) : Calls Try.prog 8 #[.agg (prC x).toArray] w (GrW x w) := by
 obtain ⟨W, hW⟩ : ∃ W, W = w.alloc (.cells (prC x).toArray 27) := ⟨_, rfl⟩
 have hal : Below w.heap.size w W := by rw [hW]; exact (Below.refl _ w).alloc (Nat.le_refl _) _
 have HAL := zh hal
 have hblk : W.heap[w.heap.size]? = some (.cells (prC x).toArray 27 (0, 0)) := by rw [hW]; exact heap_alloc_new w _
 have HBK := zh hblk; have HLT := zh (blk_lt hblk)
 obtain ⟨x0_0, x0_1, x0_2, x0_3, x0_4⟩ := pr_cells hblk
 have K0 := zh (Below.refl W.heap.size W)
 have HKW := zh (hk.below hal)
 have HBD := zh hb
 have l1 : x.cs.length ≤ 281474976710656 := by have := hb.1.1; omega
 have l2 : x.ns.length ≤ 281474976710656 := by have := hb.2.1.1; omega
 obtain ⟨n, hn⟩ : ∃ n, n = x.cs.length := ⟨_, rfl⟩
 rw [← hn] at x0_0 l1
 obtain ⟨n2, hn2⟩ : ∃ n, n = x.ns.length := ⟨_, rfl⟩
 rw [← hn2] at x0_1 l2
 have nI : (n : Int) ≤ 281474976710656 := by omega
 have n2I : (n2 : Int) ≤ 281474976710656 := by omega
 unfold prC at hW ⊢
 try dsimp only at hW ⊢
 rw [← hn, ← hn2] at hW ⊢
 have HW := zh hW
 have HN := zh hn; have HN2 := zh hn2
 clear hal hblk hW hk hb l1 l2 hn hn2
 by_cases pn : 70 < n
 ·have gin : (70 : Int) < (n : Int) := by omega
  have gdn : decide ((70 : Int) < (n : Int)) = true := decide_eq_true gin
  go_enter Try.func8, Try.ntmps8
  go_wp2_with fail
  rw [← HW.out]
  (try go_wp2)
  go_ret
  exact gr_mk (g := true) rfl (fun h => by cases h) HAL.out
 have jn : ¬ (70 : Int) < (n : Int) := by omega
 by_cases pn2 : 70 < n2
 ·have gin2 : (70 : Int) < (n2 : Int) := by omega
  have gdn2 : decide ((70 : Int) < (n2 : Int)) = true := decide_eq_true gin2
  go_enter Try.func8, Try.ntmps8
  go_wp2_with fail
  rw [← HW.out]
  (try go_wp2)
  go_ret
  exact gr_mk (g := true) rfl (fun h => by cases h) HAL.out
 have jn2 : ¬ (70 : Int) < (n2 : Int) := by omega
 have dj : decide ((70 : Int) < (n2 : Int)) = false := decide_eq_false jn2
 go_enter Try.func8, Try.ntmps8
 go_wp2_with fail
 rw [← HW.out]
 (try go_wp2)
 go_loopw [3] (fun i wr => ∃ k : Nat, i = .int .i64 (k : Int) ∧ k ≤ n ∧ (∀ c ∈ x.cs.take k, GrC c) ∧ Below W.heap.size W wr) (fun i _ => n - (intOf i).toNat)
 case atStart => exact ⟨0, rfl, Nat.zero_le _, by simp, Below.refl _ _⟩
 case round =>
  obtain ⟨k, rfl, hk, hall, hbw⟩ := hrel
  obtain ⟨wa, hwa⟩ : ∃ v, v = wr := ⟨_, rfl⟩
  subst hwa
  have HA := zh hall; have HB := zh hbw
  obtain ⟨x1_0, x1_1, x1_2, x1_3, x1_4⟩ := pr_cells ((hbw.block _ HLT.out).trans HBK.out)
  rw [← HN.out] at x1_0
  rw [← HN2.out] at x1_1
  clear hall x0_0 x0_1 x0_2 x0_3 x0_4 dj jn2
  by_cases hlt : k < n
  ·have hltI : (k : Int) < (n : Int) := by omega
   obtain ⟨y, hy⟩ : ∃ y, x.cs[k]? = some y := ⟨x.cs[k]'(by rw [← HN.out]; exact hlt), List.getElem?_eq_getElem _⟩
   have hmem := List.mem_of_getElem? hy
   have hok := HKW.out.2.2 y hmem
   have hbd := HBD.out.1.2 y hmem
   obtain ⟨a, ea, ha, c0, c1, c2, c3, c4, c5, c6⟩ := cl_at (HKW.out.1.2.below hbw) hy
   rw [ea] at x1_0
   have HEA := zh ea
   have q1 := hbd.2.2.1.1
   have q2 := hbd.2.2.2.1.1
   have q3 := hbd.2.2.2.2.1
   have s4 := mk_sz y.nm
   have s5 := mk_sz y.su
   have q4 := hbd.1
   have q5 := hbd.2.1
   obtain ⟨m1, hm1⟩ : ∃ n, n = y.is.length := ⟨_, rfl⟩
   rw [← hm1] at c4 q1
   obtain ⟨m2, hm2⟩ : ∃ n, n = y.fs.length := ⟨_, rfl⟩
   rw [← hm2] at c5 q2
   obtain ⟨m3, hm3⟩ : ∃ n, n = y.ms.length := ⟨_, rfl⟩
   rw [← hm3] at c6 q3
   obtain ⟨m4, hm4⟩ : ∃ n, n = y.nm.length := ⟨_, rfl⟩
   rw [← hm4] at s4 q4
   obtain ⟨m5, hm5⟩ : ∃ n, n = y.su.length := ⟨_, rfl⟩
   rw [← hm5] at s5 q5
   have m1I : (m1 : Int) ≤ 281474976710656 := by omega
   have m2I : (m2 : Int) ≤ 281474976710656 := by omega
   have m3I : (m3 : Int) ≤ 281474976710656 := by omega
   have m4I : (m4 : Int) ≤ 281474976710656 := by omega
   have m5I : (m5 : Int) ≤ 281474976710656 := by omega
   have HOK := zh hok; have HBY := zh hbd; have HY := zh hy; have HMM := zh hmem
   have H1 := zh hm1; have H2 := zh hm2; have H3 := zh hm3; have H4 := zh hm4; have H5 := zh hm5
   have hax := hbw.alloc hbw.size (.cells (clC y).toArray 43)
   unfold clC at hax
   try dsimp only at hax
   rw [← hm1, ← hm2, ← hm3] at hax
   have HAX := zh hax
   clear hok hbd hy hmem hm1 hm2 hm3 hm4 hm5 hax q1 q2 q3 q4 q5 ea hbw ha
   by_cases pm1 : 40 < m1
   ·have gim1 : (40 : Int) < (m1 : Int) := by omega
    have gdm1 : decide ((40 : Int) < (m1 : Int)) = true := decide_eq_true gim1
    go_wp2
    go_ret
    exact gr_mk (g := true) rfl (fun h => by cases h) (HAL.out.trans (HAX.out.mono HAL.out.size))
   have jm1 : ¬ (40 : Int) < (m1 : Int) := by omega
   by_cases pm2 : 40 < m2
   ·have gim2 : (40 : Int) < (m2 : Int) := by omega
    have gdm2 : decide ((40 : Int) < (m2 : Int)) = true := decide_eq_true gim2
    go_wp2
    go_ret
    exact gr_mk (g := true) rfl (fun h => by cases h) (HAL.out.trans (HAX.out.mono HAL.out.size))
   have jm2 : ¬ (40 : Int) < (m2 : Int) := by omega
   by_cases pm3 : 40 < m3
   ·have gim3 : (40 : Int) < (m3 : Int) := by omega
    have gdm3 : decide ((40 : Int) < (m3 : Int)) = true := decide_eq_true gim3
    go_wp2
    go_ret
    exact gr_mk (g := true) rfl (fun h => by cases h) (HAL.out.trans (HAX.out.mono HAL.out.size))
   have jm3 : ¬ (40 : Int) < (m3 : Int) := by omega
   by_cases pm4 : 300 < m4
   ·have gim4 : (300 : Int) < (m4 : Int) := by omega
    have gdm4 : decide ((300 : Int) < (m4 : Int)) = true := decide_eq_true gim4
    go_wp2
    go_ret
    exact gr_mk (g := true) rfl (fun h => by cases h) (HAL.out.trans (HAX.out.mono HAL.out.size))
   have jm4 : ¬ (300 : Int) < (m4 : Int) := by omega
   by_cases pm5 : 300 < m5
   ·have gim5 : (300 : Int) < (m5 : Int) := by omega
    have gdm5 : decide ((300 : Int) < (m5 : Int)) = true := decide_eq_true gim5
    go_wp2
    go_ret
    exact gr_mk (g := true) rfl (fun h => by cases h) (HAL.out.trans (HAX.out.mono HAL.out.size))
   have jm5 : ¬ (300 : Int) < (m5 : Int) := by omega
   have dj : decide ((300 : Int) < (m5 : Int)) = false := decide_eq_false jm5
   have HG := zh (show m1 ≤ 40 ∧ m2 ≤ 40 ∧ m3 ≤ 40 ∧ m4 ≤ 300 ∧ m5 ≤ 300 by omega)
   go_wp2
   clear c0 c1 c2 c3 c4 c5 c6 dj jm1 jm2 jm3 jm4 jm5 pm1 pm2 pm3 pm4 pm5 s4 s5 m1I m2I m4I m5I
   have HXB := zh (heap_alloc_new wa (.cells #[.string ⟨y.nm.toArray⟩, .string ⟨y.su.toArray⟩, .bool y.fc, .bool y.ab, .slice y.A1 m1 y.c1, .slice y.A2 m2 y.c2, .slice y.A3 m3 y.c3] 43))
   have HXL := zh (blk_lt HXB.out)
   go_loopw [5] (fun i ws => ∃ k2 : Nat, i = .int .i64 (k2 : Int) ∧ k2 ≤ m3 ∧ (∀ m ∈ y.ms.take k2, GrM m) ∧ Below W.heap.size W ws ∧ ws.heap[wa.heap.size]? = some (.cells #[.string ⟨y.nm.toArray⟩, .string ⟨y.su.toArray⟩, .bool y.fc, .bool y.ab, .slice y.A1 m1 y.c1, .slice y.A2 m2 y.c2, .slice y.A3 m3 y.c3] 43 (0, 0))) (fun i _ => m3 - (intOf i).toNat)
   case atStart => exact ⟨0, rfl, Nat.zero_le _, by simp, HAX.out, HXB.out⟩
   case round =>
    obtain ⟨k2, rfl, hk2, hall2, hbs, hxs⟩ := hrel
    obtain ⟨ws, hws⟩ : ∃ v, v = wr := ⟨_, rfl⟩
    subst hws
    have HA2 := zh hall2; have HB2 := zh hbs; have HX2 := zh hxs
    have z6 : ws.cell? ⟨wa.heap.size, 6, none⟩ = some (.slice y.A3 m3 y.c3) := cell_of_row _ _ 6 _ _ _ hxs
    clear hall2 hxs x1_0 x1_1 x1_2 x1_3 x1_4
    by_cases hlt2 : k2 < m3
    ·have hltI2 : (k2 : Int) < (m3 : Int) := by omega
     obtain ⟨z, hz⟩ : ∃ z, y.ms[k2]? = some z := ⟨y.ms[k2]'(by rw [← H3.out]; exact hlt2), List.getElem?_eq_getElem _⟩
     have hmem := List.mem_of_getElem? hz
     have hok := HOK.out.2.2.2 z hmem
     have hbd := HBY.out.2.2.2.2.2 z hmem
     obtain ⟨b, eb, hbl, d0, d1, d2, d3, d4, d5⟩ := me_at (HOK.out.2.2.1.2.below hbs) hz
     rw [eb] at z6
     have HEB := zh eb
     have q1 := hbd.2.2.1
     have s2 := mk_sz z.nm
     have s3 := mk_sz z.ds
     have q2 := hbd.1
     have q3 := hbd.2.1
     obtain ⟨r1, hr1⟩ : ∃ n, n = z.co.length := ⟨_, rfl⟩
     rw [← hr1] at d5 q1
     obtain ⟨r2, hr2⟩ : ∃ n, n = z.nm.length := ⟨_, rfl⟩
     rw [← hr2] at s2 q2
     obtain ⟨r3, hr3⟩ : ∃ n, n = z.ds.length := ⟨_, rfl⟩
     rw [← hr3] at s3 q3
     have r1I : (r1 : Int) ≤ 281474976710656 := by omega
     have r2I : (r2 : Int) ≤ 281474976710656 := by omega
     have r3I : (r3 : Int) ≤ 281474976710656 := by omega
     have HOZ := zh hok; have HBZ := zh hbd; have HZ := zh hz
     have H6 := zh hr1; have H7 := zh hr2; have H8 := zh hr3
     have hax2 := hbs.alloc hbs.size (.cells (meC z).toArray 37)
     have hxb2 := (Below.heap_alloc ws (.cells (meC z).toArray 37) wa.heap.size (blk_lt HX2.out)).trans HX2.out
     unfold meC at hax2 hxb2
     try dsimp only at hax2 hxb2
     rw [← hr1] at hax2 hxb2
     have HAX2 := zh hax2; have HXB2 := zh hxb2
     clear hok hbd hz hmem hr1 hr2 hr3 hax2 hxb2 q1 q2 q3 eb hbl hbs
     by_cases pr1 : 300 < r1
     ·have gir1 : (300 : Int) < (r1 : Int) := by omega
      have gdr1 : decide ((300 : Int) < (r1 : Int)) = true := decide_eq_true gir1
      go_wp2
      go_ret
      exact gr_mk (g := true) rfl (fun h => by cases h) (HAL.out.trans (HAX2.out.mono HAL.out.size))
     have jr1 : ¬ (300 : Int) < (r1 : Int) := by omega
     by_cases pr2 : 300 < r2
     ·have gir2 : (300 : Int) < (r2 : Int) := by omega
      have gdr2 : decide ((300 : Int) < (r2 : Int)) = true := decide_eq_true gir2
      go_wp2
      go_ret
      exact gr_mk (g := true) rfl (fun h => by cases h) (HAL.out.trans (HAX2.out.mono HAL.out.size))
     have jr2 : ¬ (300 : Int) < (r2 : Int) := by omega
     by_cases pr3 : 300 < r3
     ·have gir3 : (300 : Int) < (r3 : Int) := by omega
      have gdr3 : decide ((300 : Int) < (r3 : Int)) = true := decide_eq_true gir3
      go_wp2
      go_ret
      exact gr_mk (g := true) rfl (fun h => by cases h) (HAL.out.trans (HAX2.out.mono HAL.out.size))
     have jr3 : ¬ (300 : Int) < (r3 : Int) := by omega
     have dj : decide ((300 : Int) < (r3 : Int)) = false := decide_eq_false jr3
     have HG2 := zh (show r1 ≤ 300 ∧ r2 ≤ 300 ∧ r3 ≤ 300 by omega)
     go_wp2
     clear d0 d1 d2 d3 d4 d5 dj jr1 jr2 jr3 pr1 pr2 pr3 s2 s3 r2I r3I z6
     have HYB := zh (heap_alloc_new ws (.cells #[.string ⟨z.nm.toArray⟩, .string ⟨z.ds.toArray⟩, .bool z.st, .bool z.ab, .int .i64 z.rg, .slice z.A r1 z.c] 37))
     go_loopw [7] (fun i wt => ∃ k3 : Nat, i = .int .i64 (k3 : Int) ∧ k3 ≤ r1 ∧ (∀ t ∈ z.co.take k3, GrI t) ∧ Below W.heap.size W wt ∧ wt.heap[wa.heap.size]? = some (.cells #[.string ⟨y.nm.toArray⟩, .string ⟨y.su.toArray⟩, .bool y.fc, .bool y.ab, .slice y.A1 m1 y.c1, .slice y.A2 m2 y.c2, .slice y.A3 m3 y.c3] 43 (0, 0)) ∧ wt.heap[ws.heap.size]? = some (.cells #[.string ⟨z.nm.toArray⟩, .string ⟨z.ds.toArray⟩, .bool z.st, .bool z.ab, .int .i64 z.rg, .slice z.A r1 z.c] 37 (0, 0))) (fun i _ => r1 - (intOf i).toNat)
     case atStart => exact ⟨0, rfl, Nat.zero_le _, by simp, HAX2.out, HXB2.out, HYB.out⟩
     case round =>
      obtain ⟨k3, rfl, hk3, hall3, hbt, hxt, hyt⟩ := hrel
      obtain ⟨wt, hwt⟩ : ∃ v, v = wr := ⟨_, rfl⟩
      subst hwt
      have HA3 := zh hall3; have HB3 := zh hbt; have HX3 := zh hxt
      have z5 : wt.cell? ⟨ws.heap.size, 5, none⟩ = some (.slice z.A r1 z.c) := cell_of_row _ _ 5 _ _ _ hyt
      have HY3 := zh hyt
      clear hall3 hxt hyt
      by_cases hlt3 : k3 < r1
      ·have hltI3 : (k3 : Int) < (r1 : Int) := by omega
       obtain ⟨t, ht⟩ : ∃ t, z.co[k3]? = some t := ⟨z.co[k3]'(by rw [← H6.out]; exact hlt3), List.getElem?_eq_getElem _⟩
       have hmem := List.mem_of_getElem? ht
       have hbd := HBZ.out.2.2.2 t hmem
       obtain ⟨c, ec, hcl, e0, e1, e2, e3, e4, e5, e6, e7, e8⟩ := in_at (HOZ.out.2.1.below hbt) ht
       rw [ec] at z5
       have q1 := hbd.1
       have s2 := mk_sz t.i.cl
       have s3 := mk_sz t.i.nm
       have s4 := mk_sz t.i.ds
       have q2 := hbd.2.1
       have q3 := hbd.2.2.1
       have q4 := hbd.2.2.2
       obtain ⟨u1, hu1⟩ : ∃ n, n = t.i.ar.length := ⟨_, rfl⟩
       rw [← hu1] at e8 q1
       obtain ⟨u2, hu2⟩ : ∃ n, n = t.i.cl.length := ⟨_, rfl⟩
       rw [← hu2] at s2 q2
       obtain ⟨u3, hu3⟩ : ∃ n, n = t.i.nm.length := ⟨_, rfl⟩
       rw [← hu3] at s3 q3
       obtain ⟨u4, hu4⟩ : ∃ n, n = t.i.ds.length := ⟨_, rfl⟩
       rw [← hu4] at s4 q4
       have u1I : (u1 : Int) ≤ 281474976710656 := by omega
       have u2I : (u2 : Int) ≤ 281474976710656 := by omega
       have u3I : (u3 : Int) ≤ 281474976710656 := by omega
       have u4I : (u4 : Int) ≤ 281474976710656 := by omega
       have HT := zh ht
       have H9 := zh hu1; have H10 := zh hu2; have H11 := zh hu3; have H12 := zh hu4
       clear hbd ht hmem hu1 hu2 hu3 hu4 q1 q2 q3 q4 ec hcl hbt
       by_cases pu1 : 60 < u1
       ·have giu1 : (60 : Int) < (u1 : Int) := by omega
        have gdu1 : decide ((60 : Int) < (u1 : Int)) = true := decide_eq_true giu1
        go_wp2
        go_ret
        exact gr_mk (g := true) rfl (fun h => by cases h) (HAL.out.trans (HB3.out.mono HAL.out.size))
       have ju1 : ¬ (60 : Int) < (u1 : Int) := by omega
       by_cases pu2 : 300 < u2
       ·have giu2 : (300 : Int) < (u2 : Int) := by omega
        have gdu2 : decide ((300 : Int) < (u2 : Int)) = true := decide_eq_true giu2
        go_wp2
        go_ret
        exact gr_mk (g := true) rfl (fun h => by cases h) (HAL.out.trans (HB3.out.mono HAL.out.size))
       have ju2 : ¬ (300 : Int) < (u2 : Int) := by omega
       by_cases pu3 : 300 < u3
       ·have giu3 : (300 : Int) < (u3 : Int) := by omega
        have gdu3 : decide ((300 : Int) < (u3 : Int)) = true := decide_eq_true giu3
        go_wp2
        go_ret
        exact gr_mk (g := true) rfl (fun h => by cases h) (HAL.out.trans (HB3.out.mono HAL.out.size))
       have ju3 : ¬ (300 : Int) < (u3 : Int) := by omega
       by_cases pu4 : 300 < u4
       ·have giu4 : (300 : Int) < (u4 : Int) := by omega
        have gdu4 : decide ((300 : Int) < (u4 : Int)) = true := decide_eq_true giu4
        go_wp2
        go_ret
        exact gr_mk (g := true) rfl (fun h => by cases h) (HAL.out.trans (HB3.out.mono HAL.out.size))
       have ju4 : ¬ (300 : Int) < (u4 : Int) := by omega
       have dj : decide ((300 : Int) < (u4 : Int)) = false := decide_eq_false ju4
       have HG3 := zh (show GrI t from ⟨by rw [← H9.out]; omega, by rw [← H10.out]; omega, by rw [← H11.out]; omega, by rw [← H12.out]; omega⟩)
       go_wp2
       go_roundw
       case rel => exact ⟨k3 + 1, by go_num, by omega, all_more HA3.out HT.out HG3.out, HB3.out, HX3.out, HY3.out⟩
       case measure => simp [intOf]; omega
      ·have hltI3 : ¬ (k3 : Int) < (r1 : Int) := by omega
       have hcm := HA3.out
       rw [List.take_of_length_le (by rw [← H6.out]; omega)] at hcm
       have HGM := zh (show GrM z from ⟨⟨by rw [← H6.out]; exact HG2.out.1, by rw [← H7.out]; exact HG2.out.2.1, by rw [← H8.out]; exact HG2.out.2.2⟩, hcm⟩)
       clear hcm hbt
       go_wp2
       go_roundw
       case rel => exact ⟨k2 + 1, by go_num, by omega, all_more HA2.out HZ.out HGM.out, HB3.out, HX3.out⟩
       case measure => simp [intOf]; omega
    ·have hltI2 : ¬ (k2 : Int) < (m3 : Int) := by omega
     have hcm := HA2.out
     rw [List.take_of_length_le (by rw [← H3.out]; omega)] at hcm
     have HGC := zh (show GrC y from ⟨⟨by rw [← H1.out]; exact HG.out.1, by rw [← H2.out]; exact HG.out.2.1, by rw [← H3.out]; exact HG.out.2.2.1, by rw [← H4.out]; exact HG.out.2.2.2.1, by rw [← H5.out]; exact HG.out.2.2.2.2⟩, hcm⟩)
     clear hcm hbs
     go_wp2
     go_roundw
     case rel => exact ⟨k + 1, by go_num, by omega, all_more HA.out HY.out HGC.out, HB2.out⟩
     case measure => simp [intOf]; omega
  ·have hltI : ¬ (k : Int) < (n : Int) := by omega
   have hcm := HA.out
   rw [List.take_of_length_le (by rw [← HN.out]; omega)] at hcm
   have HGP := zh (show GrP x from ⟨⟨by rw [← HN.out]; omega, by rw [← HN2.out]; omega⟩, hcm⟩)
   clear hcm hbw
   go_wp2
   go_ret
   exact gr_mk (g := false) rfl (fun _ => HGP.out) (HAL.out.trans (HB.out.mono HAL.out.size))
end Go.Proofs.Ytdifmgeicnndfaa.prg
namespace Go.Proofs.Ytdifmgeicnndfaa.prg
open Go.RowKit
open words kindp opp op kind word
set_option maxRecDepth 100000
set_option maxHeartbeats 16000000
set_option linter.all false
theorem SX_one (l : List Tx) : ∀ u ∈ SX l, u.oneCell' = true := by
 intro u hu
 simp only [SX, List.mem_map] at hu
 obtain ⟨x, _, rfl⟩ := hu
 rfl
end Go.Proofs.Ytdifmgeicnndfaa.prg
namespace Go.Proofs.Ytdifmgeicnndfaa.prg
open Go.RowKit
open words kindp opp op kind word
set_option maxRecDepth 100000
set_option maxHeartbeats 16000000
set_option linter.all false
end Go.Proofs.Ytdifmgeicnndfaa.prg
namespace Go.Proofs.Ytdifmgeicnndfaa.prg
open Go.RowKit
open words kindp opp op kind word
set_option maxRecDepth 100000
set_option maxHeartbeats 8000000
set_option linter.all false
def findC (cs : List ClM) (s : Tx) : Option ClM := cs.find? fun y => y.nm == s
theorem idx_at {α : Type} {P : α → Bool} : ∀ {l : List α} {k : Nat} {x : α}, l[k]? = some x → P x = true → (∀ t ∈ l.take k, P t = false) → l.findIdx? P = some k ∧ l.find? P = some x
 | [], _, _, h, _, _ => by simp at h
 | y :: l, 0, x, h, hp, _ => by
  simp at h; subst h
  exact ⟨by simp [List.findIdx?_cons, hp], by simp [hp]⟩
 | y :: l, k + 1, x, h, hp, ha => by
  have hy : P y = false := ha y (by simp)
  obtain ⟨h1, h2⟩ := idx_at (l := l) (k := k) (x := x) (by simpa using h) hp (fun t ht => ha t (by simp [ht]))
  exact ⟨by simp [List.findIdx?_cons, hy, h1], by simp [hy, h2]⟩
theorem idx_no {α : Type} {P : α → Bool} {l : List α} (h : ∀ t ∈ l, P t = false) : l.findIdx? P = none ∧ l.find? P = none := by
 induction l with
 | nil => exact ⟨rfl, rfl⟩
 | cons y l ih =>
  have hy : P y = false := h y (by simp)
  obtain ⟨h1, h2⟩ := ih fun t ht => h t (by simp [ht])
  exact ⟨by simp [List.findIdx?_cons, hy, h1], by simp [hy, h2]⟩
theorem idx_two {α : Type} {P : α → Bool} {l : List α} {r : Int} (h : Idx P l r) : (r = -1 ∧ l.findIdx? P = none ∧ l.find? P = none) ∨ ∃ k x, r = ((k : Nat) : Int) ∧ l[k]? = some x ∧ P x = true ∧ l.findIdx? P = some k ∧ l.find? P = some x := by
 rcases h with ⟨rfl, h⟩ | ⟨k, x, rfl, hx, hp, ha⟩
 ·exact .inl ⟨rfl, idx_no h⟩
 ·exact .inr ⟨k, x, rfl, hx, hp, idx_at hx hp ha⟩
def supS (cs : List ClM) : Nat → Tx → List Tx → List Tx
 | 0, _, l => l
 | f + 1, s, l => match findC cs s with
  | none => l
  | some c => if l.contains s then l else supS cs f c.su (l ++ [s])
def supersL (cs : List ClM) (s : Tx) : List Tx := supS cs (cs.length + 1) s []
theorem len_sub {α : Type} [BEq α] [LawfulBEq α] : ∀ {l m : List α}, l.Nodup → (∀ x ∈ l, x ∈ m) → l.length ≤ m.length
 | [], _, _, _ => Nat.zero_le _
 | x :: l, m, hn, hs => by
  rw [List.nodup_cons] at hn
  have hx : x ∈ m := hs x (by simp)
  have h1 := len_sub (l := l) (m := m.erase x) hn.2 fun y hy => (List.mem_erase_of_ne (fun e => hn.1 (by rw [← e]; exact hy))).2 (hs y (by simp [hy]))
  rw [List.length_erase_of_mem hx] at h1
  have := List.length_pos_of_mem hx
  simp only [List.length_cons]; omega
theorem findC_nm {cs : List ClM} {s : Tx} {c : ClM} (h : findC cs s = some c) : c.nm = s ∧ c ∈ cs := by
 have h1 := List.find?_some h
 exact ⟨by simpa using h1, List.mem_of_find?_eq_some h⟩
def SupI (cs : List ClM) (L : List Tx) (s : Tx) (out : List Tx) (f : Nat) : Prop := supS cs f s out = L ∧ out.length + f = cs.length + 1 ∧ out.Nodup ∧ ∀ o ∈ out, (findC cs o).isSome = true
theorem SupI.start (cs : List ClM) (s : Tx) : SupI cs (supersL cs s) s [] (cs.length + 1) := ⟨rfl, by simp, List.nodup_nil, by simp⟩
theorem SupI.len {cs : List ClM} {L : List Tx} {s : Tx} {out : List Tx} {f : Nat} (h : SupI cs L s out f) : out.length ≤ cs.length := by
 have := len_sub (m := cs.map (·.nm)) h.2.2.1 fun o ho => by
  obtain ⟨c, hc⟩ := Option.isSome_iff_exists.1 (h.2.2.2 o ho)
  obtain ⟨e, hm⟩ := findC_nm hc
  exact List.mem_map.2 ⟨c, hm, e⟩
 simpa using this
theorem SupI.pos {cs : List ClM} {L : List Tx} {s : Tx} {out : List Tx} {f : Nat} (h : SupI cs L s out f) : ∃ g, f = g + 1 := by
 have := h.len; have := h.2.1
 exact ⟨f - 1, by omega⟩
theorem SupI.none {cs : List ClM} {L : List Tx} {s : Tx} {out : List Tx} {f : Nat} (h : SupI cs L s out f) (hn : findC cs s = none) : out = L := by
 obtain ⟨g, rfl⟩ := h.pos
 have := h.1; unfold supS at this; rw [hn] at this; exact this
theorem SupI.had {cs : List ClM} {L : List Tx} {s : Tx} {out : List Tx} {f : Nat} (h : SupI cs L s out f) (hn : out.contains s = true) : out = L := by
 obtain ⟨g, rfl⟩ := h.pos
 have := h.1; unfold supS at this; rw [hn] at this
 cases hf : findC cs s with
 | none => rw [hf] at this; exact this
 | some c => rw [hf] at this; simpa using this
theorem SupI.next {cs : List ClM} {L : List Tx} {s : Tx} {out : List Tx} {f : Nat} {c : ClM} (h : SupI cs L s out f) (hc : findC cs s = some c) (hn : out.contains s = false) : SupI cs L c.su (out ++ [s]) (f - 1) := by
 obtain ⟨g, rfl⟩ := h.pos
 have h1 := h.1; unfold supS at h1; rw [hc, hn] at h1
 have hm : s ∉ out := fun hm => by rw [List.contains_iff_mem.2 hm] at hn; cases hn
 refine ⟨by simpa using h1, by have := h.2.1; simp; omega, ?_, fun o ho => ?_⟩
 ·rw [List.nodup_append]; exact ⟨h.2.2.1, by simp, fun a ha b hb e => by simp at hb; subst hb; subst e; exact hm ha⟩
 ·rcases List.mem_append.1 ho with h2 | h2
  ·exact h.2.2.2 o h2
  ·simp at h2; subst h2; rw [hc]; rfl
theorem index_s (A : Option Addr) (c : Nat) (l : List Tx) (s : Tx) (w : World) (hr : Rd w A (SX l)) (hl : l.length ≤ 281474976710656) :
  Calls Try.prog 131 #[.slice A l.length c, .string ⟨s.toArray⟩] w fun e w' => ∃ r, e = .returned (.int .i64 r) ∧ Idx (fun y : Tx => s == y) l r ∧ Below w.heap.size w w' := by
 obtain ⟨n, hn⟩ : ∃ n, n = l.length := ⟨_, rfl⟩
 rw [← hn] at hl ⊢
 have hnI : (n : Int) ≤ 281474976710656 := by omega
 have HN := zh hn; have HRD := zh hr
 clear hr hn hl
 go_enter Try.func131, Try.ntmps131
 go_wp2
 go_loopw [8] (fun i wr => ∃ k : Nat, i = .int .i64 (k : Int) ∧ k ≤ n ∧ (∀ t ∈ l.take k, (fun y : Tx => s == y) t = false) ∧ Below w.heap.size w wr) (fun i _ => n - (intOf i).toNat)
 case atStart => exact ⟨0, rfl, Nat.zero_le _, by simp, Below.refl _ _⟩
 case round =>
  obtain ⟨k, rfl, hk, hall, hbw⟩ := hrel
  have HA := zh hall; have HB := zh hbw
  clear hall
  by_cases hlt : k < n
  ·have hltI : (k : Int) < (n : Int) := by omega
   obtain ⟨y, hy⟩ : ∃ y, l[k]? = some y := ⟨l[k]'(by rw [← HN.out]; exact hlt), List.getElem?_eq_getElem _⟩
   obtain ⟨a, rfl, _, hcell⟩ := (HRD.out.below hbw).at_ (sx_get hy)
   have hmt := take_more (P := (fun y : Tx => s == y)) HA.out hy
   cases hsy : (s == y) with
   | true =>
    have HI := zh (show Idx (fun y : Tx => s == y) l (k : Int) from .inr ⟨k, _, rfl, hy, hsy, HA.out⟩)
    clear hy hmt hbw
    go_wp2
    go_ret
    exact ⟨_, rfl, HI.out, HB.out⟩
   | false =>
    have HM := zh (hmt hsy)
    clear hy hmt hbw
    go_wp2
    go_roundw
    case rel => exact ⟨k + 1, by go_num, by omega, HM.out, HB.out⟩
    case measure => simp [intOf]; omega
  ·have hltI : ¬ (k : Int) < (n : Int) := by omega
   have hall := HA.out
   rw [List.take_of_length_le (by rw [← HN.out]; omega)] at hall
   have HI := zh (show Idx (fun y : Tx => s == y) l (-1) from .inl ⟨rfl, hall⟩)
   clear hall hbw
   go_wp2
   go_ret
   exact ⟨_, rfl, HI.out, HB.out⟩
theorem has_two {l : List Tx} {s : Tx} {r : Int} (h : Idx (fun y : Tx => s == y) l r) : (r = -1 ∧ l.contains s = false) ∨ ∃ k : Nat, r = (k : Int) ∧ l.contains s = true := by
 rcases h with ⟨rfl, h⟩ | ⟨k, x, rfl, hx, hp, -⟩
 ·refine .inl ⟨rfl, ?_⟩
  cases hc : l.contains s with
  | false => rfl
  | true => have := h s (List.contains_iff_mem.1 hc); simp at this
 ·refine .inr ⟨k, rfl, List.contains_iff_mem.2 ?_⟩
  have e : s = x := by simpa using hp
  rw [e]; exact List.mem_of_getElem? hx
theorem has_s (A : Option Addr) (c : Nat) (l : List Tx) (s : Tx) (w : World) (hr : Rd w A (SX l)) (hl : l.length ≤ 281474976710656) :
  Calls Try.prog 93 #[.slice A l.length c, .string ⟨s.toArray⟩] w fun e w' => e = .returned (.bool (l.contains s)) ∧ Below w.heap.size w w' := by
 have HIX := zh (index_s A c l s w hr hl)
 clear hr hl
 go_enter Try.func93, Try.ntmps93
 go_wp2_with fail
 refine HIX.out.mono ?_
 rintro e w' ⟨r, rfl, hi, hb⟩
 have HB := zh hb
 clear hb
 rcases has_two hi with ⟨rfl, h⟩ | ⟨k, rfl, h⟩
 ·clear hi
  go_wp2
  go_ret
  exact ⟨by rw [h]; first | rfl | simp, HB.out⟩
 ·have hk : (0 : Int) ≤ (k : Int) := by omega
  clear hi
  go_wp2
  go_ret
  exact ⟨by rw [h]; first | rfl | simp, HB.out⟩
def lenV : Value → Nat
 | .slice _ n _ => n
 | _ => 0
theorem infoSt : (Try.prog.info? 9).map (fun i => (i.zero, i.size, i.bytes)) = some (some (.string ⟨#[]⟩), 1, 16) := by kernel_rfl
def SupP (cs : List ClM) (s : Tx) (w : World) (e : Ending) (w' : World) : Prop := (∃ A c, e = .returned (.slice A (supersL cs s).length c) ∧ (supersL cs s).length ≤ c ∧ Rd w' A (SX (supersL cs s))) ∧ Below w.heap.size w w'
theorem supers_w (x : PrM) (s0 : Tx) (w : World) (hk : PrOk w x) (hg : GrP x) : Calls Try.prog 75 #[.agg (prC x).toArray, .string ⟨s0.toArray⟩] w (SupP x.cs s0 w) := by
 obtain ⟨i0, hi0, hz0, hz1, hz2⟩ := info_parts infoSt
 obtain ⟨cs, A1, c1, ns, A2, c2, ec, en, ed⟩ := x
 obtain ⟨L, hL⟩ : ∃ L, L = supersL cs s0 := ⟨_, rfl⟩
 have HS0 := zh (show SupI cs L s0 [] (cs.length + 1) from by rw [hL]; exact SupI.start _ _)
 unfold SupP
 dsimp only
 rw [← hL]
 clear hL
 obtain ⟨W, hW⟩ : ∃ W, W = w.alloc (.cells (prC ⟨cs, A1, c1, ns, A2, c2, ec, en, ed⟩).toArray 27) := ⟨_, rfl⟩
 have hal : Below w.heap.size w W := by rw [hW]; exact (Below.refl _ w).alloc (Nat.le_refl _) _
 have hblk : W.heap[w.heap.size]? = some (.cells (prC ⟨cs, A1, c1, ns, A2, c2, ec, en, ed⟩).toArray 27 (0, 0)) := by rw [hW]; exact heap_alloc_new w _
 have HAL := zh hal; have HBK := zh hblk; have HLT := zh (blk_lt hblk)
 have HPL := zh (fun (s : Tx) (v : World) (hv : Below W.heap.size W v) => place_cl ⟨cs, A1, c1, ns, A2, c2, ec, en, ed⟩ s v ((hk.1.2.below hal).below hv) (by have := hg.1.1; omega))
 have HRD := zh (fun (v : World) (hv : Below W.heap.size W v) => show Rd v A1 (cs.flatMap clC) from (hk.1.2.below hal).below hv)
 obtain ⟨n, hn⟩ : ∃ n, n = cs.length := ⟨_, rfl⟩
 have HN := zh hn
 have nI : (n : Int) ≤ 70 := by have : cs.length ≤ 70 := hg.1.1; omega
 have HCE := zh (show ∀ v : World, Below W.heap.size W v → v.cell? ⟨w.heap.size, 0, none⟩ = some (.slice A1 n c1) ∧ v.cell? ⟨w.heap.size, 1, none⟩ = some (.slice A2 ns.length c2) ∧ v.cell? ⟨w.heap.size, 2, none⟩ = some (.string ⟨ec.toArray⟩) ∧ v.cell? ⟨w.heap.size, 3, none⟩ = some (.string ⟨en.toArray⟩) ∧ v.cell? ⟨w.heap.size, 4, none⟩ = some (.string ⟨ed.toArray⟩) from fun v hv => by rw [hn]; exact pr_cells ((hv.block _ HLT.out).trans HBK.out))
 have HLE := zh (fun s out f (h : SupI cs L s out f) => show out.length ≤ n from by rw [hn]; exact h.len)
 unfold prC at hW HPL ⊢
 try dsimp only at hW HPL ⊢
 rw [← hn] at hW HPL ⊢
 have HW := zh hW
 obtain ⟨x0, x1, x2, x3, x4⟩ := HCE.out _ (Below.refl _ _)
 clear hal hblk hW hk hg hn
 go_enter Try.func75, Try.ntmps75
 go_wp2_with fail
 rw [← HW.out]
 (try go_wp2_with fail)
 clear x0 x1 x2 x3 x4
 refine (HPL.out s0 W (Below.refl _ _)).mono ?_
 rintro e w1 ⟨r, rfl, hix, hb1⟩
 have HX1 := zh hix; have HB1 := zh hb1
 clear hix hb1
 go_wp2_with fail
 go_loopw [1, 5, 6] (fun nm v a wr => ∃ (s : Tx) (out : List Tx) (f : Nat) (r : Int), nm = .string ⟨s.toArray⟩ ∧ a = .int .i64 r ∧ Idx (fun y : ClM => y.nm == s) cs r ∧ SupI cs L s out f ∧ wr.ownsRow W.heap.size 9 1 v out.length (SX out) ∧ Below W.heap.size W wr) (fun _ v _ _ => n + 1 - lenV v)
 case atStart => exact ⟨s0, [], _, r, rfl, rfl, HX1.out, HS0.out, World.ownsRow_nil _ _ _ _, HB1.out⟩
 case round =>
  obtain ⟨s, out, f, r, rfl, rfl, hix, hsi, hown, hbw⟩ := hrel
  obtain ⟨wa, hwa⟩ : ∃ u, u = wr := ⟨_, rfl⟩
  subst hwa
  obtain ⟨B, d, rfl, hnd, -, hrd⟩ := own_rd hown
  have HO := zh hown; have HB := zh hbw; have HSI := zh hsi
  have hol := HLE.out _ _ _ hsi
  have hsz := hbw.size
  have hoI : (out.length : Int) ≤ 70 := by omega
  have HHS := zh (has_s B d out s wa hrd (by omega))
  obtain ⟨m, hm⟩ : ∃ m, m = out.length := ⟨_, rfl⟩
  rw [← hm] at HO HHS hol hoI hnd ⊢
  have HM := zh hm
  have HRT := zh (fun (u : World) (hu : Below wa.heap.size wa u) (e : out = L) => show (∃ A c, Ending.returned (.slice B m d) = .returned (.slice A L.length c) ∧ L.length ≤ c ∧ Rd u A (SX L)) ∧ Below w.heap.size w u from ⟨⟨B, d, by rw [← e, hm], by rw [← e, ← hm]; exact hnd, by rw [← e]; exact hrd.below hu⟩, HAL.out.trans ((hbw.mono HAL.out.size).trans (hu.mono (Nat.le_trans HAL.out.size hsz)))⟩)
  rcases idx_two hix with ⟨rfl, -, hf⟩ | ⟨k, y, rfl, hy, -, -, hf⟩
  ·have HRE := zh (HRT.out wa (Below.refl _ _) (hsi.none hf))
   clear hix hsi hown hbw hrd hm hf
   go_wp2
   go_ret
   exact HRE.out
  ·cases hh : out.contains s with
   | true =>
    rw [hh] at HHS
    have HRE := zh (fun u hu => HRT.out u hu (hsi.had hh))
    have hkI : ((k : Int) != -1) = true := by simp
    clear hix hsi hown hbw hrd hm hf hh hy
    go_wp2_with fail
    refine HHS.out.mono ?_
    rintro e w2 ⟨rfl, hb2⟩
    have HB2 := zh hb2
    clear hb2
    go_wp2
    go_ret
    exact HRE.out _ HB2.out
   | false =>
    rw [hh] at HHS
    have HNX := zh (hsi.next hf hh)
    have hkI : ((k : Int) != -1) = true := by simp
    have hkn : k < n := by rw [HN.out]; exact (List.getElem?_eq_some_iff.1 hy).1
    have hknI : (k : Int) < (n : Int) := by omega
    have HY := zh hy
    obtain ⟨a, rfl, -⟩ := cl_at (HRD.out _ hbw) hy
    clear hix hsi hown hbw hrd hm hf hh hy HRT
    go_wp2_with fail
    refine HHS.out.mono ?_
    rintro e w2 ⟨rfl, hb2⟩
    have HB2 := zh (HB.out.trans (hb2.mono hsz))
    have HO2 := zh (own_below HO.out hb2)
    have hs2 := HB2.out.size
    clear hb2
    go_wp2_with (at_builtin; refine wpList_app _ rfl (.tmp 21) (.tmp 23) _ rfl W.heap.size 9 i0 _ 1 16 Try.underlying23 hi0 hz0 hz1 hz2 rfl (by omega) _ m (SX out) rfl (HO2.out.alloc _) _ 1 1 [_] rfl rfl (rd_blk (heap_alloc_new w2 _) (k := 1) rfl) (by simp [Value.oneCell']) (by simp only [maxLen]; omega) (by omega) (by first | (simp; omega) | omega) ?_; intro v3 w3 hown3 hg3 hb3 hat3; clear hg3 hat3; have HB3 := zh ((HB2.out.alloc hs2 _).trans hb3); obtain ⟨y0, y1, y2, y3, y4⟩ := HCE.out _ HB3.out; obtain ⟨a', ea, ha, q0, q1, q2, q3, q4, q5, q6⟩ := cl_at (HRD.out _ HB3.out) HY.out; cases ea)
    have hown4 : w3.ownsRow W.heap.size 9 1 v3 (out ++ [s]).length (SX (out ++ [s])) := by rw [SX_app, List.length_append, ← HM.out]; exact hown3
    have HO4 := zh hown4
    have hl3 : lenV v3 = m + 1 := by
     obtain ⟨B', d', rfl, -, -, -⟩ := own_rd hown3
     rfl
    have HL3 := zh hl3
    obtain ⟨z0, z1, z2, z3, z4⟩ := HCE.out _ HB3.out
    clear y0 y1 y2 y3 y4 q0 q1 q2 q3 q4 q5 q6 hown3 hown4 hb3 hl3
    try go_wp2_with fail
    refine (HPL.out y.su w3 HB3.out).mono ?_
    rintro e w4 ⟨r4, rfl, hix4, hb4⟩
    have HX4 := zh hix4
    have HB4 := zh (HB3.out.trans (hb4.mono HB3.out.size))
    have HO5 := zh (own_below HO4.out hb4)
    clear hb4 hix4 z0 z1 z2 z3 z4
    go_wp2
    go_roundw
    case rel => exact ⟨y.su, out ++ [s], _, r4, rfl, rfl, HX4.out, HNX.out, HO5.out, HB4.out⟩
    case measure => first | (rw [HL3.out]; simp only [lenV]; omega) | (simp [lenV] at HL3 ⊢; omega)
end Go.Proofs.Ytdifmgeicnndfaa.prg

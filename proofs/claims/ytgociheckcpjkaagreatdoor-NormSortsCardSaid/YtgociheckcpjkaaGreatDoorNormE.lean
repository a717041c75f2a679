/- NormE -/
import Derived.Test.YtgociheckcpjkaaGreatDoorRef
import Derived.Sort.Walk0
import Derived.WalkKit
import Derived.WalkLawsBesides
import Derived.Deep.QuietTactic
import Derived.BigQuiet
import Derived.Deep.RegionHeld3
import Derived.IntWalk
namespace Go.Proofs.YtgociheckcpjkaaGreatDoor.prg
open Go.RowKit
open words kindp opp op kind word
set_option maxRecDepth 100000
set_option maxHeartbeats 8000000
set_option linter.all false
theorem cls_ww (c : Tx) (w : World) (hc : c.length ≤ 281474976710656) : Calls Tryz.prog 74 #[.string ⟨c.toArray⟩] w fun e w' => e = .returned (.bool (clsB c)) ∧ Below w.heap.size w w' := by
 have h := word.class_name ⟨c.toArray⟩ w (by rw [mk_len]; exact hc)
 rw [cls_eq] at h
 exact h.mono fun e w' ⟨h1, h2⟩ => ⟨h1, by first | exact h2 | (subst h2; exact Below.refl _ _)⟩
theorem name_ww (c : Tx) (w : World) (hc : c.length ≤ 281474976710656) : Calls Tryz.prog 112 #[.string ⟨c.toArray⟩] w fun e w' => e = .returned (.bool (nmL c)) ∧ Below w.heap.size w w' := by
 have h := word.name_w ⟨c.toArray⟩ w (by rw [mk_len]; exact hc)
 exact h.mono fun e w' ⟨h1, h2⟩ => ⟨h1, by first | exact h2 | (subst h2; exact Below.refl _ _)⟩
theorem e_empty {s : Tx} {b : Bool} (h : (s == []) = b) : List.isEmpty s = b := by cases s <;> simpa using h
theorem ne_of {s t : Tx} {b : Bool} (h : (s == t) = b) : (s != t) = !b := by rw [bne, h]
theorem member_w (s : Tx) (W : World) (hs : s.length ≤ 281474976710656) : Calls Tryz.prog 83 #[.string ⟨s.toArray⟩] W fun e w' => e = .returned (.bool (memberB s)) ∧ Below W.heap.size W w' := by
 have HN := hh (fun w => name_ww s w hs)
 have HAL := hh (Below.refl W.heap.size W)
 have K0 := hh (Below.refl W.heap.size W)
 unfold memberB initT
 generalize nmL s = bn at *
 clear hs
 go_enter Tryz.func83, Tryz.ntmps83
 go_wp2_with fail
 (try go_wp2_with fail)
 refine (HN.out _).mono ?_
 rintro e v1 ⟨rfl, hb⟩
 have K1 := hh (show Below W.heap.size W v1 from then' K0.out hb)
 clear hb
 cases h0 : bn with
 | false =>
  (try go_wp2_with fail)
  go_ret
  exact ⟨by first | rfl | (simp only [h0, bls]; done) | (simp only [h0, bls]; rfl), HAL.out.trans (K1.out.mono HAL.out.size)⟩
 | true =>
  cases h1 : (s == [60, 99, 108, 105, 110, 105, 116, 62]) with
  | false =>
   have g1 := ne_of h1
   (try go_wp2_with fail)
   go_ret
   exact ⟨by first | rfl | (simp only [h0, h1, bls]; done) | (simp only [h0, h1, bls]; rfl), HAL.out.trans (K1.out.mono HAL.out.size)⟩
  | true =>
   have g1 := ne_of h1
   (try go_wp2_with fail)
   go_ret
   exact ⟨by first | rfl | (simp only [h0, h1, bls]; done) | (simp only [h0, h1, bls]; rfl), HAL.out.trans (K1.out.mono HAL.out.size)⟩
theorem few_w (x : ClM) (w : World) : Calls Tryz.prog 39 #[.agg (clC x).toArray] w fun e w' => e = .returned (.bool (fewB x)) ∧ Below w.heap.size w w' := by
 obtain ⟨W, hW⟩ : ∃ W, W = w.alloc (.cells (clC x).toArray 35) := ⟨_, rfl⟩
 have hal : Below w.heap.size w W := by rw [hW]; exact (Below.refl _ w).alloc (Nat.le_refl _) _
 have HAL := hh hal
 have hblk : W.heap[w.heap.size]? = some (.cells (clC x).toArray 35 (0, 0)) := by rw [hW]; exact heap_alloc_new w _
 have HBK := hh hblk; have HLT := hh (blk_lt hblk)
 obtain ⟨x0_0, x0_1, x0_2, x0_3, x0_4, x0_5, x0_6⟩ := cl_cells hblk
 have K0 := hh (Below.refl W.heap.size W)
 unfold fewB
 obtain ⟨n1, hn1⟩ : ∃ n, n = x.is.length := ⟨_, rfl⟩
 obtain ⟨n2, hn2⟩ : ∃ n, n = x.fs.length := ⟨_, rfl⟩
 obtain ⟨n3, hn3⟩ : ∃ n, n = x.ms.length := ⟨_, rfl⟩
 rw [← hn1] at x0_4 ⊢
 rw [← hn2] at x0_5 ⊢
 rw [← hn3] at x0_6 ⊢
 unfold clC at hW ⊢
 rw [← hn1, ← hn2, ← hn3] at hW ⊢
 try dsimp only at hW ⊢
 have HW := hh hW
 clear hal hblk hW hn1 hn2 hn3
 cases h0 : decide (n1 ≤ 8) with
 | false =>
  have gn1 : ¬ ((n1 : Nat) : Int) ≤ 8 := by have := of_decide_eq_false h0; omega
  go_enter Tryz.func39, Tryz.ntmps39
  go_wp2_with fail
  rw [← HW.out]
  (try go_wp2_with fail)
  go_ret
  exact ⟨by first | rfl | (simp only [h0, bls]; done) | (simp only [h0, bls]; rfl), HAL.out.trans (K0.out.mono HAL.out.size)⟩
 | true =>
  have gn1 : ((n1 : Nat) : Int) ≤ 8 := by have := of_decide_eq_true h0; omega
  cases h1 : decide (n2 ≤ 32) with
  | false =>
   have gn2 : ¬ ((n2 : Nat) : Int) ≤ 32 := by have := of_decide_eq_false h1; omega
   go_enter Tryz.func39, Tryz.ntmps39
   go_wp2_with fail
   rw [← HW.out]
   (try go_wp2_with fail)
   go_ret
   exact ⟨by first | rfl | (simp only [h0, h1, bls]; done) | (simp only [h0, h1, bls]; rfl), HAL.out.trans (K0.out.mono HAL.out.size)⟩
  | true =>
   have gn2 : ((n2 : Nat) : Int) ≤ 32 := by have := of_decide_eq_true h1; omega
   cases h2 : decide (n3 ≤ 32) with
   | false =>
    have gn3 : ¬ ((n3 : Nat) : Int) ≤ 32 := by have := of_decide_eq_false h2; omega
    go_enter Tryz.func39, Tryz.ntmps39
    go_wp2_with fail
    rw [← HW.out]
    (try go_wp2_with fail)
    go_ret
    exact ⟨by first | rfl | (simp only [h0, h1, h2, bls]; done) | (simp only [h0, h1, h2, bls]; rfl), HAL.out.trans (K0.out.mono HAL.out.size)⟩
   | true =>
    have gn3 : ((n3 : Nat) : Int) ≤ 32 := by have := of_decide_eq_true h2; omega
    go_enter Tryz.func39, Tryz.ntmps39
    go_wp2_with fail
    rw [← HW.out]
    (try go_wp2_with fail)
    go_ret
    exact ⟨by first | rfl | (simp only [h0, h1, h2, bls]; done) | (simp only [h0, h1, h2, bls]; rfl), HAL.out.trans (K0.out.mono HAL.out.size)⟩
theorem super_w (x : ClM) (w : World) (hs : x.su.length ≤ 281474976710656) : Calls Tryz.prog 75 #[.agg (clC x).toArray] w fun e w' => e = .returned (.bool (superB x)) ∧ Below w.heap.size w w' := by
 obtain ⟨W, hW⟩ : ∃ W, W = w.alloc (.cells (clC x).toArray 35) := ⟨_, rfl⟩
 have hal : Below w.heap.size w W := by rw [hW]; exact (Below.refl _ w).alloc (Nat.le_refl _) _
 have HAL := hh hal
 have hblk : W.heap[w.heap.size]? = some (.cells (clC x).toArray 35 (0, 0)) := by rw [hW]; exact heap_alloc_new w _
 have HBK := hh hblk; have HLT := hh (blk_lt hblk)
 obtain ⟨x0_0, x0_1, x0_2, x0_3, x0_4, x0_5, x0_6⟩ := cl_cells hblk
 have K0 := hh (Below.refl W.heap.size W)
 have HC := hh (fun w => cls_ww x.su w hs)
 unfold superB
 generalize clsB x.su = bs at *
 unfold clC at hW ⊢
 try dsimp only at hW ⊢
 have HW := hh hW
 clear hal hblk hW hs
 cases h0 : (x.su == []) with
 | false =>
  have g1 := e_empty h0
  cases h1 : (x.su == x.nm) with
  | false =>
   have g2 := ne_of h1
   go_enter Tryz.func75, Tryz.ntmps75
   go_wp2_with fail
   rw [← HW.out]
   (try go_wp2_with fail)
   refine (HC.out _).mono ?_
   rintro e v1 ⟨rfl, hb⟩
   have K1 := hh (show Below W.heap.size W v1 from then' K0.out hb)
   obtain ⟨x1_0, x1_1, x1_2, x1_3, x1_4, x1_5, x1_6⟩ := cl_cells ((K1.out.block _ HLT.out).trans HBK.out)
   clear hb x0_0 x0_1 x0_2 x0_3 x0_4 x0_5 x0_6
   cases h2 : bs with
   | false =>
    (try go_wp2_with fail)
    go_ret
    exact ⟨by first | rfl | (simp only [h0, h1, h2, bls]; done) | (simp only [h0, h1, h2, bls]; rfl), HAL.out.trans (K1.out.mono HAL.out.size)⟩
   | true =>
    (try go_wp2_with fail)
    go_ret
    exact ⟨by first | rfl | (simp only [h0, h1, h2, bls]; done) | (simp only [h0, h1, h2, bls]; rfl), HAL.out.trans (K1.out.mono HAL.out.size)⟩
  | true =>
   have g2 := ne_of h1
   go_enter Tryz.func75, Tryz.ntmps75
   go_wp2_with fail
   rw [← HW.out]
   (try go_wp2_with fail)
   go_ret
   exact ⟨by first | rfl | (simp only [h0, h1, bls]; done) | (simp only [h0, h1, bls]; rfl), HAL.out.trans (K0.out.mono HAL.out.size)⟩
 | true =>
  have g1 := e_empty h0
  go_enter Tryz.func75, Tryz.ntmps75
  go_wp2_with fail
  rw [← HW.out]
  (try go_wp2_with fail)
  go_ret
  exact ⟨by first | rfl | (simp only [h0, bls]; done) | (simp only [h0, bls]; rfl), HAL.out.trans (K0.out.mono HAL.out.size)⟩
theorem field_w (x : FiM) (w : World) (hn : x.nm.length ≤ 281474976710656) (hc : x.cl.length ≤ 281474976710656) : Calls Tryz.prog 78 #[.agg (fiC x).toArray] w fun e w' => e = .returned (.bool (fieldB x)) ∧ Below w.heap.size w w' := by
 obtain ⟨W, hW⟩ : ∃ W, W = w.alloc (.cells (fiC x).toArray 58) := ⟨_, rfl⟩
 have hal : Below w.heap.size w W := by rw [hW]; exact (Below.refl _ w).alloc (Nat.le_refl _) _
 have HAL := hh hal
 have hblk : W.heap[w.heap.size]? = some (.cells (fiC x).toArray 58 (0, 0)) := by rw [hW]; exact heap_alloc_new w _
 have HBK := hh hblk; have HLT := hh (blk_lt hblk)
 obtain ⟨x0_0, x0_1, x0_2, x0_3⟩ := fi_cells hblk
 have K0 := hh (Below.refl W.heap.size W)
 have HM := hh (fun w => member_w x.nm w hn)
 have HR := hh (fun w => kind.right_w x.k x.cl w hc)
 unfold fieldB
 generalize memberB x.nm = bm at *
 generalize rightT (x.k, x.cl) = br at *
 unfold fiC at hW ⊢
 try dsimp only at hW ⊢
 have HW := hh hW
 clear hal hblk hW hn hc
 go_enter Tryz.func78, Tryz.ntmps78
 go_wp2_with fail
 rw [← HW.out]
 (try go_wp2_with fail)
 refine (HM.out _).mono ?_
 rintro e v1 ⟨rfl, hb⟩
 have K1 := hh (show Below W.heap.size W v1 from then' K0.out hb)
 obtain ⟨x1_0, x1_1, x1_2, x1_3⟩ := fi_cells ((K1.out.block _ HLT.out).trans HBK.out)
 clear hb x0_0 x0_1 x0_2 x0_3
 cases h0 : bm with
 | false =>
  (try go_wp2_with fail)
  go_ret
  exact ⟨by first | rfl | (simp only [h0, bls]; done) | (simp only [h0, bls]; rfl), HAL.out.trans (K1.out.mono HAL.out.size)⟩
 | true =>
  go_wp2_with fail
  refine (HR.out _).mono ?_
  rintro e v2 ⟨rfl, hb⟩
  have K2 := hh (show Below W.heap.size W v2 from then' K1.out hb)
  obtain ⟨x2_0, x2_1, x2_2, x2_3⟩ := fi_cells ((K2.out.block _ HLT.out).trans HBK.out)
  clear hb x1_0 x1_1 x1_2 x1_3
  cases h1 : br with
  | false =>
   (try go_wp2_with fail)
   go_ret
   exact ⟨by first | rfl | (simp only [h0, h1, bls]; done) | (simp only [h0, h1, bls]; rfl), HAL.out.trans (K2.out.mono HAL.out.size)⟩
  | true =>
   cases h2 : (x.k == 1) with
   | false =>
    have g2 : (x.k != 1) = true := by rw [bne, h2]; rfl
    (try go_wp2_with fail)
    go_ret
    exact ⟨by first | rfl | (simp only [h0, h1, h2, bls]; done) | (simp only [h0, h1, h2, bls]; rfl), HAL.out.trans (K2.out.mono HAL.out.size)⟩
   | true =>
    have g2 : (x.k != 1) = false := by rw [bne, h2]; rfl
    (try go_wp2_with fail)
    go_ret
    exact ⟨by first | rfl | (simp only [h0, h1, h2, bls]; done) | (simp only [h0, h1, h2, bls]; rfl), HAL.out.trans (K2.out.mono HAL.out.size)⟩
end Go.Proofs.YtgociheckcpjkaaGreatDoor.prg
namespace Go.Proofs.YtgociheckcpjkaaGreatDoor.prg
open Go.RowKit
open words kindp opp op kind word
set_option maxRecDepth 100000
set_option maxHeartbeats 8000000
set_option linter.all false
theorem all_few (A : Option Addr) (c : Nat) (l : List ClM) (P : ClM → Bool) (w : World) (hr : Rd w A (l.flatMap clC)) (hl : l.length ≤ 281474976710656)
  (HP : ∀ x ∈ l, ∀ v : World, Below w.heap.size w v → Calls Tryz.prog 39 #[.agg (clC x).toArray] v fun e w' => e = .returned (.bool (P x)) ∧ Below v.heap.size v w') :
  Calls Tryz.prog 32 #[.slice A l.length c, .func (.func 39) #[] #[]] w fun e w' => e = .returned (.bool (l.all P)) ∧ Below w.heap.size w w' := by
 obtain ⟨R, hR⟩ : ∃ R, R = l.all P := ⟨_, rfl⟩
 rw [← hR]
 have HF := hh (show (∃ x ∈ l, P x = false) → R = false from fun ⟨x, hx, h⟩ => by rw [hR, List.all_eq_false]; exact ⟨x, hx, by rw [h]; simp⟩)
 have HT := hh (show (∀ x ∈ l, P x = true) → R = true from fun h => by rw [hR]; exact List.all_eq_true.2 h)
 obtain ⟨n, hn⟩ : ∃ n, n = l.length := ⟨_, rfl⟩
 rw [← hn] at hl ⊢
 have hnI : (n : Int) ≤ 281474976710656 := by omega
 have HN := hh hn; have HRD := hh hr; have HPP := hh HP
 clear hr hn hl hR HP
 go_enter Tryz.func32, Tryz.ntmps32
 go_wp2
 go_loopw [9] (fun i wr => ∃ k : Nat, i = .int .i64 (k : Int) ∧ k ≤ n ∧ (∀ t ∈ l.take k, (!P t) = false) ∧ Below w.heap.size w wr) (fun i _ => n - (intOf i).toNat)
 case atStart => exact ⟨0, rfl, Nat.zero_le _, by simp, Below.refl _ _⟩
 case round =>
  obtain ⟨k, rfl, hk, hall, hbw⟩ := hrel
  have HA := hh hall; have HB := hh hbw
  clear hall
  by_cases hlt : k < n
  ·have hltI : (k : Int) < (n : Int) := by omega
   obtain ⟨x, hx⟩ : ∃ x, l[k]? = some x := ⟨l[k]'(by rw [← HN.out]; exact hlt), List.getElem?_eq_getElem _⟩
   obtain ⟨a, rfl, ha, c0, c1, c2, c3, c4, c5, c6⟩ := cl_at (HRD.out.below hbw) hx
   have hmem := List.mem_of_getElem? hx
   have hal := hbw.alloc hbw.size (.cells (clC x).toArray 35)
   have HCL := hh (HPP.out x hmem _ hal)
   have HAL := hh hal
   have hmt := take_more (P := fun t => !P t) HA.out hx
   dsimp only [clC] at HCL HAL
   cases hp : P x with
   | false =>
    have HRF := hh (HF.out ⟨x, hmem, hp⟩)
    rw [hp] at HCL
    clear hx hmem hmt hp hbw ha hal
    go_wp2_with fail
    refine HCL.out.mono ?_
    rintro e w1 ⟨rfl, hb1⟩
    have HB1 := hh (HAL.out.trans (hb1.mono HAL.out.size))
    clear hb1
    go_wp2
    go_ret
    exact ⟨by rw [HRF.out]; rfl, HB1.out⟩
   | true =>
    have HM := hh (hmt (by simp [hp]))
    rw [hp] at HCL
    clear hx hmem hmt hp hbw ha hal
    go_wp2_with fail
    refine HCL.out.mono ?_
    rintro e w1 ⟨rfl, hb1⟩
    have HB1 := hh (HAL.out.trans (hb1.mono HAL.out.size))
    clear hb1
    go_wp2
    go_roundw
    case rel => exact ⟨k + 1, by go_num, by omega, HM.out, HB1.out⟩
    case measure => simp [intOf]; omega
  ·have hltI : ¬ (k : Int) < (n : Int) := by omega
   have hall := HA.out
   rw [List.take_of_length_le (by rw [← HN.out]; omega)] at hall
   have HRT := hh (HT.out (fun x hx => by have := hall x hx; simpa using this))
   clear hall hbw
   go_wp2
   go_ret
   exact ⟨by rw [HRT.out]; rfl, HB.out⟩
theorem all_class (A : Option Addr) (c : Nat) (l : List ClM) (P : ClM → Bool) (w : World) (hr : Rd w A (l.flatMap clC)) (hl : l.length ≤ 281474976710656)
  (HP : ∀ x ∈ l, ∀ v : World, Below w.heap.size w v → Calls Tryz.prog 40 #[.agg (clC x).toArray] v fun e w' => e = .returned (.bool (P x)) ∧ Below v.heap.size v w') :
  Calls Tryz.prog 32 #[.slice A l.length c, .func (.func 40) #[] #[]] w fun e w' => e = .returned (.bool (l.all P)) ∧ Below w.heap.size w w' := by
 obtain ⟨R, hR⟩ : ∃ R, R = l.all P := ⟨_, rfl⟩
 rw [← hR]
 have HF := hh (show (∃ x ∈ l, P x = false) → R = false from fun ⟨x, hx, h⟩ => by rw [hR, List.all_eq_false]; exact ⟨x, hx, by rw [h]; simp⟩)
 have HT := hh (show (∀ x ∈ l, P x = true) → R = true from fun h => by rw [hR]; exact List.all_eq_true.2 h)
 obtain ⟨n, hn⟩ : ∃ n, n = l.length := ⟨_, rfl⟩
 rw [← hn] at hl ⊢
 have hnI : (n : Int) ≤ 281474976710656 := by omega
 have HN := hh hn; have HRD := hh hr; have HPP := hh HP
 clear hr hn hl hR HP
 go_enter Tryz.func32, Tryz.ntmps32
 go_wp2
 go_loopw [9] (fun i wr => ∃ k : Nat, i = .int .i64 (k : Int) ∧ k ≤ n ∧ (∀ t ∈ l.take k, (!P t) = false) ∧ Below w.heap.size w wr) (fun i _ => n - (intOf i).toNat)
 case atStart => exact ⟨0, rfl, Nat.zero_le _, by simp, Below.refl _ _⟩
 case round =>
  obtain ⟨k, rfl, hk, hall, hbw⟩ := hrel
  have HA := hh hall; have HB := hh hbw
  clear hall
  by_cases hlt : k < n
  ·have hltI : (k : Int) < (n : Int) := by omega
   obtain ⟨x, hx⟩ : ∃ x, l[k]? = some x := ⟨l[k]'(by rw [← HN.out]; exact hlt), List.getElem?_eq_getElem _⟩
   obtain ⟨a, rfl, ha, c0, c1, c2, c3, c4, c5, c6⟩ := cl_at (HRD.out.below hbw) hx
   have hmem := List.mem_of_getElem? hx
   have hal := hbw.alloc hbw.size (.cells (clC x).toArray 35)
   have HCL := hh (HPP.out x hmem _ hal)
   have HAL := hh hal
   have hmt := take_more (P := fun t => !P t) HA.out hx
   dsimp only [clC] at HCL HAL
   cases hp : P x with
   | false =>
    have HRF := hh (HF.out ⟨x, hmem, hp⟩)
    rw [hp] at HCL
    clear hx hmem hmt hp hbw ha hal
    go_wp2_with fail
    refine HCL.out.mono ?_
    rintro e w1 ⟨rfl, hb1⟩
    have HB1 := hh (HAL.out.trans (hb1.mono HAL.out.size))
    clear hb1
    go_wp2
    go_ret
    exact ⟨by rw [HRF.out]; rfl, HB1.out⟩
   | true =>
    have HM := hh (hmt (by simp [hp]))
    rw [hp] at HCL
    clear hx hmem hmt hp hbw ha hal
    go_wp2_with fail
    refine HCL.out.mono ?_
    rintro e w1 ⟨rfl, hb1⟩
    have HB1 := hh (HAL.out.trans (hb1.mono HAL.out.size))
    clear hb1
    go_wp2
    go_roundw
    case rel => exact ⟨k + 1, by go_num, by omega, HM.out, HB1.out⟩
    case measure => simp [intOf]; omega
  ·have hltI : ¬ (k : Int) < (n : Int) := by omega
   have hall := HA.out
   rw [List.take_of_length_le (by rw [← HN.out]; omega)] at hall
   have HRT := hh (HT.out (fun x hx => by have := hall x hx; simpa using this))
   clear hall hbw
   go_wp2
   go_ret
   exact ⟨by rw [HRT.out]; rfl, HB.out⟩
theorem all_order (A : Option Addr) (c : Nat) (l : List ClM) (P : ClM → Bool) (w : World) (hr : Rd w A (l.flatMap clC)) (hl : l.length ≤ 281474976710656)
  (HP : ∀ x ∈ l, ∀ v : World, Below w.heap.size w v → Calls Tryz.prog 33 #[.agg (clC x).toArray] v fun e w' => e = .returned (.bool (P x)) ∧ Below v.heap.size v w') :
  Calls Tryz.prog 32 #[.slice A l.length c, .func (.func 33) #[] #[]] w fun e w' => e = .returned (.bool (l.all P)) ∧ Below w.heap.size w w' := by
 obtain ⟨R, hR⟩ : ∃ R, R = l.all P := ⟨_, rfl⟩
 rw [← hR]
 have HF := hh (show (∃ x ∈ l, P x = false) → R = false from fun ⟨x, hx, h⟩ => by rw [hR, List.all_eq_false]; exact ⟨x, hx, by rw [h]; simp⟩)
 have HT := hh (show (∀ x ∈ l, P x = true) → R = true from fun h => by rw [hR]; exact List.all_eq_true.2 h)
 obtain ⟨n, hn⟩ : ∃ n, n = l.length := ⟨_, rfl⟩
 rw [← hn] at hl ⊢
 have hnI : (n : Int) ≤ 281474976710656 := by omega
 have HN := hh hn; have HRD := hh hr; have HPP := hh HP
 clear hr hn hl hR HP
 go_enter Tryz.func32, Tryz.ntmps32
 go_wp2
 go_loopw [9] (fun i wr => ∃ k : Nat, i = .int .i64 (k : Int) ∧ k ≤ n ∧ (∀ t ∈ l.take k, (!P t) = false) ∧ Below w.heap.size w wr) (fun i _ => n - (intOf i).toNat)
 case atStart => exact ⟨0, rfl, Nat.zero_le _, by simp, Below.refl _ _⟩
 case round =>
  obtain ⟨k, rfl, hk, hall, hbw⟩ := hrel
  have HA := hh hall; have HB := hh hbw
  clear hall
  by_cases hlt : k < n
  ·have hltI : (k : Int) < (n : Int) := by omega
   obtain ⟨x, hx⟩ : ∃ x, l[k]? = some x := ⟨l[k]'(by rw [← HN.out]; exact hlt), List.getElem?_eq_getElem _⟩
   obtain ⟨a, rfl, ha, c0, c1, c2, c3, c4, c5, c6⟩ := cl_at (HRD.out.below hbw) hx
   have hmem := List.mem_of_getElem? hx
   have hal := hbw.alloc hbw.size (.cells (clC x).toArray 35)
   have HCL := hh (HPP.out x hmem _ hal)
   have HAL := hh hal
   have hmt := take_more (P := fun t => !P t) HA.out hx
   dsimp only [clC] at HCL HAL
   cases hp : P x with
   | false =>
    have HRF := hh (HF.out ⟨x, hmem, hp⟩)
    rw [hp] at HCL
    clear hx hmem hmt hp hbw ha hal
    go_wp2_with fail
    refine HCL.out.mono ?_
    rintro e w1 ⟨rfl, hb1⟩
    have HB1 := hh (HAL.out.trans (hb1.mono HAL.out.size))
    clear hb1
    go_wp2
    go_ret
    exact ⟨by rw [HRF.out]; rfl, HB1.out⟩
   | true =>
    have HM := hh (hmt (by simp [hp]))
    rw [hp] at HCL
    clear hx hmem hmt hp hbw ha hal
    go_wp2_with fail
    refine HCL.out.mono ?_
    rintro e w1 ⟨rfl, hb1⟩
    have HB1 := hh (HAL.out.trans (hb1.mono HAL.out.size))
    clear hb1
    go_wp2
    go_roundw
    case rel => exact ⟨k + 1, by go_num, by omega, HM.out, HB1.out⟩
    case measure => simp [intOf]; omega
  ·have hltI : ¬ (k : Int) < (n : Int) := by omega
   have hall := HA.out
   rw [List.take_of_length_le (by rw [← HN.out]; omega)] at hall
   have HRT := hh (HT.out (fun x hx => by have := hall x hx; simpa using this))
   clear hall hbw
   go_wp2
   go_ret
   exact ⟨by rw [HRT.out]; rfl, HB.out⟩
theorem all_field (A : Option Addr) (c : Nat) (l : List FiM) (P : FiM → Bool) (w : World) (hr : Rd w A (l.flatMap fiC)) (hl : l.length ≤ 281474976710656)
  (HP : ∀ x ∈ l, ∀ v : World, Below w.heap.size w v → Calls Tryz.prog 78 #[.agg (fiC x).toArray] v fun e w' => e = .returned (.bool (P x)) ∧ Below v.heap.size v w') :
  Calls Tryz.prog 77 #[.slice A l.length c, .func (.func 78) #[] #[]] w fun e w' => e = .returned (.bool (l.all P)) ∧ Below w.heap.size w w' := by
 obtain ⟨R, hR⟩ : ∃ R, R = l.all P := ⟨_, rfl⟩
 rw [← hR]
 have HF := hh (show (∃ x ∈ l, P x = false) → R = false from fun ⟨x, hx, h⟩ => by rw [hR, List.all_eq_false]; exact ⟨x, hx, by rw [h]; simp⟩)
 have HT := hh (show (∀ x ∈ l, P x = true) → R = true from fun h => by rw [hR]; exact List.all_eq_true.2 h)
 obtain ⟨n, hn⟩ : ∃ n, n = l.length := ⟨_, rfl⟩
 rw [← hn] at hl ⊢
 have hnI : (n : Int) ≤ 281474976710656 := by omega
 have HN := hh hn; have HRD := hh hr; have HPP := hh HP
 clear hr hn hl hR HP
 go_enter Tryz.func77, Tryz.ntmps77
 go_wp2
 go_loopw [9] (fun i wr => ∃ k : Nat, i = .int .i64 (k : Int) ∧ k ≤ n ∧ (∀ t ∈ l.take k, (!P t) = false) ∧ Below w.heap.size w wr) (fun i _ => n - (intOf i).toNat)
 case atStart => exact ⟨0, rfl, Nat.zero_le _, by simp, Below.refl _ _⟩
 case round =>
  obtain ⟨k, rfl, hk, hall, hbw⟩ := hrel
  have HA := hh hall; have HB := hh hbw
  clear hall
  by_cases hlt : k < n
  ·have hltI : (k : Int) < (n : Int) := by omega
   obtain ⟨x, hx⟩ : ∃ x, l[k]? = some x := ⟨l[k]'(by rw [← HN.out]; exact hlt), List.getElem?_eq_getElem _⟩
   obtain ⟨a, rfl, ha, c0, c1, c2, c3⟩ := fi_at (HRD.out.below hbw) hx
   have hmem := List.mem_of_getElem? hx
   have hal := hbw.alloc hbw.size (.cells (fiC x).toArray 58)
   have HCL := hh (HPP.out x hmem _ hal)
   have HAL := hh hal
   have hmt := take_more (P := fun t => !P t) HA.out hx
   dsimp only [fiC] at HCL HAL
   cases hp : P x with
   | false =>
    have HRF := hh (HF.out ⟨x, hmem, hp⟩)
    rw [hp] at HCL
    clear hx hmem hmt hp hbw ha hal
    go_wp2_with fail
    refine HCL.out.mono ?_
    rintro e w1 ⟨rfl, hb1⟩
    have HB1 := hh (HAL.out.trans (hb1.mono HAL.out.size))
    clear hb1
    go_wp2
    go_ret
    exact ⟨by rw [HRF.out]; rfl, HB1.out⟩
   | true =>
    have HM := hh (hmt (by simp [hp]))
    rw [hp] at HCL
    clear hx hmem hmt hp hbw ha hal
    go_wp2_with fail
    refine HCL.out.mono ?_
    rintro e w1 ⟨rfl, hb1⟩
    have HB1 := hh (HAL.out.trans (hb1.mono HAL.out.size))
    clear hb1
    go_wp2
    go_roundw
    case rel => exact ⟨k + 1, by go_num, by omega, HM.out, HB1.out⟩
    case measure => simp [intOf]; omega
  ·have hltI : ¬ (k : Int) < (n : Int) := by omega
   have hall := HA.out
   rw [List.take_of_length_le (by rw [← HN.out]; omega)] at hall
   have HRT := hh (HT.out (fun x hx => by have := hall x hx; simpa using this))
   clear hall hbw
   go_wp2
   go_ret
   exact ⟨by rw [HRT.out]; rfl, HB.out⟩
theorem all_method (A : Option Addr) (c : Nat) (l : List MeM) (P : MeM → Bool) (w : World) (hr : Rd w A (l.flatMap meC)) (hl : l.length ≤ 281474976710656)
  (HP : ∀ x ∈ l, ∀ v : World, Below w.heap.size w v → Calls Tryz.prog 80 #[.agg (meC x).toArray] v fun e w' => e = .returned (.bool (P x)) ∧ Below v.heap.size v w') :
  Calls Tryz.prog 79 #[.slice A l.length c, .func (.func 80) #[] #[]] w fun e w' => e = .returned (.bool (l.all P)) ∧ Below w.heap.size w w' := by
 obtain ⟨R, hR⟩ : ∃ R, R = l.all P := ⟨_, rfl⟩
 rw [← hR]
 have HF := hh (show (∃ x ∈ l, P x = false) → R = false from fun ⟨x, hx, h⟩ => by rw [hR, List.all_eq_false]; exact ⟨x, hx, by rw [h]; simp⟩)
 have HT := hh (show (∀ x ∈ l, P x = true) → R = true from fun h => by rw [hR]; exact List.all_eq_true.2 h)
 obtain ⟨n, hn⟩ : ∃ n, n = l.length := ⟨_, rfl⟩
 rw [← hn] at hl ⊢
 have hnI : (n : Int) ≤ 281474976710656 := by omega
 have HN := hh hn; have HRD := hh hr; have HPP := hh HP
 clear hr hn hl hR HP
 go_enter Tryz.func79, Tryz.ntmps79
 go_wp2
 go_loopw [9] (fun i wr => ∃ k : Nat, i = .int .i64 (k : Int) ∧ k ≤ n ∧ (∀ t ∈ l.take k, (!P t) = false) ∧ Below w.heap.size w wr) (fun i _ => n - (intOf i).toNat)
 case atStart => exact ⟨0, rfl, Nat.zero_le _, by simp, Below.refl _ _⟩
 case round =>
  obtain ⟨k, rfl, hk, hall, hbw⟩ := hrel
  have HA := hh hall; have HB := hh hbw
  clear hall
  by_cases hlt : k < n
  ·have hltI : (k : Int) < (n : Int) := by omega
   obtain ⟨x, hx⟩ : ∃ x, l[k]? = some x := ⟨l[k]'(by rw [← HN.out]; exact hlt), List.getElem?_eq_getElem _⟩
   obtain ⟨a, rfl, ha, c0, c1, c2, c3, c4, c5⟩ := me_at (HRD.out.below hbw) hx
   have hmem := List.mem_of_getElem? hx
   have hal := hbw.alloc hbw.size (.cells (meC x).toArray 38)
   have HCL := hh (HPP.out x hmem _ hal)
   have HAL := hh hal
   have hmt := take_more (P := fun t => !P t) HA.out hx
   dsimp only [meC] at HCL HAL
   cases hp : P x with
   | false =>
    have HRF := hh (HF.out ⟨x, hmem, hp⟩)
    rw [hp] at HCL
    clear hx hmem hmt hp hbw ha hal
    go_wp2_with fail
    refine HCL.out.mono ?_
    rintro e w1 ⟨rfl, hb1⟩
    have HB1 := hh (HAL.out.trans (hb1.mono HAL.out.size))
    clear hb1
    go_wp2
    go_ret
    exact ⟨by rw [HRF.out]; rfl, HB1.out⟩
   | true =>
    have HM := hh (hmt (by simp [hp]))
    rw [hp] at HCL
    clear hx hmem hmt hp hbw ha hal
    go_wp2_with fail
    refine HCL.out.mono ?_
    rintro e w1 ⟨rfl, hb1⟩
    have HB1 := hh (HAL.out.trans (hb1.mono HAL.out.size))
    clear hb1
    go_wp2
    go_roundw
    case rel => exact ⟨k + 1, by go_num, by omega, HM.out, HB1.out⟩
    case measure => simp [intOf]; omega
  ·have hltI : ¬ (k : Int) < (n : Int) := by omega
   have hall := HA.out
   rw [List.take_of_length_le (by rw [← HN.out]; omega)] at hall
   have HRT := hh (HT.out (fun x hx => by have := hall x hx; simpa using this))
   clear hall hbw
   go_wp2
   go_ret
   exact ⟨by rw [HRT.out]; rfl, HB.out⟩
theorem all_abs (A : Option Addr) (c : Nat) (l : List MeM) (P : MeM → Bool) (w : World) (hr : Rd w A (l.flatMap meC)) (hl : l.length ≤ 281474976710656)
  (HP : ∀ x ∈ l, ∀ v : World, Below w.heap.size w v → Calls Tryz.prog 82 #[.agg (meC x).toArray] v fun e w' => e = .returned (.bool (P x)) ∧ Below v.heap.size v w') :
  Calls Tryz.prog 79 #[.slice A l.length c, .func (.func 82) #[] #[]] w fun e w' => e = .returned (.bool (l.all P)) ∧ Below w.heap.size w w' := by
 obtain ⟨R, hR⟩ : ∃ R, R = l.all P := ⟨_, rfl⟩
 rw [← hR]
 have HF := hh (show (∃ x ∈ l, P x = false) → R = false from fun ⟨x, hx, h⟩ => by rw [hR, List.all_eq_false]; exact ⟨x, hx, by rw [h]; simp⟩)
 have HT := hh (show (∀ x ∈ l, P x = true) → R = true from fun h => by rw [hR]; exact List.all_eq_true.2 h)
 obtain ⟨n, hn⟩ : ∃ n, n = l.length := ⟨_, rfl⟩
 rw [← hn] at hl ⊢
 have hnI : (n : Int) ≤ 281474976710656 := by omega
 have HN := hh hn; have HRD := hh hr; have HPP := hh HP
 clear hr hn hl hR HP
 go_enter Tryz.func79, Tryz.ntmps79
 go_wp2
 go_loopw [9] (fun i wr => ∃ k : Nat, i = .int .i64 (k : Int) ∧ k ≤ n ∧ (∀ t ∈ l.take k, (!P t) = false) ∧ Below w.heap.size w wr) (fun i _ => n - (intOf i).toNat)
 case atStart => exact ⟨0, rfl, Nat.zero_le _, by simp, Below.refl _ _⟩
 case round =>
  obtain ⟨k, rfl, hk, hall, hbw⟩ := hrel
  have HA := hh hall; have HB := hh hbw
  clear hall
  by_cases hlt : k < n
  ·have hltI : (k : Int) < (n : Int) := by omega
   obtain ⟨x, hx⟩ : ∃ x, l[k]? = some x := ⟨l[k]'(by rw [← HN.out]; exact hlt), List.getElem?_eq_getElem _⟩
   obtain ⟨a, rfl, ha, c0, c1, c2, c3, c4, c5⟩ := me_at (HRD.out.below hbw) hx
   have hmem := List.mem_of_getElem? hx
   have hal := hbw.alloc hbw.size (.cells (meC x).toArray 38)
   have HCL := hh (HPP.out x hmem _ hal)
   have HAL := hh hal
   have hmt := take_more (P := fun t => !P t) HA.out hx
   dsimp only [meC] at HCL HAL
   cases hp : P x with
   | false =>
    have HRF := hh (HF.out ⟨x, hmem, hp⟩)
    rw [hp] at HCL
    clear hx hmem hmt hp hbw ha hal
    go_wp2_with fail
    refine HCL.out.mono ?_
    rintro e w1 ⟨rfl, hb1⟩
    have HB1 := hh (HAL.out.trans (hb1.mono HAL.out.size))
    clear hb1
    go_wp2
    go_ret
    exact ⟨by rw [HRF.out]; rfl, HB1.out⟩
   | true =>
    have HM := hh (hmt (by simp [hp]))
    rw [hp] at HCL
    clear hx hmem hmt hp hbw ha hal
    go_wp2_with fail
    refine HCL.out.mono ?_
    rintro e w1 ⟨rfl, hb1⟩
    have HB1 := hh (HAL.out.trans (hb1.mono HAL.out.size))
    clear hb1
    go_wp2
    go_roundw
    case rel => exact ⟨k + 1, by go_num, by omega, HM.out, HB1.out⟩
    case measure => simp [intOf]; omega
  ·have hltI : ¬ (k : Int) < (n : Int) := by omega
   have hall := HA.out
   rw [List.take_of_length_le (by rw [← HN.out]; omega)] at hall
   have HRT := hh (HT.out (fun x hx => by have := hall x hx; simpa using this))
   clear hall hbw
   go_wp2
   go_ret
   exact ⟨by rw [HRT.out]; rfl, HB.out⟩
end Go.Proofs.YtgociheckcpjkaaGreatDoor.prg
namespace Go.Proofs.YtgociheckcpjkaaGreatDoor.prg
open Go.RowKit
open words kindp opp op kind word
set_option maxRecDepth 100000
set_option maxHeartbeats 8000000
set_option linter.all false
theorem abs_w (x : MeM) (w : World) : Calls Tryz.prog 82 #[.agg (meC x).toArray] w fun e w' => e = .returned (.bool x.ab) ∧ Below w.heap.size w w' := by
 obtain ⟨W, hW⟩ : ∃ W, W = w.alloc (.cells (meC x).toArray 38) := ⟨_, rfl⟩
 have hal : Below w.heap.size w W := by rw [hW]; exact (Below.refl _ w).alloc (Nat.le_refl _) _
 have HAL := hh hal
 have hblk : W.heap[w.heap.size]? = some (.cells (meC x).toArray 38 (0, 0)) := by rw [hW]; exact heap_alloc_new w _
 have HBK := hh hblk; have HLT := hh (blk_lt hblk)
 obtain ⟨x0_0, x0_1, x0_2, x0_3, x0_4, x0_5⟩ := me_cells hblk
 have K0 := hh (Below.refl W.heap.size W)
 unfold meC at hW ⊢
 try dsimp only at hW ⊢
 have HW := hh hW
 clear hal hblk hW
 go_enter Tryz.func82, Tryz.ntmps82
 go_wp2_with fail
 rw [← HW.out]
 (try go_wp2_with fail)
 go_ret
 exact ⟨rfl, HAL.out⟩
theorem sx_get {l : List Tx} {i : Nat} {x : Tx} (h : l[i]? = some x) : (SX l)[i]? = some (.string ⟨x.toArray⟩) := by simp [SX, h]
theorem all_short (A : Option Addr) (c : Nat) (l : List Tx) (P : Tx → Bool) (w : World) (hr : Rd w A (SX l)) (hl : l.length ≤ 281474976710656)
  (HP : ∀ x ∈ l, ∀ v : World, Below w.heap.size w v → Calls Tryz.prog 73 #[.string ⟨x.toArray⟩] v fun e w' => e = .returned (.bool (P x)) ∧ Below v.heap.size v w') :
  Calls Tryz.prog 72 #[.slice A l.length c, .func (.func 73) #[] #[]] w fun e w' => e = .returned (.bool (l.all P)) ∧ Below w.heap.size w w' := by
 obtain ⟨R, hR⟩ : ∃ R, R = l.all P := ⟨_, rfl⟩
 rw [← hR]
 have HF := hh (show (∃ x ∈ l, P x = false) → R = false from fun ⟨x, hx, h⟩ => by rw [hR, List.all_eq_false]; exact ⟨x, hx, by rw [h]; simp⟩)
 have HT := hh (show (∀ x ∈ l, P x = true) → R = true from fun h => by rw [hR]; exact List.all_eq_true.2 h)
 obtain ⟨n, hn⟩ : ∃ n, n = l.length := ⟨_, rfl⟩
 rw [← hn] at hl ⊢
 have hnI : (n : Int) ≤ 281474976710656 := by omega
 have HN := hh hn; have HRD := hh hr; have HPP := hh HP
 clear hr hn hl hR HP
 go_enter Tryz.func72, Tryz.ntmps72
 go_wp2
 go_loopw [9] (fun i wr => ∃ k : Nat, i = .int .i64 (k : Int) ∧ k ≤ n ∧ (∀ t ∈ l.take k, (!P t) = false) ∧ Below w.heap.size w wr) (fun i _ => n - (intOf i).toNat)
 case atStart => exact ⟨0, rfl, Nat.zero_le _, by simp, Below.refl _ _⟩
 case round =>
  obtain ⟨k, rfl, hk, hall, hbw⟩ := hrel
  have HA := hh hall; have HB := hh hbw
  clear hall
  by_cases hlt : k < n
  ·have hltI : (k : Int) < (n : Int) := by omega
   obtain ⟨x, hx⟩ : ∃ x, l[k]? = some x := ⟨l[k]'(by rw [← HN.out]; exact hlt), List.getElem?_eq_getElem _⟩
   obtain ⟨a, rfl, ha, c0⟩ := (HRD.out.below hbw).at_ (sx_get hx)
   have hmem := List.mem_of_getElem? hx
   have HCL := hh (HPP.out x hmem _ hbw)
   have hmt := take_more (P := fun t => !P t) HA.out hx
   cases hp : P x with
   | false =>
    have HRF := hh (HF.out ⟨x, hmem, hp⟩)
    rw [hp] at HCL
    clear hx hmem hmt hp hbw ha
    go_wp2_with fail
    refine HCL.out.mono ?_
    rintro e w1 ⟨rfl, hb1⟩
    have HB1 := hh (HB.out.trans (hb1.mono HB.out.size))
    clear hb1
    go_wp2
    go_ret
    exact ⟨by rw [HRF.out]; rfl, HB1.out⟩
   | true =>
    have HM := hh (hmt (by simp [hp]))
    rw [hp] at HCL
    clear hx hmem hmt hp hbw ha
    go_wp2_with fail
    refine HCL.out.mono ?_
    rintro e w1 ⟨rfl, hb1⟩
    have HB1 := hh (HB.out.trans (hb1.mono HB.out.size))
    clear hb1
    go_wp2
    go_roundw
    case rel => exact ⟨k + 1, by go_num, by omega, HM.out, HB1.out⟩
    case measure => simp [intOf]; omega
  ·have hltI : ¬ (k : Int) < (n : Int) := by omega
   have hall := HA.out
   rw [List.take_of_length_le (by rw [← HN.out]; omega)] at hall
   have HRT := hh (HT.out (fun x hx => by have := hall x hx; simpa using this))
   clear hall hbw
   go_wp2
   go_ret
   exact ⟨by rw [HRT.out]; rfl, HB.out⟩
theorem all_cls (A : Option Addr) (c : Nat) (l : List Tx) (P : Tx → Bool) (w : World) (hr : Rd w A (SX l)) (hl : l.length ≤ 281474976710656)
  (HP : ∀ x ∈ l, ∀ v : World, Below w.heap.size w v → Calls Tryz.prog 74 #[.string ⟨x.toArray⟩] v fun e w' => e = .returned (.bool (P x)) ∧ Below v.heap.size v w') :
  Calls Tryz.prog 72 #[.slice A l.length c, .func (.func 74) #[] #[]] w fun e w' => e = .returned (.bool (l.all P)) ∧ Below w.heap.size w w' := by
 obtain ⟨R, hR⟩ : ∃ R, R = l.all P := ⟨_, rfl⟩
 rw [← hR]
 have HF := hh (show (∃ x ∈ l, P x = false) → R = false from fun ⟨x, hx, h⟩ => by rw [hR, List.all_eq_false]; exact ⟨x, hx, by rw [h]; simp⟩)
 have HT := hh (show (∀ x ∈ l, P x = true) → R = true from fun h => by rw [hR]; exact List.all_eq_true.2 h)
 obtain ⟨n, hn⟩ : ∃ n, n = l.length := ⟨_, rfl⟩
 rw [← hn] at hl ⊢
 have hnI : (n : Int) ≤ 281474976710656 := by omega
 have HN := hh hn; have HRD := hh hr; have HPP := hh HP
 clear hr hn hl hR HP
 go_enter Tryz.func72, Tryz.ntmps72
 go_wp2
 go_loopw [9] (fun i wr => ∃ k : Nat, i = .int .i64 (k : Int) ∧ k ≤ n ∧ (∀ t ∈ l.take k, (!P t) = false) ∧ Below w.heap.size w wr) (fun i _ => n - (intOf i).toNat)
 case atStart => exact ⟨0, rfl, Nat.zero_le _, by simp, Below.refl _ _⟩
 case round =>
  obtain ⟨k, rfl, hk, hall, hbw⟩ := hrel
  have HA := hh hall; have HB := hh hbw
  clear hall
  by_cases hlt : k < n
  ·have hltI : (k : Int) < (n : Int) := by omega
   obtain ⟨x, hx⟩ : ∃ x, l[k]? = some x := ⟨l[k]'(by rw [← HN.out]; exact hlt), List.getElem?_eq_getElem _⟩
   obtain ⟨a, rfl, ha, c0⟩ := (HRD.out.below hbw).at_ (sx_get hx)
   have hmem := List.mem_of_getElem? hx
   have HCL := hh (HPP.out x hmem _ hbw)
   have hmt := take_more (P := fun t => !P t) HA.out hx
   cases hp : P x with
   | false =>
    have HRF := hh (HF.out ⟨x, hmem, hp⟩)
    rw [hp] at HCL
    clear hx hmem hmt hp hbw ha
    go_wp2_with fail
    refine HCL.out.mono ?_
    rintro e w1 ⟨rfl, hb1⟩
    have HB1 := hh (HB.out.trans (hb1.mono HB.out.size))
    clear hb1
    go_wp2
    go_ret
    exact ⟨by rw [HRF.out]; rfl, HB1.out⟩
   | true =>
    have HM := hh (hmt (by simp [hp]))
    rw [hp] at HCL
    clear hx hmem hmt hp hbw ha
    go_wp2_with fail
    refine HCL.out.mono ?_
    rintro e w1 ⟨rfl, hb1⟩
    have HB1 := hh (HB.out.trans (hb1.mono HB.out.size))
    clear hb1
    go_wp2
    go_roundw
    case rel => exact ⟨k + 1, by go_num, by omega, HM.out, HB1.out⟩
    case measure => simp [intOf]; omega
  ·have hltI : ¬ (k : Int) < (n : Int) := by omega
   have hall := HA.out
   rw [List.take_of_length_le (by rw [← HN.out]; omega)] at hall
   have HRT := hh (HT.out (fun x hx => by have := hall x hx; simpa using this))
   clear hall hbw
   go_wp2
   go_ret
   exact ⟨by rw [HRT.out]; rfl, HB.out⟩
theorem short_w (s : Tx) (W : World) (hs : s.length ≤ 281474976710656) : Calls Tryz.prog 73 #[.string ⟨s.toArray⟩] W fun e w' => e = .returned (.bool (decide (s.length ≤ 64))) ∧ Below W.heap.size W w' := by
 have hsz := mk_sz s
 obtain ⟨n, hn⟩ : ∃ n, n = s.length := ⟨_, rfl⟩
 rw [← hn] at hsz hs ⊢
 clear hn
 have hI : (n : Int) ≤ 281474976710656 := by omega
 have HAL := hh (Below.refl W.heap.size W)
 have K0 := hh (Below.refl W.heap.size W)
 cases h0 : decide (n ≤ 64) with
 | false =>
  have gn : ¬ ((n : Nat) : Int) ≤ 64 := by have := of_decide_eq_false h0; omega
  go_enter Tryz.func73, Tryz.ntmps73
  go_wp2_with fail
  (try go_wp2_with fail)
  go_ret
  exact ⟨by first | rfl | (simp only [h0, bls]; done) | (simp only [h0, bls]; rfl), HAL.out.trans (K0.out.mono HAL.out.size)⟩
 | true =>
  have gn : ((n : Nat) : Int) ≤ 64 := by have := of_decide_eq_true h0; omega
  go_enter Tryz.func73, Tryz.ntmps73
  go_wp2_with fail
  (try go_wp2_with fail)
  go_ret
  exact ⟨by first | rfl | (simp only [h0, bls]; done) | (simp only [h0, bls]; rfl), HAL.out.trans (K0.out.mono HAL.out.size)⟩
theorem names_w (A : Option Addr) (c : Nat) (l : List Tx) (W : World) (hr : Rd W A (SX l)) (hl : l.length ≤ 281474976710656) (hs : ∀ x ∈ l, x.length ≤ 281474976710656) : Calls Tryz.prog 38 #[.slice A l.length c] W fun e w' => e = .returned (.bool (fewNamesB l)) ∧ Below W.heap.size W w' := by
 have HA := hh (fun v (hb : Below W.heap.size W v) => all_short A c l (fun s => decide (s.length ≤ 64)) v (hr.below hb) hl (fun x hx u _ => short_w x u (hs x hx)))
 unfold fewNamesB
 generalize (l.all fun s => decide (s.length ≤ 64)) = ba at *
 obtain ⟨n, hn⟩ : ∃ n, n = l.length := ⟨_, rfl⟩
 rw [← hn] at HA hl ⊢
 clear hn hr hs
 have HAL := hh (Below.refl W.heap.size W)
 have K0 := hh (Below.refl W.heap.size W)
 cases h0 : decide (n ≤ 64) with
 | false =>
  have gn : ¬ ((n : Nat) : Int) ≤ 64 := by have := of_decide_eq_false h0; omega
  go_enter Tryz.func38, Tryz.ntmps38
  go_wp2_with fail
  (try go_wp2_with fail)
  go_ret
  exact ⟨by first | rfl | (simp only [h0, bls]; done) | (simp only [h0, bls]; rfl), HAL.out.trans (K0.out.mono HAL.out.size)⟩
 | true =>
  have gn : ((n : Nat) : Int) ≤ 64 := by have := of_decide_eq_true h0; omega
  go_enter Tryz.func38, Tryz.ntmps38
  go_wp2_with fail
  (try go_wp2_with fail)
  refine (HA.out _ K0.out).mono ?_
  rintro e v1 ⟨rfl, hb⟩
  have K1 := hh (show Below W.heap.size W v1 from then' K0.out hb)
  clear hb
  cases h1 : ba with
  | false =>
   (try go_wp2_with fail)
   go_ret
   exact ⟨by first | rfl | (simp only [h0, h1, bls]; done) | (simp only [h0, h1, bls]; rfl), HAL.out.trans (K1.out.mono HAL.out.size)⟩
  | true =>
   (try go_wp2_with fail)
   go_ret
   exact ⟨by first | rfl | (simp only [h0, h1, bls]; done) | (simp only [h0, h1, bls]; rfl), HAL.out.trans (K1.out.mono HAL.out.size)⟩
theorem bare_if_w (x : ClM) (w : World) (hr : Rd w x.A3 (x.ms.flatMap meC)) (hl : x.ms.length ≤ 281474976710656) : Calls Tryz.prog 76 #[.agg (clC x).toArray] w fun e w' => e = .returned (.bool (bareIfaceB x)) ∧ Below w.heap.size w w' := by
 obtain ⟨W, hW⟩ : ∃ W, W = w.alloc (.cells (clC x).toArray 35) := ⟨_, rfl⟩
 have hal : Below w.heap.size w W := by rw [hW]; exact (Below.refl _ w).alloc (Nat.le_refl _) _
 have HAL := hh hal
 have hblk : W.heap[w.heap.size]? = some (.cells (clC x).toArray 35 (0, 0)) := by rw [hW]; exact heap_alloc_new w _
 have HBK := hh hblk; have HLT := hh (blk_lt hblk)
 obtain ⟨x0_0, x0_1, x0_2, x0_3, x0_4, x0_5, x0_6⟩ := cl_cells hblk
 have K0 := hh (Below.refl W.heap.size W)
 have hrW := hr.below hal
 have HA := hh (fun v (hb : Below W.heap.size W v) => all_abs x.A3 x.c3 x.ms (fun m => m.ab) v (hrW.below hb) hl (fun y _ u _ => abs_w y u))
 unfold bareIfaceB
 obtain ⟨ba, hba⟩ : ∃ b, b = x.ms.all (fun m => m.ab) := ⟨_, rfl⟩
 rw [← hba] at HA ⊢
 obtain ⟨n, hn⟩ : ∃ n, n = x.fs.length := ⟨_, rfl⟩
 rw [← hn] at x0_5 ⊢
 unfold clC at hW ⊢
 rw [← hn] at hW ⊢
 try dsimp only at hW ⊢
 have HW := hh hW
 have HN := hh hn
 clear hal hblk hW hrW hr hl hba hn
 cases h0 : x.ab with
 | false =>
  (try simp only [h0] at HW)
  go_enter Tryz.func76, Tryz.ntmps76
  go_wp2_with fail
  rw [← HW.out]
  (try go_wp2_with fail)
  go_ret
  exact ⟨by first | rfl | (simp only [h0, bls]; done) | (simp only [h0, bls]; rfl), HAL.out.trans (K0.out.mono HAL.out.size)⟩
 | true =>
  cases h1 : (x.su == []) with
  | false =>
   have g1 := e_empty h1
   (try simp only [h0, h1] at HW)
   go_enter Tryz.func76, Tryz.ntmps76
   go_wp2_with fail
   rw [← HW.out]
   (try go_wp2_with fail)
   go_ret
   exact ⟨by first | rfl | (simp only [h0, h1, bls]; done) | (simp only [h0, h1, bls]; rfl), HAL.out.trans (K0.out.mono HAL.out.size)⟩
  | true =>
   have g1 := e_empty h1
   cases h2 : decide (n = 0) with
   | false =>
    have g2 : ((n : Int) == 0) = false := by have := of_decide_eq_false h2; rw [beq_eq_false_iff_ne]; omega
    (try simp only [h0, h1, h2] at HW)
    go_enter Tryz.func76, Tryz.ntmps76
    go_wp2_with fail
    rw [← HW.out]
    (try go_wp2_with fail)
    go_ret
    exact ⟨by first | rfl | (simp only [h0, h1, h2, bls]; done) | (simp only [h0, h1, h2, bls]; rfl), HAL.out.trans (K0.out.mono HAL.out.size)⟩
   | true =>
    have g2 : ((n : Int) == 0) = true := by have := of_decide_eq_true h2; rw [beq_iff_eq]; omega
    (try simp only [h0, h1, h2] at HW)
    go_enter Tryz.func76, Tryz.ntmps76
    go_wp2_with fail
    rw [← HW.out]
    (try go_wp2_with fail)
    refine (HA.out _ K0.out).mono ?_
    rintro e v1 ⟨rfl, hb⟩
    have K1 := hh (show Below W.heap.size W v1 from then' K0.out hb)
    obtain ⟨x1_0, x1_1, x1_2, x1_3, x1_4, x1_5, x1_6⟩ := cl_cells ((K1.out.block _ HLT.out).trans HBK.out)
    clear hb x0_0 x0_1 x0_2 x0_3 x0_4 x0_5 x0_6
    cases h3 : ba with
    | false =>
     (try go_wp2_with fail)
     go_ret
     exact ⟨by first | rfl | (simp only [h0, h1, h2, h3, bls]; done) | (simp only [h0, h1, h2, h3, bls]; rfl), HAL.out.trans (K1.out.mono HAL.out.size)⟩
    | true =>
     (try go_wp2_with fail)
     go_ret
     exact ⟨by first | rfl | (simp only [h0, h1, h2, h3, bls]; done) | (simp only [h0, h1, h2, h3, bls]; rfl), HAL.out.trans (K1.out.mono HAL.out.size)⟩
end Go.Proofs.YtgociheckcpjkaaGreatDoor.prg
namespace Go.Proofs.YtgociheckcpjkaaGreatDoor.prg
open Go.RowKit
open words kindp opp op kind word
set_option maxRecDepth 100000
set_option maxHeartbeats 8000000
set_option linter.all false
theorem less_mk (x y : Tx) : Op.bytesLess x y = decide (x < y) := bytesLess_eq x y
theorem eq_mk (x y : Tx) : (x == y) = decide (x = y) := by
 rw [Bool.eq_iff_iff]; simp
theorem tri (x y : Tx) : x < y ∨ (¬ x < y ∧ x = y) ∨ (¬ x < y ∧ ¬ x = y ∧ y < x) := by
 rcases Decidable.em (x < y) with h | h
 ·exact .inl h
 ·rcases Decidable.em (x = y) with h1 | h1
  ·exact .inr (.inl ⟨h, h1⟩)
  ·refine .inr (.inr ⟨h, h1, ?_⟩)
   rcases Decidable.em (y < x) with h2 | h2
   ·exact h2
   ·exact absurd (List.le_antisymm (List.not_lt.1 h2) (List.not_lt.1 h)) h1
def cmpI (x y : Tx) : Int := if x < y then -1 else if x = y then 0 else 1
theorem nan_w (x : Tx) (w : World) : Calls Tryz.prog 71 #[.string ⟨x.toArray⟩] w fun e w' => e = .returned (.bool false) ∧ w' = w := by
 have h1 : (x != x) = false := by simp
 go_enter Tryz.func71, Tryz.ntmps71
 go_wp2
 go_ret
 exact ⟨rfl, rfl⟩
theorem cmp_w (x y : Tx) (w : World) : Calls Tryz.prog 35 #[.string ⟨x.toArray⟩, .string ⟨y.toArray⟩] w fun e w' => e = .returned (.int .i64 (cmpI x y)) ∧ w' = w := by
 have HN := hh (fun x w => nan_w x w)
 have HC := hh (show cmpI x y = if x < y then -1 else if x = y then 0 else 1 from rfl)
 rcases tri x y with h | ⟨h, he⟩ | ⟨h, he, h2⟩
 ·have hl1 : Op.bytesLess x y = true := by rw [less_mk]; exact decide_eq_true h
  rw [HC.out, if_pos h]
  clear HC h
  go_enter Tryz.func35, Tryz.ntmps35
  go_wp2_with fail
  refine (HN.out _ _).mono ?_
  rintro e w ⟨rfl, rfl⟩
  go_wp2_with fail
  refine (HN.out _ _).mono ?_
  rintro e w ⟨rfl, rfl⟩
  clear HN
  go_wp2
  go_ret
  exact ⟨rfl, rfl⟩
 ·have hl1 : Op.bytesLess x y = false := by rw [less_mk]; exact decide_eq_false h
  have hl2 : (x == y) = true := by rw [eq_mk]; exact decide_eq_true he
  rw [HC.out, if_neg h, if_pos he]
  clear HC h he
  go_enter Tryz.func35, Tryz.ntmps35
  go_wp2_with fail
  refine (HN.out _ _).mono ?_
  rintro e w ⟨rfl, rfl⟩
  go_wp2_with fail
  refine (HN.out _ _).mono ?_
  rintro e w ⟨rfl, rfl⟩
  clear HN
  go_wp2
  go_ret
  exact ⟨rfl, rfl⟩
 ·have hl1 : Op.bytesLess x y = false := by rw [less_mk]; exact decide_eq_false h
  have hl2 : (x == y) = false := by rw [eq_mk]; exact decide_eq_false he
  rw [HC.out, if_neg h, if_neg he]
  clear HC h he h2
  go_enter Tryz.func35, Tryz.ntmps35
  go_wp2_with fail
  refine (HN.out _ _).mono ?_
  rintro e w ⟨rfl, rfl⟩
  go_wp2_with fail
  refine (HN.out _ _).mono ?_
  rintro e w ⟨rfl, rfl⟩
  clear HN
  go_wp2
  go_ret
  exact ⟨rfl, rfl⟩
theorem cmp_sign (x y : Tx) : (0 ≤ cmpI x y) ↔ ltT x y = false := by
 unfold cmpI ltT
 by_cases h : x < y
 ·rw [if_pos h, decide_eq_true h]; simp
 ·rw [if_neg h, decide_eq_false h]
  split <;> simp
theorem overD {b : Nat} {a c : World} (h : Below b a c) : Below b a c.drew := ⟨h.os, h.tape, h.output, h.size, h.block⟩
theorem rises_str (A : Option Addr) (c : Nat) (l : List Tx) (lt : Tx → Tx → Bool) (w : World) (hr : Rd w A (SX l)) (hl : l.length ≤ 281474976710656)
  (HO : ∀ x ∈ l, ∀ y ∈ l, ∀ v : World, Below w.heap.size w v → Calls Tryz.prog 35 #[.string ⟨x.toArray⟩, .string ⟨y.toArray⟩] v fun e w' => ∃ r : Int, e = .returned (.int .i64 r) ∧ ((0 ≤ r) ↔ lt x y = false) ∧ Below v.heap.size v w') :
  Calls Tryz.prog 34 #[.slice A l.length c, .func (.func 35) #[] #[]] w fun e w' => e = .returned (.bool (risesB lt l)) ∧ Below w.heap.size w w' := by
 obtain ⟨R, hR⟩ : ∃ R, R = risesB lt l := ⟨_, rfl⟩
 rw [← hR]
 have HF := hh (show ∀ j x y, l[j]? = some x → l[j + 1]? = some y → lt x y = false → R = false from fun j x y h1 h2 h3 => by rw [hR]; exact rises_no h1 h2 h3)
 have HT := hh (show (∀ j x y, l[j]? = some x → l[j + 1]? = some y → lt x y = true) → R = true from fun h => by rw [hR]; exact rises_yes h)
 obtain ⟨n, hn⟩ : ∃ n, n = l.length := ⟨_, rfl⟩
 rw [← hn] at hl ⊢
 have hnI : (n : Int) ≤ 281474976710656 := by omega
 have HN := hh hn; have HRD := hh hr; have HOO := hh HO
 clear hr hn hl hR HO
 go_enter Tryz.func34, Tryz.ntmps34
 go_wp2
 go_loopw [5] (fun i wr => ∃ k : Nat, i = .int .i64 ((k + 1 : Nat) : Int) ∧ (k + 1 ≤ n ∨ k = 0) ∧ (∀ j x y, j < k → l[j]? = some x → l[j + 1]? = some y → lt x y = true) ∧ Below w.heap.size w wr) (fun i _ => n - (intOf i).toNat)
 case atStart => exact ⟨0, rfl, .inr rfl, fun j _ _ h => by omega, Below.refl _ _⟩
 case round =>
  obtain ⟨k, rfl, hk, hall, hbw⟩ := hrel
  have HA := hh hall; have HB := hh hbw
  clear hall
  by_cases hlt : k + 1 < n
  ·have hltI : ((k + 1 : Nat) : Int) < (n : Int) := by omega
   have hkI : (k : Int) < (n : Int) := by omega
   have hsub : IntKind.i64.wrap (k : Int) = (k : Int) := IntWalk.i64_in _ (by omega)
   have hkJ : (k : Int) + 1 < (n : Int) := by omega
   have hk0 : (0 : Int) ≤ (k : Int) + 1 := by omega
   have htn : ((k : Int) + 1).toNat = k + 1 := by omega
   obtain ⟨x, hx⟩ : ∃ x, l[k]? = some x := ⟨l[k]'(by rw [← HN.out]; omega), List.getElem?_eq_getElem _⟩
   obtain ⟨y, hy⟩ : ∃ x, l[k + 1]? = some x := ⟨l[k + 1]'(by rw [← HN.out]; exact hlt), List.getElem?_eq_getElem _⟩
   obtain ⟨a, rfl, ha, c0⟩ := (HRD.out.below hbw).at_ (sx_get hx)
   obtain ⟨a', ea, _, d0⟩ := (HRD.out.below hbw).at_ (sx_get hy)
   cases ea
   have ea2 : a.add (k + 1) = ⟨a.block, a.off + (k + 1), none⟩ := by unfold Addr.add; rw [if_neg (by omega)]
   rw [ea2] at d0
   have HCL := hh (fun v hb => HOO.out x (List.mem_of_getElem? hx) y (List.mem_of_getElem? hy) v hb)
   have HFX := hh (fun h => HF.out k x y hx hy h)
   have HNX := hh (show lt x y = true → ∀ j x y, j < k + 1 → l[j]? = some x → l[j + 1]? = some y → lt x y = true from fun h j x' y' hj h1 h2 => by
    rcases Nat.lt_succ_iff_lt_or_eq.1 hj with h3 | rfl
    ·exact HA.out j x' y' h3 h1 h2
    ·rw [hx] at h1; rw [hy] at h2; cases h1; cases h2; exact h)
   have HX := hh hx; have HY := hh hy
   skip
   clear hx hy hk
   cases hlt2 : lt x y with
   | false =>
    have HRF := hh (HFX.out hlt2)
    clear HNX HFX
    go_wp2_with fail
    refine wp_region_held_drew (S := (fun w' => w'.cell? (a.add k) = some (.string ⟨x.toArray⟩) ∧ w'.cell? ⟨a.block, a.off + (k + 1), none⟩ = some (.string ⟨y.toArray⟩))) (by kernel_rfl) ?_ (fun hHeld => ?_)
    ·exact ⟨c0, d0⟩
    refine tkp 0 rfl ?_
    refine tkp 1 rfl ?_
    refine tkp 2 rfl ?_
    refine tkp 3 rfl ?_
    refine tkp 4 rfl ?_
    refine tkp 5 rfl ?_
    refine tkp 6 rfl ?_
    refine tkp 7 rfl ?_
    refine tkp 8 rfl ?_
    refine tkp 9 rfl ?_
    refine rdy 10 rfl (fun K hK => ?_)
    go_simp
    refine (HCL.out _ ?_).mono ?_; (first | exact HB.out | exact overD HB.out); rintro e v1 ⟨r, rfl, hs, hb⟩; have k1 : Below w.heap.size w v1 := (by first | exact HB.out.trans (hb.mono HB.out.size) | exact (overD HB.out).trans (hb.mono HB.out.size)); obtain ⟨a1, q1, _, e0⟩ := (HRD.out.below k1).at_ (sx_get HX.out); cases q1; obtain ⟨a1, q1, _, f0⟩ := (HRD.out.below k1).at_ (sx_get HY.out); cases q1; rw [ea2] at f0; rw [hlt2] at hs; have hr0 : (0 : Int) ≤ r := (by exact hs.2 rfl); have hrd : decide ((0 : Int) ≤ r) = true := (by simpa using hr0); have K1 := hh k1; clear hb k1 hs; go_wp2_with fail
    refine hK.out _ _ ⟨e0, f0⟩ (fun hHeld => ?_)
    clear hK K
    try simp only [puts]
    refine tkp 11 rfl ?_
    refine wpAnyH_done (by kernel_rfl) ?_ _
    go_wp2
    go_ret
    exact ⟨by rw [HRF.out]; rfl, K1.out⟩
   | true =>
    have HRN := hh (HNX.out hlt2)
    clear HNX HFX
    go_wp2_with fail
    refine wp_region_held_drew (S := (fun w' => w'.cell? (a.add k) = some (.string ⟨x.toArray⟩) ∧ w'.cell? ⟨a.block, a.off + (k + 1), none⟩ = some (.string ⟨y.toArray⟩))) (by kernel_rfl) ?_ (fun hHeld => ?_)
    ·exact ⟨c0, d0⟩
    refine tkp 0 rfl ?_
    refine tkp 1 rfl ?_
    refine tkp 2 rfl ?_
    refine tkp 3 rfl ?_
    refine tkp 4 rfl ?_
    refine tkp 5 rfl ?_
    refine tkp 6 rfl ?_
    refine tkp 7 rfl ?_
    refine tkp 8 rfl ?_
    refine tkp 9 rfl ?_
    refine rdy 10 rfl (fun K hK => ?_)
    go_simp
    refine (HCL.out _ ?_).mono ?_; (first | exact HB.out | exact overD HB.out); rintro e v1 ⟨r, rfl, hs, hb⟩; have k1 : Below w.heap.size w v1 := (by first | exact HB.out.trans (hb.mono HB.out.size) | exact (overD HB.out).trans (hb.mono HB.out.size)); obtain ⟨a1, q1, _, e0⟩ := (HRD.out.below k1).at_ (sx_get HX.out); cases q1; obtain ⟨a1, q1, _, f0⟩ := (HRD.out.below k1).at_ (sx_get HY.out); cases q1; rw [ea2] at f0; rw [hlt2] at hs; have hr0 : ¬ (0 : Int) ≤ r := (by simpa using hs); have hrd : decide ((0 : Int) ≤ r) = false := (by simpa using hr0); have K1 := hh k1; clear hb k1 hs; go_wp2_with fail
    refine hK.out _ _ ⟨e0, f0⟩ (fun hHeld => ?_)
    clear hK K
    try simp only [puts]
    refine tkp 11 rfl ?_
    refine wpAnyH_done (by kernel_rfl) ?_ _
    go_wp2
    go_roundw
    case rel => exact ⟨k + 1, by go_num, by omega, HRN.out, K1.out⟩
    case measure => simp [intOf]; omega
  ·have hltI : ¬ ((k + 1 : Nat) : Int) < (n : Int) := by omega
   have HRT := hh (HT.out (fun j x y h1 h2 => HA.out j x y (by have := (List.getElem?_eq_some_iff.1 h2).1; rw [← HN.out] at this; omega) h1 h2))
   clear hbw hk
   go_wp2
   go_ret
   exact ⟨by rw [HRT.out]; rfl, HB.out⟩
theorem rises_fi (A : Option Addr) (c : Nat) (l : List FiM) (lt : FiM → FiM → Bool) (w : World) (hr : Rd w A (l.flatMap fiC)) (hl : l.length ≤ 281474976710656)
  (HO : ∀ x ∈ l, ∀ y ∈ l, ∀ v : World, Below w.heap.size w v → Calls Tryz.prog 22 #[.agg (fiC x).toArray, .agg (fiC y).toArray] v fun e w' => ∃ r : Int, e = .returned (.int .i64 r) ∧ ((0 ≤ r) ↔ lt x y = false) ∧ Below v.heap.size v w') :
  Calls Tryz.prog 36 #[.slice A l.length c, .func (.func 22) #[] #[]] w fun e w' => e = .returned (.bool (risesB lt l)) ∧ Below w.heap.size w w' := by
 obtain ⟨R, hR⟩ : ∃ R, R = risesB lt l := ⟨_, rfl⟩
 rw [← hR]
 have HF := hh (show ∀ j x y, l[j]? = some x → l[j + 1]? = some y → lt x y = false → R = false from fun j x y h1 h2 h3 => by rw [hR]; exact rises_no h1 h2 h3)
 have HT := hh (show (∀ j x y, l[j]? = some x → l[j + 1]? = some y → lt x y = true) → R = true from fun h => by rw [hR]; exact rises_yes h)
 obtain ⟨n, hn⟩ : ∃ n, n = l.length := ⟨_, rfl⟩
 rw [← hn] at hl ⊢
 have hnI : (n : Int) ≤ 281474976710656 := by omega
 have HN := hh hn; have HRD := hh hr; have HOO := hh HO
 clear hr hn hl hR HO
 go_enter Tryz.func36, Tryz.ntmps36
 go_wp2
 go_loopw [5] (fun i wr => ∃ k : Nat, i = .int .i64 ((k + 1 : Nat) : Int) ∧ (k + 1 ≤ n ∨ k = 0) ∧ (∀ j x y, j < k → l[j]? = some x → l[j + 1]? = some y → lt x y = true) ∧ Below w.heap.size w wr) (fun i _ => n - (intOf i).toNat)
 case atStart => exact ⟨0, rfl, .inr rfl, fun j _ _ h => by omega, Below.refl _ _⟩
 case round =>
  obtain ⟨k, rfl, hk, hall, hbw⟩ := hrel
  have HA := hh hall; have HB := hh hbw
  clear hall
  by_cases hlt : k + 1 < n
  ·have hltI : ((k + 1 : Nat) : Int) < (n : Int) := by omega
   have hkI : (k : Int) < (n : Int) := by omega
   have hsub : IntKind.i64.wrap (k : Int) = (k : Int) := IntWalk.i64_in _ (by omega)
   have hkJ : (k : Int) + 1 < (n : Int) := by omega
   have hk0 : (0 : Int) ≤ (k : Int) + 1 := by omega
   have htn : ((k : Int) + 1).toNat = k + 1 := by omega
   obtain ⟨x, hx⟩ : ∃ x, l[k]? = some x := ⟨l[k]'(by rw [← HN.out]; omega), List.getElem?_eq_getElem _⟩
   obtain ⟨y, hy⟩ : ∃ x, l[k + 1]? = some x := ⟨l[k + 1]'(by rw [← HN.out]; exact hlt), List.getElem?_eq_getElem _⟩
   obtain ⟨a, rfl, ha, c0, c1, c2, c3⟩ := fi_at (HRD.out.below hbw) hx
   obtain ⟨a', ea, _, d0, d1, d2, d3⟩ := fi_at (HRD.out.below hbw) hy
   cases ea
   have ea2 : a.add ((k + 1) * 4) = ⟨a.block, a.off + (k + 1) * 4, none⟩ := by unfold Addr.add; rw [if_neg (by omega)]
   rw [ea2] at d0 d1 d2 d3
   dsimp only at d0 d1 d2 d3
   have HCL := hh (fun v hb => HOO.out x (List.mem_of_getElem? hx) y (List.mem_of_getElem? hy) v hb)
   have HFX := hh (fun h => HF.out k x y hx hy h)
   have HNX := hh (show lt x y = true → ∀ j x y, j < k + 1 → l[j]? = some x → l[j + 1]? = some y → lt x y = true from fun h j x' y' hj h1 h2 => by
    rcases Nat.lt_succ_iff_lt_or_eq.1 hj with h3 | rfl
    ·exact HA.out j x' y' h3 h1 h2
    ·rw [hx] at h1; rw [hy] at h2; cases h1; cases h2; exact h)
   have HX := hh hx; have HY := hh hy
   dsimp only [fiC] at HCL
   clear hx hy hk
   cases hlt2 : lt x y with
   | false =>
    have HRF := hh (HFX.out hlt2)
    clear HNX HFX
    go_wp2_with fail
    refine wp_region_held_drew (S := (fun w' => w'.cell? (a.add (k * 4)) = some (.string ⟨x.nm.toArray⟩) ∧ w'.cell? ⟨(a.add (k * 4)).block, (a.add (k * 4)).off + 1, none⟩ = some (.int .i64 x.k) ∧ w'.cell? ⟨(a.add (k * 4)).block, (a.add (k * 4)).off + 2, none⟩ = some (.string ⟨x.cl.toArray⟩) ∧ w'.cell? ⟨(a.add (k * 4)).block, (a.add (k * 4)).off + 3, none⟩ = some (.bool x.st) ∧ w'.cell? ⟨a.block, a.off + (k + 1) * 4, none⟩ = some (.string ⟨y.nm.toArray⟩) ∧ w'.cell? ⟨a.block, a.off + (k + 1) * 4 + 1, none⟩ = some (.int .i64 y.k) ∧ w'.cell? ⟨a.block, a.off + (k + 1) * 4 + 2, none⟩ = some (.string ⟨y.cl.toArray⟩) ∧ w'.cell? ⟨a.block, a.off + (k + 1) * 4 + 3, none⟩ = some (.bool y.st))) (by kernel_rfl) ?_ (fun hHeld => ?_)
    ·exact ⟨c0, c1, c2, c3, d0, d1, d2, d3⟩
    refine tkp 0 rfl ?_
    refine tkp 1 rfl ?_
    refine tkp 2 rfl ?_
    refine tkp 3 rfl ?_
    refine tkp 4 rfl ?_
    refine tkp 5 rfl ?_
    refine tkp 6 rfl ?_
    refine tkp 7 rfl ?_
    refine tkp 8 rfl ?_
    refine tkp 9 rfl ?_
    refine rdy 10 rfl (fun K hK => ?_)
    go_simp
    refine (HCL.out _ ?_).mono ?_; (first | exact HB.out | exact overD HB.out); rintro e v1 ⟨r, rfl, hs, hb⟩; have k1 : Below w.heap.size w v1 := (by first | exact HB.out.trans (hb.mono HB.out.size) | exact (overD HB.out).trans (hb.mono HB.out.size)); obtain ⟨a1, q1, _, e0, e1, e2, e3⟩ := fi_at (HRD.out.below k1) HX.out; cases q1; obtain ⟨a1, q1, _, f0, f1, f2, f3⟩ := fi_at (HRD.out.below k1) HY.out; cases q1; rw [ea2] at f0 f1 f2 f3; dsimp only at f0 f1 f2 f3; rw [hlt2] at hs; have hr0 : (0 : Int) ≤ r := (by exact hs.2 rfl); have hrd : decide ((0 : Int) ≤ r) = true := (by simpa using hr0); have K1 := hh k1; clear hb k1 hs; go_wp2_with fail
    refine hK.out _ _ ⟨e0, e1, e2, e3, f0, f1, f2, f3⟩ (fun hHeld => ?_)
    clear hK K
    try simp only [puts]
    refine tkp 11 rfl ?_
    refine wpAnyH_done (by kernel_rfl) ?_ _
    go_wp2
    go_ret
    exact ⟨by rw [HRF.out]; rfl, K1.out⟩
   | true =>
    have HRN := hh (HNX.out hlt2)
    clear HNX HFX
    go_wp2_with fail
    refine wp_region_held_drew (S := (fun w' => w'.cell? (a.add (k * 4)) = some (.string ⟨x.nm.toArray⟩) ∧ w'.cell? ⟨(a.add (k * 4)).block, (a.add (k * 4)).off + 1, none⟩ = some (.int .i64 x.k) ∧ w'.cell? ⟨(a.add (k * 4)).block, (a.add (k * 4)).off + 2, none⟩ = some (.string ⟨x.cl.toArray⟩) ∧ w'.cell? ⟨(a.add (k * 4)).block, (a.add (k * 4)).off + 3, none⟩ = some (.bool x.st) ∧ w'.cell? ⟨a.block, a.off + (k + 1) * 4, none⟩ = some (.string ⟨y.nm.toArray⟩) ∧ w'.cell? ⟨a.block, a.off + (k + 1) * 4 + 1, none⟩ = some (.int .i64 y.k) ∧ w'.cell? ⟨a.block, a.off + (k + 1) * 4 + 2, none⟩ = some (.string ⟨y.cl.toArray⟩) ∧ w'.cell? ⟨a.block, a.off + (k + 1) * 4 + 3, none⟩ = some (.bool y.st))) (by kernel_rfl) ?_ (fun hHeld => ?_)
    ·exact ⟨c0, c1, c2, c3, d0, d1, d2, d3⟩
    refine tkp 0 rfl ?_
    refine tkp 1 rfl ?_
    refine tkp 2 rfl ?_
    refine tkp 3 rfl ?_
    refine tkp 4 rfl ?_
    refine tkp 5 rfl ?_
    refine tkp 6 rfl ?_
    refine tkp 7 rfl ?_
    refine tkp 8 rfl ?_
    refine tkp 9 rfl ?_
    refine rdy 10 rfl (fun K hK => ?_)
    go_simp
    refine (HCL.out _ ?_).mono ?_; (first | exact HB.out | exact overD HB.out); rintro e v1 ⟨r, rfl, hs, hb⟩; have k1 : Below w.heap.size w v1 := (by first | exact HB.out.trans (hb.mono HB.out.size) | exact (overD HB.out).trans (hb.mono HB.out.size)); obtain ⟨a1, q1, _, e0, e1, e2, e3⟩ := fi_at (HRD.out.below k1) HX.out; cases q1; obtain ⟨a1, q1, _, f0, f1, f2, f3⟩ := fi_at (HRD.out.below k1) HY.out; cases q1; rw [ea2] at f0 f1 f2 f3; dsimp only at f0 f1 f2 f3; rw [hlt2] at hs; have hr0 : ¬ (0 : Int) ≤ r := (by simpa using hs); have hrd : decide ((0 : Int) ≤ r) = false := (by simpa using hr0); have K1 := hh k1; clear hb k1 hs; go_wp2_with fail
    refine hK.out _ _ ⟨e0, e1, e2, e3, f0, f1, f2, f3⟩ (fun hHeld => ?_)
    clear hK K
    try simp only [puts]
    refine tkp 11 rfl ?_
    refine wpAnyH_done (by kernel_rfl) ?_ _
    go_wp2
    go_roundw
    case rel => exact ⟨k + 1, by go_num, by omega, HRN.out, K1.out⟩
    case measure => simp [intOf]; omega
  ·have hltI : ¬ ((k + 1 : Nat) : Int) < (n : Int) := by omega
   have HRT := hh (HT.out (fun j x y h1 h2 => HA.out j x y (by have := (List.getElem?_eq_some_iff.1 h2).1; rw [← HN.out] at this; omega) h1 h2))
   clear hbw hk
   go_wp2
   go_ret
   exact ⟨by rw [HRT.out]; rfl, HB.out⟩
theorem rises_me (A : Option Addr) (c : Nat) (l : List MeM) (lt : MeM → MeM → Bool) (w : World) (hr : Rd w A (l.flatMap meC)) (hl : l.length ≤ 281474976710656)
  (HO : ∀ x ∈ l, ∀ y ∈ l, ∀ v : World, Below w.heap.size w v → Calls Tryz.prog 24 #[.agg (meC x).toArray, .agg (meC y).toArray] v fun e w' => ∃ r : Int, e = .returned (.int .i64 r) ∧ ((0 ≤ r) ↔ lt x y = false) ∧ Below v.heap.size v w') :
  Calls Tryz.prog 37 #[.slice A l.length c, .func (.func 24) #[] #[]] w fun e w' => e = .returned (.bool (risesB lt l)) ∧ Below w.heap.size w w' := by
 obtain ⟨R, hR⟩ : ∃ R, R = risesB lt l := ⟨_, rfl⟩
 rw [← hR]
 have HF := hh (show ∀ j x y, l[j]? = some x → l[j + 1]? = some y → lt x y = false → R = false from fun j x y h1 h2 h3 => by rw [hR]; exact rises_no h1 h2 h3)
 have HT := hh (show (∀ j x y, l[j]? = some x → l[j + 1]? = some y → lt x y = true) → R = true from fun h => by rw [hR]; exact rises_yes h)
 obtain ⟨n, hn⟩ : ∃ n, n = l.length := ⟨_, rfl⟩
 rw [← hn] at hl ⊢
 have hnI : (n : Int) ≤ 281474976710656 := by omega
 have HN := hh hn; have HRD := hh hr; have HOO := hh HO
 clear hr hn hl hR HO
 go_enter Tryz.func37, Tryz.ntmps37
 go_wp2
 go_loopw [5] (fun i wr => ∃ k : Nat, i = .int .i64 ((k + 1 : Nat) : Int) ∧ (k + 1 ≤ n ∨ k = 0) ∧ (∀ j x y, j < k → l[j]? = some x → l[j + 1]? = some y → lt x y = true) ∧ Below w.heap.size w wr) (fun i _ => n - (intOf i).toNat)
 case atStart => exact ⟨0, rfl, .inr rfl, fun j _ _ h => by omega, Below.refl _ _⟩
 case round =>
  obtain ⟨k, rfl, hk, hall, hbw⟩ := hrel
  have HA := hh hall; have HB := hh hbw
  clear hall
  by_cases hlt : k + 1 < n
  ·have hltI : ((k + 1 : Nat) : Int) < (n : Int) := by omega
   have hkI : (k : Int) < (n : Int) := by omega
   have hsub : IntKind.i64.wrap (k : Int) = (k : Int) := IntWalk.i64_in _ (by omega)
   have hkJ : (k : Int) + 1 < (n : Int) := by omega
   have hk0 : (0 : Int) ≤ (k : Int) + 1 := by omega
   have htn : ((k : Int) + 1).toNat = k + 1 := by omega
   obtain ⟨x, hx⟩ : ∃ x, l[k]? = some x := ⟨l[k]'(by rw [← HN.out]; omega), List.getElem?_eq_getElem _⟩
   obtain ⟨y, hy⟩ : ∃ x, l[k + 1]? = some x := ⟨l[k + 1]'(by rw [← HN.out]; exact hlt), List.getElem?_eq_getElem _⟩
   obtain ⟨a, rfl, ha, c0, c1, c2, c3, c4, c5⟩ := me_at (HRD.out.below hbw) hx
   obtain ⟨a', ea, _, d0, d1, d2, d3, d4, d5⟩ := me_at (HRD.out.below hbw) hy
   cases ea
   have ea2 : a.add ((k + 1) * 6) = ⟨a.block, a.off + (k + 1) * 6, none⟩ := by unfold Addr.add; rw [if_neg (by omega)]
   rw [ea2] at d0 d1 d2 d3 d4 d5
   dsimp only at d0 d1 d2 d3 d4 d5
   have HCL := hh (fun v hb => HOO.out x (List.mem_of_getElem? hx) y (List.mem_of_getElem? hy) v hb)
   have HFX := hh (fun h => HF.out k x y hx hy h)
   have HNX := hh (show lt x y = true → ∀ j x y, j < k + 1 → l[j]? = some x → l[j + 1]? = some y → lt x y = true from fun h j x' y' hj h1 h2 => by
    rcases Nat.lt_succ_iff_lt_or_eq.1 hj with h3 | rfl
    ·exact HA.out j x' y' h3 h1 h2
    ·rw [hx] at h1; rw [hy] at h2; cases h1; cases h2; exact h)
   have HX := hh hx; have HY := hh hy
   dsimp only [meC] at HCL
   clear hx hy hk
   cases hlt2 : lt x y with
   | false =>
    have HRF := hh (HFX.out hlt2)
    clear HNX HFX
    go_wp2_with fail
    refine wp_region_held_drew (S := (fun w' => w'.cell? (a.add (k * 6)) = some (.string ⟨x.nm.toArray⟩) ∧ w'.cell? ⟨(a.add (k * 6)).block, (a.add (k * 6)).off + 1, none⟩ = some (.string ⟨x.ds.toArray⟩) ∧ w'.cell? ⟨(a.add (k * 6)).block, (a.add (k * 6)).off + 2, none⟩ = some (.bool x.st) ∧ w'.cell? ⟨(a.add (k * 6)).block, (a.add (k * 6)).off + 3, none⟩ = some (.bool x.ab) ∧ w'.cell? ⟨(a.add (k * 6)).block, (a.add (k * 6)).off + 4, none⟩ = some (.int .i64 x.rg) ∧ w'.cell? ⟨(a.add (k * 6)).block, (a.add (k * 6)).off + 5, none⟩ = some (.slice x.A x.co.length x.c) ∧ w'.cell? ⟨a.block, a.off + (k + 1) * 6, none⟩ = some (.string ⟨y.nm.toArray⟩) ∧ w'.cell? ⟨a.block, a.off + (k + 1) * 6 + 1, none⟩ = some (.string ⟨y.ds.toArray⟩) ∧ w'.cell? ⟨a.block, a.off + (k + 1) * 6 + 2, none⟩ = some (.bool y.st) ∧ w'.cell? ⟨a.block, a.off + (k + 1) * 6 + 3, none⟩ = some (.bool y.ab) ∧ w'.cell? ⟨a.block, a.off + (k + 1) * 6 + 4, none⟩ = some (.int .i64 y.rg) ∧ w'.cell? ⟨a.block, a.off + (k + 1) * 6 + 5, none⟩ = some (.slice y.A y.co.length y.c))) (by kernel_rfl) ?_ (fun hHeld => ?_)
    ·exact ⟨c0, c1, c2, c3, c4, c5, d0, d1, d2, d3, d4, d5⟩
    refine tkp 0 rfl ?_
    refine tkp 1 rfl ?_
    refine tkp 2 rfl ?_
    refine tkp 3 rfl ?_
    refine tkp 4 rfl ?_
    refine tkp 5 rfl ?_
    refine tkp 6 rfl ?_
    refine tkp 7 rfl ?_
    refine tkp 8 rfl ?_
    refine tkp 9 rfl ?_
    refine rdy 10 rfl (fun K hK => ?_)
    go_simp
    refine (HCL.out _ ?_).mono ?_; (first | exact HB.out | exact overD HB.out); rintro e v1 ⟨r, rfl, hs, hb⟩; have k1 : Below w.heap.size w v1 := (by first | exact HB.out.trans (hb.mono HB.out.size) | exact (overD HB.out).trans (hb.mono HB.out.size)); obtain ⟨a1, q1, _, e0, e1, e2, e3, e4, e5⟩ := me_at (HRD.out.below k1) HX.out; cases q1; obtain ⟨a1, q1, _, f0, f1, f2, f3, f4, f5⟩ := me_at (HRD.out.below k1) HY.out; cases q1; rw [ea2] at f0 f1 f2 f3 f4 f5; dsimp only at f0 f1 f2 f3 f4 f5; rw [hlt2] at hs; have hr0 : (0 : Int) ≤ r := (by exact hs.2 rfl); have hrd : decide ((0 : Int) ≤ r) = true := (by simpa using hr0); have K1 := hh k1; clear hb k1 hs; go_wp2_with fail
    refine hK.out _ _ ⟨e0, e1, e2, e3, e4, e5, f0, f1, f2, f3, f4, f5⟩ (fun hHeld => ?_)
    clear hK K
    try simp only [puts]
    refine tkp 11 rfl ?_
    refine wpAnyH_done (by kernel_rfl) ?_ _
    go_wp2
    go_ret
    exact ⟨by rw [HRF.out]; rfl, K1.out⟩
   | true =>
    have HRN := hh (HNX.out hlt2)
    clear HNX HFX
    go_wp2_with fail
    refine wp_region_held_drew (S := (fun w' => w'.cell? (a.add (k * 6)) = some (.string ⟨x.nm.toArray⟩) ∧ w'.cell? ⟨(a.add (k * 6)).block, (a.add (k * 6)).off + 1, none⟩ = some (.string ⟨x.ds.toArray⟩) ∧ w'.cell? ⟨(a.add (k * 6)).block, (a.add (k * 6)).off + 2, none⟩ = some (.bool x.st) ∧ w'.cell? ⟨(a.add (k * 6)).block, (a.add (k * 6)).off + 3, none⟩ = some (.bool x.ab) ∧ w'.cell? ⟨(a.add (k * 6)).block, (a.add (k * 6)).off + 4, none⟩ = some (.int .i64 x.rg) ∧ w'.cell? ⟨(a.add (k * 6)).block, (a.add (k * 6)).off + 5, none⟩ = some (.slice x.A x.co.length x.c) ∧ w'.cell? ⟨a.block, a.off + (k + 1) * 6, none⟩ = some (.string ⟨y.nm.toArray⟩) ∧ w'.cell? ⟨a.block, a.off + (k + 1) * 6 + 1, none⟩ = some (.string ⟨y.ds.toArray⟩) ∧ w'.cell? ⟨a.block, a.off + (k + 1) * 6 + 2, none⟩ = some (.bool y.st) ∧ w'.cell? ⟨a.block, a.off + (k + 1) * 6 + 3, none⟩ = some (.bool y.ab) ∧ w'.cell? ⟨a.block, a.off + (k + 1) * 6 + 4, none⟩ = some (.int .i64 y.rg) ∧ w'.cell? ⟨a.block, a.off + (k + 1) * 6 + 5, none⟩ = some (.slice y.A y.co.length y.c))) (by kernel_rfl) ?_ (fun hHeld => ?_)
    ·exact ⟨c0, c1, c2, c3, c4, c5, d0, d1, d2, d3, d4, d5⟩
    refine tkp 0 rfl ?_
    refine tkp 1 rfl ?_
    refine tkp 2 rfl ?_
    refine tkp 3 rfl ?_
    refine tkp 4 rfl ?_
    refine tkp 5 rfl ?_
    refine tkp 6 rfl ?_
    refine tkp 7 rfl ?_
    refine tkp 8 rfl ?_
    refine tkp 9 rfl ?_
    refine rdy 10 rfl (fun K hK => ?_)
    go_simp
    refine (HCL.out _ ?_).mono ?_; (first | exact HB.out | exact overD HB.out); rintro e v1 ⟨r, rfl, hs, hb⟩; have k1 : Below w.heap.size w v1 := (by first | exact HB.out.trans (hb.mono HB.out.size) | exact (overD HB.out).trans (hb.mono HB.out.size)); obtain ⟨a1, q1, _, e0, e1, e2, e3, e4, e5⟩ := me_at (HRD.out.below k1) HX.out; cases q1; obtain ⟨a1, q1, _, f0, f1, f2, f3, f4, f5⟩ := me_at (HRD.out.below k1) HY.out; cases q1; rw [ea2] at f0 f1 f2 f3 f4 f5; dsimp only at f0 f1 f2 f3 f4 f5; rw [hlt2] at hs; have hr0 : ¬ (0 : Int) ≤ r := (by simpa using hs); have hrd : decide ((0 : Int) ≤ r) = false := (by simpa using hr0); have K1 := hh k1; clear hb k1 hs; go_wp2_with fail
    refine hK.out _ _ ⟨e0, e1, e2, e3, e4, e5, f0, f1, f2, f3, f4, f5⟩ (fun hHeld => ?_)
    clear hK K
    try simp only [puts]
    refine tkp 11 rfl ?_
    refine wpAnyH_done (by kernel_rfl) ?_ _
    go_wp2
    go_roundw
    case rel => exact ⟨k + 1, by go_num, by omega, HRN.out, K1.out⟩
    case measure => simp [intOf]; omega
  ·have hltI : ¬ ((k + 1 : Nat) : Int) < (n : Int) := by omega
   have HRT := hh (HT.out (fun j x y h1 h2 => HA.out j x y (by have := (List.getElem?_eq_some_iff.1 h2).1; rw [← HN.out] at this; omega) h1 h2))
   clear hbw hk
   go_wp2
   go_ret
   exact ⟨by rw [HRT.out]; rfl, HB.out⟩
theorem rises_cl (A : Option Addr) (c : Nat) (l : List ClM) (lt : ClM → ClM → Bool) (w : World) (hr : Rd w A (l.flatMap clC)) (hl : l.length ≤ 281474976710656)
  (HO : ∀ x ∈ l, ∀ y ∈ l, ∀ v : World, Below w.heap.size w v → Calls Tryz.prog 19 #[.agg (clC x).toArray, .agg (clC y).toArray] v fun e w' => ∃ r : Int, e = .returned (.int .i64 r) ∧ ((0 ≤ r) ↔ lt x y = false) ∧ Below v.heap.size v w') :
  Calls Tryz.prog 31 #[.slice A l.length c, .func (.func 19) #[] #[]] w fun e w' => e = .returned (.bool (risesB lt l)) ∧ Below w.heap.size w w' := by
 obtain ⟨R, hR⟩ : ∃ R, R = risesB lt l := ⟨_, rfl⟩
 rw [← hR]
 have HF := hh (show ∀ j x y, l[j]? = some x → l[j + 1]? = some y → lt x y = false → R = false from fun j x y h1 h2 h3 => by rw [hR]; exact rises_no h1 h2 h3)
 have HT := hh (show (∀ j x y, l[j]? = some x → l[j + 1]? = some y → lt x y = true) → R = true from fun h => by rw [hR]; exact rises_yes h)
 obtain ⟨n, hn⟩ : ∃ n, n = l.length := ⟨_, rfl⟩
 rw [← hn] at hl ⊢
 have hnI : (n : Int) ≤ 281474976710656 := by omega
 have HN := hh hn; have HRD := hh hr; have HOO := hh HO
 clear hr hn hl hR HO
 go_enter Tryz.func31, Tryz.ntmps31
 go_wp2
 go_loopw [5] (fun i wr => ∃ k : Nat, i = .int .i64 ((k + 1 : Nat) : Int) ∧ (k + 1 ≤ n ∨ k = 0) ∧ (∀ j x y, j < k → l[j]? = some x → l[j + 1]? = some y → lt x y = true) ∧ Below w.heap.size w wr) (fun i _ => n - (intOf i).toNat)
 case atStart => exact ⟨0, rfl, .inr rfl, fun j _ _ h => by omega, Below.refl _ _⟩
 case round =>
  obtain ⟨k, rfl, hk, hall, hbw⟩ := hrel
  have HA := hh hall; have HB := hh hbw
  clear hall
  by_cases hlt : k + 1 < n
  ·have hltI : ((k + 1 : Nat) : Int) < (n : Int) := by omega
   have hkI : (k : Int) < (n : Int) := by omega
   have hsub : IntKind.i64.wrap (k : Int) = (k : Int) := IntWalk.i64_in _ (by omega)
   have hkJ : (k : Int) + 1 < (n : Int) := by omega
   have hk0 : (0 : Int) ≤ (k : Int) + 1 := by omega
   have htn : ((k : Int) + 1).toNat = k + 1 := by omega
   obtain ⟨x, hx⟩ : ∃ x, l[k]? = some x := ⟨l[k]'(by rw [← HN.out]; omega), List.getElem?_eq_getElem _⟩
   obtain ⟨y, hy⟩ : ∃ x, l[k + 1]? = some x := ⟨l[k + 1]'(by rw [← HN.out]; exact hlt), List.getElem?_eq_getElem _⟩
   obtain ⟨a, rfl, ha, c0, c1, c2, c3, c4, c5, c6⟩ := cl_at (HRD.out.below hbw) hx
   obtain ⟨a', ea, _, d0, d1, d2, d3, d4, d5, d6⟩ := cl_at (HRD.out.below hbw) hy
   cases ea
   have ea2 : a.add ((k + 1) * 7) = ⟨a.block, a.off + (k + 1) * 7, none⟩ := by unfold Addr.add; rw [if_neg (by omega)]
   rw [ea2] at d0 d1 d2 d3 d4 d5 d6
   dsimp only at d0 d1 d2 d3 d4 d5 d6
   have HCL := hh (fun v hb => HOO.out x (List.mem_of_getElem? hx) y (List.mem_of_getElem? hy) v hb)
   have HFX := hh (fun h => HF.out k x y hx hy h)
   have HNX := hh (show lt x y = true → ∀ j x y, j < k + 1 → l[j]? = some x → l[j + 1]? = some y → lt x y = true from fun h j x' y' hj h1 h2 => by
    rcases Nat.lt_succ_iff_lt_or_eq.1 hj with h3 | rfl
    ·exact HA.out j x' y' h3 h1 h2
    ·rw [hx] at h1; rw [hy] at h2; cases h1; cases h2; exact h)
   have HX := hh hx; have HY := hh hy
   dsimp only [clC] at HCL
   clear hx hy hk
   cases hlt2 : lt x y with
   | false =>
    have HRF := hh (HFX.out hlt2)
    clear HNX HFX
    go_wp2_with fail
    refine wp_region_held_drew (S := (fun w' => w'.cell? (a.add (k * 7)) = some (.string ⟨x.nm.toArray⟩) ∧ w'.cell? ⟨(a.add (k * 7)).block, (a.add (k * 7)).off + 1, none⟩ = some (.string ⟨x.su.toArray⟩) ∧ w'.cell? ⟨(a.add (k * 7)).block, (a.add (k * 7)).off + 2, none⟩ = some (.bool x.fc) ∧ w'.cell? ⟨(a.add (k * 7)).block, (a.add (k * 7)).off + 3, none⟩ = some (.bool x.ab) ∧ w'.cell? ⟨(a.add (k * 7)).block, (a.add (k * 7)).off + 4, none⟩ = some (.slice x.A1 x.is.length x.c1) ∧ w'.cell? ⟨(a.add (k * 7)).block, (a.add (k * 7)).off + 5, none⟩ = some (.slice x.A2 x.fs.length x.c2) ∧ w'.cell? ⟨(a.add (k * 7)).block, (a.add (k * 7)).off + 6, none⟩ = some (.slice x.A3 x.ms.length x.c3) ∧ w'.cell? ⟨a.block, a.off + (k + 1) * 7, none⟩ = some (.string ⟨y.nm.toArray⟩) ∧ w'.cell? ⟨a.block, a.off + (k + 1) * 7 + 1, none⟩ = some (.string ⟨y.su.toArray⟩) ∧ w'.cell? ⟨a.block, a.off + (k + 1) * 7 + 2, none⟩ = some (.bool y.fc) ∧ w'.cell? ⟨a.block, a.off + (k + 1) * 7 + 3, none⟩ = some (.bool y.ab) ∧ w'.cell? ⟨a.block, a.off + (k + 1) * 7 + 4, none⟩ = some (.slice y.A1 y.is.length y.c1) ∧ w'.cell? ⟨a.block, a.off + (k + 1) * 7 + 5, none⟩ = some (.slice y.A2 y.fs.length y.c2) ∧ w'.cell? ⟨a.block, a.off + (k + 1) * 7 + 6, none⟩ = some (.slice y.A3 y.ms.length y.c3))) (by kernel_rfl) ?_ (fun hHeld => ?_)
    ·exact ⟨c0, c1, c2, c3, c4, c5, c6, d0, d1, d2, d3, d4, d5, d6⟩
    refine tkp 0 rfl ?_
    refine tkp 1 rfl ?_
    refine tkp 2 rfl ?_
    refine tkp 3 rfl ?_
    refine tkp 4 rfl ?_
    refine tkp 5 rfl ?_
    refine tkp 6 rfl ?_
    refine tkp 7 rfl ?_
    refine tkp 8 rfl ?_
    refine tkp 9 rfl ?_
    refine rdy 10 rfl (fun K hK => ?_)
    go_simp
    refine (HCL.out _ ?_).mono ?_; (first | exact HB.out | exact overD HB.out); rintro e v1 ⟨r, rfl, hs, hb⟩; have k1 : Below w.heap.size w v1 := (by first | exact HB.out.trans (hb.mono HB.out.size) | exact (overD HB.out).trans (hb.mono HB.out.size)); obtain ⟨a1, q1, _, e0, e1, e2, e3, e4, e5, e6⟩ := cl_at (HRD.out.below k1) HX.out; cases q1; obtain ⟨a1, q1, _, f0, f1, f2, f3, f4, f5, f6⟩ := cl_at (HRD.out.below k1) HY.out; cases q1; rw [ea2] at f0 f1 f2 f3 f4 f5 f6; dsimp only at f0 f1 f2 f3 f4 f5 f6; rw [hlt2] at hs; have hr0 : (0 : Int) ≤ r := (by exact hs.2 rfl); have hrd : decide ((0 : Int) ≤ r) = true := (by simpa using hr0); have K1 := hh k1; clear hb k1 hs; go_wp2_with fail
    refine hK.out _ _ ⟨e0, e1, e2, e3, e4, e5, e6, f0, f1, f2, f3, f4, f5, f6⟩ (fun hHeld => ?_)
    clear hK K
    try simp only [puts]
    refine tkp 11 rfl ?_
    refine wpAnyH_done (by kernel_rfl) ?_ _
    go_wp2
    go_ret
    exact ⟨by rw [HRF.out]; rfl, K1.out⟩
   | true =>
    have HRN := hh (HNX.out hlt2)
    clear HNX HFX
    go_wp2_with fail
    refine wp_region_held_drew (S := (fun w' => w'.cell? (a.add (k * 7)) = some (.string ⟨x.nm.toArray⟩) ∧ w'.cell? ⟨(a.add (k * 7)).block, (a.add (k * 7)).off + 1, none⟩ = some (.string ⟨x.su.toArray⟩) ∧ w'.cell? ⟨(a.add (k * 7)).block, (a.add (k * 7)).off + 2, none⟩ = some (.bool x.fc) ∧ w'.cell? ⟨(a.add (k * 7)).block, (a.add (k * 7)).off + 3, none⟩ = some (.bool x.ab) ∧ w'.cell? ⟨(a.add (k * 7)).block, (a.add (k * 7)).off + 4, none⟩ = some (.slice x.A1 x.is.length x.c1) ∧ w'.cell? ⟨(a.add (k * 7)).block, (a.add (k * 7)).off + 5, none⟩ = some (.slice x.A2 x.fs.length x.c2) ∧ w'.cell? ⟨(a.add (k * 7)).block, (a.add (k * 7)).off + 6, none⟩ = some (.slice x.A3 x.ms.length x.c3) ∧ w'.cell? ⟨a.block, a.off + (k + 1) * 7, none⟩ = some (.string ⟨y.nm.toArray⟩) ∧ w'.cell? ⟨a.block, a.off + (k + 1) * 7 + 1, none⟩ = some (.string ⟨y.su.toArray⟩) ∧ w'.cell? ⟨a.block, a.off + (k + 1) * 7 + 2, none⟩ = some (.bool y.fc) ∧ w'.cell? ⟨a.block, a.off + (k + 1) * 7 + 3, none⟩ = some (.bool y.ab) ∧ w'.cell? ⟨a.block, a.off + (k + 1) * 7 + 4, none⟩ = some (.slice y.A1 y.is.length y.c1) ∧ w'.cell? ⟨a.block, a.off + (k + 1) * 7 + 5, none⟩ = some (.slice y.A2 y.fs.length y.c2) ∧ w'.cell? ⟨a.block, a.off + (k + 1) * 7 + 6, none⟩ = some (.slice y.A3 y.ms.length y.c3))) (by kernel_rfl) ?_ (fun hHeld => ?_)
    ·exact ⟨c0, c1, c2, c3, c4, c5, c6, d0, d1, d2, d3, d4, d5, d6⟩
    refine tkp 0 rfl ?_
    refine tkp 1 rfl ?_
    refine tkp 2 rfl ?_
    refine tkp 3 rfl ?_
    refine tkp 4 rfl ?_
    refine tkp 5 rfl ?_
    refine tkp 6 rfl ?_
    refine tkp 7 rfl ?_
    refine tkp 8 rfl ?_
    refine tkp 9 rfl ?_
    refine rdy 10 rfl (fun K hK => ?_)
    go_simp
    refine (HCL.out _ ?_).mono ?_; (first | exact HB.out | exact overD HB.out); rintro e v1 ⟨r, rfl, hs, hb⟩; have k1 : Below w.heap.size w v1 := (by first | exact HB.out.trans (hb.mono HB.out.size) | exact (overD HB.out).trans (hb.mono HB.out.size)); obtain ⟨a1, q1, _, e0, e1, e2, e3, e4, e5, e6⟩ := cl_at (HRD.out.below k1) HX.out; cases q1; obtain ⟨a1, q1, _, f0, f1, f2, f3, f4, f5, f6⟩ := cl_at (HRD.out.below k1) HY.out; cases q1; rw [ea2] at f0 f1 f2 f3 f4 f5 f6; dsimp only at f0 f1 f2 f3 f4 f5 f6; rw [hlt2] at hs; have hr0 : ¬ (0 : Int) ≤ r := (by simpa using hs); have hrd : decide ((0 : Int) ≤ r) = false := (by simpa using hr0); have K1 := hh k1; clear hb k1 hs; go_wp2_with fail
    refine hK.out _ _ ⟨e0, e1, e2, e3, e4, e5, e6, f0, f1, f2, f3, f4, f5, f6⟩ (fun hHeld => ?_)
    clear hK K
    try simp only [puts]
    refine tkp 11 rfl ?_
    refine wpAnyH_done (by kernel_rfl) ?_ _
    go_wp2
    go_roundw
    case rel => exact ⟨k + 1, by go_num, by omega, HRN.out, K1.out⟩
    case measure => simp [intOf]; omega
  ·have hltI : ¬ ((k + 1 : Nat) : Int) < (n : Int) := by omega
   have HRT := hh (HT.out (fun j x y h1 h2 => HA.out j x y (by have := (List.getElem?_eq_some_iff.1 h2).1; rw [← HN.out] at this; omega) h1 h2))
   clear hbw hk
   go_wp2
   go_ret
   exact ⟨by rw [HRT.out]; rfl, HB.out⟩
end Go.Proofs.YtgociheckcpjkaaGreatDoor.prg
namespace Go.Proofs.YtgociheckcpjkaaGreatDoor.prg
open Go.RowKit
open words kindp opp op kind word
set_option maxRecDepth 100000
set_option maxHeartbeats 8000000
set_option linter.all false
theorem index_abs (A : Option Addr) (c : Nat) (l : List MeM) (w : World) (hr : Rd w A (l.flatMap meC)) (hl : l.length ≤ 281474976710656) :
  Calls Tryz.prog 44 #[.slice A l.length c, .func (.func 82) #[] #[]] w fun e w' => ∃ r, e = .returned (.int .i64 r) ∧ Idx (fun m : MeM => m.ab) l r ∧ Below w.heap.size w w' := by
 obtain ⟨n, hn⟩ : ∃ n, n = l.length := ⟨_, rfl⟩
 rw [← hn] at hl ⊢
 have hnI : (n : Int) ≤ 281474976710656 := by omega
 have HN := hh hn; have HRD := hh hr
 clear hr hn hl
 go_enter Tryz.func44, Tryz.ntmps44
 go_wp2
 go_loopw [8] (fun i wr => ∃ k : Nat, i = .int .i64 (k : Int) ∧ k ≤ n ∧ (∀ t ∈ l.take k, t.ab = false) ∧ Below w.heap.size w wr) (fun i _ => n - (intOf i).toNat)
 case atStart => exact ⟨0, rfl, Nat.zero_le _, by simp, Below.refl _ _⟩
 case round =>
  obtain ⟨k, rfl, hk, hall, hbw⟩ := hrel
  have HA := hh hall; have HB := hh hbw
  clear hall
  by_cases hlt : k < n
  ·have hltI : (k : Int) < (n : Int) := by omega
   obtain ⟨x, hx⟩ : ∃ x, l[k]? = some x := ⟨l[k]'(by rw [← HN.out]; exact hlt), List.getElem?_eq_getElem _⟩
   obtain ⟨a, rfl, ha, c0, c1, c2, c3, c4, c5⟩ := me_at (HRD.out.below hbw) hx
   have HW := hh (fun w => abs_w x w)
   have HX := hh hx
   have hmt := take_more (P := fun m : MeM => m.ab) HA.out hx
   dsimp only [meC] at HW
   cases hwr : x.ab with
   | true =>
    rw [hwr] at HW c3
    have HI := hh (show Idx (fun m : MeM => m.ab) l (k : Int) from .inr ⟨k, _, rfl, hx, hwr, HA.out⟩)
    clear hx hmt hwr hbw ha
    go_wp2_with fail
    refine (HW.out _).mono ?_
    rintro e w1 ⟨rfl, hb1⟩
    have HB1 := hh (HB.out.trans (hb1.mono HB.out.size))
    clear hb1
    go_wp2
    go_ret
    exact ⟨_, rfl, HI.out, HB1.out⟩
   | false =>
    rw [hwr] at HW c3
    have HM := hh (hmt hwr)
    clear hx hmt hwr hbw ha
    go_wp2_with fail
    refine (HW.out _).mono ?_
    rintro e w1 ⟨rfl, hb1⟩
    have HB1 := hh (HB.out.trans (hb1.mono HB.out.size))
    clear hb1
    go_wp2
    go_roundw
    case rel => exact ⟨k + 1, by go_num, by omega, HM.out, HB1.out⟩
    case measure => simp [intOf]; omega
  ·have hltI : ¬ (k : Int) < (n : Int) := by omega
   have hall := HA.out
   rw [List.take_of_length_le (by rw [← HN.out]; omega)] at hall
   have HI := hh (show Idx (fun m : MeM => m.ab) l (-1) from .inl ⟨rfl, hall⟩)
   clear hall hbw
   go_wp2
   go_ret
   exact ⟨_, rfl, HI.out, HB.out⟩
theorem any_abs (A : Option Addr) (c : Nat) (l : List MeM) (w : World) (hr : Rd w A (l.flatMap meC)) (hl : l.length ≤ 281474976710656) :
  Calls Tryz.prog 81 #[.slice A l.length c, .func (.func 82) #[] #[]] w fun e w' => e = .returned (.bool (l.any (fun m : MeM => m.ab))) ∧ Below w.heap.size w w' := by
 have HI := hh (index_abs A c l w hr hl)
 generalize l.length = n at *
 clear hr hl
 go_enter Tryz.func81, Tryz.ntmps81
 go_wp2_with fail
 refine HI.out.mono ?_
 rintro e w1 ⟨r, rfl, hi, hb⟩
 have HX := hh (idx_any hi)
 have HB := hh hb
 clear hi hb
 go_wp2
 go_ret
 exact ⟨by rw [HX.out]; rfl, HB.out⟩
end Go.Proofs.YtgociheckcpjkaaGreatDoor.prg
namespace Go.Proofs.YtgociheckcpjkaaGreatDoor.prg
open Go.RowKit
open words kindp opp op kind word
set_option maxRecDepth 100000
set_option maxHeartbeats 8000000
set_option linter.all false
theorem byClass_w (x y : ClM) (w : World) : Calls Tryz.prog 19 #[.agg (clC x).toArray, .agg (clC y).toArray] w fun e w' => ∃ r : Int, e = .returned (.int .i64 r) ∧ ((0 ≤ r) ↔ ltC x y = false) ∧ Below w.heap.size w w' := by
 obtain ⟨W, hW⟩ : ∃ W, W = (w.alloc (.cells (clC x).toArray 35)).alloc (.cells (clC y).toArray 35) := ⟨_, rfl⟩
 have hal : Below w.heap.size w W := by rw [hW]; exact ((Below.refl _ w).alloc (Nat.le_refl _) _).alloc (by simp) _
 have HAL := hh hal
 have hbi : W.heap[w.heap.size]? = some (.cells (clC x).toArray 35 (0, 0)) := by rw [hW]; exact (Below.heap_alloc _ _ _ (by simp)).trans (heap_alloc_new w _)
 have hbj : W.heap[w.heap.size + 1]? = some (.cells (clC y).toArray 35 (0, 0)) := by
  rw [hW]
  have := heap_alloc_new (w.alloc (.cells (clC x).toArray 35)) (.cells (clC y).toArray 35)
  rwa [World.size_alloc] at this
 have x0 := (cl_cells hbi).1
 have y0 := (cl_cells hbj).1
 have HC := hh (fun w => cmp_w x.nm y.nm w)
 have HS := hh (show (0 ≤ cmpI x.nm y.nm) ↔ ltC x y = false from cmp_sign x.nm y.nm)
 generalize cmpI x.nm y.nm = r at *
 unfold clC at hW ⊢
 have HW := hh hW
 clear hal hbi hbj hW
 go_enter Tryz.func19, Tryz.ntmps19
 go_wp2_with fail
 try simp only [World.size_alloc]
 rw [← HW.out]
 (try go_wp2_with fail)
 refine (HC.out _).mono ?_
 rintro e v1 ⟨rfl, rfl⟩
 go_wp2_with fail
 go_ret
 exact ⟨_, rfl, HS.out, HAL.out⟩
theorem byField_w (x y : FiM) (w : World) : Calls Tryz.prog 22 #[.agg (fiC x).toArray, .agg (fiC y).toArray] w fun e w' => ∃ r : Int, e = .returned (.int .i64 r) ∧ ((0 ≤ r) ↔ ltF x y = false) ∧ Below w.heap.size w w' := by
 obtain ⟨W, hW⟩ : ∃ W, W = (w.alloc (.cells (fiC x).toArray 58)).alloc (.cells (fiC y).toArray 58) := ⟨_, rfl⟩
 have hal : Below w.heap.size w W := by rw [hW]; exact ((Below.refl _ w).alloc (Nat.le_refl _) _).alloc (by simp) _
 have HAL := hh hal
 have hbi : W.heap[w.heap.size]? = some (.cells (fiC x).toArray 58 (0, 0)) := by rw [hW]; exact (Below.heap_alloc _ _ _ (by simp)).trans (heap_alloc_new w _)
 have hbj : W.heap[w.heap.size + 1]? = some (.cells (fiC y).toArray 58 (0, 0)) := by
  rw [hW]
  have := heap_alloc_new (w.alloc (.cells (fiC x).toArray 58)) (.cells (fiC y).toArray 58)
  rwa [World.size_alloc] at this
 have x0 := (fi_cells hbi).1
 have y0 := (fi_cells hbj).1
 have HC := hh (fun w => cmp_w x.nm y.nm w)
 have HS := hh (show (0 ≤ cmpI x.nm y.nm) ↔ ltF x y = false from cmp_sign x.nm y.nm)
 generalize cmpI x.nm y.nm = r at *
 unfold fiC at hW ⊢
 have HW := hh hW
 clear hal hbi hbj hW
 go_enter Tryz.func22, Tryz.ntmps22
 go_wp2_with fail
 try simp only [World.size_alloc]
 rw [← HW.out]
 (try go_wp2_with fail)
 refine (HC.out _).mono ?_
 rintro e v1 ⟨rfl, rfl⟩
 go_wp2_with fail
 go_ret
 exact ⟨_, rfl, HS.out, HAL.out⟩
end Go.Proofs.YtgociheckcpjkaaGreatDoor.prg

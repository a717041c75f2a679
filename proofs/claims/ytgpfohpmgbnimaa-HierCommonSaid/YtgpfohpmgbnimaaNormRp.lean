/-
 Layer 8: where classes, methods and fields stand: the document's answers.
-/
import Derived.Test.YtgpfohpmgbnimaaNormO
namespace Go.Proofs.Ytgpfohpmgbnimaa.prg
open Go.RowKit
open words kindp opp op kind word

/-- a place is one -/
theorem idx_same {α : Type} {P : α → Bool} {l : List α} {r s : Int} (h : Idx P l r) (k : Idx P l s) : r = s := by
 rcases h with ⟨rfl, h⟩ | ⟨i, t, rfl, hi, ht, hall⟩ <;> rcases k with ⟨rfl, k⟩ | ⟨j, u, rfl, hj, hu, kall⟩
 ·rfl
 ·rw [h u (List.mem_of_getElem? hj)] at hu; cases hu
 ·rw [k t (List.mem_of_getElem? hi)] at ht; cases ht
 ·have h1 : ¬ i < j := fun hlt => by
   have := kall t (List.mem_of_getElem? (by rw [List.getElem?_take_of_lt hlt]; exact hi))
   rw [ht] at this; cases this
  have h2 : ¬ j < i := fun hlt => by
   have := hall u (List.mem_of_getElem? (by rw [List.getElem?_take_of_lt hlt]; exact hj))
   rw [hu] at this; cases this
  have : i = j := by omega
  rw [this]

set_option maxRecDepth 100000 in
set_option maxHeartbeats 4000000 in
set_option linter.all false in
theorem rplace_cl (x : PrM) (s : Tx) (w : World) (hr : Rd w x.A1 (x.cs.flatMap clC)) (hl : x.cs.length ≤ 140737488351232) : Calls Try.prog 14 #[.agg (prC x).toArray, .string ⟨s.toArray⟩] w fun e w' => ∃ r, e = .returned (.int .i64 r) ∧ Idx (fun u : ClM => (u.nm == s)) x.cs r ∧ Below w.heap.size w w' := by
 obtain ⟨W, hW⟩ : ∃ W, W = w.alloc (.cells (prC x).toArray 27) := ⟨_, rfl⟩
 have hal : Below w.heap.size w W := by rw [hW]; exact (Below.refl _ w).alloc (Nat.le_refl _) _
 have HAL := Lib.hid hal
 have hblk : W.heap[w.heap.size]? = some (.cells (prC x).toArray 27 (0, 0)) := by rw [hW]; exact heap_alloc_new w _
 have HBK := Lib.hid hblk; have HLT := Lib.hid (blk_lt hblk)
 obtain ⟨x0_0, x0_1, x0_2, x0_3, x0_4⟩ := pr_cells hblk
 have K0 := Lib.hid (Below.refl W.heap.size W)
 have HRD := Lib.hid (hr.below hal)
 obtain ⟨n, hn⟩ : ∃ n, n = x.cs.length := ⟨_, rfl⟩
 rw [← hn] at hl
 have nI : (n : Int) ≤ 281474976710656 := by omega
 have HN := Lib.hid hn
 have HCE := Lib.hid (show ∀ v : World, Below W.heap.size W v → v.cell? ⟨w.heap.size, 0, none⟩ = some (.slice x.A1 n x.c1) from fun v hv => by
  have h := pr_cells ((hv.block _ HLT.out).trans HBK.out)
  rw [hn]; exact h.1)
 clear x0_0 x0_1 x0_2 x0_3 x0_4
 have x0 := HCE.out W K0.out
 unfold prC at hW ⊢
 rw [← hn] at hW ⊢
 try dsimp only at hW ⊢
 have HW := Lib.hid hW
 clear hal hblk hW hr hn hl
 go_enter Try.func14, Try.ntmps14
 go_wp2_with fail
 rw [← HW.out]
 (try go_wp2_with fail)
 clear x0
 go_loopw [5] (fun i wr => ∃ k : Nat, i = .int .i64 (k : Int) ∧ k ≤ n ∧ (∀ t ∈ x.cs.take k, (fun u : ClM => (u.nm == s)) t = false) ∧ Below W.heap.size W wr) (fun i _ => n - (intOf i).toNat)
 case atStart => exact ⟨0, rfl, Nat.zero_le _, by simp, K0.out⟩
 case round =>
  obtain ⟨k, rfl, hk, hall, hbw⟩ := hrel
  obtain ⟨wa, wa_eq⟩ : ∃ v, v = wr := ⟨_, rfl⟩
  subst wa_eq
  have HA := Lib.hid hall; have HB := Lib.hid hbw
  have g0 := HCE.out _ hbw
  clear hall
  by_cases hlt : k < n
  ·have hltI : (k : Int) < (n : Int) := by omega
   obtain ⟨u, hx⟩ : ∃ u, x.cs[k]? = some u := ⟨x.cs[k]'(by rw [← HN.out]; exact hlt), List.getElem?_eq_getElem _⟩
   obtain ⟨a, ea, ha, c0, c1, c2, c3, c4, c5, c6⟩ := cl_at (HRD.out.below hbw) hx
   rw [ea] at g0
   have hmt := take_more (P := (fun u : ClM => (u.nm == s))) HA.out hx
   cases h1 : (u.nm == s) with
   | true =>
    have HI := Lib.hid (show Idx (fun u : ClM => (u.nm == s)) x.cs (k : Int) from .inr ⟨k, _, rfl, hx, h1, HA.out⟩)
    clear hx hmt hbw ha ea
    go_wp2
    go_ret
    exact ⟨_, rfl, HI.out, HAL.out.trans (HB.out.mono HAL.out.size)⟩
   | false =>
    have HM := Lib.hid (hmt (h1))
    clear hx hmt hbw ha ea
    go_wp2
    go_roundw
    case rel => exact ⟨k + 1, by go_num, by omega, HM.out, HB.out⟩
    case measure => simp [intOf]; omega
  ·have hltI : ¬ (k : Int) < (n : Int) := by omega
   have hall := HA.out
   rw [List.take_of_length_le (by rw [← HN.out]; omega)] at hall
   have HI := Lib.hid (show Idx (fun u : ClM => (u.nm == s)) x.cs (-1) from .inl ⟨rfl, hall⟩)
   clear hall hbw
   go_wp2
   go_ret
   exact ⟨_, rfl, HI.out, HAL.out.trans (HB.out.mono HAL.out.size)⟩

end Go.Proofs.Ytgpfohpmgbnimaa.prg

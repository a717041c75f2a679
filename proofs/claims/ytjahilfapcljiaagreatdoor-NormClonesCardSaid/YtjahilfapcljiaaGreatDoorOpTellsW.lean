/-
 What an instruction reads and sets, and where it may jump, is as the document says, and whether two are the same: the document's answers, and the walk of OpTells.
-/
import Derived.Test.YtjahilfapcljiaaGreatDoorOpL
import Derived.Test.YtjahilfapcljiaaGreatDoorOpU
import Derived.Test.YtjahilfapcljiaaGreatDoorOpG
import Derived.Test.YtjahilfapcljiaaGreatDoorRef
import Derived.Deep.RegionHeld3
/- Layer 7: the document's answers: what an instruction reads, sets, and where it may jump; whether two are the same. -/
namespace Go.Proofs.YtjahilfapcljiaaGreatDoor.op
open Go.RowKit
open words kindp opp kind
end Go.Proofs.YtjahilfapcljiaaGreatDoor.op

/- Layer 7: the document's answers: the registers that an instruction reads. -/
namespace Go.Proofs.YtjahilfapcljiaaGreatDoor.op
open Go.RowKit
open words kindp opp kind
end Go.Proofs.YtjahilfapcljiaaGreatDoor.op

/- Layer 7: the document's answers: whether two instructions are the same. -/
namespace Go.Proofs.YtjahilfapcljiaaGreatDoor.op
open Go.RowKit
open words kindp opp kind

theorem in_eq {i j : In} (h : i.ar = j.ar) (e0 : (i.o == j.o) = true) (e1 : (i.a == j.a) = true) (e2 : (i.b == j.b) = true) (e3 : (i.c == j.c) = true) (e4 : (i.k == j.k) = true) (e5 : (i.cl == j.cl) = true) (e6 : (i.nm == j.nm) = true) (e7 : (i.ds == j.ds) = true) : i = j := by
 obtain ⟨o, a, b, c, k, cl, nm, ds, ar⟩ := i
 obtain ⟨o', a', b', c', k', cl', nm', ds', ar'⟩ := j
 simp only [beq_iff_eq] at e0 e1 e2 e3 e4 e5 e6 e7
 subst e0 e1 e2 e3 e4 e5 e6 e7 h
 rfl
set_option maxRecDepth 100000 in
set_option maxHeartbeats 8000000 in
theorem same_r (i j : In) (A C : Option Addr) (c d : Nat) (w : World) (hr : Rd w A (IL i.ar)) (kr : Rd w C (IL j.ar)) (hl : i.ar.length ≤ 281474976710656) (hk : j.ar.length ≤ 281474976710656) :
  Calls Tryz.prog 137 #[.agg (InV i A c), .agg (InV j C d)] w fun e w' => e = .returned (.bool (decide (i = j))) ∧ Below w.heap.size w w' := by
 obtain ⟨W, hW⟩ : ∃ W, W = (w.alloc (.cells (InV i A c) 50)).alloc (.cells (InV j C d) 50) := ⟨_, rfl⟩
 have hal : Below w.heap.size w W := by rw [hW]; exact ((Below.refl _ w).alloc (Nat.le_refl _) _).alloc (by simp) _
 have HAL := Lib.hid hal
 have hbi : W.heap[w.heap.size]? = some (.cells (InV i A c) 50 (0, 0)) := by rw [hW]; exact (Below.heap_alloc _ _ _ (by simp)).trans (heap_alloc_new w _)
 have hbj : W.heap[w.heap.size + 1]? = some (.cells (InV j C d) 50 (0, 0)) := by
  rw [hW]
  have := heap_alloc_new (w.alloc (.cells (InV i A c) 50)) (.cells (InV j C d) 50)
  rwa [World.size_alloc] at this
 obtain ⟨a0, a1, a2, a3, a4, a5, a6, a7, a8⟩ := in_cells hbi
 obtain ⟨b0, b1, b2, b3, b4, b5, b6, b7, b8⟩ := in_cells hbj
 have h1 := hr.below hal
 have h2 := kr.below hal
 obtain ⟨n, hn⟩ : ∃ n, n = i.ar.length := ⟨_, rfl⟩
 obtain ⟨m, hm⟩ : ∃ m, m = j.ar.length := ⟨_, rfl⟩
 have hnI : (n : Int) ≤ 281474976710656 := by omega
 have hmI : (m : Int) ≤ 281474976710656 := by omega
 obtain ⟨R, hR⟩ : ∃ R, R = decide (i = j) := ⟨_, rfl⟩
 dsimp only [InV] at hW ⊢
 rw [← hR, ← hn, ← hm]
 rw [← hn] at hW a8
 rw [← hm] at hW b8
 have HR := Lib.hid hR; have HN := Lib.hid hn; have HM := Lib.hid hm; have HW := Lib.hid hW
 clear hl hk hR hal hbi hbj hr kr hW
 by_cases hnm : n = m
 ·subst hnm
  have hnn : ((n : Int) != n) = false := by simp
  clear hn hm
  go_enter Tryz.func137, Tryz.ntmps137
  go_wp2
  try simp only [World.size_alloc]
  rw [← HW.out]
  go_loopw [5] (fun z wr => ∃ k : Nat, k ≤ n ∧ z = .int .i64 (k : Int) ∧ (∃ q, wr = W.drewN q) ∧ i.ar.take k = j.ar.take k) (fun z _ => n - (intOf z).toNat)
  case atStart => exact ⟨0, Nat.zero_le _, rfl, ⟨0, rfl⟩, rfl⟩
  case round =>
   obtain ⟨k, hkn, rfl, ⟨q, rfl⟩, ht⟩ := hrel
   have HT := Lib.hid ht
   clear ht
   by_cases hlt : k < n
   ·obtain ⟨x, hx⟩ : ∃ x, i.ar[k]? = some x := ⟨i.ar[k]'(by have := HN.out; omega), List.getElem?_eq_getElem _⟩
    obtain ⟨y, hy⟩ : ∃ y, j.ar[k]? = some y := ⟨j.ar[k]'(by have := HM.out; omega), List.getElem?_eq_getElem _⟩
    have HX := Lib.hid hx; have HY := Lib.hid hy
    obtain ⟨p, rfl, _, hp⟩ := h1.at_ (IL_at hx)
    obtain ⟨s, rfl, _, hs⟩ := h2.at_ (IL_at hy)
    by_cases hxy : x = y
    ·subst hxy
     have hxx : (x != x) = false := by simp
     clear h1 h2 hx hy
     go_wp2
     go_quiet (fail)
     go_wp2
     go_roundw
     case rel => exact ⟨k + 1, by omega, by go_num, ⟨_, rfl⟩, by rw [List.take_add_one, List.take_add_one, HT.out, HX.out, HY.out]⟩
     case measure => simp [intOf]; omega
    ·have hxx : (x != y) = true := by simpa using hxy
     have hf : R = false := by
      rw [HR.out]
      refine decide_eq_false fun e => hxy ?_
      have h1 := HX.out
      rw [e, HY.out] at h1
      exact (Option.some.inj h1).symm
     subst hf
     clear h1 h2 hx hy hxy
     go_wp2
     go_quiet (fail)
     go_wp2
     go_ret
     exact ⟨rfl, over (over HAL.out)⟩
   ·have HEA := Lib.hid (show i.ar = j.ar by
     have h1 := HT.out
     rwa [List.take_of_length_le (by have := HN.out; omega), List.take_of_length_le (by have := HM.out; omega)] at h1)
    clear h1 h2
    cases e0 : (i.o == j.o) with
    | false =>
     obtain rfl : R = false := by rw [HR.out, in_ne (b := (i.o == j.o)) (fun h => by rw [h]; simp) e0]
     go_wp2
     go_ret
     exact ⟨rfl, over HAL.out⟩
    | true =>
     cases e1 : (i.a == j.a) with
     | false =>
      obtain rfl : R = false := by rw [HR.out, in_ne (b := (i.a == j.a)) (fun h => by rw [h]; simp) e1]
      go_wp2
      go_ret
      exact ⟨rfl, over HAL.out⟩
     | true =>
      cases e2 : (i.b == j.b) with
      | false =>
       obtain rfl : R = false := by rw [HR.out, in_ne (b := (i.b == j.b)) (fun h => by rw [h]; simp) e2]
       go_wp2
       go_ret
       exact ⟨rfl, over HAL.out⟩
      | true =>
       cases e3 : (i.c == j.c) with
       | false =>
        obtain rfl : R = false := by rw [HR.out, in_ne (b := (i.c == j.c)) (fun h => by rw [h]; simp) e3]
        go_wp2
        go_ret
        exact ⟨rfl, over HAL.out⟩
       | true =>
        cases e4 : (i.k == j.k) with
        | false =>
         obtain rfl : R = false := by rw [HR.out, in_ne (b := (i.k == j.k)) (fun h => by rw [h]; simp) e4]
         go_wp2
         go_ret
         exact ⟨rfl, over HAL.out⟩
        | true =>
         cases e5 : (i.cl == j.cl) with
         | false =>
          obtain rfl : R = false := by rw [HR.out, in_ne (b := (i.cl == j.cl)) (fun h => by rw [h]; simp) e5]
          go_wp2
          go_ret
          exact ⟨rfl, over HAL.out⟩
         | true =>
          cases e6 : (i.nm == j.nm) with
          | false =>
           obtain rfl : R = false := by rw [HR.out, in_ne (b := (i.nm == j.nm)) (fun h => by rw [h]; simp) e6]
           go_wp2
           go_ret
           exact ⟨rfl, over HAL.out⟩
          | true =>
           cases e7 : (i.ds == j.ds) with
           | false =>
            obtain rfl : R = false := by rw [HR.out, in_ne (b := (i.ds == j.ds)) (fun h => by rw [h]; simp) e7]
            go_wp2
            go_ret
            exact ⟨rfl, over HAL.out⟩
           | true =>
            obtain rfl : R = true := by
             rw [HR.out]
             refine decide_eq_true ?_
             exact in_eq HEA.out e0 e1 e2 e3 e4 e5 e6 e7
            go_wp2
            go_ret
            exact ⟨rfl, over HAL.out⟩
 ·have hnn : ((n : Int) != m) = true := by
   have : (n : Int) ≠ m := by omega
   simpa using this
  obtain rfl : R = false := by
   rw [HR.out]
   refine decide_eq_false fun e => hnm ?_
   rw [HN.out, HM.out, e]
  clear hn hm h1 h2
  go_enter Tryz.func137, Tryz.ntmps137
  go_wp2
  go_ret
  exact ⟨rfl, by rw [← HW.out]; exact HAL.out⟩
end Go.Proofs.YtjahilfapcljiaaGreatDoor.op

/- The walk of OpTells: what an instruction reads and sets, and where it may jump, is as the document says; and so is whether two are the same. -/
namespace Go.Proofs.YtjahilfapcljiaaGreatDoor.opTells
open Go.RowKit
open words kindp opp op kind

theorem overD {b : Nat} {a c : World} (h : Below b a c) : Below b a c.drew := ⟨h.os, h.tape, h.output, h.size, h.block⟩
end Go.Proofs.YtjahilfapcljiaaGreatDoor.opTells

/-
 Layer 7: whether two instructions are the same; the registers that a letter tells: the program's answers.
-/
import Derived.Test.YtjcdgpfffmnneaaGreatDoorOpB
namespace Go.Proofs.YtjcdgpfffmnneaaGreatDoor.op
open Go.RowKit
open words kindp opp

theorem in_ne {i j : In} {b : Bool} (h : i = j → b = true) (hb : b = false) : decide (i = j) = false := decide_eq_false fun e => by rw [h e] at hb; cases hb
set_option maxRecDepth 100000 in
set_option maxHeartbeats 4000000 in
theorem same_w (i j : In) (A C : Option Addr) (c d : Nat) (w : World) (hr : Rd w A (IL i.ar)) (kr : Rd w C (IL j.ar)) (hl : i.ar.length ≤ 281474976710656) (hk : j.ar.length ≤ 281474976710656) :
  Calls Tryz.prog 101 #[.agg (InV i A c), .agg (InV j C d)] w fun e w' => e = .returned (.bool (decide (i = j))) ∧ Below w.heap.size w w' := by
 have hal : Below w.heap.size w ((w.alloc (.cells (InV i A c) 49)).alloc (.cells (InV j C d) 49)) := ((Below.refl _ w).alloc (Nat.le_refl _) _).alloc (by simp) _
 have HAL := Lib.hid hal
 have HEQ := Lib.hid (fun w' (h : Below w.heap.size w w') => equal_w A C c d i.ar j.ar w' (hr.below h) (kr.below h) hl hk)
 unfold InV at HAL ⊢
 clear hal hr kr hl hk
 cases e0 : (i.o == j.o) with
 | false =>
  rw [in_ne (b := (i.o == j.o)) (fun h => by rw [h]; simp) e0]
  clear HEQ
  go_enter Tryz.func101, Tryz.ntmps101
  go_wp2
  go_ret
  exact ⟨rfl, HAL.out⟩
 | true =>
  cases e1 : (i.a == j.a) with
  | false =>
   rw [in_ne (b := (i.a == j.a)) (fun h => by rw [h]; simp) e1]
   clear HEQ
   go_enter Tryz.func101, Tryz.ntmps101
   go_wp2
   go_ret
   exact ⟨rfl, HAL.out⟩
  | true =>
   cases e2 : (i.b == j.b) with
   | false =>
    rw [in_ne (b := (i.b == j.b)) (fun h => by rw [h]; simp) e2]
    clear HEQ
    go_enter Tryz.func101, Tryz.ntmps101
    go_wp2
    go_ret
    exact ⟨rfl, HAL.out⟩
   | true =>
    cases e3 : (i.c == j.c) with
    | false =>
     rw [in_ne (b := (i.c == j.c)) (fun h => by rw [h]; simp) e3]
     clear HEQ
     go_enter Tryz.func101, Tryz.ntmps101
     go_wp2
     go_ret
     exact ⟨rfl, HAL.out⟩
    | true =>
     cases e4 : (i.k == j.k) with
     | false =>
      rw [in_ne (b := (i.k == j.k)) (fun h => by rw [h]; simp) e4]
      clear HEQ
      go_enter Tryz.func101, Tryz.ntmps101
      go_wp2
      go_ret
      exact ⟨rfl, HAL.out⟩
     | true =>
      cases e5 : (i.cl == j.cl) with
      | false =>
       rw [in_ne (b := (i.cl == j.cl)) (fun h => by rw [h]; simp) e5]
       clear HEQ
       go_enter Tryz.func101, Tryz.ntmps101
       go_wp2
       go_ret
       exact ⟨rfl, HAL.out⟩
      | true =>
       cases e6 : (i.nm == j.nm) with
       | false =>
        rw [in_ne (b := (i.nm == j.nm)) (fun h => by rw [h]; simp) e6]
        clear HEQ
        go_enter Tryz.func101, Tryz.ntmps101
        go_wp2
        go_ret
        exact ⟨rfl, HAL.out⟩
       | true =>
        cases e7 : (i.ds == j.ds) with
        | false =>
         rw [in_ne (b := (i.ds == j.ds)) (fun h => by rw [h]; simp) e7]
         clear HEQ
         go_enter Tryz.func101, Tryz.ntmps101
         go_wp2
         go_ret
         exact ⟨rfl, HAL.out⟩
        | true =>
         have hd : decide (i = j) = decide (i.ar = j.ar) := by
          obtain ⟨o, a, b, c, k, cl, nm, ds, ar⟩ := i
          obtain ⟨o', a', b', c', k', cl', nm', ds', ar'⟩ := j
          simp only [beq_iff_eq] at e0 e1 e2 e3 e4 e5 e6 e7
          subst e0 e1 e2 e3 e4 e5 e6 e7
          simp
         rw [hd]
         obtain ⟨R, hR⟩ : ∃ R, R = decide (i.ar = j.ar) := ⟨_, rfl⟩
         rw [← hR] at HEQ ⊢
         clear hR hd
         go_enter Tryz.func101, Tryz.ntmps101
         go_wp2_with fail
         refine (HEQ.out _ HAL.out).mono ?_
         rintro e w1 ⟨rfl, q, rfl⟩
         go_wp2
         go_ret
         exact ⟨rfl, over HAL.out⟩

/-- the registers that a letter tells, as a slice -/
def LetP (i : In) (A0 : Option Addr) (x : UInt8) (w : World) (e : Ending) (w' : World) : Prop :=
 (∃ A c, e = .returned (.slice A (lettered i x).length c) ∧ (lettered i x).length ≤ c ∧ Rd w' A (IL (lettered i x)) ∧ (x = 118 → A = A0)) ∧ Below w.heap.size w w'
set_option maxRecDepth 100000 in
set_option maxHeartbeats 2000000 in
theorem lettered_w (i : In) (A : Option Addr) (c : Nat) (x : UInt8) (w : World) (hr : Rd w A (IL i.ar)) (hc : i.ar.length ≤ c) :
  Calls Tryz.prog 168 #[.agg (InV i A c), .int .i32 ((x.toNat : Nat) : Int)] w (LetP i A x w) := by
 have hal : Below w.heap.size w (w.alloc (.cells (InV i A c) 49)) := (Below.refl _ w).alloc (Nat.le_refl _) _
 have HAL := Lib.hid hal
 have HR := Lib.hid (hr.below hal)
 have hone : ∀ z, x ≠ 118 → lettered i x = [z] → ∀ W : World, Below w.heap.size w W → LetP i A x w (.returned (.slice (some ⟨W.heap.size, 0, none⟩) 1 1)) (W.alloc (.cells #[.int .i64 z] 3)) := by
  intro z hx hz W hW
  unfold LetP
  rw [hz]
  exact ⟨⟨some ⟨W.heap.size, 0, none⟩, 1, rfl, Nat.le_refl _, rd_blk (heap_alloc_new W _) (k := 1) rfl, fun e => absurd e hx⟩, hW.alloc hW.size _⟩
 have HO := Lib.hid hone
 unfold InV at HAL HR ⊢
 clear hal hone hr
 rcases letters x with rfl | rfl | rfl | rfl | rfl | rfl | rfl | rfl | rfl | rfl | ⟨e1, e2, e3, e4, e5, e6, e7, e8, e9, e10⟩
 ·have HZ := Lib.hid (HO.out i.a (by decide) rfl _ HAL.out)
  simp only [World.size_alloc] at HZ
  clear HO
  go_enter Tryz.func168, Tryz.ntmps168
  go_wp2
  go_ret
  exact HZ.out
 ·have HZ := Lib.hid (HO.out i.b (by decide) rfl _ HAL.out)
  simp only [World.size_alloc] at HZ
  clear HO
  go_enter Tryz.func168, Tryz.ntmps168
  go_wp2
  go_ret
  exact HZ.out
 ·have HZ := Lib.hid (HO.out i.c (by decide) rfl _ HAL.out)
  simp only [World.size_alloc] at HZ
  clear HO
  go_enter Tryz.func168, Tryz.ntmps168
  go_wp2
  go_ret
  exact HZ.out
 ·have HZ := Lib.hid (show LetP i A 107 w (.returned (.slice none 0 0)) _ from ⟨⟨none, 0, rfl, Nat.le_refl _, Rd.nil _ _, fun e => absurd e (by decide)⟩, HAL.out⟩)
  clear HO
  go_enter Tryz.func168, Tryz.ntmps168
  go_wp2
  go_ret
  exact HZ.out
 ·have HZ := Lib.hid (show LetP i A 116 w (.returned (.slice none 0 0)) _ from ⟨⟨none, 0, rfl, Nat.le_refl _, Rd.nil _ _, fun e => absurd e (by decide)⟩, HAL.out⟩)
  clear HO
  go_enter Tryz.func168, Tryz.ntmps168
  go_wp2
  go_ret
  exact HZ.out
 ·have HZ := Lib.hid (show LetP i A 114 w (.returned (.slice none 0 0)) _ from ⟨⟨none, 0, rfl, Nat.le_refl _, Rd.nil _ _, fun e => absurd e (by decide)⟩, HAL.out⟩)
  clear HO
  go_enter Tryz.func168, Tryz.ntmps168
  go_wp2
  go_ret
  exact HZ.out
 ·have HZ := Lib.hid (show LetP i A 67 w (.returned (.slice none 0 0)) _ from ⟨⟨none, 0, rfl, Nat.le_refl _, Rd.nil _ _, fun e => absurd e (by decide)⟩, HAL.out⟩)
  clear HO
  go_enter Tryz.func168, Tryz.ntmps168
  go_wp2
  go_ret
  exact HZ.out
 ·have HZ := Lib.hid (show LetP i A 70 w (.returned (.slice none 0 0)) _ from ⟨⟨none, 0, rfl, Nat.le_refl _, Rd.nil _ _, fun e => absurd e (by decide)⟩, HAL.out⟩)
  clear HO
  go_enter Tryz.func168, Tryz.ntmps168
  go_wp2
  go_ret
  exact HZ.out
 ·have HZ := Lib.hid (show LetP i A 77 w (.returned (.slice none 0 0)) _ from ⟨⟨none, 0, rfl, Nat.le_refl _, Rd.nil _ _, fun e => absurd e (by decide)⟩, HAL.out⟩)
  clear HO
  go_enter Tryz.func168, Tryz.ntmps168
  go_wp2
  go_ret
  exact HZ.out
 ·have HZ := Lib.hid (show LetP i A 118 w (.returned (.slice A i.ar.length c)) _ from ⟨⟨A, c, rfl, hc, HR.out, fun _ => rfl⟩, HAL.out⟩)
  clear HO
  go_enter Tryz.func168, Tryz.ntmps168
  go_wp2
  go_ret
  exact HZ.out
 ·have n1 := ne_nat (n := 97) e1
  have n2 := ne_nat (n := 98) e2
  have n3 := ne_nat (n := 99) e3
  have n10 := ne_nat (n := 118) e10
  have hnil : lettered i x = [] := by unfold lettered; rw [if_neg e1, if_neg e2, if_neg e3, if_neg e10]
  have HZ := Lib.hid (show LetP i A x w (.returned (.slice none 0 0)) _ from ⟨⟨none, 0, by rw [hnil]; rfl, by rw [hnil]; exact Nat.le_refl _, by rw [hnil]; exact Rd.nil _ _, fun e => absurd e e10⟩, HAL.out⟩)
  clear HO e1 e2 e3 e4 e5 e6 e7 e8 e9 e10 hnil
  go_enter Tryz.func168, Tryz.ntmps168
  go_wp2
  go_ret
  exact HZ.out
end Go.Proofs.YtjcdgpfffmnneaaGreatDoor.op

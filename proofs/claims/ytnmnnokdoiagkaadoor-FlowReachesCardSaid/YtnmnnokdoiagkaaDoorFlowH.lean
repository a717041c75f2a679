/-
 Layer 14: a fixed code, and what is answered of it; so many as are gone through.
-/
import Derived.Test.YtnmnnokdoiagkaaDoorFlowG
import Derived.Test.YtnmnnokdoiagkaaDoorOpL
namespace Go.Proofs.YtnmnnokdoiagkaaDoor.flow
open Go.RowKit Go.Shelf
open words kindp opp op prg flowp kind
attribute [local go_sem] Oper.semAt_some

def mJ : InM := ⟨⟨6, 0, 0, 0, 2, [], [], [], []⟩, none, 0⟩
def mN : InM := ⟨⟨1, 0, 0, 0, 0, [], [], [], []⟩, none, 0⟩
def mE : InM := ⟨⟨23, 0, 0, 0, 0, [], [], [], []⟩, none, 0⟩
def L3 : List InM := [mJ, mN, mE]
def L2 : List InM := [mJ, mN]
theorem chk2 : checkE (L2.map (·.i)) = (12, 0) := by decide +kernel
theorem chk3 : checkE (L3.map (·.i)) = (0, 0) := by decide +kernel
theorem on0 : onL (L3.map (·.i)) ((0 : Nat) : Int) = [2] := by decide +kernel
theorem on2 : onL (L3.map (·.i)) ((2 : Nat) : Int) = [] := by decide +kernel
theorem nxt0 : nextL (L3.map (·.i)) 0 = [2] := by
 have h : onL (L3.map (·.i)) 0 = [2] := on0
 unfold nextL
 rw [h]
 exact ordL_of (by simp [Inc]) fun _ => Iff.rfl
theorem come2 : comeL (L3.map (·.i)) 2 = [0, 1] := by decide +kernel
theorem blk3 : blocksL (L3.map (·.i)) = [0, 1, 2] := by rw [blocks_eq]; decide +kernel
theorem ded3 : deadL [0, -1, 1] = [1] := by decide +kernel
theorem ok3 : DistOk (L3.map (·.i)) [0, -1, 1] where
 len := rfl
 z := fun _ => rfl
 ge := fun i => match i with
  | 0 => by decide
  | 1 => by decide
  | 2 => by decide
  | n + 3 => by simp [dl]
 back := fun i => match i with
  | 0 => fun _ h => absurd rfl h
  | 1 => fun h => absurd h (by decide)
  | 2 => fun _ _ => ⟨0, by decide, by decide, by rw [on0]; decide⟩
  | n + 3 => fun h => absurd h (by simp [dl])
 fwd := fun i => match i with
  | 0 => fun _ t ht => by rw [on0] at ht; obtain rfl : t = 2 := (by simpa using ht); decide
  | 1 => fun h => absurd h (by decide)
  | 2 => fun _ t ht => by rw [on2] at ht; cases ht
  | n + 3 => fun h => absurd h (by simp [dl])

theorem check2 (A : Option Addr) (c : Nat) (w : World) (hr : Rd w A (L2.flatMap inC)) (hs : Sh w) (hm : Mx w) :
  Calls Tryd.prog 9 #[.slice A 2 c] w fun e w' => e = .returned (.tuple #[.int .i64 12, .int .i64 0]) ∧ Below w.heap.size w w' := by
 have h := check_w A c L2 w (by decide) hr hs hm
 rw [chk2] at h
 exact h
theorem check3 (A : Option Addr) (c : Nat) (w : World) (hr : Rd w A (L3.flatMap inC)) (hs : Sh w) (hm : Mx w) :
  Calls Tryd.prog 9 #[.slice A 3 c] w fun e w' => e = .returned (.tuple #[.int .i64 0, .int .i64 0]) ∧ Below w.heap.size w w' := by
 have h := check_w A c L3 w (by decide) hr hs hm
 rw [chk3] at h
 exact h
theorem dist3 (A : Option Addr) (c : Nat) (w : World) (hr : Rd w A (L3.flatMap inC)) (hs : Sh w) :
  Calls Tryd.prog 17 #[.slice A 3 c] w fun e w' => ∃ A' c', e = .returned (.slice A' 3 c') ∧ Rd w' A' (IL [0, -1, 1]) ∧ Below w.heap.size w w' := by
 refine (dist_w A c L3 w (by decide) hr hs).mono ?_
 rintro e w' ⟨D, A', c', hD, rfl, h1, h2⟩
 obtain rfl := dist_unique hD ok3
 exact ⟨A', c', rfl, h1, h2⟩
theorem dead3 (A : Option Addr) (c : Nat) (w : World) (hr : Rd w A (L3.flatMap inC)) (hs : Sh w) :
  Calls Tryd.prog 19 #[.slice A 3 c] w fun e w' => ∃ A' c', e = .returned (.slice A' 1 c') ∧ Rd w' A' (IL [1]) ∧ Below w.heap.size w w' := by
 refine (dead_w A c L3 w (by decide) hr hs).mono ?_
 rintro e w' ⟨D, hD, A', c', rfl, h1, h2⟩
 obtain rfl := dist_unique hD ok3
 rw [ded3] at h1 ⊢
 exact ⟨A', c', rfl, h1, h2⟩
theorem blocks3 (A : Option Addr) (c : Nat) (w : World) (hr : Rd w A (L3.flatMap inC)) (hs : Sh w) :
  Calls Tryd.prog 21 #[.slice A 3 c] w fun e w' => ∃ A' c', e = .returned (.slice A' 3 c') ∧ Rd w' A' (IL [0, 1, 2]) ∧ Below w.heap.size w w' := by
 have h := blocks_w A c L3 w (by decide) hr hs
 unfold BlP at h
 rw [blk3] at h
 exact h
theorem next3 (A : Option Addr) (c : Nat) (w : World) (hr : Rd w A (L3.flatMap inC)) (hs : Sh w) :
  Calls Tryd.prog 13 #[.slice A 3 c, .int .i64 0] w fun e w' => ∃ A' c', e = .returned (.slice A' 1 c') ∧ Rd w' A' (IL [2]) ∧ Below w.heap.size w w' := by
 have h := next_w A c L3 0 w (by decide) hr hs
 rw [nxt0] at h
 exact h
theorem back3 (A : Option Addr) (c : Nat) (w : World) (hr : Rd w A (L3.flatMap inC)) (hs : Sh w) :
  Calls Tryd.prog 15 #[.slice A 3 c, .int .i64 2] w fun e w' => ∃ A' c', e = .returned (.slice A' 2 c') ∧ Rd w' A' (IL [0, 1]) ∧ Below w.heap.size w w' := by
 have h := back_w A c L3 2 w (by decide) hr hs
 rw [come2] at h
 exact h

theorem rd_firsts {w : World} {A : Option Addr} {L : List InM} (k : Nat) (h : Rd w A (L.flatMap inC)) : Rd w A ((L.take k).flatMap inC) := by
 have e : L.flatMap inC = (L.take k).flatMap inC ++ (L.drop k).flatMap inC := by rw [← List.flatMap_append, List.take_append_drop]
 have := h.take ((L.take k).flatMap inC).length
 rw [e, List.take_left' rfl] at this
 exact this

set_option maxRecDepth 100000 in
set_option maxHeartbeats 400000 in
/-- so many instructions as are gone through -/
theorem few_w (A : Option Addr) (c : Nat) (L : List InM) (w : World) (hz : L.length ≤ 281474976710656) (hc : L.length ≤ c) (hr : Rd w A (L.flatMap inC)) :
  Calls Tryd.prog 8 #[.slice A L.length c] w fun e w' => ∃ A', e = .returned (.slice A' (L.take 40).length c) ∧ Rd w' A' ((L.take 40).flatMap inC) ∧ w' = w := by
 by_cases h : 40 < L.length
 ·have hl : (L.take 40).length = 40 := by rw [List.length_take]; omega
  have HR := Lib.hid (rd_firsts 40 hr)
  rw [hl]
  have hg : ((40 : Int) < (L.length : Int)) := by omega
  generalize L.length = n at *
  generalize L.take 40 = K at *
  clear hr
  go_enter Tryd.func8, Tryd.ntmps8
  go_wp2
  go_ret
  exact ⟨A, rfl, HR.out, rfl⟩
 ·have hl : L.take 40 = L := List.take_of_length_le (by omega)
  rw [hl]
  have HR := Lib.hid hr
  have hg : ¬ ((40 : Int) < (L.length : Int)) := by omega
  generalize L.length = n at *
  clear hr hl
  go_enter Tryd.func8, Tryd.ntmps8
  go_wp2
  go_ret
  exact ⟨A, rfl, HR.out, rfl⟩

set_option maxRecDepth 100000 in
set_option maxHeartbeats 8000000 in
theorem live14 (w : World) (hs : Sh w) (hm : Mx w) : Calls Tryd.prog 11 #[] w fun e w' => e = .returned (.bool true) ∧ Below w.heap.size w w' := by
 have HS := Lib.hid hs; have HM := Lib.hid hm
 have HS1 := Lib.hid (fun A C c d w h1 h2 => ints_same A C 1 c d [1] w h1 h2 rfl (by decide))
 have HS2 := Lib.hid (fun A C c d w h1 h2 => ints_same A C 1 c d [2] w h1 h2 rfl (by decide))
 have HS3 := Lib.hid (fun A C c d w h1 h2 => ints_same A C 3 c d [0, -1, 1] w h1 h2 rfl (by decide))
 have HS4 := Lib.hid (fun A C c d w h1 h2 => ints_same A C 3 c d [0, 1, 2] w h1 h2 rfl (by decide))
 have HS5 := Lib.hid (fun A C c d w h1 h2 => ints_same A C 2 c d [0, 1] w h1 h2 rfl (by decide))
 clear hs hm
 go_enter Tryd.func11, Tryd.ntmps11
 go_wp2_with fail
 obtain ⟨W, hW⟩ : ∃ W, W = w.alloc (.cells #[.int .i64 6, .int .i64 0, .int .i64 0, .int .i64 0, .int .i64 2, .string ⟨#[]⟩, .string ⟨#[]⟩, .string ⟨#[]⟩, .slice none 0 0, .int .i64 1, .int .i64 0, .int .i64 0, .int .i64 0, .int .i64 0, .string ⟨#[]⟩, .string ⟨#[]⟩, .string ⟨#[]⟩, .slice none 0 0, .int .i64 23, .int .i64 0, .int .i64 0, .int .i64 0, .int .i64 0, .string ⟨#[]⟩, .string ⟨#[]⟩, .string ⟨#[]⟩, .slice none 0 0] 36) := ⟨_, rfl⟩
 have hal : Below w.heap.size w W := by rw [hW]; exact (Below.refl _ w).alloc (Nat.le_refl _) _
 have hrd : Rd W (some ⟨w.heap.size, 0, none⟩) (L3.flatMap inC) := by rw [hW]; exact rd_blk (k := 27) (heap_alloc_new w _) rfl
 rw [← hW]
 have HAL := Lib.hid hal; have HRD := Lib.hid hrd; have HR2 := Lib.hid (rd_firsts 2 hrd)
 have HSW := Lib.hid (HS.out.below hal); have HMW := Lib.hid (HM.out.below hal)
 clear hal hrd hW HS HM
 refine (check2 _ _ W HR2.out HSW.out HMW.out).mono ?_
 rintro e w1 ⟨rfl, k⟩
 have K1 := Lib.hid k; clear k
 go_wp2_with fail
 refine (check3 _ _ w1 (HRD.out.below K1.out) (HSW.out.below K1.out) (HMW.out.below K1.out)).mono ?_
 rintro e w2 ⟨rfl, k⟩
 have K2 := Lib.hid (K1.out.trans (k.mono K1.out.size)); clear k K1
 go_wp2_with fail
 refine (dist3 _ _ w2 (HRD.out.below K2.out) (HSW.out.below K2.out)).mono ?_
 rintro e w3 ⟨A3, c3, rfl, r, k⟩
 have K3 := Lib.hid (K2.out.trans (k.mono K2.out.size)); clear k K2
 have HR := Lib.hid r; clear r
 go_wp2_with fail
 refine (HS3.out _ _ _ _ _ (HR.out.below ((Below.refl _ _).alloc (Nat.le_refl _) _)) (rd_blk (k := 3) (heap_alloc_new _ _) rfl)).mono ?_
 rintro e w4 ⟨rfl, q4, hq⟩
 have K4 := Lib.hid (show Below W.heap.size W w4 from by rw [hq]; exact over (K3.out.alloc K3.out.size _)); clear hq HR K3
 go_wp2_with fail
 refine (dead3 _ _ w4 (HRD.out.below K4.out) (HSW.out.below K4.out)).mono ?_
 rintro e w5 ⟨A5, c5, rfl, r, k⟩
 have K5 := Lib.hid (K4.out.trans (k.mono K4.out.size)); clear k K4
 have HR := Lib.hid r; clear r
 go_wp2_with fail
 refine (HS1.out _ _ _ _ _ (HR.out.below ((Below.refl _ _).alloc (Nat.le_refl _) _)) (rd_blk (k := 1) (heap_alloc_new _ _) rfl)).mono ?_
 rintro e w6 ⟨rfl, q6, hq⟩
 have K6 := Lib.hid (show Below W.heap.size W w6 from by rw [hq]; exact over (K5.out.alloc K5.out.size _)); clear hq HR K5
 go_wp2_with fail
 refine (blocks3 _ _ w6 (HRD.out.below K6.out) (HSW.out.below K6.out)).mono ?_
 rintro e w7 ⟨A7, c7, rfl, r, k⟩
 have K7 := Lib.hid (K6.out.trans (k.mono K6.out.size)); clear k K6
 have HR := Lib.hid r; clear r
 go_wp2_with fail
 refine (HS4.out _ _ _ _ _ (HR.out.below ((Below.refl _ _).alloc (Nat.le_refl _) _)) (rd_blk (k := 3) (heap_alloc_new _ _) rfl)).mono ?_
 rintro e w8 ⟨rfl, q8, hq⟩
 have K8 := Lib.hid (show Below W.heap.size W w8 from by rw [hq]; exact over (K7.out.alloc K7.out.size _)); clear hq HR K7
 go_wp2_with fail
 refine (next3 _ _ w8 (HRD.out.below K8.out) (HSW.out.below K8.out)).mono ?_
 rintro e w9 ⟨A9, c9, rfl, r, k⟩
 have K9 := Lib.hid (K8.out.trans (k.mono K8.out.size)); clear k K8
 have HR := Lib.hid r; clear r
 go_wp2_with fail
 refine (HS2.out _ _ _ _ _ (HR.out.below ((Below.refl _ _).alloc (Nat.le_refl _) _)) (rd_blk (k := 1) (heap_alloc_new _ _) rfl)).mono ?_
 rintro e w10 ⟨rfl, q10, hq⟩
 have K10 := Lib.hid (show Below W.heap.size W w10 from by rw [hq]; exact over (K9.out.alloc K9.out.size _)); clear hq HR K9
 go_wp2_with fail
 refine (back3 _ _ w10 (HRD.out.below K10.out) (HSW.out.below K10.out)).mono ?_
 rintro e w11 ⟨A11, c11, rfl, r, k⟩
 have K11 := Lib.hid (K10.out.trans (k.mono K10.out.size)); clear k K10
 have HR := Lib.hid r; clear r
 go_wp2_with fail
 refine (HS5.out _ _ _ _ _ (HR.out.below ((Below.refl _ _).alloc (Nat.le_refl _) _)) (rd_blk (k := 2) (heap_alloc_new _ _) rfl)).mono ?_
 rintro e w12 ⟨rfl, q12, hq⟩
 have K12 := Lib.hid (show Below W.heap.size W w12 from by rw [hq]; exact over (K11.out.alloc K11.out.size _)); clear hq HR K11
 go_wp2
 go_ret
 exact ⟨rfl, HAL.out.trans (K12.out.mono HAL.out.size)⟩
end Go.Proofs.YtnmnnokdoiagkaaDoor.flow

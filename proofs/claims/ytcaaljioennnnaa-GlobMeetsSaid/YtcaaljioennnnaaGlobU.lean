/-
 Layer 21: whether two patterns have a text in common: the document's answer, by its table.
-/
import Derived.Test.YtcaaljioennnnaaGlobT
namespace Go.Proofs.Ytcaaljioennnnaa.glob
open Go.RowKit
open Go.Proofs.Ytcaaljioennnnaa.words
set_option linter.all false
/-- the places of a row from k on -/
def fromOn (f : Nat → Bool) (k j : Nat) : Bool := decide (k ≤ j) && f j
theorem fromOn_next {f : Nat → Bool} {k : Nat} {b : Bool} (hb : b = f k) (j : Nat) : (if j = k then b else fromOn f (k + 1) j) = fromOn f k j := by
 unfold fromOn
 by_cases h : j = k
 ·subst h; simp [hb]
 ·rw [if_neg h]
  congr 1
  rw [Bool.eq_iff_iff, decide_eq_true_eq, decide_eq_true_eq]; omega
theorem fromOn_skip {f : Nat → Bool} {k : Nat} (hb : f k = false) (j : Nat) : fromOn f (k + 1) j = fromOn f k j := by
 rw [← fromOn_next (b := f k) rfl j]
 by_cases h : j = k
 ·subst h; simp [fromOn, hb]
 ·rw [if_neg h]
theorem fromOn_at {f : Nat → Bool} {k j : Nat} (h : k ≤ j) : fromOn f k j = f j := by unfold fromOn; rw [decide_eq_true h, Bool.true_and]
/-- the row of what is left from i on; ahead of the first one none -/
def rowM (a b : List UInt8) (i k : Nat) : Bool := if i ≤ a.length then tabM a b i k else false
theorem rowM_in {a b : List UInt8} {i : Nat} (h : i ≤ a.length) (k : Nat) : rowM a b i k = tabM a b i k := if_pos h
set_option maxRecDepth 100000 in
set_option maxHeartbeats 8000000 in
theorem meets_r (a b : ByteArray) (w : World) (ha : a.size ≤ 1000) (hb : b.size ≤ 1000) :
  Calls Try.prog 22 #[.string a, .string b] w fun e w' => e = .returned (.bool (meets (lb a) (lb b))) ∧ Below w.heap.size w w' := by
 obtain ⟨P, hP⟩ : ∃ P, P = lb a := ⟨_, rfl⟩
 obtain ⟨S, hS⟩ : ∃ S, S = lb b := ⟨_, rfl⟩
 have hPL : P.length = a.size := by rw [hP, lb_len]
 have hSL : S.length = b.size := by rw [hS, lb_len]
 have hPA : ∀ k (h : k < a.size) (h' : k < P.length), P[k]'h' = a[k]'h := fun k h h' => by subst hP; exact lb_at a k h
 have hSA : ∀ k (h : k < b.size) (h' : k < S.length), S[k]'h' = b[k]'h := fun k h h' => by subst hS; exact lb_at b k h
 rw [← hP, ← hS]
 obtain ⟨N, hN⟩ : ∃ N, N = b.size + 1 := ⟨_, rfl⟩
 have hNI : (b.size : Int) + 1 = (N : Int) := by omega
 have hmk := fun w => make_b N (by omega) w
 have HMK := Lib.hid hmk
 have HN := Lib.hid hN
 have haI : (a.size : Int) ≤ 1000 := by omega
 have hbI : (b.size : Int) ≤ 1000 := by omega
 have HPL := Lib.hid hPL; have HSL := Lib.hid hSL; have HPA := Lib.hid hPA; have HSA := Lib.hid hSA
 clear hN hP hS hPL hSL hPA hSA
 have HG2 := Lib.hid (show (w.alloc (.cells (RB N (fun _ => false)).toArray 4)).heap[w.heap.size]? = some (.cells (RB N (rowM P S (a.size + 1))).toArray 4 (0, 0)) from by
  rw [heap_alloc_new, RB_congr (g := rowM P S (a.size + 1))]
  intro j _
  unfold rowM; rw [if_neg (by rw [HPL.out]; omega)])
 have HB2 := Lib.hid (show Below w.heap.size w (w.alloc (.cells (RB N (fun _ => false)).toArray 4)) from (Below.refl _ w).alloc (Nat.le_refl _) _)
 go_enter Try.func22, Try.ntmps22
 go_wp2
 go_loopw [5, 6] (fun v q wr => ∃ (i1 g : Nat) (z : Int), q = .int .i64 z ∧ z = (i1 : Int) - 1 ∧ i1 ≤ a.size + 1 ∧ v = .slice (some ⟨g, 0, none⟩) N N ∧ w.heap.size ≤ g ∧ wr.heap[g]? = some (.cells (RB N (rowM P S i1)).toArray 4 (0, 0)) ∧ Below w.heap.size w wr) (fun _ q _ => (intOf q + 1).toNat)
 case atStart => exact ⟨a.size + 1, w.heap.size, (a.size : Int), rfl, by omega, Nat.le_refl _, rfl, Nat.le_refl _, HG2.out, HB2.out⟩
 case round =>
  obtain ⟨i1, g, z, rfl, hz, hi1, rfl, hgw, hg, hb⟩ := hrel
  obtain ⟨wa, hwa⟩ : ∃ wa, wa = wr := ⟨_, rfl⟩
  subst hwa
  clear HG2 HB2
  have hgl := (Array.getElem?_eq_some_iff.1 hg).1
  by_cases h01 : 0 < i1
  ·obtain ⟨i, hi⟩ : ∃ i, i1 = i + 1 := ⟨i1 - 1, by omega⟩
   obtain rfl : z = (i : Int) := by omega
   have hia : i ≤ a.size := by omega
   have hiaI : (i : Int) ≤ (a.size : Int) := by omega
   have hn1 := heap_alloc_new wa (.cells (RB N (fun _ => false)).toArray 4)
   have ho1 := (heap_alloc_old wa (.cells (RB N (fun _ => false)).toArray 4) hgl).trans hg
   have hb1 : Below w.heap.size w (wa.alloc (.cells (RB N (fun _ => false)).toArray 4)) := hb.alloc hb.size _
   have hne : g ≠ wa.heap.size := by omega
   obtain ⟨G, hG⟩ : ∃ G, G = wa.heap.size := ⟨_, rfl⟩
   have hGw : w.heap.size ≤ G := by rw [hG]; exact hb.size
   obtain ⟨w1, hw1⟩ : ∃ w1, w1 = wa.alloc (.cells (RB N (fun _ => false)).toArray 4) := ⟨_, rfl⟩
   rw [← hG] at hn1 hne
   rw [← hw1] at hn1 ho1 hb1
   rw [hi] at ho1
   have HN1 := Lib.hid hn1; have HO1 := Lib.hid ho1; have HB1 := Lib.hid hb1; have HNE := Lib.hid hne
   have HGG := Lib.hid hG; have HW1 := Lib.hid hw1; have HGW := Lib.hid hGw
   clear hn1 ho1 hb1 hne hG hw1 hb hg hgl hGw hz hi hi1 h01
   have hmk := HMK.out wa
   go_wp2_with fail
   rw [← HGG.out, ← HW1.out]
   clear hmk HW1 HGG
   go_loopw [8] (fun q wr => ∃ (k1 : Nat) (z : Int), q = .int .i64 z ∧ z = (k1 : Int) - 1 ∧ k1 ≤ N ∧ wr.heap[G]? = some (.cells (RB N (fromOn (tabM P S i) k1)).toArray 4 (0, 0)) ∧ wr.heap[g]? = some (.cells (RB N (rowM P S (i + 1))).toArray 4 (0, 0)) ∧ Below w.heap.size w wr) (fun q _ => (intOf q + 1).toNat)
   case atStart => exact ⟨N, (b.size : Int), rfl, by omega, Nat.le_refl _, by rw [RB_congr (g := fun _ => false) (fun j hj => by unfold fromOn; rw [decide_eq_false (by omega), Bool.false_and])]; exact HN1.out, HO1.out, HB1.out⟩
   case round =>
    obtain ⟨k1, z, rfl, hz, hk1, hG, hg, hb⟩ := hrel
    obtain ⟨wb, hwb⟩ : ∃ wb, wb = wr := ⟨_, rfl⟩
    subst hwb
    clear HN1 HO1 HB1
    by_cases h01 : 0 < k1
    ·obtain ⟨k, hk⟩ : ∃ k, k1 = k + 1 := ⟨k1 - 1, by omega⟩
     obtain rfl : z = (k : Int) := by omega
     have hkb : k ≤ b.size := by have := HN.out; omega
     have hkbI : (k : Int) ≤ (b.size : Int) := by omega
     have hkN : k < N := by omega
     have hkNI : (k : Int) < (N : Int) := by omega
     rw [hk] at hG
     have HGG := Lib.hid hG; have HGR := Lib.hid hg; have HB := Lib.hid hb
     have hcG := RB_cell hG hkN
     have hcG' := RB_cell' hG hkN
     have hfG := frozen_of_row wb G k _ _ hG
     have hfG' : wb.frozen? ((⟨G, 0, none⟩ : Addr).add k) = false := by rw [add_zero_off]; exact hfG
     clear hG hg hb hz hk1 h01
     by_cases hil : i = a.size
     ·subst hil
      by_cases hkl0 : k = b.size
      ·subst hkl0
       have HV := Lib.hid (show true = tabM P S a.size b.size from by rw [← HPL.out, ← HSL.out]; exact (tabM_end P S).symm)
       obtain ⟨w2, hw2⟩ : ∃ w2, w2 = wb.setCell ⟨G, b.size, none⟩ (.bool true) := ⟨_, rfl⟩
       have hs1 := RB_store (w := wb) HGG.out b.size true (f' := fromOn (tabM P S a.size) b.size) (fun j _ => fromOn_next HV.out j)
       have hs2 := (heap_setCell_other wb ⟨G, b.size, none⟩ g (.bool true) HNE.out).trans HGR.out
       have hs3 := below_setCell' (w := wb) (a := ⟨G, b.size, none⟩) (v := .bool true) HB.out HGW.out
       rw [← hw2] at hs1 hs2 hs3
       have HS1 := Lib.hid hs1; have HS2 := Lib.hid hs2; have HS3 := Lib.hid hs3
       clear hs1 hs2 hs3
       go_wp2
       rw [← hw2]
       clear hw2
       go_roundw
       case rel => exact ⟨b.size, (b.size : Int) - 1, by go_num, rfl, by omega, HS1.out, HS2.out, HS3.out⟩
       case measure => simp [intOf]; try omega
      ·have hkl : k < b.size := by omega
       have hklI : (k : Int) < (b.size : Int) := by omega
       have hkS : k < S.length := by rw [HSL.out]; exact hkl
       have hkne : ((k : Int) == (b.size : Int)) = false := by rw [beq_eq_false_iff_ne]; omega
       clear hkl0
       by_cases h42 : b[k]'hkl = 42
       ·have hbk := HSA.out k hkl hkS
        have h42I : (((b[k]'hkl).toNat : Int) == 42) = true := by rw [h42]; rfl
        have hsk : S[k] = 42 := by rw [hbk]; exact h42
        obtain ⟨j, hj⟩ : ∃ j, j = k + 1 := ⟨_, rfl⟩
        have hjI : (k : Int) + 1 = (j : Int) := by omega
        have hjN : j < N := by have := HN.out; omega
        have hjNI : (j : Int) < (N : Int) := by omega
        have hnj := RB_cell HGG.out hjN
        have hnj' := RB_cell' HGG.out hjN
        rw [← hj, fromOn_at (Nat.le_refl _)] at hnj hnj'
        have hv : tabM P S a.size k = tabM P S a.size j := by rw [hj, ← HPL.out]; exact tabM_othere hkS hsk
        cases hr : tabM P S a.size j with
        | true =>
         have HV := Lib.hid (show true = tabM P S a.size k from by rw [hv, hr])
         rw [hr] at hnj hnj'
         clear hr hv hj h42 hbk hsk
         obtain ⟨w2, hw2⟩ : ∃ w2, w2 = wb.setCell ⟨G, k, none⟩ (.bool true) := ⟨_, rfl⟩
         have hs1 := RB_store (w := wb) HGG.out k true (f' := fromOn (tabM P S a.size) k) (fun j _ => fromOn_next HV.out j)
         have hs2 := (heap_setCell_other wb ⟨G, k, none⟩ g (.bool true) HNE.out).trans HGR.out
         have hs3 := below_setCell' (w := wb) (a := ⟨G, k, none⟩) (v := .bool true) HB.out HGW.out
         rw [← hw2] at hs1 hs2 hs3
         have HS1 := Lib.hid hs1; have HS2 := Lib.hid hs2; have HS3 := Lib.hid hs3
         clear hs1 hs2 hs3
         go_wp2
         rw [← hw2]
         clear hw2
         go_roundw
         case rel => exact ⟨k, (k : Int) - 1, by go_num, rfl, by omega, HS1.out, HS2.out, HS3.out⟩
         case measure => simp [intOf]; try omega
        | false =>
         have HV := Lib.hid (show false = tabM P S a.size k from by rw [hv, hr])
         rw [hr] at hnj hnj'
         clear hr hv hj h42 hbk hsk
         obtain ⟨w2, hw2⟩ : ∃ w2, w2 = wb.setCell ⟨G, k, none⟩ (.bool false) := ⟨_, rfl⟩
         have hs1 := RB_store (w := wb) HGG.out k false (f' := fromOn (tabM P S a.size) k) (fun j _ => fromOn_next HV.out j)
         have hs2 := (heap_setCell_other wb ⟨G, k, none⟩ g (.bool false) HNE.out).trans HGR.out
         have hs3 := below_setCell' (w := wb) (a := ⟨G, k, none⟩) (v := .bool false) HB.out HGW.out
         rw [← hw2] at hs1 hs2 hs3
         have HS1 := Lib.hid hs1; have HS2 := Lib.hid hs2; have HS3 := Lib.hid hs3
         clear hs1 hs2 hs3
         go_wp2
         rw [← hw2]
         clear hw2
         go_roundw
         case rel => exact ⟨k, (k : Int) - 1, by go_num, rfl, by omega, HS1.out, HS2.out, HS3.out⟩
         case measure => simp [intOf]; try omega
       ·have hbk := HSA.out k hkl hkS
        have h42I : (((b[k]'hkl).toNat : Int) == 42) = false := by rw [show (42 : Int) = ((42 : Nat) : Int) from rfl, u8_eq (by omega)]; exact decide_eq_false h42
        have hsk : ¬ S[k] = 42 := by rw [hbk]; exact h42
        have HV := Lib.hid (show tabM P S a.size k = false from by rw [← HPL.out]; exact tabM_no2 hkS hsk)
        clear h42 hbk hsk
        go_wp2
        go_quiet (fail)
        go_wp2
        go_roundw
        case rel => exact ⟨k, (k : Int) - 1, by go_num, rfl, by omega, by rw [← RB_congr (fun j _ => fromOn_skip HV.out j)]; exact HGG.out, HGR.out, over HB.out⟩
        case measure => simp [intOf]; try omega
     ·have hilt : i < a.size := by omega
      have hiltI : (i : Int) < (a.size : Int) := by omega
      have hine : ((i : Int) == (a.size : Int)) = false := by rw [beq_eq_false_iff_ne]; omega
      have hiP : i < P.length := by rw [HPL.out]; exact hilt
      have hai := HPA.out i hilt hiP
      clear hil
      have hrk := RB_cell HGR.out hkN
      have hrk' := RB_cell' HGR.out hkN
      rw [rowM_in (by rw [HPL.out]; exact hilt)] at hrk hrk'
      by_cases ha42 : a[i]'hilt = 42
      ·have ha42I : (((a[i]'hilt).toNat : Int) == 42) = true := by rw [ha42]; rfl
       have hst : P[i] = 42 := by rw [hai]; exact ha42
       clear ha42
       cases hr : tabM P S (i + 1) k with
       | true =>
        have HV := Lib.hid (show true = tabM P S i k from by
         rcases Nat.lt_or_ge k b.size with h | h
         ·rw [tabM_star hiP hst (by rw [HSL.out]; exact h), hr]; rfl
         ·have hkk : k = S.length := by rw [HSL.out]; omega
          rw [hkk, tabM_stare hiP hst, ← hkk, hr])
        rw [hr] at hrk hrk'
        clear hr hai hst
        obtain ⟨w2, hw2⟩ : ∃ w2, w2 = wb.setCell ⟨G, k, none⟩ (.bool true) := ⟨_, rfl⟩
        have hs1 := RB_store (w := wb) HGG.out k true (f' := fromOn (tabM P S i) k) (fun j _ => fromOn_next HV.out j)
        have hs2 := (heap_setCell_other wb ⟨G, k, none⟩ g (.bool true) HNE.out).trans HGR.out
        have hs3 := below_setCell' (w := wb) (a := ⟨G, k, none⟩) (v := .bool true) HB.out HGW.out
        rw [← hw2] at hs1 hs2 hs3
        have HS1 := Lib.hid hs1; have HS2 := Lib.hid hs2; have HS3 := Lib.hid hs3
        clear hs1 hs2 hs3
        go_wp2
        rw [← hw2]
        clear hw2
        go_roundw
        case rel => exact ⟨k, (k : Int) - 1, by go_num, rfl, by omega, HS1.out, HS2.out, HS3.out⟩
        case measure => simp [intOf]; try omega
       | false =>
        rw [hr] at hrk hrk'
        by_cases hkl0 : k = b.size
        ·subst hkl0
         have HV := Lib.hid (show false = tabM P S i b.size from by rw [← HSL.out, tabM_stare hiP hst, HSL.out, hr])
         clear hr hai hst
         obtain ⟨w2, hw2⟩ : ∃ w2, w2 = wb.setCell ⟨G, b.size, none⟩ (.bool false) := ⟨_, rfl⟩
         have hs1 := RB_store (w := wb) HGG.out b.size false (f' := fromOn (tabM P S i) b.size) (fun j _ => fromOn_next HV.out j)
         have hs2 := (heap_setCell_other wb ⟨G, b.size, none⟩ g (.bool false) HNE.out).trans HGR.out
         have hs3 := below_setCell' (w := wb) (a := ⟨G, b.size, none⟩) (v := .bool false) HB.out HGW.out
         rw [← hw2] at hs1 hs2 hs3
         have HS1 := Lib.hid hs1; have HS2 := Lib.hid hs2; have HS3 := Lib.hid hs3
         clear hs1 hs2 hs3
         go_wp2
         rw [← hw2]
         clear hw2
         go_roundw
         case rel => exact ⟨b.size, (b.size : Int) - 1, by go_num, rfl, by omega, HS1.out, HS2.out, HS3.out⟩
         case measure => simp [intOf]; try omega
        ·have hkl : k < b.size := by omega
         have hklI : (k : Int) < (b.size : Int) := by omega
         have hkS : k < S.length := by rw [HSL.out]; exact hkl
         have hkne : ((k : Int) == (b.size : Int)) = false := by rw [beq_eq_false_iff_ne]; omega
         clear hkl0
         obtain ⟨j, hj⟩ : ∃ j, j = k + 1 := ⟨_, rfl⟩
         have hjI : (k : Int) + 1 = (j : Int) := by omega
         have hjN : j < N := by have := HN.out; omega
         have hjNI : (j : Int) < (N : Int) := by omega
         have hnj := RB_cell HGG.out hjN
         have hnj' := RB_cell' HGG.out hjN
         rw [← hj, fromOn_at (Nat.le_refl _)] at hnj hnj'
         have hv : tabM P S i k = (tabM P S (i + 1) k || tabM P S i j) := by rw [hj]; exact tabM_star hiP hst hkS
         cases hr2 : tabM P S i j with
         | true =>
          have HV := Lib.hid (show true = tabM P S i k from by rw [hv, hr, hr2]; rfl)
          rw [hr2] at hnj hnj'
          clear hr hr2 hv hj hai hst
          obtain ⟨w2, hw2⟩ : ∃ w2, w2 = wb.setCell ⟨G, k, none⟩ (.bool true) := ⟨_, rfl⟩
          have hs1 := RB_store (w := wb) HGG.out k true (f' := fromOn (tabM P S i) k) (fun j _ => fromOn_next HV.out j)
          have hs2 := (heap_setCell_other wb ⟨G, k, none⟩ g (.bool true) HNE.out).trans HGR.out
          have hs3 := below_setCell' (w := wb) (a := ⟨G, k, none⟩) (v := .bool true) HB.out HGW.out
          rw [← hw2] at hs1 hs2 hs3
          have HS1 := Lib.hid hs1; have HS2 := Lib.hid hs2; have HS3 := Lib.hid hs3
          clear hs1 hs2 hs3
          go_wp2
          rw [← hw2]
          clear hw2
          go_roundw
          case rel => exact ⟨k, (k : Int) - 1, by go_num, rfl, by omega, HS1.out, HS2.out, HS3.out⟩
          case measure => simp [intOf]; try omega
         | false =>
          have HV := Lib.hid (show false = tabM P S i k from by rw [hv, hr, hr2]; rfl)
          rw [hr2] at hnj hnj'
          clear hr hr2 hv hj hai hst
          obtain ⟨w2, hw2⟩ : ∃ w2, w2 = wb.setCell ⟨G, k, none⟩ (.bool false) := ⟨_, rfl⟩
          have hs1 := RB_store (w := wb) HGG.out k false (f' := fromOn (tabM P S i) k) (fun j _ => fromOn_next HV.out j)
          have hs2 := (heap_setCell_other wb ⟨G, k, none⟩ g (.bool false) HNE.out).trans HGR.out
          have hs3 := below_setCell' (w := wb) (a := ⟨G, k, none⟩) (v := .bool false) HB.out HGW.out
          rw [← hw2] at hs1 hs2 hs3
          have HS1 := Lib.hid hs1; have HS2 := Lib.hid hs2; have HS3 := Lib.hid hs3
          clear hs1 hs2 hs3
          go_wp2
          rw [← hw2]
          clear hw2
          go_roundw
          case rel => exact ⟨k, (k : Int) - 1, by go_num, rfl, by omega, HS1.out, HS2.out, HS3.out⟩
          case measure => simp [intOf]; try omega
      ·have ha42I : (((a[i]'hilt).toNat : Int) == 42) = false := by rw [show (42 : Int) = ((42 : Nat) : Int) from rfl, u8_eq (by omega)]; exact decide_eq_false ha42
       have hst : ¬ P[i] = 42 := by rw [hai]; exact ha42
       clear ha42
       by_cases hkl0 : k = b.size
       ·subst hkl0
        have HV := Lib.hid (show tabM P S i b.size = false from by rw [← HSL.out]; exact tabM_no1 hiP hst)
        clear hai hst hrk hrk'
        go_wp2
        go_quiet (fail)
        go_wp2
        go_roundw
        case rel => exact ⟨b.size, (b.size : Int) - 1, by go_num, rfl, by omega, by rw [← RB_congr (fun j _ => fromOn_skip HV.out j)]; exact HGG.out, HGR.out, over HB.out⟩
        case measure => simp [intOf]; try omega
       ·have hkl : k < b.size := by omega
        have hklI : (k : Int) < (b.size : Int) := by omega
        have hkS : k < S.length := by rw [HSL.out]; exact hkl
        have hkne : ((k : Int) == (b.size : Int)) = false := by rw [beq_eq_false_iff_ne]; omega
        clear hkl0
        by_cases h42 : b[k]'hkl = 42
        ·have hbk := HSA.out k hkl hkS
         have h42I : (((b[k]'hkl).toNat : Int) == 42) = true := by rw [h42]; rfl
         have hsk : S[k] = 42 := by rw [hbk]; exact h42
         obtain ⟨j, hj⟩ : ∃ j, j = k + 1 := ⟨_, rfl⟩
         have hjI : (k : Int) + 1 = (j : Int) := by omega
         have hjN : j < N := by have := HN.out; omega
         have hjNI : (j : Int) < (N : Int) := by omega
         have hnj := RB_cell HGG.out hjN
         have hnj' := RB_cell' HGG.out hjN
         rw [← hj, fromOn_at (Nat.le_refl _)] at hnj hnj'
         have hv : tabM P S i k = (tabM P S i j || tabM P S (i + 1) k) := by rw [hj]; exact tabM_other hiP hst hkS hsk
         cases hr : tabM P S i j with
         | true =>
          have HV := Lib.hid (show true = tabM P S i k from by rw [hv, hr]; rfl)
          rw [hr] at hnj hnj'
          clear hr hv hj h42 hbk hsk hai hst
          obtain ⟨w2, hw2⟩ : ∃ w2, w2 = wb.setCell ⟨G, k, none⟩ (.bool true) := ⟨_, rfl⟩
          have hs1 := RB_store (w := wb) HGG.out k true (f' := fromOn (tabM P S i) k) (fun j _ => fromOn_next HV.out j)
          have hs2 := (heap_setCell_other wb ⟨G, k, none⟩ g (.bool true) HNE.out).trans HGR.out
          have hs3 := below_setCell' (w := wb) (a := ⟨G, k, none⟩) (v := .bool true) HB.out HGW.out
          rw [← hw2] at hs1 hs2 hs3
          have HS1 := Lib.hid hs1; have HS2 := Lib.hid hs2; have HS3 := Lib.hid hs3
          clear hs1 hs2 hs3
          go_wp2
          rw [← hw2]
          clear hw2
          go_roundw
          case rel => exact ⟨k, (k : Int) - 1, by go_num, rfl, by omega, HS1.out, HS2.out, HS3.out⟩
          case measure => simp [intOf]; try omega
         | false =>
          cases hr2 : tabM P S (i + 1) k with
          | true =>
           have HV := Lib.hid (show true = tabM P S i k from by rw [hv, hr, hr2]; rfl)
           rw [hr] at hnj hnj'
           rw [hr2] at hrk hrk'
           clear hr hr2 hv hj h42 hbk hsk hai hst
           obtain ⟨w2, hw2⟩ : ∃ w2, w2 = wb.setCell ⟨G, k, none⟩ (.bool true) := ⟨_, rfl⟩
           have hs1 := RB_store (w := wb) HGG.out k true (f' := fromOn (tabM P S i) k) (fun j _ => fromOn_next HV.out j)
           have hs2 := (heap_setCell_other wb ⟨G, k, none⟩ g (.bool true) HNE.out).trans HGR.out
           have hs3 := below_setCell' (w := wb) (a := ⟨G, k, none⟩) (v := .bool true) HB.out HGW.out
           rw [← hw2] at hs1 hs2 hs3
           have HS1 := Lib.hid hs1; have HS2 := Lib.hid hs2; have HS3 := Lib.hid hs3
           clear hs1 hs2 hs3
           go_wp2
           rw [← hw2]
           clear hw2
           go_roundw
           case rel => exact ⟨k, (k : Int) - 1, by go_num, rfl, by omega, HS1.out, HS2.out, HS3.out⟩
           case measure => simp [intOf]; try omega
          | false =>
           have HV := Lib.hid (show false = tabM P S i k from by rw [hv, hr, hr2]; rfl)
           rw [hr] at hnj hnj'
           rw [hr2] at hrk hrk'
           clear hr hr2 hv hj h42 hbk hsk hai hst
           obtain ⟨w2, hw2⟩ : ∃ w2, w2 = wb.setCell ⟨G, k, none⟩ (.bool false) := ⟨_, rfl⟩
           have hs1 := RB_store (w := wb) HGG.out k false (f' := fromOn (tabM P S i) k) (fun j _ => fromOn_next HV.out j)
           have hs2 := (heap_setCell_other wb ⟨G, k, none⟩ g (.bool false) HNE.out).trans HGR.out
           have hs3 := below_setCell' (w := wb) (a := ⟨G, k, none⟩) (v := .bool false) HB.out HGW.out
           rw [← hw2] at hs1 hs2 hs3
           have HS1 := Lib.hid hs1; have HS2 := Lib.hid hs2; have HS3 := Lib.hid hs3
           clear hs1 hs2 hs3
           go_wp2
           rw [← hw2]
           clear hw2
           go_roundw
           case rel => exact ⟨k, (k : Int) - 1, by go_num, rfl, by omega, HS1.out, HS2.out, HS3.out⟩
           case measure => simp [intOf]; try omega
        ·have hbk := HSA.out k hkl hkS
         have h42I : (((b[k]'hkl).toNat : Int) == 42) = false := by rw [show (42 : Int) = ((42 : Nat) : Int) from rfl, u8_eq (by omega)]; exact decide_eq_false h42
         have hsk : ¬ S[k] = 42 := by rw [hbk]; exact h42
         obtain ⟨j, hj⟩ : ∃ j, j = k + 1 := ⟨_, rfl⟩
         have hjI : (k : Int) + 1 = (j : Int) := by omega
         have hjN : j < N := by have := HN.out; omega
         have hjNI : (j : Int) < (N : Int) := by omega
         have hrj := RB_cell HGR.out hjN
         have hrj' := RB_cell' HGR.out hjN
         rw [rowM_in (by rw [HPL.out]; exact hilt)] at hrj hrj'
         have hv := tabM_one hiP hst hkS hsk
         rw [← hj, hai, hbk] at hv
         clear h42 hsk hst hai hbk hj
         by_cases h63 : a[i]'hilt = 63
         ·have hq := ask_t h63
          have HV := Lib.hid (show tabM P S (i + 1) j = tabM P S i k from by rw [hv, h63]; rfl)
          clear hv h63
          go_wp2
          go_quiet (fail)
          have hcG2 : (wb.drewN nq).cell? ⟨G, k, none⟩ = _ := hcG
          have hcG3 : (wb.drewN nq).cell? ((⟨G, 0, none⟩ : Addr).add k) = _ := hcG'
          have hfG2 : (wb.drewN nq).frozen? ⟨G, k, none⟩ = false := hfG
          have hfG3 : (wb.drewN nq).frozen? ((⟨G, 0, none⟩ : Addr).add k) = false := hfG'
          have hcj2 : (wb.drewN nq).cell? ⟨g, j, none⟩ = _ := hrj
          have hcj3 : (wb.drewN nq).cell? ((⟨g, 0, none⟩ : Addr).add j) = _ := hrj'
          obtain ⟨w2, hw2⟩ : ∃ w2, w2 = (wb.drewN nq).setCell ⟨G, k, none⟩ (.bool (tabM P S (i + 1) j)) := ⟨_, rfl⟩
          have hs1 := RB_store (w := (wb.drewN nq)) HGG.out k (tabM P S (i + 1) j) (f' := fromOn (tabM P S i) k) (fun j _ => fromOn_next HV.out j)
          have hs2 := (heap_setCell_other (wb.drewN nq) ⟨G, k, none⟩ g (.bool (tabM P S (i + 1) j)) HNE.out).trans HGR.out
          have hs3 := below_setCell' (w := (wb.drewN nq)) (a := ⟨G, k, none⟩) (v := .bool (tabM P S (i + 1) j)) (over HB.out) HGW.out
          rw [← hw2] at hs1 hs2 hs3
          have HS1 := Lib.hid hs1; have HS2 := Lib.hid hs2; have HS3 := Lib.hid hs3
          clear hs1 hs2 hs3
          go_wp2
          rw [← hw2]
          clear hw2
          go_roundw
          case rel => exact ⟨k, (k : Int) - 1, by go_num, rfl, by omega, HS1.out, HS2.out, HS3.out⟩
          case measure => simp [intOf]; try omega
         ·have hq := ask_f h63
          by_cases hb63 : b[k]'hkl = 63
          ·have hq2 := ask_t hb63
           have HV := Lib.hid (show tabM P S (i + 1) j = tabM P S i k from by rw [hv, hb63]; simp)
           clear hv h63 hb63
           go_wp2
           go_quiet (fail)
           have hcG2 : (wb.drewN nq).cell? ⟨G, k, none⟩ = _ := hcG
           have hcG3 : (wb.drewN nq).cell? ((⟨G, 0, none⟩ : Addr).add k) = _ := hcG'
           have hfG2 : (wb.drewN nq).frozen? ⟨G, k, none⟩ = false := hfG
           have hfG3 : (wb.drewN nq).frozen? ((⟨G, 0, none⟩ : Addr).add k) = false := hfG'
           have hcj2 : (wb.drewN nq).cell? ⟨g, j, none⟩ = _ := hrj
           have hcj3 : (wb.drewN nq).cell? ((⟨g, 0, none⟩ : Addr).add j) = _ := hrj'
           obtain ⟨w2, hw2⟩ : ∃ w2, w2 = (wb.drewN nq).setCell ⟨G, k, none⟩ (.bool (tabM P S (i + 1) j)) := ⟨_, rfl⟩
           have hs1 := RB_store (w := (wb.drewN nq)) HGG.out k (tabM P S (i + 1) j) (f' := fromOn (tabM P S i) k) (fun j _ => fromOn_next HV.out j)
           have hs2 := (heap_setCell_other (wb.drewN nq) ⟨G, k, none⟩ g (.bool (tabM P S (i + 1) j)) HNE.out).trans HGR.out
           have hs3 := below_setCell' (w := (wb.drewN nq)) (a := ⟨G, k, none⟩) (v := .bool (tabM P S (i + 1) j)) (over HB.out) HGW.out
           rw [← hw2] at hs1 hs2 hs3
           have HS1 := Lib.hid hs1; have HS2 := Lib.hid hs2; have HS3 := Lib.hid hs3
           clear hs1 hs2 hs3
           go_wp2
           rw [← hw2]
           clear hw2
           go_roundw
           case rel => exact ⟨k, (k : Int) - 1, by go_num, rfl, by omega, HS1.out, HS2.out, HS3.out⟩
           case measure => simp [intOf]; try omega
          ·have hq2 := ask_f hb63
           by_cases heq : a[i]'hilt = b[k]'hkl
           ·have hq3 : ((((a[i]'hilt).toNat : Nat) : Int) == (((b[k]'hkl).toNat : Nat) : Int)) = true := by rw [int_eq]; exact decide_eq_true heq
            have HV := Lib.hid (show tabM P S (i + 1) j = tabM P S i k from by rw [hv, heq]; simp)
            clear hv h63 hb63 heq
            go_wp2
            go_quiet (fail)
            have hcG2 : (wb.drewN nq).cell? ⟨G, k, none⟩ = _ := hcG
            have hcG3 : (wb.drewN nq).cell? ((⟨G, 0, none⟩ : Addr).add k) = _ := hcG'
            have hfG2 : (wb.drewN nq).frozen? ⟨G, k, none⟩ = false := hfG
            have hfG3 : (wb.drewN nq).frozen? ((⟨G, 0, none⟩ : Addr).add k) = false := hfG'
            have hcj2 : (wb.drewN nq).cell? ⟨g, j, none⟩ = _ := hrj
            have hcj3 : (wb.drewN nq).cell? ((⟨g, 0, none⟩ : Addr).add j) = _ := hrj'
            obtain ⟨w2, hw2⟩ : ∃ w2, w2 = (wb.drewN nq).setCell ⟨G, k, none⟩ (.bool (tabM P S (i + 1) j)) := ⟨_, rfl⟩
            have hs1 := RB_store (w := (wb.drewN nq)) HGG.out k (tabM P S (i + 1) j) (f' := fromOn (tabM P S i) k) (fun j _ => fromOn_next HV.out j)
            have hs2 := (heap_setCell_other (wb.drewN nq) ⟨G, k, none⟩ g (.bool (tabM P S (i + 1) j)) HNE.out).trans HGR.out
            have hs3 := below_setCell' (w := (wb.drewN nq)) (a := ⟨G, k, none⟩) (v := .bool (tabM P S (i + 1) j)) (over HB.out) HGW.out
            rw [← hw2] at hs1 hs2 hs3
            have HS1 := Lib.hid hs1; have HS2 := Lib.hid hs2; have HS3 := Lib.hid hs3
            clear hs1 hs2 hs3
            go_wp2
            rw [← hw2]
            clear hw2
            go_roundw
            case rel => exact ⟨k, (k : Int) - 1, by go_num, rfl, by omega, HS1.out, HS2.out, HS3.out⟩
            case measure => simp [intOf]; try omega
           ·have hq3 : ((((a[i]'hilt).toNat : Nat) : Int) == (((b[k]'hkl).toNat : Nat) : Int)) = false := by rw [int_eq]; exact decide_eq_false heq
            have HV := Lib.hid (show tabM P S i k = false from by rw [hv]; simp [h63, hb63, heq])
            clear hv h63 hb63 heq
            go_wp2
            go_quiet (fail)
            go_wp2
            go_roundw
            case rel => exact ⟨k, (k : Int) - 1, by go_num, rfl, by omega, by rw [← RB_congr (fun j _ => fromOn_skip HV.out j)]; exact HGG.out, HGR.out, over HB.out⟩
            case measure => simp [intOf]; try omega
    ·have hz0 : z < 0 := by omega
     have hz1 : ¬ z ≥ 0 := by omega
     clear hz
     obtain rfl : k1 = 0 := by omega
     have HE := Lib.hid (show RB N (fromOn (tabM P S i) 0) = RB N (rowM P S i) from RB_congr (fun j _ => by rw [fromOn_at (Nat.zero_le _), rowM_in (by rw [HPL.out]; exact hia)]))
     have HGG := Lib.hid hG; have HB := Lib.hid hb
     clear hG hg hb
     go_wp2
     go_roundw
     case rel => exact ⟨i, G, (i : Int) - 1, by go_num, rfl, by omega, rfl, HGW.out, by rw [← HE.out]; exact HGG.out, HB.out⟩
     case measure => simp [intOf]; try omega
  ·obtain rfl : i1 = 0 := by omega
   have hz0 : z < 0 := by omega
   have hz1 : ¬ z ≥ 0 := by omega
   clear hz
   have hc := RB_cell hg (show 0 < N by have := HN.out; omega)
   have hc' := RB_cell' hg (show 0 < N by have := HN.out; omega)
   have hv : rowM P S 0 0 = meets P S := by rw [rowM_in (Nat.zero_le _)]; exact tabM_all P S
   rw [hv] at hc hc'
   have hsN : 0 < (N : Int) := by have := HN.out; omega
   have HB := Lib.hid hb
   clear hg hb hv HMK
   go_wp2
   go_ret
   exact ⟨rfl, HB.out⟩
end Go.Proofs.Ytcaaljioennnnaa.glob

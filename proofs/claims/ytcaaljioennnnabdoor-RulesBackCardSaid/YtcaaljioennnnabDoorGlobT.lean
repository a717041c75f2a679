/-
 Layer 21: which texts a pattern matches: the document's answer, by its table.
-/
import Derived.Test.YtcaaljioennnnabDoorGlobD
namespace Go.Proofs.YtcaaljioennnnabDoor.glob
open Go.RowKit
open Go.Proofs.YtcaaljioennnnabDoor.words
set_option linter.all false
/-- a row of the table, as cells -/
def RB (N : Nat) (f : Nat → Bool) : List Value := (List.range N).map fun k => Value.bool (f k)
theorem RB_len (N f) : (RB N f).length = N := by simp [RB]
theorem RB_at {N : Nat} (f : Nat → Bool) {k : Nat} (h : k < N) : (RB N f)[k]? = some (.bool (f k)) := by simp [RB, h]
theorem RB_set (N : Nat) (f : Nat → Bool) (k : Nat) (b : Bool) : (RB N f).toArray.setIfInBounds k (.bool b) = (RB N (fun j => if j = k then b else f j)).toArray := by
 rw [List.setIfInBounds_toArray]
 congr 1
 apply List.ext_getElem?
 intro j
 rw [List.getElem?_set]
 by_cases h : k = j
 ·subst h
  by_cases h2 : k < N
  ·rw [if_pos rfl, RB_len, if_pos h2, RB_at _ h2, if_pos rfl]
  ·rw [if_pos rfl, RB_len, if_neg h2, List.getElem?_eq_none (by rw [RB_len]; omega)]
 ·rw [if_neg h]
  by_cases h2 : j < N
  ·rw [RB_at _ h2, RB_at _ h2, if_neg (Ne.symm h)]
  ·rw [List.getElem?_eq_none (by rw [RB_len]; omega), List.getElem?_eq_none (by rw [RB_len]; omega)]
theorem RB_setL (N : Nat) (f : Nat → Bool) (k : Nat) (b : Bool) : (RB N f).set k (.bool b) = RB N (fun j => if j = k then b else f j) := by
 have h := RB_set N f k b
 rw [List.setIfInBounds_toArray] at h
 exact congrArg Array.toList h
theorem RB_congr {N : Nat} {f g : Nat → Bool} (h : ∀ j, j < N → f j = g j) : RB N f = RB N g := by
 apply List.ext_getElem?
 intro j
 by_cases h2 : j < N
 ·rw [RB_at _ h2, RB_at _ h2, h j h2]
 ·rw [List.getElem?_eq_none (by rw [RB_len]; omega), List.getElem?_eq_none (by rw [RB_len]; omega)]
theorem RB_cell {w : World} {g N : Nat} {f : Nat → Bool} (h : w.heap[g]? = some (.cells (RB N f).toArray 4 (0, 0))) {k : Nat} (hk : k < N) : w.cell? ⟨g, k, none⟩ = some (.bool (f k)) :=
 (cell_of_row w g k _ _ (0, 0) h).trans (by simpa using RB_at f hk)
theorem RB_cell' {w : World} {g N : Nat} {f : Nat → Bool} (h : w.heap[g]? = some (.cells (RB N f).toArray 4 (0, 0))) {k : Nat} (hk : k < N) : w.cell? ((⟨g, 0, none⟩ : Addr).add k) = some (.bool (f k)) := by
 rw [add_zero_off]; exact RB_cell h hk
theorem RB_store {w : World} {g N : Nat} {f : Nat → Bool} (h : w.heap[g]? = some (.cells (RB N f).toArray 4 (0, 0))) (k : Nat) (b : Bool) {f' : Nat → Bool} (hf : ∀ j, j < N → (if j = k then b else f j) = f' j) :
  (w.setCell ⟨g, k, none⟩ (.bool b)).heap[g]? = some (.cells (RB N f').toArray 4 (0, 0)) := by
 rw [← RB_congr hf, ← RB_set]
 exact heap_setCell_same w g k _ _ _ h
theorem below_setCell' {B : Nat} {w0 w : World} {a : Addr} {v : Value} (h : Below B w0 w) (hB : B ≤ a.block) : Below B w0 (w.setCell a v) :=
 h.trans ⟨rfl, rfl, rfl, by simp [World.setCell], fun k hk => heap_setCell_other w a k v (by omega)⟩
theorem infoB : (Tryd.prog.info? 4).map (fun i => (i.zero, i.size, i.bytes)) = some (some (.bool false), 1, 1) := by kernel_rfl
theorem make_b (n : Nat) (hn : n ≤ 1001) (w : World) : (Instr.makeSlice 58 (.int .i64 (n : Int)) (.int .i64 (n : Int))).run Tryd.prog w = .ok (.slice (some ⟨w.heap.size, 0, none⟩) n n) (w.alloc (.cells (RB n (fun _ => false)).toArray 4)) := by
 obtain ⟨i0, hi, hz0, hz1, hz2⟩ := info_parts' infoB
 have h := run_make (P := Tryd.prog) w 58 4 i0 (.bool false) Tryd.underlying58 hi hz0 .i64 .i64 (n : Int) (n : Int) (by omega) (Int.le_refl _) (by rw [hz2]; omega) (by omega)
 rw [Int.toNat_natCast, hz1, Nat.mul_one] at h
 rw [h]
 congr 3
 unfold madeCells RB
 apply Array.ext'
 simp only [Value.cells, Array.toList_map, Array.toList_range, List.size_toArray, List.length_cons, List.length_nil, Nat.zero_add, Nat.mod_one]
 rfl
/-- the first k places of a row -/
def upTo (f : Nat → Bool) (k j : Nat) : Bool := decide (j < k) && f j
theorem upTo_next {f : Nat → Bool} {k : Nat} {b : Bool} (hb : b = f k) (j : Nat) : (if j = k then b else upTo f k j) = upTo f (k + 1) j := by
 unfold upTo
 by_cases h : j = k
 ·subst h; simp [hb]
 ·rw [if_neg h]
  congr 1
  rw [Bool.eq_iff_iff, decide_eq_true_eq, decide_eq_true_eq]; omega
theorem upTo_skip {f : Nat → Bool} {k : Nat} (hb : f k = false) (j : Nat) : upTo f k j = upTo f (k + 1) j := by
 rw [← upTo_next (b := f k) rfl j]
 by_cases h : j = k
 ·subst h; simp [upTo, hb]
 ·rw [if_neg h]
set_option maxRecDepth 100000 in
set_option maxHeartbeats 8000000 in
theorem match_r (p s : ByteArray) (w : World) (hp : p.size ≤ 1000) (hs : s.size ≤ 1000) :
  Calls Tryd.prog 25 #[.string p, .string s] w fun e w' => e = .returned (.bool (mat (lb p) (lb s))) ∧ Below w.heap.size w w' := by
 obtain ⟨P, hP⟩ : ∃ P, P = lb p := ⟨_, rfl⟩
 obtain ⟨S, hS⟩ : ∃ S, S = lb s := ⟨_, rfl⟩
 have hPL : P.length = p.size := by rw [hP, lb_len]
 have hSL : S.length = s.size := by rw [hS, lb_len]
 have hPA : ∀ k (h : k < p.size) (h' : k < P.length), P[k]'h' = p[k]'h := fun k h h' => by subst hP; exact lb_at p k h
 have hSA : ∀ k (h : k < s.size) (h' : k < S.length), S[k]'h' = s[k]'h := fun k h h' => by subst hS; exact lb_at s k h
 rw [← hP, ← hS]
 obtain ⟨N, hN⟩ : ∃ N, N = s.size + 1 := ⟨_, rfl⟩
 have hNI : (s.size : Int) + 1 = (N : Int) := by omega
 have hmk := fun w => make_b N (by omega) w
 have HMK := Lib.hid hmk
 have HN := Lib.hid hN
 have hpI : (p.size : Int) ≤ 1000 := by omega
 have hsI : (s.size : Int) ≤ 1000 := by omega
 have HPL := Lib.hid hPL; have HSL := Lib.hid hSL; have HPA := Lib.hid hPA; have HSA := Lib.hid hSA
 clear hN hP hS hPL hSL hPA hSA
 have hg1 := heap_alloc_new w (.cells (RB N (fun _ => false)).toArray 4)
 have hc1 := RB_cell hg1 (show 0 < N by omega)
 have hf1 := frozen_of_row _ w.heap.size 0 _ _ hg1
 have hb1 : Below w.heap.size w (w.alloc (.cells (RB N (fun _ => false)).toArray 4)) := (Below.refl _ w).alloc (Nat.le_refl _) _
 have hg2 : (w.alloc (.cells ((RB N (fun _ => false)).set 0 (.bool true)).toArray 4)).heap[w.heap.size]? = some (.cells (RB N (rowT P S 0)).toArray 4 (0, 0)) := by
  rw [heap_alloc_new, RB_setL, RB_congr (g := rowT P S 0)]
  intro j hj
  rw [rowT_zero P S (by rw [HSL.out]; have := HN.out; omega)]
  by_cases h : j = 0
  ·subst h; rfl
  ·rw [if_neg h]; exact (decide_eq_false h).symm
 have hb2 : Below w.heap.size w (w.alloc (.cells ((RB N (fun _ => false)).set 0 (.bool true)).toArray 4)) := (Below.refl _ w).alloc (Nat.le_refl _) _
 have HG2 := Lib.hid hg2; have HB2 := Lib.hid hb2
 obtain ⟨g0, hg0⟩ : ∃ g0, g0 = w.heap.size := ⟨_, rfl⟩
 have HG0 := Lib.hid hg0
 clear hg2 hb2 hg1 hb1 hg0
 go_enter Tryd.func25, Tryd.ntmps25
 go_wp2
 clear hc1 hf1
 go_loopw [5, 6] (fun v i wr => ∃ (k g : Nat), i = .int .i64 (k : Int) ∧ k ≤ p.size ∧ v = .slice (some ⟨g, 0, none⟩) N N ∧ w.heap.size ≤ g ∧ wr.heap[g]? = some (.cells (RB N (rowT P S k)).toArray 4 (0, 0)) ∧ Below w.heap.size w wr) (fun _ i _ => p.size - (intOf i).toNat)
 case atStart => exact ⟨0, w.heap.size, rfl, Nat.zero_le _, rfl, Nat.le_refl _, HG2.out, HB2.out⟩
 case round =>
  obtain ⟨i, g, rfl, hi, rfl, hgw, hg, hb⟩ := hrel
  obtain ⟨wa, hwa⟩ : ∃ wa, wa = wr := ⟨_, rfl⟩
  subst hwa
  clear HG2 HB2
  have hgl := (Array.getElem?_eq_some_iff.1 hg).1
  by_cases hlt : i < p.size
  ·have hltI : (i : Int) < (p.size : Int) := by omega
   have hn1 := heap_alloc_new wa (.cells (RB N (fun _ => false)).toArray 4)
   have ho1 := (heap_alloc_old wa (.cells (RB N (fun _ => false)).toArray 4) hgl).trans hg
   have hb1 : Below w.heap.size w (wa.alloc (.cells (RB N (fun _ => false)).toArray 4)) := hb.alloc hb.size _
   have hne : g ≠ wa.heap.size := by omega
   obtain ⟨G, hG⟩ : ∃ G, G = wa.heap.size := ⟨_, rfl⟩
   have hGw : w.heap.size ≤ G := by rw [hG]; exact hb.size
   obtain ⟨w1, hw1⟩ : ∃ w1, w1 = wa.alloc (.cells (RB N (fun _ => false)).toArray 4) := ⟨_, rfl⟩
   rw [← hG] at hn1 hne
   rw [← hw1] at hn1 ho1 hb1
   have HN1 := Lib.hid hn1; have HO1 := Lib.hid ho1; have HB1 := Lib.hid hb1; have HNE := Lib.hid hne
   have HGG := Lib.hid hG; have HW1 := Lib.hid hw1; have HGW := Lib.hid hGw
   clear hn1 ho1 hb1 hne hG hw1 hb hg hgl hGw
   have hmk := HMK.out wa
   rw [← HGG.out, ← HW1.out] at hmk
   go_wp2_with fail
   rw [← HGG.out, ← HW1.out]
   clear hmk HW1 HGG
   go_loopw [8] (fun q wr => ∃ k : Nat, q = .int .i64 (k : Int) ∧ k ≤ N ∧ wr.heap[G]? = some (.cells (RB N (upTo (rowT P S (i + 1)) k)).toArray 4 (0, 0)) ∧ wr.heap[g]? = some (.cells (RB N (rowT P S i)).toArray 4 (0, 0)) ∧ Below w.heap.size w wr) (fun q _ => N - (intOf q).toNat)
   case atStart => exact ⟨0, rfl, Nat.zero_le _, by rw [RB_congr (g := fun _ => false) (fun j _ => by simp [upTo])]; exact HN1.out, HO1.out, HB1.out⟩
   case round =>
    obtain ⟨k, rfl, hk, hG, hg, hb⟩ := hrel
    obtain ⟨wb, hwb⟩ : ∃ wb, wb = wr := ⟨_, rfl⟩
    subst hwb
    clear HN1 HO1 HB1
    have HGG := Lib.hid hG; have HGR := Lib.hid hg; have HB := Lib.hid hb
    by_cases hkn : k < N
    ·have hksI : (k : Int) ≤ (s.size : Int) := by have := HN.out; omega
     have hknI : (k : Int) < (N : Int) := by omega
     have hcG := RB_cell hG hkn
     have hcG' := RB_cell' hG hkn
     have hfG := frozen_of_row wb G k _ _ hG
     have hfG' : wb.frozen? ((⟨G, 0, none⟩ : Addr).add k) = false := by rw [add_zero_off]; exact hfG
     have hcg := RB_cell hg hkn
     have hcg' := RB_cell' hg hkn
     have hiP : i < P.length := by rw [HPL.out]; exact hlt
     have hip := HPA.out i hlt hiP
     clear hG hg hb
     by_cases h42 : p[i]'hlt = 42
     ·have h42I : (((p[i]'hlt).toNat : Int) == 42) = true := by rw [h42]; rfl
      have hst : P[i] = 42 := by rw [hip]; exact h42
      clear h42
      cases hr : rowT P S i k with
      | true =>
       have HV := Lib.hid (show true = rowT P S (i + 1) k from by
        rcases Nat.eq_zero_or_pos k with h0 | h0
        ·subst h0; rw [rowT_star0 S hiP hst, hr]
        ·obtain ⟨j, rfl⟩ : ∃ j, k = j + 1 := ⟨k - 1, by omega⟩
         rw [rowT_star hiP hst (by rw [HSL.out]; have := HN.out; omega), hr]; rfl)
       rw [hr] at hcg hcg'
       clear hr hip hst
       obtain ⟨w2, hw2⟩ : ∃ w2, w2 = wb.setCell ⟨G, k, none⟩ (.bool true) := ⟨_, rfl⟩
       have hs1 := RB_store (w := wb) HGG.out k true (f' := upTo (rowT P S (i + 1)) (k + 1)) (fun j _ => upTo_next HV.out j)
       have hs2 := (heap_setCell_other wb ⟨G, k, none⟩ g (.bool true) HNE.out).trans HGR.out
       have hs3 := below_setCell' (a := ⟨G, k, none⟩) (v := .bool true) HB.out HGW.out
       rw [← hw2] at hs1 hs2 hs3
       have HS1 := Lib.hid hs1; have HS2 := Lib.hid hs2; have HS3 := Lib.hid hs3
       clear hs1 hs2 hs3
       go_wp2
       rw [← hw2]
       clear hw2
       go_roundw
       case rel => exact ⟨k + 1, by go_num, hkn, HS1.out, HS2.out, HS3.out⟩
       case measure => simp [intOf]; omega
      | false =>
       rw [hr] at hcg hcg'
       rcases Nat.eq_zero_or_pos k with h0 | h0
       ·subst h0
        have HV := Lib.hid (show false = rowT P S (i + 1) 0 from by rw [rowT_star0 S hiP hst, hr])
        clear hr hip hst
        obtain ⟨w2, hw2⟩ : ∃ w2, w2 = wb.setCell ⟨G, 0, none⟩ (.bool false) := ⟨_, rfl⟩
        have hs1 := RB_store (w := wb) HGG.out 0 false (f' := upTo (rowT P S (i + 1)) (0 + 1)) (fun j _ => upTo_next HV.out j)
        have hs2 := (heap_setCell_other wb ⟨G, 0, none⟩ g (.bool false) HNE.out).trans HGR.out
        have hs3 := below_setCell' (a := ⟨G, 0, none⟩) (v := .bool false) HB.out HGW.out
        rw [← hw2] at hs1 hs2 hs3
        have HS1 := Lib.hid hs1; have HS2 := Lib.hid hs2; have HS3 := Lib.hid hs3
        clear hs1 hs2 hs3
        go_wp2
        rw [← hw2]
        clear hw2
        go_roundw
        case rel => exact ⟨0 + 1, by go_num, hkn, HS1.out, HS2.out, HS3.out⟩
        case measure => simp [intOf]; omega
       ·obtain ⟨j, hj⟩ : ∃ j, j = k - 1 := ⟨_, rfl⟩
        have hjk : k = j + 1 := by omega
        have hjI : (k : Int) - 1 = (j : Int) := by omega
        have h0I : 0 < (k : Int) := by omega
        have hjN : j < N := by omega
        have hpv : upTo (rowT P S (i + 1)) k j = rowT P S (i + 1) j := by unfold upTo; rw [decide_eq_true (by omega), Bool.true_and]
        have hcj := RB_cell HGG.out hjN
        have hcj' := RB_cell' HGG.out hjN
        rw [hpv] at hcj hcj'
        have hjNI : (j : Int) < (N : Int) := by omega
        cases hr2 : rowT P S (i + 1) j with
        | true =>
         have HV := Lib.hid (show true = rowT P S (i + 1) k from by rw [hjk, rowT_star hiP hst (by rw [HSL.out]; have := HN.out; omega), hr2, Bool.or_true])
         rw [hr2] at hcj hcj'
         clear hr hip hst hr2 hpv hjk hj
         obtain ⟨w2, hw2⟩ : ∃ w2, w2 = wb.setCell ⟨G, k, none⟩ (.bool true) := ⟨_, rfl⟩
         have hs1 := RB_store (w := wb) HGG.out k true (f' := upTo (rowT P S (i + 1)) (k + 1)) (fun j _ => upTo_next HV.out j)
         have hs2 := (heap_setCell_other wb ⟨G, k, none⟩ g (.bool true) HNE.out).trans HGR.out
         have hs3 := below_setCell' (a := ⟨G, k, none⟩) (v := .bool true) HB.out HGW.out
         rw [← hw2] at hs1 hs2 hs3
         have HS1 := Lib.hid hs1; have HS2 := Lib.hid hs2; have HS3 := Lib.hid hs3
         clear hs1 hs2 hs3
         go_wp2
         rw [← hw2]
         clear hw2
         go_roundw
         case rel => exact ⟨k + 1, by go_num, hkn, HS1.out, HS2.out, HS3.out⟩
         case measure => simp [intOf]; omega
        | false =>
         have HV := Lib.hid (show false = rowT P S (i + 1) k from by rw [hjk, rowT_star hiP hst (by rw [HSL.out]; have := HN.out; omega), hr2, ← hjk, hr]; rfl)
         rw [hr2] at hcj hcj'
         clear hr hip hst hr2 hpv hjk hj
         obtain ⟨w2, hw2⟩ : ∃ w2, w2 = wb.setCell ⟨G, k, none⟩ (.bool false) := ⟨_, rfl⟩
         have hs1 := RB_store (w := wb) HGG.out k false (f' := upTo (rowT P S (i + 1)) (k + 1)) (fun j _ => upTo_next HV.out j)
         have hs2 := (heap_setCell_other wb ⟨G, k, none⟩ g (.bool false) HNE.out).trans HGR.out
         have hs3 := below_setCell' (a := ⟨G, k, none⟩) (v := .bool false) HB.out HGW.out
         rw [← hw2] at hs1 hs2 hs3
         have HS1 := Lib.hid hs1; have HS2 := Lib.hid hs2; have HS3 := Lib.hid hs3
         clear hs1 hs2 hs3
         go_wp2
         rw [← hw2]
         clear hw2
         go_roundw
         case rel => exact ⟨k + 1, by go_num, hkn, HS1.out, HS2.out, HS3.out⟩
         case measure => simp [intOf]; omega
     ·have h42I : (((p[i]'hlt).toNat : Int) == 42) = false := by rw [show (42 : Int) = ((42 : Nat) : Int) from rfl, u8_eq (by omega)]; exact decide_eq_false h42
      have hst : ¬ P[i] = 42 := by rw [hip]; exact h42
      clear h42
      rcases Nat.eq_zero_or_pos k with h0 | h0
      ·subst h0
       have HV := Lib.hid (show rowT P S (i + 1) 0 = false from rowT_one0 S hiP hst)
       clear hip hst
       go_wp2
       go_quiet (fail)
       go_wp2
       go_roundw
       case rel => exact ⟨1, by go_num, hkn, by rw [← RB_congr (fun j _ => upTo_skip HV.out j)]; exact HGG.out, HGR.out, over HB.out⟩
       case measure => simp [intOf]; omega
      ·obtain ⟨j, hj⟩ : ∃ j, j = k - 1 := ⟨_, rfl⟩
       have hjk : k = j + 1 := by omega
       have hjI : (k : Int) - 1 = (j : Int) := by omega
       have h0I : 0 < (k : Int) := by omega
       have hjN : j < N := by omega
       have hjNI : (j : Int) < (N : Int) := by omega
       have hjs : j < s.size := by have := HN.out; omega
       have hjsI : (j : Int) < (s.size : Int) := by omega
       have hd0 : decide (0 < k) = true := decide_eq_true h0
       have hd1 : decide (0 < (k : Int)) = true := decide_eq_true h0I
       have hcj := RB_cell HGR.out hjN
       have hcj' := RB_cell' HGR.out hjN
       have hv := rowT_one hiP hst (show j < S.length by rw [HSL.out]; exact hjs)
       rw [← hjk, hip, HSA.out j hjs (by rw [HSL.out]; exact hjs)] at hv
       by_cases h63 : p[i]'hlt = 63
       ·have hq := ask_t h63
        have HV := Lib.hid (show rowT P S i j = rowT P S (i + 1) k from by rw [hv, h63]; rfl)
        clear hip hst hv h63 hjk hj
        go_wp2
        go_quiet (fail)
        have hcG2 : (wb.drewN nq).cell? ⟨G, k, none⟩ = _ := hcG
        have hcG3 : (wb.drewN nq).cell? ((⟨G, 0, none⟩ : Addr).add k) = _ := hcG'
        have hfG2 : (wb.drewN nq).frozen? ⟨G, k, none⟩ = false := hfG
        have hfG3 : (wb.drewN nq).frozen? ((⟨G, 0, none⟩ : Addr).add k) = false := hfG'
        have hcj2 : (wb.drewN nq).cell? ⟨g, j, none⟩ = _ := hcj
        have hcj3 : (wb.drewN nq).cell? ((⟨g, 0, none⟩ : Addr).add j) = _ := hcj'
        obtain ⟨w2, hw2⟩ : ∃ w2, w2 = (wb.drewN nq).setCell ⟨G, k, none⟩ (.bool (rowT P S i j)) := ⟨_, rfl⟩
        have hs1 := RB_store (w := (wb.drewN nq)) HGG.out k (rowT P S i j) (f' := upTo (rowT P S (i + 1)) (k + 1)) (fun j _ => upTo_next HV.out j)
        have hs2 := (heap_setCell_other (wb.drewN nq) ⟨G, k, none⟩ g (.bool (rowT P S i j)) HNE.out).trans HGR.out
        have hs3 := below_setCell' (w := wb.drewN nq) (a := ⟨G, k, none⟩) (v := .bool (rowT P S i j)) (over HB.out) HGW.out
        rw [← hw2] at hs1 hs2 hs3
        have HS1 := Lib.hid hs1; have HS2 := Lib.hid hs2; have HS3 := Lib.hid hs3
        clear hs1 hs2 hs3
        go_wp2
        rw [← hw2]
        clear hw2
        go_roundw
        case rel => exact ⟨k + 1, by go_num, hkn, HS1.out, HS2.out, HS3.out⟩
        case measure => simp [intOf]; omega
       ·have hq := ask_f h63
        by_cases heq : p[i]'hlt = s[j]'hjs
        ·have hq2 : ((((p[i]'hlt).toNat : Nat) : Int) == (((s[j]'hjs).toNat : Nat) : Int)) = true := by rw [int_eq]; exact decide_eq_true heq
         have HV := Lib.hid (show rowT P S i j = rowT P S (i + 1) k from by rw [hv, heq]; simp)
         clear hip hst hv h63 hjk hj heq
         go_wp2
         go_quiet (fail)
         have hcG2 : (wb.drewN nq).cell? ⟨G, k, none⟩ = _ := hcG
         have hcG3 : (wb.drewN nq).cell? ((⟨G, 0, none⟩ : Addr).add k) = _ := hcG'
         have hfG2 : (wb.drewN nq).frozen? ⟨G, k, none⟩ = false := hfG
         have hfG3 : (wb.drewN nq).frozen? ((⟨G, 0, none⟩ : Addr).add k) = false := hfG'
         have hcj2 : (wb.drewN nq).cell? ⟨g, j, none⟩ = _ := hcj
         have hcj3 : (wb.drewN nq).cell? ((⟨g, 0, none⟩ : Addr).add j) = _ := hcj'
         obtain ⟨w2, hw2⟩ : ∃ w2, w2 = (wb.drewN nq).setCell ⟨G, k, none⟩ (.bool (rowT P S i j)) := ⟨_, rfl⟩
         have hs1 := RB_store (w := (wb.drewN nq)) HGG.out k (rowT P S i j) (f' := upTo (rowT P S (i + 1)) (k + 1)) (fun j _ => upTo_next HV.out j)
         have hs2 := (heap_setCell_other (wb.drewN nq) ⟨G, k, none⟩ g (.bool (rowT P S i j)) HNE.out).trans HGR.out
         have hs3 := below_setCell' (w := wb.drewN nq) (a := ⟨G, k, none⟩) (v := .bool (rowT P S i j)) (over HB.out) HGW.out
         rw [← hw2] at hs1 hs2 hs3
         have HS1 := Lib.hid hs1; have HS2 := Lib.hid hs2; have HS3 := Lib.hid hs3
         clear hs1 hs2 hs3
         go_wp2
         rw [← hw2]
         clear hw2
         go_roundw
         case rel => exact ⟨k + 1, by go_num, hkn, HS1.out, HS2.out, HS3.out⟩
         case measure => simp [intOf]; omega
        ·have hq2 : ((((p[i]'hlt).toNat : Nat) : Int) == (((s[j]'hjs).toNat : Nat) : Int)) = false := by rw [int_eq]; exact decide_eq_false heq
         have HV := Lib.hid (show rowT P S (i + 1) k = false from by rw [hv]; simp [h63, heq])
         clear hip hst hv h63 hjk hj heq
         go_wp2
         go_quiet (fail)
         go_wp2
         go_roundw
         case rel => exact ⟨k + 1, by go_num, hkn, by rw [← RB_congr (fun j _ => upTo_skip HV.out j)]; exact HGG.out, HGR.out, over HB.out⟩
         case measure => simp [intOf]; omega
    ·have hknI : ¬ (k : Int) ≤ (s.size : Int) := by have := HN.out; omega
     have HE := Lib.hid (show RB N (upTo (rowT P S (i + 1)) k) = RB N (rowT P S (i + 1)) from RB_congr (fun j hj => by unfold upTo; rw [decide_eq_true (by omega), Bool.true_and]))
     clear hG hg hb
     go_wp2
     go_roundw
     case rel => exact ⟨i + 1, G, by go_num, hlt, rfl, HGW.out, by rw [← HE.out]; exact HGG.out, HB.out⟩
     case measure => simp [intOf]; omega
  ·have hltI : ¬ (i : Int) < (p.size : Int) := by omega
   obtain rfl : i = p.size := by omega
   have hc := RB_cell hg (show s.size < N by have := HN.out; omega)
   have hc' := RB_cell' hg (show s.size < N by have := HN.out; omega)
   have hv : rowT P S p.size s.size = mat P S := by rw [← HPL.out, ← HSL.out]; exact rowT_all P S
   rw [hv] at hc hc'
   have hsN : (s.size : Int) < (N : Int) := by omega
   have HB := Lib.hid hb
   clear hg hb hv HMK
   go_wp2
   go_ret
   exact ⟨rfl, HB.out⟩
end Go.Proofs.YtcaaljioennnnabDoor.glob

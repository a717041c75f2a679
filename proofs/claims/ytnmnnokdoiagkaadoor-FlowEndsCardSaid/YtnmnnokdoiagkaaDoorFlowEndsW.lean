/-
 Layer 14: where nothing is wrong each place goes on, or ends: the walk.
-/
import Derived.Test.YtnmnnokdoiagkaaDoorFlowH
namespace Go.Proofs.YtnmnnokdoiagkaaDoor.flow
open Go.RowKit Go.Shelf
open words kindp opp op prg flowp kind

theorem wrong_none {n : Nat} : ∀ {l : List In} {k j : Nat} {x : In}, (checkF n l k).1 = 0 → l[j]? = some x → wrongAt n x (k + j) = none
 | [], _, _, _, _, h => by simp at h
 | y :: r, k, j, x, h0, hx => by
  rw [checkF_step] at h0
  rcases hw : wrongAt n y k with _ | e
  ·rw [hw] at h0
   cases j with
   | zero => obtain rfl : y = x := by simpa using hx
             exact hw
   | succ j => rw [show k + (j + 1) = (k + 1) + j by omega]; exact wrong_none h0 (by simpa using hx)
  ·rw [hw] at h0
   unfold wrongAt at hw
   split at hw
   ·cases hw; exact absurd (show (12 : Int) = 0 from h0) (by decide)
   ·split at hw
    ·cases hw; exact absurd (show (2 : Int) = 0 from h0) (by decide)
    ·cases hw
theorem check_none {l : List In} {k : Nat} {x : In} (h : (checkE l).1 = 0) (hx : l[k]? = some x) : wrongAt l.length x k = none := by
 unfold checkE at h
 split at h
 ·exact absurd h (by decide)
 ·have := wrong_none h hx
  rwa [Nat.zero_add] at this
def endsB (o : Int) : Bool := decide (o = 22 ∨ o = 23 ∨ o = 30 ∨ o < 1 ∨ 32 < o)
theorem ends_next {l : List In} {k : Nat} {x : In} (hn : l.length ≤ 256) (h : (checkE l).1 = 0) (hx : l[k]? = some x) : decide ((nextL l (k : Int)).length = 0) = endsB x.o := by
 have hw := check_none h hx
 have e1 : (nextL l (k : Int)).length = 0 ↔ ow l.length x k = [] := by
  rw [List.length_eq_zero_iff, ← onL_at hx, List.eq_nil_iff_forall_not_mem, List.eq_nil_iff_forall_not_mem]
  exact ⟨fun g a ha => g a (nextL_mem.2 ha), fun g a ha => g a (nextL_mem.1 ha)⟩
 unfold wrongAt strayB at hw
 rw [jump_shape] at hw
 have e2 : ow l.length x k = [] ↔ (x.o = 22 ∨ x.o = 23 ∨ x.o = 30 ∨ x.o < 1 ∨ 32 < x.o) := by
  unfold ow targetL
  rw [jump_shape]
  have hf : fallsB x.o = true ↔ (0 < x.o ∧ x.o ≤ 32) ∧ ¬ (x.o = 6 ∨ x.o = 22 ∨ x.o = 23 ∨ x.o = 30) := by
   unfold fallsB known
   simp only [Bool.and_eq_true, Bool.not_eq_true', decide_eq_true_eq, decide_eq_false_iff_not]
  simp only [hf] at hw ⊢
  simp only [Bool.and_eq_true, Bool.or_eq_true, decide_eq_true_eq] at hw ⊢
  split at hw
  ·cases hw
  ·split at hw
   ·cases hw
   ·rename_i h1 h2
    rw [List.append_eq_nil_iff]
    by_cases hj : x.o = 6 ∨ x.o = 7 ∨ x.o = 8
    ·have h3 : 0 ≤ x.k ∧ x.k < (l.length : Int) := by omega
     rw [if_pos (show (x.o = 6 ∨ x.o = 7 ∨ x.o = 8) ∧ 0 ≤ x.k ∧ x.k ≤ 256 from ⟨hj, h3.1, by omega⟩)]
     rw [if_pos (show ((x.k, true) : Int × Bool).2 = true ∧ ((x.k, true) : Int × Bool).1 < (l.length : Int) from ⟨rfl, h3.2⟩)]
     refine ⟨fun g => absurd g.2 (by simp), fun g => by omega⟩
    ·rw [if_neg (show ¬ ((x.o = 6 ∨ x.o = 7 ∨ x.o = 8) ∧ 0 ≤ x.k ∧ x.k ≤ 256) from fun g => hj g.1)]
     rw [if_neg (show ¬ (((0, false) : Int × Bool).2 = true ∧ ((0, false) : Int × Bool).1 < (l.length : Int)) from fun g => Bool.false_ne_true g.1)]
     by_cases hq : ((0 < x.o ∧ x.o ≤ 32) ∧ ¬ (x.o = 6 ∨ x.o = 22 ∨ x.o = 23 ∨ x.o = 30)) ∧ k + 1 < l.length
     ·rw [if_pos hq]
      exact ⟨fun g => absurd g.1 (by simp), fun g => by omega⟩
     ·rw [if_neg hq]
      refine ⟨fun _ => ?_, fun _ => ⟨rfl, rfl⟩⟩
      have h4 : ¬ ((0 < x.o ∧ x.o ≤ 32) ∧ ¬ (x.o = 6 ∨ x.o = 22 ∨ x.o = 23 ∨ x.o = 30)) := fun g => hq ⟨g, Decidable.byContradiction fun g2 => h2 ⟨g, g2⟩⟩
      omega
 unfold endsB
 exact decide_eq_decide.2 (e1.trans e2)
end Go.Proofs.YtnmnnokdoiagkaaDoor.flow
namespace Go.Proofs.YtnmnnokdoiagkaaDoor.flowEnds
open Go.RowKit Go.Shelf
open words kindp opp op prg flowp kind flow

set_option maxRecDepth 100000 in
set_option maxHeartbeats 8000000 in
theorem walk (A : Option Addr) (c : Nat) (L0 : List InM) (w : World) (hz : L0.length ≤ 281474976710656) (hc : L0.length ≤ c) (hr : Rd w A (L0.flatMap inC)) (hs : Sh w) (hm : Mx w) :
  Calls Tryd.prog 7 #[.slice A L0.length c] w fun e w' => e = .returned (.bool true) ∧ Below w.heap.size w w' := by
 have HFW := Lib.hid (few_w A c L0 w hz hc hr)
 obtain ⟨L, hL⟩ : ∃ L, L = L0.take 40 := ⟨_, rfl⟩
 have hl40 : L.length ≤ 40 := by rw [hL, List.length_take]; omega
 rw [← hL] at HFW
 obtain ⟨n, hn⟩ : ∃ n, n = L.length := ⟨_, rfl⟩
 have HN := Lib.hid hn
 rw [← hn] at HFW hl40
 have hnI : (n : Int) ≤ 40 := by omega
 have HS := Lib.hid hs; have HM := Lib.hid hm
 have HLV := Lib.hid (fun w hs hm => live14 w hs hm)
 clear hz hc hr hs hm hL hn
 go_enter Tryd.func7, Tryd.ntmps7
 go_wp2_with fail
 refine HFW.out.mono ?_
 rintro e w1 ⟨A', rfl, hr, hw1⟩; subst w1
 have HR := Lib.hid hr
 have hCK := check_w A' c L w (by rw [← HN.out]; omega) hr HS.out HM.out
 rw [← HN.out] at hCK
 have HCK := Lib.hid hCK
 have HNX := Lib.hid (fun z w h1 h2 => next_w A' c L z w (by rw [← HN.out]; omega) h1 h2)
 rw [← HN.out] at HNX
 have HEN := Lib.hid (fun k x h hx => ends_next (l := L.map (·.i)) (k := k) (x := x) (by rw [List.length_map, ← HN.out]; omega) h hx)
 obtain ⟨⟨E, y⟩, hE⟩ : ∃ E, E = checkE (L.map (·.i)) := ⟨_, rfl⟩
 rw [← hE] at HCK HEN
 dsimp only at HCK HEN
 clear hr hCK HFW hE
 go_wp2_with fail
 refine HCK.out.mono ?_
 rintro e w2 ⟨rfl, hb2⟩
 have HB2 := Lib.hid hb2
 clear hb2 HCK
 by_cases h0 : E = 0
 case neg =>
  have hbE : (E == 0) = false := beq_eq_false_iff_ne.2 h0
  go_wp2
  go_loopw [5] (fun i wr => ∃ k : Nat, k ≤ n ∧ i = .int .i64 (k : Int) ∧ Below w.heap.size w wr) (fun i _ => n - (intOf i).toNat)
  case atStart => exact ⟨0, Nat.zero_le _, rfl, HB2.out⟩
  case round =>
   obtain ⟨k, hk, rfl, hb⟩ := hrel
   have HB := Lib.hid hb
   have HL1 := Lib.hid (HLV.out wr (HS.out.below hb) (HM.out.below hb))
   clear hb
   by_cases hlt : k < n
   ·have hltI : (k : Int) < (n : Int) := by omega
    go_wp2_with fail
    refine HL1.out.mono ?_
    rintro e w3 ⟨rfl, hb3⟩
    have HB3 := Lib.hid hb3
    clear hb3
    go_wp2
    go_ret
    exact ⟨rfl, then_ HB.out (Nat.le_refl _) HB3.out⟩
   ·have hltI : ¬ (k : Int) < (n : Int) := by omega
    go_wp2_with fail
    refine HL1.out.mono ?_
    rintro e w3 ⟨rfl, hb3⟩
    have HB3 := Lib.hid hb3
    clear hb3
    go_wp2
    go_ret
    exact ⟨rfl, then_ HB.out (Nat.le_refl _) HB3.out⟩
 case pos =>
  subst h0
  go_wp2
  go_loopw [5] (fun i wr => ∃ k : Nat, k ≤ n ∧ i = .int .i64 (k : Int) ∧ Below w.heap.size w wr) (fun i _ => n - (intOf i).toNat)
  case atStart => exact ⟨0, Nat.zero_le _, rfl, HB2.out⟩
  case round =>
   obtain ⟨k, hk, rfl, hb⟩ := hrel
   have HB := Lib.hid hb
   by_cases hlt : k < n
   case neg =>
    have hltI : ¬ (k : Int) < (n : Int) := by omega
    have HL1 := Lib.hid (HLV.out wr (HS.out.below hb) (HM.out.below hb))
    clear hb
    go_wp2_with fail
    refine HL1.out.mono ?_
    rintro e w3 ⟨rfl, hb3⟩
    have HB3 := Lib.hid hb3
    clear hb3
    go_wp2
    go_ret
    exact ⟨rfl, then_ HB.out (Nat.le_refl _) HB3.out⟩
   case pos =>
    have hltI : (k : Int) < (n : Int) := by omega
    obtain ⟨x, hx⟩ : ∃ x, L[k]? = some x := ⟨L[k]'(by have := HN.out; omega), List.getElem?_eq_getElem _⟩
    have hen := HEN.out k x.i (by trivial) (by rw [List.getElem?_map, hx]; rfl)
    have HN2 := Lib.hid (HNX.out (k : Int) wr (HR.out.below hb) (HS.out.below hb))
    obtain ⟨a, rfl, -, f0, f1, f2, f3, f4, f5, f6, f7, f8⟩ := in_at (HR.out.below hb) hx
    obtain ⟨q, hq⟩ : ∃ q, q = (nextL (L.map (·.i)) (k : Int)).length := ⟨_, rfl⟩
    rw [← hq] at HN2 hen
    generalize nextL (L.map (·.i)) (k : Int) = X at *
    generalize x.i.o = o at *
    unfold endsB at hen
    clear hb hx f1 f2 f3 f4 f5 f6 f7 f8 hq
    by_cases h0 : o = 22
    ·have b0 : (o == 22) = true := by simpa using h0
     have hqb : (((q : Nat) : Int) == 0) = true := by
      have := hen
      rw [decide_eq_true (p := o = 22 ∨ o = 23 ∨ o = 30 ∨ o < 1 ∨ 32 < o) (by omega)] at this
      have := of_decide_eq_true this
      simp; omega
     clear hen
     go_wp2_with fail
     refine HN2.out.mono ?_
     rintro e w5 ⟨A5, c5, rfl, -, hb5⟩
     have HB5 := Lib.hid hb5
     clear hb5
     go_wp2
     go_roundw
     case rel => exact ⟨k + 1, by omega, by go_num, then_ HB.out (Nat.le_refl _) HB5.out⟩
     case measure => simp [intOf]; omega
    have b0 : (o == 22) = false := beq_eq_false_iff_ne.2 h0
    by_cases h1 : o = 23
    ·have b1 : (o == 23) = true := by simpa using h1
     have hqb : (((q : Nat) : Int) == 0) = true := by
      have := hen
      rw [decide_eq_true (p := o = 22 ∨ o = 23 ∨ o = 30 ∨ o < 1 ∨ 32 < o) (by omega)] at this
      have := of_decide_eq_true this
      simp; omega
     clear hen
     go_wp2_with fail
     refine HN2.out.mono ?_
     rintro e w5 ⟨A5, c5, rfl, -, hb5⟩
     have HB5 := Lib.hid hb5
     clear hb5
     go_wp2
     go_roundw
     case rel => exact ⟨k + 1, by omega, by go_num, then_ HB.out (Nat.le_refl _) HB5.out⟩
     case measure => simp [intOf]; omega
    have b1 : (o == 23) = false := beq_eq_false_iff_ne.2 h1
    by_cases h2 : o = 30
    ·have b2 : (o == 30) = true := by simpa using h2
     have hqb : (((q : Nat) : Int) == 0) = true := by
      have := hen
      rw [decide_eq_true (p := o = 22 ∨ o = 23 ∨ o = 30 ∨ o < 1 ∨ 32 < o) (by omega)] at this
      have := of_decide_eq_true this
      simp; omega
     clear hen
     go_wp2_with fail
     refine HN2.out.mono ?_
     rintro e w5 ⟨A5, c5, rfl, -, hb5⟩
     have HB5 := Lib.hid hb5
     clear hb5
     go_wp2
     go_roundw
     case rel => exact ⟨k + 1, by omega, by go_num, then_ HB.out (Nat.le_refl _) HB5.out⟩
     case measure => simp [intOf]; omega
    have b2 : (o == 30) = false := beq_eq_false_iff_ne.2 h2
    by_cases h3 : o < 1
    ·have b3 : decide (o < 1) = true := decide_eq_true h3
     have hqb : (((q : Nat) : Int) == 0) = true := by
      have := hen
      rw [decide_eq_true (p := o = 22 ∨ o = 23 ∨ o = 30 ∨ o < 1 ∨ 32 < o) (by omega)] at this
      have := of_decide_eq_true this
      simp; omega
     clear hen
     go_wp2_with fail
     refine HN2.out.mono ?_
     rintro e w5 ⟨A5, c5, rfl, -, hb5⟩
     have HB5 := Lib.hid hb5
     clear hb5
     go_wp2
     go_roundw
     case rel => exact ⟨k + 1, by omega, by go_num, then_ HB.out (Nat.le_refl _) HB5.out⟩
     case measure => simp [intOf]; omega
    have b3 : decide (o < 1) = false := decide_eq_false h3
    by_cases h4 : 32 < o
    ·have b4 : decide (32 < o) = true := decide_eq_true h4
     have hqb : (((q : Nat) : Int) == 0) = true := by
      have := hen
      rw [decide_eq_true (p := o = 22 ∨ o = 23 ∨ o = 30 ∨ o < 1 ∨ 32 < o) (by omega)] at this
      have := of_decide_eq_true this
      simp; omega
     clear hen
     go_wp2_with fail
     refine HN2.out.mono ?_
     rintro e w5 ⟨A5, c5, rfl, -, hb5⟩
     have HB5 := Lib.hid hb5
     clear hb5
     go_wp2
     go_roundw
     case rel => exact ⟨k + 1, by omega, by go_num, then_ HB.out (Nat.le_refl _) HB5.out⟩
     case measure => simp [intOf]; omega
    have b4 : decide (32 < o) = false := decide_eq_false h4
    have hqb : (((q : Nat) : Int) == 0) = false := by
     have := hen
     rw [decide_eq_false (p := o = 22 ∨ o = 23 ∨ o = 30 ∨ o < 1 ∨ 32 < o) (by omega)] at this
     have := of_decide_eq_false this
     exact beq_eq_false_iff_ne.2 (by omega)
    clear hen
    go_wp2_with fail
    refine HN2.out.mono ?_
    rintro e w5 ⟨A5, c5, rfl, -, hb5⟩
    have HB5 := Lib.hid hb5
    clear hb5
    go_wp2
    go_roundw
    case rel => exact ⟨k + 1, by omega, by go_num, then_ HB.out (Nat.le_refl _) HB5.out⟩
    case measure => simp [intOf]; omega
end Go.Proofs.YtnmnnokdoiagkaaDoor.flowEnds

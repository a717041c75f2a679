/-
 Layer 14: what is wrong with a code: the document's answer.
-/
import Derived.Test.YtnmnnokdoiagkaaDoorFlowR
namespace Go.Proofs.YtnmnnokdoiagkaaDoor.flow
open Go.RowKit Go.Shelf
open words kindp opp op prg flowp kind

set_option maxRecDepth 100000 in
set_option maxHeartbeats 8000000 in
theorem check_r (A : Option Addr) (c : Nat) (L : List InM) (w : World) (hz : L.length ≤ 1000) (hr : Rd w A (L.flatMap inC)) :
  Calls Tryd.prog 10 #[.slice A L.length c] w fun e w' => e = .returned (.tuple #[.int .i64 (checkE (L.map (·.i))).1, .int .i64 (checkE (L.map (·.i))).2]) ∧ w' = w := by
 obtain ⟨m, hml⟩ : ∃ m, m = L.length := ⟨_, rfl⟩
 have hmI : (m : Int) ≤ 1000 := by omega
 have HR := Lib.hid hr; have HML := Lib.hid hml
 obtain ⟨E, hE⟩ : ∃ E, E = checkE (L.map (·.i)) := ⟨_, rfl⟩
 rw [← hml, ← hE]
 by_cases h0 : m = 0
 ·have hL : L = [] := List.eq_nil_of_length_eq_zero (by omega)
  subst hL
  obtain rfl : E = (2, 0) := hE
  subst h0
  clear hz hr hml HML HR
  go_enter Tryd.func10, Tryd.ntmps10
  go_wp2
  go_loopw [4] (fun i wr => i = .int .i64 0 ∧ wr = w) (fun _ _ => 0)
  case atStart => exact ⟨rfl, rfl⟩
  case round =>
   obtain ⟨rfl, rfl⟩ := hrel
   go_wp2
   go_ret2
   exact ⟨rfl, rfl⟩
 have HEE := Lib.hid (show checkF m (L.map (·.i)) 0 = E from by
  rw [hE]; unfold checkE
  rw [if_neg (fun h => h0 (by have := congrArg List.length h; rw [List.length_map] at this; rw [hml]; exact this)), List.length_map, ← hml])
 have hne : ((m : Int) == 0) = false := beq_eq_false_iff_ne.2 (by omega)
 clear hz hr hml hE
 go_enter Tryd.func10, Tryd.ntmps10
 go_wp2
 go_loopw [4] (fun i wr => ∃ k : Nat, k ≤ m ∧ i = .int .i64 (k : Int) ∧ checkF m ((L.map (·.i)).drop k) k = E ∧ wr = w) (fun i _ => m - (intOf i).toNat)
 case atStart => exact ⟨0, Nat.zero_le _, rfl, HEE.out, rfl⟩
 case round =>
  obtain ⟨k, hk, rfl, hc, rfl⟩ := hrel
  by_cases hlt : k < m
  case neg =>
   have hltI : ¬ (k : Int) < (m : Int) := by omega
   have he : E = (0, 0) := by rw [← hc, List.drop_of_length_le (by rw [List.length_map, ← HML.out]; omega)]; rfl
   subst he
   clear hc
   go_wp2
   go_ret2
   exact ⟨rfl, rfl⟩
  case pos =>
   have hltI : (k : Int) < (m : Int) := by omega
   obtain ⟨x, hx⟩ : ∃ x, L[k]? = some x := ⟨L[k]'(by have := HML.out; omega), List.getElem?_eq_getElem _⟩
   rw [drop_at' (x := x.i) (by rw [List.getElem?_map, hx]; rfl), checkF_step] at hc
   have hs4 := (shape_letters x.i.o).1
   have HSH := Lib.hid (fun w => shape_r x.i.o w)
   have HHA := Lib.hid (fun w => has_r (shapeL x.i.o) 116 w hs4)
   have HF := Lib.hid (fun w => falls_r x.i.o w)
   unfold wrongAt strayB at hc
   obtain ⟨a, rfl, -, f0, f1, f2, f3, f4, f5, f6, f7, f8⟩ := in_at HR.out hx
   obtain ⟨b, hb⟩ : ∃ b, b = hasL (shapeL x.i.o) 116 := ⟨_, rfl⟩
   obtain ⟨f, hf⟩ : ∃ f, f = fallsB x.i.o := ⟨_, rfl⟩
   rw [← hb, ← hf] at hc
   rw [← hb] at HHA
   rw [← hf] at HF
   have HC := Lib.hid hc
   have HL4 := Lib.hid hs4
   clear hc hx f1 f2 f3 f5 f6 f7 f8 hb hf hs4
   cases b with
   | false =>
    have hc := HC.out
    clear HC
    rw [if_neg (show ¬ ((false && (decide (x.i.k < 0) || decide ((m : Int) ≤ x.i.k))) = true) from Bool.false_ne_true)] at hc
    by_cases hl : k + 1 < m
    ·have hq : ((k : Int) == (m : Int) - 1) = false := beq_eq_false_iff_ne.2 (by omega)
     rw [if_neg (fun g => g.2 hl)] at hc
     have HE := Lib.hid (show checkF m ((L.map (·.i)).drop (k + 1)) (k + 1) = E from hc)
     clear hc
     go_wp2_with fail
     refine (HSH.out _).mono ?_
     rintro e w1 ⟨rfl, hw1⟩; subst w1
     go_wp2_with fail
     refine (HHA.out _).mono ?_
     rintro e w1 ⟨rfl, hw1⟩; subst w1
     go_wp2
     go_roundw
     case rel => exact ⟨k + 1, by omega, by go_num, HE.out, by trivial⟩
     case measure => simp [intOf]; omega
    have hq : ((k : Int) == (m : Int) - 1) = true := by rw [show (k : Int) = (m : Int) - 1 by omega]; exact beq_self_eq_true _
    cases f with
    | true =>
     rw [if_pos ⟨rfl, hl⟩] at hc
     have he : E = (2, (k : Int)) := hc.symm
     clear hc
     subst he
     go_wp2_with fail
     refine (HSH.out _).mono ?_
     rintro e w1 ⟨rfl, hw1⟩; subst w1
     go_wp2_with fail
     refine (HHA.out _).mono ?_
     rintro e w1 ⟨rfl, hw1⟩; subst w1
     go_wp2_with fail
     refine (HF.out _).mono ?_
     rintro e w1 ⟨rfl, hw1⟩; subst w1
     go_wp2
     go_ret2
     exact ⟨rfl, rfl⟩
    | false =>
     rw [if_neg (fun g => Bool.false_ne_true g.1)] at hc
     have HE := Lib.hid (show checkF m ((L.map (·.i)).drop (k + 1)) (k + 1) = E from hc)
     clear hc
     go_wp2_with fail
     refine (HSH.out _).mono ?_
     rintro e w1 ⟨rfl, hw1⟩; subst w1
     go_wp2_with fail
     refine (HHA.out _).mono ?_
     rintro e w1 ⟨rfl, hw1⟩; subst w1
     go_wp2_with fail
     refine (HF.out _).mono ?_
     rintro e w1 ⟨rfl, hw1⟩; subst w1
     go_wp2
     go_roundw
     case rel => exact ⟨k + 1, by omega, by go_num, HE.out, by trivial⟩
     case measure => simp [intOf]; omega
   | true =>
    by_cases h1 : x.i.k < 0
    ·have e1 : decide (x.i.k < 0) = true := decide_eq_true h1
     have he : E = (12, (k : Int)) := by have := HC.out; rw [if_pos (by rw [e1]; rfl)] at this; exact this.symm
     clear HC
     subst he
     go_wp2_with fail
     refine (HSH.out _).mono ?_
     rintro e w1 ⟨rfl, hw1⟩; subst w1
     go_wp2_with fail
     refine (HHA.out _).mono ?_
     rintro e w1 ⟨rfl, hw1⟩; subst w1
     go_wp2
     go_ret2
     exact ⟨rfl, rfl⟩
    have e1 : decide (x.i.k < 0) = false := decide_eq_false h1
    by_cases h2 : (m : Int) ≤ x.i.k
    ·have e2 : decide ((m : Int) ≤ x.i.k) = true := decide_eq_true h2
     have he : E = (12, (k : Int)) := by have := HC.out; rw [if_pos (by rw [e1, e2]; rfl)] at this; exact this.symm
     clear HC
     subst he
     go_wp2_with fail
     refine (HSH.out _).mono ?_
     rintro e w1 ⟨rfl, hw1⟩; subst w1
     go_wp2_with fail
     refine (HHA.out _).mono ?_
     rintro e w1 ⟨rfl, hw1⟩; subst w1
     go_wp2
     go_ret2
     exact ⟨rfl, rfl⟩
    have e2 : decide ((m : Int) ≤ x.i.k) = false := decide_eq_false h2
    have hc := HC.out
    clear HC
    rw [if_neg (show ¬ ((true && (decide (x.i.k < 0) || decide ((m : Int) ≤ x.i.k))) = true) from by rw [e1, e2]; exact Bool.false_ne_true)] at hc
    by_cases hl : k + 1 < m
    ·have hq : ((k : Int) == (m : Int) - 1) = false := beq_eq_false_iff_ne.2 (by omega)
     rw [if_neg (fun g => g.2 hl)] at hc
     have HE := Lib.hid (show checkF m ((L.map (·.i)).drop (k + 1)) (k + 1) = E from hc)
     clear hc
     go_wp2_with fail
     refine (HSH.out _).mono ?_
     rintro e w1 ⟨rfl, hw1⟩; subst w1
     go_wp2_with fail
     refine (HHA.out _).mono ?_
     rintro e w1 ⟨rfl, hw1⟩; subst w1
     go_wp2
     go_roundw
     case rel => exact ⟨k + 1, by omega, by go_num, HE.out, by trivial⟩
     case measure => simp [intOf]; omega
    have hq : ((k : Int) == (m : Int) - 1) = true := by rw [show (k : Int) = (m : Int) - 1 by omega]; exact beq_self_eq_true _
    cases f with
    | true =>
     rw [if_pos ⟨rfl, hl⟩] at hc
     have he : E = (2, (k : Int)) := hc.symm
     clear hc
     subst he
     go_wp2_with fail
     refine (HSH.out _).mono ?_
     rintro e w1 ⟨rfl, hw1⟩; subst w1
     go_wp2_with fail
     refine (HHA.out _).mono ?_
     rintro e w1 ⟨rfl, hw1⟩; subst w1
     go_wp2_with fail
     refine (HF.out _).mono ?_
     rintro e w1 ⟨rfl, hw1⟩; subst w1
     go_wp2
     go_ret2
     exact ⟨rfl, rfl⟩
    | false =>
     rw [if_neg (fun g => Bool.false_ne_true g.1)] at hc
     have HE := Lib.hid (show checkF m ((L.map (·.i)).drop (k + 1)) (k + 1) = E from hc)
     clear hc
     go_wp2_with fail
     refine (HSH.out _).mono ?_
     rintro e w1 ⟨rfl, hw1⟩; subst w1
     go_wp2_with fail
     refine (HHA.out _).mono ?_
     rintro e w1 ⟨rfl, hw1⟩; subst w1
     go_wp2_with fail
     refine (HF.out _).mono ?_
     rintro e w1 ⟨rfl, hw1⟩; subst w1
     go_wp2
     go_roundw
     case rel => exact ⟨k + 1, by omega, by go_num, HE.out, by trivial⟩
     case measure => simp [intOf]; omega
end Go.Proofs.YtnmnnokdoiagkaaDoor.flow

/-
 Layer 14: what is wrong with where it goes: the program's answer.
-/
import Derived.Test.YtnmnnokdoiagkaaDoorFlowN
namespace Go.Proofs.YtnmnnokdoiagkaaDoor.flow
open Go.RowKit Go.Shelf
open words kindp opp op prg flowp kind

theorem contains_t (o : Int) : Lib.contains (shapeL o) [116] = hasL (shapeL o) 116 := by
 refine shape_cases (P := fun _ s => Lib.contains s [116] = hasL s 116) ?_ ?_ ?_ ?_ ?_ ?_ ?_ ?_ ?_ ?_ ?_ ?_ ?_ ?_ ?_ ?_ ?_ ?_ ?_ ?_ ?_ ?_ ?_ ?_ ?_ ?_ ?_ ?_ ?_ ?_ ?_ ?_ ?_ ?_ o
 case refine_34 => intro o _; decide +kernel
 all_goals decide +kernel

set_option maxRecDepth 100000 in
set_option maxHeartbeats 1000000 in
theorem stray_w (i : In) (A : Option Addr) (c m : Nat) (w : World) (hs : Sh w) (hm : Mx w) :
  Calls Tryd.prog 23 #[.agg (InV i A c), .int .i64 (m : Int)] w fun e w' => e = .returned (.bool (strayB m i)) ∧ Below w.heap.size w w' := by
 obtain ⟨W, hW⟩ : ∃ W, W = w.alloc (.cells (InV i A c) 36) := ⟨_, rfl⟩
 have hal : Below w.heap.size w W := by rw [hW]; exact (Below.refl _ w).alloc (Nat.le_refl _) _
 have hblk : W.heap[w.heap.size]? = some (.cells (InV i A c) 36 (0, 0)) := by rw [hW]; exact heap_alloc_new w _
 obtain ⟨g0, g1, g2, g3, g4, g5, g6, g7, g8⟩ := in_cells hblk
 have HAL := Lib.hid hal
 have HSH := Lib.hid (shape_w i.o W (hs.below hal))
 obtain ⟨mx, hmx⟩ := hm.below hal
 have hsz := (shape_letters i.o).1
 have HCT := Lib.hid (Tryd.strings_Contains ⟨(shapeL i.o).toArray⟩ ⟨#[116]⟩ mx W (by show (shapeL i.o).toArray.size < _; simp; omega) hmx)
 have hct : Lib.contains ((⟨(shapeL i.o).toArray⟩ : ByteArray).data.toList) ((⟨#[116]⟩ : ByteArray).data.toList) = hasL (shapeL i.o) 116 := contains_t i.o
 rw [hct] at HCT
 have hT : strayB m i = (hasL (shapeL i.o) 116 && (decide (i.k < 0) || decide ((m : Int) ≤ i.k))) := rfl
 rw [hT]
 generalize shapeL i.o = s at *
 generalize hasL s 116 = bt at *
 dsimp only [InV] at hW ⊢
 have HW := Lib.hid hW
 clear hW hal hblk hs hm hmx hsz hct hT g1 g2 g3 g5 g6 g7 g8
 cases bt with
 | false =>
  go_enter Tryd.func23, Tryd.ntmps23
  go_wp2_with fail
  rw [← HW.out]
  refine HSH.out.mono ?_
  rintro e w1 ⟨rfl, hw1⟩; subst w1
  go_wp2_with fail
  refine HCT.out.mono ?_
  rintro e w1 ⟨rfl, hw1⟩; subst w1
  go_wp2
  go_ret
  exact ⟨rfl, HAL.out⟩
 | true =>
  by_cases h0 : i.k < 0
  ·have e1 : decide (i.k < 0) = true := decide_eq_true h0
   rw [e1]
   go_enter Tryd.func23, Tryd.ntmps23
   go_wp2_with fail
   rw [← HW.out]
   refine HSH.out.mono ?_
   rintro e w1 ⟨rfl, hw1⟩; subst w1
   go_wp2_with fail
   refine HCT.out.mono ?_
   rintro e w1 ⟨rfl, hw1⟩; subst w1
   go_wp2
   go_ret
   exact ⟨rfl, HAL.out⟩
  ·have e1 : decide (i.k < 0) = false := decide_eq_false h0
   rw [e1]
   by_cases h1 : (m : Int) ≤ i.k
   ·have e2 : decide ((m : Int) ≤ i.k) = true := decide_eq_true h1
    rw [e2]
    go_enter Tryd.func23, Tryd.ntmps23
    go_wp2_with fail
    rw [← HW.out]
    refine HSH.out.mono ?_
    rintro e w1 ⟨rfl, hw1⟩; subst w1
    go_wp2_with fail
    refine HCT.out.mono ?_
    rintro e w1 ⟨rfl, hw1⟩; subst w1
    go_wp2
    go_ret
    exact ⟨rfl, HAL.out⟩
   ·have e2 : decide ((m : Int) ≤ i.k) = false := decide_eq_false h1
    rw [e2]
    go_enter Tryd.func23, Tryd.ntmps23
    go_wp2_with fail
    rw [← HW.out]
    refine HSH.out.mono ?_
    rintro e w1 ⟨rfl, hw1⟩; subst w1
    go_wp2_with fail
    refine HCT.out.mono ?_
    rintro e w1 ⟨rfl, hw1⟩; subst w1
    go_wp2
    go_ret
    exact ⟨rfl, HAL.out⟩

theorem checkF_step {n k : Nat} {x : In} {r : List In} : checkF n (x :: r) k = match wrongAt n x k with | some e => (e, (k : Int)) | none => checkF n r (k + 1) := rfl
theorem drop_at' {α : Type} {l : List α} {k : Nat} {x : α} (h : l[k]? = some x) : l.drop k = x :: l.drop (k + 1) := by
 obtain ⟨hk, rfl⟩ := List.getElem?_eq_some_iff.1 h
 exact List.drop_eq_getElem_cons hk

set_option maxRecDepth 100000 in
set_option maxHeartbeats 2000000 in
theorem check_w (A : Option Addr) (c : Nat) (L : List InM) (w : World) (hz : L.length ≤ 1000) (hr : Rd w A (L.flatMap inC)) (hs : Sh w) (hm : Mx w) :
  Calls Tryd.prog 9 #[.slice A L.length c] w fun e w' => e = .returned (.tuple #[.int .i64 (checkE (L.map (·.i))).1, .int .i64 (checkE (L.map (·.i))).2]) ∧ Below w.heap.size w w' := by
 obtain ⟨m, hml⟩ : ∃ m, m = L.length := ⟨_, rfl⟩
 have hmI : (m : Int) ≤ 1000 := by omega
 have HR := Lib.hid hr; have HS := Lib.hid hs; have HM := Lib.hid hm; have HML := Lib.hid hml
 obtain ⟨E, hE⟩ : ∃ E, E = checkE (L.map (·.i)) := ⟨_, rfl⟩
 rw [← hml, ← hE]
 by_cases h0 : m = 0
 ·have hL : L = [] := List.eq_nil_of_length_eq_zero (by omega)
  subst hL
  obtain rfl : E = (2, 0) := hE
  subst h0
  clear hz hr hs hm hml HML HR
  go_enter Tryd.func9, Tryd.ntmps9
  go_wp2
  go_ret2
  exact ⟨rfl, Below.refl _ _⟩
 ·have HEE := Lib.hid (show checkF m (L.map (·.i)) 0 = E from by
   rw [hE]; unfold checkE
   rw [if_neg (fun h => h0 (by have := congrArg List.length h; rw [List.length_map] at this; rw [hml]; exact this)), List.length_map, ← hml])
  have hne : ((m : Int) == 0) = false := beq_eq_false_iff_ne.2 (by omega)
  clear hz hr hs hm hml hE
  go_enter Tryd.func9, Tryd.ntmps9
  go_wp2
  go_loopw [11] (fun i wr => ∃ k : Nat, k ≤ m ∧ i = .int .i64 (k : Int) ∧ checkF m ((L.map (·.i)).drop k) k = E ∧ Below w.heap.size w wr) (fun i _ => m - (intOf i).toNat)
  case atStart => exact ⟨0, Nat.zero_le _, rfl, HEE.out, Below.refl _ _⟩
  case round =>
   obtain ⟨k, hk, rfl, hc, hb⟩ := hrel
   by_cases hlt : k < m
   ·have hltI : (k : Int) < (m : Int) := by omega
    obtain ⟨x, hx⟩ : ∃ x, L[k]? = some x := ⟨L[k]'(by have := HML.out; omega), List.getElem?_eq_getElem _⟩
    rw [drop_at' (x := x.i) (by rw [List.getElem?_map, hx]; rfl), checkF_step] at hc
    have HC := Lib.hid hc; have HB := Lib.hid hb
    obtain ⟨a, rfl, -, f0, f1, f2, f3, f4, f5, f6, f7, f8⟩ := in_at (HR.out.below hb) hx
    clear hc hb hx
    obtain ⟨Wn, hWn⟩ : ∃ Wn, Wn = wr.alloc (.cells (InV x.i x.A x.c) 36) := ⟨_, rfl⟩
    have hbn : Below wr.heap.size wr Wn := by rw [hWn]; exact (Below.refl _ wr).alloc (Nat.le_refl _) _
    have hblk : Wn.heap[wr.heap.size]? = some (.cells (InV x.i x.A x.c) 36 (0, 0)) := by rw [hWn]; exact heap_alloc_new wr _
    have hB1 := HB.out.trans (hbn.mono HB.out.size)
    have HST := Lib.hid (stray_w x.i x.A x.c m Wn (HS.out.below hB1) (HM.out.below hB1))
    have HF := Lib.hid (fun w => falls_w x.i.o w)
    have HBK := Lib.hid hblk; have HB1 := Lib.hid hB1
    dsimp only [InV] at hWn HST
    have HW := Lib.hid hWn
    clear hWn hbn hblk hB1
    go_wp2_with fail
    rw [← HW.out]
    refine HST.out.mono ?_
    rintro e w2 ⟨rfl, k2⟩
    obtain ⟨g0, g1, g2, g3, g4, g5, g6, g7, g8⟩ := in_cells ((k2.block _ (blk_lt HBK.out)).trans HBK.out)
    have HB2 := Lib.hid (HB1.out.trans (k2.mono HB1.out.size))
    clear k2 g1 g2 g3 g4 g5 g6 g7 g8 f0 f1 f2 f3 f4 f5 f6 f7 f8 HST HBK HB1
    cases hst : strayB m x.i with
    | true =>
     have he : E = (12, (k : Int)) := by rw [← HC.out]; unfold wrongAt; rw [if_pos hst]
     clear hst
     subst he
     go_wp2
     go_ret2
     exact ⟨rfl, HB2.out⟩
    | false =>
     go_wp2_with fail
     refine (HF.out _).mono ?_
     rintro e w3 ⟨rfl, hw3⟩; subst w3
     cases hf : fallsB x.i.o with
     | false =>
      have HE := Lib.hid (show checkF m ((L.map (·.i)).drop (k + 1)) (k + 1) = E from by
       have := HC.out; unfold wrongAt at this
       rw [if_neg (by rw [hst]; exact Bool.false_ne_true), if_neg (fun h => by rw [hf] at h; exact Bool.false_ne_true h.1)] at this
       exact this)
      clear hst hf g0
      go_wp2
      go_roundw
      case rel => exact ⟨k + 1, by omega, by go_num, HE.out, HB2.out⟩
      case measure => simp [intOf]; omega
     | true =>
      by_cases hp : (k : Int) + 1 < (m : Int)
      ·have HE := Lib.hid (show checkF m ((L.map (·.i)).drop (k + 1)) (k + 1) = E from by
        have := HC.out; unfold wrongAt at this
        rw [if_neg (by rw [hst]; exact Bool.false_ne_true), if_neg (fun h => h.2 (by omega))] at this
        exact this)
       have HP := Lib.hid (fun A w => place_t A m c ((k : Int) + 1) w (by omega) hp)
       clear hst hf g0
       go_wp2_with fail
       refine (HP.out _ _).mono ?_
       rintro e w3 ⟨rfl, hw3⟩; subst w3
       go_wp2
       go_roundw
       case rel => exact ⟨k + 1, by omega, by go_num, HE.out, HB2.out⟩
       case measure => simp [intOf]; omega
      ·have he : E = (2, (k : Int)) := by
        rw [← HC.out]; unfold wrongAt
        rw [if_neg (by rw [hst]; exact Bool.false_ne_true), if_pos ⟨hf, by omega⟩]
       have HP := Lib.hid (fun A w => place_f A m c ((k : Int) + 1) w (.inr (by omega)))
       clear hst hf g0
       subst he
       go_wp2_with fail
       refine (HP.out _ _).mono ?_
       rintro e w3 ⟨rfl, hw3⟩; subst w3
       go_wp2
       go_ret2
       exact ⟨rfl, HB2.out⟩
   ·obtain rfl : k = m := by omega
    have hltI : ¬ (k : Int) < (k : Int) := by omega
    have he : E = (0, 0) := by rw [← hc, List.drop_of_length_le (by rw [List.length_map, ← HML.out]; exact Nat.le_refl _)]; rfl
    have HB := Lib.hid hb
    clear hc hb
    subst he
    go_wp2
    go_ret2
    exact ⟨rfl, HB.out⟩
end Go.Proofs.YtnmnnokdoiagkaaDoor.flow

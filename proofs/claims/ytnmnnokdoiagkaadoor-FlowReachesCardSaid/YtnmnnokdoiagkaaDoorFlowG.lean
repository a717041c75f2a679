/-
 Layer 14: what is not reached; where rows begin: the program's answers.
-/
import Derived.Test.YtnmnnokdoiagkaaDoorFlowC
import Derived.Test.YtnmnnokdoiagkaaDoorFlowD
namespace Go.Proofs.YtnmnnokdoiagkaaDoor.flow
open Go.RowKit Go.Shelf
open words kindp opp op prg flowp
attribute [local go_sem] Oper.semAt_some

/-- what Dead answers -/
def DeadP (l : List In) (w : World) (e : Ending) (w' : World) : Prop :=
 ∃ D, DistOk l D ∧ ∃ A' c', e = .returned (.slice A' (deadL D).length c') ∧ Rd w' A' (IL (deadL D)) ∧ Below w.heap.size w w'

set_option maxRecDepth 100000 in
set_option maxHeartbeats 400000 in
theorem dead_w (A : Option Addr) (c : Nat) (L : List InM) (w : World) (hz : L.length ≤ 1000) (hr : Rd w A (L.flatMap inC)) (hs : Sh w) :
  Calls Tryd.prog 19 #[.slice A L.length c] w (DeadP (L.map (·.i)) w) := by
 obtain ⟨i0, hi0, hz0, hz1, hz2⟩ := info_parts infoI
 have HD := Lib.hid (dist_w A c L w hz hr hs)
 obtain ⟨m, hm⟩ : ∃ m, m = L.length := ⟨_, rfl⟩
 have hml : (L.map (·.i)).length = m := by rw [List.length_map, ← hm]
 have hmI : (m : Int) ≤ 1000 := by omega
 unfold DistP at HD
 rw [hml] at HD
 rw [← hm] at HD ⊢
 generalize L.map (·.i) = l at *
 have HML := Lib.hid hml
 clear hr hs hz hm hml
 go_enter Tryd.func19, Tryd.ntmps19
 go_wp2_with fail
 refine HD.out.mono ?_
 rintro e w1 ⟨D, A', c', hD, rfl, hr, hb⟩
 have hlen := hD.len
 rw [HML.out] at hlen
 obtain ⟨p, hp⟩ : ∃ p : Nat → Bool, p = fun i => decide (dl D i = -1) := ⟨_, rfl⟩
 have HDL := Lib.hid (show deadL D = selL m p from by rw [hp, ← hlen]; rfl)
 have HP := Lib.hid (fun k => congrFun hp k)
 have HOK := Lib.hid hD; have HR := Lib.hid hr; have HB1 := Lib.hid hb; have HLD := Lib.hid hlen
 clear hD hr hb hp hlen HD
 go_wp2
 go_loopw [3, 9] (fun v i wr => ∃ k : Nat, k ≤ m ∧ i = .int .i64 (k : Int) ∧ wr.ownsRow w1.heap.size 3 1 v (selL k p).length (IL (selL k p)) ∧ Below w1.heap.size w1 wr) (fun _ i _ => m - (intOf i).toNat)
 case atStart => exact ⟨0, Nat.zero_le _, rfl, World.ownsRow_nil _ _ _ _, Below.refl _ _⟩
 case round =>
  obtain ⟨k, hk, rfl, ho, hb⟩ := hrel
  have HO := Lib.hid ho; have HB := Lib.hid hb
  have hsz := hb.size
  by_cases hlt : k < m
  ·have hltI : (k : Int) < (m : Int) := by omega
   obtain ⟨a, rfl, -, cx⟩ := (HR.out.below hb).at_ (IL_at (dl_get (D := D) (i := k) (by have := HLD.out; omega)))
   have hln := selL_len k p
   have hpk := HP.out k
   obtain ⟨d, hd⟩ : ∃ d, d = dl D k := ⟨_, rfl⟩
   rw [← hd] at cx hpk
   clear ho hb hd
   by_cases h1 : d = -1
   ·have hb1 : (d == -1) = true := by rw [h1]; rfl
    have HE := Lib.hid (show selL (k + 1) p = selL k p ++ [(k : Int)] from by rw [selL_succ, hpk, h1]; rfl)
    clear hpk h1
    go_wp2_with (at_builtin; refine wpList_app _ rfl (.tmp 16) (.tmp 18) _ rfl w1.heap.size 3 i0 _ 1 8 Tryd.underlying29 hi0 hz0 hz1 hz2 rfl (by omega) _ (selL k p).length (IL (selL k p)) rfl (HO.out.alloc _) _ 1 1 [.int .i64 (k : Int)] rfl rfl (rd_blk (heap_alloc_new wr _) (k := 1) rfl) (by simp [Value.oneCell']) (by simp only [maxLen]; omega) (by omega) (by simp; omega) ?_; intro v' w2 hown2 hg2 hb2 hat2; clear hg2 hat2)
    have hb3 := (HB.out.alloc hsz _).trans hb2
    go_roundw
    case rel => exact ⟨k + 1, by omega, by go_num, by rw [HE.out, List.length_append, IL_app]; exact hown2, hb3⟩
    case measure => simp [intOf]; omega
   ·have hb1 : (d == -1) = false := beq_eq_false_iff_ne.2 h1
    have HE := Lib.hid (show selL (k + 1) p = selL k p from by rw [selL_succ, hpk]; simp [h1])
    clear hpk h1
    go_wp2
    go_roundw
    case rel => exact ⟨k + 1, by omega, by go_num, by rw [HE.out]; exact HO.out, HB.out⟩
    case measure => simp [intOf]; omega
  ·have hkm : k = m := by omega
   subst hkm
   have hltI : ¬ (k : Int) < (k : Int) := by omega
   obtain ⟨A9, c9, rfl, -, -, hr9⟩ := own_rd ho
   have HR9 := Lib.hid hr9
   clear ho hb hr9 HO
   go_wp2
   go_ret
   exact ⟨D, HOK.out, A9, c9, by rw [HDL.out]; rfl, by rw [HDL.out]; exact HR9.out, HB1.out.trans (HB.out.mono HB1.out.size)⟩
/-- a row of the call's own, sorted; what else there is stays -/
theorem sort_keeps (base : Nat) (v : Value) (xs : List Int) (w : World) (h : w.ownsRow base 3 1 v xs.length (IL xs)) (hn : xs.length ≤ 1000) (hb : base ≤ w.heap.size) :
  Calls Tryd.prog 37 #[v] w fun e w' => e = .returned (.tuple #[]) ∧ w'.ownsRow base 3 1 v xs.length (IL (xs.mergeSort fun x y => decide (x ≤ y))) ∧ Below base w w' ∧ w.grownBy w' v.ownBlock := by
 rcases h.2 with ⟨rfl, hz⟩ | ⟨gb, cap, cur, rfl, hbase, hgb, r1, r2, r3, r4⟩
 ·have hx : xs = [] := List.eq_nil_of_length_eq_zero (by simpa using hz)
  subst hx
  refine (Tryd.slices_Sort_int_none none 0 w).mono ?_
  rintro e w' ⟨rfl, rfl⟩
  exact ⟨rfl, by simpa using h, Below.refl _ _, ⟨rfl, rfl, rfl, Nat.le_refl _, fun _ _ _ => rfl⟩⟩
 ·have hH : Go.Sort.Holds (Value.int .i64) w gb 0 xs.toArray := holds_of_block_i hgb (by rw [Nat.mul_one] at r4; exact r4)
  have hgl : gb < w.heap.size := (Array.getElem?_eq_some_iff.1 hgb).1
  refine (Tryd.slices_Sort_int gb 0 cap xs w hH hgl (by omega)).mono ?_
  rintro e w' ⟨rfl, nn, os, rfl⟩
  refine ⟨rfl, ownsRow_sorted_i (by simp) hbase hgb r1 r2 r3, (Below.refl _ w).grown (grownBy_sorted_i _) hb (fun j hj => by cases hj; exact hbase), grownBy_sorted_i _⟩

set_option maxRecDepth 100000 in
set_option maxHeartbeats 400000 in
/-- a place at which a row begins, kept where it is one -/
theorem begin_w (A : Option Addr) (c m pc pl : Nat) (z : Int) (acc : List Int) (w : World) (hc : w.cell? ⟨pc, 0, none⟩ = some (.slice A m c)) (hx : RowBox pl pl acc w) (ha : acc.length ≤ 1000) :
  Calls Tryd.prog 35 #[.int .i64 z, .pointer (some ⟨pc, 0, none⟩), .pointer (some ⟨pl, 0, none⟩)] w fun e w' => e = .returned (.tuple #[]) ∧ RowBox pl pl (acc ++ if 0 ≤ z ∧ z < (m : Int) then [z] else []) w' ∧ Below pl w w' := by
 obtain ⟨i0, hi0, hz0, hz1, hz2⟩ := info_parts infoI
 obtain ⟨v, hv, hrow, -⟩ := hx
 have hle : pl ≤ w.heap.size := Nat.le_of_lt hv.lt
 by_cases h : 0 ≤ z ∧ z < (m : Int)
 ·rw [if_pos h]
  have HP := Lib.hid (fun w => place_t A m c z w h.1 h.2)
  have hcl := hv.cell
  go_enter Tryd.func35, Tryd.ntmps35
  go_wp2_with fail
  refine (HP.out _).mono ?_
  rintro e w1 ⟨rfl, hw1⟩; subst w1
  have HV := Lib.hid hv
  clear HP hv
  go_wp2_with (at_builtin; refine wpList_app _ rfl (.tmp 7) (.tmp 9) _ rfl pl 3 i0 _ 1 8 Tryd.underlying29 hi0 hz0 hz1 hz2 rfl (by omega) _ acc.length (IL acc) rfl (hrow.alloc _) _ 1 1 [.int .i64 z] rfl rfl (rd_blk (heap_alloc_new w _) (k := 1) rfl) (by simp [Value.oneCell']) (by simp only [maxLen]; omega) (by omega) (by simp; omega) ?_; intro v' w2 hown2 hg2 hb2 hat2; obtain ⟨g', cap', rfl⟩ := ownsRow_succ hown2; obtain ⟨k1, k2, k3, k4, k5⟩ := HV.out.appended (by decide) hrow hle (Nat.le_refl _) hown2 hg2; have hc1 := k1.cell; have hf1 := k1.frozen)
  refine bodyPost_end (results_none rfl _ _ _) rfl ?_
  exact ⟨rfl, ⟨_, k2, by rw [List.length_append, IL_app]; exact k3, trivial⟩, k5⟩
 ·rw [if_neg h, List.append_nil]
  have HP := Lib.hid (fun w => place_f A m c z w (by omega))
  have HV := Lib.hid (show RowBox pl pl acc w from ⟨v, hv, hrow, trivial⟩)
  clear hv hrow
  go_enter Tryd.func35, Tryd.ntmps35
  go_wp2_with fail
  refine (HP.out _).mono ?_
  rintro e w1 ⟨rfl, hw1⟩; subst w1
  go_wp2
  refine bodyPost_end (results_none rfl _ _ _) rfl ?_
  exact ⟨rfl, HV.out, Below.refl _ _⟩
theorem begins_jump {n : Nat} {x : In} {k : Nat} (h : (targetL x).2 = true) : begins n x k = (if 0 ≤ (targetL x).1 ∧ (targetL x).1 < (n : Int) then [(targetL x).1] else []) ++ (if 0 ≤ (k : Int) + 1 ∧ (k : Int) + 1 < (n : Int) then [(k : Int) + 1] else []) := by
 have hg := target_ge x h
 unfold begins
 rw [h]
 have e1 : ((true = true) ∧ (targetL x).1 < (n : Int)) ↔ (0 ≤ (targetL x).1 ∧ (targetL x).1 < (n : Int)) := ⟨fun a => ⟨hg, a.2⟩, fun a => ⟨rfl, a.2⟩⟩
 have e2 : ((true = true ∨ fallsB x.o = false) ∧ k + 1 < n) ↔ (0 ≤ (k : Int) + 1 ∧ (k : Int) + 1 < (n : Int)) := ⟨fun a => ⟨by omega, by omega⟩, fun a => ⟨.inl rfl, by omega⟩⟩
 exact congr (congrArg HAppend.hAppend (ite_congr (propext e1) (fun _ => rfl) (fun _ => rfl))) (ite_congr (propext e2) (fun _ => rfl) (fun _ => rfl))
theorem begins_stop {n : Nat} {x : In} {k : Nat} (h : (targetL x).2 = false) (hf : fallsB x.o = false) : begins n x k = if 0 ≤ (k : Int) + 1 ∧ (k : Int) + 1 < (n : Int) then [(k : Int) + 1] else [] := by
 unfold begins
 rw [h, hf]
 have e2 : ((false = true ∨ false = false) ∧ k + 1 < n) ↔ (0 ≤ (k : Int) + 1 ∧ (k : Int) + 1 < (n : Int)) := ⟨fun a => ⟨by omega, by omega⟩, fun a => ⟨.inr rfl, by omega⟩⟩
 rw [if_neg (fun a => Bool.false_ne_true a.1), List.nil_append]
 exact ite_congr (propext e2) (fun _ => rfl) (fun _ => rfl)
theorem begins_on {n : Nat} {x : In} {k : Nat} (h : (targetL x).2 = false) (hf : fallsB x.o = true) : begins n x k = [] := by
 unfold begins
 rw [h, hf]
 simp
theorem one_len {p : Prop} [Decidable p] (t : Int) : (if p then [t] else []).length ≤ 1 := by split <;> simp

/-- what Blocks answers -/
def BlP (l : List In) (w : World) (e : Ending) (w' : World) : Prop :=
 ∃ A' c', e = .returned (.slice A' (blocksL l).length c') ∧ Rd w' A' (IL (blocksL l)) ∧ Below w.heap.size w w'

set_option maxRecDepth 100000 in
set_option maxHeartbeats 800000 in
theorem blocks_w (A : Option Addr) (c : Nat) (L : List InM) (w : World) (hz : L.length ≤ 400) (hr : Rd w A (L.flatMap inC)) (hs : Sh w) :
  Calls Tryd.prog 21 #[.slice A L.length c] w (BlP (L.map (·.i)) w) := by
 obtain ⟨m, hm⟩ : ∃ m, m = L.length := ⟨_, rfl⟩
 have hml : (L.map (·.i)).length = m := by rw [List.length_map, ← hm]
 have hmI : (m : Int) ≤ 400 := by omega
 have HRW := Lib.hid (show (rawL (L.map (·.i))).length ≤ 801 from by
  have := beginF_len (L.map (·.i)).length (L.map (·.i)) 0
  unfold rawL
  rw [List.length_append]
  have := one_len (p := 0 < (L.map (·.i)).length) 0
  omega)
 obtain ⟨W1, hW1⟩ : ∃ W1, W1 = (w.alloc (.cells #[.slice A m c] 22)).alloc (.cells #[.slice none 0 0] 29) := ⟨_, rfl⟩
 have hs1 : W1.heap.size = w.heap.size + 2 := by rw [hW1]; simp
 have hb1 : Below w.heap.size w W1 := by rw [hW1]; exact (((Below.refl _ w).alloc (Nat.le_refl _) _).alloc (by simp) _)
 have hc1 : W1.cell? ⟨w.heap.size, 0, none⟩ = some (.slice A m c) := by rw [hW1]; exact ((Below.refl _ (w.alloc (.cells #[.slice A m c] 22))).alloc (Nat.le_refl _) _).cell (p := ⟨w.heap.size, 0, none⟩) (by simp) |>.trans (cell_of_row _ _ 0 _ _ _ (heap_alloc_new w _))
 have hx1 : RowBox (w.heap.size + 1) (w.heap.size + 1) [] W1 := by
  have := Boxed.new (w.alloc (.cells #[.slice A m c] 22)) 29 (.slice none 0 0)
  rw [World.size_alloc, ← hW1] at this
  exact ⟨_, this, World.ownsRow_nil _ _ _ _, trivial⟩
 have HR := Lib.hid hr; have HS := Lib.hid hs; have HM := Lib.hid hm; have HML := Lib.hid hml
 have HB1 := Lib.hid hb1
 have HBG := Lib.hid (fun z acc W h1 h2 h3 => begin_w A c m w.heap.size (w.heap.size + 1) z acc W h1 h2 h3)
 have HG0 := Lib.hid (begin_w A c m w.heap.size (w.heap.size + 1) 0 [] W1 hc1 hx1 (by simp))
 have HW := Lib.hid hW1
 rw [← hm]
 clear hr hs hz hm hml hb1 hx1 hW1
 go_enter Tryd.func21, Tryd.ntmps21
 go_wp2_with fail
 rw [← HW.out]
 refine HG0.out.mono ?_
 rintro e w2 ⟨rfl, hx2, hb2⟩
 have hs2 : w.heap.size + 2 ≤ w2.heap.size := by have := hb2.size; omega
 have HC2 := Lib.hid ((hb2.cell (p := ⟨w.heap.size, 0, none⟩) (by simp)).trans hc1)
 have hc2 := HC2.out
 have HX2 := Lib.hid hx2; have HB2 := Lib.hid hb2
 clear hx2 hb2 hc1 hs1 HG0 HW
 go_wp2
 go_loopw [14] (fun i W => ∃ (k : Nat) (acc : List Int), k ≤ m ∧ i = .int .i64 (k : Int) ∧ acc ++ beginF m ((L.map (·.i)).drop k) k = rawL (L.map (·.i)) ∧ RowBox (w.heap.size + 1) (w.heap.size + 1) acc W ∧ Below (w.heap.size + 1) w2 W) (fun i _ => m - (intOf i).toNat)
 case atStart => exact ⟨0, _, Nat.zero_le _, rfl, by unfold rawL; rw [HML.out]; simp, HX2.out, Below.refl _ _⟩
 case round =>
  obtain ⟨k, acc, hk, rfl, hacc, hx, hb⟩ := hrel
  have hal : acc.length ≤ 801 := by
   have := congrArg List.length hacc
   have := HRW.out
   rw [List.length_append] at *
   omega
  have hwW : Below w.heap.size w W1 := HB1.out
  have HBW := Lib.hid hb
  have HBB := Lib.hid ((HB1.out.trans (HB2.out.mono (by omega))).trans (hb.mono (by omega)))
  have hcw := HBW.out.cell (p := ⟨w.heap.size, 0, none⟩) (by simp) |>.trans HC2.out
  have HX := Lib.hid hx
  have hsz := hb.size
  clear hx hb hwW
  by_cases hlt : k < m
  ·have hltI : (k : Int) < (m : Int) := by omega
   obtain ⟨x, hx⟩ : ∃ x, L[k]? = some x := ⟨L[k]'(by have := HM.out; omega), List.getElem?_eq_getElem _⟩
   rw [drop_at' (x := x.i) (by rw [List.getElem?_map, hx]; rfl)] at hacc
   have HAC := Lib.hid (show (acc ++ begins m x.i k) ++ beginF m ((L.map (·.i)).drop (k + 1)) (k + 1) = rawL (L.map (·.i)) from by rw [List.append_assoc]; exact hacc)
   obtain ⟨a, rfl, -, f0, f1, f2, f3, f4, f5, f6, f7, f8⟩ := in_at (HR.out.below HBB.out) hx
   clear hacc hx
   obtain ⟨Wn, hWn⟩ : ∃ Wn, Wn = wr.alloc (.cells (InV x.i x.A x.c) 36) := ⟨_, rfl⟩
   have hbn : Below wr.heap.size wr Wn := by rw [hWn]; exact (Below.refl _ wr).alloc (Nat.le_refl _) _
   have hblk : Wn.heap[wr.heap.size]? = some (.cells (InV x.i x.A x.c) 36 (0, 0)) := by rw [hWn]; exact heap_alloc_new wr _
   have HBN := Lib.hid (HBB.out.trans (hbn.mono HBB.out.size))
   have HT := Lib.hid (target_w x.i x.A x.c Wn (HS.out.below HBN.out))
   have HF := Lib.hid (fun w => falls_w x.i.o w)
   have HBK := Lib.hid hblk; have HBL := Lib.hid hbn
   have HBJ := Lib.hid (begins_jump (n := m) (x := x.i) (k := k))
   have HBS := Lib.hid (begins_stop (n := m) (x := x.i) (k := k))
   have HBO := Lib.hid (begins_on (n := m) (x := x.i) (k := k))
   dsimp only [InV] at hWn HT
   have HW := Lib.hid hWn
   clear hWn hbn hblk
   obtain ⟨t, ht⟩ : ∃ t, t = (targetL x.i).1 := ⟨_, rfl⟩
   obtain ⟨j, hj⟩ : ∃ j, j = (targetL x.i).2 := ⟨_, rfl⟩
   rw [← ht, ← hj] at HT HBJ
   rw [← hj] at HBS HBO
   clear ht hj
   go_wp2_with fail
   rw [← HW.out]
   refine HT.out.mono ?_
   rintro e w3 ⟨rfl, k3⟩
   have HB3 := Lib.hid (HBL.out.trans (k3.mono HBL.out.size))
   have hx3 := HX.out.below HB3.out
   have hb3 : Below (w.heap.size + 1) wr w3 := HB3.out.mono (by omega)
   have hb23 := HBW.out.trans hb3
   have h3s := hb23.size
   have hc3 := (HB3.out.cell (p := ⟨w.heap.size, 0, none⟩) (by simp; omega)).trans hcw
   have hl1 := one_len (p := 0 ≤ t ∧ t < (m : Int)) t
   cases j with
   | true =>
    have HG1 := Lib.hid (HBG.out t acc w3 hc3 hx3 (by omega))
    have HB23 := Lib.hid hb23
    have HEE := Lib.hid (HBJ.out rfl)
    clear k3 hx3 hb3 hb23 hc3 HT HF HBJ HBS HBO HB3 HBK HBL HW HBW HBB
    go_wp2_with fail
    refine HG1.out.mono ?_
    rintro e w4 ⟨rfl, hx4, hb4⟩
    have HG2 := Lib.hid (HBG.out ((k : Int) + 1) _ w4 ((hb4.cell (p := ⟨w.heap.size, 0, none⟩) (by simp)).trans ((HB23.out.cell (p := ⟨w.heap.size, 0, none⟩) (by simp)).trans HC2.out)) hx4 (by rw [List.length_append]; omega))
    have HB4 := Lib.hid (HB23.out.trans (hb4.mono (Nat.le_refl _)))
    clear hx4 hb4 HG1
    go_wp2_with fail
    refine HG2.out.mono ?_
    rintro e w5 ⟨rfl, hx5, hb5⟩
    rw [List.append_assoc, ← HEE.out] at hx5
    have HX5 := Lib.hid hx5; have HB5 := Lib.hid hb5
    clear hx5 hb5 HG2
    go_wp2
    go_roundw
    case rel => exact ⟨k + 1, _, by omega, by go_num, HAC.out, HX5.out, HB4.out.trans HB5.out⟩
    case measure => simp [intOf]; omega
   | false =>
    obtain ⟨g0, g1, g2, g3, g4, g5, g6, g7, g8⟩ := in_cells ((k3.block _ (blk_lt HBK.out)).trans HBK.out)
    have HX3 := Lib.hid hx3; have HB23 := Lib.hid hb23
    have HC3 := Lib.hid hc3
    clear k3 hx3 hb3 hb23 hc3 g1 g2 g3 g4 g5 g6 g7 g8 HT HBJ HB3 HBK HBL HW HBW HBB
    go_wp2_with fail
    refine (HF.out _).mono ?_
    rintro e w4 ⟨rfl, hw4⟩; subst w4
    cases hf : fallsB x.i.o with
    | true =>
     have HEE := Lib.hid (HBO.out (by trivial) hf)
     have hac := HAC.out
     rw [HEE.out, List.append_nil] at hac
     have HAD := Lib.hid hac
     clear hf hac HAC HBO HBS HF
     go_wp2
     go_roundw
     case rel => exact ⟨k + 1, _, by omega, by go_num, HAD.out, HX3.out, HB23.out⟩
     case measure => simp [intOf]; omega
    | false =>
     have HEE := Lib.hid (HBS.out (by trivial) hf)
     have HG2 := Lib.hid (HBG.out ((k : Int) + 1) _ w3 HC3.out HX3.out (by omega))
     clear hf HBO HBS HF
     go_wp2_with fail
     refine HG2.out.mono ?_
     rintro e w5 ⟨rfl, hx5, hb5⟩
     rw [← HEE.out] at hx5
     have HX5 := Lib.hid hx5; have HB5 := Lib.hid hb5
     clear hx5 hb5 HG2
     go_wp2
     go_roundw
     case rel => exact ⟨k + 1, _, by omega, by go_num, HAC.out, HX5.out, HB23.out.trans HB5.out⟩
     case measure => simp [intOf]; omega
  ·have hkm : k = m := by omega
   subst hkm
   have hltI : ¬ (k : Int) < (k : Int) := by omega
   have hac : acc = rawL (L.map (·.i)) := by rw [← hacc, List.drop_of_length_le (by rw [HML.out]; exact Nat.le_refl _)]; exact (List.append_nil _).symm
   subst hac
   obtain ⟨v, hv, hrow, -⟩ := HX.out
   have hcl := hv.cell
   have HV := Lib.hid hv; have HRR := Lib.hid hrow
   have HSO := Lib.hid (sort_keeps _ v _ wr hrow (by omega) (by omega))
   have HBX := Lib.hid (show blocksL (L.map (·.i)) = Lib.compact ((rawL (L.map (·.i))).mergeSort fun x y => decide (x ≤ y)) from rfl)
   have HLL := Lib.hid (show ((rawL (L.map (·.i))).mergeSort fun x y => decide (x ≤ y)).length = (rawL (L.map (·.i))).length from List.length_mergeSort _)
   clear hacc hv hrow HX
   go_wp2_with fail
   refine HSO.out.mono ?_
   rintro e w5 ⟨rfl, hr5, hb5, hg5⟩
   have hv5 := HV.out.kept hg5 (HV.out.not_row (by decide) HRR.out)
   have hcl5 := hv5.cell
   have HB6 := Lib.hid (HBB.out.trans (hb5.mono (by have := HBB.out.size; omega)))
   have hCO := compact_own _ v _ w5 (by rw [HLL.out]; exact hr5) (by rw [HLL.out]; omega) (show w.heap.size + 1 ≤ w5.heap.size by have := hb5.size; omega)
   rw [← HBX.out] at hCO
   have HCO := Lib.hid hCO
   have hs5 := HB6.out.size
   clear hr5 hb5 hg5 hv5 hCO HSO HV HRR
   go_wp2_with fail
   refine HCO.out.mono ?_
   rintro e w6 ⟨A', c', rfl, hr6, hb6⟩
   have HR6 := Lib.hid hr6; have HB7 := Lib.hid hb6
   clear hr6 hb6 HCO
   go_wp2
   go_ret
   exact ⟨A', c', rfl, HR6.out, HB6.out.trans (HB7.out.mono (by omega))⟩
end Go.Proofs.YtnmnnokdoiagkaaDoor.flow

/-
 Layer 7: whether a call is as its descriptor asks, whether numbers are within, where an instruction jumps, what it sets: the program answers.
-/
import Derived.Test.YtnmnnokdoiagkaaDoorOpS
import Derived.Test.YtnmnnokdoiagkaaDoorKindV
import Derived.IntWalk
/- Layer 7: whether a call is as its descriptor asks; whether numbers are within: the program's answers. -/
namespace Go.Proofs.YtnmnnokdoiagkaaDoor.op
open Go.RowKit
open words kindp opp kind

def recv (o : Int) : Nat := if o = 20 ∨ o = 21 then 1 else 0
/-- what is wrong with a call -/
def descE (i : In) : Int :=
 if (splitT i.ds).2.2 ≠ 0 then 1 else if i.ar.length ≠ (splitT i.ds).1.length + recv i.o then 9 else if (splitT i.ds).2.1.1 = 1 ∧ i.a ≠ 0 then 12 else 0
theorem split_err (d : Tx) : (splitT d).2.2 ≤ 3 ∧ (splitT d).1.length ≤ 8 := by
 unfold splitT
 split
 ·exact ⟨Nat.le_refl _, Nat.zero_le _⟩
 ·cases sigD d with
  | none => exact ⟨by show 1 ≤ 3; omega, Nat.zero_le _⟩
  | some q =>
   dsimp only
   split
   ·exact ⟨Nat.le_refl _, Nat.zero_le _⟩
   ·exact ⟨Nat.zero_le _, by dsimp only; omega⟩
end Go.Proofs.YtnmnnokdoiagkaaDoor.op

/- Layer 7: whether a place, and what is reckoned, are within: the program's answer; what an instruction sets, and where it jumps. -/
namespace Go.Proofs.YtnmnnokdoiagkaaDoor.op
open Go.RowKit
open words kindp opp kind

def countedB (i : In) (code : Int) : Bool := (!hasL (shapeL i.o) 116 || (decide (0 ≤ i.k) && decide (i.k < code))) && (!hasL (shapeL i.o) 114 || (decide (0 ≤ i.k) && decide (i.k ≤ 9)))
theorem counted_cut {bt br p q r : Bool} {P : Bool → Prop} (h1 : bt = false → br = false → P true) (h2 : bt = false → br = true → p = false → P false) (h3 : bt = false → br = true → p = true → r = false → P false) (h4 : bt = false → br = true → p = true → r = true → P true)
  (h5 : bt = true → p = false → P false) (h6 : bt = true → p = true → q = false → P false) (h7 : bt = true → p = true → q = true → br = false → P true) (h8 : bt = true → p = true → q = true → br = true → r = false → P false) (h9 : bt = true → p = true → q = true → br = true → r = true → P true) :
  P ((!bt || (p && q)) && (!br || (p && r))) := by
 cases bt
 ·cases br
  ·exact h1 rfl rfl
  cases p
  ·exact h2 rfl rfl rfl
  cases r
  ·exact h3 rfl rfl rfl rfl
  ·exact h4 rfl rfl rfl rfl
 cases p
 ·exact h5 rfl rfl
 cases q
 ·exact h6 rfl rfl rfl
 cases br
 ·exact h7 rfl rfl rfl rfl
 cases r
 ·exact h8 rfl rfl rfl rfl rfl
 ·exact h9 rfl rfl rfl rfl rfl
set_option maxRecDepth 100000 in
set_option maxHeartbeats 4000000 in
theorem target_w (i : In) (A : Option Addr) (c : Nat) (w : World) (hs : Sh w) :
  Calls Tryd.prog 36 #[.agg (InV i A c)] w fun e w' => e = .returned (.tuple #[.int .i64 (targetL i).1, .bool (targetL i).2]) ∧ Below w.heap.size w w' := by
 obtain ⟨W, hW⟩ : ∃ W, W = w.alloc (.cells (InV i A c) 36) := ⟨_, rfl⟩
 have hal : Below w.heap.size w W := by rw [hW]; exact (Below.refl _ w).alloc (Nat.le_refl _) _
 have HAL := Lib.hid hal
 have hblk : W.heap[w.heap.size]? = some (.cells (InV i A c) 36 (0, 0)) := by rw [hW]; exact heap_alloc_new w _
 have HBK := Lib.hid hblk; have HLT := Lib.hid (blk_lt hblk)
 obtain ⟨g0, g1, g2, g3, g4, g5, g6, g7, g8⟩ := in_cells hblk
 have HSH := Lib.hid (hs.below hal)
 have HHT := Lib.hid (fun w hs => has_w i.o [116] w hs (by decide) (by decide))
 rw [any_one] at HHT
 have hT : targetL i = if hasL (shapeL i.o) 116 = true ∧ 0 ≤ i.k ∧ i.k ≤ 256 then (i.k, true) else (0, false) := rfl
 obtain ⟨T, hT2⟩ : ∃ T, T = targetL i := ⟨_, rfl⟩
 rw [← hT2] at hT ⊢
 generalize hasL (shapeL i.o) 116 = bt at *
 dsimp only [InV] at hW ⊢
 have HW := Lib.hid hW
 clear hs hal hblk hW hT2
 cases bt with
 | false =>
  obtain rfl : T = (0, false) := by rw [hT, if_neg (by simp)]
  clear hT
  go_enter Tryd.func36, Tryd.ntmps36
  go_wp2_with fail
  rw [← HW.out]
  refine (HHT.out _ HSH.out).mono ?_
  rintro e v1 ⟨rfl, k1⟩
  have K1 := Lib.hid k1
  clear k1
  go_wp2
  go_ret2
  exact ⟨rfl, HAL.out.trans (K1.out.mono HAL.out.size)⟩
 | true =>
  by_cases h0 : 0 ≤ i.k
  ·by_cases h1 : i.k ≤ 256
   ·obtain rfl : T = (i.k, true) := by rw [hT, if_pos ⟨rfl, h0, h1⟩]
    clear hT
    go_enter Tryd.func36, Tryd.ntmps36
    go_wp2_with fail
    rw [← HW.out]
    refine (HHT.out _ HSH.out).mono ?_
    rintro e v1 ⟨rfl, k1⟩
    obtain ⟨a0x1, a1x1, a2x1, a3x1, a4x1, a5x1, a6x1, a7x1, a8x1⟩ := in_cells ((k1.block _ HLT.out).trans HBK.out)
    have K1 := Lib.hid k1
    clear k1
    go_wp2
    go_ret2
    exact ⟨rfl, HAL.out.trans (K1.out.mono HAL.out.size)⟩
   ·obtain rfl : T = (0, false) := by rw [hT, if_neg (fun h => h1 h.2.2)]
    clear hT
    go_enter Tryd.func36, Tryd.ntmps36
    go_wp2_with fail
    rw [← HW.out]
    refine (HHT.out _ HSH.out).mono ?_
    rintro e v1 ⟨rfl, k1⟩
    obtain ⟨a0x1, a1x1, a2x1, a3x1, a4x1, a5x1, a6x1, a7x1, a8x1⟩ := in_cells ((k1.block _ HLT.out).trans HBK.out)
    have K1 := Lib.hid k1
    clear k1
    go_wp2
    go_ret2
    exact ⟨rfl, HAL.out.trans (K1.out.mono HAL.out.size)⟩
  ·obtain rfl : T = (0, false) := by rw [hT, if_neg (fun h => h0 h.2.1)]
   clear hT
   go_enter Tryd.func36, Tryd.ntmps36
   go_wp2_with fail
   rw [← HW.out]
   refine (HHT.out _ HSH.out).mono ?_
   rintro e v1 ⟨rfl, k1⟩
   obtain ⟨a0x1, a1x1, a2x1, a3x1, a4x1, a5x1, a6x1, a7x1, a8x1⟩ := in_cells ((k1.block _ HLT.out).trans HBK.out)
   have K1 := Lib.hid k1
   clear k1
   go_wp2
   go_ret2
   exact ⟨rfl, HAL.out.trans (K1.out.mono HAL.out.size)⟩
end Go.Proofs.YtnmnnokdoiagkaaDoor.op

/- Layer 7: whether a descriptor answers something; what an instruction sets: the program's answers. -/
namespace Go.Proofs.YtnmnnokdoiagkaaDoor.op
open Go.RowKit
open words kindp opp kind

def ansB (d : Tx) : Bool := decide ((splitT d).2.2 = 0) && decide ((splitT d).2.1.1 ≠ 1)
theorem sets_cut {i : In} {P : Int × Bool → Prop} (h1 : hasL (shapeL i.o) 97 = false → P (0, false)) (h2 : hasL (shapeL i.o) 97 = true → (i.o == 14) = true → P (0, false))
  (h3 : hasL (shapeL i.o) 97 = true → (i.o == 14) = false → isCall i.o = false → P (i.a, true)) (h4 : hasL (shapeL i.o) 97 = true → (i.o == 14) = false → isCall i.o = true → ansB i.ds = false → P (0, false))
  (h5 : hasL (shapeL i.o) 97 = true → (i.o == 14) = false → isCall i.o = true → ansB i.ds = true → P (i.a, true)) : P (setsL i) := by
 unfold setsL
 cases ha : hasL (shapeL i.o) 97 with
 | false => rw [if_pos (.inl rfl)]; exact h1 ha
 | true =>
  cases ho : (i.o == 14) with
  | true => rw [if_pos (.inr (by simpa using ho))]; exact h2 ha ho
  | false =>
   have ho2 : i.o ≠ 14 := by simpa using ho
   rw [if_neg (by simpa using ho2)]
   cases hc : isCall i.o with
   | false => rw [if_neg (by simp)]; exact h3 ha ho hc
   | true =>
    cases hb : ansB i.ds with
    | false =>
     have hne : ¬ ((splitT i.ds).2.2 = 0 ∧ (splitT i.ds).2.1.1 ≠ 1) := fun h => by unfold ansB at hb; rw [decide_eq_true h.1, decide_eq_true h.2] at hb; cases hb
     rw [if_pos ⟨rfl, hne⟩]
     exact h4 ha ho hc hb
    | true =>
     have hne : (splitT i.ds).2.2 = 0 ∧ (splitT i.ds).2.1.1 ≠ 1 := by unfold ansB at hb; rw [Bool.and_eq_true, decide_eq_true_eq, decide_eq_true_eq] at hb; exact hb
     rw [if_neg (fun h => h.2 hne)]
     exact h5 ha ho hc hb
end Go.Proofs.YtnmnnokdoiagkaaDoor.op

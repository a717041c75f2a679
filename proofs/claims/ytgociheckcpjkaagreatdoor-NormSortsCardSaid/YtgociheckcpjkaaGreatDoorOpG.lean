/- OpG -/
import Derived.Test.YtgociheckcpjkaaGreatDoorOpU
import Derived.Test.YtgociheckcpjkaaGreatDoorKindV
import Derived.IntWalk
namespace Go.Proofs.YtgociheckcpjkaaGreatDoor.op
open Go.RowKit
open words kindp opp kind
set_option maxRecDepth 100000
set_option maxHeartbeats 4000000
def recv (o : Int) : Nat := if o = 20 ∨ o = 21 then 1 else 0
theorem recv_w (o : Int) (w : World) :
  Calls Tryz.prog 152 #[.int .i64 o] w fun e w' => e = .returned (.int .i64 (recv o : Int)) ∧ w' = w := by
 by_cases h1 : o = 20
 ·subst h1
  go_enter Tryz.func152, Tryz.ntmps152
  go_wp2
  go_ret
  exact ⟨rfl, rfl⟩
 ·have e1 : (o == 20) = false := by simpa using h1
  by_cases h2 : o = 21
  ·subst h2
   go_enter Tryz.func152, Tryz.ntmps152
   go_wp2
   go_ret
   exact ⟨rfl, rfl⟩
  ·have e2 : (o == 21) = false := by simpa using h2
   rw [show recv o = 0 by unfold recv; rw [if_neg (by omega)]]
   clear h1 h2
   go_enter Tryz.func152, Tryz.ntmps152
   go_wp2
   go_ret
   exact ⟨rfl, rfl⟩
def descE (i : In) : Int :=
 if (splitT i.ds).2.2 ≠ 0 then 1 else if i.ar.length ≠ (splitT i.ds).1.length + recv i.o then 9 else if (splitT i.ds).2.1.1 = 1 ∧ i.a ≠ 0 then 12 else 0
theorem split_err (d : Tx) : (splitT d).2.2 ≤ 3 ∧ (splitT d).1.length ≤ 8 := by
 unfold splitT
 split
 ·exact ⟨Nat.le_refl _, Nat.zero_le _⟩
 ·cases sigD d with
  | none => exact ⟨by show 1 ≤ 3; omega, Nat.zero_le _⟩
  | some q =>
   dsimp only
   split
   ·exact ⟨Nat.le_refl _, Nat.zero_le _⟩
   ·exact ⟨Nat.zero_le _, by dsimp only; omega⟩
theorem fitsDesc_w (i : In) (A : Option Addr) (c : Nat) (w : World) (hz : i.ar.length ≤ 281474976710656) (hd : i.ds.length ≤ 65536) (hm : Mx w) (hv : Vd w) :
  Calls Tryz.prog 143 #[.agg (InV i A c)] w fun e w' => e = .returned (.int .i64 (descE i)) ∧ Below w.heap.size w w' := by
 obtain ⟨W, hW⟩ : ∃ W, W = w.alloc (.cells (InV i A c) 42) := ⟨_, rfl⟩
 have hal : Below w.heap.size w W := by rw [hW]; exact (Below.refl _ w).alloc (Nat.le_refl _) _
 have HAL := hh hal
 have hblk : W.heap[w.heap.size]? = some (.cells (InV i A c) 42 (0, 0)) := by rw [hW]; exact heap_alloc_new w _
 have HBK := hh hblk; have HLT := hh (blk_lt hblk)
 obtain ⟨g0, g1, g2, g3, g4, g5, g6, g7, g8⟩ := in_cells hblk
 have HS := hh (split_k i.ds W hd (hm.below hal) (hv.below hal))
 unfold SplitW at HS
 have HR := hh (fun w => recv_w i.o w)
 have hse := split_err i.ds
 obtain ⟨E, hE⟩ : ∃ E, E = descE i := ⟨_, rfl⟩
 rw [← hE]
 have HE : Hid (E = if (splitT i.ds).2.2 ≠ 0 then 1 else if i.ar.length ≠ (splitT i.ds).1.length + recv i.o then 9 else if (splitT i.ds).2.1.1 = 1 ∧ i.a ≠ 0 then 12 else 0) := hh hE
 obtain ⟨⟨ps, ⟨rk, rc⟩, er⟩, hsp⟩ : ∃ x, x = splitT i.ds := ⟨_, rfl⟩
 rw [← hsp] at HS HE hse
 dsimp only at HS HE hse
 obtain ⟨np, hnp⟩ : ∃ np, np = ps.length := ⟨_, rfl⟩
 obtain ⟨na, hna⟩ : ∃ na, na = i.ar.length := ⟨_, rfl⟩
 obtain ⟨rv, hrv⟩ : ∃ rv, rv = recv i.o := ⟨_, rfl⟩
 have hrv1 : rv ≤ 1 := by rw [hrv]; unfold recv; split <;> omega
 rw [← hnp] at HS HE hse
 rw [← hna] at HE g8 hz
 rw [← hrv] at HR HE
 unfold InV
 rw [← hna]
 dsimp only [InV] at hW
 rw [← hna] at hW
 have HW := hh hW
 have HNA := hh hna
 have hnI : (na : Int) ≤ 281474976710656 := by omega
 have hpI : (np : Int) ≤ 8 := by omega
 have hrI : (rv : Int) ≤ 1 := by omega
 clear hE hsp hnp hna hrv hal hblk hW hm hv hd
 by_cases he : er = 0
 ·subst he
  have HE1 : Hid (E = if na ≠ np + rv then 9 else if rk = 1 ∧ i.a ≠ 0 then 12 else 0) := hh (by rw [HE.out, if_neg (by simp)])
  clear HE
  by_cases hn : na = np + rv
  ·have hb1 : ((na : Int) != (np : Int) + (rv : Int)) = false := by simp; omega
   have HE2 : Hid (E = if rk = 1 ∧ i.a ≠ 0 then 12 else 0) := hh (by rw [HE1.out, if_neg (by simpa using hn)])
   clear HE1 hn
   by_cases hk : rk = 1
   ·subst hk
    by_cases ha : i.a = 0
    ·have hE0 : E = 0 := by rw [HE2.out, if_neg (fun h => h.2 ha)]
     have hb2 : (i.a != 0) = false := by simpa using ha
     subst hE0
     clear HE2 ha
     go_enter Tryz.func143, Tryz.ntmps143
     go_wp2_with fail
     rw [← HW.out]
     refine HS.out.mono ?_
     rintro e w1 ⟨⟨A1, c1, rfl, ho⟩, hb⟩
     obtain ⟨x0, x1, x2, x3, x4, x5, x6, x7, x8⟩ := in_cells ((hb.block _ HLT.out).trans HBK.out)
     have hb2 := hb.alloc hb.size (.cells #[.int .i64 1, .string ⟨rc.toArray⟩] 56)
     have HY := hh (in_cells ((hb2.block _ HLT.out).trans HBK.out))
     have HZ0 := hh (cell_of_row _ _ 0 _ _ _ (heap_alloc_new w1 (.cells #[.int .i64 1, .string ⟨rc.toArray⟩] 56)))
     have HB := hh (HAL.out.trans ((hb.alloc hb.size (.cells #[.int .i64 1, .string ⟨rc.toArray⟩] 56)).mono HAL.out.size))
     clear ho hb hb2 g0 g1 g2 g3 g4 g5 g6 g7 g8
     go_wp2
     generalize w1.alloc (.cells #[.int .i64 1, .string ⟨rc.toArray⟩] 56) = w2 at *
     obtain ⟨y0, y1, y2, y3, y4, y5, y6, y7, y8⟩ := HY.out
     rw [← HNA.out] at y8
     have z0 := HZ0.out
     clear x0 x1 x2 x3 x4 x5 x6 x7 x8
     have hwr : IntKind.i64.wrap ((np : Int) + (rv : Int)) = (np : Int) + (rv : Int) := IntWalk.i64_in _ (by omega)
     go_quiet ((go_at_call 152; exact Calls.quiet_of_same (HR.out _)))
     go_wp2
     go_ret
     exact ⟨rfl, over HB.out⟩
    ·have hE0 : E = 12 := by rw [HE2.out, if_pos ⟨rfl, ha⟩]
     have hb2 : (i.a != 0) = true := by simpa using ha
     subst hE0
     clear HE2 ha
     go_enter Tryz.func143, Tryz.ntmps143
     go_wp2_with fail
     rw [← HW.out]
     refine HS.out.mono ?_
     rintro e w1 ⟨⟨A1, c1, rfl, ho⟩, hb⟩
     obtain ⟨x0, x1, x2, x3, x4, x5, x6, x7, x8⟩ := in_cells ((hb.block _ HLT.out).trans HBK.out)
     have hb2 := hb.alloc hb.size (.cells #[.int .i64 1, .string ⟨rc.toArray⟩] 56)
     have HY := hh (in_cells ((hb2.block _ HLT.out).trans HBK.out))
     have HZ0 := hh (cell_of_row _ _ 0 _ _ _ (heap_alloc_new w1 (.cells #[.int .i64 1, .string ⟨rc.toArray⟩] 56)))
     have HB := hh (HAL.out.trans ((hb.alloc hb.size (.cells #[.int .i64 1, .string ⟨rc.toArray⟩] 56)).mono HAL.out.size))
     clear ho hb hb2 g0 g1 g2 g3 g4 g5 g6 g7 g8
     go_wp2
     generalize w1.alloc (.cells #[.int .i64 1, .string ⟨rc.toArray⟩] 56) = w2 at *
     obtain ⟨y0, y1, y2, y3, y4, y5, y6, y7, y8⟩ := HY.out
     rw [← HNA.out] at y8
     have z0 := HZ0.out
     clear x0 x1 x2 x3 x4 x5 x6 x7 x8
     have hwr : IntKind.i64.wrap ((np : Int) + (rv : Int)) = (np : Int) + (rv : Int) := IntWalk.i64_in _ (by omega)
     go_quiet ((go_at_call 152; exact Calls.quiet_of_same (HR.out _)))
     go_wp2
     go_ret
     exact ⟨rfl, over HB.out⟩
   ·have hE0 : E = 0 := by rw [HE2.out, if_neg (fun h => hk h.1)]
    have hb2 : (rk == 1) = false := by simpa using hk
    subst hE0
    clear HE2 hk
    go_enter Tryz.func143, Tryz.ntmps143
    go_wp2_with fail
    rw [← HW.out]
    refine HS.out.mono ?_
    rintro e w1 ⟨⟨A1, c1, rfl, ho⟩, hb⟩
    obtain ⟨x0, x1, x2, x3, x4, x5, x6, x7, x8⟩ := in_cells ((hb.block _ HLT.out).trans HBK.out)
    have hb2 := hb.alloc hb.size (.cells #[.int .i64 rk, .string ⟨rc.toArray⟩] 56)
    have HY := hh (in_cells ((hb2.block _ HLT.out).trans HBK.out))
    have HZ0 := hh (cell_of_row _ _ 0 _ _ _ (heap_alloc_new w1 (.cells #[.int .i64 rk, .string ⟨rc.toArray⟩] 56)))
    have HB := hh (HAL.out.trans ((hb.alloc hb.size (.cells #[.int .i64 rk, .string ⟨rc.toArray⟩] 56)).mono HAL.out.size))
    clear ho hb hb2 g0 g1 g2 g3 g4 g5 g6 g7 g8
    go_wp2
    generalize w1.alloc (.cells #[.int .i64 rk, .string ⟨rc.toArray⟩] 56) = w2 at *
    obtain ⟨y0, y1, y2, y3, y4, y5, y6, y7, y8⟩ := HY.out
    rw [← HNA.out] at y8
    have z0 := HZ0.out
    clear x0 x1 x2 x3 x4 x5 x6 x7 x8
    have hwr : IntKind.i64.wrap ((np : Int) + (rv : Int)) = (np : Int) + (rv : Int) := IntWalk.i64_in _ (by omega)
    go_quiet ((go_at_call 152; exact Calls.quiet_of_same (HR.out _)))
    go_wp2
    go_ret
    exact ⟨rfl, over HB.out⟩
  ·have hb1 : ((na : Int) != (np : Int) + (rv : Int)) = true := by simp; omega
   have hE0 : E = 9 := by rw [HE1.out, if_pos (by simpa using hn)]
   subst hE0
   clear HE1 hn
   go_enter Tryz.func143, Tryz.ntmps143
   go_wp2_with fail
   rw [← HW.out]
   refine HS.out.mono ?_
   rintro e w1 ⟨⟨A1, c1, rfl, ho⟩, hb⟩
   obtain ⟨x0, x1, x2, x3, x4, x5, x6, x7, x8⟩ := in_cells ((hb.block _ HLT.out).trans HBK.out)
   have hb2 := hb.alloc hb.size (.cells #[.int .i64 rk, .string ⟨rc.toArray⟩] 56)
   have HY := hh (in_cells ((hb2.block _ HLT.out).trans HBK.out))
   have HZ0 := hh (cell_of_row _ _ 0 _ _ _ (heap_alloc_new w1 (.cells #[.int .i64 rk, .string ⟨rc.toArray⟩] 56)))
   have HB := hh (HAL.out.trans ((hb.alloc hb.size (.cells #[.int .i64 rk, .string ⟨rc.toArray⟩] 56)).mono HAL.out.size))
   clear ho hb hb2 g0 g1 g2 g3 g4 g5 g6 g7 g8
   go_wp2
   generalize w1.alloc (.cells #[.int .i64 rk, .string ⟨rc.toArray⟩] 56) = w2 at *
   obtain ⟨y0, y1, y2, y3, y4, y5, y6, y7, y8⟩ := HY.out
   rw [← HNA.out] at y8
   have z0 := HZ0.out
   clear x0 x1 x2 x3 x4 x5 x6 x7 x8
   have hwr : IntKind.i64.wrap ((np : Int) + (rv : Int)) = (np : Int) + (rv : Int) := IntWalk.i64_in _ (by omega)
   go_quiet ((go_at_call 152; exact Calls.quiet_of_same (HR.out _)))
   go_wp2
   go_ret
   exact ⟨rfl, over HB.out⟩
 ·have hb1 : ((er : Int) != 0) = true := by simp; omega
  have hE0 : E = 1 := by rw [HE.out, if_pos (by simpa using he)]
  subst hE0
  clear HE he
  go_enter Tryz.func143, Tryz.ntmps143
  go_wp2_with fail
  rw [← HW.out]
  refine HS.out.mono ?_
  rintro e w1 ⟨⟨A1, c1, rfl, ho⟩, hb⟩
  obtain ⟨x0, x1, x2, x3, x4, x5, x6, x7, x8⟩ := in_cells ((hb.block _ HLT.out).trans HBK.out)
  have hb2 := hb.alloc hb.size (.cells #[.int .i64 rk, .string ⟨rc.toArray⟩] 56)
  have HY := hh (in_cells ((hb2.block _ HLT.out).trans HBK.out))
  have HZ0 := hh (cell_of_row _ _ 0 _ _ _ (heap_alloc_new w1 (.cells #[.int .i64 rk, .string ⟨rc.toArray⟩] 56)))
  have HB := hh (HAL.out.trans ((hb.alloc hb.size (.cells #[.int .i64 rk, .string ⟨rc.toArray⟩] 56)).mono HAL.out.size))
  clear ho hb hb2 g0 g1 g2 g3 g4 g5 g6 g7 g8
  go_wp2
  go_ret
  exact ⟨rfl, HB.out⟩
end Go.Proofs.YtgociheckcpjkaaGreatDoor.op
namespace Go.Proofs.YtgociheckcpjkaaGreatDoor.op
open Go.RowKit
open words kindp opp kind
set_option maxRecDepth 100000
set_option maxHeartbeats 4000000
def countedB (i : In) (code : Int) : Bool := (!hasL (shapeL i.o) 116 || (decide (0 ≤ i.k) && decide (i.k < code))) && (!hasL (shapeL i.o) 114 || (decide (0 ≤ i.k) && decide (i.k ≤ 9)))
theorem counted_cut {bt br p q r : Bool} {P : Bool → Prop} (h1 : bt = false → br = false → P true) (h2 : bt = false → br = true → p = false → P false) (h3 : bt = false → br = true → p = true → r = false → P false) (h4 : bt = false → br = true → p = true → r = true → P true)
  (h5 : bt = true → p = false → P false) (h6 : bt = true → p = true → q = false → P false) (h7 : bt = true → p = true → q = true → br = false → P true) (h8 : bt = true → p = true → q = true → br = true → r = false → P false) (h9 : bt = true → p = true → q = true → br = true → r = true → P true) :
  P ((!bt || (p && q)) && (!br || (p && r))) := by
 cases bt
 ·cases br
  ·exact h1 rfl rfl
  cases p
  ·exact h2 rfl rfl rfl
  cases r
  ·exact h3 rfl rfl rfl rfl
  ·exact h4 rfl rfl rfl rfl
 cases p
 ·exact h5 rfl rfl
 cases q
 ·exact h6 rfl rfl rfl
 cases br
 ·exact h7 rfl rfl rfl rfl
 cases r
 ·exact h8 rfl rfl rfl rfl rfl
 ·exact h9 rfl rfl rfl rfl rfl
theorem counted_w (i : In) (A : Option Addr) (c : Nat) (code : Int) (w : World) (hs : Sh w) :
  Calls Tryz.prog 145 #[.agg (InV i A c), .int .i64 code] w fun e w' => e = .returned (.bool (countedB i code)) ∧ Below w.heap.size w w' := by
 obtain ⟨W, hW⟩ : ∃ W, W = w.alloc (.cells (InV i A c) 42) := ⟨_, rfl⟩
 have hal : Below w.heap.size w W := by rw [hW]; exact (Below.refl _ w).alloc (Nat.le_refl _) _
 have HAL := hh hal
 have hblk : W.heap[w.heap.size]? = some (.cells (InV i A c) 42 (0, 0)) := by rw [hW]; exact heap_alloc_new w _
 have HBK := hh hblk; have HLT := hh (blk_lt hblk)
 obtain ⟨g0, g1, g2, g3, g4, g5, g6, g7, g8⟩ := in_cells hblk
 have HSH := hh (hs.below hal)
 have HHT := hh (fun w hs => has_w i.o [116] w hs (by decide) (by decide))
 have HHR := hh (fun w hs => has_w i.o [114] w hs (by decide) (by decide))
 rw [any_one] at HHT HHR
 have hCB : countedB i code = ((!hasL (shapeL i.o) 116 || (decide (0 ≤ i.k) && decide (i.k < code))) && (!hasL (shapeL i.o) 114 || (decide (0 ≤ i.k) && decide (i.k ≤ 9)))) := rfl
 rw [hCB]
 generalize hasL (shapeL i.o) 116 = bt at *
 generalize hasL (shapeL i.o) 114 = br at *
 dsimp only [InV] at hW ⊢
 have HW := hh hW
 clear hCB hs hal hblk hW
 refine counted_cut (P := fun r => Calls Tryz.prog 145 _ w fun e w' => e = .returned (.bool r) ∧ Below w.heap.size w w') ?_ ?_ ?_ ?_ ?_ ?_ ?_ ?_ ?_
 ·rintro rfl rfl
  go_enter Tryz.func145, Tryz.ntmps145
  go_wp2_with fail
  rw [← HW.out]
  refine (HHT.out _ HSH.out).mono ?_
  rintro e v1 ⟨rfl, k1⟩
  obtain ⟨a0x1, a1x1, a2x1, a3x1, a4x1, a5x1, a6x1, a7x1, a8x1⟩ := in_cells ((k1.block _ HLT.out).trans HBK.out)
  have K1 := hh k1
  clear k1 g0 g1 g2 g3 g4 g5 g6 g7 g8
  go_wp2_with fail
  refine (HHR.out _ (HSH.out.below K1.out)).mono ?_
  rintro e v2 ⟨rfl, hb2⟩
  have k2 : Below W.heap.size W v2 := then' K1.out hb2
  obtain ⟨a0x2, a1x2, a2x2, a3x2, a4x2, a5x2, a6x2, a7x2, a8x2⟩ := in_cells ((k2.block _ HLT.out).trans HBK.out)
  have K2 := hh k2
  clear k2 hb2 a0x1 a1x1 a2x1 a3x1 a4x1 a5x1 a6x1 a7x1 a8x1
  go_wp2
  go_ret
  exact ⟨rfl, HAL.out.trans (K2.out.mono HAL.out.size)⟩
 ·rintro rfl rfl hp
  have p2 : ¬ (0 ≤ i.k) := of_decide_eq_false hp
  clear hp
  go_enter Tryz.func145, Tryz.ntmps145
  go_wp2_with fail
  rw [← HW.out]
  refine (HHT.out _ HSH.out).mono ?_
  rintro e v1 ⟨rfl, k1⟩
  obtain ⟨a0x1, a1x1, a2x1, a3x1, a4x1, a5x1, a6x1, a7x1, a8x1⟩ := in_cells ((k1.block _ HLT.out).trans HBK.out)
  have K1 := hh k1
  clear k1 g0 g1 g2 g3 g4 g5 g6 g7 g8
  go_wp2_with fail
  refine (HHR.out _ (HSH.out.below K1.out)).mono ?_
  rintro e v2 ⟨rfl, hb2⟩
  have k2 : Below W.heap.size W v2 := then' K1.out hb2
  obtain ⟨a0x2, a1x2, a2x2, a3x2, a4x2, a5x2, a6x2, a7x2, a8x2⟩ := in_cells ((k2.block _ HLT.out).trans HBK.out)
  have K2 := hh k2
  clear k2 hb2 a0x1 a1x1 a2x1 a3x1 a4x1 a5x1 a6x1 a7x1 a8x1
  go_wp2
  go_ret
  exact ⟨rfl, HAL.out.trans (K2.out.mono HAL.out.size)⟩
 ·rintro rfl rfl hp hr
  have p2 : 0 ≤ i.k := of_decide_eq_true hp
  have r2 : ¬ (i.k ≤ 9) := of_decide_eq_false hr
  clear hp
  go_enter Tryz.func145, Tryz.ntmps145
  go_wp2_with fail
  rw [← HW.out]
  refine (HHT.out _ HSH.out).mono ?_
  rintro e v1 ⟨rfl, k1⟩
  obtain ⟨a0x1, a1x1, a2x1, a3x1, a4x1, a5x1, a6x1, a7x1, a8x1⟩ := in_cells ((k1.block _ HLT.out).trans HBK.out)
  have K1 := hh k1
  clear k1 g0 g1 g2 g3 g4 g5 g6 g7 g8
  go_wp2_with fail
  refine (HHR.out _ (HSH.out.below K1.out)).mono ?_
  rintro e v2 ⟨rfl, hb2⟩
  have k2 : Below W.heap.size W v2 := then' K1.out hb2
  obtain ⟨a0x2, a1x2, a2x2, a3x2, a4x2, a5x2, a6x2, a7x2, a8x2⟩ := in_cells ((k2.block _ HLT.out).trans HBK.out)
  have K2 := hh k2
  clear k2 hb2 a0x1 a1x1 a2x1 a3x1 a4x1 a5x1 a6x1 a7x1 a8x1
  go_wp2
  go_ret
  exact ⟨rfl, HAL.out.trans (K2.out.mono HAL.out.size)⟩
 ·rintro rfl rfl hp hr
  have p2 : 0 ≤ i.k := of_decide_eq_true hp
  have r2 : i.k ≤ 9 := of_decide_eq_true hr
  clear hp hr
  go_enter Tryz.func145, Tryz.ntmps145
  go_wp2_with fail
  rw [← HW.out]
  refine (HHT.out _ HSH.out).mono ?_
  rintro e v1 ⟨rfl, k1⟩
  obtain ⟨a0x1, a1x1, a2x1, a3x1, a4x1, a5x1, a6x1, a7x1, a8x1⟩ := in_cells ((k1.block _ HLT.out).trans HBK.out)
  have K1 := hh k1
  clear k1 g0 g1 g2 g3 g4 g5 g6 g7 g8
  go_wp2_with fail
  refine (HHR.out _ (HSH.out.below K1.out)).mono ?_
  rintro e v2 ⟨rfl, hb2⟩
  have k2 : Below W.heap.size W v2 := then' K1.out hb2
  obtain ⟨a0x2, a1x2, a2x2, a3x2, a4x2, a5x2, a6x2, a7x2, a8x2⟩ := in_cells ((k2.block _ HLT.out).trans HBK.out)
  have K2 := hh k2
  clear k2 hb2 a0x1 a1x1 a2x1 a3x1 a4x1 a5x1 a6x1 a7x1 a8x1
  go_wp2
  go_ret
  exact ⟨rfl, HAL.out.trans (K2.out.mono HAL.out.size)⟩
 ·rintro rfl hp
  have p2 : ¬ (0 ≤ i.k) := of_decide_eq_false hp
  clear hp
  go_enter Tryz.func145, Tryz.ntmps145
  go_wp2_with fail
  rw [← HW.out]
  refine (HHT.out _ HSH.out).mono ?_
  rintro e v1 ⟨rfl, k1⟩
  obtain ⟨a0x1, a1x1, a2x1, a3x1, a4x1, a5x1, a6x1, a7x1, a8x1⟩ := in_cells ((k1.block _ HLT.out).trans HBK.out)
  have K1 := hh k1
  clear k1 g0 g1 g2 g3 g4 g5 g6 g7 g8
  go_wp2
  go_ret
  exact ⟨rfl, HAL.out.trans (K1.out.mono HAL.out.size)⟩
 ·rintro rfl hp hq
  have p2 : 0 ≤ i.k := of_decide_eq_true hp
  have q2 : ¬ (i.k < code) := of_decide_eq_false hq
  clear hp hq
  go_enter Tryz.func145, Tryz.ntmps145
  go_wp2_with fail
  rw [← HW.out]
  refine (HHT.out _ HSH.out).mono ?_
  rintro e v1 ⟨rfl, k1⟩
  obtain ⟨a0x1, a1x1, a2x1, a3x1, a4x1, a5x1, a6x1, a7x1, a8x1⟩ := in_cells ((k1.block _ HLT.out).trans HBK.out)
  have K1 := hh k1
  clear k1 g0 g1 g2 g3 g4 g5 g6 g7 g8
  go_wp2
  go_ret
  exact ⟨rfl, HAL.out.trans (K1.out.mono HAL.out.size)⟩
 ·rintro rfl hp hq rfl
  have p2 : 0 ≤ i.k := of_decide_eq_true hp
  have q2 : i.k < code := of_decide_eq_true hq
  clear hp hq
  go_enter Tryz.func145, Tryz.ntmps145
  go_wp2_with fail
  rw [← HW.out]
  refine (HHT.out _ HSH.out).mono ?_
  rintro e v1 ⟨rfl, k1⟩
  obtain ⟨a0x1, a1x1, a2x1, a3x1, a4x1, a5x1, a6x1, a7x1, a8x1⟩ := in_cells ((k1.block _ HLT.out).trans HBK.out)
  have K1 := hh k1
  clear k1 g0 g1 g2 g3 g4 g5 g6 g7 g8
  go_wp2_with fail
  refine (HHR.out _ (HSH.out.below K1.out)).mono ?_
  rintro e v2 ⟨rfl, hb2⟩
  have k2 : Below W.heap.size W v2 := then' K1.out hb2
  obtain ⟨a0x2, a1x2, a2x2, a3x2, a4x2, a5x2, a6x2, a7x2, a8x2⟩ := in_cells ((k2.block _ HLT.out).trans HBK.out)
  have K2 := hh k2
  clear k2 hb2 a0x1 a1x1 a2x1 a3x1 a4x1 a5x1 a6x1 a7x1 a8x1
  go_wp2
  go_ret
  exact ⟨rfl, HAL.out.trans (K2.out.mono HAL.out.size)⟩
 ·rintro rfl hp hq rfl hr
  have p2 : 0 ≤ i.k := of_decide_eq_true hp
  have q2 : i.k < code := of_decide_eq_true hq
  have r2 : ¬ (i.k ≤ 9) := of_decide_eq_false hr
  clear hp hq
  go_enter Tryz.func145, Tryz.ntmps145
  go_wp2_with fail
  rw [← HW.out]
  refine (HHT.out _ HSH.out).mono ?_
  rintro e v1 ⟨rfl, k1⟩
  obtain ⟨a0x1, a1x1, a2x1, a3x1, a4x1, a5x1, a6x1, a7x1, a8x1⟩ := in_cells ((k1.block _ HLT.out).trans HBK.out)
  have K1 := hh k1
  clear k1 g0 g1 g2 g3 g4 g5 g6 g7 g8
  go_wp2_with fail
  refine (HHR.out _ (HSH.out.below K1.out)).mono ?_
  rintro e v2 ⟨rfl, hb2⟩
  have k2 : Below W.heap.size W v2 := then' K1.out hb2
  obtain ⟨a0x2, a1x2, a2x2, a3x2, a4x2, a5x2, a6x2, a7x2, a8x2⟩ := in_cells ((k2.block _ HLT.out).trans HBK.out)
  have K2 := hh k2
  clear k2 hb2 a0x1 a1x1 a2x1 a3x1 a4x1 a5x1 a6x1 a7x1 a8x1
  go_wp2
  go_ret
  exact ⟨rfl, HAL.out.trans (K2.out.mono HAL.out.size)⟩
 ·rintro rfl hp hq rfl hr
  have p2 : 0 ≤ i.k := of_decide_eq_true hp
  have q2 : i.k < code := of_decide_eq_true hq
  have r2 : i.k ≤ 9 := of_decide_eq_true hr
  clear hp hq hr
  go_enter Tryz.func145, Tryz.ntmps145
  go_wp2_with fail
  rw [← HW.out]
  refine (HHT.out _ HSH.out).mono ?_
  rintro e v1 ⟨rfl, k1⟩
  obtain ⟨a0x1, a1x1, a2x1, a3x1, a4x1, a5x1, a6x1, a7x1, a8x1⟩ := in_cells ((k1.block _ HLT.out).trans HBK.out)
  have K1 := hh k1
  clear k1 g0 g1 g2 g3 g4 g5 g6 g7 g8
  go_wp2_with fail
  refine (HHR.out _ (HSH.out.below K1.out)).mono ?_
  rintro e v2 ⟨rfl, hb2⟩
  have k2 : Below W.heap.size W v2 := then' K1.out hb2
  obtain ⟨a0x2, a1x2, a2x2, a3x2, a4x2, a5x2, a6x2, a7x2, a8x2⟩ := in_cells ((k2.block _ HLT.out).trans HBK.out)
  have K2 := hh k2
  clear k2 hb2 a0x1 a1x1 a2x1 a3x1 a4x1 a5x1 a6x1 a7x1 a8x1
  go_wp2
  go_ret
  exact ⟨rfl, HAL.out.trans (K2.out.mono HAL.out.size)⟩
end Go.Proofs.YtgociheckcpjkaaGreatDoor.op
namespace Go.Proofs.YtgociheckcpjkaaGreatDoor.op
open Go.RowKit
open words kindp opp kind
set_option maxRecDepth 100000
set_option maxHeartbeats 4000000
end Go.Proofs.YtgociheckcpjkaaGreatDoor.op

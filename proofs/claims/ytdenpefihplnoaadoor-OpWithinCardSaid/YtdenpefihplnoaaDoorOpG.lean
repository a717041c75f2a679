/-
  Layer 7: whether a call is as its descriptor asks; whether numbers are within: the program's answers.
-/
import Derived.Test.YtdenpefihplnoaaDoorOpS
import Derived.Test.YtdenpefihplnoaaDoorKindV
import Derived.IntWalk
import Derived.IntWalk
import Derived.IntWalk
namespace Go.Proofs.YtdenpefihplnoaaDoor.op
open Go.RowKit
open Go.Proofs.YtdenpefihplnoaaDoor.words Go.Proofs.YtdenpefihplnoaaDoor.kindp Go.Proofs.YtdenpefihplnoaaDoor.opp Go.Proofs.YtdenpefihplnoaaDoor.kind

def recv (o : Int) : Nat := if o = 20 ∨ o = 21 then 1 else 0
set_option maxRecDepth 100000 in
set_option maxHeartbeats 400000 in
theorem recv_w (o : Int) (w : World) :
    Calls Tryd.prog 58 #[.int .i64 o] w fun e w' => e = .returned (.int .i64 (recv o : Int)) ∧ w' = w := by
  by_cases h1 : o = 20
  · subst h1
    go_enter Tryd.func58, Tryd.ntmps58
    go_wp2
    go_ret
    exact ⟨rfl, rfl⟩
  · have e1 : (o == 20) = false := by simpa using h1
    by_cases h2 : o = 21
    · subst h2
      go_enter Tryd.func58, Tryd.ntmps58
      go_wp2
      go_ret
      exact ⟨rfl, rfl⟩
    · have e2 : (o == 21) = false := by simpa using h2
      rw [show recv o = 0 by unfold recv; rw [if_neg (by omega)]]
      clear h1 h2
      go_enter Tryd.func58, Tryd.ntmps58
      go_wp2
      go_ret
      exact ⟨rfl, rfl⟩

/-- what is wrong with a call -/
def descE (i : In) : Int :=
  if (splitT i.ds).2.2 ≠ 0 then 1 else if i.ar.length ≠ (splitT i.ds).1.length + recv i.o then 9 else if (splitT i.ds).2.1.1 = 1 ∧ i.a ≠ 0 then 12 else 0
theorem split_err (d : Tx) : (splitT d).2.2 ≤ 3 ∧ (splitT d).1.length ≤ 8 := by
  unfold splitT
  split
  · exact ⟨Nat.le_refl _, Nat.zero_le _⟩
  · cases sigD d with
    | none => exact ⟨by show 1 ≤ 3; omega, Nat.zero_le _⟩
    | some q =>
      dsimp only
      split
      · exact ⟨Nat.le_refl _, Nat.zero_le _⟩
      · exact ⟨Nat.zero_le _, by dsimp only; omega⟩
set_option maxRecDepth 100000 in
set_option maxHeartbeats 2000000 in
theorem fitsDesc_w (i : In) (A : Option Addr) (c : Nat) (w : World) (hz : i.ar.length ≤ 281474976710656) (hd : i.ds.length ≤ 65536) (hm : Mx w) (hv : Vd w) :
    Calls Tryd.prog 36 #[.agg (InV i A c)] w fun e w' => e = .returned (.int .i64 (descE i)) ∧ Below w.heap.size w w' := by
  obtain ⟨W, hW⟩ : ∃ W, W = w.alloc (.cells (InV i A c) 28) := ⟨_, rfl⟩
  have hal : Below w.heap.size w W := by rw [hW]; exact (Below.refl _ w).alloc (Nat.le_refl _) _
  have HAL := Lib.hid hal
  have hblk : W.heap[w.heap.size]? = some (.cells (InV i A c) 28 (0, 0)) := by rw [hW]; exact heap_alloc_new w _
  have HBK := Lib.hid hblk; have HLT := Lib.hid (blk_lt hblk)
  obtain ⟨g0, g1, g2, g3, g4, g5, g6, g7, g8⟩ := in_cells hblk
  have HS := Lib.hid (split_k i.ds W hd (hm.below hal) (hv.below hal))
  unfold SplitW at HS
  have HR := Lib.hid (fun w => recv_w i.o w)
  have hse := split_err i.ds
  obtain ⟨E, hE⟩ : ∃ E, E = descE i := ⟨_, rfl⟩
  rw [← hE]
  have HE : Hid (E = if (splitT i.ds).2.2 ≠ 0 then 1 else if i.ar.length ≠ (splitT i.ds).1.length + recv i.o then 9 else if (splitT i.ds).2.1.1 = 1 ∧ i.a ≠ 0 then 12 else 0) := Lib.hid hE
  obtain ⟨⟨ps, ⟨rk, rc⟩, er⟩, hsp⟩ : ∃ x, x = splitT i.ds := ⟨_, rfl⟩
  rw [← hsp] at HS HE hse
  dsimp only at HS HE hse
  obtain ⟨np, hnp⟩ : ∃ np, np = ps.length := ⟨_, rfl⟩
  obtain ⟨na, hna⟩ : ∃ na, na = i.ar.length := ⟨_, rfl⟩
  obtain ⟨rv, hrv⟩ : ∃ rv, rv = recv i.o := ⟨_, rfl⟩
  have hrv1 : rv ≤ 1 := by rw [hrv]; unfold recv; split <;> omega
  rw [← hnp] at HS HE hse
  rw [← hna] at HE g8 hz
  rw [← hrv] at HR HE
  unfold InV
  rw [← hna]
  dsimp only [InV] at hW
  rw [← hna] at hW
  have HW := Lib.hid hW
  have HNA := Lib.hid hna
  have hnI : (na : Int) ≤ 281474976710656 := by omega
  have hpI : (np : Int) ≤ 8 := by omega
  have hrI : (rv : Int) ≤ 1 := by omega
  clear hE hsp hnp hna hrv hal hblk hW hm hv hd
  by_cases he : er = 0
  · subst he
    have HE1 : Hid (E = if na ≠ np + rv then 9 else if rk = 1 ∧ i.a ≠ 0 then 12 else 0) := Lib.hid (by rw [HE.out, if_neg (by simp)])
    clear HE
    by_cases hn : na = np + rv
    · have hb1 : ((na : Int) != (np : Int) + (rv : Int)) = false := by simp; omega
      have HE2 : Hid (E = if rk = 1 ∧ i.a ≠ 0 then 12 else 0) := Lib.hid (by rw [HE1.out, if_neg (by simpa using hn)])
      clear HE1 hn
      by_cases hk : rk = 1
      · subst hk
        by_cases ha : i.a = 0
        · have hE0 : E = 0 := by rw [HE2.out, if_neg (fun h => h.2 ha)]
          have hb2 : (i.a != 0) = false := by simpa using ha
          subst hE0
          clear HE2 ha
          go_enter Tryd.func36, Tryd.ntmps36
          go_wp2_with fail
          rw [← HW.out]
          refine HS.out.mono ?_
          rintro e w1 ⟨⟨A1, c1, rfl, ho⟩, hb⟩
          obtain ⟨x0, x1, x2, x3, x4, x5, x6, x7, x8⟩ := in_cells ((hb.block _ HLT.out).trans HBK.out)
          have hb2 := hb.alloc hb.size (.cells #[.int .i64 1, .string ⟨rc.toArray⟩] 69)
          have HY := Lib.hid (in_cells ((hb2.block _ HLT.out).trans HBK.out))
          have HZ0 := Lib.hid (cell_of_row _ _ 0 _ _ _ (heap_alloc_new w1 (.cells #[.int .i64 1, .string ⟨rc.toArray⟩] 69)))
          have HB := Lib.hid (HAL.out.trans ((hb.alloc hb.size (.cells #[.int .i64 1, .string ⟨rc.toArray⟩] 69)).mono HAL.out.size))
          clear ho hb hb2 g0 g1 g2 g3 g4 g5 g6 g7 g8
          go_wp2
          generalize w1.alloc (.cells #[.int .i64 1, .string ⟨rc.toArray⟩] 69) = w2 at *
          obtain ⟨y0, y1, y2, y3, y4, y5, y6, y7, y8⟩ := HY.out
          rw [← HNA.out] at y8
          have z0 := HZ0.out
          clear x0 x1 x2 x3 x4 x5 x6 x7 x8
          have hwr : IntKind.i64.wrap ((np : Int) + (rv : Int)) = (np : Int) + (rv : Int) := IntWalk.i64_in _ (by omega)
          go_quiet ((go_at_call 58; exact Calls.quiet_of_same (HR.out _)))
          go_wp2
          go_ret
          exact ⟨rfl, over HB.out⟩
        · have hE0 : E = 12 := by rw [HE2.out, if_pos ⟨rfl, ha⟩]
          have hb2 : (i.a != 0) = true := by simpa using ha
          subst hE0
          clear HE2 ha
          go_enter Tryd.func36, Tryd.ntmps36
          go_wp2_with fail
          rw [← HW.out]
          refine HS.out.mono ?_
          rintro e w1 ⟨⟨A1, c1, rfl, ho⟩, hb⟩
          obtain ⟨x0, x1, x2, x3, x4, x5, x6, x7, x8⟩ := in_cells ((hb.block _ HLT.out).trans HBK.out)
          have hb2 := hb.alloc hb.size (.cells #[.int .i64 1, .string ⟨rc.toArray⟩] 69)
          have HY := Lib.hid (in_cells ((hb2.block _ HLT.out).trans HBK.out))
          have HZ0 := Lib.hid (cell_of_row _ _ 0 _ _ _ (heap_alloc_new w1 (.cells #[.int .i64 1, .string ⟨rc.toArray⟩] 69)))
          have HB := Lib.hid (HAL.out.trans ((hb.alloc hb.size (.cells #[.int .i64 1, .string ⟨rc.toArray⟩] 69)).mono HAL.out.size))
          clear ho hb hb2 g0 g1 g2 g3 g4 g5 g6 g7 g8
          go_wp2
          generalize w1.alloc (.cells #[.int .i64 1, .string ⟨rc.toArray⟩] 69) = w2 at *
          obtain ⟨y0, y1, y2, y3, y4, y5, y6, y7, y8⟩ := HY.out
          rw [← HNA.out] at y8
          have z0 := HZ0.out
          clear x0 x1 x2 x3 x4 x5 x6 x7 x8
          have hwr : IntKind.i64.wrap ((np : Int) + (rv : Int)) = (np : Int) + (rv : Int) := IntWalk.i64_in _ (by omega)
          go_quiet ((go_at_call 58; exact Calls.quiet_of_same (HR.out _)))
          go_wp2
          go_ret
          exact ⟨rfl, over HB.out⟩
      · have hE0 : E = 0 := by rw [HE2.out, if_neg (fun h => hk h.1)]
        have hb2 : (rk == 1) = false := by simpa using hk
        subst hE0
        clear HE2 hk
        go_enter Tryd.func36, Tryd.ntmps36
        go_wp2_with fail
        rw [← HW.out]
        refine HS.out.mono ?_
        rintro e w1 ⟨⟨A1, c1, rfl, ho⟩, hb⟩
        obtain ⟨x0, x1, x2, x3, x4, x5, x6, x7, x8⟩ := in_cells ((hb.block _ HLT.out).trans HBK.out)
        have hb2 := hb.alloc hb.size (.cells #[.int .i64 rk, .string ⟨rc.toArray⟩] 69)
        have HY := Lib.hid (in_cells ((hb2.block _ HLT.out).trans HBK.out))
        have HZ0 := Lib.hid (cell_of_row _ _ 0 _ _ _ (heap_alloc_new w1 (.cells #[.int .i64 rk, .string ⟨rc.toArray⟩] 69)))
        have HB := Lib.hid (HAL.out.trans ((hb.alloc hb.size (.cells #[.int .i64 rk, .string ⟨rc.toArray⟩] 69)).mono HAL.out.size))
        clear ho hb hb2 g0 g1 g2 g3 g4 g5 g6 g7 g8
        go_wp2
        generalize w1.alloc (.cells #[.int .i64 rk, .string ⟨rc.toArray⟩] 69) = w2 at *
        obtain ⟨y0, y1, y2, y3, y4, y5, y6, y7, y8⟩ := HY.out
        rw [← HNA.out] at y8
        have z0 := HZ0.out
        clear x0 x1 x2 x3 x4 x5 x6 x7 x8
        have hwr : IntKind.i64.wrap ((np : Int) + (rv : Int)) = (np : Int) + (rv : Int) := IntWalk.i64_in _ (by omega)
        go_quiet ((go_at_call 58; exact Calls.quiet_of_same (HR.out _)))
        go_wp2
        go_ret
        exact ⟨rfl, over HB.out⟩
    · have hb1 : ((na : Int) != (np : Int) + (rv : Int)) = true := by simp; omega
      have hE0 : E = 9 := by rw [HE1.out, if_pos (by simpa using hn)]
      subst hE0
      clear HE1 hn
      go_enter Tryd.func36, Tryd.ntmps36
      go_wp2_with fail
      rw [← HW.out]
      refine HS.out.mono ?_
      rintro e w1 ⟨⟨A1, c1, rfl, ho⟩, hb⟩
      obtain ⟨x0, x1, x2, x3, x4, x5, x6, x7, x8⟩ := in_cells ((hb.block _ HLT.out).trans HBK.out)
      have hb2 := hb.alloc hb.size (.cells #[.int .i64 rk, .string ⟨rc.toArray⟩] 69)
      have HY := Lib.hid (in_cells ((hb2.block _ HLT.out).trans HBK.out))
      have HZ0 := Lib.hid (cell_of_row _ _ 0 _ _ _ (heap_alloc_new w1 (.cells #[.int .i64 rk, .string ⟨rc.toArray⟩] 69)))
      have HB := Lib.hid (HAL.out.trans ((hb.alloc hb.size (.cells #[.int .i64 rk, .string ⟨rc.toArray⟩] 69)).mono HAL.out.size))
      clear ho hb hb2 g0 g1 g2 g3 g4 g5 g6 g7 g8
      go_wp2
      generalize w1.alloc (.cells #[.int .i64 rk, .string ⟨rc.toArray⟩] 69) = w2 at *
      obtain ⟨y0, y1, y2, y3, y4, y5, y6, y7, y8⟩ := HY.out
      rw [← HNA.out] at y8
      have z0 := HZ0.out
      clear x0 x1 x2 x3 x4 x5 x6 x7 x8
      have hwr : IntKind.i64.wrap ((np : Int) + (rv : Int)) = (np : Int) + (rv : Int) := IntWalk.i64_in _ (by omega)
      go_quiet ((go_at_call 58; exact Calls.quiet_of_same (HR.out _)))
      go_wp2
      go_ret
      exact ⟨rfl, over HB.out⟩
  · have hb1 : ((er : Int) != 0) = true := by simp; omega
    have hE0 : E = 1 := by rw [HE.out, if_pos (by simpa using he)]
    subst hE0
    clear HE he
    go_enter Tryd.func36, Tryd.ntmps36
    go_wp2_with fail
    rw [← HW.out]
    refine HS.out.mono ?_
    rintro e w1 ⟨⟨A1, c1, rfl, ho⟩, hb⟩
    obtain ⟨x0, x1, x2, x3, x4, x5, x6, x7, x8⟩ := in_cells ((hb.block _ HLT.out).trans HBK.out)
    have hb2 := hb.alloc hb.size (.cells #[.int .i64 rk, .string ⟨rc.toArray⟩] 69)
    have HY := Lib.hid (in_cells ((hb2.block _ HLT.out).trans HBK.out))
    have HZ0 := Lib.hid (cell_of_row _ _ 0 _ _ _ (heap_alloc_new w1 (.cells #[.int .i64 rk, .string ⟨rc.toArray⟩] 69)))
    have HB := Lib.hid (HAL.out.trans ((hb.alloc hb.size (.cells #[.int .i64 rk, .string ⟨rc.toArray⟩] 69)).mono HAL.out.size))
    clear ho hb hb2 g0 g1 g2 g3 g4 g5 g6 g7 g8
    go_wp2
    go_ret
    exact ⟨rfl, HB.out⟩
end Go.Proofs.YtdenpefihplnoaaDoor.op

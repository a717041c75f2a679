/-
  The walk of TopCodes: in a program that can be each instruction reads and sets registers of its method alone, and all strings that it names are among the program's.
-/
import Derived.Test.YtodnfahffkggiaaDoorNormN
import Derived.BigQuiet
namespace Go.Proofs.YtodnfahffkggiaaDoor.prg
open Go.RowKit
open Go.Proofs.YtodnfahffkggiaaDoor.words Go.Proofs.YtodnfahffkggiaaDoor.kindp Go.Proofs.YtodnfahffkggiaaDoor.opp Go.Proofs.YtodnfahffkggiaaDoor.op Go.Proofs.YtodnfahffkggiaaDoor.kind Go.Proofs.YtodnfahffkggiaaDoor.word

set_option maxRecDepth 100000 in
set_option maxHeartbeats 16000000 in
set_option linter.all false in
theorem in_w (A : Option Addr) (c : Nat) (l : List Tx) (s : Tx) (w : World) (hr : Rd w A (SX l)) (hl : l.length ≤ 281474976710656) (hs : s = [] ∨ s ∈ l) : Calls Tryd.prog 15 #[.slice A l.length c, .string ⟨s.toArray⟩] w fun e w' => e = .returned (.bool true) ∧ Below w.heap.size w w' := by
  obtain ⟨n, hn⟩ : ∃ n, n = l.length := ⟨_, rfl⟩
  rw [← hn] at hl ⊢
  have hnI : (n : Int) ≤ 281474976710656 := by omega
  have HN := Lib.hid hn; have HRD := Lib.hid hr
  clear hr hn hl
  cases h0 : (s == []) with
  | true =>
    have g0 := e_empty h0
    clear hs
    go_enter Tryd.func15, Tryd.ntmps15
    go_wp2
    go_ret
    exact ⟨rfl, Below.refl _ _⟩
  | false =>
    have g0 := e_empty h0
    have HM := Lib.hid (show s ∈ l from by
      rcases hs with h | h
      · rw [h] at h0; cases h0
      · exact h)
    clear hs
    go_enter Tryd.func15, Tryd.ntmps15
    go_wp2
    go_loopw [5] (fun i wr => ∃ k : Nat, i = .int .i64 (k : Int) ∧ k ≤ n ∧ (∀ t ∈ l.take k, (t == s) = false) ∧ Below w.heap.size w wr) (fun i _ => n - (intOf i).toNat)
    case atStart => exact ⟨0, rfl, Nat.zero_le _, by simp, Below.refl _ _⟩
    case round =>
      obtain ⟨k, rfl, hk, hall, hbw⟩ := hrel
      have HA := Lib.hid hall; have HB := Lib.hid hbw
      clear hall
      by_cases hlt : k < n
      · have hltI : (k : Int) < (n : Int) := by omega
        obtain ⟨x, hx⟩ : ∃ x, l[k]? = some x := ⟨l[k]'(by rw [← HN.out]; exact hlt), List.getElem?_eq_getElem _⟩
        obtain ⟨a, rfl, ha, c0⟩ := (HRD.out.below hbw).at_ (sx_get hx)
        have hmt := take_more (P := fun t => t == s) HA.out hx
        cases hp : (x == s) with
        | true =>
          clear hx hmt hbw ha
          go_wp2
          go_ret
          exact ⟨rfl, HB.out⟩
        | false =>
          have HT := Lib.hid (hmt hp)
          clear hx hmt hbw ha
          go_wp2
          go_roundw
          case rel => exact ⟨k + 1, by go_num, by omega, HT.out, HB.out⟩
          case measure => simp [intOf]; omega
      · exfalso
        have hall := HA.out
        rw [List.take_of_length_le (by rw [← HN.out]; omega)] at hall
        have := hall s HM.out
        simp at this
/-- no program at all -/
def noP : PrM := ⟨[], none, 0, [], none, 0, [], [], []⟩
theorem no_right : rightE noP = 0 := by decide +kernel
end Go.Proofs.YtodnfahffkggiaaDoor.prg

namespace Go.Proofs.YtodnfahffkggiaaDoor.topCodes
open Go.RowKit
open Go.Proofs.YtodnfahffkggiaaDoor.words Go.Proofs.YtodnfahffkggiaaDoor.kindp Go.Proofs.YtodnfahffkggiaaDoor.opp Go.Proofs.YtodnfahffkggiaaDoor.op Go.Proofs.YtodnfahffkggiaaDoor.kind Go.Proofs.YtodnfahffkggiaaDoor.word Go.Proofs.YtodnfahffkggiaaDoor.prg

set_option maxRecDepth 100000 in
set_option maxHeartbeats 16000000 in
set_option linter.all false in
theorem walk (x : PrM) (w : World) (hk : PrOk w x) (hb : PrBd x) (hs : Sh w) (hv : Vd w) (hm : Mx w) : Calls Tryd.prog 4 #[.agg (prC x).toArray] w fun e w' => e = .returned (.bool true) ∧ Below w.heap.size w w' := by
  have htw : Wd w := ⟨hs, hm, hv⟩
  obtain ⟨W, hW⟩ : ∃ W, W = w.alloc (.cells (prC x).toArray 36) := ⟨_, rfl⟩
  have hal : Below w.heap.size w W := by rw [hW]; exact (Below.refl _ w).alloc (Nat.le_refl _) _
  have HAL := Lib.hid hal
  have hblk : W.heap[w.heap.size]? = some (.cells (prC x).toArray 36 (0, 0)) := by rw [hW]; exact heap_alloc_new w _
  have HBK := Lib.hid hblk; have HLT := Lib.hid (blk_lt hblk)
  obtain ⟨x0_0, x0_1, x0_2, x0_3, x0_4⟩ := pr_cells hblk
  have K0 := Lib.hid (Below.refl W.heap.size W)
  have HTW := Lib.hid (htw.below hal)
  have HKW := Lib.hid (hk.below hal)
  have HBD := Lib.hid hb
  have HNO := Lib.hid (fun w ht => right_w noP w ht ⟨⟨by simp [noP], .inl rfl⟩, ⟨by simp [noP], .inl rfl⟩, by simp [noP]⟩ (by simp [PrBd, noP]) (by intro c hc; cases hc))
  rw [no_right] at HNO
  have HSH := Lib.hid (fun w hs => shape_w 15 w hs)
  rw [show shapeL 15 = [97, 98, 70] by decide +kernel] at HSH
  have HGR := Lib.hid (fun w hk => great_w x w hk hb)
  have HRT := Lib.hid (fun w ht hk hf => right_w x w ht hk hb hf)
  have HST := Lib.hid (fun w hk hz => strings_w x w hk hb hz)
  have HRA := Lib.hid (fun h => right_all (p := x) h)
  have hl1 : x.cs.length ≤ 281474976710656 := by have := hb.1.1; omega
  have hl1I : (x.cs.length : Int) ≤ 281474976710656 := by omega
  obtain ⟨A1, hA1⟩ : ∃ A, A = x.A1 := ⟨_, rfl⟩
  unfold prC at hW HGR HRT HST ⊢
  try dsimp only at hW HGR HRT HST ⊢
  have hcb := HKW.out.1.2
  rw [← hA1] at x0_0 hW HGR HRT HST hcb ⊢
  have HRC := Lib.hid hcb
  have HW := Lib.hid hW
  have HA1 := Lib.hid hA1
  unfold noP prC at HNO
  dsimp only at HNO
  clear hal hblk hW hk hb hs hv hm htw hl1 hcb hA1
  go_enter Tryd.func4, Tryd.ntmps4
  go_wp2_with fail
  rw [← HW.out]
  (try go_wp2_with fail)
  refine (HNO.out _ HTW.out).mono ?_
  rintro e v1 ⟨rfl, hb1⟩
  have K1 := Lib.hid hb1
  clear hb1 x0_0 x0_1 x0_2 x0_3 x0_4
  go_wp2_with fail
  refine (HSH.out _ (HTW.out.below K1.out).1).mono ?_
  rintro e v2 ⟨rfl, hb2⟩
  have K2 := Lib.hid (show Below W.heap.size W v2 from by rw [hb2]; exact K1.out)
  obtain ⟨x1_0, x1_1, x1_2, x1_3, x1_4⟩ := pr_cells ((K2.out.block _ HLT.out).trans HBK.out)
  rw [← HA1.out] at x1_0
  clear hb2
  go_wp2_with fail
  refine (HGR.out _ (HKW.out.below K2.out)).mono ?_
  rintro e v3 ⟨g, rfl, hg, hb3⟩
  have K3 := Lib.hid (then' K2.out hb3)
  have HG := Lib.hid hg
  clear hb3 hg x1_0 x1_1 x1_2 x1_3 x1_4
  cases g with
  | true =>
    go_wp2
    go_ret
    exact ⟨rfl, HAL.out.trans (K3.out.mono HAL.out.size)⟩
  | false =>
    obtain ⟨x1_0, x1_1, x1_2, x1_3, x1_4⟩ := pr_cells ((K3.out.block _ HLT.out).trans HBK.out)
    rw [← HA1.out] at x1_0
    go_wp2_with fail
    refine (HRT.out _ (HTW.out.below K3.out) (HKW.out.below K3.out) (HG.out (by trivial)).fit).mono ?_
    rintro e v4 ⟨rfl, hb4⟩
    have K4 := Lib.hid (then' K3.out hb4)
    clear hb4 x1_0 x1_1 x1_2 x1_3 x1_4
    by_cases hz : rightE x = 0
    · obtain ⟨hsz, hfit⟩ := HRA.out hz
      have gz : (rightE x != 0) = false := by rw [hz]; rfl
      have HFT := Lib.hid hfit
      have HGP := Lib.hid (HG.out (by trivial))
      obtain ⟨x1_0, x1_1, x1_2, x1_3, x1_4⟩ := pr_cells ((K4.out.block _ HLT.out).trans HBK.out)
      rw [← HA1.out] at x1_0
      generalize rightE x = rr at *
      have HSX := Lib.hid (HST.out v4 (HKW.out.below K4.out) hsz)
      have HIN := Lib.hid (fun (c : ClM) (m : MeM) (t : InM) (s : Tx) (h1 : c ∈ x.cs) (h2 : m ∈ c.ms) (h3 : t ∈ m.co) h4 => in_strings (p := x) (s := s) h1 h2 h3 h4)
      generalize stringsL x = S at *
      have hszI : (S.length : Int) ≤ 4194304 := by omega
      have hS : S.length ≤ 281474976710656 := by omega
      clear hz hfit hsz
      go_wp2_with fail
      refine HSX.out.mono ?_
      rintro e v5 ⟨⟨Al, cl, rfl, hrl⟩, hb5⟩
      have K5 := Lib.hid (then' K4.out hb5)
      have HRL := Lib.hid hrl
      have HK5 := Lib.hid (HKW.out.below K5.out)
      have HT5 := Lib.hid (HTW.out.below K5.out)
      have HB5 := Lib.hid ((K5.out.block _ HLT.out).trans HBK.out)
      clear hb5 hrl gz x1_0 x1_1 x1_2 x1_3 x1_4
      go_wp2
      go_loopw [5] (fun i wr => ∃ k : Nat, i = .int .i64 (k : Int) ∧ k ≤ x.cs.length ∧ Below v5.heap.size v5 wr) (fun i _ => x.cs.length - (intOf i).toNat)
      case atStart => exact ⟨0, rfl, Nat.zero_le _, Below.refl _ _⟩
      case round =>
        obtain ⟨k, rfl, hk, hbw⟩ := hrel
        obtain ⟨wa, hwa⟩ : ∃ v, v = wr := ⟨_, rfl⟩
        subst hwa
        have HB := Lib.hid hbw
        obtain ⟨p0, p1, p2, p3, p4⟩ := pr_cells ((hbw.block _ (blk_lt HB5.out)).trans HB5.out)
        rw [← HA1.out] at p0
        by_cases hlt : k < x.cs.length
        · have hltI : (k : Int) < (x.cs.length : Int) := by omega
          obtain ⟨y, hy⟩ : ∃ y, x.cs[k]? = some y := ⟨x.cs[k]'hlt, List.getElem?_eq_getElem _⟩
          have HYM := Lib.hid (List.mem_of_getElem? hy)
          have HOK := Lib.hid (HK5.out.2.2 y HYM.out)
          have HBY := Lib.hid (HBD.out.1.2 y HYM.out)
          have HRC5 := Lib.hid (show Rd v5 A1 (x.cs.flatMap clC) from by have := HK5.out.1.2; rw [← HA1.out] at this; exact this)
          obtain ⟨a, rfl, ha, c0, c1, c2, c3, c4, c5, c6⟩ := cl_at (HRC5.out.below hbw) hy
          have hl3 : y.ms.length ≤ 281474976710656 := by have := HBY.out.2.2.2.2.1; omega
          have hl3I : (y.ms.length : Int) ≤ 281474976710656 := by omega
          obtain ⟨B3, hB3⟩ : ∃ A, A = y.A3 := ⟨_, rfl⟩
          have hr3 := HOK.out.2.2.1.2
          rw [← hB3] at hr3
          have HR3 := Lib.hid hr3; have HB3 := Lib.hid hB3
          have HY := Lib.hid hy
          clear hy hbw ha hr3 hB3 p1 p2 p3 p4 c0 c1 c2 c3 c4 c5
          go_wp2
          clear c6 p0
          go_loopw [6] (fun i wr => ∃ k2 : Nat, i = .int .i64 (k2 : Int) ∧ k2 ≤ y.ms.length ∧ Below v5.heap.size v5 wr) (fun i _ => y.ms.length - (intOf i).toNat)
          case atStart => exact ⟨0, rfl, Nat.zero_le _, HB.out⟩
          case round =>
            obtain ⟨k2, rfl, hk2, hbw⟩ := hrel
            obtain ⟨wb, hwb⟩ : ∃ v, v = wr := ⟨_, rfl⟩
            subst hwb
            have HB2 := Lib.hid hbw
            obtain ⟨p0, p1, p2, p3, p4⟩ := pr_cells ((hbw.block _ (blk_lt HB5.out)).trans HB5.out)
            rw [← HA1.out] at p0
            obtain ⟨a', e', -, c0, c1, c2, c3, c4, c5, c6⟩ := cl_at (HRC5.out.below hbw) HY.out
            cases e'
            rw [← HB3.out] at c6
            clear p1 p2 p3 p4 c0 c1 c2 c3 c4 c5
            by_cases hlt2 : k2 < y.ms.length
            · have hltI2 : (k2 : Int) < (y.ms.length : Int) := by omega
              obtain ⟨z, hz⟩ : ∃ z, y.ms[k2]? = some z := ⟨y.ms[k2]'hlt2, List.getElem?_eq_getElem _⟩
              have HZM := Lib.hid (List.mem_of_getElem? hz)
              have HOZ := Lib.hid (HOK.out.2.2.2 z HZM.out)
              have HBZ := Lib.hid (HBY.out.2.2.2.2.2 z HZM.out)
              have HFZ := Lib.hid (HFT.out y HYM.out z HZM.out)
              have HGZ := Lib.hid (((HGP.out.2 y HYM.out).2 z HZM.out).2)
              have HIZ := Lib.hid (fun t s h h4 => HIN.out y z t s HYM.out HZM.out h h4)
              obtain ⟨b, rfl, hbl, d0, d1, d2, d3, d4, d5⟩ := me_at (HR3.out.below hbw) hz
              obtain ⟨Bz, hBz⟩ : ∃ A, A = z.A := ⟨_, rfl⟩
              have hrz := HOZ.out.2.1
              rw [← hBz] at d5 hrz
              have HRZ := Lib.hid hrz
              have hlz : z.co.length ≤ 281474976710656 := by have := HBZ.out.2.2.1; omega
              have hlzI : (z.co.length : Int) ≤ 281474976710656 := by omega
              have HMB := Lib.hid (heap_alloc_new wb (.cells #[.string ⟨z.nm.toArray⟩, .string ⟨z.ds.toArray⟩, .bool z.st, .bool z.ab, .int .i64 z.rg, .slice Bz z.co.length z.c] 47))
              have HB6 := Lib.hid (hbw.alloc hbw.size (.cells #[.string ⟨z.nm.toArray⟩, .string ⟨z.ds.toArray⟩, .bool z.st, .bool z.ab, .int .i64 z.rg, .slice Bz z.co.length z.c] 47))
              clear hz hbw hbl hBz hrz
              go_wp2
              clear p0 c6 d0 d1 d2 d3 d4 d5
              go_loopw [8] (fun i wr => ∃ k3 : Nat, i = .int .i64 (k3 : Int) ∧ k3 ≤ z.co.length ∧ Below v5.heap.size v5 wr ∧ wr.heap[wb.heap.size]? = some (.cells #[.string ⟨z.nm.toArray⟩, .string ⟨z.ds.toArray⟩, .bool z.st, .bool z.ab, .int .i64 z.rg, .slice Bz z.co.length z.c] 47 (0, 0))) (fun i _ => z.co.length - (intOf i).toNat)
              case atStart => exact ⟨0, rfl, Nat.zero_le _, HB6.out, HMB.out⟩
              case round =>
                obtain ⟨k3, rfl, hk3, hbw, hmb⟩ := hrel
                obtain ⟨wt, hwt⟩ : ∃ v, v = wr := ⟨_, rfl⟩
                subst hwt
                have HB7 := Lib.hid hbw
                by_cases hlt3 : k3 < z.co.length
                · have hltI3 : (k3 : Int) < (z.co.length : Int) := by omega
                  obtain ⟨t, ht⟩ : ∃ t, z.co[k3]? = some t := ⟨z.co[k3]'hlt3, List.getElem?_eq_getElem _⟩
                  have HTM := Lib.hid (List.mem_of_getElem? ht)
                  have hfz := HFZ.out t HTM.out
                  have hgz := HGZ.out t HTM.out
                  have hot := HOZ.out.2.2 t HTM.out
                  obtain ⟨bt, rfl, hbl, i00, i01, i02, i03, i04, i05, i06, i07, i08⟩ := in_at (HRZ.out.below hbw) ht
                  have HT := Lib.hid ht
                  have m04 : wt.cell? ⟨wb.heap.size, 4, none⟩ = some (.int .i64 z.rg) := cell_of_row _ _ 4 _ _ _ hmb
                  have m05 : wt.cell? ⟨wb.heap.size, 5, none⟩ = some (.slice (some bt) z.co.length z.c) := cell_of_row _ _ 5 _ _ _ hmb
                  have HMW := Lib.hid hmb
                  have HUS := Lib.hid (fun v (hv : Below v5.heap.size v5 v) => uses_w t.i t.A t.c v (HT5.out.below hv).1 (hot.2.below hv) hot.1 (by have := hgz.1; omega))
                  have HSE := Lib.hid (fun v (hv : Below v5.heap.size v5 v) => sets_w t.i t.A t.c v (HT5.out.below hv).1 (by have := hgz.2.2.2; omega) (HT5.out.below hv).2.1 (HT5.out.below hv).2.2)
                  dsimp only [InV] at HUS HSE
                  have hul : (usesL t.i).length ≤ 8000 := by have := hgz.1; exact (show (usesL t.i).length ≤ 8000 by have h1 := useF_len t.i (regsL t.i); have h2 := regs_len t.i; have h3 : usesL t.i = useF t.i (regsL t.i) := rfl; rw [h3]; omega)
                  have HUW := Lib.hid (fun z0 hz0 => uses_within hfz (z := z0) hz0)
                  have HSW := Lib.hid (fun h => sets_within hfz h)
                  have HI := Lib.hid (fun s h => HIZ.out t s HTM.out h)
                  clear ht hfz hgz hot hbw hmb hbl
                  go_wp2_with fail
                  refine (HUS.out _ HB7.out).mono ?_
                  rintro e w5 ⟨⟨A5, c5, rfl, hr5⟩, hb5⟩
                  have HB8 := Lib.hid (then' HB7.out hb5)
                  have HMX := Lib.hid ((hb5.block _ (blk_lt HMW.out)).trans HMW.out)
                  have HR5 := Lib.hid hr5
                  generalize usesL t.i = U at *
                  have hulI : (U.length : Int) ≤ 8000 := by omega
                  clear hb5 hr5 m04 m05 i00 i01 i02 i03 i04 i05 i06 i07 i08
                  go_wp2
                  go_loopw [10] (fun i wr => ∃ k4 : Nat, i = .int .i64 (k4 : Int) ∧ k4 ≤ U.length ∧ Below w5.heap.size w5 wr) (fun i _ => U.length - (intOf i).toNat)
                  case atStart => exact ⟨0, rfl, Nat.zero_le _, Below.refl _ _⟩
                  case round =>
                    obtain ⟨k4, rfl, hk4, hbw⟩ := hrel
                    obtain ⟨wu, hwu⟩ : ∃ v, v = wr := ⟨_, rfl⟩
                    subst hwu
                    have HB9 := Lib.hid hbw
                    have HMY := Lib.hid ((hbw.block _ (blk_lt HMX.out)).trans HMX.out)
                    have m14 : wu.cell? ⟨wb.heap.size, 4, none⟩ = some (.int .i64 z.rg) := cell_of_row _ _ 4 _ _ _ HMY.out
                    have m15 : wu.cell? ⟨wb.heap.size, 5, none⟩ = some (.slice (some bt) z.co.length z.c) := cell_of_row _ _ 5 _ _ _ HMY.out
                    by_cases hlt4 : k4 < U.length
                    · have hltI4 : (k4 : Int) < (U.length : Int) := by omega
                      have hk40 : (0 : Int) ≤ (k4 : Int) := by omega
                      obtain ⟨u, hu⟩ : ∃ u, U[k4]? = some u := ⟨U[k4]'hlt4, List.getElem?_eq_getElem _⟩
                      obtain ⟨a5, rfl, ha5, u0⟩ := (HR5.out.below hbw).at_ (IL_at hu)
                      obtain ⟨q1, q2⟩ := HUW.out u (List.mem_of_getElem? hu)
                      have r1 : decide (u < (0 : Int)) = false := decide_eq_false (by omega)
                      have r2 : decide (z.rg ≤ u) = false := decide_eq_false (by omega)
                      have r3 : ¬ u < 0 := by omega
                      have r4 : ¬ z.rg ≤ u := by omega
                      clear hu hbw ha5 q1 q2
                      go_wp2
                      go_quiet (fail)
                      go_wp2
                      go_roundw
                      case rel => exact ⟨k4 + 1, by go_num, by omega, by first | exact HB9.out | exact over HB9.out⟩
                      case measure => simp [intOf]; omega
                    · have hltI4 : ¬ (k4 : Int) < (U.length : Int) := by omega
                      have HBA := Lib.hid (then' HB8.out hbw)
                      obtain ⟨bt', e', -, i10, i11, i12, i13, i14, i15, i16, i17, i18⟩ := in_at (HRZ.out.below HBA.out) HT.out
                      cases e'
                      clear hbw
                      go_wp2_with fail
                      refine (HSE.out _ HBA.out).mono ?_
                      rintro e w7 ⟨rfl, hb7⟩
                      have HBC := Lib.hid (then' HBA.out hb7)
                      have HMZ := Lib.hid ((hb7.block _ (blk_lt HMY.out)).trans HMY.out)
                      clear hb7 m14 m15 i10 i11 i12 i13 i14 i15 i16 i17 i18
                      have m24 : w7.cell? ⟨wb.heap.size, 4, none⟩ = some (.int .i64 z.rg) := cell_of_row _ _ 4 _ _ _ HMZ.out
                      have m25 : w7.cell? ⟨wb.heap.size, 5, none⟩ = some (.slice (some bt) z.co.length z.c) := cell_of_row _ _ 5 _ _ _ HMZ.out
                      obtain ⟨bt', e', -, i20, i21, i22, i23, i24, i25, i26, i27, i28⟩ := in_at (HRZ.out.below HBC.out) HT.out
                      cases e'
                      generalize setsL t.i = sl at *
                      obtain ⟨sa, sb⟩ := sl
                      dsimp only at HSW ⊢
                      have hin1 := in_w Al cl S t.i.cl w7 (HRL.out.below HBC.out) hS (HI.out _ (by simp))
                      have HI1 := Lib.hid hin1
                      clear hin1
                      cases sb with
                      | false =>
                        go_wp2_with fail
                        refine HI1.out.mono ?_
                        rintro e w8 ⟨rfl, hb8⟩
                        have HBD1 := Lib.hid (then' HBC.out hb8)
                        have HME := Lib.hid ((hb8.block _ (blk_lt HMZ.out)).trans HMZ.out)
                        clear hb8 m24 m25 i20 i21 i22 i23 i24 i25 i26 i27 i28
                        have m34 : w8.cell? ⟨wb.heap.size, 4, none⟩ = some (.int .i64 z.rg) := cell_of_row _ _ 4 _ _ _ HME.out
                        have m35 : w8.cell? ⟨wb.heap.size, 5, none⟩ = some (.slice (some bt) z.co.length z.c) := cell_of_row _ _ 5 _ _ _ HME.out
                        obtain ⟨bt', e', -, i30, i31, i32, i33, i34, i35, i36, i37, i38⟩ := in_at (HRZ.out.below HBD1.out) HT.out
                        cases e'
                        go_wp2_with fail
                        refine (in_w Al cl S t.i.nm w8 (HRL.out.below HBD1.out) hS (HI.out _ (by simp))).mono ?_
                        rintro e w9 ⟨rfl, hb9⟩
                        have HBE1 := Lib.hid (then' HBD1.out hb9)
                        have HMF := Lib.hid ((hb9.block _ (blk_lt HME.out)).trans HME.out)
                        clear hb9 m34 m35 i30 i31 i32 i33 i34 i35 i36 i37 i38
                        have m44 : w9.cell? ⟨wb.heap.size, 4, none⟩ = some (.int .i64 z.rg) := cell_of_row _ _ 4 _ _ _ HMF.out
                        have m45 : w9.cell? ⟨wb.heap.size, 5, none⟩ = some (.slice (some bt) z.co.length z.c) := cell_of_row _ _ 5 _ _ _ HMF.out
                        obtain ⟨bt', e', -, i40, i41, i42, i43, i44, i45, i46, i47, i48⟩ := in_at (HRZ.out.below HBE1.out) HT.out
                        cases e'
                        go_wp2_with fail
                        refine (in_w Al cl S t.i.ds w9 (HRL.out.below HBE1.out) hS (HI.out _ (by simp))).mono ?_
                        rintro e w10 ⟨rfl, hb10⟩
                        have HBF1 := Lib.hid (then' HBE1.out hb10)
                        have HMG := Lib.hid ((hb10.block _ (blk_lt HMF.out)).trans HMF.out)
                        clear hb10 m44 m45 i40 i41 i42 i43 i44 i45 i46 i47 i48
                        go_wp2
                        go_roundw
                        case rel => exact ⟨k3 + 1, by go_num, by omega, HBF1.out, HMG.out⟩
                        case measure => simp [intOf]; omega
                      | true =>
                        obtain ⟨q1, q2⟩ := HSW.out rfl
                        have r1 : ¬ sa < 0 := by omega
                        have r2 : ¬ z.rg ≤ sa := by omega
                        have r3 : decide (z.rg ≤ sa) = false := decide_eq_false r2
                        clear q1 q2
                        go_wp2_with fail
                        refine HI1.out.mono ?_
                        rintro e w8 ⟨rfl, hb8⟩
                        have HBD1 := Lib.hid (then' HBC.out hb8)
                        have HME := Lib.hid ((hb8.block _ (blk_lt HMZ.out)).trans HMZ.out)
                        clear hb8 m24 m25 i20 i21 i22 i23 i24 i25 i26 i27 i28
                        have m34 : w8.cell? ⟨wb.heap.size, 4, none⟩ = some (.int .i64 z.rg) := cell_of_row _ _ 4 _ _ _ HME.out
                        have m35 : w8.cell? ⟨wb.heap.size, 5, none⟩ = some (.slice (some bt) z.co.length z.c) := cell_of_row _ _ 5 _ _ _ HME.out
                        obtain ⟨bt', e', -, i30, i31, i32, i33, i34, i35, i36, i37, i38⟩ := in_at (HRZ.out.below HBD1.out) HT.out
                        cases e'
                        go_wp2_with fail
                        refine (in_w Al cl S t.i.nm w8 (HRL.out.below HBD1.out) hS (HI.out _ (by simp))).mono ?_
                        rintro e w9 ⟨rfl, hb9⟩
                        have HBE1 := Lib.hid (then' HBD1.out hb9)
                        have HMF := Lib.hid ((hb9.block _ (blk_lt HME.out)).trans HME.out)
                        clear hb9 m34 m35 i30 i31 i32 i33 i34 i35 i36 i37 i38
                        have m44 : w9.cell? ⟨wb.heap.size, 4, none⟩ = some (.int .i64 z.rg) := cell_of_row _ _ 4 _ _ _ HMF.out
                        have m45 : w9.cell? ⟨wb.heap.size, 5, none⟩ = some (.slice (some bt) z.co.length z.c) := cell_of_row _ _ 5 _ _ _ HMF.out
                        obtain ⟨bt', e', -, i40, i41, i42, i43, i44, i45, i46, i47, i48⟩ := in_at (HRZ.out.below HBE1.out) HT.out
                        cases e'
                        go_wp2_with fail
                        refine (in_w Al cl S t.i.ds w9 (HRL.out.below HBE1.out) hS (HI.out _ (by simp))).mono ?_
                        rintro e w10 ⟨rfl, hb10⟩
                        have HBF1 := Lib.hid (then' HBE1.out hb10)
                        have HMG := Lib.hid ((hb10.block _ (blk_lt HMF.out)).trans HMF.out)
                        clear hb10 m44 m45 i40 i41 i42 i43 i44 i45 i46 i47 i48
                        go_wp2
                        go_roundw
                        case rel => exact ⟨k3 + 1, by go_num, by omega, HBF1.out, HMG.out⟩
                        case measure => simp [intOf]; omega
                · have hltI3 : ¬ (k3 : Int) < (z.co.length : Int) := by omega
                  have m05 : wt.cell? ⟨wb.heap.size, 5, none⟩ = some (.slice Bz z.co.length z.c) := cell_of_row _ _ 5 _ _ _ hmb
                  clear hbw hmb
                  go_wp2
                  go_roundw
                  case rel => exact ⟨k2 + 1, by go_num, by omega, HB7.out⟩
                  case measure => simp [intOf]; omega
            · have hltI2 : ¬ (k2 : Int) < (y.ms.length : Int) := by omega
              clear hbw
              go_wp2
              go_roundw
              case rel => exact ⟨k + 1, by go_num, by omega, HB2.out⟩
              case measure => simp [intOf]; omega
        · have hltI : ¬ (k : Int) < (x.cs.length : Int) := by omega
          clear hbw
          go_wp2
          go_ret
          exact ⟨rfl, HAL.out.trans ((K5.out.trans (HB.out.mono K5.out.size)).mono HAL.out.size)⟩
    · have gz : (rightE x != 0) = true := by rw [bne_iff_ne]; exact hz
      clear hz
      generalize rightE x = rr at *
      go_wp2
      go_ret
      exact ⟨rfl, HAL.out.trans (K4.out.mono HAL.out.size)⟩
end Go.Proofs.YtodnfahffkggiaaDoor.topCodes

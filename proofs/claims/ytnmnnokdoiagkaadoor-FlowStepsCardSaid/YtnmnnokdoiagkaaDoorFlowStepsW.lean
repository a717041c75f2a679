/-
 Layer 14: what is one step behind another place is at most one farther; what is reached is reached from one that is nearer by one: the walk.
-/
import Derived.Test.YtnmnnokdoiagkaaDoorFlowH
namespace Go.Proofs.YtnmnnokdoiagkaaDoor.flow
open Go.RowKit Go.Shelf
open words kindp opp op prg flowp kind
/-- what is left to be seen of the places whence one comes -/
def Near (D Y : List Int) (d : Int) (nr : Bool) (j : Nat) : Prop := 0 ≤ d → nr = true ∨ (0 < d ∧ ∃ q, j ≤ q ∧ ∃ b : Nat, Y[q]? = some (b : Int) ∧ dl D b = d - 1)
theorem near_start {l : List In} {D : List Int} (h : DistOk l D) {k : Nat} (hk : k < l.length) {nr : Bool} (hn : k = 0 → dl D 0 = 0 → nr = true) : Near D (comeL l (k : Int)) (dl D k) nr 0 := by
 intro h0
 by_cases hk0 : k = 0
 ·exact .inl (hn hk0 (h.z (by omega)))
 ·obtain ⟨b, b1, b2, b3⟩ := h.back k h0 hk0
  have hb := onL_in b3
  have hm : (b : Int) ∈ comeL l (k : Int) := selL_mem.2 ⟨b, by omega, by rw [List.contains_iff_mem]; exact b3, rfl⟩
  obtain ⟨q, hq⟩ := List.getElem?_of_mem hm
  exact .inr ⟨by omega, q, Nat.zero_le _, b, hq, by omega⟩
theorem near_end {D Y : List Int} {d : Int} {nr : Bool} (h : Near D Y d nr Y.length) (h0 : 0 ≤ d) : nr = true := by
 rcases h h0 with h | ⟨-, q, h1, b, h2, -⟩
 ·exact h
 ·have := (List.getElem?_eq_some_iff.1 h2).1
  omega
theorem near_true {D Y : List Int} {d : Int} {j : Nat} : Near D Y d true j := fun _ => .inl rfl
theorem near_step {D Y : List Int} {d : Int} {j b : Nat} (h : Near D Y d false j) (hb : Y[j]? = some (b : Int)) (hne : ¬ (0 < d ∧ dl D b = d - 1)) : Near D Y d false (j + 1) := by
 intro h0
 rcases h h0 with h | ⟨hd, q, h1, b', h2, h3⟩
 ·cases h
 ·refine .inr ⟨hd, q, ?_, b', h2, h3⟩
  rcases Nat.lt_or_ge j q with hlt | hge
  ·exact hlt
  ·obtain rfl : j = q := by omega
   rw [hb] at h2
   obtain rfl : b = b' := by have := Option.some.inj h2; omega
   exact absurd ⟨hd, h3⟩ hne
theorem dist_small {l : List In} {D : List Int} (h : DistOk l D) (p : Nat) : dl D p < (l.length : Int) ∨ l.length = 0 := by
 have hg := h.ge p
 rcases Nat.eq_zero_or_pos l.length with h0 | h0
 ·exact .inr h0
 refine .inl ?_
 by_cases h1 : 0 ≤ dl D p
 ·obtain ⟨R', r1, r2, r3, -⟩ := levels (l := l) (fun q hq hq0 => h.back q hq hq0) (fun _ => h.z h0) (dl D p).toNat p (by omega)
  have := pigeon _ R' r2 r3
  rw [h.len] at this
  omega
 ·omega
theorem come_nat {l : List In} {z x : Int} {j : Nat} (h : (comeL l z)[j]? = some x) : ∃ b : Nat, x = (b : Int) ∧ b < l.length := by
 obtain ⟨b, h1, -, h2⟩ := selL_mem.1 (List.mem_of_getElem? h)
 exact ⟨b, h2, h1⟩
end Go.Proofs.YtnmnnokdoiagkaaDoor.flow
namespace Go.Proofs.YtnmnnokdoiagkaaDoor.flowSteps
open Go.RowKit Go.Shelf
open words kindp opp op prg flowp kind flow

set_option maxRecDepth 100000 in
set_option maxHeartbeats 8000000 in
theorem walk (A : Option Addr) (c : Nat) (L0 : List InM) (w : World) (hz : L0.length ≤ 281474976710656) (hc : L0.length ≤ c) (hr : Rd w A (L0.flatMap inC)) (hs : Sh w) (hm : Mx w) :
  Calls Tryd.prog 5 #[.slice A L0.length c] w fun e w' => e = .returned (.bool true) ∧ Below w.heap.size w w' := by
 have HFW := Lib.hid (few_w A c L0 w hz hc hr)
 obtain ⟨L, hL⟩ : ∃ L, L = L0.take 40 := ⟨_, rfl⟩
 have hl40 : L.length ≤ 40 := by rw [hL, List.length_take]; omega
 rw [← hL] at HFW
 obtain ⟨n, hn⟩ : ∃ n, n = L.length := ⟨_, rfl⟩
 have HN := Lib.hid hn
 rw [← hn] at HFW hl40
 have hnI : (n : Int) ≤ 40 := by omega
 have HS := Lib.hid hs; have HM := Lib.hid hm
 clear hz hc hr hs hm hL hn
 go_enter Tryd.func5, Tryd.ntmps5
 go_wp2_with fail
 refine HFW.out.mono ?_
 rintro e w1 ⟨A', rfl, hr, hw1⟩; subst w1
 have HR := Lib.hid hr
 have hDI := dist_w A' c L w (by rw [← HN.out]; omega) hr HS.out
 have HNX := Lib.hid (fun z w h1 h2 => next_w A' c L z w (by rw [← HN.out]; omega) h1 h2)
 have HBK := Lib.hid (fun z w h1 h2 => back_w A' c L z w (by rw [← HN.out]; omega) h1 h2)
 unfold DistP at hDI
 obtain ⟨l, hl⟩ : ∃ l, l = L.map (·.i) := ⟨_, rfl⟩
 have HLL := Lib.hid (show l.length = n from by rw [hl, List.length_map, ← HN.out])
 rw [← hl] at hDI HNX HBK
 rw [HLL.out, ← HN.out] at hDI
 rw [← HN.out] at HNX HBK
 have HDI := Lib.hid hDI
 clear hr hDI HFW hl
 go_wp2_with fail
 refine HDI.out.mono ?_
 rintro e w2 ⟨D, A2, c2, hD, rfl, r2, b2⟩
 have HD := Lib.hid hD; have HR2 := Lib.hid r2; have HB2 := Lib.hid b2
 have HDL := Lib.hid (hD.len.trans HLL.out)
 clear hD r2 b2 HDI
 go_wp2_with fail
 refine (live14 _ (HS.out.below HB2.out) (HM.out.below HB2.out)).mono ?_
 rintro e w3 ⟨rfl, b3⟩
 have HB3 := Lib.hid (HB2.out.trans (b3.mono HB2.out.size))
 have HR3 := Lib.hid (HR2.out.below b3)
 have hnn : ((n : Int) != (n : Int)) = false := by simp
 clear b3 HB2 HR2
 go_wp2
 go_loopw [4] (fun i wr => ∃ k : Nat, k ≤ n ∧ i = .int .i64 (k : Int) ∧ Below w3.heap.size w3 wr) (fun i _ => n - (intOf i).toNat)
 case atStart => exact ⟨0, Nat.zero_le _, rfl, Below.refl _ _⟩
 case round =>
  obtain ⟨k, hk, rfl, hb⟩ := hrel
  have HB := Lib.hid hb
  clear hb
  by_cases hlt : k < n
  case neg =>
   have hltI : ¬ (k : Int) < (n : Int) := by omega
   go_wp2
   go_ret
   exact ⟨rfl, HB3.out.trans (HB.out.mono HB3.out.size)⟩
  case pos =>
   have hltI : (k : Int) < (n : Int) := by omega
   have HW := Lib.hid (HB3.out.trans (HB.out.mono HB3.out.size))
   obtain ⟨d, hd⟩ : ∃ d, d = dl D k := ⟨_, rfl⟩
   have HDK := Lib.hid hd
   have HDA := Lib.hid (show (IL D)[k]? = some (.int .i64 d) from by rw [hd]; exact IL_at (dl_get (by have := HDL.out; omega)))
   have hd1 := HD.out.ge k
   rw [← hd] at hd1
   have HN1 := Lib.hid (HNX.out (k : Int) wr (HR.out.below HW.out) (HS.out.below HW.out))
   have HFX := Lib.hid (fun j x (hx : (nextL l (k : Int))[j]? = some x) => show (0 ≤ x ∧ x < (n : Int)) ∧ (0 ≤ d → 0 ≤ dl D x.toNat ∧ dl D x.toNat ≤ d + 1) from by
    have hm := nextL_mem.1 (List.mem_of_getElem? hx)
    have hi := onL_in hm
    rw [HLL.out] at hi
    exact ⟨⟨hi.1, hi.2.1⟩, fun h0 => by rw [HDK.out] at h0 ⊢; exact HD.out.fwd k h0 x hm⟩)
   obtain ⟨X, hX⟩ : ∃ X, X = nextL l (k : Int) := ⟨_, rfl⟩
   rw [← hX] at HN1 HFX
   have hXl : (X.length : Int) ≤ 2 := by
    rw [hX]
    have h1 := onL_len l (k : Int)
    have h2 := ordL_len (onL l (k : Int))
    unfold nextL
    omega
   obtain ⟨Y, hY⟩ : ∃ Y, Y = comeL l (k : Int) := ⟨_, rfl⟩
   have HBY := Lib.hid (fun w h1 h2 => HBK.out (k : Int) w h1 h2)
   have HCN := Lib.hid (fun j x (h : (comeL l (k : Int))[j]? = some x) => show ∃ b : Nat, x = (b : Int) ∧ b < n from by rw [← HLL.out]; exact come_nat h)
   have HNS := Lib.hid (fun nr (h : k = 0 → dl D 0 = 0 → nr = true) => show Near D (comeL l (k : Int)) d nr 0 from by rw [HDK.out]; exact near_start HD.out (by rw [HLL.out]; exact hlt) h)
   have hYl : (Y.length : Int) ≤ 40 := by
    rw [hY]
    unfold comeL
    have h1 := selL_len l.length fun i => (onL l (i : Int)).contains (k : Int)
    have := HLL.out
    omega
   rw [← hY] at HBY HCN HNS
   have hd40 : d < 40 := by
    rcases dist_small HD.out k with h | h
    ·rw [HDK.out]; have := HLL.out; omega
    ·have := HLL.out; omega
   have hZ0 : dl D 0 = 0 := HD.out.z (by have := HLL.out; omega)
   have HZ0 := Lib.hid hZ0
   obtain ⟨a3, rfl, -, -⟩ := HR3.out.at_ HDA.out
   have HCD := Lib.hid (fun W (h : Below w3.heap.size w3 W) (q : Nat) (hq : q < n) => show W.cell? (a3.add q) = some (.int .i64 (dl D q)) from by
    obtain ⟨a', e', -, hc⟩ := (HR3.out.below h).at_ (IL_at (dl_get (D := D) (i := q) (by have := HDL.out; omega)))
    cases e'
    exact hc)
   clear hd hX hY hZ0
   go_wp2_with fail
   refine HN1.out.mono ?_
   rintro e w4 ⟨A4, c4, rfl, r4, b4⟩
   have HR4 := Lib.hid r4; have HB4 := Lib.hid b4
   have HO4 := Lib.hid (HB.out.trans (HB4.out.mono HB.out.size))
   have HW4 := Lib.hid (HW.out.trans (HB4.out.mono HW.out.size))
   clear r4 b4 HN1
   go_wp2
   go_loopw [6] (fun i wr => ∃ j : Nat, j ≤ X.length ∧ i = .int .i64 (j : Int) ∧ Below w4.heap.size w4 wr) (fun i _ => X.length - (intOf i).toNat)
   case atStart => exact ⟨0, Nat.zero_le _, rfl, Below.refl _ _⟩
   case round =>
    obtain ⟨j, hj, rfl, hb⟩ := hrel
    have HO5 := Lib.hid (HO4.out.trans (hb.mono HO4.out.size))
    have HW5 := Lib.hid (HW4.out.trans (hb.mono HW4.out.size))
    have HI := Lib.hid hb
    have cd := HCD.out wr HO5.out k hlt
    rw [← HDK.out] at cd
    by_cases hlt2 : j < X.length
    ·have hltJ : (j : Int) < (X.length : Int) := by omega
     obtain ⟨x, hx⟩ : ∃ x, X[j]? = some x := ⟨X[j], List.getElem?_eq_getElem hlt2⟩
     obtain ⟨a4, rfl, -, cx⟩ := (HR4.out.below hb).at_ (IL_at hx)
     obtain ⟨⟨x0, x1⟩, hfw⟩ := HFX.out j x hx
     obtain ⟨t, rfl⟩ : ∃ t : Nat, x = (t : Int) := ⟨x.toNat, by omega⟩
     rw [Int.toNat_natCast] at hfw
     by_cases hd2 : d = -1
     ·have hb1 : (d != -1) = false := by rw [hd2]; rfl
      clear hx hfw hb hd2
      go_wp2_with fail
      refine (HBY.out wr (HR.out.below HW5.out) (HS.out.below HW5.out)).mono ?_
      rintro e w6 ⟨A7, c7, rfl, r7, b7⟩
      have HR7 := Lib.hid r7
      have HO6 := Lib.hid (HO5.out.trans (b7.mono HO5.out.size))
      have HW6 := Lib.hid (HW5.out.trans (b7.mono HW5.out.size))
      clear r7 b7 hb1
      have c0 := HCD.out w6 HO6.out 0 (by omega)
      rw [HZ0.out, show a3.add 0 = a3 from by simp [Addr.add]] at c0
      by_cases hk0 : k = 0
      ·have hkb : ((k : Int) == 0) = true := by rw [hk0]; rfl
       have HNR := Lib.hid (HNS.out true fun _ _ => rfl)
       have HK0 := Lib.hid hk0
       clear hk0
       go_wp2
       go_loopw [8, 9] (fun nr i W => ∃ (q : Nat) (b : Bool), q ≤ Y.length ∧ i = .int .i64 (q : Int) ∧ nr = .bool b ∧ Near D Y d b q ∧ Below w6.heap.size w6 W) (fun _ i _ => Y.length - (intOf i).toNat)
       case atStart => exact ⟨0, _, Nat.zero_le _, rfl, rfl, HNR.out, Below.refl _ _⟩
       case round =>
        obtain ⟨q, b, hq, rfl, rfl, hnr, hb⟩ := hrel
        have HO7 := Lib.hid (HO6.out.trans (hb.mono HO6.out.size))
        have HI7 := Lib.hid hb
        have cd7 := HCD.out wr HO7.out k hlt
        rw [← HDK.out] at cd7
        have HNQ := Lib.hid hnr
        by_cases hlt3 : q < Y.length
        ·have hltQ : (q : Int) < (Y.length : Int) := by omega
         cases b with
         | true =>
          clear hnr hb
          go_wp2
          go_quiet (fail)
          go_wp2
          go_roundw
          case rel => exact ⟨q + 1, true, by omega, by go_num, rfl, near_true, over HI7.out⟩
          case measure => simp [intOf]; omega
         | false =>
          obtain ⟨y, hy⟩ : ∃ y, Y[q]? = some y := ⟨Y[q], List.getElem?_eq_getElem hlt3⟩
          obtain ⟨a7, rfl, -, cy⟩ := (HR7.out.below hb).at_ (IL_at hy)
          obtain ⟨v, rfl, hv⟩ := HCN.out q y hy
          have cv := HCD.out wr HO7.out v hv
          have hvI : (v : Int) < (n : Int) := by omega
          have HST := Lib.hid (fun h => near_step hnr hy h)
          obtain ⟨dv, hdv⟩ : ∃ dv, dv = dl D v := ⟨_, rfl⟩
          rw [← hdv] at cv HST
          clear hnr hb hy hdv
          by_cases h0d : 0 < d
          ·have g1 : decide (0 < d) = true := decide_eq_true h0d
           by_cases hdd : dv = d - 1
           ·have g2 : (dv == d - 1) = true := by simpa using hdd
            clear hdd
            go_wp2
            go_quiet (fail)
            go_wp2
            go_roundw
            case rel => exact ⟨q + 1, true, by omega, by go_num, rfl, near_true, over HI7.out⟩
            case measure => simp [intOf]; omega
           ·have g2 : (dv == d - 1) = false := beq_eq_false_iff_ne.2 hdd
            have HNQ2 := Lib.hid (HST.out fun h => hdd h.2)
            clear hdd
            go_wp2
            go_quiet (fail)
            go_wp2
            go_roundw
            case rel => exact ⟨q + 1, false, by omega, by go_num, rfl, HNQ2.out, over HI7.out⟩
            case measure => simp [intOf]; omega
          ·have g1 : decide (0 < d) = false := decide_eq_false h0d
           have HNQ2 := Lib.hid (HST.out fun h => h0d h.1)
           go_wp2
           go_quiet (fail)
           go_wp2
           go_roundw
           case rel => exact ⟨q + 1, false, by omega, by go_num, rfl, HNQ2.out, over HI7.out⟩
           case measure => simp [intOf]; omega
        ·have hltQ : ¬ (q : Int) < (Y.length : Int) := by omega
         obtain rfl : q = Y.length := by omega
         by_cases hd3 : d = -1
         ·have hb3 : (d != -1) = false := by rw [hd3]; rfl
          clear hnr hb hd3
          go_wp2
          go_roundw
          case rel => exact ⟨k + 1, by omega, by go_num, HO7.out⟩
          case measure => simp [intOf]; omega
         ·have hb3 : (d != -1) = true := by simpa using hd3
          have hbt : b = true := near_end hnr (by omega)
          subst hbt
          clear hnr hb
          go_wp2
          go_roundw
          case rel => exact ⟨k + 1, by omega, by go_num, HO7.out⟩
          case measure => simp [intOf]; omega
      ·have hkb : ((k : Int) == 0) = false := beq_eq_false_iff_ne.2 (by omega)
       have HNR := Lib.hid (HNS.out false fun h => absurd h hk0)
       clear hk0
       go_wp2
       go_loopw [8, 9] (fun nr i W => ∃ (q : Nat) (b : Bool), q ≤ Y.length ∧ i = .int .i64 (q : Int) ∧ nr = .bool b ∧ Near D Y d b q ∧ Below w6.heap.size w6 W) (fun _ i _ => Y.length - (intOf i).toNat)
       case atStart => exact ⟨0, _, Nat.zero_le _, rfl, rfl, HNR.out, Below.refl _ _⟩
       case round =>
        obtain ⟨q, b, hq, rfl, rfl, hnr, hb⟩ := hrel
        have HO7 := Lib.hid (HO6.out.trans (hb.mono HO6.out.size))
        have HI7 := Lib.hid hb
        have cd7 := HCD.out wr HO7.out k hlt
        rw [← HDK.out] at cd7
        have HNQ := Lib.hid hnr
        by_cases hlt3 : q < Y.length
        ·have hltQ : (q : Int) < (Y.length : Int) := by omega
         cases b with
         | true =>
          clear hnr hb
          go_wp2
          go_quiet (fail)
          go_wp2
          go_roundw
          case rel => exact ⟨q + 1, true, by omega, by go_num, rfl, near_true, over HI7.out⟩
          case measure => simp [intOf]; omega
         | false =>
          obtain ⟨y, hy⟩ : ∃ y, Y[q]? = some y := ⟨Y[q], List.getElem?_eq_getElem hlt3⟩
          obtain ⟨a7, rfl, -, cy⟩ := (HR7.out.below hb).at_ (IL_at hy)
          obtain ⟨v, rfl, hv⟩ := HCN.out q y hy
          have cv := HCD.out wr HO7.out v hv
          have hvI : (v : Int) < (n : Int) := by omega
          have HST := Lib.hid (fun h => near_step hnr hy h)
          obtain ⟨dv, hdv⟩ : ∃ dv, dv = dl D v := ⟨_, rfl⟩
          rw [← hdv] at cv HST
          clear hnr hb hy hdv
          by_cases h0d : 0 < d
          ·have g1 : decide (0 < d) = true := decide_eq_true h0d
           by_cases hdd : dv = d - 1
           ·have g2 : (dv == d - 1) = true := by simpa using hdd
            clear hdd
            go_wp2
            go_quiet (fail)
            go_wp2
            go_roundw
            case rel => exact ⟨q + 1, true, by omega, by go_num, rfl, near_true, over HI7.out⟩
            case measure => simp [intOf]; omega
           ·have g2 : (dv == d - 1) = false := beq_eq_false_iff_ne.2 hdd
            have HNQ2 := Lib.hid (HST.out fun h => hdd h.2)
            clear hdd
            go_wp2
            go_quiet (fail)
            go_wp2
            go_roundw
            case rel => exact ⟨q + 1, false, by omega, by go_num, rfl, HNQ2.out, over HI7.out⟩
            case measure => simp [intOf]; omega
          ·have g1 : decide (0 < d) = false := decide_eq_false h0d
           have HNQ2 := Lib.hid (HST.out fun h => h0d h.1)
           go_wp2
           go_quiet (fail)
           go_wp2
           go_roundw
           case rel => exact ⟨q + 1, false, by omega, by go_num, rfl, HNQ2.out, over HI7.out⟩
           case measure => simp [intOf]; omega
        ·have hltQ : ¬ (q : Int) < (Y.length : Int) := by omega
         obtain rfl : q = Y.length := by omega
         by_cases hd3 : d = -1
         ·have hb3 : (d != -1) = false := by rw [hd3]; rfl
          clear hnr hb hd3
          go_wp2
          go_roundw
          case rel => exact ⟨k + 1, by omega, by go_num, HO7.out⟩
          case measure => simp [intOf]; omega
         ·have hb3 : (d != -1) = true := by simpa using hd3
          have hbt : b = true := near_end hnr (by omega)
          subst hbt
          clear hnr hb
          go_wp2
          go_roundw
          case rel => exact ⟨k + 1, by omega, by go_num, HO7.out⟩
          case measure => simp [intOf]; omega
     ·have hb1 : (d != -1) = true := by simpa using hd2
      have ce := HCD.out wr HO5.out t (by omega)
      obtain ⟨e1, e2⟩ := hfw (by omega)
      obtain ⟨ev, he⟩ : ∃ ev, ev = dl D t := ⟨_, rfl⟩
      rw [← he] at ce e1 e2
      have g1 : decide ((t : Int) < 0) = false := decide_eq_false (by omega)
      have g2 : decide ((n : Int) ≤ (t : Int)) = false := decide_eq_false (by omega)
      have g2' : decide (n ≤ t) = false := decide_eq_false (by omega)
      have g3 : (ev == -1) = false := beq_eq_false_iff_ne.2 (by omega)
      have g4 : decide (d + 1 < ev) = false := decide_eq_false (by omega)
      have htn : (t : Int) < (n : Int) := x1
      clear hx hfw hb he
      go_wp2
      go_quiet (fail)
      go_wp2
      go_roundw
      case rel => exact ⟨j + 1, by omega, by go_num, over HI.out⟩
      case measure => simp [intOf]; omega
    ·have hltJ : ¬ (j : Int) < (X.length : Int) := by omega
     clear hb
     go_wp2_with fail
     refine (HBY.out wr (HR.out.below HW5.out) (HS.out.below HW5.out)).mono ?_
     rintro e w6 ⟨A7, c7, rfl, r7, b7⟩
     have HR7 := Lib.hid r7
     have HO6 := Lib.hid (HO5.out.trans (b7.mono HO5.out.size))
     have HW6 := Lib.hid (HW5.out.trans (b7.mono HW5.out.size))
     clear r7 b7
     have c0 := HCD.out w6 HO6.out 0 (by omega)
     rw [HZ0.out, show a3.add 0 = a3 from by simp [Addr.add]] at c0
     by_cases hk0 : k = 0
     ·have hkb : ((k : Int) == 0) = true := by rw [hk0]; rfl
      have HNR := Lib.hid (HNS.out true fun _ _ => rfl)
      have HK0 := Lib.hid hk0
      clear hk0
      go_wp2
      go_loopw [8, 9] (fun nr i W => ∃ (q : Nat) (b : Bool), q ≤ Y.length ∧ i = .int .i64 (q : Int) ∧ nr = .bool b ∧ Near D Y d b q ∧ Below w6.heap.size w6 W) (fun _ i _ => Y.length - (intOf i).toNat)
      case atStart => exact ⟨0, _, Nat.zero_le _, rfl, rfl, HNR.out, Below.refl _ _⟩
      case round =>
       obtain ⟨q, b, hq, rfl, rfl, hnr, hb⟩ := hrel
       have HO7 := Lib.hid (HO6.out.trans (hb.mono HO6.out.size))
       have HI7 := Lib.hid hb
       have cd7 := HCD.out wr HO7.out k hlt
       rw [← HDK.out] at cd7
       have HNQ := Lib.hid hnr
       by_cases hlt3 : q < Y.length
       ·have hltQ : (q : Int) < (Y.length : Int) := by omega
        cases b with
        | true =>
         clear hnr hb
         go_wp2
         go_quiet (fail)
         go_wp2
         go_roundw
         case rel => exact ⟨q + 1, true, by omega, by go_num, rfl, near_true, over HI7.out⟩
         case measure => simp [intOf]; omega
        | false =>
         obtain ⟨y, hy⟩ : ∃ y, Y[q]? = some y := ⟨Y[q], List.getElem?_eq_getElem hlt3⟩
         obtain ⟨a7, rfl, -, cy⟩ := (HR7.out.below hb).at_ (IL_at hy)
         obtain ⟨v, rfl, hv⟩ := HCN.out q y hy
         have cv := HCD.out wr HO7.out v hv
         have hvI : (v : Int) < (n : Int) := by omega
         have HST := Lib.hid (fun h => near_step hnr hy h)
         obtain ⟨dv, hdv⟩ : ∃ dv, dv = dl D v := ⟨_, rfl⟩
         rw [← hdv] at cv HST
         clear hnr hb hy hdv
         by_cases h0d : 0 < d
         ·have g1 : decide (0 < d) = true := decide_eq_true h0d
          by_cases hdd : dv = d - 1
          ·have g2 : (dv == d - 1) = true := by simpa using hdd
           clear hdd
           go_wp2
           go_quiet (fail)
           go_wp2
           go_roundw
           case rel => exact ⟨q + 1, true, by omega, by go_num, rfl, near_true, over HI7.out⟩
           case measure => simp [intOf]; omega
          ·have g2 : (dv == d - 1) = false := beq_eq_false_iff_ne.2 hdd
           have HNQ2 := Lib.hid (HST.out fun h => hdd h.2)
           clear hdd
           go_wp2
           go_quiet (fail)
           go_wp2
           go_roundw
           case rel => exact ⟨q + 1, false, by omega, by go_num, rfl, HNQ2.out, over HI7.out⟩
           case measure => simp [intOf]; omega
         ·have g1 : decide (0 < d) = false := decide_eq_false h0d
          have HNQ2 := Lib.hid (HST.out fun h => h0d h.1)
          go_wp2
          go_quiet (fail)
          go_wp2
          go_roundw
          case rel => exact ⟨q + 1, false, by omega, by go_num, rfl, HNQ2.out, over HI7.out⟩
          case measure => simp [intOf]; omega
       ·have hltQ : ¬ (q : Int) < (Y.length : Int) := by omega
        obtain rfl : q = Y.length := by omega
        by_cases hd3 : d = -1
        ·have hb3 : (d != -1) = false := by rw [hd3]; rfl
         clear hnr hb hd3
         go_wp2
         go_roundw
         case rel => exact ⟨k + 1, by omega, by go_num, HO7.out⟩
         case measure => simp [intOf]; omega
        ·have hb3 : (d != -1) = true := by simpa using hd3
         have hbt : b = true := near_end hnr (by omega)
         subst hbt
         clear hnr hb
         go_wp2
         go_roundw
         case rel => exact ⟨k + 1, by omega, by go_num, HO7.out⟩
         case measure => simp [intOf]; omega
     ·have hkb : ((k : Int) == 0) = false := beq_eq_false_iff_ne.2 (by omega)
      have HNR := Lib.hid (HNS.out false fun h => absurd h hk0)
      clear hk0
      go_wp2
      go_loopw [8, 9] (fun nr i W => ∃ (q : Nat) (b : Bool), q ≤ Y.length ∧ i = .int .i64 (q : Int) ∧ nr = .bool b ∧ Near D Y d b q ∧ Below w6.heap.size w6 W) (fun _ i _ => Y.length - (intOf i).toNat)
      case atStart => exact ⟨0, _, Nat.zero_le _, rfl, rfl, HNR.out, Below.refl _ _⟩
      case round =>
       obtain ⟨q, b, hq, rfl, rfl, hnr, hb⟩ := hrel
       have HO7 := Lib.hid (HO6.out.trans (hb.mono HO6.out.size))
       have HI7 := Lib.hid hb
       have cd7 := HCD.out wr HO7.out k hlt
       rw [← HDK.out] at cd7
       have HNQ := Lib.hid hnr
       by_cases hlt3 : q < Y.length
       ·have hltQ : (q : Int) < (Y.length : Int) := by omega
        cases b with
        | true =>
         clear hnr hb
         go_wp2
         go_quiet (fail)
         go_wp2
         go_roundw
         case rel => exact ⟨q + 1, true, by omega, by go_num, rfl, near_true, over HI7.out⟩
         case measure => simp [intOf]; omega
        | false =>
         obtain ⟨y, hy⟩ : ∃ y, Y[q]? = some y := ⟨Y[q], List.getElem?_eq_getElem hlt3⟩
         obtain ⟨a7, rfl, -, cy⟩ := (HR7.out.below hb).at_ (IL_at hy)
         obtain ⟨v, rfl, hv⟩ := HCN.out q y hy
         have cv := HCD.out wr HO7.out v hv
         have hvI : (v : Int) < (n : Int) := by omega
         have HST := Lib.hid (fun h => near_step hnr hy h)
         obtain ⟨dv, hdv⟩ : ∃ dv, dv = dl D v := ⟨_, rfl⟩
         rw [← hdv] at cv HST
         clear hnr hb hy hdv
         by_cases h0d : 0 < d
         ·have g1 : decide (0 < d) = true := decide_eq_true h0d
          by_cases hdd : dv = d - 1
          ·have g2 : (dv == d - 1) = true := by simpa using hdd
           clear hdd
           go_wp2
           go_quiet (fail)
           go_wp2
           go_roundw
           case rel => exact ⟨q + 1, true, by omega, by go_num, rfl, near_true, over HI7.out⟩
           case measure => simp [intOf]; omega
          ·have g2 : (dv == d - 1) = false := beq_eq_false_iff_ne.2 hdd
           have HNQ2 := Lib.hid (HST.out fun h => hdd h.2)
           clear hdd
           go_wp2
           go_quiet (fail)
           go_wp2
           go_roundw
           case rel => exact ⟨q + 1, false, by omega, by go_num, rfl, HNQ2.out, over HI7.out⟩
           case measure => simp [intOf]; omega
         ·have g1 : decide (0 < d) = false := decide_eq_false h0d
          have HNQ2 := Lib.hid (HST.out fun h => h0d h.1)
          go_wp2
          go_quiet (fail)
          go_wp2
          go_roundw
          case rel => exact ⟨q + 1, false, by omega, by go_num, rfl, HNQ2.out, over HI7.out⟩
          case measure => simp [intOf]; omega
       ·have hltQ : ¬ (q : Int) < (Y.length : Int) := by omega
        obtain rfl : q = Y.length := by omega
        by_cases hd3 : d = -1
        ·have hb3 : (d != -1) = false := by rw [hd3]; rfl
         clear hnr hb hd3
         go_wp2
         go_roundw
         case rel => exact ⟨k + 1, by omega, by go_num, HO7.out⟩
         case measure => simp [intOf]; omega
        ·have hb3 : (d != -1) = true := by simpa using hd3
         have hbt : b = true := near_end hnr (by omega)
         subst hbt
         clear hnr hb
         go_wp2
         go_roundw
         case rel => exact ⟨k + 1, by omega, by go_num, HO7.out⟩
         case measure => simp [intOf]; omega
end Go.Proofs.YtnmnnokdoiagkaaDoor.flowSteps

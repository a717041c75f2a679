/-
  The walk of WireFlips: a section of which a byte within is another one is refused, for its sum, behind its length.
-/
import Derived.Test.YtbapalgikfllkaaDoorLive3
import Derived.Test.YtbapalgikfllkaaDoorBackNum
namespace Go.Proofs.YtbapalgikfllkaaDoor.wireFlips
open Go.RowKit
open Go.Proofs.YtbapalgikfllkaaDoor.num Go.Proofs.YtbapalgikfllkaaDoor.words Go.Proofs.YtbapalgikfllkaaDoor.rdnum Go.Proofs.YtbapalgikfllkaaDoor.rdr Go.Proofs.YtbapalgikfllkaaDoor.give Go.Proofs.YtbapalgikfllkaaDoor.meth Go.Proofs.YtbapalgikfllkaaDoor.sealing Go.Proofs.YtbapalgikfllkaaDoor.write

theorem xor_u8 {a b : Nat} (ha : a < 256) (hb : b < 256) : bits .xor .u8 (a : Int) (b : Int) = ((a ^^^ b : Nat) : Int) := u8_xor_nat a b ha hb

theorem B_set (l : List Nat) (i x : Nat) : (B l).set i (.int .u8 (x : Int)) = B (l.set i x) := by simp [B, List.map_set]
theorem own_at {w : World} {base e n g cap : Nat} {l : List Nat} (h : w.ownsRow base e 1 (.slice (some ⟨g, 0, none⟩) n cap) n (B l)) {i y : Nat} (hy : l[i]? = some y) : w.cell? ⟨g, i, none⟩ = some (.int .u8 (y : Int)) := by
  have h1 := B_at hy
  obtain ⟨hlt, _⟩ := List.getElem?_eq_some_iff.1 h1
  rw [h.cellAt i (by have := h.1; omega)]
  exact h1
theorem own_form {w : World} {base e n : Nat} {v : Value} {xs : List Value} (h : w.ownsRow base e 1 v n xs) (hn : 0 < n) : ∃ g cap, v = .slice (some ⟨g, 0, none⟩) n cap ∧ n ≤ cap := by
  rcases h.2 with ⟨_, h0⟩ | ⟨g, cap, cur, rfl, _, _, hnc, _⟩
  · omega
  · exact ⟨g, cap, rfl, hnc⟩
/-- the section with one byte turned -/
theorem turned (l : List Nat) (j x d : Nat) (hj : l[j]? = some x) : (sectL 9 l)[1 + (putL l.length).length + j]? = some x ∧ (sectL 9 l).set (1 + (putL l.length).length + j) (x ^^^ d) = 9 :: (putL l.length ++ (l.set j (x ^^^ d) ++ fourL (crcnum.sumL l))) := by
  obtain ⟨hlt, _⟩ := List.getElem?_eq_some_iff.1 hj
  have e : sectL 9 l = (9 :: putL l.length) ++ (l ++ fourL (crcnum.sumL l)) := by unfold sectL sealL; simp
  have hp : 1 + (putL l.length).length + j = (9 :: putL l.length).length + j := by simp; omega
  rw [e, hp]
  constructor
  · rw [List.getElem?_append_right (by omega), Nat.add_sub_cancel_left, List.getElem?_append_left hlt, hj]
  · rw [List.set_append_right _ _ (by omega), Nat.add_sub_cancel_left, List.set_append_left _ _ hlt]
    simp

set_option maxRecDepth 100000 in
set_option maxHeartbeats 800000 in
theorem skip (A : Option Addr) (n c : Nat) (at_ : Int) (by_ : Nat) (w : World) (hreach : n * 1 ≤ 140737488351232) (tab : crc.Tab w) (h : n = 0 ∨ 4000 < n ∨ by_ = 0) :
    Calls Tryd.prog 7 #[.slice A n c, .int .u16 at_, .int .u8 (by_ : Int)] w fun e w' => e = .returned (.bool true) ∧ Below w.heap.size w w' := by
  have HTab := Lib.hid tab
  have hnI : (n : Int) ≤ 140737488351232 := by omega
  clear tab hreach
  by_cases h0 : n = 0
  · subst h0
    clear h
    go_enter Tryd.func7, Tryd.ntmps7
    go_wp2_with (go_at_call 15; refine (live3.live_any w HTab.out).mono ?_; rintro e w1 ⟨rfl, hb1⟩; have HB1 := Lib.hid hb1; clear hb1)
    go_ret
    exact ⟨rfl, HB1.out⟩
  · have b0 : ((n : Int) == 0) = false := by simp; omega
    by_cases h1 : 4000 < n
    · have hI : 4000 < (n : Int) := by omega
      clear h h0 h1
      go_enter Tryd.func7, Tryd.ntmps7
      go_wp2_with (go_at_call 15; refine (live3.live_any w HTab.out).mono ?_; rintro e w1 ⟨rfl, hb1⟩; have HB1 := Lib.hid hb1; clear hb1)
      go_ret
      exact ⟨rfl, HB1.out⟩
    · have hI : ¬ 4000 < (n : Int) := by omega
      have h2 : by_ = 0 := by omega
      subst h2
      clear h h0 h1
      go_enter Tryd.func7, Tryd.ntmps7
      go_wp2_with (go_at_call 15; refine (live3.live_any w HTab.out).mono ?_; rintro e w1 ⟨rfl, hb1⟩; have HB1 := Lib.hid hb1; clear hb1)
      go_ret
      exact ⟨rfl, HB1.out⟩

set_option maxRecDepth 100000 in
set_option maxHeartbeats 1600000 in
theorem flip (A : Option Addr) (n c : Nat) (l : List Nat) (at_ by_ : Nat) (w : World) (hr : Rd w A (B l)) (hl : l.length = n) (hby : ∀ x ∈ l, x < 256) (h0 : 0 < n) (h4 : n ≤ 4000) (hat : at_ ≤ 65535) (hb0 : by_ ≠ 0) (hb1 : by_ < 256) (tab : crc.Tab w) :
    Calls Tryd.prog 7 #[.slice A n c, .int .u16 (at_ : Int), .int .u8 (by_ : Int)] w fun e w' => e = .returned (.bool true) ∧ Below w.heap.size w w' := by
  have HTab := Lib.hid tab
  have b0 : ((n : Int) == 0) = false := by simp; omega
  have b1 : ¬ 4000 < (n : Int) := by omega
  have b2 : ((by_ : Int) == 0) = false := by simp; omega
  have hnI : (n : Int) ≤ 4000 := by omega
  have h10 := putL_len10 n (by omega)
  have hp1 := putL_pos n
  obtain ⟨j, hj⟩ : ∃ j, at_ % n = j := ⟨_, rfl⟩
  have hjn : j < n := by rw [← hj]; exact Nat.mod_lt _ h0
  obtain ⟨x, hx⟩ : ∃ x, l[j]? = some x := ⟨l[j]'(by omega), List.getElem?_eq_getElem _⟩
  have hxb : x < 256 := hby x (List.mem_of_getElem? hx)
  have htu := turned l j x by_ hx
  have hfl := sectT_flip 9 l j x by_ (by omega) hx hby hb1 hb0
  rw [hl] at htu hfl
  have hsw := sect_w 9 A n c l w tab hr hl (by omega) hby
  have hsl : (sectL 9 l).length = 1 + (putL n).length + n + 4 := by unfold sectL; rw [List.length_cons, List.length_append, sealL_len, hl]; omega
  have hsb : ∀ y ∈ (sectL 9 l).set (1 + (putL n).length + j) (x ^^^ by_), y < 256 := by
    intro y hy
    rcases List.mem_or_eq_of_mem_set hy with h | h
    · unfold sectL at h
      simp only [List.mem_cons, List.mem_append] at h
      rcases h with rfl | h | h
      · omega
      · exact putL_byte _ y h
      · exact sealL_byte hby y h
    · have := Nat.xor_lt_two_pow (n := 8) hxb hb1; omega
  rw [← htu.2] at hfl
  have htu1 := htu.1
  generalize hah : 1 + (putL n).length = ah at *
  have hah2 : 2 ≤ (ah : Int) := by omega
  have hah11 : (ah : Int) ≤ 11 := by omega
  have hmod : (at_ : Int) % (n : Int) = (j : Int) := by rw [← hj]; exact (Int.natCast_emod _ _).symm
  have hjI : (j : Int) < (n : Int) := by omega
  have hn0I : 0 < (n : Int) := by omega
  have hxor := xor_u8 hxb hb1
  have hatI : (at_ : Int) ≤ 65535 := by omega
  have hw16 : IntKind.i64.wrap (at_ : Int) = (at_ : Int) := IntWalk.i64_in _ (by omega)
  have e1 : (ah : Int) + n + 4 - n = (ah : Int) + 4 := by omega
  have e2 : (ah : Int) + 4 - 4 = (ah : Int) := by omega
  have HSW := Lib.hid hsw; have HSL := Lib.hid hsl; have HTU := Lib.hid htu1; have HFL := Lib.hid hfl; have HSB := Lib.hid hsb
  clear hsw hsl hl hby h10 hp1 hr tab hb0 h0 h4 hj hjn hx hxb htu htu1 hfl hsb hah hat
  go_enter Tryd.func7, Tryd.ntmps7
  go_wp2_with fail
  refine HSW.out.mono ?_
  rintro e w1 ⟨v1, rfl, hown1, hb1'⟩
  have HB1 := Lib.hid hb1'
  rw [HSL.out] at hown1
  obtain ⟨g, c1, rfl, hc1⟩ := own_form hown1 (by omega)
  have HO1 := Lib.hid hown1
  clear hown1 hb1' hc1
  go_wp2_with fail
  refine (live3.live_any w1 (HTab.out.below HB1.out)).mono ?_
  rintro e w2 ⟨rfl, hb2⟩
  have hg := (HO1.out.lt g rfl)
  have HB2 := Lib.hid (then_ HB1.out (Nat.le_refl _) hb2)
  have hown2 := own_below HO1.out hb2
  have HO2 := Lib.hid hown2
  have hcell := own_at hown2 HTU.out
  have hfz := World.ownsRow.frozenAt hown2 (ah + j)
  have HG := Lib.hid hg.1
  clear hb2 HB1 HO1 hown2 hg
  go_wp2_with fail
  have hst := (HO2.out.stored (ah + j) (.int .u8 ((x ^^^ by_ : Nat) : Int))).1
  rw [B_set] at hst
  obtain ⟨A3, c3, hv3, hc3, _, hrd3⟩ := own_rd hst
  have HB3 := Lib.hid (HB2.out.setCell (p := ⟨g, ah + j, none⟩) HG.out (.int .u8 ((x ^^^ by_ : Nat) : Int)))
  simp only [Value.slice.injEq, true_and] at hv3
  obtain ⟨rfl, rfl⟩ := hv3
  have hlen : ((sectL 9 l).set (ah + j) (x ^^^ by_)).length = ah + n + 4 := by rw [List.length_set]; exact HSL.out
  refine (open_w (some ⟨g, 0, none⟩) (ah + n + 4) c1 _ _ hrd3 hlen (by omega) HSB.out).mono ?_
  rintro e w4 ⟨q, rfl, hq, hr4, hb4⟩
  have HB4 := Lib.hid (then_ HB3.out (Nat.le_refl _) hb4)
  have hqw : w.heap.size ≤ q := Nat.le_trans HB3.out.size hq
  have HR4 := Lib.hid hr4
  clear hst hrd3 hlen hr4 hb4 hq HB3 HO2 hcell hfz HB2
  go_wp2_with fail
  have k5 := sect_m q _ 9 w4 (HTab.out.below HB4.out) HR4.out
  dsimp only at k5
  rw [HFL.out] at k5
  refine k5.mono ?_
  rintro e w5 ⟨hx5, hr5, hb5⟩
  obtain ⟨_, rfl⟩ : _ ∧ e = .returned (.pointer none) := by
    rcases hx5 with ⟨_, h, _⟩ | h
    · cases h
    · exact h
  have HB5 := Lib.hid (HB4.out.trans (hb5.below hqw HB4.out.size))
  have HR5 := Lib.hid hr5
  clear k5 hr5 hb5 hx5 HB4 HR4
  go_wp2_with fail
  refine (fault_m q _ w5 HR5.out).mono ?_
  rintro e w6 ⟨rfl, hb6⟩
  have HB6 := Lib.hid (then_ HB5.out (Nat.le_refl _) hb6)
  have hfv : fv ((Rs.mk ((sectL 9 l).set (ah + j) (x ^^^ by_)) 0 0 0).go (Rr.mk ((0 : Nat), (0 : Nat)) 0 4 ah)) = .agg #[.int .i64 4, .int .i64 (ah : Int)] := rfl
  rw [hfv]
  clear hb6 hfv
  go_wp2
  go_ret
  exact ⟨rfl, HB6.out⟩

theorem walk (A : Option Addr) (n c : Nat) (l : List Nat) (at_ by_ : Int) (w : World) (hr : Rd w A (B l)) (hl : l.length = n) (_hc : n ≤ c) (hby : ∀ x ∈ l, x < 256) (hreach : n * 1 ≤ 140737488351232)
    (a0 : 0 ≤ at_) (a1 : at_ ≤ 65535) (b0 : 0 ≤ by_) (b1 : by_ ≤ 255) (tab : crc.Tab w) :
    Calls Tryd.prog 7 #[.slice A n c, .int .u16 at_, .int .u8 by_] w fun e w' => e = .returned (.bool true) ∧ Below w.heap.size w w' := by
  obtain ⟨at_, rfl⟩ := Int.eq_ofNat_of_zero_le a0
  obtain ⟨by_, rfl⟩ := Int.eq_ofNat_of_zero_le b0
  by_cases h : n = 0 ∨ 4000 < n ∨ by_ = 0
  · exact skip A n c at_ by_ w hreach tab h
  · exact flip A n c l at_ by_ w hr hl hby (by omega) (by omega) (by omega) (by omega) (by omega) tab
end Go.Proofs.YtbapalgikfllkaaDoor.wireFlips

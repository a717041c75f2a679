/-
  The walk of WireBack: a text, a number, and one with a sign, written into a section, are read from it as they were.
-/
import Derived.Test.YtbapalgikfllkaaDoorLive3
import Derived.Test.YtbapalgikfllkaaDoorBackNum
namespace Go.Proofs.YtbapalgikfllkaaDoor.wireBack
open Go.RowKit
open Go.Proofs.YtbapalgikfllkaaDoor.num Go.Proofs.YtbapalgikfllkaaDoor.words Go.Proofs.YtbapalgikfllkaaDoor.rdnum Go.Proofs.YtbapalgikfllkaaDoor.rdr Go.Proofs.YtbapalgikfllkaaDoor.give Go.Proofs.YtbapalgikfllkaaDoor.meth Go.Proofs.YtbapalgikfllkaaDoor.sealing Go.Proofs.YtbapalgikfllkaaDoor.write

theorem endT_end (l : List Nat) (p : Nat) (h : p = l.length) : endT l p = ⟨1, p, 0, 0⟩ := by unfold endT; rw [if_neg (by omega)]
/-- all that is read of the section -/
theorem all (x : List Nat) (n z : Nat) (hx : x.length ≤ 64) (hn : n ≤ 65535) (hz : z < 18446744073709551616) :
    ∃ (L : List Nat) (p0 p1 p2 p3 m t : Nat), sectT (sectL 5 (textL x ++ putL n ++ putL z)) 0 5 = ⟨(p0, m), t, 0, 0⟩ ∧ (sectL 5 (textL x ++ putL n ++ putL z)).take (p0 + m) = L ∧ endT (sectL 5 (textL x ++ putL n ++ putL z)) t = ⟨1, t, 0, 0⟩ ∧
      textT L p0 = ⟨x, p1, 0, 0⟩ ∧ numT L p1 65535 = ⟨n, p2, 0, 0⟩ ∧ lebT L p2 = ⟨z, p3, 0, 0⟩ ∧ endT L p3 = ⟨1, p3, 0, 0⟩ := by
  have hlen : (textL x ++ putL n ++ putL z).length ≤ 65536 := by
    have h1 := putL_len10 x.length (by omega)
    have h2 := putL_len10 n (by omega)
    have h3 := putL_len10 z hz
    unfold textL; simp only [List.length_append]; omega
  generalize hb : textL x ++ putL n ++ putL z = b at *
  have hs := sectT_put 5 b hlen
  have htk := sect_take 5 b (fourL (crcnum.sumL b)) b.length rfl
  have hL : 5 :: (putL b.length ++ b) = (5 :: putL b.length) ++ (putL x.length ++ (x ++ (putL n ++ putL z))) := by rw [← hb]; unfold textL; simp
  have hin : ∃ p1 p2 p3, textT (5 :: (putL b.length ++ b)) (1 + (putL b.length).length) = ⟨x, p1, 0, 0⟩ ∧ numT (5 :: (putL b.length ++ b)) p1 65535 = ⟨n, p2, 0, 0⟩ ∧ lebT (5 :: (putL b.length ++ b)) p2 = ⟨z, p3, 0, 0⟩ ∧ endT (5 :: (putL b.length ++ b)) p3 = ⟨1, p3, 0, 0⟩ := by
    have hp0 : 1 + (putL b.length).length = (5 :: putL b.length).length := by simp; omega
    rw [hL, hp0]
    generalize 5 :: putL b.length = P
    have e1 : P ++ (putL x.length ++ (x ++ (putL n ++ putL z))) = (P ++ putL x.length ++ x) ++ (putL n ++ putL z) := by simp
    have e2 : (P ++ putL x.length ++ x) ++ (putL n ++ putL z) = (P ++ putL x.length ++ x ++ putL n) ++ (putL z ++ []) := by simp
    have q1 : P.length + (putL x.length).length + x.length = (P ++ putL x.length ++ x).length := by simp; omega
    have q2 : (P ++ putL x.length ++ x).length + (putL n).length = (P ++ putL x.length ++ x ++ putL n).length := by simp; omega
    refine ⟨P.length + (putL x.length).length + x.length, (P ++ putL x.length ++ x).length + (putL n).length, (P ++ putL x.length ++ x ++ putL n).length + (putL z).length, textT_put P _ x hx, ?_, ?_, ?_⟩
    · rw [q1, e1]; exact numT_put _ _ n 65535 (by omega) (by omega)
    · rw [e1, q2, e2]; exact lebT_put _ _ z hz
    · rw [e1, e2]; exact endT_end _ _ (by simp; omega)
  obtain ⟨p1, p2, p3, g1, g2, g3, g4⟩ := hin
  exact ⟨5 :: (putL b.length ++ b), 1 + (putL b.length).length, p1, p2, p3, b.length, 1 + (putL b.length).length + b.length + 4, hs, htk, endT_end _ _ (by unfold sectL; rw [List.length_cons, List.length_append, sealL_len]; omega), g1, g2, g3, g4⟩

set_option maxRecDepth 100000 in
set_option maxHeartbeats 800000 in
theorem walk (s : ByteArray) (n k : Int) (w : World) (_hs : s.size ≤ 140737488351232) (n0 : 0 ≤ n) (n1 : n ≤ 65535) (k0 : -9223372036854775808 ≤ k) (k1 : k ≤ 9223372036854775807) (tab : crc.Tab w) :
    Calls Tryd.prog 4 #[.string s, .int .u16 n, .int .i64 k] w fun e w' => e = .returned (.bool true) ∧ Below w.heap.size w w' := by
  by_cases h64 : 64 < s.size
  · have hI : 64 < (s.size : Int) := by omega
    have HTab := Lib.hid tab
    clear h64 tab
    have hnI : (s.size : Int) ≤ 140737488351232 := by omega
    go_enter Tryd.func4, Tryd.ntmps4
    go_wp2_with fail
    refine (live3.live_any w HTab.out).mono ?_
    rintro e w1 ⟨rfl, hb1⟩
    have HB1 := Lib.hid hb1
    clear hb1
    go_wp2
    go_ret
    exact ⟨rfl, HB1.out⟩
  · have hI : ¬ 64 < (s.size : Int) := by omega
    have hnI : (s.size : Int) ≤ 140737488351232 := by omega
    obtain ⟨n, rfl⟩ := Int.eq_ofNat_of_zero_le n0
    have hzb := small.zig_bd k k0 k1
    obtain ⟨z, hz⟩ := Int.eq_ofNat_of_zero_le hzb.1
    rw [hz] at hzb
    have hzz := small.zag_zig k
    rw [hz] at hzz
    obtain ⟨i0, hi0, hz0, hz1, hz2⟩ := info_parts put.info5
    have hall := all (N s) n z (by rw [N_len]; omega) (by omega) (by omega)
    have hw1 : IntKind.u64.wrap (n : Int) = n := by rw [IntKind.wrap_u64]; omega
    have hw2 : IntKind.i64.wrap (n : Int) = n := IntWalk.i64_in _ (by omega)
    have hlT : (textL (N s)).length ≤ 74 := by unfold textL; rw [List.length_append, N_len]; have := putL_len10 s.size (by omega); omega
    have hlN := putL_len10 n (by omega)
    have hlZ := putL_len10 z (by omega)
    have hTx := fun w1 => text_w s w1 (by omega)
    have hPn := fun w1 => small.rput_any n w1 (by omega)
    have hPz := fun w1 => small.rput_any z w1 (by omega)
    have hZg := fun w1 => small.rzig_any k w1 k0 k1
    rw [hz] at hZg
    have HAll := Lib.hid hall; have HTab := Lib.hid tab; have HZZ := Lib.hid hzz
    have HLT := Lib.hid hlT; have HLN := Lib.hid hlN; have HLZ := Lib.hid hlZ; have HTx := Lib.hid hTx; have HPn := Lib.hid hPn; have HPz := Lib.hid hPz; have HZg := Lib.hid hZg
    clear hall tab hzz hlT hlN hlZ hTx hPn hPz hZg hz h64 hzb
    go_enter Tryd.func4, Tryd.ntmps4
    go_wp2_with fail
    refine (HTx.out _).mono ?_
    rintro e w1 ⟨v1, rfl, hown1, hb1⟩
    obtain ⟨A1, c1, rfl, _, _, hrd1⟩ := own_rd hown1
    have hsz1 := hb1.size
    have HB1 := Lib.hid hb1
    clear hown1 hb1
    go_wp2_with (at_builtin; refine wpList_app _ rfl (.tmp 17) (.tmp 19) _ rfl w.heap.size 5 i0 _ 1 1 Tryd.underlying22 hi0 hz0 hz1 hz2 rfl (by omega) (.slice none 0 0) 0 [] rfl (World.ownsRow_nil _ _ _ _) A1 (textL (N s)).length c1 (B (textL (N s))) rfl (by rw [B_len]; omega) hrd1 (B_one _) (by have := HLT.out; simp only [maxLen]; omega) (by have := HLT.out; omega) hsz1 ?_; intro v2 w2 hown2 hg2 hb2 hat2; clear hg2 hat2)
    rw [Nat.zero_add, List.nil_append] at hown2
    have HB2 := Lib.hid (HB1.out.trans hb2)
    clear hb2 hrd1 HB1 hsz1
    refine (HPn.out _).mono ?_
    rintro e w3 ⟨v3, rfl, hown3, hb3⟩
    obtain ⟨A3, c3, rfl, _, _, hrd3⟩ := own_rd hown3
    have HB3 := Lib.hid (then_ HB2.out (Nat.le_refl _) hb3)
    have hown23 := own_below hown2 hb3
    have hsz3 := HB3.out.size
    clear hown3 hb3 hown2 HB2
    go_wp2_with (at_builtin; refine wpList_app _ rfl (.tmp 21) (.tmp 24) _ rfl w.heap.size 5 i0 _ 1 1 Tryd.underlying22 hi0 hz0 hz1 hz2 rfl (by omega) v2 (textL (N s)).length (B (textL (N s))) rfl hown23 A3 (putL n).length c3 (B (putL n)) rfl (by rw [B_len]; omega) hrd3 (B_one _) (by have := HLT.out; have := HLN.out; simp only [maxLen]; omega) (by have := HLT.out; have := HLN.out; omega) hsz3 ?_; intro v4 w4 hown4 hg4 hb4 hat4; clear hg4 hat4)
    have HB4 := Lib.hid (HB3.out.trans hb4)
    clear hb4 hrd3 HB3 hsz3 hown23
    refine (HZg.out _).mono ?_
    rintro e w5 ⟨rfl, rfl⟩
    go_wp2_with fail
    refine (HPz.out _).mono ?_
    rintro e w6 ⟨v6, rfl, hown6, hb6⟩
    obtain ⟨A6, c6, rfl, _, _, hrd6⟩ := own_rd hown6
    have HB6 := Lib.hid (then_ HB4.out (Nat.le_refl _) hb6)
    have hown46 := own_below hown4 hb6
    have hsz6 := HB6.out.size
    clear hown6 hb6 hown4 HB4
    go_wp2_with (at_builtin; refine wpList_app _ rfl (.tmp 26) (.tmp 29) _ rfl w.heap.size 5 i0 _ 1 1 Tryd.underlying22 hi0 hz0 hz1 hz2 rfl (by omega) v4 _ (B (textL (N s)) ++ B (putL n)) rfl hown46 A6 (putL z).length c6 (B (putL z)) rfl (by rw [B_len]; omega) hrd6 (B_one _) (by have := HLT.out; have := HLN.out; have := HLZ.out; simp only [maxLen]; omega) (by have := HLT.out; have := HLN.out; have := HLZ.out; omega) hsz6 ?_; intro v7 w7 hown7 hg7 hb7 hat7; clear hg7 hat7)
    have HB7 := Lib.hid (HB6.out.trans hb7)
    clear hb7 hrd6 HB6 hsz6 hown46
    rw [← B_app, ← B_app] at hown7
    have hbl : (textL (N s) ++ putL n ++ putL z).length = (textL (N s)).length + (putL n).length + (putL z).length := by simp; omega
    have hby : ∀ x ∈ textL (N s) ++ putL n ++ putL z, x < 256 := by
      intro x hx
      unfold textL at hx
      simp only [List.mem_append] at hx
      rcases hx with ((hx | hx) | hx) | hx
      · exact putL_byte _ x hx
      · exact N_byte s x hx
      · exact putL_byte _ x hx
      · exact putL_byte _ x hx
    have hsm : (textL (N s)).length + (putL n).length + (putL z).length ≤ 1000 := by have := HLT.out; have := HLN.out; have := HLZ.out; omega
    obtain ⟨L, p0, p1, p2, p3, m, t, e1, e2, e3, e4, e5, e6, e7⟩ := HAll.out
    generalize textL (N s) ++ putL n ++ putL z = b at *
    obtain ⟨A7, c7, rfl, _, _, hrd7⟩ := own_rd hown7
    have hsw := sect_w 5 A7 ((textL (N s)).length + (putL n).length + (putL z).length) c7 b w7 (HTab.out.below HB7.out) hrd7 hbl (by omega) hby
    have hsl : (sectL 5 b).length ≤ 140737488355328 := by unfold sectL; rw [List.length_cons, List.length_append, sealL_len]; have := putL_len10 b.length (by omega); omega
    have hsb : ∀ x ∈ sectL 5 b, x < 256 := by
      intro x hx
      unfold sectL at hx
      simp only [List.mem_cons, List.mem_append] at hx
      rcases hx with rfl | hx | hx
      · omega
      · exact putL_byte _ x hx
      · exact sealL_byte hby x hx
    have HSL := Lib.hid hsl; have HSB := Lib.hid hsb; have HSW := Lib.hid hsw
    have E1 := Lib.hid e1; have E2 := Lib.hid e2; have E3 := Lib.hid e3; have E4 := Lib.hid e4; have E5 := Lib.hid e5; have E6 := Lib.hid e6; have E7 := Lib.hid e7
    clear hsl hsb hsw e1 e2 e3 e4 e5 e6 e7 hown7 hrd7 hbl hby hsm HAll
    go_wp2_with fail
    refine HSW.out.mono ?_
    rintro e w8 ⟨v8, rfl, hown8, hb8⟩
    obtain ⟨A8, c8, rfl, _, _, hrd8⟩ := own_rd hown8
    have HB8 := Lib.hid (then_ HB7.out (Nat.le_refl _) hb8)
    have HR8 := Lib.hid hrd8
    clear hown8 hb8 hrd8 HB7
    go_wp2_with fail
    refine (open_w A8 _ c8 (sectL 5 b) w8 HR8.out rfl HSL.out HSB.out).mono ?_
    rintro e w9 ⟨g, rfl, hg, hr9, hb9⟩
    have HB9 := Lib.hid (then_ HB8.out (Nat.le_refl _) hb9)
    have hgw : w.heap.size ≤ g := Nat.le_trans HB8.out.size hg
    have HR9 := Lib.hid hr9
    clear hr9 hb9 HB8 hg HR8
    go_wp2_with fail
    have k1 := sect_m g _ 5 w9 (HTab.out.below HB9.out) HR9.out
    dsimp only at k1
    rw [E1.out] at k1
    refine k1.mono ?_
    rintro e w10 ⟨hx, hr10, hb10⟩
    rcases hx with ⟨_, _, q, rfl, hq, hrq⟩ | ⟨hx, _⟩
    rotate_left
    · rcases hx with hx | hx
      · exact absurd rfl hx
      · exact absurd rfl hx
    dsimp only at hrq
    rw [E2.out] at hrq
    rw [show (Rs.mk (sectL 5 b) 0 0 0).go (Rr.mk (p0, m) t 0 0) = ⟨sectL 5 b, t, 0, 0⟩ from rfl] at hr10
    have HNE := Lib.hid (show q ≠ g by have := HR9.out.lt; omega)
    have hqw : w.heap.size ≤ q := Nat.le_trans HB9.out.size hq
    have HB10 := Lib.hid (HB9.out.trans (hb10.below hgw HB9.out.size))
    have HQ := Lib.hid hrq; have HR10 := Lib.hid hr10
    clear k1 hrq hr10 hb10 hq HB9 HR9
    go_wp2_with fail
    refine (live3.live_any w10 (HTab.out.below HB10.out)).mono ?_
    rintro e w11 ⟨rfl, hb11⟩
    have HB11 := Lib.hid (then_ HB10.out (Nat.le_refl _) hb11)
    have HQ11 := Lib.hid (HQ.out.below hb11); have HR11 := Lib.hid (HR10.out.below hb11)
    clear hb11 HB10 HQ HR10
    go_wp2_with fail
    have k2 := text_m q _ w11 HQ11.out
    dsimp only at k2
    rw [E4.out] at k2
    refine k2.mono ?_
    rintro e w12 ⟨rfl, hq12, hb12⟩
    rw [show S ((Rs.mk L p0 0 0).ans (Rr.mk (N s) p1 0 0) []) = .string s from S_N s]
    rw [show (Rs.mk L p0 0 0).go (Rr.mk (N s) p1 0 0) = ⟨L, p1, 0, 0⟩ from rfl] at hq12
    have HB12 := Lib.hid (HB11.out.trans (hb12.below hqw HB11.out.size))
    have HR12 := Lib.hid (HR11.out.kept hb12 HNE.out.symm HQ11.out.no)
    have HQ12 := Lib.hid hq12
    clear k2 hq12 hb12 HB11 HR11 HQ11
    go_wp2_with fail
    have k3 := num_m q _ 65535 w12 HQ12.out (by omega) (by omega)
    dsimp only at k3
    rw [E5.out] at k3
    refine k3.mono ?_
    rintro e w13 ⟨rfl, hq13, hb13⟩
    rw [show (fun x : Nat => Value.int .i64 (x : Int)) ((Rs.mk L p1 0 0).ans (Rr.mk n p2 0 0) 0) = .int .i64 (n : Int) from rfl]
    rw [show (Rs.mk L p1 0 0).go (Rr.mk n p2 0 0) = ⟨L, p2, 0, 0⟩ from rfl] at hq13
    have HB13 := Lib.hid (HB12.out.trans (hb13.below hqw HB12.out.size))
    have HR13 := Lib.hid (HR12.out.kept hb13 HNE.out.symm HQ12.out.no)
    have HQ13 := Lib.hid hq13
    clear k3 hq13 hb13 HB12 HR12 HQ12
    go_wp2_with fail
    have k4 := signed_m q _ w13 HQ13.out
    dsimp only at k4
    rw [E6.out] at k4
    refine k4.mono ?_
    rintro e w14 ⟨rfl, hq14, hb14⟩
    rw [show (fun x : Nat => Value.int .i64 (small.zag (x : Int))) ((Rs.mk L p2 0 0).ans (Rr.mk z p3 0 0) 0) = .int .i64 k by rw [← HZZ.out]; rfl]
    rw [show (Rs.mk L p2 0 0).go (Rr.mk z p3 0 0) = ⟨L, p3, 0, 0⟩ from rfl] at hq14
    have HB14 := Lib.hid (HB13.out.trans (hb14.below hqw HB13.out.size))
    have HR14 := Lib.hid (HR13.out.kept hb14 HNE.out.symm HQ13.out.no)
    have HQ14 := Lib.hid hq14
    clear k4 hq14 hb14 HB13 HR13 HQ13
    go_wp2_with fail
    have k5 := end_m q _ w14 HQ14.out
    dsimp only at k5
    rw [E7.out] at k5
    refine k5.mono ?_
    rintro e w15 ⟨rfl, hq15, hb15⟩
    rw [show (fun x : Nat => Value.bool (x == 1)) ((Rs.mk L p3 0 0).ans (Rr.mk 1 p3 0 0) 0) = .bool true from rfl]
    have HB15 := Lib.hid (HB14.out.trans (hb15.below hqw HB14.out.size))
    have HR15 := Lib.hid (HR14.out.kept hb15 HNE.out.symm HQ14.out.no)
    clear k5 hq15 hb15 HB14 HR14 HQ14
    go_wp2_with fail
    have k6 := end_m g _ w15 HR15.out
    dsimp only at k6
    rw [E3.out] at k6
    refine k6.mono ?_
    rintro e w16 ⟨rfl, hq16, hb16⟩
    rw [show (fun x : Nat => Value.bool (x == 1)) ((Rs.mk (sectL 5 b) t 0 0).ans (Rr.mk 1 t 0 0) 0) = .bool true from rfl]
    have HB16 := Lib.hid (HB15.out.trans (hb16.below hgw HB15.out.size))
    clear k6 hq16 hb16 HB15 HR15
    go_wp2
    go_ret
    exact ⟨rfl, HB16.out⟩
end Go.Proofs.YtbapalgikfllkaaDoor.wireBack

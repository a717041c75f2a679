/-
 GlobMatches: the law's walk.
-/
import Derived.Test.YtcaaljioennnnaaGlobPlainW
import Derived.Test.YtcaaljioennnnaaGlobV
namespace Go.Proofs.Ytcaaljioennnnaa.globMatches
open Go.RowKit
open Go.Proofs.Ytcaaljioennnnaa.words Go.Proofs.Ytcaaljioennnnaa.glob
set_option linter.all false
theorem cut_next {l : List ByteArray} {k : Nat} {x : ByteArray} (h : l[k]? = some x) : (l.take (k + 1)).map cutB = (l.take k).map cutB ++ [cutB x] := by
 rw [List.take_add_one, h, List.map_append]; rfl
set_option maxRecDepth 100000 in
set_option maxHeartbeats 8000000 in
theorem walk (p0 s0 : ByteArray) (A : Option Addr) (c : Nat) (l : List ByteArray) (w : World) (hp : p0.size ≤ 140737488351232) (hs : s0.size ≤ 140737488351232) (hr0 : Rd w A (texts.S l)) (hc : l.length ≤ c) (hl : l.length * 16 ≤ 140737488351232) (hsz : ∀ x ∈ l, x.size ≤ 140737488351232) :
  Calls Try.prog 3 #[.string p0, .string s0, .slice A l.length c] w fun e w' => e = .returned (.bool true) ∧ Below w.heap.size w w' := by
 have C0 := Lib.hid (fun w => cut_w p0 w hp)
 have p8 := cutB_size p0
 obtain ⟨p, hpc⟩ : ∃ p, p = cutB p0 := ⟨_, rfl⟩
 rw [← hpc] at C0 p8
 have C1 := Lib.hid (fun w => cut_w s0 w hs)
 have s8 := cutB_size s0
 obtain ⟨s, hsc⟩ : ∃ s, s = cutB s0 := ⟨_, rfl⟩
 rw [← hsc] at C1 s8
 clear hpc hp hsc hs
 have p8I : (p.size : Int) ≤ 80 := by omega
 have s8I : (s.size : Int) ≤ 80 := by omega
 have hr : Rd w A (TX l) := hr0
 have HLV := Lib.hid (fun w => live_w w)
 have R1 := Lib.hid (fun w => right_w p w (by omega)); have R2 := Lib.hid (fun w => right_r p w (by omega))
 have P1 := Lib.hid (fun w => plain_w p w (by omega)); have P2 := Lib.hid (fun w => plain_r p w (by omega))
 have M1 := Lib.hid (fun w => match_w p s w (by omega) (by omega)); have M2 := Lib.hid (fun w => match_r p s w (by omega) (by omega))
 have L1 := Lib.hid (fun w => least_w p w (by omega)); have L2 := Lib.hid (fun w => least_r p w (by omega))
 have HA1 := Lib.hid (fun A c (l : List ByteArray) w hl hz hr => among_w p A c l w (by omega) hl hz hr)
 have HA2 := Lib.hid (fun A c (l : List ByteArray) w hl hz hr => among_r p A c l w (by omega) hl hz hr)
 have HCW := Lib.hid (fun x (hx : x ∈ l) w => cut_w x w (hsz x hx))
 obtain ⟨b1, hb1⟩ : ∃ b1, b1 = rightG (lb p) := ⟨_, rfl⟩
 obtain ⟨b2, hb2⟩ : ∃ b2, b2 = plainL (lb p) := ⟨_, rfl⟩
 obtain ⟨b3, hb3⟩ : ∃ b3, b3 = mat (lb p) (lb s) := ⟨_, rfl⟩
 obtain ⟨n4, hn4⟩ : ∃ n4, n4 = leastL (lb p) := ⟨_, rfl⟩
 rw [← hb1] at R1 R2; rw [← hb2] at P1 P2; rw [← hb3] at M1 M2; rw [← hn4] at L1 L2
 have q1 : (b1 == b1) = true := by simp
 have q2 : (b2 == b2) = true := by simp
 have q3 : (b3 == b3) = true := by simp
 have q4 : ((n4 : Int) == (n4 : Int)) = true := by simp
 clear hb1 hb2 hb3 hn4
 obtain ⟨i0, hi, hz0, hz1, hz2⟩ := info_parts' infoS
 obtain ⟨n, hn⟩ : ∃ n, n = l.length := ⟨_, rfl⟩
 have hnI : (n : Int) ≤ 140737488351232 := by omega
 have HN := Lib.hid hn
 rw [← hn]
 have HR := Lib.hid hr
 have B0 := Lib.hid (Below.refl w.heap.size w)
 clear hr hr0 hc hl hsz hn
 go_enter Try.func3, Try.ntmps3
 go_wp2_with fail
 refine (C0.out _).mono ?_
 rintro e x1 ⟨rfl, hw⟩; subst hw
 clear C0
 go_wp2_with fail
 refine (C1.out _).mono ?_
 rintro e x1 ⟨rfl, hw⟩; subst hw
 clear C1
 go_wp2
 go_loopw [7, 8] (fun v i wr => ∃ k : Nat, i = .int .i64 (k : Int) ∧ k ≤ n ∧ k ≤ 20 ∧ wr.ownsRow x1.heap.size 9 1 v k (TX ((l.take k).map cutB)) ∧ Below x1.heap.size x1 wr) (fun _ i _ => n - (intOf i).toNat)
 case atStart => exact ⟨0, rfl, Nat.zero_le _, by omega, World.ownsRow_nil _ _ _ _, Below.refl _ _⟩
 case round =>
  obtain ⟨k, rfl, hk, hk20, hown, hb⟩ := hrel
  have K0 := Lib.hid hb
  have HO := Lib.hid hown
  by_cases hlt : k < n ∧ k < 20
  ·have hltI : (k : Int) < (n : Int) := by omega
   have hltJ : (k : Int) < 20 := by omega
   obtain ⟨x, hx⟩ : ∃ x, l[k]? = some x := ⟨l[k]'(by rw [← HN.out]; exact hlt.1), List.getElem?_eq_getElem _⟩
   obtain ⟨a, ha, -, hcell⟩ := (HR.out.below hb).at_ (TX_at hx)
   have HC := Lib.hid (fun w => HCW.out x (List.mem_of_getElem? hx) w)
   have HX := Lib.hid (cut_next hx)
   have hle : k < n := hlt.1
   have hle2 : k < 20 := hlt.2
   subst ha
   clear hb hown hx hlt
   go_wp2_with fail
   refine (HC.out _).mono ?_
   rintro e w2 ⟨rfl, hw⟩; subst hw
   clear HC
   go_wp2_with (at_builtin; refine wpList_app _ rfl (.tmp 23) (.tmp 29) _ rfl x1.heap.size 9 i0 _ 1 16 Try.underlying22 hi hz0 hz1 hz2 rfl (by decide) _ k (TX ((l.take k).map cutB)) rfl (HO.out.alloc _) _ 1 1 [.string (cutB x)] rfl rfl (rd_blk (heap_alloc_new w2 _) (k := 1) rfl) (by simp [Value.oneCell']) (by unfold maxLen; omega) (by omega) (by have := K0.out.size; simp; omega) ?_; intro v' w3 hown' hgrow hB1 hob)
   have HO2 := Lib.hid hown'
   have K2 := Lib.hid (K0.out.trans (below_alloc' K0.out.size hB1))
   clear hown' hgrow hB1 hob
   go_wp2
   go_roundw
   case rel => exact ⟨k + 1, by go_num, hle, hle2, by rw [HX.out, TX_app]; exact HO2.out, K2.out⟩
   case measure => simp [intOf]; omega
  ·obtain ⟨L, hL⟩ : ∃ L, L = (l.take k).map cutB := ⟨_, rfl⟩
   have hll : L.length = k := by rw [hL, List.length_map, List.length_take, ← HN.out]; omega
   have hlz : ∀ x ∈ L, x.size ≤ 1000 := by
    intro x hx
    rw [hL] at hx
    obtain ⟨y, -, rfl⟩ := List.mem_map.1 hx
    have := cutB_size y; omega
   rw [← hL] at hown
   obtain ⟨A1, c1, rfl, -, -, hrd⟩ := own_rd hown
   have RD0 := Lib.hid hrd
   have HLL := Lib.hid hll; have HLZ := Lib.hid hlz
   have G1 := Lib.hid (fun w hr => HA1.out A1 c1 L w (by rw [HLL.out]; omega) HLZ.out hr)
   have G2 := Lib.hid (fun w hr => HA2.out A1 c1 L w (by rw [HLL.out]; omega) HLZ.out hr)
   rw [HLL.out] at G1 G2
   obtain ⟨F, hF⟩ : ∃ F, F = amongL (lb p) L := ⟨_, rfl⟩
   have hFl : F.length ≤ 20 := by rw [hF]; exact Nat.le_trans (among_len _ _) (by rw [hll]; exact hk20)
   unfold AmongP at G1 G2
   rw [← hF] at G1 G2
   have ST := Lib.hid (fun (A C : Option Addr) (c d : Nat) (w : World) h1 h2 => texts.texts_same A C F.length c d F w h1 h2 rfl (by omega))
   have HB1 := Lib.hid (B0.out.trans (K0.out.mono B0.out.size))
   have hend : ¬ ((k : Int) < (n : Int) ∧ (k : Int) < 20) := by omega
   have hLB := Lib.hid hk20
   clear hb hL hF hown hrd hll hlz HR HN HCW HA1 HA2 HO
   by_cases hkn : k < n
   ·have c1 : (k : Int) < (n : Int) := by omega
    have c2 : ¬ (k : Int) < 20 := by omega
    clear hend hlt hkn
    have B1 := Lib.hid HB1.out
    clear HB1
    go_wp2_with fail
    refine (HLV.out _).mono ?_
    rintro e z2 ⟨rfl, hb⟩
    have B2 := Lib.hid (then' B1.out hb)
    have RD1 := Lib.hid (RD0.out.below hb)
    clear hb HLV RD0
    go_wp2_with fail
    refine (R1.out _).mono ?_
    rintro e z3 ⟨rfl, hb⟩
    have B3 := Lib.hid (show Below _ _ z3 from by rw [hb]; exact B2.out)
    have RD2 := Lib.hid (show Rd z3 A1 (TX L) from by rw [hb]; exact RD1.out)
    clear hb R1 RD1
    go_wp2_with fail
    refine (R2.out _).mono ?_
    rintro e z4 ⟨rfl, hb⟩
    have B4 := Lib.hid (show Below _ _ z4 from by rw [hb]; exact B3.out)
    have RD3 := Lib.hid (show Rd z4 A1 (TX L) from by rw [hb]; exact RD2.out)
    clear hb R2 RD2
    go_wp2_with fail
    refine (P1.out _).mono ?_
    rintro e z5 ⟨rfl, hb⟩
    have B5 := Lib.hid (then' B4.out hb)
    have RD4 := Lib.hid (RD3.out.below hb)
    clear hb P1 RD3
    go_wp2_with fail
    refine (P2.out _).mono ?_
    rintro e z6 ⟨rfl, hb⟩
    have B6 := Lib.hid (show Below _ _ z6 from by rw [hb]; exact B5.out)
    have RD5 := Lib.hid (show Rd z6 A1 (TX L) from by rw [hb]; exact RD4.out)
    clear hb P2 RD4
    go_wp2_with fail
    refine (M1.out _).mono ?_
    rintro e z7 ⟨rfl, hb⟩
    have B7 := Lib.hid (then' B6.out hb)
    have RD6 := Lib.hid (RD5.out.below hb)
    clear hb M1 RD5
    go_wp2_with fail
    refine (M2.out _).mono ?_
    rintro e z8 ⟨rfl, hb⟩
    have B8 := Lib.hid (then' B7.out hb)
    have RD7 := Lib.hid (RD6.out.below hb)
    clear hb M2 RD6
    go_wp2_with fail
    refine (L1.out _).mono ?_
    rintro e z9 ⟨rfl, hb⟩
    have B9 := Lib.hid (show Below _ _ z9 from by rw [hb]; exact B8.out)
    have RD8 := Lib.hid (show Rd z9 A1 (TX L) from by rw [hb]; exact RD7.out)
    clear hb L1 RD7
    go_wp2_with fail
    refine (L2.out _).mono ?_
    rintro e z10 ⟨rfl, hb⟩
    have B10 := Lib.hid (show Below _ _ z10 from by rw [hb]; exact B9.out)
    have RD9 := Lib.hid (show Rd z10 A1 (TX L) from by rw [hb]; exact RD8.out)
    clear hb L2 RD8
    go_wp2_with fail
    refine (G1.out _ RD9.out).mono ?_
    rintro e y1 ⟨v1, rfl, hown1, hb⟩
    have C1 := Lib.hid (then' B10.out hb)
    have RE := Lib.hid (RD9.out.below hb)
    have HO1 := Lib.hid hown1
    clear hb hown1 G1 RD9 B10
    go_wp2_with fail
    refine (G2.out _ RE.out).mono ?_
    rintro e y2 ⟨v2, rfl, hown2, hb⟩
    have C2 := Lib.hid (then' C1.out hb)
    obtain ⟨X1, d1, rfl, -, -, e1⟩ := own_rd (own_below HO1.out hb)
    obtain ⟨X2, d2, rfl, -, -, e2⟩ := own_rd hown2
    have E1 := Lib.hid e1; have E2 := Lib.hid e2
    clear hb hown2 e1 e2 G2 RE HO1 C1
    go_wp2_with fail
    refine (ST.out _ _ _ _ _ E1.out E2.out).mono ?_
    rintro e y3 ⟨rfl, qq, rfl⟩
    have C3 := Lib.hid (over (q := qq) C2.out)
    clear ST E1 E2 C2
    go_wp2
    go_ret
    exact ⟨by simp, C3.out⟩
   ·have c1 : ¬ (k : Int) < (n : Int) := by omega
    clear hend hlt hkn
    have B1 := Lib.hid HB1.out
    clear HB1
    go_wp2_with fail
    refine (HLV.out _).mono ?_
    rintro e z2 ⟨rfl, hb⟩
    have B2 := Lib.hid (then' B1.out hb)
    have RD1 := Lib.hid (RD0.out.below hb)
    clear hb HLV RD0
    go_wp2_with fail
    refine (R1.out _).mono ?_
    rintro e z3 ⟨rfl, hb⟩
    have B3 := Lib.hid (show Below _ _ z3 from by rw [hb]; exact B2.out)
    have RD2 := Lib.hid (show Rd z3 A1 (TX L) from by rw [hb]; exact RD1.out)
    clear hb R1 RD1
    go_wp2_with fail
    refine (R2.out _).mono ?_
    rintro e z4 ⟨rfl, hb⟩
    have B4 := Lib.hid (show Below _ _ z4 from by rw [hb]; exact B3.out)
    have RD3 := Lib.hid (show Rd z4 A1 (TX L) from by rw [hb]; exact RD2.out)
    clear hb R2 RD2
    go_wp2_with fail
    refine (P1.out _).mono ?_
    rintro e z5 ⟨rfl, hb⟩
    have B5 := Lib.hid (then' B4.out hb)
    have RD4 := Lib.hid (RD3.out.below hb)
    clear hb P1 RD3
    go_wp2_with fail
    refine (P2.out _).mono ?_
    rintro e z6 ⟨rfl, hb⟩
    have B6 := Lib.hid (show Below _ _ z6 from by rw [hb]; exact B5.out)
    have RD5 := Lib.hid (show Rd z6 A1 (TX L) from by rw [hb]; exact RD4.out)
    clear hb P2 RD4
    go_wp2_with fail
    refine (M1.out _).mono ?_
    rintro e z7 ⟨rfl, hb⟩
    have B7 := Lib.hid (then' B6.out hb)
    have RD6 := Lib.hid (RD5.out.below hb)
    clear hb M1 RD5
    go_wp2_with fail
    refine (M2.out _).mono ?_
    rintro e z8 ⟨rfl, hb⟩
    have B8 := Lib.hid (then' B7.out hb)
    have RD7 := Lib.hid (RD6.out.below hb)
    clear hb M2 RD6
    go_wp2_with fail
    refine (L1.out _).mono ?_
    rintro e z9 ⟨rfl, hb⟩
    have B9 := Lib.hid (show Below _ _ z9 from by rw [hb]; exact B8.out)
    have RD8 := Lib.hid (show Rd z9 A1 (TX L) from by rw [hb]; exact RD7.out)
    clear hb L1 RD7
    go_wp2_with fail
    refine (L2.out _).mono ?_
    rintro e z10 ⟨rfl, hb⟩
    have B10 := Lib.hid (show Below _ _ z10 from by rw [hb]; exact B9.out)
    have RD9 := Lib.hid (show Rd z10 A1 (TX L) from by rw [hb]; exact RD8.out)
    clear hb L2 RD8
    go_wp2_with fail
    refine (G1.out _ RD9.out).mono ?_
    rintro e y1 ⟨v1, rfl, hown1, hb⟩
    have C1 := Lib.hid (then' B10.out hb)
    have RE := Lib.hid (RD9.out.below hb)
    have HO1 := Lib.hid hown1
    clear hb hown1 G1 RD9 B10
    go_wp2_with fail
    refine (G2.out _ RE.out).mono ?_
    rintro e y2 ⟨v2, rfl, hown2, hb⟩
    have C2 := Lib.hid (then' C1.out hb)
    obtain ⟨X1, d1, rfl, -, -, e1⟩ := own_rd (own_below HO1.out hb)
    obtain ⟨X2, d2, rfl, -, -, e2⟩ := own_rd hown2
    have E1 := Lib.hid e1; have E2 := Lib.hid e2
    clear hb hown2 e1 e2 G2 RE HO1 C1
    go_wp2_with fail
    refine (ST.out _ _ _ _ _ E1.out E2.out).mono ?_
    rintro e y3 ⟨rfl, qq, rfl⟩
    have C3 := Lib.hid (over (q := qq) C2.out)
    clear ST E1 E2 C2
    go_wp2
    go_ret
    exact ⟨by simp, C3.out⟩
end Go.Proofs.Ytcaaljioennnnaa.globMatches

/-
  The walk of WordNumbers: a number's digits are read as it is; other texts are refused.
-/
import Derived.Test.YtcpjllkfgoaamaaDoorLive4
import Derived.Test.YtcpjllkfgoaamaaDoorDigR
namespace Go.Proofs.YtcpjllkfgoaamaaDoor.wordNumbers
open Go.RowKit
open Go.Proofs.YtcpjllkfgoaamaaDoor.num Go.Proofs.YtcpjllkfgoaamaaDoor.words Go.Proofs.YtcpjllkfgoaamaaDoor.give Go.Proofs.YtcpjllkfgoaamaaDoor.write Go.Proofs.YtcpjllkfgoaamaaDoor.word Go.Proofs.YtcpjllkfgoaamaaDoor.dec Go.Proofs.YtcpjllkfgoaamaaDoor.live4

theorem back_of {s : ByteArray} (h : (parseB s).2 = 0) : (⟨(Lib.itoa ((parseB s).1 : Int)).toArray⟩ : ByteArray) = s ∧ (parseB s).1 ≤ 65536 := by
  unfold parseB parseD at h ⊢
  by_cases hok : okD s.data.toList = true
  · rw [if_pos hok] at h ⊢
    by_cases hb : 65536 < val s.data.toList
    · rw [if_pos hb] at h; cases h
    · rw [if_neg hb]
      dsimp only
      rw [Lib.itoa_nonneg, dec_back _ hok]
      exact ⟨rfl, by omega⟩
  · rw [if_neg hok] at h; cases h
theorem le_of (s : ByteArray) : (parseB s).1 ≤ 65536 := by
  unfold parseB parseD
  split
  · split
    · exact Nat.zero_le _
    · dsimp only; omega
  · exact Nat.zero_le _
def ofNum (n : Int) : ByteArray := ⟨(Lib.itoa n).toArray⟩
theorem ofNum_size (n : Int) (h0 : -9223372036854775808 ≤ n) (h1 : n ≤ 9223372036854775807) : (ofNum n).size ≤ 65536 := by
  have := Lib.itoa_length_le n h0 h1
  unfold ofNum; rw [size_of]; omega
theorem parse_num (n : Int) : parseB (ofNum n) = if n < 0 then (0, 1) else if 65536 < n then (0, 12) else (n.toNat, 0) := by
  unfold parseB ofNum
  by_cases h : n < 0
  · obtain ⟨u, rfl⟩ : ∃ u : Nat, n = -(u : Int) := ⟨n.natAbs, by omega⟩
    rw [if_pos h, Lib.itoa_neg u (by omega)]
    exact parse_neg u
  · obtain ⟨u, rfl⟩ : ∃ u : Nat, n = (u : Int) := ⟨n.toNat, by omega⟩
    rw [if_neg h, Lib.itoa_nonneg]
    show parseD (Lib.decDigits u) = _
    rw [parse_dec]
    by_cases hb : 65536 < u
    · rw [if_pos hb, if_pos (by omega)]
    · rw [if_neg hb, if_neg (by omega)]; simp
theorem Tabs.errs {w : World} (h : Errs w) : Errs w := h

set_option maxRecDepth 100000 in
set_option maxHeartbeats 4000000 in
theorem walk (n : Int) (s : ByteArray) (w : World) (h0 : -9223372036854775808 ≤ n) (h1 : n ≤ 9223372036854775807) (hs : s.size ≤ 140737488351232) (tab : Tabs w) (er : Errs w) :
    Calls Tryd.prog 5 #[.int .i64 n, .string s] w fun e w' => e = .returned (.bool true) ∧ Below w.heap.size w w' := by
  have HL := Lib.hid (fun w (t : Tabs w) => live_any w t)
  have HT := Lib.hid tab
  have HR := Lib.hid er
  by_cases hbig : 300 < s.size
  · have hbI : (300 : Int) < (s.size : Int) := by omega
    clear h0 h1 hs tab er HR hbig
    go_enter Tryd.func5, Tryd.ntmps5
    go_wp2_with fail
    refine (HL.out _ HT.out).mono ?_
    rintro e w1 ⟨rfl, hb⟩
    have HB := Lib.hid hb
    clear hb HL
    go_wp2
    go_ret
    exact ⟨rfl, HB.out⟩
  have hbI : ¬ (300 : Int) < (s.size : Int) := by omega
  have HD := Lib.hid (fun (n : Int) (a : -9223372036854775808 ≤ n) (b : n ≤ 9223372036854775807) w (t : Tabs w) => show Calls Tryd.prog 19 #[.int .i64 n] w fun e w' => e = .returned (.string (ofNum n)) ∧ Below w.heap.size w w' from digits_w n a b w t.pow)
  have HG := Lib.hid (fun w => show Calls Tryd.prog 21 #[.int .i64 n] w fun e w' => e = .returned (.string (ofNum n)) ∧ w' = w from digits_r n h0 h1 w)
  have HP1 := Lib.hid (fun w (t : Tabs w) (er : Errs w) => parse_w (ofNum n) (ofNum_size n h0 h1) w t.pow er)
  have HP2 := Lib.hid (fun w (t : Tabs w) (er : Errs w) => parse_w s (by omega) w t.pow er)
  have HP3 := Lib.hid (fun w => parse_r s (by omega) w)
  have HV1 := Lib.hid (parse_num n)
  have HV2 := Lib.hid (fun h => back_of (s := s) h)
  have hle := le_of s
  have HN0 := Lib.hid h0; have HN1 := Lib.hid h1
  unfold parseV at HP1 HP2 HP3
  clear hs tab er hbig
  generalize parseB (ofNum n) = p1 at *
  obtain ⟨p, hp⟩ : ∃ p, p = parseB s := ⟨_, rfl⟩
  rw [← hp] at HP2 HP3 HV2 hle
  clear hp
  obtain ⟨pn, pe⟩ := p
  obtain ⟨xn, xe⟩ := p1
  dsimp only at HP1 HP2 HP3 HV2 hle
  have hpnI : (pn : Int) ≤ 65536 := by omega
  have e1 : ((ofNum n).toList != (ofNum n).toList) = false := by simp
  have e2 : ((pn : Int) != (pn : Int)) = false := by simp
  have e3 : ((pe : Int) != (pe : Int)) = false := by simp
  have e1' : ((ofNum n).toList == (ofNum n).toList) = true := by simp
  have e2' : ((pn : Int) == (pn : Int)) = true := by simp
  have e3' : ((pe : Int) == (pe : Int)) = true := by simp
  clear hle
  go_enter Tryd.func5, Tryd.ntmps5
  go_wp2_with fail
  refine (HD.out n HN0.out HN1.out _ HT.out).mono ?_
  rintro e w1 ⟨rfl, hb1⟩
  have HB1 := Lib.hid hb1
  clear hb1
  go_wp2_with fail
  refine (HP1.out _ (Tabs.below HT.out HB1.out) (HR.out.below HB1.out)).mono ?_
  rintro e w2 ⟨rfl, hb2⟩
  have HB2 := Lib.hid (then' HB1.out hb2)
  clear hb2 HP1 HB1
  go_wp2_with fail
  refine (HP2.out _ (Tabs.below HT.out HB2.out) (HR.out.below HB2.out)).mono ?_
  rintro e w3 ⟨rfl, hb3⟩
  have HB3 := Lib.hid (then' HB2.out hb3)
  clear hb3 HP2 HB2
  go_wp2_with fail
  refine (HP3.out _).mono ?_
  rintro e w3 ⟨rfl, rfl⟩
  clear HP3
  go_wp2_with fail
  refine (HL.out _ (Tabs.below HT.out HB3.out)).mono ?_
  rintro e w4 ⟨rfl, hb4⟩
  have HB4 := Lib.hid (then' HB3.out hb4)
  clear hb4 HL HB3
  go_wp2_with fail
  refine (HD.out n HN0.out HN1.out _ (Tabs.below HT.out HB4.out)).mono ?_
  rintro e w5 ⟨rfl, hb5⟩
  have HB5 := Lib.hid (then' HB4.out hb5)
  clear hb5 HB4
  go_wp2_with fail
  refine (HG.out _).mono ?_
  rintro e w5 ⟨rfl, rfl⟩
  clear HG
  have hc : (n < 0 ∧ xn = 0 ∧ xe = 1) ∨ (¬ n < 0 ∧ 65536 < n ∧ xn = 0 ∧ xe = 12) ∨ (¬ n < 0 ∧ ¬ 65536 < n ∧ (xn : Int) = n ∧ xe = 0) := by
    have hv := HV1.out
    by_cases hn : n < 0
    · rw [if_pos hn] at hv; cases hv; exact .inl ⟨hn, rfl, rfl⟩
    · rw [if_neg hn] at hv
      by_cases hm : 65536 < n
      · rw [if_pos hm] at hv; cases hv; exact .inr (.inl ⟨hn, hm, rfl, rfl⟩)
      · rw [if_neg hm] at hv; cases hv; exact .inr (.inr ⟨hn, hm, by omega, rfl⟩)
  clear HV1
  by_cases hz : pe = 0
  · subst hz
    have hv := (HV2.out rfl).1
    have HD2 := Lib.hid (HD.out (pn : Int) (by omega) (by omega) _ (Tabs.below HT.out HB5.out))
    rw [show ofNum (pn : Int) = s from hv] at HD2
    have e4 : (s.toList == s.toList) = true := by simp
    have e5 : (s.toList != s.toList) = false := by simp
    clear hv HV2 HD
    go_wp2_with fail
    refine HD2.out.mono ?_
    rintro e w6 ⟨rfl, hb6⟩
    have HB6 := Lib.hid (then' HB5.out hb6)
    clear hb6 HB5 HD2 HT HR
    rcases hc with ⟨hn, rfl, rfl⟩ | ⟨hn, hm, rfl, rfl⟩ | ⟨hn, hm, hx, rfl⟩
    · go_wp2
      go_ret
      exact ⟨rfl, HB6.out⟩
    · go_wp2
      go_ret
      exact ⟨rfl, HB6.out⟩
    · have hx2 : ((xn : Int) == n) = true := by simpa using hx
      go_wp2
      go_ret
      exact ⟨by simp, HB6.out⟩
  · have hzI : ¬ (pe : Int) = 0 := by omega
    have hzB : ((pe : Int) == 0) = false := by simpa using hzI
    clear HV2 HD HT HR hz
    rcases hc with ⟨hn, rfl, rfl⟩ | ⟨hn, hm, rfl, rfl⟩ | ⟨hn, hm, hx, rfl⟩
    · go_wp2
      go_ret
      exact ⟨rfl, HB5.out⟩
    · go_wp2
      go_ret
      exact ⟨rfl, HB5.out⟩
    · have hx2 : ((xn : Int) == n) = true := by simpa using hx
      go_wp2
      go_ret
      exact ⟨by simp, HB5.out⟩
end Go.Proofs.YtcpjllkfgoaamaaDoor.wordNumbers

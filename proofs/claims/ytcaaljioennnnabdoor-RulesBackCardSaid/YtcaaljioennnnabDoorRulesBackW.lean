/-
 RulesBack: the law's walk.
-/
import Derived.Test.YtcaaljioennnnabDoorLive22
import Derived.Test.YtcaaljioennnnabDoorRulO
namespace Go.Proofs.YtcaaljioennnnabDoor.rulesBack
open Go.RowKit
open Go.Proofs.YtcaaljioennnnabDoor.words Go.Proofs.YtcaaljioennnnabDoor.glob Go.Proofs.YtcaaljioennnnabDoor.rul Go.Proofs.YtcaaljioennnnabDoor.piece
set_option linter.all false
theorem ok_right {r : Ru} (h : rightR r = true) : RuOk r := by
 obtain ⟨nb, me, c, n, d⟩ := r
 unfold rightR at h
 rw [Bool.and_eq_true] at h
 have h0 := right_len h.1
 cases me with
 | false =>
  have h2 := h.2
  simp at h2
  obtain ⟨rfl, rfl⟩ := h2
  exact ⟨by dsimp only at h0 ⊢; omega, Nat.zero_le _, Nat.zero_le _⟩
 | true =>
  have h2 := h.2
  simp only [if_true, Bool.and_eq_true] at h2
  have h3 := right_len h2.1; have h4 := right_len h2.2
  dsimp only at h0 h3 h4
  exact ⟨by dsimp only; omega, by dsimp only; omega, by dsimp only; omega⟩
set_option maxRecDepth 100000 in
set_option maxHeartbeats 8000000 in
theorem walk (A : Option Addr) (c : Nat) (L : List Ru) (s : ByteArray) (w : World) (hnc : L.length ≤ c) (hr : Rd w A (L.flatMap ruC)) (hlen : L.length ≤ 140737488351232) (hok : ∀ r ∈ L, RuOk r) (hs : s.size ≤ 140737488351232) (hm : Mc w) :
  Calls Tryd.prog 4 #[.slice A L.length c, .string s] w fun e w' => e = .returned (.bool true) ∧ Below w.heap.size w w' := by
 have HLV := Lib.hid (fun w h => live_w w h)
 have hsI : (s.size : Int) ≤ 140737488351232 := by omega
 obtain ⟨n, hn⟩ : ∃ n, n = L.length := ⟨_, rfl⟩
 have hnI : (n : Int) ≤ 140737488351232 := by omega
 rw [← hn]
 have HM := Lib.hid (fun v (hv : Below w.heap.size w v) => hm.below hv hm.lt)
 have HR := Lib.hid hr
 have BZ := Lib.hid (Below.refl w.heap.size w)
 clear hm hr
 by_cases h1 : 9000 < s.size
 ·have h1I : (9000 : Int) < (s.size : Int) := by omega
  clear h1 hn
  go_enter Tryd.func4, Tryd.ntmps4
  go_wp2_with fail
  refine (HLV.out _ (HM.out _ BZ.out)).mono ?_
  rintro e xl ⟨rfl, hb⟩
  have BL := Lib.hid (then' BZ.out hb)
  clear hb HLV
  go_wp2
  go_ret
  exact ⟨rfl, BL.out⟩
 ·have h1I : ¬ (9000 : Int) < (s.size : Int) := by omega
  by_cases h2 : 80 < n
  ·have h2I : (80 : Int) < (n : Int) := by omega
   clear h1 h2 hn
   go_enter Tryd.func4, Tryd.ntmps4
   go_wp2_with fail
   refine (HLV.out _ (HM.out _ BZ.out)).mono ?_
   rintro e xl ⟨rfl, hb⟩
   have BL := Lib.hid (then' BZ.out hb)
   clear hb HLV
   go_wp2
   go_ret
   exact ⟨rfl, BL.out⟩
  ·have h2I : ¬ (80 : Int) < (n : Int) := by omega
   have HP := Lib.hid (fun w hr => print_w A c L w (by omega) hok hr)
   unfold PrintP at HP
   have HPS := Lib.hid (fun w h => parse_w s w h)
   unfold ParseP at HPS
   obtain ⟨⟨M, k, a⟩, hps⟩ : ∃ x, parseS s = x := ⟨_, rfl⟩
   rw [hps] at HPS
   dsimp only at HPS
   obtain ⟨aI, haI⟩ : ∃ x : Int, x = (a : Int) := ⟨_, rfl⟩
   rw [← haI] at HPS
   clear haI
   by_cases hq : n ≤ 64 ∧ L.all rightR = true
   ·have hpr : printR L = (textL (L.map lineR), 0) := by unfold printR; rw [if_neg (by omega), if_pos hq.2]
    have hpt := parse_print hq.2 (by omega)
    rw [hpr] at HP
    dsimp only at HP
    obtain ⟨T, hT⟩ : ∃ t, t = textL (L.map lineR) := ⟨_, rfl⟩
    rw [← hT] at HP hpt
    rw [show ((0 : Nat) : Int) = 0 from rfl, ← hn] at HP
    have HPT := Lib.hid (fun w h => parse_w ⟨T.toArray⟩ w h)
    unfold ParseP at HPT
    rw [hpt] at HPT
    dsimp only at HPT
    rw [show ((0 : Nat) : Int) = 0 from rfl, ← hn] at HPT
    have HSM := Lib.hid (fun A2 c2 w h1 h2 => same_r A A2 n c c2 L w h1 h2 hn.symm (by omega))
    clear hpr hpt hT hq h1 h2 hn
    by_cases hk : k = 0
    ·subst hk
     obtain ⟨hall2, hl2, htx⟩ := print_parse hps
     have hprM : printR M = (textL (M.map lineR), 0) := by unfold printR; rw [if_neg (by omega), if_pos hall2]
     have HPM := Lib.hid (fun A c w hr => print_w A c M w (by omega) (fun r hr => ok_right (by rw [List.all_eq_true] at hall2; exact hall2 r hr)) hr)
     unfold PrintP at HPM
     rw [hprM] at HPM
     dsimp only at HPM
     rw [htx, show ((0 : Nat) : Int) = 0 from rfl] at HPM
     rw [show ((0 : Nat) : Int) = 0 from rfl] at HPS
     obtain ⟨m, hmm⟩ : ∃ m, m = M.length := ⟨_, rfl⟩
     rw [← hmm] at HPM HPS
     have hmI : (m : Int) ≤ 64 := by omega
     clear hall2 hl2 htx hprM hmm hps
     go_enter Tryd.func4, Tryd.ntmps4
     go_wp2_with fail
     refine (HP.out w HR.out).mono ?_
     rintro e x1 ⟨rfl, hb⟩
     have B1 := Lib.hid hb
     clear hb HP
     go_wp2_with fail
     refine (HPT.out _ (HM.out _ B1.out)).mono ?_
     rintro e x2 ⟨⟨A2, c2, rfl, -, hrd⟩, hb⟩
     have BF := (Below.refl x2.heap.size x2).alloc (Nat.le_refl _) (.cells #[.int .i64 0, .int .i64 0] 37)
     have B2 := Lib.hid (then' (then' B1.out hb) BF)
     have R2 := Lib.hid (hrd.below BF)
     clear hb hrd BF HPT B1
     go_wp2_with fail
     refine (HSM.out A2 c2 _ (HR.out.below B2.out) R2.out).mono ?_
     rintro e x3 ⟨rfl, hb⟩
     have B3 := Lib.hid (then' B2.out hb)
     clear hb HSM B2 R2
     go_wp2_with fail
     refine (HPS.out _ (HM.out _ B3.out)).mono ?_
     rintro e x4 ⟨⟨A4, c4, rfl, -, hrd⟩, hb⟩
     have BF := (Below.refl x4.heap.size x4).alloc (Nat.le_refl _) (.cells #[.int .i64 0, .int .i64 aI] 37)
     have B4 := Lib.hid (then' (then' B3.out hb) BF)
     have R4 := Lib.hid (hrd.below BF)
     clear hb hrd BF HPS B3
     go_wp2_with fail
     refine (HPM.out A4 c4 _ R4.out).mono ?_
     rintro e x5 ⟨rfl, hb⟩
     have B5 := Lib.hid (then' B4.out hb)
     clear hb HPM B4 R4
     go_wp2_with fail
     refine (HLV.out _ (HM.out _ B5.out)).mono ?_
     rintro e xl ⟨rfl, hb⟩
     have B6 := Lib.hid (then' B5.out hb)
     clear hb HLV
     go_wp2
     go_ret
     exact ⟨rfl, B6.out⟩
    ·have hke : M = [] := by have := parse_err (s := s) (by rw [hps]; exact hk); rw [hps] at this; exact this
     subst hke
     dsimp only [List.length_nil] at HPS
     obtain ⟨kI, hkI⟩ : ∃ x : Int, x = (k : Int) := ⟨_, rfl⟩
     rw [← hkI] at HPS
     have hk1 : ¬ kI = 0 := by omega
     clear hkI hk hps
     go_enter Tryd.func4, Tryd.ntmps4
     go_wp2_with fail
     refine (HP.out w HR.out).mono ?_
     rintro e x1 ⟨rfl, hb⟩
     have B1 := Lib.hid hb
     clear hb HP
     go_wp2_with fail
     refine (HPT.out _ (HM.out _ B1.out)).mono ?_
     rintro e x2 ⟨⟨A2, c2, rfl, -, hrd⟩, hb⟩
     have BF := (Below.refl x2.heap.size x2).alloc (Nat.le_refl _) (.cells #[.int .i64 0, .int .i64 0] 37)
     have B2 := Lib.hid (then' (then' B1.out hb) BF)
     have R2 := Lib.hid (hrd.below BF)
     clear hb hrd BF HPT B1
     go_wp2_with fail
     refine (HSM.out A2 c2 _ (HR.out.below B2.out) R2.out).mono ?_
     rintro e x3 ⟨rfl, hb⟩
     have B3 := Lib.hid (then' B2.out hb)
     clear hb HSM B2 R2
     go_wp2_with fail
     refine (HPS.out _ (HM.out _ B3.out)).mono ?_
     rintro e x4 ⟨⟨A4, c4, rfl, -, -⟩, hb⟩
     have BF := (Below.refl x4.heap.size x4).alloc (Nat.le_refl _) (.cells #[.int .i64 kI, .int .i64 aI] 37)
     have B4 := Lib.hid (then' (then' B3.out hb) BF)
     clear hb BF HPS B3
     go_wp2_with fail
     refine (HLV.out _ (HM.out _ B4.out)).mono ?_
     rintro e xl ⟨rfl, hb⟩
     have B5 := Lib.hid (then' B4.out hb)
     clear hb HLV
     go_wp2
     go_ret
     exact ⟨rfl, B5.out⟩
   ·have hpr : ∃ t : List UInt8, ∃ e : Nat, printR L = (t, e) ∧ ¬ e = 0 := by
     unfold printR
     by_cases h64 : 64 < L.length
     ·exact ⟨[], 3, by rw [if_pos h64], by decide⟩
     ·exact ⟨[], 10, by rw [if_neg h64, if_neg (fun h => hq ⟨by omega, h⟩)], by decide⟩
    obtain ⟨T, e, hpr, he⟩ := hpr
    rw [hpr] at HP
    dsimp only at HP
    obtain ⟨eI, heI⟩ : ∃ x : Int, x = (e : Int) := ⟨_, rfl⟩
    rw [← heI, ← hn] at HP
    have he1 : ¬ eI = 0 := by omega
    clear hpr he heI hq h1 h2 hn
    by_cases hk : k = 0
    ·subst hk
     obtain ⟨hall2, hl2, htx⟩ := print_parse hps
     have hprM : printR M = (textL (M.map lineR), 0) := by unfold printR; rw [if_neg (by omega), if_pos hall2]
     have HPM := Lib.hid (fun A c w hr => print_w A c M w (by omega) (fun r hr => ok_right (by rw [List.all_eq_true] at hall2; exact hall2 r hr)) hr)
     unfold PrintP at HPM
     rw [hprM] at HPM
     dsimp only at HPM
     rw [htx, show ((0 : Nat) : Int) = 0 from rfl] at HPM
     rw [show ((0 : Nat) : Int) = 0 from rfl] at HPS
     obtain ⟨m, hmm⟩ : ∃ m, m = M.length := ⟨_, rfl⟩
     rw [← hmm] at HPM HPS
     have hmI : (m : Int) ≤ 64 := by omega
     clear hall2 hl2 htx hprM hmm hps
     go_enter Tryd.func4, Tryd.ntmps4
     go_wp2_with fail
     refine (HP.out w HR.out).mono ?_
     rintro e x1 ⟨rfl, hb⟩
     have B3 := Lib.hid hb
     clear hb HP
     go_wp2_with fail
     refine (HPS.out _ (HM.out _ B3.out)).mono ?_
     rintro e x4 ⟨⟨A4, c4, rfl, -, hrd⟩, hb⟩
     have BF := (Below.refl x4.heap.size x4).alloc (Nat.le_refl _) (.cells #[.int .i64 0, .int .i64 aI] 37)
     have B4 := Lib.hid (then' (then' B3.out hb) BF)
     have R4 := Lib.hid (hrd.below BF)
     clear hb hrd BF HPS B3
     go_wp2_with fail
     refine (HPM.out A4 c4 _ R4.out).mono ?_
     rintro e x5 ⟨rfl, hb⟩
     have B5 := Lib.hid (then' B4.out hb)
     clear hb HPM B4 R4
     go_wp2_with fail
     refine (HLV.out _ (HM.out _ B5.out)).mono ?_
     rintro e xl ⟨rfl, hb⟩
     have B6 := Lib.hid (then' B5.out hb)
     clear hb HLV
     go_wp2
     go_ret
     exact ⟨rfl, B6.out⟩
    ·have hke : M = [] := by have := parse_err (s := s) (by rw [hps]; exact hk); rw [hps] at this; exact this
     subst hke
     dsimp only [List.length_nil] at HPS
     obtain ⟨kI, hkI⟩ : ∃ x : Int, x = (k : Int) := ⟨_, rfl⟩
     rw [← hkI] at HPS
     have hk1 : ¬ kI = 0 := by omega
     clear hkI hk hps
     go_enter Tryd.func4, Tryd.ntmps4
     go_wp2_with fail
     refine (HP.out w HR.out).mono ?_
     rintro e x1 ⟨rfl, hb⟩
     have B3 := Lib.hid hb
     clear hb HP
     go_wp2_with fail
     refine (HPS.out _ (HM.out _ B3.out)).mono ?_
     rintro e x4 ⟨⟨A4, c4, rfl, -, -⟩, hb⟩
     have BF := (Below.refl x4.heap.size x4).alloc (Nat.le_refl _) (.cells #[.int .i64 kI, .int .i64 aI] 37)
     have B4 := Lib.hid (then' (then' B3.out hb) BF)
     clear hb BF HPS B3
     go_wp2_with fail
     refine (HLV.out _ (HM.out _ B4.out)).mono ?_
     rintro e xl ⟨rfl, hb⟩
     have B5 := Lib.hid (then' B4.out hb)
     clear hb HLV
     go_wp2
     go_ret
     exact ⟨rfl, B5.out⟩
end Go.Proofs.YtcaaljioennnnabDoor.rulesBack

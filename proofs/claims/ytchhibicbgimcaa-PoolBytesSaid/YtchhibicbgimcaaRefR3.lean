/-
  What the reference's reader answers, on: a number, a text; where it stands, how many are left, what failed; and both readers' Fail.
-/
import Derived.Test.YtchhibicbgimcaaRefR2
namespace Go.Proofs.Ytchhibicbgimcaa.refr
open Go.RowKit
open Go.Proofs.Ytchhibicbgimcaa.num Go.Proofs.Ytchhibicbgimcaa.words Go.Proofs.Ytchhibicbgimcaa.rdnum Go.Proofs.Ytchhibicbgimcaa.rdr Go.Proofs.Ytchhibicbgimcaa.give Go.Proofs.Ytchhibicbgimcaa.meth

set_option maxRecDepth 100000 in
set_option maxHeartbeats 1600000 in
theorem num_r (b : Nat) (s : Rs) (m : Int) (w : World) (h : RR w b s) (hm1 : -9223372036854775808 ≤ m) (hm2 : m ≤ 9223372036854775807) :
    Calls Try.prog 30 #[.pointer (some ⟨b, 0, none⟩), .int .i64 m] w (DidR b s (numT s.l s.p m) 0 (fun x : Nat => .int .i64 (x : Int)) w) := by
  by_cases hs : s.e = 0
  · obtain ⟨A, n, c, L, c0, c1, c2, c3, c4, fz, r1, r2, r3, r5, r6, hb, hp, hby⟩ := partsR h
    have ha := Lib.hid (alive_r b s w h hs)
    have ht := take_r b s w h hs
    have H := Lib.hid h
    have hyl := h.1.byte
    obtain ⟨l, p, e0, f⟩ := s
    dsimp only at *
    subst hs
    clear c0 c2 c3 c4 fz r1 r2 r3 r5 r6 hb hby h
    by_cases he : (numT l p m).e = 0
    · obtain ⟨h1, h2, h3, h4, h5, h6, h7⟩ := numT_ok hp hyl he
      have hlb := (lebT_ok hp hyl h1).2.1
      rw [h2]
      have hgo : (Rs.mk l p 0 f).go (lebT l p) = ⟨l, (lebT l p).q, 0, f⟩ := Rs.go_ok rfl h1
      have hans : (Rs.mk l p 0 f).ans (lebT l p) 0 = (lebT l p).v := Rs.ans_ok rfl h1
      rw [h1] at ht
      have HA := Lib.hid hans
      generalize hvv : (lebT l p).v = v at *
      have hvI : (v : Int) ≤ 9223372036854775807 := by omega
      have hw1 : IntKind.u64.wrap m = m := by rw [IntKind.wrap_u64]; omega
      have hw2 : IntKind.i64.wrap (v : Int) = v := IntWalk.i64_in _ (by omega)
      have hlt : ¬ m < 0 := by omega
      have hgt : ¬ m < (v : Int) := by omega
      have HK := Lib.hid ht
      clear ht hyl he h1 h2 h3 h4 h5 h6 hlb hgo hans hvv
      go_enter Try.func30, Try.ntmps30
      go_wp2_with (go_at_call 42; refine ha.out.mono ?_; rintro e w' ⟨rfl, rfl⟩)
      refine HK.out.mono ?_
      rintro e w1 ⟨rfl, hr, hbt⟩
      have HR := Lib.hid hr
      have HT := Lib.hid hbt
      clear hr hbt
      go_wp2
      go_ret
      exact ⟨by rw [HA.out]; rfl, HR.out, HT.out⟩
    · obtain ⟨h1, h2, h3, h4⟩ := numT_err hp he
      rcases h4 with ⟨h4, h5⟩ | ⟨h4, h5, h6⟩
      · rw [h5] at he h1 h2 ⊢
        have hans : (Rs.mk l p 0 f).ans (lebT l p) 0 = 0 := Rs.ans_err he
        have hne : ((lebT l p).e == 0) = false := by simpa using he
        rw [hne] at ht
        have HA := Lib.hid hans
        have HK := Lib.hid ht
        clear ht hyl he h1 h2 h3 h4 h5 hans hne
        go_enter Try.func30, Try.ntmps30
        go_wp2_with (go_at_call 42; refine ha.out.mono ?_; rintro e w' ⟨rfl, rfl⟩)
        refine HK.out.mono ?_
        rintro e w1 ⟨rfl, hr, hbt⟩
        have HR := Lib.hid hr
        have HT := Lib.hid hbt
        clear hr hbt
        go_wp2
        go_ret
        exact ⟨by rw [HA.out]; rfl, HR.out, HT.out⟩
      · have hgo : (Rs.mk l p 0 f).go (numT l p m) = ⟨l, p, 3, p⟩ := by rw [Rs.go_err rfl he, h2, h6]; rfl
        have hans : (Rs.mk l p 0 f).ans (numT l p m) 0 = 0 := Rs.ans_err he
        have hlb := (lebT_ok hp hyl h4)
        have hgo1 : (Rs.mk l p 0 f).go (lebT l p) = ⟨l, (lebT l p).q, 0, f⟩ := Rs.go_ok rfl h4
        rw [h4, hgo1] at ht
        have hvI : ((lebT l p).v : Int) ≤ 18446744073709551615 := by have := hlb.2.1; omega
        unfold DidR
        rw [hgo, hans]
        generalize (lebT l p).v = v at *
        generalize (lebT l p).q = q at *
        have HF := Lib.hid (fun wx (h : RR wx b ⟨l, p, 0, f⟩) => fail_r b ⟨l, p, 0, f⟩ 3 p wx h rfl (by omega))
        have HP := Lib.hid (fun wx (h : RR wx b ⟨l, q, 0, f⟩) => setpR h (q := p) hp)
        have HK := Lib.hid ht
        clear ht hyl he h1 h2 h3 h4 h6 hgo hans hgo1 hlb
        by_cases hm : m < 0
        · clear h5
          go_enter Try.func30, Try.ntmps30
          go_wp2_with (go_at_call 42; refine ha.out.mono ?_; rintro e w' ⟨rfl, rfl⟩)
          refine HK.out.mono ?_
          rintro e w1 ⟨rfl, hr, hbt⟩
          obtain ⟨A1, n1, d1, L1, -, k1, -, -, -, z1, -⟩ := partsR hr
          have z1 := z1 1
          dsimp only at k1
          have HR := Lib.hid (HP.out _ hr)
          have HT := Lib.hid (hbt.set 1 (.int .i64 (p : Int)))
          clear hr hbt
          go_wp2_with fail
          refine (HF.out _ HR.out).mono ?_
          rintro e' w2 ⟨rfl, hr2, hb2⟩
          have HR2 := Lib.hid hr2
          have HB2 := Lib.hid (HT.out.trans hb2)
          clear hr2 hb2 z1 k1
          go_wp2
          go_ret
          exact ⟨rfl, HR2.out, HB2.out⟩
        · have hw1 : IntKind.u64.wrap m = m := by rw [IntKind.wrap_u64]; omega
          go_enter Try.func30, Try.ntmps30
          go_wp2_with (go_at_call 42; refine ha.out.mono ?_; rintro e w' ⟨rfl, rfl⟩)
          refine HK.out.mono ?_
          rintro e w1 ⟨rfl, hr, hbt⟩
          obtain ⟨A1, n1, d1, L1, -, k1, -, -, -, z1, -⟩ := partsR hr
          have z1 := z1 1
          dsimp only at k1
          have HR := Lib.hid (HP.out _ hr)
          have HT := Lib.hid (hbt.set 1 (.int .i64 (p : Int)))
          clear hr hbt
          go_wp2_with fail
          refine (HF.out _ HR.out).mono ?_
          rintro e' w2 ⟨rfl, hr2, hb2⟩
          have HR2 := Lib.hid hr2
          have HB2 := Lib.hid (HT.out.trans hb2)
          clear hr2 hb2 z1 k1
          go_wp2
          go_ret
          exact ⟨rfl, HR2.out, HB2.out⟩
  · have ha := Lib.hid (dead_r b s w h hs)
    have HS := Lib.hid hs
    have H := Lib.hid h
    clear hs h
    go_enter Try.func30, Try.ntmps30
    go_wp2_with (go_at_call 42; refine ha.out.mono ?_; rintro e w' ⟨rfl, rfl⟩)
    go_ret
    exact did_dead H.out HS.out (Below.refl _ _)
end Go.Proofs.Ytchhibicbgimcaa.refr

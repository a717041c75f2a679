/-
  What the reference's reader answers, on: a text; where it stands, how many are left, what failed; and both readers' Fail.
-/
import Derived.Test.YtchhibicbgimcaaRefR3
namespace Go.Proofs.Ytchhibicbgimcaa.refr
open Go.RowKit
open Go.Proofs.Ytchhibicbgimcaa.num Go.Proofs.Ytchhibicbgimcaa.words Go.Proofs.Ytchhibicbgimcaa.rdnum Go.Proofs.Ytchhibicbgimcaa.rdr Go.Proofs.Ytchhibicbgimcaa.give Go.Proofs.Ytchhibicbgimcaa.meth

set_option maxRecDepth 100000 in
set_option maxHeartbeats 400000 in
theorem at_r (b : Nat) (s : Rs) (w : World) (h : RR w b s) :
    Calls Try.prog 17 #[.pointer (some ⟨b, 0, none⟩)] w fun e w' => e = .returned (.int .i64 (s.p : Int)) ∧ w' = w := by
  obtain ⟨A, n, c, L, c0, c1, c2, c3, c4, fz, r1, r2, r3, r5, r6, hb, hp, hby⟩ := partsR h
  clear h c0 c2 c3 c4 fz r1 r2 r3 r5 r6 hb hp hby
  go_enter Try.func17, Try.ntmps17
  go_wp2
  go_ret
  exact ⟨rfl, rfl⟩
set_option maxRecDepth 100000 in
set_option maxHeartbeats 400000 in
theorem fault_r (b : Nat) (s : Rs) (w : World) (h : RR w b s) :
    Calls Try.prog 15 #[.pointer (some ⟨b, 0, none⟩)] w fun e w' => e = .returned (fv s) ∧ Below w.heap.size w w' := by
  obtain ⟨A, n, c, L, c0, c1, c2, c3, c4, fz, r1, r2, r3, r5, r6, hb, hp, hby⟩ := partsR h
  have hbw : ∀ X, Below w.heap.size w (w.alloc X) := fun X => (Below.refl _ _).alloc (Nat.le_refl _) X
  have k3 := fun X => ((hbw X).cell (p := ⟨b, 3, none⟩) h.lt).trans c3
  have k4 := fun X => ((hbw X).cell (p := ⟨b, 4, none⟩) h.lt).trans c4
  have HB := Lib.hid hbw
  clear h c0 c1 c2 c3 c4 fz r1 r2 r3 r5 r6 hb hp hby hbw
  unfold fv
  go_enter Try.func15, Try.ntmps15
  go_wp2
  exact bodyPost_ret (v := .agg #[.int .i64 s.e, .int .i64 (s.f : Int)]) (by simp [results, Try.results15, go_sem]) rfl ⟨rfl, HB.out _⟩

theorem fail_go {s : Rs} {er : Int} (hs : s.e = 0) (he : er ≠ 0) : s.fail er = { s with e := er, f := s.p } := by unfold Rs.fail; rw [if_neg]; intro h; rcases h with h | h; exact h hs; exact he h
theorem fail_no {s : Rs} {er : Int} (h : s.e ≠ 0 ∨ er = 0) : s.fail er = s := by unfold Rs.fail; rw [if_pos h]
/-- the error and its place are set -/
theorem setf {w : World} {b : Nat} {s : Rs} (h : RW w b s) {er : Int} {f : Nat} (he : er ≠ 0) : RW ((w.setCell ⟨b, 2, none⟩ (.int .i64 er)).setCell ⟨b, 3, none⟩ (.int .i64 (f : Int))) b { s with e := er, f := f } := by
  have hno := h.no
  obtain ⟨ok, A, c, hh, hc, hb⟩ := h
  have h1 := heap_setCell_same w b 2 _ _ (.int .i64 er) hh
  have h2 := heap_setCell_same _ b 3 _ _ (.int .i64 (f : Int)) h1
  exact ⟨⟨ok.le, ok.len, ok.byte, fun e => absurd e he⟩, A, c, h2, hc, hb.kept (((But.refl b w).set 2 _).set 3 _) (fun i cs f e => by cases e; exact hno cs f)⟩

set_option maxRecDepth 100000 in
set_option maxHeartbeats 400000 in
theorem fail_mw (b : Nat) (s : Rs) (er : Int) (w : World) (h : RW w b s) :
    Calls Try.prog 29 #[.pointer (some ⟨b, 0, none⟩), .int .i64 er] w fun e w' => e = .returned (.tuple #[]) ∧ RW w' b (s.fail er) ∧ But b w w' := by
  obtain ⟨A, c, c0, c1, c2, c3, fz, hh, hc, hb, hp, hl⟩ := parts h
  have H := Lib.hid h
  by_cases hs : s.e = 0
  · by_cases he : er = 0
    · have hf := Lib.hid (fail_no (s := s) (.inr he))
      subst he
      rw [hs] at c2
      clear h hs c0 c3 fz hh hc hb hp hl
      go_enter Try.func29, Try.ntmps29
      go_wp2
      go_end0
      exact ⟨rfl, by rw [hf.out]; exact H.out, But.refl _ _⟩
    · have hf := Lib.hid (fail_go hs he)
      have f2 := fz 2
      have f3 := fz 3
      have HR := Lib.hid (setf h (f := s.p) he)
      have hne : (er != 0) = true := by simpa using he
      rw [hs] at c2
      clear h hs c0 fz hh hc hb hp hl he
      go_enter Try.func29, Try.ntmps29
      go_wp2
      go_end0
      exact ⟨rfl, by rw [hf.out]; exact HR.out, ((But.refl b w).set 2 _).set 3 _⟩
  · have hf := Lib.hid (fail_no (er := er) (.inl hs))
    have hne : (s.e == 0) = false := by simpa using hs
    clear h hs c0 c1 c3 fz hh hc hb hp hl
    go_enter Try.func29, Try.ntmps29
    go_wp2
    go_end0
    exact ⟨rfl, by rw [hf.out]; exact H.out, But.refl _ _⟩
set_option maxRecDepth 100000 in
set_option maxHeartbeats 400000 in
theorem fail_mr (b : Nat) (s : Rs) (er : Int) (w : World) (h : RR w b s) :
    Calls Try.prog 32 #[.pointer (some ⟨b, 0, none⟩), .int .i64 er] w fun e w' => e = .returned (.tuple #[]) ∧ RR w' b (s.fail er) ∧ But b w w' := by
  obtain ⟨A, n, c, L, c0, c1, c2, c3, c4, fz, r1, r2, r3, r5, r6, hb, hp, hby⟩ := partsR h
  have H := Lib.hid h
  by_cases he : er = 0
  · have hf := Lib.hid (fail_no (s := s) (.inr he))
    subst he
    clear h c0 c1 c2 c3 c4 fz r1 r2 r3 r5 r6 hb hp hby
    go_enter Try.func32, Try.ntmps32
    go_wp2
    go_end0
    exact ⟨rfl, by rw [hf.out]; exact H.out, But.refl _ _⟩
  · have hne : (er != 0) = true := by simpa using he
    by_cases hs : s.e = 0
    · have hf := Lib.hid (fail_go hs he)
      have HF := Lib.hid (fail_r b s er s.p w h hs he)
      clear h hs he c0 c2 c3 c4 fz r1 r2 r3 r5 r6 hb hp hby
      go_enter Try.func32, Try.ntmps32
      go_wp2_with fail
      refine HF.out.mono ?_
      rintro e w1 ⟨rfl, hr, hbt⟩
      have HR := Lib.hid hr
      have HB := Lib.hid hbt
      clear hr hbt
      go_wp2
      go_end0
      exact ⟨rfl, by rw [hf.out]; exact HR.out, HB.out⟩
    · have hf := Lib.hid (fail_no (er := er) (.inl hs))
      have HF := Lib.hid (nofail_r b s er (s.p : Int) w h hs)
      clear h hs he c0 c2 c3 c4 fz r1 r2 r3 r5 r6 hb hp hby
      go_enter Try.func32, Try.ntmps32
      go_wp2_with fail
      refine HF.out.mono ?_
      rintro e w1 ⟨rfl, rfl⟩
      go_wp2
      go_end0
      exact ⟨rfl, by rw [hf.out]; exact H.out, But.refl _ _⟩

set_option maxRecDepth 100000 in
set_option maxHeartbeats 1600000 in
theorem text_r (b : Nat) (s : Rs) (w : World) (h : RR w b s) :
    Calls Try.prog 31 #[.pointer (some ⟨b, 0, none⟩)] w (DidR b s (textT s.l s.p) [] S w) := by
  have ht := num_r b s 64 w h (by omega) (by omega)
  by_cases hs : s.e ≠ 0 ∨ (numT s.l s.p 64).e ≠ 0
  · -- it was dead, or is so behind the number
    have hsd : (s.go (numT s.l s.p 64)).e ≠ 0 := by
      by_cases h1 : s.e = 0
      · rcases hs with h2 | h2
        · exact absurd h1 h2
        · rw [Rs.go_err h1 h2]; simpa using h2
      · rw [Rs.go_dead h1]; exact h1
    have hgo : s.go (textT s.l s.p) = s.go (numT s.l s.p 64) ∧ s.ans (textT s.l s.p) [] = [] := by
      by_cases h1 : s.e = 0
      · have h2 : (numT s.l s.p 64).e ≠ 0 := by rcases hs with h2 | h2; exact absurd h1 h2; exact h2
        have hte : textT s.l s.p = ⟨[], 0, (numT s.l s.p 64).e, (numT s.l s.p 64).f⟩ := by unfold textT; rw [if_pos h2]
        rw [hte]
        exact ⟨by rw [Rs.go_err (r := numT s.l s.p 64) h1 h2]; exact Rs.go_err h1 h2, Rs.ans_err h2⟩
      · exact ⟨by rw [Rs.go_dead h1, Rs.go_dead h1], Rs.ans_dead h1⟩
    unfold DidR
    rw [hgo.1, hgo.2]
    have HK := Lib.hid ht
    have HD := Lib.hid (fun wx (h : RR wx b (s.go (numT s.l s.p 64))) => dead_r b _ wx h hsd)
    clear ht hs hgo hsd h
    go_enter Try.func31, Try.ntmps31
    go_wp2_with fail
    refine HK.out.mono ?_
    rintro e w1 ⟨rfl, hr, hbt⟩
    have HR := Lib.hid hr
    have HB := Lib.hid hbt
    clear hr hbt
    go_wp2_with (go_at_call 42; refine (HD.out _ HR.out).mono ?_; rintro e w' ⟨rfl, rfl⟩)
    go_ret
    exact ⟨rfl, HR.out, HB.out⟩
  · have h1 : s.e = 0 := Classical.not_not.1 fun e => hs (.inl e)
    have h2 : (numT s.l s.p 64).e = 0 := Classical.not_not.1 fun e => hs (.inr e)
    have hno := numT_ok h.1.le h.1.byte h2
    have hv : (numT s.l s.p 64).v ≤ 64 := by rw [hno.2.1]; have := hno.2.2.1; omega
    have hq := hno.2.2.2.2.1
    have htx : textT s.l s.p = bytesT s.l (numT s.l s.p 64).q (numT s.l s.p 64).v := by unfold textT; rw [if_neg (by simpa using h2)]
    unfold DidR at ht
    rw [Rs.ans_ok h1 h2, Rs.go_ok h1 h2] at ht
    rw [htx]
    have hll := h.1.len
    have hyl := h.1.byte
    obtain ⟨l, p, e0, f⟩ := s
    dsimp only at *
    subst h1
    generalize (numT l p 64).v = v at *
    generalize (numT l p 64).q = q at *
    have HA := Lib.hid (fun wx (h : RR wx b ⟨l, q, 0, f⟩) => alive_r b _ wx h rfl)
    have HK := Lib.hid ht
    have hvI : (v : Int) ≤ 64 := by omega
    have hqI : (q : Int) ≤ (l.length : Int) := by omega
    have hlI : (l.length : Int) ≤ 140737488355328 := by omega
    clear ht hs htx hno h h2
    by_cases hlt : l.length - q < v
    · have hbt : bytesT l q v = ⟨[], 0, 2, q⟩ := by unfold bytesT; rw [if_pos hlt]
      rw [hbt]
      have hI : (l.length : Int) - (q : Int) < (v : Int) := by omega
      have HF := Lib.hid (fun wx (h : RR wx b ⟨l, q, 0, f⟩) => fail_r b ⟨l, q, 0, f⟩ 2 q wx h rfl (by omega))
      clear hbt hlt hyl
      go_enter Try.func31, Try.ntmps31
      go_wp2_with fail
      refine HK.out.mono ?_
      rintro e w1 ⟨rfl, hr, hbt⟩
      obtain ⟨A1, n1, d1, L1, -, k1, k2, -⟩ := partsR hr
      dsimp only at k1 k2
      have HR := Lib.hid hr
      have HB := Lib.hid hbt
      clear hr hbt
      go_wp2_with (go_at_call 42; refine (HA.out _ HR.out).mono ?_; rintro e w' ⟨rfl, rfl⟩)
      go_quiet (fail)
      go_wp2_with fail
      refine (HF.out _ HR.out.drewN).mono ?_
      rintro e w2 ⟨rfl, hr2, hb2⟩
      have HR2 := Lib.hid hr2
      have HB2 := Lib.hid (HB.out.trans hb2.undrew)
      clear hr2 hb2 k1 k2
      go_wp2
      go_ret
      exact ⟨rfl, HR2.out, HB2.out⟩
    · have hbt : bytesT l q v = ⟨(l.drop q).take v, q + v, 0, 0⟩ := by unfold bytesT; rw [if_neg hlt]
      rw [hbt]
      have hI : ¬ (l.length : Int) - (q : Int) < (v : Int) := by omega
      have hw1 : IntKind.i64.wrap ((q : Int) + v) = (q : Int) + v := IntWalk.i64_in _ (by omega)
      have hw2 : IntKind.i64.wrap ((q : Int) + v - v) = (q : Int) := by rw [show (q : Int) + v - v = q by omega]; exact IntWalk.i64_in _ (by omega)
      have hlen : ((l.drop q).take v).length = v := by rw [List.length_take, List.length_drop]; omega
      have hbl : ∀ x ∈ (l.drop q).take v, x < 256 := fun x hx => hyl x (List.mem_of_mem_drop (List.mem_of_mem_take hx))
      have hqv : q + v ≤ l.length := by omega
      have HLEN := Lib.hid hlen
      have HBL := Lib.hid hbl
      clear hbt hlt hyl hlen hbl
      go_enter Try.func31, Try.ntmps31
      go_wp2_with fail
      refine HK.out.mono ?_
      rintro e w1 ⟨rfl, hr, hbt⟩
      obtain ⟨A1, n1, d1, L1, k0, k1, k2, -, -, fz, r1, r2, r3, r5, r6, hbs, -, -⟩ := partsR hr
      have f1 := fz 1
      dsimp only at k0 k1 k2 r5 r6
      obtain ⟨A', c', hc', hcut, hrun⟩ := cutB A1 n1 d1 q (q + v) (by omega) (by omega)
      have hbs1 := hcut _ _ hbs (by omega)
      have hst := setpR hr (q := q + v) hqv
      rw [show q + v - q = v by omega] at hc' hrun hbs1
      have hX : (L1.drop q).take v = (l.drop q).take v := by rw [r5, List.drop_take, List.take_take]; congr 1; omega
      rw [hX] at hbs1
      have hbs2 : Bs (w1.setCell ⟨b, 1, none⟩ (.int .i64 ((q + v : Nat) : Int))) A' ((l.drop q).take v) := hbs1.kept (Lib.grownBy_setCell w1 b 1 _) (fun i cs f e => by cases e; exact hr.no cs f)
      rw [show ((q + v : Nat) : Int) = (q : Int) + v from rfl] at hrun hst hbs2
      have hstr : ∀ nq nr, (convert 23 9 (.slice A' v c')).run Try.prog (((w1.drewN nq).setCell ⟨b, 1, none⟩ (.int .i64 ((q : Int) + v))).drewN nr) = .ok (S ((l.drop q).take v)) (((w1.drewN nq).setCell ⟨b, 1, none⟩ (.int .i64 ((q : Int) + v))).drewN nr) :=
        fun nq nr => to_str _ A' v c' _ (show Bs (((w1.drewN nq).setCell ⟨b, 1, none⟩ (.int .i64 ((q : Int) + v))).drewN nr) A' ((l.drop q).take v) from hbs2) HLEN.out HBL.out
      have HR := Lib.hid hr
      have HB := Lib.hid hbt
      have HST := Lib.hid hst
      clear hr hbt hst hbs1 hbs2 hX hcut hbs r1 r2 r3 r5 r6 fz
      go_wp2_with (go_at_call 42; refine (HA.out _ HR.out).mono ?_; rintro e w' ⟨rfl, rfl⟩)
      go_quiet (fail)
      go_wp2
      go_quiet (fail)
      go_wp2
      go_ret
      exact ⟨rfl, HST.out, HB.out.trans (((But.refl b w1).drewN).set 1 _).drewN⟩
end Go.Proofs.Ytchhibicbgimcaa.refr

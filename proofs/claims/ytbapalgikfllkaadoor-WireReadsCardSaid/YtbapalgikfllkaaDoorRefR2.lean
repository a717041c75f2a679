/-
  What the reference's reader answers: a byte, a number, one with a sign, a text, its end; where it stands, how many are left, what failed.
-/
import Derived.Test.YtbapalgikfllkaaDoorRefR
namespace Go.Proofs.YtbapalgikfllkaaDoor.refr
open Go.RowKit
open Go.Proofs.YtbapalgikfllkaaDoor.num Go.Proofs.YtbapalgikfllkaaDoor.words Go.Proofs.YtbapalgikfllkaaDoor.rdnum Go.Proofs.YtbapalgikfllkaaDoor.rdr Go.Proofs.YtbapalgikfllkaaDoor.give

theorem RR.apart {w : World} {b : Nat} {s : Rs} (h : RR w b s) {A : Option Addr} {l : List Nat} (hb : Bs w A l) {j u} (hj : (B l)[j]? = some u) : ∃ a, A = some a ∧ a.block ≠ b ∧ w.cell? (a.add j) = some u := by
  rcases hb with rfl | ⟨a, rfl, ⟨cs, f, hh⟩, hc⟩
  · simp [B] at hj
  · exact ⟨a, rfl, fun e => h.no cs f (e ▸ hh), hc j u hj⟩
/-- a dead reader answers its zero value -/
theorem did_dead {α : Type} {b : Nat} {s : Rs} {r : Rr α} {z : α} {val : α → Value} {w w' : World} (h : RR w b s) (hs : s.e ≠ 0) (hw : Below w.heap.size w w') : DidR b s r z val w (.returned (val z)) w' :=
  ⟨by rw [Rs.ans_dead hs], by rw [Rs.go_dead hs]; exact h.below hw, But.of hw⟩

set_option maxRecDepth 100000 in
set_option maxHeartbeats 800000 in
theorem byte_r (b : Nat) (s : Rs) (w : World) (h : RR w b s) : Calls Tryd.prog 60 #[.pointer (some ⟨b, 0, none⟩)] w (DidR b s (byteT s.l s.p) 0 (fun x : Nat => .int .u8 (x : Int)) w) := by
  by_cases hs : s.e = 0
  · obtain ⟨A, n, c, L, c0, c1, c2, c3, c4, fz, r1, r2, r3, r5, r6, hb, hp, hby⟩ := partsR h
    have f1 := fz 1
    have ha := Lib.hid (alive_r b s w h hs)
    have H := Lib.hid h
    have hyl := h.1.byte
    have hno := h.no
    obtain ⟨l, p, e0, f⟩ := s
    dsimp only at *
    subst hs
    have hlI : (l.length : Int) ≤ 140737488355328 := by omega
    have hpI : (p : Int) ≤ (l.length : Int) := by omega
    by_cases hlt : p < l.length
    · obtain ⟨x, hat⟩ : ∃ x, l[p]? = some x := ⟨_, List.getElem?_eq_getElem hlt⟩
      have hatL : L[p]? = some x := by rw [r5, List.getElem?_take, if_pos (by omega)] at hat; exact hat
      have hx : x < 256 := hyl x (List.mem_of_getElem? hat)
      have hbt : byteT l p = ⟨x, p + 1, 0, 0⟩ := by unfold byteT; rw [if_pos hlt, List.getD_eq_getElem?_getD, hat]; rfl
      rw [hbt]
      obtain ⟨a, rfl, hne, hca⟩ := RR.apart H.out hb (B_at hatL)
      have hge : ¬ (l.length : Int) ≤ (p : Int) := by omega
      have hpn : (p : Int) < (n : Int) := by omega
      have hnI : (n : Int) ≤ 140737488355328 := by omega
      have hwr : IntKind.i64.wrap (p : Int) = p := IntWalk.i64_in _ (by omega)
      have HS := Lib.hid (setpR H.out (q := p + 1) (by simp; omega))
      have ha1 : ∀ n, ((w.drewN n).setCell ⟨b, 1, none⟩ (.int .i64 ((p : Int) + 1))).cell? (a.add p) = some (.int .u8 (x : Int)) := fun n => by rw [World.cell?_setCell_far _ _ _ _ (by rw [add_block]; exact fun e => hne e.symm)]; exact hca
      clear hby hyl hat hatL hbt hb hne hca r1 r2 r3 r5 r6 fz h hno
      go_enter Tryd.func60, Tryd.ntmps60
      go_wp2_with (go_at_call 101; refine ha.out.mono ?_; rintro e w' ⟨rfl, rfl⟩)
      go_quiet (fail)
      go_wp2
      go_quiet (fail)
      go_wp2
      go_ret
      exact ⟨rfl, HS.out, (((But.refl b w).drewN).set 1 _).drewN⟩
    · have hbt : byteT l p = ⟨0, 0, 2, p⟩ := by unfold byteT; rw [if_neg hlt]
      rw [hbt]
      have hge : (l.length : Int) ≤ (p : Int) := by omega
      have HF := Lib.hid (fun wx (h : RR wx b ⟨l, p, 0, f⟩) => fail_r b ⟨l, p, 0, f⟩ 2 p wx h rfl (by omega))
      clear hby hyl hbt hb r1 r2 r3 r5 r6 fz h hno
      go_enter Tryd.func60, Tryd.ntmps60
      go_wp2_with (go_at_call 101; refine ha.out.mono ?_; rintro e w' ⟨rfl, rfl⟩)
      go_quiet (fail)
      go_wp2_with fail
      refine (HF.out _ H.out.drewN).mono ?_
      rintro e' w2 ⟨rfl, hr2, hb2⟩
      have HR2 := Lib.hid hr2
      have HB2 := Lib.hid hb2
      clear hr2 hb2
      go_wp2
      go_ret
      exact ⟨rfl, HR2.out, HB2.out.undrew⟩
  · have ha := Lib.hid (dead_r b s w h hs)
    have HS := Lib.hid hs
    have H := Lib.hid h
    clear hs h
    go_enter Tryd.func60, Tryd.ntmps60
    go_wp2_with (go_at_call 101; refine ha.out.mono ?_; rintro e w' ⟨rfl, rfl⟩)
    go_ret
    exact did_dead H.out HS.out (Below.refl _ _)

set_option maxRecDepth 100000 in
set_option maxHeartbeats 800000 in
theorem end_r (b : Nat) (s : Rs) (w : World) (h : RR w b s) : Calls Tryd.prog 65 #[.pointer (some ⟨b, 0, none⟩)] w (DidR b s (endT s.l s.p) 0 (fun x : Nat => .bool (x == 1)) w) := by
  by_cases hs : s.e = 0
  · obtain ⟨A, n, c, L, c0, c1, c2, c3, c4, fz, r1, r2, r3, r5, r6, hb, hp, hby⟩ := partsR h
    have ha := Lib.hid (alive_r b s w h hs)
    have H := Lib.hid h
    obtain ⟨l, p, e0, f⟩ := s
    dsimp only at *
    subst hs
    have hlI : (l.length : Int) ≤ 140737488355328 := by omega
    have hpI : (p : Int) ≤ (l.length : Int) := by omega
    by_cases hlt : p < l.length
    · have hbt : endT l p = ⟨0, 0, 1, p⟩ := by unfold endT; rw [if_pos hlt]
      rw [hbt]
      have HF := Lib.hid (fun wx (h : RR wx b ⟨l, p, 0, f⟩) => fail_r b ⟨l, p, 0, f⟩ 1 p wx h rfl (by omega))
      clear hby hbt hb r1 r2 r3 r5 r6 fz h
      go_enter Tryd.func65, Tryd.ntmps65
      go_wp2_with (go_at_call 101; refine ha.out.mono ?_; rintro e w' ⟨rfl, rfl⟩)
      go_quiet (fail)
      go_wp2_with fail
      refine (HF.out _ H.out.drewN).mono ?_
      rintro e' w2 ⟨rfl, hr2, hb2⟩
      have HR2 := Lib.hid hr2
      have HB2 := Lib.hid hb2
      clear hr2 hb2
      go_wp2
      go_ret
      exact ⟨rfl, HR2.out, HB2.out.undrew⟩
    · have hbt : endT l p = ⟨1, p, 0, 0⟩ := by unfold endT; rw [if_neg hlt]
      rw [hbt]
      clear hby hbt hb r1 r2 r3 r5 r6 fz h
      go_enter Tryd.func65, Tryd.ntmps65
      go_wp2_with (go_at_call 101; refine ha.out.mono ?_; rintro e w' ⟨rfl, rfl⟩)
      go_quiet (fail)
      go_wp2
      go_ret
      exact ⟨rfl, H.out.drewN, (But.refl _ _).drewN⟩
  · have ha := Lib.hid (dead_r b s w h hs)
    have HS := Lib.hid hs
    have H := Lib.hid h
    clear hs h
    go_enter Tryd.func65, Tryd.ntmps65
    go_wp2_with (go_at_call 101; refine ha.out.mono ?_; rintro e w' ⟨rfl, rfl⟩)
    go_ret
    exact did_dead H.out HS.out (Below.refl _ _)

set_option maxRecDepth 100000 in
set_option maxHeartbeats 800000 in
theorem signed_r (b : Nat) (s : Rs) (w : World) (h : RR w b s) : Calls Tryd.prog 62 #[.pointer (some ⟨b, 0, none⟩)] w (DidR b s (lebT s.l s.p) 0 (fun x : Nat => .int .i64 (small.zag (x : Int))) w) := by
  by_cases hs : s.e = 0
  · have ha := Lib.hid (alive_r b s w h hs)
    have ht := Lib.hid (take_r b s w h hs)
    have hvI : ((lebT s.l s.p).v : Int) ≤ 18446744073709551615 := by
      by_cases he : (lebT s.l s.p).e = 0
      · have := (lebT_ok h.1.le h.1.byte he).2.1; omega
      · rw [(lebT_err h.1.le he).2.1]; omega
    have hans : s.ans (lebT s.l s.p) 0 = (lebT s.l s.p).v := by
      by_cases he : (lebT s.l s.p).e = 0
      · exact Rs.ans_ok hs he
      · rw [Rs.ans_err he, (lebT_err h.1.le he).2.1]
    have HA := Lib.hid hans
    clear hans h
    go_enter Tryd.func62, Tryd.ntmps62
    go_wp2_with (go_at_call 101; refine ha.out.mono ?_; rintro e w' ⟨rfl, rfl⟩)
    refine ht.out.mono ?_
    rintro e w1 ⟨rfl, hr, hb⟩
    have HR := Lib.hid hr
    have HB := Lib.hid hb
    clear hr hb
    go_wp2_with (go_at_call 106; refine (small.rzag_any _ _ (by omega) hvI).mono ?_; rintro e w2 ⟨rfl, rfl⟩)
    go_ret
    exact ⟨by rw [HA.out]; rfl, HR.out, HB.out⟩
  · have ha := Lib.hid (dead_r b s w h hs)
    have HS := Lib.hid hs
    have H := Lib.hid h
    clear hs h
    go_enter Tryd.func62, Tryd.ntmps62
    go_wp2_with (go_at_call 101; refine ha.out.mono ?_; rintro e w' ⟨rfl, rfl⟩)
    go_ret
    exact did_dead (z := 0) H.out HS.out (Below.refl _ _)
end Go.Proofs.YtbapalgikfllkaaDoor.refr

/-
  What the reference's reader answers of a section, where a number stands behind the id.
-/
import Derived.Test.YtbapalgikfllkaaDoorRefR5
namespace Go.Proofs.YtbapalgikfllkaaDoor.refr
open Go.RowKit
open Go.Proofs.YtbapalgikfllkaaDoor.num Go.Proofs.YtbapalgikfllkaaDoor.words Go.Proofs.YtbapalgikfllkaaDoor.rdnum Go.Proofs.YtbapalgikfllkaaDoor.rdr Go.Proofs.YtbapalgikfllkaaDoor.give Go.Proofs.YtbapalgikfllkaaDoor.sealing

theorem new_rrL {w : World} {A : Option Addr} {n c p to : Nat} {L : List Nat} (hl : L.length = n) (hc : n ≤ c) (hb : Bs w A L) (ht : to ≤ n) (hp : p ≤ to) (hn : n ≤ 140737488355328) (hby : ∀ x ∈ L, x < 256) :
    RR (w.alloc (.cells #[.slice A n c, .int .i64 (p : Int), .int .i64 (to : Int), .int .i64 0, .int .i64 0] 74)) w.heap.size ⟨L.take to, p, 0, 0⟩ := by
  subst hl
  have hlen : (L.take to).length = to := by rw [List.length_take]; omega
  refine ⟨⟨by rw [hlen]; exact hp, by rw [hlen]; omega, fun x hx => hby x (List.mem_of_mem_take hx), fun _ => rfl⟩, A, _, c, L, ?_, rfl, hc, hn, hby, ?_, ?_, hb.below ((Below.refl _ _).alloc (Nat.le_refl _) _)⟩
  · rw [heap_alloc_new]; dsimp only; rw [hlen]; rfl
  · dsimp only; rw [hlen]
  · dsimp only; rw [hlen]; exact ht

set_option maxRecDepth 100000 in
set_option maxHeartbeats 1600000 in
theorem sect_rest_r (b : Nat) (s : Rs) (id : Nat) (w : World) (h : RR w b s) (hs : s.e = 0) (h0 : (byteT s.l s.p).e = 0) (hv : (byteT s.l s.p).v = id) (he : (numT s.l (s.p + 1) 65536).e = 0) :
    Calls Tryd.prog 64 #[.pointer (some ⟨b, 0, none⟩), .int .u8 (id : Int)] w (DidRS b s (sectT s.l s.p id) w) := by
  obtain ⟨A, n, c, L, c0, c1, c2, c3, c4, fz, r1, r2, r3, r5, r6, hb, hp, hby⟩ := partsR h
  have ha := Lib.hid (alive_r b s w h hs)
  have hB := byte_r b s w h
  have hyl := h.1.byte
  have hll := h.1.len
  have hlt := h.lt
  clear c0 c2 c3 c4 fz r1 r2 r3 r5 r6 hb hby
  have hq := byteT_q h0
  have hno := numT_ok (m := 65536) (show s.p + 1 ≤ s.l.length by omega) hyl he
  have hnv : (numT s.l (s.p + 1) 65536).v ≤ 65536 := by rw [hno.2.1]; have := hno.2.2.1; omega
  have hnq := hno.2.2.2.2.1
  have ht : sectT s.l s.p id = if s.l.length - (numT s.l (s.p + 1) 65536).q < (numT s.l (s.p + 1) 65536).v + 4 then ⟨(0, 0), 0, 2, (numT s.l (s.p + 1) 65536).q⟩
      else if (openL ((s.l.drop (numT s.l (s.p + 1) 65536).q).take ((numT s.l (s.p + 1) 65536).v + 4))).2 ≠ 0 then ⟨(0, 0), 0, (openL ((s.l.drop (numT s.l (s.p + 1) 65536).q).take ((numT s.l (s.p + 1) 65536).v + 4))).2, (numT s.l (s.p + 1) 65536).q⟩
      else ⟨((numT s.l (s.p + 1) 65536).q, (numT s.l (s.p + 1) 65536).v), (numT s.l (s.p + 1) 65536).q + (numT s.l (s.p + 1) 65536).v + 4, 0, 0⟩ := by
    unfold sectT; rw [if_neg (by simpa using h0), if_neg (by simpa using hv), if_neg (by simpa using he)]
  rw [ht]
  have hN := fun wx (h : RR wx b ⟨s.l, s.p + 1, 0, s.f⟩) => num_r b ⟨s.l, s.p + 1, 0, s.f⟩ 65536 wx h (by omega) (by omega)
  unfold DidR at hN hB
  rw [Rs.ans_ok (s := ⟨s.l, s.p + 1, 0, s.f⟩) rfl he, Rs.go_ok (s := ⟨s.l, s.p + 1, 0, s.f⟩) rfl he] at hN
  rw [Rs.ans_ok hs h0, Rs.go_ok hs h0, hv, hq.1] at hB
  obtain ⟨l, p, e0, f⟩ := s
  dsimp only at *
  subst hs
  generalize (numT l (p + 1) 65536).v = nv at *
  generalize (numT l (p + 1) 65536).q = mq at *
  have HN := Lib.hid hN
  have HA := Lib.hid (fun wx (h : RR wx b ⟨l, p + 1, 0, f⟩) => alive_r b _ wx h rfl)
  have HA2 := Lib.hid (fun wx (h : RR wx b ⟨l, mq, 0, f⟩) => alive_r b _ wx h rfl)
  have HB := Lib.hid hB
  have hvI : (nv : Int) ≤ 65536 := by omega
  have hqI : (mq : Int) ≤ (l.length : Int) := by omega
  have hlI : (l.length : Int) ≤ 140737488355328 := by omega
  clear hB hN ht hq he hv h h0 hno
  by_cases hsh : l.length - mq < nv + 4
  · rw [if_pos hsh]
    have hI : (l.length : Int) - (mq : Int) < (nv : Int) + 4 := by omega
    have HF := Lib.hid (fun wx (h : RR wx b ⟨l, mq, 0, f⟩) => fail_r b ⟨l, mq, 0, f⟩ 2 mq wx h rfl (by omega))
    clear hsh hyl
    go_enter Tryd.func64, Tryd.ntmps64
    go_wp2_with fail
    refine ha.out.mono ?_
    rintro e w0 ⟨rfl, rfl⟩
    go_wp2_with fail
    refine HB.out.mono ?_
    rintro e w1 ⟨rfl, hr, hbt⟩
    have HR := Lib.hid hr
    have HT := Lib.hid hbt
    clear hr hbt c1
    go_wp2_with fail
    refine (HA.out _ HR.out).mono ?_
    rintro e w2 ⟨rfl, rfl⟩
    go_wp2_with fail
    refine (HN.out _ HR.out).mono ?_
    rintro e w2 ⟨rfl, hr2, hbt2⟩
    obtain ⟨A1, n1, d1, L1, -, k1, k2, -⟩ := partsR hr2
    dsimp only at k1 k2
    have HR2 := Lib.hid hr2
    have HT2 := Lib.hid (HT.out.trans hbt2)
    clear hr2 hbt2
    go_wp2_with fail
    refine (HA2.out _ HR2.out).mono ?_
    rintro e w3 ⟨rfl, rfl⟩
    go_wp2_with fail
    go_quiet (fail)
    go_wp2_with fail
    refine (HF.out _ HR2.out.drewN).mono ?_
    rintro e w4 ⟨rfl, hr4, hb4⟩
    have HR4 := Lib.hid hr4
    have HB4 := Lib.hid (HT2.out.trans hb4.undrew)
    clear hr4 hb4 k1 k2
    go_wp2
    go_ret
    exact ⟨.inr ⟨.inr (by simp), rfl⟩, HR4.out, HB4.out⟩
  · rw [if_neg hsh]
    have hI : decide ((l.length : Int) - (mq : Int) < (nv : Int) + 4) = false := by simp; omega
    have hbl : ∀ x ∈ (l.drop mq).take (nv + 4), x < 256 := fun x hx => hyl x (List.mem_of_mem_drop (List.mem_of_mem_take hx))
    have hlX : ((l.drop mq).take (nv + 4)).length = nv + 4 := by rw [List.length_take, List.length_drop]; omega
    have hqn : mq + nv + 4 ≤ l.length := by omega
    have hlnI : (mq : Int) + nv + 4 ≤ 140737488355328 := by omega
    have HW1 := Lib.hid (IntWalk.i64_in ((mq : Int) + nv) (by omega))
    have HW2 := Lib.hid (IntWalk.i64_in ((mq : Int) + nv + 4) (by omega))
    have hoe := openL_e ((l.drop mq).take (nv + 4))
    obtain ⟨X, hX0⟩ : ∃ X, (l.drop mq).take (nv + 4) = X := ⟨_, rfl⟩
    rw [hX0] at hbl hlX hoe ⊢
    have HX := Lib.hid hX0
    have HBL := Lib.hid hbl; have HLX := Lib.hid hlX
    clear hsh hyl hbl hlX hX0
    by_cases ho : (openL X).2 = 0
    · rw [if_neg (by simpa using ho)]
      have HOP := Lib.hid ho
      clear ho hoe
      go_enter Tryd.func64, Tryd.ntmps64
      go_wp2_with fail
      refine ha.out.mono ?_
      rintro e w0 ⟨rfl, rfl⟩
      go_wp2_with fail
      refine HB.out.mono ?_
      rintro e w1 ⟨rfl, hr, hbt⟩
      have HR := Lib.hid hr
      have HT := Lib.hid hbt
      clear hr hbt c1
      go_wp2_with fail
      refine (HA.out _ HR.out).mono ?_
      rintro e w2 ⟨rfl, rfl⟩
      go_wp2_with fail
      refine (HN.out _ HR.out).mono ?_
      rintro e w2 ⟨rfl, hr2, hbt2⟩
      obtain ⟨A1, n1, d1, L1, k0, k1, k2, k3, k4, fz, r1, r2, r3, r5, r6, hbs, -, hby1⟩ := partsR hr2
      dsimp only at k0 k1 k2 k3 k4 r5 r6
      obtain ⟨A', c', hc', hcut, hrun⟩ := cutB A1 n1 d1 mq (mq + nv + 4) (by omega) (by omega)
      have hbs1 := hcut _ _ hbs (by omega)
      rw [show mq + nv + 4 - mq = nv + 4 by omega] at hc' hrun hbs1
      have hX : (L1.drop mq).take (nv + 4) = X := by rw [← HX.out, r5, List.drop_take, List.take_take]; congr 1; omega
      rw [hX] at hbs1
      rw [show ((mq + nv + 4 : Nat) : Int) = (mq : Int) + nv + 4 from rfl] at hrun
      have hop : ∀ wx, Rd wx A' (B X) → Calls Tryd.prog 107 #[.slice A' (nv + 4) c'] wx fun e w' => ∃ v, e = .returned (.tuple #[v, .int .i64 ((openL X).2 : Int)]) ∧ Below wx.heap.size wx w' :=
        fun wx hrd => (ropen_any A' (nv + 4) c' X wx hrd HLX.out hc' (by omega) HBL.out).mono fun e w' ⟨v, h1, _, h2⟩ => ⟨v, h1, h2⟩
      rw [HOP.out] at hop
      have HO := Lib.hid hop
      have HRd := Lib.hid hbs1.rd
      have HL1 := Lib.hid (And.intro r1 (And.intro r2 (And.intro r3 (And.intro r5 (And.intro r6 hby1)))))
      have HBS := Lib.hid hbs
      have HFz := Lib.hid fz
      have HR2 := Lib.hid hr2
      have HT2 := Lib.hid (HT.out.trans hbt2)
      have hbI : b < w2.heap.size := hr2.lt
      clear hr2 hbt2 hbs hbs1 hX hcut r1 r2 r3 r5 r6 hby1 fz hop
      go_wp2_with fail
      refine (HA2.out _ HR2.out).mono ?_
      rintro e w3 ⟨rfl, rfl⟩
      go_wp2_with fail
      go_quiet (fail)
      go_wp2_with fail
      have hw1 := HW1.out
      have hw2 := HW2.out
      go_region_held3 (fun w' => w'.cell? ⟨b, 0, none⟩ = some (.slice A1 n1 d1) ∧ w'.cell? ⟨b, 1, none⟩ = some (.int .i64 (mq : Int))) (go_keep)
        (first | (go_at_call 107; refine (HO.out _ ?_).mono ?_; exact HRd.out; rintro e w4 ⟨v4, rfl, hb4⟩; have q0 := (hb4.cell (p := ⟨b, 0, none⟩) hbI).trans k0; have q1 := (hb4.cell (p := ⟨b, 1, none⟩) hbI).trans k1))
      have hb24 : Below w2.heap.size w2 w4 := under hb4
      have hr4 := HR2.out.below hb24
      have HR4 := Lib.hid hr4
      have HT4 := Lib.hid (HT2.out.trans (But.of hb24))
      have HB24 := Lib.hid hb24
      obtain ⟨-, -, -, -, -, -, -, -, -, fz4, -⟩ := partsR hr4
      have hlt4 := hr4.lt
      have f41 := fz4 1
      have hsz4 := hb24.size
      clear hb4 hb24 hr4 fz4 hrun HO
      go_wp2_with fail
      go_region
      have hb45 : Below w4.heap.size w4 ((w4.alloc (Obj.cells #[Value.slice A1 n1 d1, Value.int IntKind.i64 ↑mq, Value.int IntKind.i64 (↑mq + ↑nv), Value.int IntKind.i64 0, Value.int IntKind.i64 0] 74)).drew) := ((Below.refl _ _).alloc (Nat.le_refl _) _).drew
      obtain ⟨r1, r2, r3, r5, r6, hby1⟩ := HL1.out
      have hnew : RR ((w4.alloc (Obj.cells #[Value.slice A1 n1 d1, Value.int IntKind.i64 ↑mq, Value.int IntKind.i64 (↑mq + ↑nv), Value.int IntKind.i64 0, Value.int IntKind.i64 0] 74)).drew) w4.heap.size ⟨L1.take (mq + nv), mq, 0, 0⟩ := new_rrL (to := mq + nv) r1 r2 (HBS.out.below HB24.out) (by omega) (by omega) r3 hby1
      have hLt : L1.take (mq + nv) = l.take (mq + nv) := by rw [r5, List.take_take]; congr 1; omega
      rw [hLt] at hnew
      have hr5 := HR4.out.below hb45
      have k51 := (hb45.cell (p := ⟨b, 1, none⟩) hlt4).trans q1
      have f51 := (hb45.frozen (p := ⟨b, 1, none⟩) hlt4).trans f41
      have HW3 := Lib.hid (IntWalk.i64_in ((mq : Int) + ((nv : Int) + 4)) (by omega))
      have HN5 := Lib.hid hnew
      have HR5 := Lib.hid hr5
      have HB5 := Lib.hid hb45
      clear r1 r2 r3 r5 r6 hby1 hnew hLt hr5 hb45 q0 q1 f41 k0 k1 k2 k3 k4 HL1 HBS HFz hw1 hw2
      generalize ((w4.alloc (Obj.cells #[Value.slice A1 n1 d1, Value.int IntKind.i64 ↑mq, Value.int IntKind.i64 (↑mq + ↑nv), Value.int IntKind.i64 0, Value.int IntKind.i64 0] 74)).drew) = w5 at *
      have HGE := Lib.hid (Nat.le_trans HT4.out.size (Nat.le_refl _))
      have HNE := Lib.hid (show w4.heap.size ≠ b by omega)
      generalize hg4 : w4.heap.size = g4 at *
      have HG4 := Lib.hid hg4
      clear hg4
      have hst := setpR HR5.out (q := mq + (nv + 4)) (by dsimp only; omega)
      have hst2 := HN5.out.kept (Lib.grownBy_setCell w5 b 1 (.int .i64 ((mq + (nv + 4) : Nat) : Int))) HNE.out HR5.out.no
      have HST := Lib.hid hst
      have HST2 := Lib.hid hst2
      clear hst hst2
      have hw3 := HW3.out
      go_wp2
      go_ret
      have hq4 : mq + nv + 4 = mq + (nv + 4) := by omega
      refine ⟨.inl ⟨rfl, rfl, g4, rfl, ?_, HST2.out⟩, ?_, ?_⟩
      · exact HGE.out
      · rw [hq4]; exact HST.out
      · exact (HT4.out.trans (But.of (by rw [HG4.out]; exact HB5.out))).set 1 _
    · rw [if_pos ho]
      have HNE := Lib.hid ho
      have hne2 : (((openL X).2 : Int) != 0) = true := by simp; omega
      generalize hY : (openL X).2 = Y at *
      have HOP := Lib.hid hY
      have HF := Lib.hid (fun wx (h : RR wx b ⟨l, mq, 0, f⟩) => fail_r b ⟨l, mq, 0, f⟩ (Y : Int) mq wx h rfl (by omega))
      clear ho hoe hY
      go_enter Tryd.func64, Tryd.ntmps64
      go_wp2_with fail
      refine ha.out.mono ?_
      rintro e w0 ⟨rfl, rfl⟩
      go_wp2_with fail
      refine HB.out.mono ?_
      rintro e w1 ⟨rfl, hr, hbt⟩
      have HR := Lib.hid hr
      have HT := Lib.hid hbt
      clear hr hbt c1
      go_wp2_with fail
      refine (HA.out _ HR.out).mono ?_
      rintro e w2 ⟨rfl, rfl⟩
      go_wp2_with fail
      refine (HN.out _ HR.out).mono ?_
      rintro e w2 ⟨rfl, hr2, hbt2⟩
      obtain ⟨A1, n1, d1, L1, k0, k1, k2, k3, k4, fz, r1, r2, r3, r5, r6, hbs, -, hby1⟩ := partsR hr2
      dsimp only at k0 k1 k2 k3 k4 r5 r6
      obtain ⟨A', c', hc', hcut, hrun⟩ := cutB A1 n1 d1 mq (mq + nv + 4) (by omega) (by omega)
      have hbs1 := hcut _ _ hbs (by omega)
      rw [show mq + nv + 4 - mq = nv + 4 by omega] at hc' hrun hbs1
      have hX : (L1.drop mq).take (nv + 4) = X := by rw [← HX.out, r5, List.drop_take, List.take_take]; congr 1; omega
      rw [hX] at hbs1
      rw [show ((mq + nv + 4 : Nat) : Int) = (mq : Int) + nv + 4 from rfl] at hrun
      have hop : ∀ wx, Rd wx A' (B X) → Calls Tryd.prog 107 #[.slice A' (nv + 4) c'] wx fun e w' => ∃ v, e = .returned (.tuple #[v, .int .i64 ((openL X).2 : Int)]) ∧ Below wx.heap.size wx w' :=
        fun wx hrd => (ropen_any A' (nv + 4) c' X wx hrd HLX.out hc' (by omega) HBL.out).mono fun e w' ⟨v, h1, _, h2⟩ => ⟨v, h1, h2⟩
      rw [HOP.out] at hop
      have HO := Lib.hid hop
      have HRd := Lib.hid hbs1.rd
      have HL1 := Lib.hid (And.intro r1 (And.intro r2 (And.intro r3 (And.intro r5 (And.intro r6 hby1)))))
      have HBS := Lib.hid hbs
      have HFz := Lib.hid fz
      have HR2 := Lib.hid hr2
      have HT2 := Lib.hid (HT.out.trans hbt2)
      have hbI : b < w2.heap.size := hr2.lt
      clear hr2 hbt2 hbs hbs1 hX hcut r1 r2 r3 r5 r6 hby1 fz hop
      go_wp2_with fail
      refine (HA2.out _ HR2.out).mono ?_
      rintro e w3 ⟨rfl, rfl⟩
      go_wp2_with fail
      go_quiet (fail)
      go_wp2_with fail
      have hw1 := HW1.out
      have hw2 := HW2.out
      go_region_held3 (fun w' => w'.cell? ⟨b, 0, none⟩ = some (.slice A1 n1 d1) ∧ w'.cell? ⟨b, 1, none⟩ = some (.int .i64 (mq : Int))) (go_keep)
        (first | (go_at_call 107; refine (HO.out _ ?_).mono ?_; exact HRd.out; rintro e w4 ⟨v4, rfl, hb4⟩; have q0 := (hb4.cell (p := ⟨b, 0, none⟩) hbI).trans k0; have q1 := (hb4.cell (p := ⟨b, 1, none⟩) hbI).trans k1))
      have hb24 : Below w2.heap.size w2 w4 := under hb4
      have HR4 := Lib.hid (HR2.out.below hb24)
      have HT4 := Lib.hid (HT2.out.trans (But.of hb24))
      clear hb4 hb24 hrun HO
      go_wp2_with fail
      refine (HF.out _ HR4.out).mono ?_
      rintro e w5 ⟨rfl, hr5, hb5⟩
      have HR5 := Lib.hid hr5
      have HB5 := Lib.hid (HT4.out.trans hb5)
      clear hr5 hb5 q0 q1 k0 k1 k2 k3 k4
      go_wp2
      go_ret
      exact ⟨.inr ⟨.inr HNE.out, rfl⟩, by rw [Rs.go_err (r := (⟨(0, 0), 0, Y, mq⟩ : Rr (Nat × Nat))) rfl HNE.out]; exact HR5.out, HB5.out⟩

/-- A SECTION, whatever stands there. -/
theorem sect_r (b : Nat) (s : Rs) (id : Nat) (w : World) (h : RR w b s) :
    Calls Tryd.prog 64 #[.pointer (some ⟨b, 0, none⟩), .int .u8 (id : Int)] w (DidRS b s (sectT s.l s.p id) w) := by
  by_cases hs : s.e = 0
  · by_cases h0 : (byteT s.l s.p).e = 0
    · by_cases hv : (byteT s.l s.p).v = id
      · by_cases he : (numT s.l (s.p + 1) 65536).e = 0
        · exact sect_rest_r b s id w h hs h0 hv he
        · exact sect_num_r b s id w h hs h0 hv he
      · exact sect_first_r b s id w h hs (.inr hv)
    · exact sect_first_r b s id w h hs (.inl h0)
  · exact sect_dead b s id w h hs
end Go.Proofs.YtbapalgikfllkaaDoor.refr

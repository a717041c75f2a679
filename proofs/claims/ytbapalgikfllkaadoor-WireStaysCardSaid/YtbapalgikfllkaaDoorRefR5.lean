/-
  What the reference's reader answers of a section.
-/
import Derived.Test.YtbapalgikfllkaaDoorRefR4
import Derived.Deep.RegionHeld3
namespace Go.Proofs.YtbapalgikfllkaaDoor.refr
open Go.RowKit
open Go.Proofs.YtbapalgikfllkaaDoor.num Go.Proofs.YtbapalgikfllkaaDoor.words Go.Proofs.YtbapalgikfllkaaDoor.rdnum Go.Proofs.YtbapalgikfllkaaDoor.rdr Go.Proofs.YtbapalgikfllkaaDoor.give Go.Proofs.YtbapalgikfllkaaDoor.sealing

/-- A SECTION's READER, or none, and the reader behind it. -/
def DidRS (b : Nat) (s : Rs) (r : Rr (Nat × Nat)) (w : World) (e : Ending) (w' : World) : Prop :=
  ((s.e = 0 ∧ r.e = 0 ∧ ∃ g, e = .returned (.pointer (some ⟨g, 0, none⟩)) ∧ w.heap.size ≤ g ∧ RR w' g ⟨s.l.take (r.v.1 + r.v.2), r.v.1, 0, 0⟩) ∨
    ((s.e ≠ 0 ∨ r.e ≠ 0) ∧ e = .returned (.pointer none))) ∧ RR w' b (s.go r) ∧ But b w w'

set_option maxRecDepth 100000 in
set_option maxHeartbeats 400000 in
theorem sect_dead (b : Nat) (s : Rs) (id : Nat) (w : World) (h : RR w b s) (hs : s.e ≠ 0) :
    Calls Tryd.prog 64 #[.pointer (some ⟨b, 0, none⟩), .int .u8 (id : Int)] w (DidRS b s (sectT s.l s.p id) w) := by
  have ha := Lib.hid (dead_r b s w h hs)
  have HG := Lib.hid (Rs.go_dead (r := sectT s.l s.p id) hs)
  have HS := Lib.hid hs
  have H := Lib.hid h
  clear hs h
  go_enter Tryd.func64, Tryd.ntmps64
  go_wp2_with (go_at_call 101; refine ha.out.mono ?_; rintro e w' ⟨rfl, rfl⟩)
  go_ret
  exact ⟨.inr ⟨.inl HS.out, rfl⟩, by rw [HG.out]; exact H.out, But.refl _ _⟩

set_option maxRecDepth 100000 in
set_option maxHeartbeats 800000 in
theorem sect_first_r (b : Nat) (s : Rs) (id : Nat) (w : World) (h : RR w b s) (hs : s.e = 0) (he : (byteT s.l s.p).e ≠ 0 ∨ (byteT s.l s.p).v ≠ id) :
    Calls Tryd.prog 64 #[.pointer (some ⟨b, 0, none⟩), .int .u8 (id : Int)] w (DidRS b s (sectT s.l s.p id) w) := by
  obtain ⟨A, n, c, L, c0, c1, c2, c3, c4, fz, r1, r2, r3, r5, r6, hb, hp, hby⟩ := partsR h
  have ha := Lib.hid (alive_r b s w h hs)
  have hB := byte_r b s w h
  clear c0 c2 c3 c4 fz r1 r2 r3 r5 r6 hb hby
  by_cases h0 : (byteT s.l s.p).e = 0
  · have hv : (byteT s.l s.p).v ≠ id := by rcases he with he | he; exact absurd h0 he; exact he
    have ht : sectT s.l s.p id = ⟨(0, 0), 0, 1, s.p⟩ := by unfold sectT; rw [if_neg (by simpa using h0), if_pos hv]
    have hg : s.go (sectT s.l s.p id) = { s with p := s.p, e := 1, f := s.p } := by rw [ht]; exact Rs.go_err hs (by simp)
    have hq := byteT_q h0
    unfold DidR at hB
    rw [Rs.ans_ok hs h0, Rs.go_ok hs h0] at hB
    unfold DidRS
    rw [hg]
    have hE : (sectT s.l s.p id).e ≠ 0 := by rw [ht]; simp
    have HE := Lib.hid hE
    generalize (byteT s.l s.p).v = v at *
    rw [hq.1] at hB
    obtain ⟨l, p, e0, f⟩ := s
    dsimp only at *
    subst hs
    have hb1 : ((v : Int) != (id : Int)) = true := by simp; omega
    have HA := Lib.hid (fun wx (h : RR wx b ⟨l, p + 1, 0, f⟩) => alive_r b _ wx h rfl)
    have HP := Lib.hid (fun wx (h : RR wx b ⟨l, p + 1, 0, f⟩) => setpR h (q := p) hp)
    have HF := Lib.hid (fun wx (h : RR wx b ⟨l, p, 0, f⟩) => fail_r b ⟨l, p, 0, f⟩ 1 p wx h rfl (by omega))
    have HB := Lib.hid hB
    clear hB ht hg hq he hv h h0 hE
    go_enter Tryd.func64, Tryd.ntmps64
    go_wp2_with fail
    refine ha.out.mono ?_
    rintro e w0 ⟨rfl, rfl⟩
    go_wp2_with fail
    refine HB.out.mono ?_
    rintro e w1 ⟨rfl, hr, hbt⟩
    obtain ⟨A1, n1, d1, L1, -, k1, -, -, -, z1, -⟩ := partsR hr
    have z1 := z1 1
    dsimp only at k1
    have HR1 := Lib.hid hr
    have HR := Lib.hid (HP.out _ hr)
    have HT := Lib.hid (hbt.set 1 (.int .i64 (p : Int)))
    clear hr hbt c1
    go_wp2_with fail
    refine (HA.out _ HR1.out).mono ?_
    rintro e w2 ⟨rfl, rfl⟩
    go_wp2_with fail
    refine (HF.out _ HR.out).mono ?_
    rintro e' w2 ⟨rfl, hr2, hb2⟩
    have HR2 := Lib.hid hr2
    have HB2 := Lib.hid (HT.out.trans hb2)
    clear hr2 hb2 z1 k1
    go_wp2
    go_ret
    exact ⟨.inr ⟨.inr HE.out, rfl⟩, HR2.out, HB2.out⟩
  · have ht : sectT s.l s.p id = ⟨(0, 0), 0, (byteT s.l s.p).e, (byteT s.l s.p).f⟩ := by unfold sectT; rw [if_pos h0]
    have hg : s.go (sectT s.l s.p id) = s.go (byteT s.l s.p) := by rw [ht, Rs.go_err (r := byteT s.l s.p) hs h0]; exact Rs.go_err hs h0
    have hE : (sectT s.l s.p id).e ≠ 0 := by rw [ht]; exact h0
    have hsd : (s.go (byteT s.l s.p)).e ≠ 0 := by rw [Rs.go_err hs h0]; simpa using h0
    unfold DidRS
    rw [hg]
    have HE := Lib.hid hE
    have HD := Lib.hid (fun wx (h : RR wx b (s.go (byteT s.l s.p))) => dead_r b _ wx h hsd)
    have HB := Lib.hid hB
    clear hB ht hg he h h0 hE hsd hs
    go_enter Tryd.func64, Tryd.ntmps64
    go_wp2_with fail
    refine ha.out.mono ?_
    rintro e w0 ⟨rfl, rfl⟩
    go_wp2_with fail
    refine HB.out.mono ?_
    rintro e w1 ⟨rfl, hr, hbt⟩
    have HR := Lib.hid hr
    have HT := Lib.hid hbt
    clear hr hbt c1
    go_wp2_with fail
    refine (HD.out _ HR.out).mono ?_
    rintro e w2 ⟨rfl, rfl⟩
    go_wp2
    go_ret
    exact ⟨.inr ⟨.inr HE.out, rfl⟩, HR.out, HT.out⟩

set_option maxRecDepth 100000 in
set_option maxHeartbeats 800000 in
theorem sect_num_r (b : Nat) (s : Rs) (id : Nat) (w : World) (h : RR w b s) (hs : s.e = 0) (h0 : (byteT s.l s.p).e = 0) (hv : (byteT s.l s.p).v = id) (he : (numT s.l (s.p + 1) 65536).e ≠ 0) :
    Calls Tryd.prog 64 #[.pointer (some ⟨b, 0, none⟩), .int .u8 (id : Int)] w (DidRS b s (sectT s.l s.p id) w) := by
  obtain ⟨A, n, c, L, c0, c1, c2, c3, c4, fz, r1, r2, r3, r5, r6, hb, hp, hby⟩ := partsR h
  have ha := Lib.hid (alive_r b s w h hs)
  have hB := byte_r b s w h
  clear c0 c2 c3 c4 fz r1 r2 r3 r5 r6 hb hby
  have ht : sectT s.l s.p id = ⟨(0, 0), 0, (numT s.l (s.p + 1) 65536).e, (numT s.l (s.p + 1) 65536).f⟩ := by unfold sectT; rw [if_neg (by simpa using h0), if_neg (by simpa using hv), if_pos he]
  have hq := byteT_q h0
  have hg : s.go (sectT s.l s.p id) = (Rs.mk s.l (s.p + 1) 0 s.f).go (numT s.l (s.p + 1) 65536) := by
    rw [ht, Rs.go_err (r := numT s.l (s.p + 1) 65536) rfl he]; exact Rs.go_err hs he
  have hE : (sectT s.l s.p id).e ≠ 0 := by rw [ht]; exact he
  have hsd : ((Rs.mk s.l (s.p + 1) 0 s.f).go (numT s.l (s.p + 1) 65536)).e ≠ 0 := by rw [Rs.go_err rfl he]; simpa using he
  have hans : (Rs.mk s.l (s.p + 1) 0 s.f).ans (numT s.l (s.p + 1) 65536) 0 = 0 := Rs.ans_err he
  unfold DidR at hB
  rw [Rs.ans_ok hs h0, Rs.go_ok hs h0, hv, hq.1] at hB
  unfold DidRS
  rw [hg]
  have HE := Lib.hid hE
  obtain ⟨l, p, e0, f⟩ := s
  dsimp only at *
  subst hs
  have HN := Lib.hid (fun wx (h : RR wx b ⟨l, p + 1, 0, f⟩) => num_r b ⟨l, p + 1, 0, f⟩ 65536 wx h (by omega) (by omega))
  have HD := Lib.hid (fun wx (h : RR wx b ((Rs.mk l (p + 1) 0 f).go (numT l (p + 1) 65536))) => dead_r b _ wx h hsd)
  have HA := Lib.hid (fun wx (h : RR wx b ⟨l, p + 1, 0, f⟩) => alive_r b _ wx h rfl)
  have HAn := Lib.hid hans
  have HB := Lib.hid hB
  clear hB ht hg hq he hv h h0 hE hsd hans
  go_enter Tryd.func64, Tryd.ntmps64
  go_wp2_with fail
  refine ha.out.mono ?_
  rintro e w0 ⟨rfl, rfl⟩
  go_wp2_with fail
  refine HB.out.mono ?_
  rintro e w1 ⟨rfl, hr, hbt⟩
  have HR := Lib.hid hr
  have HT := Lib.hid hbt
  clear hr hbt c1
  go_wp2_with fail
  refine (HA.out _ HR.out).mono ?_
  rintro e w2 ⟨rfl, rfl⟩
  go_wp2_with fail
  refine (HN.out _ HR.out).mono ?_
  rintro e w2 ⟨rfl, hr2, hbt2⟩
  have HR2 := Lib.hid hr2
  have HT2 := Lib.hid (HT.out.trans hbt2)
  clear hr2 hbt2
  go_wp2_with fail
  refine (HD.out _ HR2.out).mono ?_
  rintro e w3 ⟨rfl, rfl⟩
  go_wp2
  go_ret
  exact ⟨.inr ⟨.inr HE.out, rfl⟩, HR2.out, HT2.out⟩
end Go.Proofs.YtbapalgikfllkaaDoor.refr

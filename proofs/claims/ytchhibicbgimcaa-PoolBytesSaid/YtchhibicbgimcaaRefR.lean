/-
  What the reference's reader does: whether it is dead, that it fails, a number that is taken; and its reads.
-/
import Derived.Test.YtchhibicbgimcaaWrite
import Derived.Test.YtchhibicbgimcaaTakeR
namespace Go.Proofs.Ytchhibicbgimcaa.refr
open Go.RowKit
open Go.Proofs.Ytchhibicbgimcaa.num Go.Proofs.Ytchhibicbgimcaa.words Go.Proofs.Ytchhibicbgimcaa.rdnum Go.Proofs.Ytchhibicbgimcaa.rdr Go.Proofs.Ytchhibicbgimcaa.give

/-- A READ's ANSWER, and the reader behind it. -/
def DidR {α : Type} (b : Nat) (s : Rs) (r : Rr α) (z : α) (val : α → Value) (w : World) (e : Ending) (w' : World) : Prop :=
  e = .returned (val (s.ans r z)) ∧ RR w' b (s.go r) ∧ But b w w'

/-- the cells of a reader, one by one -/
theorem partsR {w : World} {b : Nat} {s : Rs} (h : RR w b s) : ∃ A n c L, w.cell? ⟨b, 0, none⟩ = some (.slice A n c) ∧ w.cell? ⟨b, 1, none⟩ = some (.int .i64 (s.p : Int)) ∧ w.cell? ⟨b, 2, none⟩ = some (.int .i64 (s.l.length : Int)) ∧ w.cell? ⟨b, 3, none⟩ = some (.int .i64 s.e) ∧ w.cell? ⟨b, 4, none⟩ = some (.int .i64 (s.f : Int)) ∧
    (∀ j, w.frozen? ⟨b, j, none⟩ = false) ∧ L.length = n ∧ n ≤ c ∧ n ≤ 140737488355328 ∧ s.l = L.take s.l.length ∧ s.l.length ≤ n ∧ Bs w A L ∧ s.p ≤ s.l.length ∧ (∀ x ∈ L, x < 256) := by
  obtain ⟨ok, A, n, c, L, h, r1, r2, r3, r4, r5, r6, hb⟩ := h
  refine ⟨A, n, c, L, ?_, ?_, ?_, ?_, ?_, fun j => frozen_of_row w _ j _ _ h, r1, r2, r3, r5, r6, hb, ok.le, r4⟩ <;> rw [cell_of_row w b _ _ _ _ h] <;> rfl
/-- the place is set -/
theorem setpR {w : World} {b : Nat} {s : Rs} (h : RR w b s) {q : Nat} (hq : q ≤ s.l.length) : RR (w.setCell ⟨b, 1, none⟩ (.int .i64 (q : Int))) b { s with p := q } := by
  have hno := h.no
  obtain ⟨ok, A, n, c, L, hh, r1, r2, r3, r4, r5, r6, hb⟩ := h
  refine ⟨⟨hq, ok.len, ok.byte, ok.fe⟩, A, n, c, L, ?_, r1, r2, r3, r4, r5, r6, hb.kept (Lib.grownBy_setCell w b 1 _) (fun i cs f e => by cases e; exact hno cs f)⟩
  rw [heap_setCell_same w b 1 _ _ _ hh]
  rfl
/-- the error and its place are set -/
theorem setfR {w : World} {b : Nat} {s : Rs} (h : RR w b s) {er : Int} {f : Nat} (he : er ≠ 0) : RR ((w.setCell ⟨b, 3, none⟩ (.int .i64 er)).setCell ⟨b, 4, none⟩ (.int .i64 (f : Int))) b { s with e := er, f := f } := by
  have hno := h.no
  obtain ⟨ok, A, n, c, L, hh, r1, r2, r3, r4, r5, r6, hb⟩ := h
  have h1 := heap_setCell_same w b 3 _ _ (.int .i64 er) hh
  have h2 := heap_setCell_same _ b 4 _ _ (.int .i64 (f : Int)) h1
  exact ⟨⟨ok.le, ok.len, ok.byte, fun e => absurd e he⟩, A, n, c, L, h2, r1, r2, r3, r4, r5, r6, hb.kept (((But.refl b w).set 3 _).set 4 _) (fun i cs f e => by cases e; exact hno cs f)⟩

set_option maxRecDepth 100000 in
set_option maxHeartbeats 400000 in
theorem alive_r (b : Nat) (s : Rs) (w : World) (h : RR w b s) (hs : s.e = 0) : Calls Try.prog 42 #[.pointer (some ⟨b, 0, none⟩)] w fun e w' => e = .returned (.bool false) ∧ w = w' := by
  obtain ⟨A, n, c, L, c0, c1, c2, c3, c4, fz, r1, r2, r3, r5, r6, hb, hp, hby⟩ := partsR h
  rw [hs] at c3
  clear h hs c0 c1 c2 c4 fz r1 r2 r3 r5 r6 hb hp hby
  go_enter Try.func42, Try.ntmps42
  go_wp2
  go_ret
  exact ⟨rfl, rfl⟩
set_option maxRecDepth 100000 in
set_option maxHeartbeats 400000 in
theorem dead_r (b : Nat) (s : Rs) (w : World) (h : RR w b s) (hs : s.e ≠ 0) : Calls Try.prog 42 #[.pointer (some ⟨b, 0, none⟩)] w fun e w' => e = .returned (.bool true) ∧ w = w' := by
  obtain ⟨A, n, c, L, c0, c1, c2, c3, c4, fz, r1, r2, r3, r5, r6, hb, hp, hby⟩ := partsR h
  have hne : (s.e != 0) = true := by simpa using hs
  clear h hs c0 c1 c2 c4 fz r1 r2 r3 r5 r6 hb hp hby
  go_enter Try.func42, Try.ntmps42
  go_wp2
  go_ret
  exact ⟨rfl, rfl⟩
set_option maxRecDepth 100000 in
set_option maxHeartbeats 400000 in
theorem fail_r (b : Nat) (s : Rs) (er : Int) (at_ : Nat) (w : World) (h : RR w b s) (hs : s.e = 0) (he : er ≠ 0) :
    Calls Try.prog 44 #[.pointer (some ⟨b, 0, none⟩), .int .i64 er, .int .i64 (at_ : Int)] w fun e w' => e = .returned (.tuple #[]) ∧ RR w' b { s with e := er, f := at_ } ∧ But b w w' := by
  obtain ⟨A, n, c, L, c0, c1, c2, c3, c4, fz, r1, r2, r3, r5, r6, hb, hp, hby⟩ := partsR h
  have f3 := fz 3
  have f4 := fz 4
  have HR := Lib.hid (setfR h (f := at_) he)
  rw [hs] at c3
  clear h hs c0 c1 c2 fz r1 r2 r3 r5 r6 hb hp hby he
  go_enter Try.func44, Try.ntmps44
  go_wp2
  go_end0
  exact ⟨rfl, HR.out, ((But.refl b w).set 3 _).set 4 _⟩
set_option maxRecDepth 100000 in
set_option maxHeartbeats 400000 in
theorem nofail_r (b : Nat) (s : Rs) (er at_ : Int) (w : World) (h : RR w b s) (hs : s.e ≠ 0) :
    Calls Try.prog 44 #[.pointer (some ⟨b, 0, none⟩), .int .i64 er, .int .i64 at_] w fun e w' => e = .returned (.tuple #[]) ∧ w = w' := by
  obtain ⟨A, n, c, L, c0, c1, c2, c3, c4, fz, r1, r2, r3, r5, r6, hb, hp, hby⟩ := partsR h
  have hne : (s.e == 0) = false := by simpa using hs
  clear h hs c0 c1 c2 c4 fz r1 r2 r3 r5 r6 hb hp hby
  go_enter Try.func44, Try.ntmps44
  go_wp2
  go_end0
  exact ⟨rfl, rfl⟩

set_option maxRecDepth 100000 in
set_option maxHeartbeats 400000 in
theorem take_r (b : Nat) (s : Rs) (w : World) (h : RR w b s) (hs : s.e = 0) :
    Calls Try.prog 43 #[.pointer (some ⟨b, 0, none⟩)] w fun e w' => e = .returned (.tuple #[.int .u64 ((lebT s.l s.p).v : Int), .bool ((lebT s.l s.p).e == 0)]) ∧ RR w' b (s.go (lebT s.l s.p)) ∧ But b w w' := by
  obtain ⟨A, n, c, L, c0, c1, c2, c3, c4, fz, r1, r2, r3, r5, r6, hb, hp, hby⟩ := partsR h
  have f1 := fz 1
  have H := Lib.hid h
  have hyl := h.1.byte
  obtain ⟨l, p, e0, f⟩ := s
  dsimp only at *
  subst hs
  obtain ⟨A', hcut, hrun⟩ := cutH A n c l.length (by omega)
  have hbs := hcut w L hb
  rw [← r5] at hbs
  have hpI : (p : Int) ≤ (l.length : Int) := by omega
  have hlI : (l.length : Int) ≤ 140737488355328 := by omega
  have hlc : l.length ≤ c := by omega
  have hk : ∀ n, Calls Try.prog 53 #[.slice A' l.length c, .int .i64 (p : Int)] (w.drewN n) fun e w' => e = .returned (.tuple #[.int .u64 ((takeAt l p).1 : Int), .int .i64 ((takeAt l p).2.1 : Int), .int .i64 ((takeAt l p).2.2 : Int)]) ∧ w' = w.drewN n :=
    fun n => (take.ref_any A' l.length c l (p : Int) (w.drewN n) hbs.rd rfl (by omega) hyl).mono fun e w' h => ⟨h.1, h.2.symm⟩
  by_cases he : (lebT l p).e = 0
  · obtain ⟨h1, h2, h3, h4, h5⟩ := lebT_ok hp hyl he
    have hst := setpR H.out (q := (lebT l p).q) h4
    have HS := Lib.hid hst
    have hgo : (Rs.mk l p 0 f).go (lebT l p) = ⟨l, (lebT l p).q, 0, f⟩ := Rs.go_ok rfl he
    rw [hgo, he]
    rw [h1] at hk
    dsimp only at hk
    generalize lebT l p = r at *
    obtain ⟨v, q, e, g⟩ := r
    dsimp only at *
    subst he
    have hvI : (v : Int) ≤ 18446744073709551615 := by omega
    have HK := Lib.hid hk
    clear hk fz h hb hby hyl h1 h2 h3 h4 hst r1 r2 r3 r5 r6 hcut hbs hgo
    go_enter Try.func43, Try.ntmps43
    go_wp2
    go_quiet ((go_at_call 53; exact Calls.quiet_of_same (HK.out _)))
    go_wp2
    go_ret2
    exact ⟨rfl, HS.out, ((But.refl b w).drewN).set 1 _⟩
  · obtain ⟨h1, h2, h3, h4⟩ := lebT_err hp he
    have hgo : (Rs.mk l p 0 f).go (lebT l p) = ⟨l, p, ((lebT l p).e : Int), p⟩ := by rw [Rs.go_err rfl he, h3]
    have hfl := fun wx (h : RR wx b ⟨l, p, 0, f⟩) => fail_r b ⟨l, p, 0, f⟩ ((lebT l p).e : Int) p wx h rfl (by omega)
    rw [hgo, h2]
    rw [h1] at hk
    dsimp only at hk
    generalize lebT l p = r at *
    obtain ⟨v, q, e, g⟩ := r
    dsimp only at *
    have hne : ((e : Int) == 0) = false := by simp; omega
    have hne2 : ((e : Int) != 0) = true := by simp; omega
    have hne3 : (e == 0) = false := by simp; omega
    rw [hne3]
    have HK := Lib.hid hk
    have HF := Lib.hid hfl
    clear hk fz h hb hby hyl h1 h2 h3 h4 he r1 r2 r3 r5 r6 hcut hbs hgo hfl hne3
    go_enter Try.func43, Try.ntmps43
    go_wp2
    go_quiet ((go_at_call 53; exact Calls.quiet_of_same (HK.out _)))
    go_wp2_with fail
    refine (HF.out _ H.out.drewN).mono ?_
    rintro e' w2 ⟨rfl, hr2, hb2⟩
    have HR2 := Lib.hid hr2
    have HB2 := Lib.hid hb2
    clear hr2 hb2
    go_wp2
    go_ret2
    exact ⟨rfl, HR2.out, HB2.out.undrew⟩
end Go.Proofs.Ytchhibicbgimcaa.refr

/-
  What the reference's reader answers, on: a text; where it stands, how many are left, what failed; and both readers' Fail.
-/
import Derived.Test.YtdenpefihplnoaaRefR3
namespace Go.Proofs.Ytdenpefihplnoaa.refr
open Go.RowKit
open Go.Proofs.Ytdenpefihplnoaa.num Go.Proofs.Ytdenpefihplnoaa.words Go.Proofs.Ytdenpefihplnoaa.rdnum Go.Proofs.Ytdenpefihplnoaa.rdr Go.Proofs.Ytdenpefihplnoaa.give Go.Proofs.Ytdenpefihplnoaa.meth
theorem fail_go {s : Rs} {er : Int} (hs : s.e = 0) (he : er ≠ 0) : s.fail er = { s with e := er, f := s.p } := by unfold Rs.fail; rw [if_neg]; intro h; rcases h with h | h; exact h hs; exact he h
theorem fail_no {s : Rs} {er : Int} (h : s.e ≠ 0 ∨ er = 0) : s.fail er = s := by unfold Rs.fail; rw [if_pos h]
/-- the error and its place are set -/
theorem setf {w : World} {b : Nat} {s : Rs} (h : RW w b s) {er : Int} {f : Nat} (he : er ≠ 0) : RW ((w.setCell ⟨b, 2, none⟩ (.int .i64 er)).setCell ⟨b, 3, none⟩ (.int .i64 (f : Int))) b { s with e := er, f := f } := by
  have hno := h.no
  obtain ⟨ok, A, c, hh, hc, hb⟩ := h
  have h1 := heap_setCell_same w b 2 _ _ (.int .i64 er) hh
  have h2 := heap_setCell_same _ b 3 _ _ (.int .i64 (f : Int)) h1
  exact ⟨⟨ok.le, ok.len, ok.byte, fun e => absurd e he⟩, A, c, h2, hc, hb.kept (((But.refl b w).set 2 _).set 3 _) (fun i cs f e => by cases e; exact hno cs f)⟩

set_option maxRecDepth 100000 in
set_option maxHeartbeats 400000 in
theorem fail_mw (b : Nat) (s : Rs) (er : Int) (w : World) (h : RW w b s) :
    Calls Try.prog 22 #[.pointer (some ⟨b, 0, none⟩), .int .i64 er] w fun e w' => e = .returned (.tuple #[]) ∧ RW w' b (s.fail er) ∧ But b w w' := by
  obtain ⟨A, c, c0, c1, c2, c3, fz, hh, hc, hb, hp, hl⟩ := parts h
  have H := Lib.hid h
  by_cases hs : s.e = 0
  · by_cases he : er = 0
    · have hf := Lib.hid (fail_no (s := s) (.inr he))
      subst he
      rw [hs] at c2
      clear h hs c0 c3 fz hh hc hb hp hl
      go_enter Try.func22, Try.ntmps22
      go_wp2
      go_end0
      exact ⟨rfl, by rw [hf.out]; exact H.out, But.refl _ _⟩
    · have hf := Lib.hid (fail_go hs he)
      have f2 := fz 2
      have f3 := fz 3
      have HR := Lib.hid (setf h (f := s.p) he)
      have hne : (er != 0) = true := by simpa using he
      rw [hs] at c2
      clear h hs c0 fz hh hc hb hp hl he
      go_enter Try.func22, Try.ntmps22
      go_wp2
      go_end0
      exact ⟨rfl, by rw [hf.out]; exact HR.out, ((But.refl b w).set 2 _).set 3 _⟩
  · have hf := Lib.hid (fail_no (er := er) (.inl hs))
    have hne : (s.e == 0) = false := by simpa using hs
    clear h hs c0 c1 c3 fz hh hc hb hp hl
    go_enter Try.func22, Try.ntmps22
    go_wp2
    go_end0
    exact ⟨rfl, by rw [hf.out]; exact H.out, But.refl _ _⟩
end Go.Proofs.Ytdenpefihplnoaa.refr

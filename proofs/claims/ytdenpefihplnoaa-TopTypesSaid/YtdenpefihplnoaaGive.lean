/-
  What the program's inner reads do: each answers, or gives up with a panic that bears the error and its place.
-/
import Derived.Test.YtdenpefihplnoaaRdr
import Derived.Test.YtdenpefihplnoaaTake
import Derived.Deep.QuietTactic
import Derived.BigQuiet
import Derived.IntWalk
import Derived.Deep.RegionHeld3
namespace Go.Proofs.Ytdenpefihplnoaa.give
open Go.RowKit
open Go.Proofs.Ytdenpefihplnoaa.num Go.Proofs.Ytdenpefihplnoaa.words Go.Proofs.Ytdenpefihplnoaa.rdnum Go.Proofs.Ytdenpefihplnoaa.rdr

set_option maxRecDepth 100000 in
set_option maxHeartbeats 400000 in
theorem give_any (e f : Int) (w : World) : Calls Try.prog 59 #[.int .i64 e, .int .i64 f] w fun en w' => en = .panicked [{ v := bang e f, recovered := false }] ∧ w = w' := by
  have hp : ∀ (t : TypeId) (v : Value) (w : World), (Instr.panic (.iface t v)).run Try.prog w = .halt (.panic (.iface t v)) w := fun _ _ _ => rfl
  go_enter Try.func59, Try.ntmps59
  go_wp2
  exact ⟨rfl, rfl, rfl⟩

/-- the cells of a reader, one by one -/
theorem parts {w : World} {b : Nat} {s : Rs} (h : RW w b s) : ∃ A c, w.cell? ⟨b, 0, none⟩ = some (.slice A s.l.length c) ∧ w.cell? ⟨b, 1, none⟩ = some (.int .i64 (s.p : Int)) ∧ w.cell? ⟨b, 2, none⟩ = some (.int .i64 s.e) ∧ w.cell? ⟨b, 3, none⟩ = some (.int .i64 (s.f : Int)) ∧
    (∀ j, w.frozen? ⟨b, j, none⟩ = false) ∧ w.heap[b]? = some (.cells #[.slice A s.l.length c, .int .i64 (s.p : Int), .int .i64 s.e, .int .i64 (s.f : Int)] 61 (0, 0)) ∧ s.l.length ≤ c ∧ Bs w A s.l ∧ s.p ≤ s.l.length ∧ s.l.length ≤ 140737488355328 := by
  obtain ⟨ok, A, c, h, hc, hb⟩ := h
  refine ⟨A, c, ?_, ?_, ?_, ?_, fun j => frozen_of_row w _ j _ _ h, h, hc, hb, ok.le, ok.len⟩ <;> rw [cell_of_row w b _ _ _ _ h] <;> rfl
/-- the place is set -/
theorem setp {w : World} {b : Nat} {s : Rs} (h : RW w b s) {q : Nat} (hq : q ≤ s.l.length) : RW (w.setCell ⟨b, 1, none⟩ (.int .i64 (q : Int))) b { s with p := q } := by
  obtain ⟨ok, A, c, hh, hc, hb⟩ := h
  refine ⟨⟨hq, ok.len, ok.byte, ok.fe⟩, A, c, ?_, hc, hb.kept (Lib.grownBy_setCell w b 1 _) (fun i cs f e => by cases e; exact (RW.no ⟨ok, A, c, hh, hc, hb⟩) cs f)⟩
  rw [heap_setCell_same w b 1 _ _ _ hh]
  rfl

set_option maxRecDepth 100000 in
set_option maxHeartbeats 400000 in
theorem leb_any (b : Nat) (s : Rs) (w : World) (h : RW w b s) : Calls Try.prog 58 #[.pointer (some ⟨b, 0, none⟩)] w (Raw b s (lebT s.l s.p) (fun x : Nat => .int .u64 (x : Int)) w) := by
  obtain ⟨A, c, c0, c1, c2, c3, fz, hh, hc, hb, hp, hl⟩ := parts h
  have f1 := fz 1
  have H := Lib.hid h
  have hby := h.1.byte
  obtain ⟨l, p, e0, f⟩ := s
  dsimp only at *
  have hpI : (p : Int) ≤ (l.length : Int) := by omega
  have hlI : (l.length : Int) ≤ 140737488355328 := by omega
  have hk : ∀ n, Calls Try.prog 69 #[.slice A l.length c, .int .i64 (p : Int)] (w.drewN n) fun e w' => e = .returned (.tuple #[.int .u64 ((takeAt l p).1 : Int), .int .i64 ((takeAt l p).2.1 : Int), .int .i64 ((takeAt l p).2.2 : Int)]) ∧ w' = w.drewN n :=
    fun n => (take.take_any A l.length c l (p : Int) (w.drewN n) hb.rd rfl hc hl hby).mono fun e w' h => ⟨h.1, h.2.symm⟩
  by_cases he : (lebT l p).e = 0
  · obtain ⟨h1, h2, h3, h4, h5⟩ := lebT_ok hp hby he
    have hst := setp H.out (q := (lebT l p).q) h4
    have HS := Lib.hid hst
    have hxI : ((lebT l p).v : Int) ≤ 18446744073709551615 := by omega
    rw [h1] at hk
    dsimp only at hk
    generalize lebT l p = r at *
    obtain ⟨v, q, e, g⟩ := r
    dsimp only at *
    subst he
    subst h5
    have HK := Lib.hid hk
    clear hk fz hh h hb hby h1 h2 h3 h4 hst
    go_enter Try.func58, Try.ntmps58
    go_wp2
    go_quiet ((go_at_call 69; exact Calls.quiet_of_same (HK.out _)))
    go_wp2
    go_ret
    exact .inl ⟨rfl, rfl, HS.out, (((But.refl b w).drewN).set 1 _)⟩
  · obtain ⟨h1, h2, h3, h4⟩ := lebT_err hp he
    rw [h1] at hk
    dsimp only at hk
    generalize lebT l p = r at *
    obtain ⟨v, q, e, g⟩ := r
    dsimp only at *
    subst h2
    subst h3
    have hne : ((e : Int) == 0) = false := by simp; omega
    have hne2 : ((e : Int) != 0) = true := by simp; omega
    have HE := Lib.hid he
    have HK := Lib.hid hk
    clear hk fz hh h hb hby h1 h4 he
    go_enter Try.func58, Try.ntmps58
    go_wp2
    go_quiet ((go_at_call 69; exact Calls.quiet_of_same (HK.out _)))
    go_wp2_with (go_at_call 59; refine (give_any _ _ _).mono ?_; rintro e w' ⟨rfl, rfl⟩)
    exact ⟨rfl, .inr ⟨HE.out, rfl, ⟨_, H.out.drewN⟩, (But.refl _ _).drewN⟩⟩

set_option maxRecDepth 100000 in
set_option maxHeartbeats 400000 in
theorem num_any (b : Nat) (s : Rs) (m : Int) (w : World) (h : RW w b s) (hm1 : -9223372036854775808 ≤ m) (hm2 : m ≤ 9223372036854775807) :
    Calls Try.prog 38 #[.pointer (some ⟨b, 0, none⟩), .int .i64 m] w (Raw b s (numT s.l s.p m) (fun x : Nat => .int .i64 (x : Int)) w) := by
  obtain ⟨A, c, c0, c1, c2, c3, fz, hh, hc, hb, hp, hl⟩ := parts h
  have H := Lib.hid h
  have hby := h.1.byte
  have hk := leb_any b s w h
  obtain ⟨l, p, e0, f⟩ := s
  dsimp only at *
  clear fz hh h hb c0 c2 c3
  by_cases he : (numT l p m).e = 0
  · obtain ⟨h1, h2, h3, h4, h5, h6, h7⟩ := numT_ok hp hby he
    have hlb := (lebT_ok hp hby h1).2.1
    rw [h2]
    generalize lebT l p = r at *
    obtain ⟨v, q, e, g⟩ := r
    dsimp only at *
    subst h1
    have hvI : (v : Int) ≤ 9223372036854775807 := by omega
    have hw1 : IntKind.u64.wrap m = m := by rw [IntKind.wrap_u64]; omega
    have hw2 : IntKind.i64.wrap (v : Int) = v := IntWalk.i64_in _ (by omega)
    have hlt : ¬ m < 0 := by omega
    have hgt : ¬ m < (v : Int) := by omega
    have HK := Lib.hid hk
    clear hk hby he h2 h3 h4 h5 h6 hlb
    go_enter Try.func38, Try.ntmps38
    go_wp2_with (go_at_call 58; refine HK.out.mono ?_; rintro e w' (⟨_, rfl, hr, hbt⟩ | ⟨hx, _⟩); rotate_left; exact absurd rfl hx; have HR := Lib.hid hr; clear hr; have HT := Lib.hid hbt; clear hbt)
    go_ret
    exact .inl ⟨rfl, rfl, HR.out, HT.out⟩
  · obtain ⟨h1, h2, h3, h4⟩ := numT_err hp he
    rcases h4 with ⟨h4, h5⟩ | ⟨h4, h5, h6⟩
    · rw [h5] at h1 h2 he ⊢
      generalize lebT l p = r at *
      obtain ⟨v, q, e, g⟩ := r
      dsimp only at *
      subst h1
      have HE := Lib.hid he
      have HK := Lib.hid hk
      clear hk hby he h5 h3 h4 h2
      go_enter Try.func38, Try.ntmps38
      go_wp2_with (go_at_call 58; refine HK.out.mono ?_; rintro e w' (⟨hx, _⟩ | ⟨_, rfl, hr, hbt⟩); exact absurd hx HE.out; have HR := Lib.hid hr; clear hr; have HT := Lib.hid hbt; clear hbt)
      exact ⟨rfl, .inr ⟨HE.out, rfl, HR.out, HT.out⟩⟩
    · have hlb := (lebT_ok hp hby h4).2.1
      generalize lebT l p = r at *
      obtain ⟨v, q, e, g⟩ := r
      generalize numT l p m = rr at *
      obtain ⟨v', q', e', g'⟩ := rr
      dsimp only at *
      subst h1 h2 h6 h4
      have hvI : (v : Int) ≤ 18446744073709551615 := by omega
      have HK := Lib.hid hk
      clear hk hby he h3
      by_cases hm : m < 0
      · go_enter Try.func38, Try.ntmps38
        go_wp2_with (first | (go_at_call 58; refine HK.out.mono ?_; rintro e w' (⟨_, rfl, hr, hbt⟩ | ⟨hx, _⟩); rotate_left; exact absurd rfl hx; have HR := Lib.hid hr; clear hr; have HT := Lib.hid hbt; clear hbt) | (go_at_call 59; refine (give_any _ _ _).mono ?_; rintro e w' ⟨rfl, rfl⟩))
        exact ⟨rfl, .inr ⟨by simp, rfl, ⟨_, HR.out⟩, HT.out⟩⟩
      · have hw1 : IntKind.u64.wrap m = m := by rw [IntKind.wrap_u64]; omega
        go_enter Try.func38, Try.ntmps38
        go_wp2_with (first | (go_at_call 58; refine HK.out.mono ?_; rintro e w' (⟨_, rfl, hr, hbt⟩ | ⟨hx, _⟩); rotate_left; exact absurd rfl hx; have HR := Lib.hid hr; clear hr; have HT := Lib.hid hbt; clear hbt) | (go_at_call 59; refine (give_any _ _ _).mono ?_; rintro e w' ⟨rfl, rfl⟩))
        exact ⟨rfl, .inr ⟨by simp, rfl, ⟨_, HR.out⟩, HT.out⟩⟩
end Go.Proofs.Ytdenpefihplnoaa.give

/-
  What the program's inner reads do, on: the next n bytes, a text, a section.
-/
import Derived.Test.YtdenpefihplnoaaGive
import Derived.Test.YtdenpefihplnoaaOpen
namespace Go.Proofs.Ytdenpefihplnoaa.give
open Go.RowKit
open Go.Proofs.Ytdenpefihplnoaa.num Go.Proofs.Ytdenpefihplnoaa.words Go.Proofs.Ytdenpefihplnoaa.rdnum Go.Proofs.Ytdenpefihplnoaa.rdr Go.Proofs.Ytdenpefihplnoaa.sealing

set_option maxRecDepth 100000 in
/-- WHAT A CUT x[p:q] GIVES: the cells from p on, as many. -/
theorem cutB (A : Option Addr) (n c p q : Nat) (hpq : p ≤ q) (hq : q ≤ c) : ∃ A' c', q - p ≤ c' ∧ (∀ w l, Bs w A l → l.length ≤ c → Bs w A' ((l.drop p).take (q - p))) ∧
    ∀ w : World, (Instr.sliceAt 33 (.slice A n c) (some (.int .i64 (p : Int))) (some (.int .i64 (q : Int))) none).run Try.prog w = .ok (.slice A' (q - p) c') w := by
  refine ⟨if c = p then A else A.map (·.add p), c - p, by omega, fun w l h hl => ?_, fun w => ?_⟩
  · by_cases hc : c = p
    · rw [if_pos hc]
      exact .inl (by rw [List.drop_eq_nil_of_le (by omega)]; simp)
    · rw [if_neg hc]
      rcases h with rfl | ⟨a, rfl, hh, hx⟩
      · exact .inl (by simp)
      · refine .inr ⟨a.add p, rfl, by rw [add_block]; exact hh, fun j u hu => ?_⟩
        rw [add_add]
        refine hx _ u ?_
        rw [← B_take, ← B_drop, List.getElem?_take] at hu
        split at hu
        · rwa [List.getElem?_drop] at hu
        · cases hu
  · rw [run_sliceAt_slice w _ _ _ _ _ Try.underlying33, run_slice_lh w _ A n c Try.underlying33 .i64 .i64 (p : Int) (q : Int) (by omega) (by omega) (by omega)]
    have h := take.size5 w
    have he : Try.prog.elem 33 = 5 := by kernel_rfl
    rw [he, h]
    simp only [Result.andThen_ok, sliced, Nat.mul_one, Int.toNat_natCast]

/-- THE NEXT n BYTES, or the place where they fail. -/
def Cut (b : Nat) (s : Rs) (r : Rr (List Nat)) (n : Nat) (w : World) (e : Ending) (w' : World) : Prop :=
  (r.e = 0 ∧ (∃ A' c', e = .returned (.slice A' n c') ∧ n ≤ c' ∧ r.v.length = n ∧ Bs w' A' r.v) ∧ RW w' b { s with p := r.q } ∧ But b w w') ∨
  (r.e ≠ 0 ∧ e = .panicked [{ v := bang r.e r.f, recovered := false }] ∧ RW w' b s ∧ But b w w')

set_option maxRecDepth 100000 in
set_option maxHeartbeats 400000 in
theorem bytes_any (b : Nat) (s : Rs) (n : Nat) (w : World) (h : RW w b s) (hn : n ≤ 140737488355328) :
    Calls Try.prog 61 #[.pointer (some ⟨b, 0, none⟩), .int .i64 (n : Int)] w (Cut b s (bytesT s.l s.p n) n w) := by
  obtain ⟨A, c, c0, c1, c2, c3, fz, hh, hc, hb, hp, hl⟩ := parts h
  have f1 := fz 1
  have H := Lib.hid h
  obtain ⟨l, p, e0, f⟩ := s
  dsimp only at *
  have hnI : (n : Int) ≤ 140737488355328 := by omega
  have hpI : (p : Int) ≤ (l.length : Int) := by omega
  have hlI : (l.length : Int) ≤ 140737488355328 := by omega
  clear fz hh
  by_cases hlt : l.length - p < n
  · have hbt : bytesT l p n = ⟨[], 0, 2, p⟩ := by unfold bytesT; rw [if_pos hlt]
    rw [hbt]
    have hI : (l.length : Int) - (p : Int) < (n : Int) := by omega
    clear hbt hb h
    go_enter Try.func61, Try.ntmps61
    go_wp2
    go_quiet (fail)
    go_wp2_with (go_at_call 59; refine (give_any _ _ _).mono ?_; rintro e w' ⟨rfl, rfl⟩)
    exact ⟨rfl, .inr ⟨by simp, rfl, H.out.drewN, (But.refl _ _).drewN⟩⟩
  · have hbt : bytesT l p n = ⟨(l.drop p).take n, p + n, 0, 0⟩ := by unfold bytesT; rw [if_neg hlt]
    rw [hbt]
    have hI : ¬ (l.length : Int) - (p : Int) < (n : Int) := by omega
    obtain ⟨A', c', hc', hcut, hrun⟩ := cutB A l.length c p (p + n) (by omega) (by omega)
    have hst := setp H.out (q := p + n) (by simp; omega)
    have hbs := hcut _ _ hb hc
    rw [show p + n - p = n by omega] at hc' hrun hbs
    have hbs2 : Bs (w.setCell ⟨b, 1, none⟩ (.int .i64 ((p + n : Nat) : Int))) A' ((l.drop p).take n) := hbs.kept (Lib.grownBy_setCell w b 1 _) (fun i cs f e => by cases e; exact h.no cs f)
    have HS := Lib.hid hst
    have HB := Lib.hid hbs2
    have hlen : ((l.drop p).take n).length = n := by rw [List.length_take, List.length_drop]; omega
    have HN := Lib.hid hlen
    have hw1 : IntKind.i64.wrap ((p : Int) + n) = (p : Int) + n := IntWalk.i64_in _ (by omega)
    have hw2 : IntKind.i64.wrap ((p : Int) + n - n) = (p : Int) := by rw [show (p : Int) + n - n = p by omega]; exact IntWalk.i64_in _ (by omega)
    rw [show ((p + n : Nat) : Int) = (p : Int) + n from rfl] at hrun
    clear hbt hb h hst hbs hbs2 hlen hcut
    go_enter Try.func61, Try.ntmps61
    go_wp2
    go_quiet (fail)
    go_wp2
    go_quiet (fail)
    go_wp2
    go_ret
    exact .inl ⟨rfl, ⟨A', c', rfl, hc', HN.out, HB.out⟩, HS.out, (((But.refl b w).drewN).set 1 _).drewN⟩

set_option maxRecDepth 100000 in
/-- WHAT A CUT x[:k] GIVES: the first k cells. -/
theorem cutH (A : Option Addr) (n c k : Nat) (hk : k ≤ c) : ∃ A', (∀ w l, Bs w A l → Bs w A' (l.take k)) ∧
    ∀ w : World, (Instr.sliceAt 33 (.slice A n c) none (some (.int .i64 (k : Int))) none).run Try.prog w = .ok (.slice A' k c) w := by
  refine ⟨if c = 0 then A else A.map (·.add 0), fun w l h => ?_, fun w => ?_⟩
  · have e0 : A.map (·.add 0) = A := by cases A <;> simp [Addr.add]
    rw [e0, ite_self]
    exact h.take k
  · rw [run_sliceAt_slice w _ _ _ _ _ Try.underlying33, run_slice_h w _ A n c Try.underlying33 .i64 (k : Int) (by omega) (by omega)]
    have h := take.size5 w
    have he : Try.prog.elem 33 = 5 := by kernel_rfl
    rw [he, h]
    simp only [Result.andThen_ok, sliced, Nat.zero_mul, Int.toNat_natCast, Nat.sub_zero]

/-- bytes as a text -/
def S (l : List Nat) : Value := .string ⟨(l.map UInt8.ofNat).toArray⟩
set_option maxRecDepth 100000 in
theorem to_str (w : World) (A : Option Addr) (n c : Nat) (l : List Nat) (hb : Bs w A l) (hl : l.length = n) (hby : ∀ x ∈ l, x < 256) :
    (convert 33 9 (.slice A n c)).run Try.prog w = .ok (S l) w := by
  subst hl
  rcases A with _ | a
  · have hn : l = [] := by
      rcases hb with h | ⟨a, h, _⟩
      · exact h
      · cases h
    subst hn
    rw [run_convert_bytes_string w _ _ _ _ _ _ Try.underlying33 Try.underlying5 Try.underlying9]
    rfl
  · have h := run_convert_bytes_back (P := Try.prog) w 33 9 5 a c (l.map UInt8.ofNat) Try.underlying33 Try.underlying5 Try.underlying9 (fun j hj => by
      have hj' : j < l.length := by simpa using hj
      have hx : l[j] < 256 := hby _ (List.getElem_mem hj')
      rcases hb with rfl | ⟨a', h, _, hc⟩
      · simp at hj'
      · cases h
        rw [hc j _ (B_at (List.getElem?_eq_getElem hj'))]
        congr 2
        simp [Nat.mod_eq_of_lt hx])
    simpa [S] using h

set_option maxRecDepth 100000 in
set_option maxHeartbeats 400000 in
theorem text_any (b : Nat) (s : Rs) (w : World) (h : RW w b s) :
    Calls Try.prog 40 #[.pointer (some ⟨b, 0, none⟩)] w (Raw b s (textT s.l s.p) S w) := by
  have hp := h.1.le
  have hby := h.1.byte
  have hk := num_any b s 64 w h (by omega) (by omega)
  obtain ⟨l, p, e0, f⟩ := s
  dsimp only at *
  clear h
  by_cases he : (numT l p 64).e = 0
  · have hno := numT_ok hp hby he
    have hv : (numT l p 64).v ≤ 64 := by rw [hno.2.1]; have := hno.2.2.1; omega
    have ht : textT l p = bytesT l (numT l p 64).q (numT l p 64).v := by unfold textT; rw [if_neg (by simpa using he)]
    rw [ht]
    generalize numT l p 64 = r at *
    obtain ⟨v, q, e, g⟩ := r
    dsimp only at *
    subst he
    have h2 : ∀ w1, RW w1 b ⟨l, q, e0, f⟩ → _ := fun w1 h1 => bytes_any b ⟨l, q, e0, f⟩ v w1 h1 (by omega)
    dsimp only at h2
    have hbl : ∀ x ∈ (bytesT l q v).v, x < 256 := by
      intro x hx; unfold bytesT at hx; split at hx
      · simp at hx
      · exact hby x (List.mem_of_mem_drop (List.mem_of_mem_take hx))
    generalize bytesT l q v = r2 at *
    obtain ⟨v2, q2, e2, g2⟩ := r2
    dsimp only at *
    have HK := Lib.hid hk
    have H2 := Lib.hid h2
    have HL := Lib.hid hbl
    clear hk h2 hby hno ht hbl hp
    go_enter Try.func40, Try.ntmps40
    go_wp2_with fail
    refine HK.out.mono ?_
    rintro e w1 (⟨_, rfl, hr, hbt⟩ | ⟨hx, _⟩)
    rotate_left
    · exact absurd rfl hx
    have HT := Lib.hid hbt
    have HR := Lib.hid hr
    clear hbt hr
    go_wp2_with fail
    refine (H2.out _ HR.out).mono ?_
    rintro e w2 (⟨rfl, ⟨A', c', rfl, hc, hl, hb⟩, hr2, hbt2⟩ | ⟨hx, rfl, hr2, hbt2⟩)
    · have hs := fun wx (h : Bs wx A' v2) => to_str wx A' v c' v2 h hl HL.out
      have hs2 := hs w2 hb
      have HR2 := Lib.hid hr2
      have HT2 := Lib.hid hbt2
      clear hr2 hbt2 hs hb hl hc
      go_wp2
      go_ret
      exact .inl ⟨rfl, rfl, HR2.out, HT.out.trans HT2.out⟩
    · exact ⟨rfl, .inr ⟨hx, rfl, ⟨_, hr2⟩, HT.out.trans hbt2⟩⟩
  · have ht : textT l p = ⟨[], 0, (numT l p 64).e, (numT l p 64).f⟩ := by unfold textT; rw [if_pos he]
    rw [ht]
    generalize numT l p 64 = r at *
    obtain ⟨v, q, e, g⟩ := r
    dsimp only at *
    have HE := Lib.hid he
    have HK := Lib.hid hk
    clear hk hby ht hp he
    go_enter Try.func40, Try.ntmps40
    go_wp2_with (go_at_call 38; refine HK.out.mono ?_; rintro e w' (⟨hx, _⟩ | ⟨_, rfl, hr, hbt⟩); exact absurd hx HE.out; have HR := Lib.hid hr; clear hr; have HT := Lib.hid hbt; clear hbt)
    exact ⟨rfl, .inr ⟨HE.out, rfl, HR.out, HT.out⟩⟩
end Go.Proofs.Ytdenpefihplnoaa.give

/-
  What a read does: nothing, if something had failed; else what its inner read answers, or its zero value, and the failure is kept.
-/
import Derived.Test.YtdenpefihplnoaaCatch
namespace Go.Proofs.Ytdenpefihplnoaa.reading
open Go.RowKit
open Go.Proofs.Ytdenpefihplnoaa.num Go.Proofs.Ytdenpefihplnoaa.words Go.Proofs.Ytdenpefihplnoaa.rdnum Go.Proofs.Ytdenpefihplnoaa.rdr Go.Proofs.Ytdenpefihplnoaa.give Go.Proofs.Ytdenpefihplnoaa.catching

/-- what is handed to a read as its inner read: it answers, or gives up -/
def Two (b : Nat) (s : Rs) (er f : Nat) (ok : Value → World → Prop) (w : World) (e : Ending) (w' : World) : Prop :=
  (er = 0 ∧ ∃ v, e = .returned v ∧ ok v w') ∨ (er ≠ 0 ∧ e = .panicked [{ v := bang er f, recovered := false }] ∧ (∃ q, RW w' b { s with p := q }) ∧ But b w w')
/-- what comes of it -/
def Ans (b : Nat) (s : Rs) (er f : Nat) (zero : Value) (ok : Value → World → Prop) (w : World) (e : Ending) (w' : World) : Prop :=
  (er = 0 ∧ ∃ v w1, e = .returned v ∧ ok v w1 ∧ Below w1.heap.size w1 w') ∨ (er ≠ 0 ∧ e = .returned zero ∧ RW w' b { s with p := f, e := er, f := f } ∧ But b w w')

set_option maxRecDepth 100000 in
set_option maxHeartbeats 800000 in
theorem live_int (b : Nat) (s : Rs) (er f : Nat) (ok : Value → World → Prop) (K : Nat) (fi ca : Array Value) (w : World) (h : RW w b s) (hs : s.e = 0) (hf : er ≠ 0 → f ≤ s.l.length)
    (hcf : ∀ (args : Array Value) (w : World), (callFunc K args).run Try.prog w = .ok (.enter K args) w) (hk : ∀ w1, Below w.heap.size w w1 → Calls Try.prog K (fi ++ ca) w1 (Two b s er f ok w1)) :
    Calls Try.prog 36 #[.pointer (some ⟨b, 0, none⟩), .func (.func K) fi ca] w (Ans b s er f (.int .i64 0) ok w) := by
  obtain ⟨A, c, c0, c1, c2, c3, fz, hh, hc, hb, hp, hl⟩ := parts h
  have hmf : ∀ (fn : Fn) (first cap : Array Value) (w : World), (Instr.makeFunc fn first cap).run Try.prog w = .ok (.func fn first cap) w := fun _ _ _ _ => rfl
  have HK := Lib.hid hk
  have HF := Lib.hid hf
  have H := Lib.hid h
  rw [hs] at c2
  have hbw : ∀ X, Below w.heap.size w (w.alloc X) := fun X => (Below.refl _ _).alloc (Nat.le_refl _) X
  have k2 := fun X => ((hbw X).cell (p := ⟨b, 2, none⟩) h.lt).trans c2
  have HB := Lib.hid hbw
  clear c0 c1 c3 fz hh hc hb hp hl hk hf h hs c2 hbw
  go_enter_defers Try.func36, Try.ntmps36
  go_wp2_with fail
  refine (HK.out _ (HB.out _)).mono ?_
  rintro e w1 (⟨rfl, v, rfl, hok⟩ | ⟨hx, rfl, ⟨q, hr⟩, hbt⟩)
  · have HO := Lib.hid hok
    clear hok
    go_wp2
    refine leaves_cons (f := 57) (args := #[.pointer (some ⟨w.heap.size, 0, none⟩)]) (by simp) (by simp [go_sem]) ?_
    refine (idle_int _ _).mono ?_
    rintro e u' w2 ⟨rfl, rfl, hb2⟩
    refine ⟨_, results_tmp (t := 4) rfl _ _ _, ?_⟩
    exact .inl ⟨rfl, v, w1, rfl, HO.out, hb2⟩
  · have hbox : (w.alloc (Obj.cells #[Value.pointer (some ⟨b, 0, none⟩)] 37)).cell? ⟨w.heap.size, 0, none⟩ = some (.pointer (some ⟨b, 0, none⟩)) := by rw [cell_of_row _ _ _ _ _ _ (heap_alloc_new w _)]; rfl
    have hlt := H.out.lt
    have hq1 := hbt.cell hbox (fun e => by simp at e; omega)
    show Leaves _ _ _ _ _ _ _
    refine leaves_cons (f := 57) (args := #[.pointer (some ⟨w.heap.size, 0, none⟩)]) (by simp) (by simp [go_sem]) ?_
    refine (catch_int _ b _ er f _ hq1 hr (HF.out hx) hx).mono ?_
    rintro e u' w2 ⟨rfl, rfl, hr2, hb2⟩
    exact ⟨_, results_tmp rfl _ _ _, .inr ⟨hx, rfl, hr2, (But.of (HB.out _)).trans (hbt.trans hb2)⟩⟩

set_option maxRecDepth 100000 in
set_option maxHeartbeats 800000 in
theorem dead_int (b : Nat) (s : Rs) (x : Value) (w : World) (h : RW w b s) (hs : s.e ≠ 0) :
    Calls Try.prog 36 #[.pointer (some ⟨b, 0, none⟩), x] w fun e w' => e = .returned (.int .i64 0) ∧ Below w.heap.size w w' := by
  obtain ⟨A, c, c0, c1, c2, c3, fz, hh, hc, hb, hp, hl⟩ := parts h
  have hne : (s.e != 0) = true := by simpa using hs
  have hbw : ∀ X, Below w.heap.size w (w.alloc X) := fun X => (Below.refl _ _).alloc (Nat.le_refl _) X
  have k2 := fun X => ((hbw X).cell (p := ⟨b, 2, none⟩) h.lt).trans c2
  have HB := Lib.hid hbw
  clear c0 c1 c3 fz hh hc hb hp hl h hs c2 hbw
  go_enter_defers Try.func36, Try.ntmps36
  go_wp2
  exact ⟨_, results_tmp rfl _ _ _, rfl, HB.out _⟩
-- THE OTHERS
set_option maxRecDepth 100000 in
set_option maxHeartbeats 800000 in
theorem live_string (b : Nat) (s : Rs) (er f : Nat) (ok : Value → World → Prop) (K : Nat) (fi ca : Array Value) (w : World) (h : RW w b s) (hs : s.e = 0) (hf : er ≠ 0 → f ≤ s.l.length)
    (hcf : ∀ (args : Array Value) (w : World), (callFunc K args).run Try.prog w = .ok (.enter K args) w) (hk : ∀ w1, Below w.heap.size w w1 → Calls Try.prog K (fi ++ ca) w1 (Two b s er f ok w1)) :
    Calls Try.prog 39 #[.pointer (some ⟨b, 0, none⟩), .func (.func K) fi ca] w (Ans b s er f (.string ⟨#[]⟩) ok w) := by
  obtain ⟨A, c, c0, c1, c2, c3, fz, hh, hc, hb, hp, hl⟩ := parts h
  have hmf : ∀ (fn : Fn) (first cap : Array Value) (w : World), (Instr.makeFunc fn first cap).run Try.prog w = .ok (.func fn first cap) w := fun _ _ _ _ => rfl
  have HK := Lib.hid hk
  have HF := Lib.hid hf
  have H := Lib.hid h
  rw [hs] at c2
  have hbw : ∀ X, Below w.heap.size w (w.alloc X) := fun X => (Below.refl _ _).alloc (Nat.le_refl _) X
  have k2 := fun X => ((hbw X).cell (p := ⟨b, 2, none⟩) h.lt).trans c2
  have HB := Lib.hid hbw
  clear c0 c1 c3 fz hh hc hb hp hl hk hf h hs c2 hbw
  go_enter_defers Try.func39, Try.ntmps39
  go_wp2_with fail
  refine (HK.out _ (HB.out _)).mono ?_
  rintro e w1 (⟨rfl, v, rfl, hok⟩ | ⟨hx, rfl, ⟨q, hr⟩, hbt⟩)
  · have HO := Lib.hid hok
    clear hok
    go_wp2
    refine leaves_cons (f := 60) (args := #[.pointer (some ⟨w.heap.size, 0, none⟩)]) (by simp) (by simp [go_sem]) ?_
    refine (idle_string _ _).mono ?_
    rintro e u' w2 ⟨rfl, rfl, hb2⟩
    refine ⟨_, results_tmp (t := 4) rfl _ _ _, ?_⟩
    exact .inl ⟨rfl, v, w1, rfl, HO.out, hb2⟩
  · have hbox : (w.alloc (Obj.cells #[Value.pointer (some ⟨b, 0, none⟩)] 37)).cell? ⟨w.heap.size, 0, none⟩ = some (.pointer (some ⟨b, 0, none⟩)) := by rw [cell_of_row _ _ _ _ _ _ (heap_alloc_new w _)]; rfl
    have hlt := H.out.lt
    have hq1 := hbt.cell hbox (fun e => by simp at e; omega)
    show Leaves _ _ _ _ _ _ _
    refine leaves_cons (f := 60) (args := #[.pointer (some ⟨w.heap.size, 0, none⟩)]) (by simp) (by simp [go_sem]) ?_
    refine (catch_string _ b _ er f _ hq1 hr (HF.out hx) hx).mono ?_
    rintro e u' w2 ⟨rfl, rfl, hr2, hb2⟩
    exact ⟨_, results_tmp rfl _ _ _, .inr ⟨hx, rfl, hr2, (But.of (HB.out _)).trans (hbt.trans hb2)⟩⟩

set_option maxRecDepth 100000 in
set_option maxHeartbeats 800000 in
theorem dead_string (b : Nat) (s : Rs) (x : Value) (w : World) (h : RW w b s) (hs : s.e ≠ 0) :
    Calls Try.prog 39 #[.pointer (some ⟨b, 0, none⟩), x] w fun e w' => e = .returned (.string ⟨#[]⟩) ∧ Below w.heap.size w w' := by
  obtain ⟨A, c, c0, c1, c2, c3, fz, hh, hc, hb, hp, hl⟩ := parts h
  have hne : (s.e != 0) = true := by simpa using hs
  have hbw : ∀ X, Below w.heap.size w (w.alloc X) := fun X => (Below.refl _ _).alloc (Nat.le_refl _) X
  have k2 := fun X => ((hbw X).cell (p := ⟨b, 2, none⟩) h.lt).trans c2
  have HB := Lib.hid hbw
  clear c0 c1 c3 fz hh hc hb hp hl h hs c2 hbw
  go_enter_defers Try.func39, Try.ntmps39
  go_wp2
  exact ⟨_, results_tmp rfl _ _ _, rfl, HB.out _⟩
end Go.Proofs.Ytdenpefihplnoaa.reading

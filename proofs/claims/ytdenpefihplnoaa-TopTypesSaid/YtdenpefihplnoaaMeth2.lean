/-
  What the reader's other methods answer: Section, Fail, Fault, At, Left.
-/
import Derived.Test.YtdenpefihplnoaaMeth
namespace Go.Proofs.Ytdenpefihplnoaa.meth
open Go.RowKit
open Go.Proofs.Ytdenpefihplnoaa.num Go.Proofs.Ytdenpefihplnoaa.words Go.Proofs.Ytdenpefihplnoaa.rdnum Go.Proofs.Ytdenpefihplnoaa.rdr Go.Proofs.Ytdenpefihplnoaa.give Go.Proofs.Ytdenpefihplnoaa.reading

/-- A SECTION's READER, or none, and the reader behind it. -/
def DidS (b : Nat) (s : Rs) (r : Rr (Nat × Nat)) (w : World) (e : Ending) (w' : World) : Prop :=
  ((s.e = 0 ∧ r.e = 0 ∧ ∃ g, e = .returned (.pointer (some ⟨g, 0, none⟩)) ∧ w.heap.size ≤ g ∧ RW w' g ⟨s.l.take (r.v.1 + r.v.2), r.v.1, 0, 0⟩) ∨
    ((s.e ≠ 0 ∨ r.e ≠ 0) ∧ e = .returned (.pointer none))) ∧ RW w' b (s.go r) ∧ But b w w'

/-- how many are left -/
def left (s : Rs) : Int := if s.e ≠ 0 then 0 else (s.l.length : Int) - s.p
/-- a fault as a value -/
def fv (s : Rs) : Value := .agg #[.int .i64 s.e, .int .i64 (s.f : Int)]
set_option maxRecDepth 100000 in
set_option maxHeartbeats 400000 in
theorem fault_m (b : Nat) (s : Rs) (w : World) (h : RW w b s) :
    Calls Try.prog 23 #[.pointer (some ⟨b, 0, none⟩)] w fun e w' => e = .returned (fv s) ∧ Below w.heap.size w w' := by
  obtain ⟨A, c, c0, c1, c2, c3, fz, hh, hc, hb, hp, hl⟩ := parts h
  have hbw : ∀ X, Below w.heap.size w (w.alloc X) := fun X => (Below.refl _ _).alloc (Nat.le_refl _) X
  have k2 := fun X => ((hbw X).cell (p := ⟨b, 2, none⟩) h.lt).trans c2
  have k3 := fun X => ((hbw X).cell (p := ⟨b, 3, none⟩) h.lt).trans c3
  have HB := Lib.hid hbw
  clear hh hc hb fz h c0 c1 c2 c3 hbw
  unfold fv
  go_enter Try.func23, Try.ntmps23
  go_wp2
  exact bodyPost_ret (v := .agg #[.int .i64 s.e, .int .i64 (s.f : Int)]) (by simp [results, Try.results23, go_sem]) rfl ⟨rfl, HB.out _⟩
set_option maxRecDepth 100000 in
set_option maxHeartbeats 400000 in
theorem fault_nil (w : World) :
    Calls Try.prog 23 #[.pointer none] w fun e w' => e = .returned (.agg #[.int .i64 7, .int .i64 0]) ∧ Below w.heap.size w w' := by
  go_enter Try.func23, Try.ntmps23
  go_wp2
  exact bodyPost_ret (v := .agg #[.int .i64 7, .int .i64 0]) (by simp [results, Try.results23, go_sem]) rfl ⟨rfl, (Below.refl _ _).alloc (Nat.le_refl _) _⟩
end Go.Proofs.Ytdenpefihplnoaa.meth

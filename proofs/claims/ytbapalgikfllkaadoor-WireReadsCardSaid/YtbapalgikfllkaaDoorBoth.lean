/-
  Both readers, the program's and the reference's, side by side: where they stand, and that a read of both leaves them alike.
-/
import Derived.Test.YtbapalgikfllkaaDoorRefR6
import Derived.Test.YtbapalgikfllkaaDoorLive3
namespace Go.Proofs.YtbapalgikfllkaaDoor.both
open Go.RowKit
open Go.Proofs.YtbapalgikfllkaaDoor.num Go.Proofs.YtbapalgikfllkaaDoor.words Go.Proofs.YtbapalgikfllkaaDoor.rdnum Go.Proofs.YtbapalgikfllkaaDoor.rdr Go.Proofs.YtbapalgikfllkaaDoor.give Go.Proofs.YtbapalgikfllkaaDoor.sealing Go.Proofs.YtbapalgikfllkaaDoor.meth Go.Proofs.YtbapalgikfllkaaDoor.refr

/-- BOTH READERS, behind the pair in block d, stand as s says. -/
def Pair (w : World) (d : Nat) (s : Rs) (base : Nat) : Prop :=
  ∃ b c, w.heap[d]? = some (.cells #[.pointer (some ⟨b, 0, none⟩), .pointer (some ⟨c, 0, none⟩)] 30 (0, 0)) ∧ RW w b s ∧ RR w c s ∧ base ≤ b ∧ base ≤ c ∧ base ≤ d
theorem Pair.lt {w : World} {d : Nat} {s : Rs} {base : Nat} (h : Pair w d s base) : d < w.heap.size := by obtain ⟨b, c, h, _⟩ := h; exact blk_lt h
theorem Pair.below {w w' : World} {d : Nat} {s : Rs} {base : Nat} (h : Pair w d s base) (hb : Below w.heap.size w w') : Pair w' d s base := by
  obtain ⟨b, c, hh, hw, hr, h1, h2, h3⟩ := h
  exact ⟨b, c, (hb.block d (blk_lt hh)).trans hh, hw.below hb, hr.below hb, h1, h2, h3⟩
/-- where nothing changes any more -/
def Stays (s t : Rs) : Prop := (s.e ≠ 0 → t.e = s.e ∧ t.f = s.f ∧ t.p = s.p) ∧ t.l.length ≤ s.l.length
theorem stays_go {α : Type} (s : Rs) (r : Rr α) : Stays s (s.go r) := by
  refine ⟨fun h => by rw [Rs.go_dead h]; exact ⟨rfl, rfl, rfl⟩, ?_⟩
  unfold Rs.go; split
  · exact Nat.le_refl _
  · split <;> exact Nat.le_refl _
theorem stays_fail (s : Rs) (e : Int) : Stays s (s.fail e) := by
  refine ⟨fun h => by rw [fail_no (.inl h)]; exact ⟨rfl, rfl, rfl⟩, ?_⟩
  unfold Rs.fail; split <;> exact Nat.le_refl _
theorem stays_refl (s : Rs) : Stays s s := ⟨fun _ => ⟨rfl, rfl, rfl⟩, Nat.le_refl _⟩
/-- the faults that lie in memory are kept -/
def Keep (w w' : World) : Prop := ∀ (g : Nat) (X : Array Value) (f : Nat × Nat), w.heap[g]? = some (Obj.cells X 51 f) → w'.heap[g]? = w.heap[g]?
theorem Keep.trans {a b c : World} (h : Keep a b) (k : Keep b c) : Keep a c := fun g X f hg => (k g X f ((h g X f hg).trans hg)).trans (h g X f hg)
theorem Keep.below {w w' : World} (h : Below w.heap.size w w') : Keep w w' := fun g _ _ hg => h.block g (blk_lt hg)
theorem Keep.but {w w' : World} {b : Nat} {X : Array Value} {t : TypeId} {f : Nat × Nat} (h : But b w w') (hb : w.heap[b]? = some (.cells X t f)) (ht : t ≠ 51) : Keep w w' := fun g Y f' hg => h.block g (blk_lt hg) (fun e => by
  cases e
  rw [hb] at hg
  simp at hg
  exact ht hg.2.1)
theorem Keep.rw_ {w w' : World} {b : Nat} {s : Rs} (h : But b w w') (hb : RW w b s) : Keep w w' := by obtain ⟨_, A, c, hh, _⟩ := hb; exact Keep.but h hh (by decide)
theorem Keep.rr {w w' : World} {b : Nat} {s : Rs} (h : But b w w') (hb : RR w b s) : Keep w w' := by obtain ⟨_, A, n, c, L, hh, _⟩ := hb; exact Keep.but h hh (by decide)
/-- what a read of both does -/
def ReadBoth (d : Nat) (s : Rs) (base : Nat) (w : World) (e : Ending) (w' : World) : Prop :=
  e = .returned (.bool true) ∧ (∃ t, Pair w' d t base ∧ Stays s t) ∧ Below base w w' ∧ Keep w w'

/-- what a walk begins with: the pair, and the read's own box -/
structure Pre (w W : World) (d g b c : Nat) (s : Rs) (k n : Int) (base : Nat) : Prop where
  dh : W.heap[d]? = some (.cells #[.pointer (some ⟨b, 0, none⟩), .pointer (some ⟨c, 0, none⟩)] 30 (0, 0))
  rw_ : RW W b s
  rr : RR W c s
  g0 : W.cell? ⟨g, 0, none⟩ = some (.int .i64 k)
  g1 : W.cell? ⟨g, 1, none⟩ = some (.int .i64 n)
  ne : d ≠ b ∧ d ≠ c ∧ b ≠ c ∧ g ≠ b ∧ g ≠ c ∧ g ≠ d
  le : base ≤ b ∧ base ≤ c ∧ base ≤ d
  wb : Below w.heap.size w W
theorem pre {w : World} {d : Nat} {s : Rs} {base : Nat} (h : Pair w d s base) (k n : Int) : ∃ b c, Pre w (w.alloc (.cells #[.int .i64 k, .int .i64 n] 34)) d w.heap.size b c s k n base := by
  obtain ⟨b, c, hh, hw, hr, h1, h2, h3⟩ := h
  have hb : Below w.heap.size w (w.alloc (.cells #[.int .i64 k, .int .i64 n] 34)) := (Below.refl _ _).alloc (Nat.le_refl _) _
  have hlb := hw.lt
  have hlc := hr.lt
  have hld := blk_lt hh
  have hdb : d ≠ b := by
    rintro rfl
    obtain ⟨_, A, e, hx, _⟩ := hw
    rw [hx] at hh; simp at hh
  have hdc : d ≠ c := by
    rintro rfl
    obtain ⟨_, A, n, e, L, hx, _⟩ := hr
    rw [hx] at hh; simp at hh
  refine ⟨b, c, (hb.block d hld).trans hh, hw.below hb, hr.below hb, ?_, ?_, ⟨hdb, hdc, hw.ne hr, by omega, by omega, by omega⟩, ⟨h1, h2, h3⟩, hb⟩
  · rw [cell_of_row _ _ _ _ _ _ (heap_alloc_new w _)]; rfl
  · rw [cell_of_row _ _ _ _ _ _ (heap_alloc_new w _)]; rfl
theorem Pre.d0 {w W : World} {d g b c : Nat} {s : Rs} {k n : Int} {base : Nat} (h : Pre w W d g b c s k n base) : W.cell? ⟨d, 0, none⟩ = some (.pointer (some ⟨b, 0, none⟩)) := by rw [cell_of_row _ _ _ _ _ _ h.dh]; rfl
theorem Pre.d1 {w W : World} {d g b c : Nat} {s : Rs} {k n : Int} {base : Nat} (h : Pre w W d g b c s k n base) : W.cell? ⟨d, 1, none⟩ = some (.pointer (some ⟨c, 0, none⟩)) := by rw [cell_of_row _ _ _ _ _ _ h.dh]; rfl
/-- behind a read of each -/
theorem Pre.done {w W w1 w2 : World} {d g b c : Nat} {s t : Rs} {k n : Int} {base : Nat} (h : Pre w W d g b c s k n base) (hbase : base ≤ w.heap.size) (h1 : But b W w1) (hw : RW w1 b t) (h2 : But c w1 w2) (hr : RR w2 c t) :
    Pair w2 d t base ∧ Below base w w2 ∧ Keep w w2 := by
  have hc := h.rr.no
  have hno : ∀ cs f, w1.heap[c]? ≠ some (.cells cs 5 f) := fun cs f => by rw [h1.block c h.rr.lt (fun e => h.ne.2.2.1 (by cases e; rfl))]; exact hc cs f
  have hsz := h.wb.size
  have hsz1 := h1.size
  exact ⟨⟨b, c, h2.heap (h1.heap h.dh h.ne.1) h.ne.2.1, hw.kept h2 h.ne.2.2.1 hno, hr, h.le⟩, ((h.wb.mono hbase).trans (h1.below h.le.1 (by omega))).trans (h2.below h.le.2.1 (by omega)), ((Keep.below h.wb).trans (Keep.rw_ h1 h.rw_)).trans (Keep.rr h2 (h.rr.kept h1 h.ne.2.2.1.symm h.rw_.no))⟩
theorem Pre.rr1 {w W w1 : World} {d g b c : Nat} {s : Rs} {k n : Int} {base : Nat} (h : Pre w W d g b c s k n base) (h1 : But b W w1) : RR w1 c s := h.rr.kept h1 h.ne.2.2.1.symm h.rw_.no
end Go.Proofs.YtbapalgikfllkaaDoor.both

/-
  Layer 6: a reading that gives up is caught, and comes to ErrForm; the type of a text; lists of types, cell by cell.
-/
import Derived.Test.YtgpfohpmgbnimaaKindA
/- Layer 6: a reading that gives up is caught, and comes to ErrForm; the type of a text. -/
namespace Go.Proofs.Ytgpfohpmgbnimaa.kind
open Go.RowKit
open words kindp word rdr
theorem caught_at {g : Nat} {t u : TypeId} {w : World} (hg : w.heap[g]? = some (.cells #[.int .i64 0] t (0, 0))) :
    ((w.setCell ⟨g, 0, none⟩ (.int .i64 1)).alloc (.cells #[] u)).heap[g]? = some (.cells #[.int .i64 1] t (0, 0)) ∧ But g w ((w.setCell ⟨g, 0, none⟩ (.int .i64 1)).alloc (.cells #[] u)) := by
  have h1 := heap_setCell_same w g 0 _ _ (.int .i64 1) hg
  exact ⟨(((Below.refl _ (w.setCell ⟨g, 0, none⟩ (.int .i64 1))).alloc (Nat.le_refl _) _).block g (blk_lt h1)).trans h1, ((But.refl g w).set 0 _).alloc _⟩
theorem caught_at2 {g : Nat} {t u : TypeId} {w : World} (hg : w.heap[g]? = some (.cells #[.int .i64 0] t (0, 0))) :
    ((w.alloc (.cells #[] u)).setCell ⟨g, 0, none⟩ (.int .i64 1)).heap[g]? = some (.cells #[.int .i64 1] t (0, 0)) ∧ But g w ((w.alloc (.cells #[] u)).setCell ⟨g, 0, none⟩ (.int .i64 1)) := by
  have h0 := (((Below.refl _ w).alloc (Nat.le_refl _) (.cells #[] u)).block g (blk_lt hg)).trans hg
  exact ⟨heap_setCell_same _ g 0 _ _ (.int .i64 1) h0, ((But.refl g w).alloc _).set 0 _⟩

theorem two_new (w : World) (A B : Obj) : ((w.alloc A).alloc B).heap[w.heap.size]? = some A ∧ ((w.alloc A).alloc B).heap[w.heap.size + 1]? = some B := by
  have h1 := heap_alloc_new w A
  have h2 := heap_alloc_new (w.alloc A) B
  rw [show (w.alloc A).heap.size = w.heap.size + 1 by simp] at h2
  exact ⟨(((Below.refl _ (w.alloc A)).alloc (Nat.le_refl _) B).block _ (blk_lt h1)).trans h1, h2⟩
/-- what a reading of a type comes to -/
def outT (q : Option Ty) : Ty × Nat := match q with | some t => (t, 0) | none => ((0, []), 1)
def twoV (x : Ty × Nat) : Value := .tuple #[tyV x.1, .int .i64 (x.2 : Int)]

/-- THE TYPE OF A TEXT. -/
def parseV (s : Tx) : Value := twoV (parseT s)
theorem out_all (s : Tx) : outT (allT s) = parseT s := by unfold outT parseT; rfl

end Go.Proofs.Ytgpfohpmgbnimaa.kind

/- Layer 6: lists of types, cell by cell. -/
namespace Go.Proofs.Ytgpfohpmgbnimaa.kind
open Go.RowKit
open words kindp

/-- types, cell by cell -/
def TL (l : List Ty) : List Value := l.flatMap fun t => [.int .i64 t.1, .string ⟨t.2.toArray⟩]
theorem TL_app (a b : List Ty) : TL (a ++ b) = TL a ++ TL b := by simp [TL]
theorem TL_len : ∀ l : List Ty, (TL l).length = l.length * 2
  | [] => rfl
  | t :: l => by
    have := TL_len l
    show (TL ([t] ++ l)).length = _
    rw [TL_app, List.length_append, this]
    show 2 + l.length * 2 = (l.length + 1) * 2
    omega
theorem TL_at : ∀ {l : List Ty} {i : Nat} {t : Ty}, l[i]? = some t → (TL l)[i * 2]? = some (.int .i64 t.1) ∧ (TL l)[i * 2 + 1]? = some (.string ⟨t.2.toArray⟩)
  | [], _, _, h => by simp at h
  | x :: l, 0, t, h => by simp at h; subst h; exact ⟨rfl, rfl⟩
  | x :: l, i + 1, t, h => by
    have h2 : l[i]? = some t := by simpa using h
    have ih := TL_at h2
    have e : TL (x :: l) = [.int .i64 x.1, .string ⟨x.2.toArray⟩] ++ TL l := rfl
    rw [e, show (i + 1) * 2 = i * 2 + 2 by omega, show i * 2 + 2 + 1 = (i * 2 + 1) + 2 by omega]
    simpa using ih
theorem TL_cells (l : List Ty) : ∀ u ∈ TL l, u.oneCell' = true := by
  intro u hu
  unfold TL at hu
  obtain ⟨t, _, h⟩ := List.mem_flatMap.1 hu
  simp at h
  rcases h with rfl | rfl <;> simp [Value.oneCell']
theorem tl_cell {w : World} {A : Option Addr} {l : List Ty} (h : Rd w A (TL l)) {i : Nat} {t : Ty} (hi : l[i]? = some t) :
    ∃ a, A = some a ∧ a.block < w.heap.size ∧ w.cell? (a.add (i * 2)) = some (.int .i64 t.1) ∧ w.cell? ⟨(a.add (i * 2)).block, (a.add (i * 2)).off + 1, none⟩ = some (.string ⟨t.2.toArray⟩) := by
  obtain ⟨h0, h1⟩ := TL_at hi
  obtain ⟨a, rfl, hb, hc⟩ := h.at_ h0
  obtain ⟨a', e, _, hc1⟩ := h.at_ h1
  cases e
  exact ⟨a, rfl, hb, hc, by rw [← add_add] at hc1; exact hc1⟩
set_option maxRecDepth 100000 in
theorem infoT : (Try.prog.info? 72).map (fun i => (i.zero, i.size, i.bytes)) = some (some (.agg #[.int .i64 0, .string ⟨#[]⟩]), 2, 24) := by kernel_rfl
end Go.Proofs.Ytgpfohpmgbnimaa.kind

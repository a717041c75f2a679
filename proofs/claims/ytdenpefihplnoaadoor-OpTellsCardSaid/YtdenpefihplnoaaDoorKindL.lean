/-
  Layer 6: lists of types, cell by cell.
-/
import Derived.Test.YtdenpefihplnoaaDoorKindB
namespace Go.Proofs.YtdenpefihplnoaaDoor.kind
open Go.RowKit
open Go.Proofs.YtdenpefihplnoaaDoor.words Go.Proofs.YtdenpefihplnoaaDoor.kindp

/-- types, cell by cell -/
def TL (l : List Ty) : List Value := l.flatMap fun t => [.int .i64 t.1, .string ⟨t.2.toArray⟩]
theorem TL_app (a b : List Ty) : TL (a ++ b) = TL a ++ TL b := by simp [TL]
theorem TL_len : ∀ l : List Ty, (TL l).length = l.length * 2
  | [] => rfl
  | t :: l => by
    have := TL_len l
    show (TL ([t] ++ l)).length = _
    rw [TL_app, List.length_append, this]
    show 2 + l.length * 2 = (l.length + 1) * 2
    omega
theorem TL_at : ∀ {l : List Ty} {i : Nat} {t : Ty}, l[i]? = some t → (TL l)[i * 2]? = some (.int .i64 t.1) ∧ (TL l)[i * 2 + 1]? = some (.string ⟨t.2.toArray⟩)
  | [], _, _, h => by simp at h
  | x :: l, 0, t, h => by simp at h; subst h; exact ⟨rfl, rfl⟩
  | x :: l, i + 1, t, h => by
    have h2 : l[i]? = some t := by simpa using h
    have ih := TL_at h2
    have e : TL (x :: l) = [.int .i64 x.1, .string ⟨x.2.toArray⟩] ++ TL l := rfl
    rw [e, show (i + 1) * 2 = i * 2 + 2 by omega, show i * 2 + 2 + 1 = (i * 2 + 1) + 2 by omega]
    simpa using ih
theorem TL_cells (l : List Ty) : ∀ u ∈ TL l, u.oneCell' = true := by
  intro u hu
  unfold TL at hu
  obtain ⟨t, _, h⟩ := List.mem_flatMap.1 hu
  simp at h
  rcases h with rfl | rfl <;> simp [Value.oneCell']
theorem tl_cell {w : World} {A : Option Addr} {l : List Ty} (h : Rd w A (TL l)) {i : Nat} {t : Ty} (hi : l[i]? = some t) :
    ∃ a, A = some a ∧ a.block < w.heap.size ∧ w.cell? (a.add (i * 2)) = some (.int .i64 t.1) ∧ w.cell? ⟨(a.add (i * 2)).block, (a.add (i * 2)).off + 1, none⟩ = some (.string ⟨t.2.toArray⟩) := by
  obtain ⟨h0, h1⟩ := TL_at hi
  obtain ⟨a, rfl, hb, hc⟩ := h.at_ h0
  obtain ⟨a', e, _, hc1⟩ := h.at_ h1
  cases e
  exact ⟨a, rfl, hb, hc, by rw [← add_add] at hc1; exact hc1⟩
set_option maxRecDepth 100000 in
theorem infoT : (Tryd.prog.info? 69).map (fun i => (i.zero, i.size, i.bytes)) = some (some (.agg #[.int .i64 0, .string ⟨#[]⟩]), 2, 24) := by kernel_rfl
end Go.Proofs.YtdenpefihplnoaaDoor.kind

/-
 Layer 12: the method that the first of some classes declares, if it may be that one: the program's answer.
-/
import Derived.Test.YtokaecnhjdgjgaaFindD
import Derived.Test.YtokaecnhjdgjgaaSortP
namespace Go.Proofs.Ytokaecnhjdgjgaa.find
open Go.RowKit
open words kindp opp op kind word prg sorts
theorem firstM_at {cs : List ClM} {L : List Tx} {s d : Tx} {c : ClM} {k : Nat} (h : firstM cs L s d = some (c, k)) : c ∈ cs ∧ ∃ m, c.ms[k]? = some m ∧ m.nm = s ∧ m.ds = d := by
  obtain ⟨nm, -, h1⟩ := List.exists_of_findSome?_eq_some h
  unfold oneM at h1
  cases hc : findC cs nm with
  | none => rw [hc] at h1; cases h1
  | some c' =>
    rw [hc] at h1; dsimp only at h1
    cases hd : declM c' s d with
    | none => rw [hd] at h1; cases h1
    | some k' =>
      rw [hd] at h1
      simp only [Option.some.injEq, Prod.mk.injEq] at h1
      obtain ⟨rfl, rfl⟩ := h1
      obtain ⟨hl, hp, -⟩ := List.findIdx?_eq_some_iff_getElem.1 hd
      refine ⟨(findC_nm hc).2, _, List.getElem?_eq_getElem hl, ?_⟩
      simpa using hp
theorem size_clx : (Try.prog.info? 42).map (·.size) = some 7 := by kernel_rfl
theorem one_clx (x : ClM) : ∀ v ∈ clC x, v.oneCell' = true := by
  intro v hv
  simp only [clC, List.mem_cons, List.not_mem_nil, or_false] at hv
  rcases hv with rfl | rfl | rfl | rfl | rfl | rfl | rfl <;> rfl
theorem there_new {u : World} {b : Nat} {T : TypeId} (h : u.heap[b]? = some (.cells #[.string ⟨#[]⟩, .string ⟨#[]⟩, .bool false, .bool false, .slice none 0 0, .slice none 0 0, .slice none 0 0] T (0, 0))) : u.there b 0 7 := fun j hj => by
  rw [Nat.zero_add]
  refine ⟨?_, frozen_of_row _ _ j _ _ h⟩
  match j, hj with
  | 0, _ => rw [show u.cell? ⟨b, 0, none⟩ = some (.string ⟨#[]⟩) from cell_of_row _ _ 0 _ _ _ h]; rfl
  | 1, _ => rw [show u.cell? ⟨b, 1, none⟩ = some (.string ⟨#[]⟩) from cell_of_row _ _ 1 _ _ _ h]; rfl
  | 2, _ => rw [show u.cell? ⟨b, 2, none⟩ = some (.bool false) from cell_of_row _ _ 2 _ _ _ h]; rfl
  | 3, _ => rw [show u.cell? ⟨b, 3, none⟩ = some (.bool false) from cell_of_row _ _ 3 _ _ _ h]; rfl
  | 4, _ => rw [show u.cell? ⟨b, 4, none⟩ = some (.slice none 0 0) from cell_of_row _ _ 4 _ _ _ h]; rfl
  | 5, _ => rw [show u.cell? ⟨b, 5, none⟩ = some (.slice none 0 0) from cell_of_row _ _ 5 _ _ _ h]; rfl
  | 6, _ => rw [show u.cell? ⟨b, 6, none⟩ = some (.slice none 0 0) from cell_of_row _ _ 6 _ _ _ h]; rfl
theorem sets_grown (u : World) (b o : Nat) (cs : List Value) : u.grownBy (u.setCells b o cs) (some b) := by
  induction cs generalizing u o with
  | nil => exact ⟨rfl, rfl, rfl, Nat.le_refl _, fun _ _ _ => rfl⟩
  | cons v cs ih => exact gb_trans (gb_set u b o v) (ih _ _)
theorem sets_new {u : World} {b : Nat} {T : TypeId} {cs : List Value} (hl : cs.length = 7) (h : u.heap[b]? = some (.cells #[.string ⟨#[]⟩, .string ⟨#[]⟩, .bool false, .bool false, .slice none 0 0, .slice none 0 0, .slice none 0 0] T (0, 0))) : (u.setCells b 0 cs).heap[b]? = some (.cells cs.toArray T (0, 0)) := by
  obtain ⟨a0, a1, a2, a3, a4, a5, a6, rfl⟩ : ∃ a0 a1 a2 a3 a4 a5 a6, cs = [a0, a1, a2, a3, a4, a5, a6] := by
    match cs, hl with
    | [a0, a1, a2, a3, a4, a5, a6], _ => exact ⟨a0, a1, a2, a3, a4, a5, a6, rfl⟩
  have s0 := heap_setCell_same _ b 0 _ _ a0 h
  have s1 := heap_setCell_same _ b 1 _ _ a1 s0
  have s2 := heap_setCell_same _ b 2 _ _ a2 s1
  have s3 := heap_setCell_same _ b 3 _ _ a3 s2
  have s4 := heap_setCell_same _ b 4 _ _ a4 s3
  have s5 := heap_setCell_same _ b 5 _ _ a5 s4
  have s6 := heap_setCell_same _ b 6 _ _ a6 s5
  show ((((((((u.setCell ⟨b, 0, none⟩ a0).setCell ⟨b, 1, none⟩ a1).setCell ⟨b, 2, none⟩ a2).setCell ⟨b, 3, none⟩ a3).setCell ⟨b, 4, none⟩ a4).setCell ⟨b, 5, none⟩ a5).setCell ⟨b, 6, none⟩ a6).heap[b]?) = _
  rw [s6]; simp

end Go.Proofs.Ytokaecnhjdgjgaa.find


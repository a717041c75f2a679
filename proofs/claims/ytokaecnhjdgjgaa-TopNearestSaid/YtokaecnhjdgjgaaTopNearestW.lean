/-
 Through the layers: an object's code for a method is that of the first class, from its own one up, that declares it: walked through the program.
-/
import Derived.Test.YtokaecnhjdgjgaaFindH
namespace Go.Proofs.Ytokaecnhjdgjgaa.topNearest
open Go.RowKit
open words kindp opp op kind word prg sorts find

theorem overD {b : Nat} {a c : World} (h : Below b a c) : Below b a c.drew := ⟨h.os, h.tape, h.output, h.size, h.block⟩
theorem refV_two {o : Option Tx} {s d d1 d2 d3 : Tx} {ok : Bool} (h : refV o s d = .tuple #[.agg #[.string ⟨d1.toArray⟩, .string ⟨d2.toArray⟩, .string ⟨d3.toArray⟩], .bool ok]) : (o = none → ok = false) ∧ ∀ q, o = some q → ok = true ∧ d1 = q := by
  refine ⟨fun e => ?_, fun q e => ?_⟩
  · subst e
    simp only [refV, Value.tuple.injEq, List.toArray_inj] at h
    simp at h
    first | exact h.2.symm | exact h.symm | simp_all
  · subst e
    simp only [refV] at h
    simp at h
    exact ⟨by simp_all, by simp_all⟩
theorem first_one {cs : List ClM} {s d nm : Tx} {c : ClM} {k : Nat} (h : firstM cs [nm] s d = some (c, k)) : c.nm = nm := by
  unfold firstM at h
  have h1 : oneM cs s d nm = some (c, k) := by simpa using h
  unfold oneM at h1
  cases hc : findC cs nm with
  | none => rw [hc] at h1; cases h1
  | some c' =>
    rw [hc] at h1; dsimp only at h1
    cases hd : declM c' s d with
    | none => rw [hd] at h1; cases h1
    | some k' =>
      rw [hd] at h1
      simp only [Option.some.injEq, Prod.mk.injEq] at h1
      obtain ⟨rfl, rfl⟩ := h1
      exact (findC_nm hc).1
theorem size_mex : (Try.prog.info? 48).map (·.size) = some 6 := by kernel_rfl
theorem one_mex (x : MeM) : ∀ v ∈ meC x, v.oneCell' = true := by
  intro v hv
  simp only [meC, List.mem_cons, List.not_mem_nil, or_false] at hv
  rcases hv with rfl | rfl | rfl | rfl | rfl | rfl <;> rfl
theorem there_new6 {u : World} {b : Nat} {T : TypeId} (h : u.heap[b]? = some (.cells #[.string ⟨#[]⟩, .string ⟨#[]⟩, .bool false, .bool false, .int .i64 0, .slice none 0 0] T (0, 0))) : u.there b 0 6 := fun j hj => by
  rw [Nat.zero_add]
  refine ⟨?_, frozen_of_row _ _ j _ _ h⟩
  match j, hj with
  | 0, _ => rw [show u.cell? ⟨b, 0, none⟩ = some (.string ⟨#[]⟩) from cell_of_row _ _ 0 _ _ _ h]; rfl
  | 1, _ => rw [show u.cell? ⟨b, 1, none⟩ = some (.string ⟨#[]⟩) from cell_of_row _ _ 1 _ _ _ h]; rfl
  | 2, _ => rw [show u.cell? ⟨b, 2, none⟩ = some (.bool false) from cell_of_row _ _ 2 _ _ _ h]; rfl
  | 3, _ => rw [show u.cell? ⟨b, 3, none⟩ = some (.bool false) from cell_of_row _ _ 3 _ _ _ h]; rfl
  | 4, _ => rw [show u.cell? ⟨b, 4, none⟩ = some (.int .i64 0) from cell_of_row _ _ 4 _ _ _ h]; rfl
  | 5, _ => rw [show u.cell? ⟨b, 5, none⟩ = some (.slice none 0 0) from cell_of_row _ _ 5 _ _ _ h]; rfl
theorem sets_new6 {u : World} {b : Nat} {T : TypeId} {cs : List Value} (hl : cs.length = 6) (h : u.heap[b]? = some (.cells #[.string ⟨#[]⟩, .string ⟨#[]⟩, .bool false, .bool false, .int .i64 0, .slice none 0 0] T (0, 0))) : (u.setCells b 0 cs).heap[b]? = some (.cells cs.toArray T (0, 0)) := by
  obtain ⟨a0, a1, a2, a3, a4, a5, rfl⟩ : ∃ a0 a1 a2 a3 a4 a5, cs = [a0, a1, a2, a3, a4, a5] := by
    match cs, hl with
    | [a0, a1, a2, a3, a4, a5], _ => exact ⟨a0, a1, a2, a3, a4, a5, rfl⟩
  have s0 := heap_setCell_same _ b 0 _ _ a0 h
  have s1 := heap_setCell_same _ b 1 _ _ a1 s0
  have s2 := heap_setCell_same _ b 2 _ _ a2 s1
  have s3 := heap_setCell_same _ b 3 _ _ a3 s2
  have s4 := heap_setCell_same _ b 4 _ _ a4 s3
  have s5 := heap_setCell_same _ b 5 _ _ a5 s4
  show (((((((u.setCell ⟨b, 0, none⟩ a0).setCell ⟨b, 1, none⟩ a1).setCell ⟨b, 2, none⟩ a2).setCell ⟨b, 3, none⟩ a3).setCell ⟨b, 4, none⟩ a4).setCell ⟨b, 5, none⟩ a5).heap[b]?) = _
  rw [s5]; simp
def clA : ClM := ⟨[65], [], false, false, [], none, 0, [], none, 0, [], none, 0⟩
def pA (b : Nat) : PrM := ⟨[clA], some ⟨b, 0, none⟩, 1, [], none, 0, [], [], []⟩
theorem pA_gr (b : Nat) : GrP (pA b) := by
  refine ⟨⟨by simp [pA], by simp [pA]⟩, fun y hy => ?_⟩
  unfold pA at hy
  dsimp only at hy
  rw [List.mem_singleton] at hy; subst hy
  exact ⟨⟨by simp [clA], by simp [clA], by simp [clA], by simp [clA], by simp [clA]⟩, fun y hy => by cases hy⟩

end Go.Proofs.Ytokaecnhjdgjgaa.topNearest


/-
  The walk of PoolMakes: pools, places in them, and two together, as the document's answers are.
-/
import Derived.Test.YtchhibicbgimcaaPool5H
namespace Go.Proofs.Ytchhibicbgimcaa.poolMakes
open Go.RowKit Go.Maps
open Go.Proofs.Ytchhibicbgimcaa.num Go.Proofs.Ytchhibicbgimcaa.words Go.Proofs.Ytchhibicbgimcaa.poolp Go.Proofs.Ytchhibicbgimcaa.pool

/-- what is known of a list of arguments -/
theorem few_facts {A : Option Addr} {c : Nat} {ss : List ByteArray} {w : World} (hr : Rd w A (texts.S ss)) (hc : ss.length ≤ c) (hn : ss.length * 16 ≤ 140737488351232) (hxs : ∀ x ∈ ss, x.size ≤ 140737488351232) :
    ∃ L : List Str, (Calls Try.prog 4 #[.slice A ss.length c] w fun e w' => (∃ A', e = .returned (.slice A' L.length c) ∧ Rd w A' (SL L)) ∧ w' = w) ∧ L.length ≤ 1100 ∧ ∀ x ∈ L, x.length ≤ 140737488355328 := by
  rw [S_SL] at hr
  obtain ⟨l, hl⟩ : ∃ l : List Str, l = ss.map (·.data.toList) := ⟨_, rfl⟩
  have hll : ss.length = l.length := by rw [hl, List.length_map]
  rw [← hl] at hr
  rw [hll] at hc hn ⊢
  refine ⟨fewL l, (few_w A c l w hr hc (by omega)).mono ?_, by unfold fewL; rw [List.length_take]; omega, fun x hx => ?_⟩
  · rintro e w' ⟨⟨A', he, hr'⟩, rfl⟩
    exact ⟨⟨A', he, hr'⟩, rfl⟩
  · have hx2 := List.mem_of_mem_take hx
    rw [hl] at hx2
    obtain ⟨y, hy, rfl⟩ := List.mem_map.1 hx2
    have := hxs y hy
    rw [Array.length_toList]; show y.size ≤ _; omega
theorem merge_small (a b : List Str) : (mergeL a b).length ≤ 1024 := by
  unfold mergeL
  split
  · exact (make_pool _).2.1
  · simp

end Go.Proofs.Ytchhibicbgimcaa.poolMakes

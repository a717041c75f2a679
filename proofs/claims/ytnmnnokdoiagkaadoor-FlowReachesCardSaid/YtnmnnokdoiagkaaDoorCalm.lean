/-
 A region that draws its order and holds no call, within a round of a range over a function: walked as any region, taken over inside the fence.
-/
import Derived.OrdersIn
import Derived.OrdersHeld
import Derived.Deep.RegionHeld
import Derived.Test.YtnmnnokdoiagkaaDoorWords
namespace Go.Proofs.YtnmnnokdoiagkaaDoor.words
open Go.RowKit

/-- a walk that ends normally alone -/
def onlyN (q : Act → World → Prop) : Exit → Act → World → Prop
 | .normal, a, w => q a w
 | _, _, _ => False
theorem onlyN_of {q : Act → World → Prop} {e : Exit} {a : Act} {w : World} (h : onlyN q e a w) : e = .normal ∧ q a w := by
 cases e with
 | normal => exact ⟨rfl, h⟩
 | _ => exact h.elim
/-- operations that hand back a value, or nothing, and call nobody -/
def calmB : Op → Bool
 | .move _ | .assign _ | .load _ _ | .store _ _ _ | .binOp _ _ _ _ _ | .unOp _ _ _ | .indexAddr _ _ _ | .fieldAddr _ _ _ | .extract _ _ => true
 | _ => false
theorem calm_run {P : Program} {o : Oper} (h : calmB o.op = true) (ρ : Operand → Value) (w : World) :
  (∃ v w', (execOp ρ o).run P w = .ok (.value v) w') ∨ (∃ w', (execOp ρ o).run P w = .ok .skip w') ∨ ∃ x w', (execOp ρ o).run P w = .halt x w' := by
 have hv : ∀ s : Sem Value, (∃ v w', (do pure (Next.value (← s)) : Sem Next).run P w = .ok (.value v) w') ∨ (∃ w', (do pure (Next.value (← s)) : Sem Next).run P w = .ok .skip w') ∨ ∃ x w', (do pure (Next.value (← s)) : Sem Next).run P w = .halt x w' := fun s => by
  simp only [Sem.run_bind, Sem.run_pure]
  cases s.run P w with
  | ok v w' => exact .inl ⟨v, w', rfl⟩
  | halt x w' => exact .inr (.inr ⟨x, w', rfl⟩)
 have hu : ∀ s : Sem Unit, (∃ v w', (do s; pure Next.skip : Sem Next).run P w = .ok (.value v) w') ∨ (∃ w', (do s; pure Next.skip : Sem Next).run P w = .ok .skip w') ∨ ∃ x w', (do s; pure Next.skip : Sem Next).run P w = .halt x w' := fun s => by
  simp only [Sem.run_bind, Sem.run_pure]
  cases s.run P w with
  | ok v w' => exact .inr (.inl ⟨w', rfl⟩)
  | halt x w' => exact .inr (.inr ⟨x, w', rfl⟩)
 obtain ⟨dst, op, type, pos, after, guard⟩ := o
 cases op <;> first | (simp [calmB] at h; done) | exact hv _ | exact hu _ | exact .inl ⟨_, _, rfl⟩
theorem calm_about {P : Program} {o : Oper} (h : calmB o.op = true) (ρ : Operand → Value) (w : World) : o.about P w ρ = none := by
 obtain ⟨dst, op, type, pos, after, guard⟩ := o
 cases op <;> first | (simp [calmB] at h; done) | rfl
theorem calm_sem {o : Oper} (h : calmB o.op = true) (ro : Option Nat) (ρ : Operand → Value) : o.semAt ro ρ = execOp ρ o :=
 Oper.semAt_eq ro ρ o (fun c e => by rw [e] at h; simp [calmB] at h)
section
variable {F : Fence} {n : Nat} {P : Program} {ops : Array Oper} {q : Act → World → Prop} {md : Region.Mode}
theorem wpOpIn_of_calm {i : Nat} {K K' : Act → World → Prop} {a : Act} {w : World} (hc : ∀ (j : Nat) o, ops[j]? = some o → calmB o.op = true) (hK : ∀ a w, K a w → K' a w)
  (h : wpOp P ops (onlyN q) i K a w) : wpOpIn F n P ops (onlyN q) i K' a w := by
 unfold wpOp at h
 unfold wpOpIn
 cases ho : ops[i]? with
 | none => rw [ho] at h; exact hK _ _ h
 | some o =>
  rw [ho] at h
  have hcal := hc i o ho
  simp only at h ⊢
  split
  ·rename_i hw
   rw [if_pos hw] at h
   rcases h with h | ⟨-, h⟩
   ·refine ⟨fun f hf => (by rw [calm_about hcal] at hf; cases hf), ?_⟩
    rw [calm_sem hcal]
    unfold Oper.wp at h
    rcases calm_run (P := P) hcal a.eval w with ⟨v, w', e⟩ | ⟨w', e⟩ | ⟨x, w', e⟩
    ·rw [e] at h ⊢; exact hK _ _ h
    ·rw [e] at h ⊢; exact hK _ _ h
    ·rw [e] at h ⊢
     cases x <;> exact h.elim
   ·exact absurd h (by rintro ⟨_, _, h⟩; exact h)
  ·rename_i hw
   rw [if_neg hw] at h
   exact ⟨fun f hf => (by rw [calm_about hcal] at hf; cases hf), hK _ _ h⟩
theorem wpAnyIn_of_calm (hc : ∀ (j : Nat) o, ops[j]? = some o → calmB o.op = true) : ∀ (fuel : Nat) (listed : Array Bool) (a : Act) (w : World), wpAny P md ops (onlyN q) fuel listed a w → wpAnyIn F n P md ops (onlyN q) fuel listed a w
 | 0, _, _, _, h => h
 | fuel + 1, _, _, _, h => ⟨h.1, fun i hi => wpOpIn_of_calm hc (fun a' w' => wpAnyIn_of_calm hc fuel _ a' w') (h.2 i hi)⟩
theorem calm_all (h : ops.all (fun o => calmB o.op) = true) : ∀ (j : Nat) o, ops[j]? = some o → calmB o.op = true := fun j o hj => by
 obtain ⟨hlt, rfl⟩ := Array.getElem?_eq_some_iff.1 hj
 exact Array.all_eq_true.1 h j hlt
/-- THE BEGINNING, S shown of the world behind the draw, once -/
theorem wpIn_region_calm {S : World → Prop} {id : Nat} {a : Act} {w : World} (hm : P.follows .mixedOrders = true) (hc : ops.all (fun o => calmB o.op) = true) (hS : S w.drew)
  (h : S w.drew → wpAnyH P .any ops (onlyN q) S ops.size (Array.replicate ops.size false) a w.drew) : (Code.region id ops true).wpIn F n P (onlyN q) a w :=
 wpIn_region_any hm (wpAnyIn_of_calm (calm_all hc) _ _ _ _ (wpAny_of_held _ _ _ _ (h hS)))
end
end Go.Proofs.YtnmnnokdoiagkaaDoor.words

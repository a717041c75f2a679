/-
 How an argument that is a slice of bytes, or of numbers, is opened for this seat's walks: what it holds, how long it is, and what its size is bounded by.
-/
import Derived.Test.YtjcdgpfffmnneaaGreatDoorRows
import Derived.Test.YtjcdgpfffmnneaaGreatDoorWords
import Derived.ProofKit
import Derived.OpenShut
import Derived.SizedLaws
import Derived.Below
namespace Go.Proofs.YtjcdgpfffmnneaaGreatDoor.frame
open Go.ChangeShapes Go.WideShapes Go.ChangeAt Go.RowKit
open words

set_option maxRecDepth 100000 in
theorem laidOut : laidOutB Tryz.prog = true := by kernel_rfl
set_option maxRecDepth 100000 in
theorem own : ownKnob Tryz.prog.godebug = none := by kernel_rfl

theorem cell_lt {w : World} {p : Addr} {v : Value} (h : w.cell? p = some v) : p.block < w.heap.size := by
 rcases Nat.lt_or_ge p.block w.heap.size with h1 | h1
 ·exact h1
 ·simp [World.cell?, Array.getElem?_eq_none h1] at h

/-- what the form's reach bounds -/
theorem reach {H : Type} {P : Program} {ts : List TypeId} {ds : List (DataW H)} (h : (DataW.weightsEach P ts ds).all (· ≤ reachBytes) = true) {j : Nat} {t e : TypeId} {d : DataW H} {n c b : Nat} (ht : ts[j]? = some t) (hj : ds[j]? = some d)
  (hu : P.underlying t = some (.slice e)) (hb : P.bytesOf e = b) (hnc : n ≤ c)
  (hd : (d = .nil ∧ c = 0) ∨ ∃ elems spare, d = .slice elems spare ∧ elems.length = n ∧ elems.length + spare.length = c) : n * b ≤ 140737488351232 := by
 rcases hd with ⟨_, rfl⟩ | ⟨elems, spare, rfl, _, hc⟩
 ·obtain rfl : n = 0 := by omega
  simp
 ·have := sized_slice h ht hj hu
  rw [hb, hc] at this
  have h2 : n * b ≤ c * b := Nat.mul_le_mul_right _ hnc
  have h3 : reachBytes = 140737488351232 := by decide
  omega

end Go.Proofs.YtjcdgpfffmnneaaGreatDoor.frame

/-
 Layer 6, the document's answers: texts, descriptors, renamings, and the types of a descriptor.
-/
import Derived.Test.YtgpfohpmgbnimaaKindN
import Derived.Test.YtgpfohpmgbnimaaKindG
import Derived.Deep.QuietTactic
import Derived.BigQuiet
/- Layer 6, the document's small answers: whether a type can be, of what sort it is, its text, and the type of a text. -/
namespace Go.Proofs.Ytgpfohpmgbnimaa.kind
open Go.RowKit
open words kindp word
end Go.Proofs.Ytgpfohpmgbnimaa.kind

/- Layer 6, the document's answers: the type of a text, and a descriptor of any types. -/
namespace Go.Proofs.Ytgpfohpmgbnimaa.kind
open Go.RowKit
open words kindp word rdr
end Go.Proofs.Ytgpfohpmgbnimaa.kind

/- Layer 6, the document's answers: a type with another class's name, and a descriptor of any types. -/
namespace Go.Proofs.Ytgpfohpmgbnimaa.kind
open Go.RowKit
open words kindp word rdr
end Go.Proofs.Ytgpfohpmgbnimaa.kind

/- Layer 6, the document's answer: a descriptor of any types. -/
namespace Go.Proofs.Ytgpfohpmgbnimaa.kind
open Go.RowKit
open words kindp word rdr

theorem wrong_eq (k : Int) (c : Tx) : wrongT (k, c) = (!rightT (k, c) || (k == 1)) := by
 unfold wrongT
 cases hr : rightT (k, c) with
 | false => simp
 | true =>
  simp only [Bool.not_true, Bool.or_false, Bool.false_or]
  by_cases h : k = 1
  ·subst h
   rw [right_no rfl] at hr
   have := (of_decide_eq_true hr).2
   subst this; rfl
  ·have : ((k == 1) : Bool) = false := by simpa using h
   rw [this]; simp [h]
theorem min_step {p : List Ty} {j : Nat} {t : Ty} (h : p[j]? = some t) (hj : j ≤ 8) : bodyT (p.take (min (j + 1) 9)) = bodyT (p.take (min j 9)) ++ textT t := by
 rw [show min (j + 1) 9 = j + 1 by omega, show min j 9 = j by omega]; exact body_take h

end Go.Proofs.Ytgpfohpmgbnimaa.kind

/- Layer 6, the document's answer: a descriptor's parameters, and its answer. -/
namespace Go.Proofs.Ytgpfohpmgbnimaa.kind
open Go.RowKit
open words kindp word rdr piece
theorem ext_drop (s : ByteArray) (k : Nat) : (s.extract k s.size).data.toList = s.data.toList.drop k := by
 rw [ext_data, List.take_of_length_le (by rw [List.length_drop, size_data]; exact Nat.le_refl _)]
theorem sig_end {acc : List Ty} : sigT (([] : Tx).length + 1) acc [] = none := rfl
theorem split_one {d : Tx} (h : ¬ 64 < d.length) (hg : sigD d = none) : splitT d = ([], (0, []), 1) := by unfold splitT; rw [if_neg h, hg]
theorem split_some {d : Tx} {p : List Ty} {t : Ty} (h : ¬ 64 < d.length) (hg : sigD d = some (p, t)) : splitT d = if 8 < p.length then ([], (0, []), 3) else (p, t, 0) := by unfold splitT; rw [if_neg h, hg]
/-- what the loop holds -/
def SigR (G : Option (List Ty × Ty)) (L : Tx) (at_ : Nat) (acc : List Ty) : Prop := sigT ((L.drop at_).length + 1) acc (L.drop at_) = G ∧ at_ ≤ L.length ∧ acc.length ≤ at_

end Go.Proofs.Ytgpfohpmgbnimaa.kind

/- Layer 6, the document's answer: a descriptor with its classes renamed. -/
namespace Go.Proofs.Ytgpfohpmgbnimaa.kind
open Go.RowKit
open words kindp word rdr piece

theorem map_more {α β : Type} (f : α → β) {p : List α} {j : Nat} {x : α} (h : p[j]? = some x) : (p.take (j + 1)).map f = (p.take j).map f ++ [f x] := by
 rw [List.take_add_one, h, List.map_append]; rfl

end Go.Proofs.Ytgpfohpmgbnimaa.kind

/-
 Layer 6, the document's answer: the type whose text stands at a place.
-/
import Derived.Test.YtgpfohpmgbnimaaKindB
import Derived.Test.YtgpfohpmgbnimaaWordM
namespace Go.Proofs.Ytgpfohpmgbnimaa.kind
open Go.RowKit
open words kindp word piece write

theorem data_mk (s : ByteArray) : (⟨s.data.toList.toArray⟩ : ByteArray) = s := by simp
theorem cls_data (s : ByteArray) : namedB classB s = clsB s.data.toList := by rw [← cls_eq, data_mk]
theorem size_data (s : ByteArray) : s.data.toList.length = s.size := by rw [Array.length_toList]; rfl
theorem at_data {s : ByteArray} {k : Nat} (h : k < s.size) : s.data.toList[k]? = some (s[k]'h) := by
 rw [List.getElem?_eq_getElem (by rw [size_data]; exact h)]; rfl
theorem drop_data {s : ByteArray} {k : Nat} (h : k < s.size) : s.data.toList.drop k = (s[k]'h) :: s.data.toList.drop (k + 1) := by
 have := at_data h
 rw [List.getElem?_eq_some_iff] at this
 obtain ⟨h1, h2⟩ := this
 rw [List.drop_eq_getElem_cons h1, h2]
theorem byte_nat {a : UInt8} {n : Nat} (h : a.toNat = n) : a = UInt8.ofNat n := by
 rw [← h]; simp
theorem ext_mk (s : ByteArray) (a b : Nat) : s.extract a b = ⟨((s.data.toList.drop a).take (b - a)).toArray⟩ := by
 rw [← ext_data, data_mk]

/-- what next answers: of a text, at a place -/
def Next (L : Tx) (at_ : Nat) (w : World) (e : Ending) (w' : World) : Prop :=
 (match typeT (L.drop at_) with
  | some (t, r) => ∃ to : Nat, to ≤ L.length ∧ at_ < to ∧ r = L.drop to ∧ e = .returned (.tuple #[tyV t, .int .i64 (to : Int), .bool true])
  | none => ∃ (t : Ty) (m : Nat), e = .returned (.tuple #[tyV t, .int .i64 (m : Int), .bool false])) ∧ Below w.heap.size w w'
theorem next_some {L r : Tx} {t : Ty} {at_ to : Nat} {w w' : World} {e : Ending} (h : typeT (L.drop at_) = some (t, r)) (h1 : to ≤ L.length) (h2 : at_ < to) (h3 : r = L.drop to) (he : e = .returned (.tuple #[tyV t, .int .i64 (to : Int), .bool true])) (hb : Below w.heap.size w w') : Next L at_ w e w' := by
 unfold Next; rw [h]; exact ⟨⟨to, h1, h2, h3, he⟩, hb⟩
theorem next_none {L : Tx} (t : Ty) {at_ : Nat} (m : Nat) {w w' : World} {e : Ending} (h : typeT (L.drop at_) = none) (he : e = .returned (.tuple #[tyV t, .int .i64 (m : Int), .bool false])) (hb : Below w.heap.size w w') : Next L at_ w e w' := by
 unfold Next; rw [h]; exact ⟨⟨t, m, he⟩, hb⟩

theorem class_at {L : Tx} {f to : Nat} (k : Int) (h : L[to]? = some 59) (hf : f ≤ to) (hn : (59 : UInt8) ∉ (L.drop f).take (to - f)) :
  classT k (L.drop f) = if clsB ((L.drop f).take (to - f)) = true then some ((k, (L.drop f).take (to - f)), L.drop (to + 1)) else none := by
 rw [cutAt h hf]
 unfold classT
 rw [cut_hit hn]
 dsimp only
 rw [Bool.true_and]
 have e : ((L.drop f).take (to - f) ++ 59 :: L.drop (to + 1)).take (to - f) = (L.drop f).take (to - f) := by rw [← cutAt h hf]
 rw [e]
theorem class_end {L : Tx} {f : Nat} (k : Int) (hn : (59 : UInt8) ∉ (L.drop f).take (L.length - f)) : classT k (L.drop f) = none := by
 rw [List.take_of_length_le (by rw [List.length_drop]; omega)] at hn
 unfold classT
 rw [cut_miss hn]
 rfl
/-- what the loop holds -/
def Seek (L : Tx) (f to : Nat) : Prop := to ≤ L.length ∧ f ≤ to + 1 ∧ (59 : UInt8) ∉ (L.drop f).take (to - f)
theorem seek_zero {L : Tx} {to : Nat} (h : to ≤ L.length) : Seek L (to + 1) to := ⟨h, Nat.le_refl _, by rw [show to - (to + 1) = 0 by omega]; simp⟩
theorem seek_next {L : Tx} {f to : Nat} {c : UInt8} (h : Seek L f to) (hc : L[to]? = some c) (h59 : c ≠ 59) (hlt : to < L.length) : Seek L f (to + 1) := by
 obtain ⟨h1, h2, h3⟩ := h
 refine ⟨hlt, by omega, ?_⟩
 by_cases hf : f ≤ to
 ·exact notNext hc hf (fun e => h59 e.symm) h3
 ·rw [show to + 1 - f = 0 by omega]; simp

end Go.Proofs.Ytgpfohpmgbnimaa.kind

/-
 A text cut at each byte of one kind: of no program.
-/
import Derived.Lib.Split
import Derived.Lib.Join
namespace Go.Proofs.YtjcdgpfffmnneaaGreatDoor.piece
open Go.Lib

theorem idx_miss {c : UInt8} : ∀ {a : List UInt8}, c ∉ a → index a [c] = -1
 | [], _ => rfl
 | x :: l, h => by
  have h1 : c ≠ x := fun e => h (by rw [e]; exact List.mem_cons_self)
  have h2 : c ∉ l := fun e => h (List.mem_cons_of_mem _ e)
  have hp : ([c] : List UInt8).isPrefixOf (x :: l) = false := by simp [List.isPrefixOf, h1]
  unfold index
  rw [hp, idx_miss h2]; rfl
theorem idx_hit {c : UInt8} {b : List UInt8} : ∀ {a : List UInt8}, c ∉ a → index (a ++ c :: b) [c] = (a.length : Int)
 | [], _ => by
  have hp : ([c] : List UInt8).isPrefixOf (c :: b) = true := by simp [List.isPrefixOf]
  show index (c :: b) [c] = _
  unfold index
  rw [if_pos hp]; rfl
 | x :: l, h => by
  have h1 : c ≠ x := fun e => h (by rw [e]; exact List.mem_cons_self)
  have h2 : c ∉ l := fun e => h (List.mem_cons_of_mem _ e)
  have hp : ([c] : List UInt8).isPrefixOf (x :: (l ++ c :: b)) = false := by simp [List.isPrefixOf, h1]
  show index (x :: (l ++ c :: b)) [c] = _
  unfold index
  rw [hp, idx_hit h2]
  have : ((l.length : Int) == -1) = false := by rw [beq_eq_false_iff_ne]; omega
  simp [this]
theorem cut_miss {c : UInt8} {a : List UInt8} (h : c ∉ a) : cut a [c] = (a, [], false) := by
 unfold cut; rw [idx_miss h, if_neg (by decide)]
theorem cut_hit {c : UInt8} {a b : List UInt8} (h : c ∉ a) : cut (a ++ c :: b) [c] = (a, b, true) := by
 unfold cut
 rw [idx_hit h, if_pos (by omega)]
 have e1 : ((a.length : Int)).toNat = a.length := by omega
 rw [e1]
 simp [List.drop_append]
/-- each list has no c, or a first one -/
theorem parts (c : UInt8) : ∀ l : List UInt8, c ∉ l ∨ ∃ a b, l = a ++ c :: b ∧ c ∉ a
 | [] => .inl (by simp)
 | x :: l => by
  by_cases h : c = x
  ·exact .inr ⟨[], l, by rw [h]; rfl, by simp⟩
  ·rcases parts c l with h1 | ⟨a, b, e, h1⟩
   ·exact .inl (by simp [h, h1])
   ·exact .inr ⟨x :: a, b, by rw [e]; rfl, by simp [h, h1]⟩
def F (c : UInt8) (l : List UInt8) : List (List UInt8) := split l [c]
section
variable {l : List UInt8} {i f : Nat} {c x : UInt8}
theorem cutAt (h : l[i]? = some c) (hf : f ≤ i) : l.drop f = (l.drop f).take (i - f) ++ c :: l.drop (i + 1) := by
 have hlt : i < l.length := by
  rcases Nat.lt_or_ge i l.length with h1 | h1
  ·exact h1
  ·rw [List.getElem?_eq_none h1] at h; cases h
 conv => lhs; rw [← List.take_append_drop (i - f) (l.drop f)]
 rw [List.drop_drop, show f + (i - f) = i by omega, List.drop_eq_getElem_cons hlt]
 rw [List.getElem?_eq_getElem hlt] at h
 cases h; rfl
theorem takeNext (h : l[i]? = some x) (hf : f ≤ i) : (l.drop f).take (i + 1 - f) = (l.drop f).take (i - f) ++ [x] := by
 have : (l.drop f)[i - f]? = some x := by rw [List.getElem?_drop, show f + (i - f) = i by omega]; exact h
 rw [show i + 1 - f = i - f + 1 by omega, List.take_add_one, this]; rfl
theorem notNext (h : l[i]? = some x) (hf : f ≤ i) (hx : c ≠ x) (hn : c ∉ (l.drop f).take (i - f)) : c ∉ (l.drop f).take (i + 1 - f) := by
 rw [takeNext h hf]; simp [hn, hx]
end
/-- strings, as lists of bytes -/
def D (xs : List ByteArray) : List (List UInt8) := xs.map (·.data.toList)
theorem ext_data (s : ByteArray) (f i : Nat) : (s.extract f i).data.toList = (s.data.toList.drop f).take (i - f) := by
 rw [ByteArray.data_extract, Array.toList_extract]
end Go.Proofs.YtjcdgpfffmnneaaGreatDoor.piece

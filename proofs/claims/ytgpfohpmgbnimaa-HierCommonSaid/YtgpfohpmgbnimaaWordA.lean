/-
 Layer 4: whether each byte of a text may stand in a name.
-/
import Derived.Test.YtgpfohpmgbnimaaWord
import Derived.Test.YtgpfohpmgbnimaaWrite
namespace Go.Proofs.Ytgpfohpmgbnimaa.word
open Go.RowKit
open num words give write

theorem N_at (s : ByteArray) (k : Nat) (h : k < s.size) : (N s)[k]? = some (s[k]'h).toNat := by
 unfold N
 rw [List.getElem?_map, Array.getElem?_toList, Array.getElem?_eq_getElem (by exact h)]
 rfl
theorem take_all (s : ByteArray) (p : Nat → Bool) (k : Nat) (h : k < s.size) (ha : ((N s).take k).all p = true) (hp : p (s[k]'h).toNat = true) : ((N s).take (k + 1)).all p = true := by
 rw [List.take_add_one, N_at s k h, List.all_append, ha]
 simp [hp]
theorem not_all (s : ByteArray) (p : Nat → Bool) (k : Nat) (h : k < s.size) (hp : p (s[k]'h).toNat = false) : (N s).all p = false := by
 rw [List.all_eq_false]
 exact ⟨_, List.mem_of_getElem? (N_at s k h), by simp [hp]⟩

end Go.Proofs.Ytgpfohpmgbnimaa.word

/-
  What the reference's SameTexts answers of two slices that hold the same texts: true; it only reads.
-/
import Derived.Test.YtodnfahffkggiaaDoorProg
import Derived.Test.YtodnfahffkggiaaDoorWords
import Derived.Lib.Hide
import Derived.Deep.QuietTactic
import Derived.BigQuiet
namespace Go.Proofs.YtodnfahffkggiaaDoor.texts
open Go.RowKit
open Go.Proofs.YtodnfahffkggiaaDoor.words

/-- texts, as cells -/
def S (l : List ByteArray) : List Value := l.map Value.string
theorem S_len (l : List ByteArray) : (S l).length = l.length := by simp [S]
theorem S_app (l r : List ByteArray) : S (l ++ r) = S l ++ S r := by simp [S]
theorem S_at {l : List ByteArray} {j : Nat} {c : ByteArray} (h : l[j]? = some c) : (S l)[j]? = some (.string c) := by simp [S, h]
theorem S_one (l : List ByteArray) : ∀ u ∈ S l, u.oneCell' = true := by
  intro u hu
  obtain ⟨x, _, rfl⟩ := List.mem_map.1 hu
  rfl

end Go.Proofs.YtodnfahffkggiaaDoor.texts

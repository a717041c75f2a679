/-
 How an argument that is a text is bounded.
-/
import Derived.Test.YtjahilfapcljiaaGreatDoorFrame
import Derived.ChangeMaps5
namespace Go.Proofs.YtjahilfapcljiaaGreatDoor.frame
open Go.ChangeShapes Go.WideShapes Go.ChangeAt Go.RowKit

/-- what the form's reach bounds -/
theorem str_reach {H : Type} {P : Program} {ts : List TypeId} {ds : List (DataW H)} (h : (DataW.weightsEach P ts ds).all (· ≤ reachBytes) = true) {j : Nat} {t : TypeId} {s : ByteArray} (ht : ts[j]? = some t) (hj : ds[j]? = some (.lit (.string s.data.toList))) : s.size ≤ 140737488351232 := by
 have := sized_string h ht hj
 have h3 : reachBytes = 140737488351232 := by decide
 have h4 : s.size = s.data.toList.length := by rw [Array.length_toList]; rfl
 omega
/-- what the bound on bulk bounds -/
theorem bulk_str {H : Type} (s : ByteArray) : s.size ≤ Rows.uptoBulk (DataW.lit (H := H) (.string s.data.toList)) := by
 have h4 : s.size = s.data.toList.length := by rw [Array.length_toList]; rfl
 simp only [Rows.uptoBulk]
 omega
end Go.Proofs.YtjahilfapcljiaaGreatDoor.frame

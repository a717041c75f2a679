/-
  The table of sixteen as the program's text lays it: what the row's list gives, and a world in which it lies so.
-/
import Derived.Test.YtcpjllkfgoaamaaDoorRows
import Derived.Test.YtcpjllkfgoaamaaDoorCrc
import Derived.ProofKit
import Derived.Deep.DeepHandedRow
import Derived.Lib.LaidTab
namespace Go.Proofs.YtcpjllkfgoaamaaDoor.Laid
open Go.ChangeShapes Go.WideShapes Go.ChangeAt Go.RowKit
open Go.Proofs.YtcpjllkfgoaamaaDoor.crcnum

set_option maxRecDepth 100000 in
theorem gFour : Tryd.prog.globalNamed "secateur/crc.four" = some 4 := by kernel_rfl
set_option maxRecDepth 100000 in
theorem tFour : (Tryd.prog.globals[4]?).map (·.type) = some 135 := by kernel_rfl
set_option maxRecDepth 100000 in
theorem cellsT : Tryd.prog.cellsOf 135 = 16 := by kernel_rfl
set_option maxRecDepth 100000 in
theorem cellsE : Tryd.prog.cellsOf 95 = 1 := by kernel_rfl
def nums : List Int := [0, 498536548, 997073096, 651767980, 1994146192, 1802195444, 1303535960, 1342533948, 3988292384, 4027552580, 3604390888, 3412177804, 2607071920, 2262029012, 2685067896, 3183342108]
theorem nums_at : ∀ k : Fin 16, nums.getD k.val 0 = (T k.val : Int) := by decide +kernel

set_option maxRecDepth 100000 in
theorem tabIs {W : World} (h : laidMetH Tryd.prog [("secateur/crc.four", Rows.laid_secateur_crc_four)] W) : Lib.TabIs Tryd.prog W "secateur/crc.four" .u32 nums :=
  Lib.tabIs_of_head (rest := []) gFour tFour Tryd.underlying135 Tryd.underlying95 cellsE cellsT h
set_option maxRecDepth 100000 in
theorem table {W : World} (h : laidMetH Tryd.prog [("secateur/crc.four", Rows.laid_secateur_crc_four)] W) : crc.Tab W := by
  have ht := tabIs h
  have hc : ∀ k, k < 16 → W.cell? ⟨4, k, none⟩ = some (.int .u32 (T k : Int)) := fun k hk => by
    have := ht.cell gFour k (by simpa [nums] using hk)
    rw [this, nums_at ⟨k, hk⟩]
  refine ⟨?_, hc⟩
  have h0 := hc 0 (by omega)
  rcases Nat.lt_or_ge 4 W.heap.size with h1 | h1
  · exact h1
  · simp [World.cell?, Array.getElem?_eq_none h1] at h0
/-- A WORLD FOR THE WITNESS: the settled one, the table's block holding what its initialiser lays. -/
noncomputable def laidWorld (os : Os) : World :=
  { World.holding Tryd.prog os ⟨#[], #[], []⟩ with heap := (World.holding Tryd.prog os ⟨#[], #[], []⟩).heap.modify 4 fun
      | .cells _ t frozen => .cells #[.int .u32 0, .int .u32 498536548, .int .u32 997073096, .int .u32 651767980, .int .u32 1994146192, .int .u32 1802195444, .int .u32 1303535960, .int .u32 1342533948, .int .u32 3988292384, .int .u32 4027552580, .int .u32 3604390888, .int .u32 3412177804, .int .u32 2607071920, .int .u32 2262029012, .int .u32 2685067896, .int .u32 3183342108] t frozen
      | o => o }
end Go.Proofs.YtcpjllkfgoaamaaDoor.Laid

/-
  What the reference's Seal and Open hand back: what sealL and openL say, as crc's.
-/
import Derived.Test.YtodnfahffkggiaaDoorOpen
namespace Go.Proofs.YtodnfahffkggiaaDoor.sealing
open Go.RowKit
open Go.Proofs.YtodnfahffkggiaaDoor.crcnum Go.Proofs.YtodnfahffkggiaaDoor.words

theorem four_at (s j : Nat) (hj : j < 4) : (fourL s)[j]? = some (s / 2 ^ (8 * j) % 256) := by
  match j, hj with
  | 0, _ => simp [fourL]
  | 1, _ => simp [fourL]
  | 2, _ => simp [fourL]
  | 3, _ => simp [fourL]
end Go.Proofs.YtodnfahffkggiaaDoor.sealing

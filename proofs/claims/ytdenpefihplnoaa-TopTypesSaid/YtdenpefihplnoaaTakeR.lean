/-
  What the reference's Take answers: what takeAt says, as leb.Take.
-/
import Derived.Test.YtdenpefihplnoaaTake
namespace Go.Proofs.Ytdenpefihplnoaa.take
open Go.RowKit
open Go.Proofs.Ytdenpefihplnoaa.num Go.Proofs.Ytdenpefihplnoaa.words

theorem ref_step (y d j : Nat) (hy : y < 128 ^ j) (h : y + d % 128 * 128 ^ j < 18446744073709551616) :
    bits .or .u64 (y : Int) (IntKind.u64.wrap ((d : Int) % 128 * 2 ^ (7 * j))) = ((y + d % 128 * 128 ^ j : Nat) : Int) := by
  rw [← or_step y (d % 128) j hy h]
  rfl
end Go.Proofs.Ytdenpefihplnoaa.take

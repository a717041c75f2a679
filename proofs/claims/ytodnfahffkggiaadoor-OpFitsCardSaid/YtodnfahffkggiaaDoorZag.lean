/-
  The small functions of leb and of the reference on numbers alone that the later layers call, too: Zag; the reference's Zig, Zag and Put.
-/
import Derived.Test.YtodnfahffkggiaaDoorProg
import Derived.Test.YtodnfahffkggiaaDoorNum
import Derived.Test.YtodnfahffkggiaaDoorWords
import Derived.Test.YtodnfahffkggiaaDoorPut
import Derived.Lib.Hide
namespace Go.Proofs.YtodnfahffkggiaaDoor.small
open Go.RowKit
open Go.Proofs.YtodnfahffkggiaaDoor.num Go.Proofs.YtodnfahffkggiaaDoor.words

def zig (n : Int) : Int := if 0 ≤ n then 2 * n else -2 * n - 1
def zag (u : Int) : Int := if u % 2 = 0 then u / 2 else -(u / 2) - 1
theorem zag_zig (n : Int) : zag (zig n) = n := by
  unfold zag zig; split <;> split <;> omega
theorem zig_zag (u : Int) (h : 0 ≤ u) : zig (zag u) = u := by
  unfold zag zig; split <;> split <;> omega
theorem zig_bd (n : Int) (h1 : -9223372036854775808 ≤ n) (h2 : n ≤ 9223372036854775807) : 0 ≤ zig n ∧ zig n ≤ 18446744073709551615 := by
  unfold zig; split <;> omega
theorem zag_bd (u : Int) (h1 : 0 ≤ u) (h2 : u ≤ 18446744073709551615) : -9223372036854775808 ≤ zag u ∧ zag u ≤ 9223372036854775807 := by
  unfold zag; split <;> omega
theorem ret_u {k : IntKind} {a b : Int} (h : a = b) : Ending.returned (.int k a) = .returned (.int k b) := by rw [h]
theorem B_snoc (xs : List Nat) (x : Nat) (y : Int) (h : y = x) : B xs ++ [.int .u8 y] = B (xs ++ [x]) := by
  rw [h]; simp [B]
end Go.Proofs.YtodnfahffkggiaaDoor.small

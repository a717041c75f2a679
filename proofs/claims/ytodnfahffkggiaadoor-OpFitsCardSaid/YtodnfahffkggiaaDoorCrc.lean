/-
  What Add, Sum, Begin and End of crc answer, where the table of sixteen is as the program's text lays it; and the reference's Add and Sum: the states and the sums of crcnum.
-/
import Derived.Test.YtodnfahffkggiaaDoorProg
import Derived.Test.YtodnfahffkggiaaDoorCrcNum
import Derived.Test.YtodnfahffkggiaaDoorWords
import Derived.Lib.Hide
import Derived.Deep.QuietTactic
import Derived.BigQuiet
namespace Go.Proofs.YtodnfahffkggiaaDoor.crc
open Go.RowKit
open Go.Proofs.YtodnfahffkggiaaDoor.crcnum Go.Proofs.YtodnfahffkggiaaDoor.words

theorem xor32 {a b : Nat} (ha : a < 4294967296) (hb : b < 4294967296) : bits .xor .u32 (a : Int) (b : Int) = ((a ^^^ b : Nat) : Int) := u32_xor_nat a b ha hb

theorem u32max : IntKind.u32.max = ((4294967295 : Nat) : Int) := by kernel_rfl
theorem unot {s : Nat} (h : s < 4294967296) : bits .xor .u32 IntKind.u32.max (s : Int) = (neg s : Int) := by
  rw [u32max, xor32 (by omega) h, neg_xor h, Nat.xor_comm]
/-! THE REFERENCE -/
theorem half_odd {t : Nat} (h : 1 ≤ t % 2) (hl : t < 4294967296) : bits .xor .u32 ((t : Int) / 2) 3988292384 = (half t : Int) := by
  have e : ((t : Int) / 2) = ((t / 2 : Nat) : Int) := by omega
  have := xor32 (a := t / 2) (b := 3988292384) (by omega) (by omega)
  rw [e]
  unfold half
  rw [if_pos (by omega)]
  exact this
theorem half_evn {t : Nat} (h : t % 2 ≤ 0) : ((t : Int) / 2) = (half t : Int) := by
  unfold half
  rw [if_neg (by omega), Nat.xor_zero]; omega
end Go.Proofs.YtodnfahffkggiaaDoor.crc

/-
  What leb.Take answers: the number that stands at a place of any bytes, or the error: what takeAt says.
-/
import Derived.Test.YtodnfahffkggiaaDoorProg
import Derived.Test.YtodnfahffkggiaaDoorNum
import Derived.Test.YtodnfahffkggiaaDoorWords
import Derived.Lib.Hide
namespace Go.Proofs.YtodnfahffkggiaaDoor.take
open Go.RowKit
open Go.Proofs.YtodnfahffkggiaaDoor.num Go.Proofs.YtodnfahffkggiaaDoor.words

/-- what turns the bits of one byte more into the number -/
theorem or_step (y d j : Nat) (hy : y < 128 ^ j) (h : y + d * 128 ^ j < 18446744073709551616) :
    bits .or .u64 (y : Int) (IntKind.u64.wrap ((d : Int) * 2 ^ (7 * j))) = ((y + d * 128 ^ j : Nat) : Int) := by
  have e1 : (d : Int) * 2 ^ (7 * j) = ((d * 128 ^ j : Nat) : Int) := by
    push_cast; rw [show (2 : Int) ^ (7 * j) = 128 ^ j by rw [Int.pow_mul]; rfl]
  rw [e1, IntKind.wrap_u64]
  have e2 : ((d * 128 ^ j : Nat) : Int) % 18446744073709551616 = ((d * 128 ^ j : Nat) : Int) := by omega
  rw [e2, u64_or_nat _ _ (by omega) (by omega)]
  have e3 : y ||| d * 128 ^ j = d * 128 ^ j + y := by
    rw [Nat.or_comm]
    have : 128 ^ j = 2 ^ (7 * j) := by rw [Nat.pow_mul]
    exact nat_join (7 * j) _ _ (by rw [← this]; exact Nat.mul_mod_left _ _) (by rw [← this]; exact hy)
  rw [e3]; omega
theorem andNot_byte (d : Nat) (h : d < 256) : bits .andNot .u8 (d : Int) 128 = ((d % 128 : Nat) : Int) := by
  have := u8_andNot_nat d 128 h (by omega)
  rw [show (((128 : Nat) : Int)) = 128 from rfl] at this
  rw [this]
  congr 1
  exact nat_mask7 d
theorem wrap_byte (d : Nat) (h : d < 256) : IntKind.u64.wrap (d : Int) = d := by rw [IntKind.wrap_u64]; omega
theorem leb_step (y d j : Nat) (hd : d < 256) (hy : y < 128 ^ j) (h : y + d % 128 * 128 ^ j < 18446744073709551616) :
    bits .or .u64 (y : Int) (IntKind.u64.wrap (IntKind.u64.wrap (bits .andNot .u8 (d : Int) 128) * 2 ^ (7 * j))) = ((y + d % 128 * 128 ^ j : Nat) : Int) := by
  rw [andNot_byte d hd, wrap_byte _ (by omega), or_step y _ j hy h]
theorem pow9 {j : Nat} (h : j = 9) : (2 : Int) ^ (7 * j) = 9223372036854775808 := by subst h; rfl
theorem fits (y d j : Nat) (hy : y < 128 ^ j) (hj : j ≤ 9) (h9 : j ≤ 8 ∨ d ≤ 1) : y + d % 128 * 128 ^ j < 18446744073709551616 := by
  have hp : 0 < 128 ^ j := Nat.pow_pos (by omega)
  rcases h9 with h | h
  · have a1 : d % 128 * 128 ^ j ≤ 127 * 128 ^ j := Nat.mul_le_mul_right _ (by omega)
    have a2 : 128 ^ (j + 1) ≤ 128 ^ 9 := Nat.pow_le_pow_right (by omega) (by omega)
    rw [Nat.pow_succ] at a2
    omega
  · have a1 : d % 128 * 128 ^ j ≤ 1 * 128 ^ j := Nat.mul_le_mul_right _ (by omega)
    have a2 : 128 ^ j ≤ 128 ^ 9 := Nat.pow_le_pow_right (by omega) (by omega)
    omega

/-- one way on from a place: what the whole answers -/
theorem fin {l L : List Nat} {k j y d : Nat} {r : List Nat} (hk : k ≤ l.length) (hL : l.drop k = L) (ht : takeGo 0 0 L = takeGo j y (L.drop j)) (hd : L.drop j = d :: r) {x q e : Nat}
    (h : takeGo j y (d :: r) = (x, q, e)) : takeAt l k = (x, if e = 0 then k + q else 0, e) := by
  unfold takeAt
  rw [if_neg (by omega)]
  simp only [Int.toNat_natCast, hL, ht, hd, h]
theorem fin_short {l L : List Nat} {k j y : Nat} (hk : k ≤ l.length) (hL : l.drop k = L) (ht : takeGo 0 0 L = takeGo j y (L.drop j)) (hd : L.drop j = []) : takeAt l k = (0, 0, 2) := by
  unfold takeAt
  rw [if_neg (by omega)]
  simp only [Int.toNat_natCast, hL, ht, hd, takeGo]
  rfl
theorem go_more {j y d : Nat} (r : List Nat) (h9 : ¬ (j = 9 ∧ 1 < d)) (h : 128 ≤ d) : takeGo j y (d :: r) = takeGo (j + 1) (y + d % 128 * 128 ^ j) r := by
  simp only [takeGo]; rw [if_neg h9, if_pos h]
theorem go_big {j y d : Nat} (r : List Nat) (h : j = 9 ∧ 1 < d) : takeGo j y (d :: r) = (0, 0, 1) := by
  simp only [takeGo]; rw [if_pos h]
theorem go_nought {j y d : Nat} (r : List Nat) (h : d = 0) (hj : 0 < j) : takeGo j y (d :: r) = (0, 0, 1) := by
  simp only [takeGo]; rw [if_neg (by omega), if_neg (by omega), if_pos ⟨h, hj⟩]
theorem go_last {j y d : Nat} (r : List Nat) (h9 : ¬ (j = 9 ∧ 1 < d)) (h : d < 128) (h0 : ¬ (d = 0 ∧ 0 < j)) : takeGo j y (d :: r) = (y + d % 128 * 128 ^ j, j + 1, 0) := by
  simp only [takeGo]; rw [if_neg h9, if_neg (by omega), if_neg h0, Nat.mod_eq_of_lt h]
def Out (l : List Nat) (k : Nat) (e : Ending) : Prop :=
  e = .returned (.tuple #[.int .u64 ((takeAt l k).1 : Int), .int .i64 ((takeAt l k).2.1 : Int), .int .i64 ((takeAt l k).2.2 : Int)])
theorem out_of {l : List Nat} {k x q e : Nat} {x' q' e' : Int} (h : takeAt l k = (x, q, e)) (hx : x' = x) (hq : q' = q) (he : e' = e) : Out l k (.returned (.tuple #[.int .u64 x', .int .i64 q', .int .i64 e'])) := by
  unfold Out; rw [h, hx, hq, he]

theorem size5 (w : World) : (sizeOf 5).run Tryd.prog w = .ok 1 w := by kernel_rfl

/-- leb.Take AT ANY PLACE: what takeAt says; the world stays. -/
def OutI (l : List Nat) (p : Int) (e : Ending) : Prop :=
  e = .returned (.tuple #[.int .u64 ((takeAt l p).1 : Int), .int .i64 ((takeAt l p).2.1 : Int), .int .i64 ((takeAt l p).2.2 : Int)])
theorem outside {l : List Nat} {p : Int} (h : p < 0 ∨ (l.length : Int) < p) : OutI l p (.returned (.tuple #[.int .u64 0, .int .i64 0, .int .i64 12])) := by
  unfold OutI takeAt; rw [if_pos h]; rfl
end Go.Proofs.YtodnfahffkggiaaDoor.take

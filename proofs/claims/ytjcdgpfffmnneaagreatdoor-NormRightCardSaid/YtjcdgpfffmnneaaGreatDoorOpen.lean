/-
 Layers 1 and 2: numbers as bytes, and sums: the program’s answers and the document’s.
-/
import Derived.Laws.BitsAllLaws
import Derived.Test.YtjcdgpfffmnneaaGreatDoorProg
import Derived.Test.YtjcdgpfffmnneaaGreatDoorWords
import Derived.Lib.Hide
import Derived.Deep.QuietTactic
import Derived.BigQuiet
import Derived.WalkSpells
import Derived.Lib.AppendZerosOnto
import Derived.Handy
import Derived.Deep.RegionHeld3
import Derived.ChangeKeysEq
/- Plain mathematics of numbers as bytes, seven bits in each: what the bytes of a number are, what stands at a place of bytes, and that each undoes the other. No program is named here. -/
namespace Go.Proofs.YtjcdgpfffmnneaaGreatDoor.num

/-- a number's bytes -/
def putL (m : Nat) : List Nat := if m < 128 then [m] else (m % 128 + 128) :: putL (m / 128)
termination_by m
decreasing_by omega

/-- what the bytes are, from the i-th on, behind what came to n: the number, how many bytes, the error -/
def takeGo (i n : Nat) : List Nat → Nat × Nat × Nat
 | [] => (0, 0, 2)
 | c :: r => if i = 9 ∧ 1 < c then (0, 0, 1)
  else if 128 ≤ c then takeGo (i + 1) (n + c % 128 * 128 ^ i) r
  else if c = 0 ∧ 0 < i then (0, 0, 1) else (n + c * 128 ^ i, i + 1, 0)

/-- what stands at a place -/
def takeAt (l : List Nat) (p : Int) : Nat × Nat × Nat :=
 if p < 0 ∨ (l.length : Int) < p then (0, 0, 12)
 else
  let r := takeGo 0 0 (l.drop p.toNat)
  (r.1, if r.2.2 = 0 then p.toNat + r.2.1 else 0, r.2.2)

/-- how many bits -/
def bl (n : Nat) : Nat := if n = 0 then 0 else Nat.log2 n + 1
/-- what goes round: so many numbers are told, so much is left -/
def more (acc : List Nat) (s : List Nat × Nat) : List Nat × Nat := if s.2 ≠ 0 then ([], s.2) else (acc ++ s.1, 0)
end Go.Proofs.YtjcdgpfffmnneaaGreatDoor.num

/- Plain mathematics of sums of bytes: a state, a byte more, and what a sum tells of a change. No program is named here. -/
namespace Go.Proofs.YtjcdgpfffmnneaaGreatDoor.crcnum

theorem xor_zero_eq {a b : Nat} (h : a ^^^ b = 0) : a = b := by
 have e : a ^^^ b ^^^ b = a := by rw [Nat.xor_assoc, Nat.xor_self, Nat.xor_zero]
 rw [h, Nat.zero_xor] at e
 exact e.symm
/-- one step: halved, and turned if it was odd -/
def half (n : Nat) : Nat := n / 2 ^^^ (if n % 2 = 1 then 3988292384 else 0)
/-- k steps -/
def halfs : Nat → Nat → Nat
 | 0, n => n
 | k + 1, n => halfs k (half n)
/-- a byte more -/
def step (s c : Nat) : Nat := halfs 8 (s ^^^ c)
/-- bytes more -/
def addL (s : Nat) (l : List Nat) : Nat := l.foldl step s
def neg (s : Nat) : Nat := 4294967295 - s
def sumL (l : List Nat) : Nat := neg (addL 4294967295 l)

theorem half_xor (a b : Nat) : half (a ^^^ b) = half a ^^^ half b := by
 unfold half
 have e1 : (a ^^^ b) / 2 = a / 2 ^^^ b / 2 := Nat.xor_div_two
 have e2 : (a ^^^ b) % 2 = (a + b) % 2 := by
  have h := Nat.xor_mod_two_pow (a := a) (b := b) (n := 1)
  rw [Nat.pow_one] at h
  rw [h, Nat.add_mod]
  rcases Nat.mod_two_eq_zero_or_one a with ha | ha <;> rcases Nat.mod_two_eq_zero_or_one b with hb | hb <;> rw [ha, hb] <;> rfl
 rw [e1, e2]
 rcases Nat.mod_two_eq_zero_or_one a with ha | ha <;> rcases Nat.mod_two_eq_zero_or_one b with hb | hb
 ·rw [if_neg (by omega), if_neg (by omega), if_neg (by omega)]; simp
 ·rw [if_pos (by omega), if_neg (by omega), if_pos (by omega)]; simp [Nat.xor_assoc]
 ·rw [if_pos (by omega), if_pos (by omega), if_neg (by omega), Nat.xor_zero, Nat.xor_assoc, Nat.xor_assoc, Nat.xor_comm (b / 2)]
 ·rw [if_neg (by omega), if_pos (by omega), if_pos (by omega)]
  have : ∀ x y p : Nat, x ^^^ p ^^^ (y ^^^ p) = x ^^^ y := fun x y p => by
   rw [Nat.xor_assoc, Nat.xor_comm y p, ← Nat.xor_assoc p p y, Nat.xor_self, Nat.zero_xor]
  rw [this]; simp
theorem half_even (x : Nat) : half (2 * x) = x := by
 unfold half
 rw [if_neg (by omega), Nat.mul_div_cancel_left x (by omega)]; simp
theorem half_lt (n : Nat) (h : n < 2 ^ 32) : half n < 2 ^ 32 := by
 unfold half
 refine Nat.xor_lt_two_pow (by omega) ?_
 split <;> omega
theorem half_zero {n : Nat} (h : n < 2 ^ 32) (h0 : half n = 0) : n = 0 := by
 unfold half at h0
 by_cases ho : n % 2 = 1
 ·rw [if_pos ho] at h0
  have := xor_zero_eq h0
  omega
 ·rw [if_neg ho, Nat.xor_zero] at h0
  omega
theorem halfs_xor (k a b : Nat) : halfs k (a ^^^ b) = halfs k a ^^^ halfs k b := by
 induction k generalizing a b with
 | zero => rfl
 | succ k ih => simp only [halfs]; rw [half_xor, ih]
theorem halfs_even (k x : Nat) : halfs k (2 ^ k * x) = x := by
 induction k generalizing x with
 | zero => simp [halfs]
 | succ k ih => simp only [halfs]; rw [Nat.pow_succ, Nat.mul_comm (2 ^ k) 2, Nat.mul_assoc, half_even, ih]
theorem halfs_lt (k n : Nat) (h : n < 2 ^ 32) : halfs k n < 2 ^ 32 := by
 induction k generalizing n with
 | zero => exact h
 | succ k ih => exact ih _ (half_lt n h)
theorem halfs_zero (k : Nat) {n : Nat} (h : n < 2 ^ 32) (h0 : halfs k n = 0) : n = 0 := by
 induction k generalizing n with
 | zero => exact h0
 | succ k ih => exact half_zero h (ih (half_lt n h) h0)
theorem halfs_add (j k n : Nat) : halfs (j + k) n = halfs k (halfs j n) := by
 induction j generalizing n with
 | zero => simp [halfs]
 | succ j ih => rw [Nat.succ_add]; simp only [halfs]; rw [ih]
theorem halfs_nought (k : Nat) : halfs k 0 = 0 := by
 have := halfs_even k 0
 simpa using this
theorem join16 (x k : Nat) (hk : k < 16) : 16 * x + k = 16 * x ^^^ k := by
 have h := Nat.two_pow_add_eq_or_of_lt (i := 4) (b := k) (by omega) x
 have h2 : 16 * x ||| k = 16 * x ^^^ k := by
  apply Nat.eq_of_testBit_eq
  intro i
  rw [Nat.testBit_or, Nat.testBit_xor]
  by_cases hi : i < 4
  ·have : (16 * x).testBit i = false := by
    have := Nat.testBit_two_pow_mul (i := 4) (a := x) (j := i)
    rw [show (2 : Nat) ^ 4 = 16 from rfl] at this
    rw [this]; simp; omega
   rw [this]; simp
  ·have : k.testBit i = false := Nat.testBit_lt_two_pow (Nat.lt_of_lt_of_le hk (by
    calc 16 = 2 ^ 4 := rfl
     _ ≤ 2 ^ i := Nat.pow_le_pow_right (by omega) (by omega)))
   rw [this]; simp
 rw [show (2 : Nat) ^ 4 = 16 from rfl] at h
 rw [h, h2]

/-- four steps, by what they come to on the lowest four bits -/
theorem four (n : Nat) : halfs 4 n = n / 16 ^^^ halfs 4 (n % 16) := by
 have e : n = 16 * (n / 16) ^^^ n % 16 := by
  rw [← join16 (n / 16) (n % 16) (by omega)]; omega
 have h : halfs 4 n = halfs 4 (16 * (n / 16) ^^^ n % 16) := by rw [← e]
 rw [h, halfs_xor]
 congr 1
 exact halfs_even 4 (n / 16)
theorem xor_lt {a b : Nat} (ha : a < 4294967296) (hb : b < 4294967296) : a ^^^ b < 4294967296 := Nat.xor_lt_two_pow (n := 32) ha hb
theorem step_lt {s c : Nat} (hs : s < 4294967296) (hc : c < 256) : step s c < 4294967296 := halfs_lt 8 _ (xor_lt hs (by omega))
theorem addL_lt {s : Nat} (hs : s < 4294967296) (l : List Nat) (hl : ∀ c ∈ l, c < 256) : addL s l < 4294967296 := by
 induction l generalizing s with
 | nil => exact hs
 | cons c l ih => exact ih (step_lt hs (hl c (by simp))) (fun d hd => hl d (by simp [hd]))
theorem addL_app (s : Nat) (a b : List Nat) : addL s (a ++ b) = addL (addL s a) b := List.foldl_append
theorem step_xor (s t c d : Nat) : step (s ^^^ t) (c ^^^ d) = step s c ^^^ step t d := by
 unfold step
 rw [← halfs_xor]
 congr 1
 rw [Nat.xor_assoc, Nat.xor_assoc]
 congr 1
 rw [← Nat.xor_assoc, ← Nat.xor_assoc, Nat.xor_comm t c]
theorem pow_ge {a i n : Nat} (h : a < 2 ^ n) (hi : ¬ i < n) : a < 2 ^ i := Nat.lt_of_lt_of_le h (Nat.pow_le_pow_right (by omega) (by omega))
theorem neg_xor {s : Nat} (h : s < 4294967296) : neg s = s ^^^ 4294967295 := by
 unfold neg
 rw [show 4294967295 - s = 2 ^ 32 - (s + 1) by omega]
 apply Nat.eq_of_testBit_eq
 intro i
 rw [Nat.testBit_two_pow_sub_succ (n := 32) h, Nat.testBit_xor, show (4294967295 : Nat) = 2 ^ 32 - 1 from rfl, Nat.testBit_two_pow_sub_one]
 by_cases hi : i < 32
 ·simp [hi]
 ·have : s.testBit i = false := Nat.testBit_lt_two_pow (pow_ge (n := 32) h hi)
  simp [hi, this]

/-- THREE LISTS, turned by one another -/
def xorL : List Nat → List Nat → List Nat
 | a :: l, b :: r => (a ^^^ b) :: xorL l r
 | _, _ => []
theorem addL_xor (a b : List Nat) (h : a.length = b.length) (s t : Nat) : addL (s ^^^ t) (xorL a b) = addL s a ^^^ addL t b := by
 induction a generalizing b s t with
 | nil => cases b with
  | nil => rfl
  | cons d b => simp at h
 | cons c a ih => cases b with
  | nil => simp at h
  | cons d b =>
   simp only [xorL, addL, List.foldl_cons]
   rw [step_xor]
   exact ih b (by simpa using h) _ _
theorem xorL_len (a b : List Nat) (h : a.length = b.length) : (xorL a b).length = a.length := by
 induction a generalizing b with
 | nil => simp [xorL]
 | cons c a ih => cases b with
  | nil => simp at h
  | cons d b => simp only [xorL, List.length_cons]; rw [ih b (by simpa using h)]
theorem three (a b c : List Nat) (h1 : a.length = b.length) (h2 : b.length = c.length) (ha : ∀ x ∈ a, x < 256) (hb : ∀ x ∈ b, x < 256) (hc : ∀ x ∈ c, x < 256) :
  sumL (xorL (xorL a b) c) = sumL a ^^^ sumL b ^^^ sumL c := by
 unfold sumL
 have la := addL_lt (s := 4294967295) (by omega) a ha
 have lb := addL_lt (s := 4294967295) (by omega) b hb
 have lc := addL_lt (s := 4294967295) (by omega) c hc
 have e : (4294967295 : Nat) = 4294967295 ^^^ 4294967295 ^^^ 4294967295 := by decide
 have h := addL_xor (xorL a b) c (by rw [xorL_len a b h1]; omega) (4294967295 ^^^ 4294967295) 4294967295
 rw [addL_xor a b h1, ← e] at h
 rw [h, neg_xor la, neg_xor lb, neg_xor lc, neg_xor (xor_lt (xor_lt la lb) lc)]
 generalize addL 4294967295 a = x
 generalize addL 4294967295 b = y
 generalize addL 4294967295 c = z
 have e2 : ∀ p : Nat, (x ^^^ p) ^^^ (y ^^^ p) = x ^^^ y := fun p => by
  rw [Nat.xor_assoc, Nat.xor_comm y p, ← Nat.xor_assoc p p y, Nat.xor_self, Nat.zero_xor]
 rw [e2, Nat.xor_assoc (x ^^^ y)]

/-! FOUR BYTES IN A ROW -/
/-- bytes as one number, the first lowest -/
def word : List Nat → Nat
 | [] => 0
 | c :: l => c ^^^ (256 * word l)
theorem word_lt (n : Nat) (l : List Nat) (hn : l.length ≤ n) (hl : ∀ c ∈ l, c < 256) : word l < 2 ^ (8 * n) := by
 induction l generalizing n with
 | nil => simp only [word]; exact Nat.pow_pos (by omega)
 | cons c l ih =>
  obtain ⟨m, rfl⟩ : ∃ m, n = m + 1 := ⟨n - 1, by simp at hn; omega⟩
  have := ih m (by simpa using hn) (fun d hd => hl d (by simp [hd]))
  simp only [word]
  rw [Nat.mul_add, Nat.pow_add]
  have hp : 0 < 2 ^ (8 * m) := Nat.pow_pos (by omega)
  have hc := hl c (by simp)
  rw [← Nat.pow_add]
  refine Nat.xor_lt_two_pow (Nat.lt_of_lt_of_le hc (by rw [show (256 : Nat) = 2 ^ 8 from rfl]; exact Nat.pow_le_pow_right (by omega) (by omega))) ?_
  rw [Nat.pow_add]; omega
theorem word_zero (l : List Nat) (hl : ∀ c ∈ l, c < 256) (h : word l = 0) : ∀ c ∈ l, c = 0 := by
 induction l with
 | nil => simp
 | cons c l ih =>
  have e := xor_zero_eq h
  have hc := hl c (by simp)
  intro d hd
  rcases List.mem_cons.1 hd with rfl | hd
  ·omega
  ·exact ih (fun x hx => hl x (by simp [hx])) (by omega) d hd
theorem addL_word (l : List Nat) (s : Nat) : addL s l = halfs (8 * l.length) (s ^^^ word l) := by
 induction l generalizing s with
 | nil => simp [addL, word, halfs]
 | cons c l ih =>
  have h : addL s (c :: l) = addL (step s c) l := rfl
  rw [h, ih, List.length_cons, Nat.mul_add, Nat.add_comm, Nat.mul_one, halfs_add]
  have key : halfs 8 (s ^^^ word (c :: l)) = step s c ^^^ word l := by
   show halfs 8 (s ^^^ (c ^^^ (256 * word l))) = halfs 8 (s ^^^ c) ^^^ word l
   rw [← Nat.xor_assoc, halfs_xor 8 (s ^^^ c) (256 * word l)]
   have e := halfs_even 8 (word l)
   rw [show (2 : Nat) ^ 8 = 256 from rfl] at e
   rw [e]
  rw [key]
theorem addL_noughts (s k : Nat) : addL s (List.replicate k 0) = halfs (8 * k) s := by
 have hw : ∀ k, word (List.replicate k 0) = 0 := by
  intro k
  induction k with
  | zero => rfl
  | succ k ih => simp only [List.replicate_succ, word, ih]; rfl
 rw [addL_word, hw]; simp
/-- what is turned within four bytes in a row turns the state, if anything is turned -/
theorem turned (i j : Nat) (l : List Nat) (hn : l.length ≤ 4) (hl : ∀ c ∈ l, c < 256) (h : addL 0 (List.replicate i 0 ++ l ++ List.replicate j 0) = 0) : ∀ c ∈ l, c = 0 := by
 rw [addL_app, addL_app, addL_noughts, addL_noughts, halfs_nought, addL_word, Nat.zero_xor] at h
 have h1 := word_lt 4 l hn hl
 exact word_zero l hl (halfs_zero _ h1 (halfs_zero _ (halfs_lt _ _ h1) h))
end Go.Proofs.YtjcdgpfffmnneaaGreatDoor.crcnum

/- What Add, Sum, Begin and End of crc answer, where the table of sixteen is as the program's text lays it; and the reference's Add and Sum: the states and the sums of crcnum. -/
namespace Go.Proofs.YtjcdgpfffmnneaaGreatDoor.crc
open Go.RowKit
open crcnum words
/-! THE REFERENCE -/
end Go.Proofs.YtjcdgpfffmnneaaGreatDoor.crc

/- What leb.Put and the reference's Put hand back: a new slice that holds a number's bytes. Both are what putL says. -/
namespace Go.Proofs.YtjcdgpfffmnneaaGreatDoor.put
open Go.RowKit
open num words
end Go.Proofs.YtjcdgpfffmnneaaGreatDoor.put

/- What leb.Take answers: the number that stands at a place of any bytes, or the error: what takeAt says. -/
namespace Go.Proofs.YtjcdgpfffmnneaaGreatDoor.take
open Go.RowKit
open num words

theorem fits (y d j : Nat) (hy : y < 128 ^ j) (hj : j ≤ 9) (h9 : j ≤ 8 ∨ d ≤ 1) : y + d % 128 * 128 ^ j < 18446744073709551616 := by
 have hp : 0 < 128 ^ j := Nat.pow_pos (by omega)
 rcases h9 with h | h
 ·have a1 : d % 128 * 128 ^ j ≤ 127 * 128 ^ j := Nat.mul_le_mul_right _ (by omega)
  have a2 : 128 ^ (j + 1) ≤ 128 ^ 9 := Nat.pow_le_pow_right (by omega) (by omega)
  rw [Nat.pow_succ] at a2
  omega
 ·have a1 : d % 128 * 128 ^ j ≤ 1 * 128 ^ j := Nat.mul_le_mul_right _ (by omega)
  have a2 : 128 ^ j ≤ 128 ^ 9 := Nat.pow_le_pow_right (by omega) (by omega)
  omega

end Go.Proofs.YtjcdgpfffmnneaaGreatDoor.take

/- What Seal and Open of crc hand back: bytes with their sum behind them, and the bytes that were sealed. -/
namespace Go.Proofs.YtjcdgpfffmnneaaGreatDoor.sealing
open Go.RowKit
open crcnum words

def fourL (s : Nat) : List Nat := [s % 256, s / 256 % 256, s / 65536 % 256, s / 16777216 % 256]
def sealL (l : List Nat) : List Nat := l ++ fourL (sumL l)
def openL (l : List Nat) : List Nat × Nat :=
 if l.length < 4 then ([], 2)
 else if l.drop (l.length - 4) = fourL (sumL (l.take (l.length - 4))) then (l.take (l.length - 4), 0) else ([], 4)
/-- a sum's four bytes, as one array -/
def F (s : Nat) : Value := .agg #[.int .u8 ((s % 256 : Nat) : Int), .int .u8 ((s / 256 % 256 : Nat) : Int), .int .u8 ((s / 65536 % 256 : Nat) : Int), .int .u8 ((s / 16777216 % 256 : Nat) : Int)]
end Go.Proofs.YtjcdgpfffmnneaaGreatDoor.sealing

/- What Open of crc hands back: the bytes that were sealed, or the error. -/
namespace Go.Proofs.YtjcdgpfffmnneaaGreatDoor.sealing
open Go.RowKit
open crcnum words
end Go.Proofs.YtjcdgpfffmnneaaGreatDoor.sealing

/- The small functions of leb and of the reference on numbers alone that the later layers call, too: Zag; the reference's Zig, Zag and Put. -/
namespace Go.Proofs.YtjcdgpfffmnneaaGreatDoor.small
open Go.RowKit
open num words
end Go.Proofs.YtjcdgpfffmnneaaGreatDoor.small

/- What the reference's Seal and Open hand back: what sealL and openL say, as crc's. -/
namespace Go.Proofs.YtjcdgpfffmnneaaGreatDoor.sealing
open Go.RowKit
open crcnum words
end Go.Proofs.YtjcdgpfffmnneaaGreatDoor.sealing

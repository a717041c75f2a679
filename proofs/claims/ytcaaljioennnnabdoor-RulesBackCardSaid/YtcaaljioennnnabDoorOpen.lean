/-
 Layers 1 and 2: numbers as bytes, and sums: the program’s answers and the document’s.
-/
import Derived.Laws.BitsAllLaws
import Derived.Test.YtcaaljioennnnabDoorProg
import Derived.Test.YtcaaljioennnnabDoorWords
import Derived.Lib.Hide
import Derived.Deep.QuietTactic
import Derived.BigQuiet
import Derived.WalkSpells
import Derived.Lib.AppendZerosOnto
import Derived.Handy
import Derived.Deep.RegionHeld3
import Derived.ChangeKeysEq
/- Plain mathematics of numbers as bytes, seven bits in each: what the bytes of a number are, what stands at a place of bytes, and that each undoes the other. No program is named here. -/
namespace Go.Proofs.YtcaaljioennnnabDoor.num

/-- a number's bytes -/
def putL (m : Nat) : List Nat := if m < 128 then [m] else (m % 128 + 128) :: putL (m / 128)
termination_by m
decreasing_by omega

/-- what the bytes are, from the i-th on, behind what came to n: the number, how many bytes, the error -/
def takeGo (i n : Nat) : List Nat → Nat × Nat × Nat
 | [] => (0, 0, 2)
 | c :: r => if i = 9 ∧ 1 < c then (0, 0, 1)
  else if 128 ≤ c then takeGo (i + 1) (n + c % 128 * 128 ^ i) r
  else if c = 0 ∧ 0 < i then (0, 0, 1) else (n + c * 128 ^ i, i + 1, 0)

/-- what stands at a place -/
def takeAt (l : List Nat) (p : Int) : Nat × Nat × Nat :=
 if p < 0 ∨ (l.length : Int) < p then (0, 0, 12)
 else
  let r := takeGo 0 0 (l.drop p.toNat)
  (r.1, if r.2.2 = 0 then p.toNat + r.2.1 else 0, r.2.2)

theorem putL_lt {m : Nat} (h : m < 128) : putL m = [m] := by rw [putL, if_pos h]
theorem putL_ge {m : Nat} (h : 128 ≤ m) : putL m = (m % 128 + 128) :: putL (m / 128) := by rw [putL, if_neg (by omega)]
theorem putL_ne (m : Nat) : putL m ≠ [] := by
 rw [putL]; split <;> simp
theorem putL_byte (m : Nat) : ∀ x ∈ putL m, x < 256 := by
 induction m using Nat.strongRecOn with
 | _ m ih =>
  by_cases h : m < 128
  ·rw [putL_lt h]; simp; omega
  ·rw [putL_ge (by omega)]
   intro x hx
   rcases List.mem_cons.1 hx with rfl | hx
   ·omega
   ·exact ih (m / 128) (by omega) x hx
/-- fewer than so many bits: at most so many bytes -/
theorem putL_len (k m : Nat) (h : m < 128 ^ (k + 1)) : (putL m).length ≤ k + 1 := by
 induction k generalizing m with
 | zero => rw [putL_lt (by simpa using h)]; simp
 | succ k ih =>
  by_cases h' : m < 128
  ·rw [putL_lt h']; simp
  ·rw [putL_ge (by omega), List.length_cons]
   have := ih (m / 128) (by rw [Nat.div_lt_iff_lt_mul (by omega)]; rw [Nat.pow_succ] at h; exact h)
   omega
theorem putL_len10 (m : Nat) (h : m < 18446744073709551616) : (putL m).length ≤ 10 :=
 putL_len 9 m (Nat.lt_of_lt_of_le h (by decide))
theorem putL_pos (m : Nat) : 1 ≤ (putL m).length := List.length_pos_iff.2 (putL_ne m)
theorem putL_mono (a b : Nat) (h : a ≤ b) : (putL a).length ≤ (putL b).length := by
 induction b using Nat.strongRecOn generalizing a with
 | _ b ih =>
  by_cases ha : a < 128
  ·rw [putL_lt ha]; exact putL_pos b
  ·rw [putL_ge (m := a) (by omega), putL_ge (m := b) (by omega), List.length_cons, List.length_cons]
   have := ih (b / 128) (by omega) (a / 128) (by omega)
   omega

/-- how many bits -/
def bl (n : Nat) : Nat := if n = 0 then 0 else Nat.log2 n + 1
theorem bl_div (n : Nat) (h : 128 ≤ n) : bl n = bl (n / 128) + 7 := by
 unfold bl
 have h0 : n ≠ 0 := by omega
 have h1 : n / 128 ≠ 0 := by omega
 rw [if_neg h0, if_neg h1]
 have : Nat.log2 n = Nat.log2 (n / 128) + 7 := by
  rw [Nat.log2_eq_iff h0]
  have a := Nat.log2_self_le h1
  have b := Nat.lt_log2_self (n := n / 128)
  constructor
  ·rw [Nat.pow_add]; have := Nat.div_mul_le_self n 128; omega
  ·have : 2 ^ (Nat.log2 (n / 128) + 7 + 1) = 2 ^ (Nat.log2 (n / 128) + 1) * 128 := by rw [show Nat.log2 (n / 128) + 7 + 1 = (Nat.log2 (n / 128) + 1) + 7 by omega, Nat.pow_add]
   rw [this]
   omega
 omega
theorem bl_small (n : Nat) (h : n < 128) : bl n ≤ 7 := by
 unfold bl
 split
 ·omega
 ·have := Nat.log2_lt (n := n) (k := 7) (by omega)
  omega
theorem putL_size (n : Nat) : (putL n).length = max 1 ((bl n + 6) / 7) := by
 induction n using Nat.strongRecOn with
 | _ n ih =>
  by_cases h : n < 128
  ·rw [putL_lt h]
   have := bl_small n h
   simp; omega
  ·rw [putL_ge (by omega), List.length_cons, ih (n / 128) (by omega), bl_div n (by omega)]
   have : 1 ≤ bl (n / 128) := by unfold bl; rw [if_neg (by omega)]; omega
   omega

/-- WHAT WAS PUT IS TAKEN, from any place of it on -/
theorem takeGo_put (m : Nat) : ∀ (i n : Nat) (r : List Nat), i ≤ 9 → m * 128 ^ i < 18446744073709551616 → (0 < i → 0 < m) →
  takeGo i n (putL m ++ r) = (n + m * 128 ^ i, i + (putL m).length, 0) := by
 induction m using Nat.strongRecOn with
 | _ m ih =>
  intro i n r hi hlt hpos
  by_cases h : m < 128
  ·rw [putL_lt h]
   simp only [List.cons_append, List.nil_append, takeGo, List.length_singleton]
   have h9 : ¬ (i = 9 ∧ 1 < m) := by
    rintro ⟨rfl, hm⟩
    have : 2 * 128 ^ 9 ≤ m * 128 ^ 9 := Nat.mul_le_mul_right _ hm
    omega
   rw [if_neg h9, if_neg (by omega), if_neg (by omega)]
  ·rw [putL_ge (by omega)]
   simp only [List.cons_append, takeGo, List.length_cons]
   have hi8 : i ≤ 8 := by
    rcases Nat.lt_or_ge i 9 with h' | h'
    ·omega
    ·have : i = 9 := by omega
     subst this
     have : 128 * 128 ^ 9 ≤ m * 128 ^ 9 := Nat.mul_le_mul_right _ (by omega)
     omega
   rw [if_neg (by omega), if_pos (by omega)]
   have hstep : m / 128 * 128 ^ (i + 1) ≤ m * 128 ^ i := by
    rw [Nat.pow_succ, Nat.mul_comm (128 ^ i) 128, ← Nat.mul_assoc]
    exact Nat.mul_le_mul_right _ (Nat.div_mul_le_self m 128)
   rw [ih (m / 128) (by omega) (i + 1) _ r (by omega) (by omega) (by intro _; omega)]
   have e : (m % 128 + 128) % 128 = m % 128 := by omega
   have e2 : m * 128 ^ i = m % 128 * 128 ^ i + m / 128 * 128 ^ (i + 1) := by
    rw [Nat.pow_succ, Nat.mul_comm (128 ^ i) 128, ← Nat.mul_assoc, ← Nat.add_mul]
    congr 1; omega
   rw [e, e2]
   ext <;> simp <;> omega

/-- WHAT IS TAKEN WAS PUT SO -/
theorem put_takeGo (l : List Nat) : ∀ (i n x k : Nat), (∀ c ∈ l, c < 256) → i ≤ 9 → n < 128 ^ i → takeGo i n l = (x, k, 0) →
  ∃ m, x = n + m * 128 ^ i ∧ x < 18446744073709551616 ∧ (0 < i → 0 < m) ∧ i < k ∧ k - i ≤ l.length ∧ putL m = l.take (k - i) := by
 induction l with
 | nil => intro i n x k _ _ _ h; simp [takeGo] at h
 | cons c r ih =>
  intro i n x k hby hi hn h
  have hbyte : c < 256 := hby c (by simp)
  simp only [takeGo] at h
  by_cases h9 : i = 9 ∧ 1 < c
  ·rw [if_pos h9] at h; simp at h
  rw [if_neg h9] at h
  have hp : 0 < 128 ^ i := Nat.pow_pos (by omega)
  by_cases hc : 128 ≤ c
  ·rw [if_pos hc] at h
   have hi8 : i ≤ 8 := by omega
   have hb : n + c % 128 * 128 ^ i < 128 ^ (i + 1) := by
    have : c % 128 * 128 ^ i ≤ 127 * 128 ^ i := Nat.mul_le_mul_right _ (by omega)
    rw [Nat.pow_succ]; omega
   obtain ⟨m, hx, hxl, hm, hik, hkl, hput⟩ := ih (i + 1) _ x k (fun y hy => hby y (by simp [hy])) (by omega) hb h
   refine ⟨c % 128 + m * 128, ?_, hxl, ?_, by omega, ?_, ?_⟩
   ·rw [hx, Nat.pow_succ, Nat.add_mul, Nat.mul_comm (128 ^ i) 128, ← Nat.mul_assoc]; omega
   ·intro _; have := hm (by omega); omega
   ·simp only [List.length_cons]; omega
   ·have := hm (by omega)
    have e : k - i = (k - (i + 1)) + 1 := by omega
    rw [putL_ge (by omega), e, List.take_succ_cons, ← hput]
    congr 1
    ·omega
    ·congr 1; omega
  ·rw [if_neg hc] at h
   by_cases h0 : c = 0 ∧ 0 < i
   ·rw [if_pos h0] at h; simp at h
   rw [if_neg h0] at h
   simp only [Prod.mk.injEq, and_true] at h
   obtain ⟨rfl, rfl⟩ := h
   refine ⟨c, rfl, ?_, by omega, by omega, by simp, ?_⟩
   ·rcases Nat.lt_or_ge i 9 with h8 | h8
    ·have a1 : c * 128 ^ i ≤ 127 * 128 ^ i := Nat.mul_le_mul_right _ (by omega)
     have a2 : 128 ^ (i + 1) ≤ 128 ^ 9 := Nat.pow_le_pow_right (by omega) (by omega)
     rw [Nat.pow_succ] at a2
     omega
    ·have : i = 9 := by omega
     subst this
     have a1 : c * 128 ^ 9 ≤ 1 * 128 ^ 9 := Nat.mul_le_mul_right _ (by omega)
     omega
   ·rw [putL_lt (by omega), show i + 1 - i = 1 by omega]; simp

/-- from the beginning on -/
theorem put_take0 {l : List Nat} (hl : ∀ c ∈ l, c < 256) {x k : Nat} (h : takeGo 0 0 l = (x, k, 0)) :
  putL x = l.take k ∧ x < 18446744073709551616 ∧ 0 < k ∧ k ≤ l.length := by
 obtain ⟨m, hx, hxl, _, hk, hkl, hput⟩ := put_takeGo l 0 0 x k hl (by omega) (by simp) h
 obtain rfl : x = m := by simpa using hx
 exact ⟨by simpa using hput, hxl, hk, by simpa using hkl⟩
theorem take_put0 (m : Nat) (hm : m < 18446744073709551616) (r : List Nat) : takeGo 0 0 (putL m ++ r) = (m, (putL m).length, 0) := by
 have := takeGo_put m 0 0 r (by omega) (by simpa using hm) (by omega)
 simpa using this
/-- what is refused has no number and no place -/
theorem takeGo_err (l : List Nat) : ∀ i n, (takeGo i n l).2.2 ≠ 0 → (takeGo i n l).1 = 0 ∧ (takeGo i n l).2.1 = 0 := by
 induction l with
 | nil => intro i n _; simp [takeGo]
 | cons c r ih =>
  intro i n h
  simp only [takeGo] at h ⊢
  by_cases h9 : i = 9 ∧ 1 < c
  ·rw [if_pos h9]; simp
  rw [if_neg h9] at h ⊢
  by_cases hc : 128 ≤ c
  ·rw [if_pos hc] at h ⊢; exact ih _ _ h
  rw [if_neg hc] at h ⊢
  by_cases h0 : c = 0 ∧ 0 < i
  ·rw [if_pos h0]; simp
  ·rw [if_neg h0] at h; simp at h

/-- several numbers' bytes -/
def joinL (l : List Nat) : List Nat := l.flatMap putL
/-- the numbers whose bytes they are, and the error -/
def splitL : List Nat → List Nat × Nat
 | [] => ([], 0)
 | c :: t =>
  let r := takeGo 0 0 (c :: t)
  if r.2.2 ≠ 0 then ([], r.2.2)
  else
   let s := splitL (t.drop (r.2.1 - 1))
   if s.2 ≠ 0 then ([], s.2) else (r.1 :: s.1, 0)
termination_by l => l.length
decreasing_by simp only [List.length_drop, List.length_cons]; omega

theorem splitL_err {l : List Nat} (hl : l ≠ []) (h : (takeGo 0 0 l).2.2 ≠ 0) : splitL l = ([], (takeGo 0 0 l).2.2) := by
 match l, hl with
 | c :: t, _ => rw [splitL]; simp only; rw [if_pos h]
theorem splitL_ok {l : List Nat} (hl : ∀ c ∈ l, c < 256) {x k : Nat} (h : takeGo 0 0 l = (x, k, 0)) :
  splitL l = if (splitL (l.drop k)).2 ≠ 0 then ([], (splitL (l.drop k)).2) else (x :: (splitL (l.drop k)).1, 0) := by
 obtain ⟨_, _, hk, hkl⟩ := put_take0 hl h
 match l, hkl with
 | [], hkl => simp at hkl; omega
 | c :: t, hkl =>
  rw [splitL]
  simp only [h]
  rw [if_neg (by simp)]
  have e : (c :: t).drop k = t.drop (k - 1) := by
   obtain ⟨j, rfl⟩ : ∃ j, k = j + 1 := ⟨k - 1, by omega⟩
   simp
  rw [e]
theorem splitL_nil : splitL [] = ([], 0) := by rw [splitL]
/-- what goes round: so many numbers are told, so much is left -/
def more (acc : List Nat) (s : List Nat × Nat) : List Nat × Nat := if s.2 ≠ 0 then ([], s.2) else (acc ++ s.1, 0)
theorem more_nil (l : List Nat) : more [] (splitL l) = splitL l := by
 unfold more
 split
 ·match l with
  | [] => simp [splitL_nil]
  | c :: t =>
   rename_i h
   rw [splitL] at h ⊢
   simp only at h ⊢
   split <;> simp_all
   split <;> simp_all
 ·rename_i h
  simp only [ne_eq, Decidable.not_not] at h
  ext <;> simp [h]
theorem more_ok {l : List Nat} (hl : ∀ c ∈ l, c < 256) {x k : Nat} (h : takeGo 0 0 l = (x, k, 0)) (acc : List Nat) :
  more acc (splitL l) = more (acc ++ [x]) (splitL (l.drop k)) := by
 rw [splitL_ok hl h]
 unfold more
 split <;> simp_all

theorem split_join (ns : List Nat) (h : ∀ n ∈ ns, n < 18446744073709551616) : splitL (joinL ns) = (ns, 0) := by
 induction ns with
 | nil => simp [joinL, splitL_nil]
 | cons n ns ih =>
  have hby : ∀ c ∈ joinL (n :: ns), c < 256 := by
   intro c hc
   obtain ⟨m, _, hm⟩ := List.mem_flatMap.1 hc
   exact putL_byte m c hm
  have ht : takeGo 0 0 (joinL (n :: ns)) = (n, (putL n).length, 0) := take_put0 n (h n (by simp)) (joinL ns)
  rw [splitL_ok hby ht]
  have e : (joinL (n :: ns)).drop (putL n).length = joinL ns := by simp [joinL]
  rw [e, ih (fun m hm => h m (by simp [hm]))]
  simp
theorem join_split (l : List Nat) (hl : ∀ c ∈ l, c < 256) (h : (splitL l).2 = 0) : joinL (splitL l).1 = l ∧ ∀ n ∈ (splitL l).1, n < 18446744073709551616 := by
 induction hn : l.length using Nat.strongRecOn generalizing l with
 | _ n ih =>
  subst hn
  match l with
  | [] => simp [splitL_nil, joinL]
  | c :: t =>
   by_cases he : (takeGo 0 0 (c :: t)).2.2 = 0
   ·obtain ⟨x, k, e⟩ : ∃ x k, takeGo 0 0 (c :: t) = (x, k, 0) := ⟨(takeGo 0 0 (c :: t)).1, (takeGo 0 0 (c :: t)).2.1, Prod.ext rfl (Prod.ext rfl he)⟩
    obtain ⟨hp, hx, hk, hkl⟩ := put_take0 hl e
    rw [splitL_ok hl e] at h ⊢
    by_cases hs : (splitL ((c :: t).drop k)).2 = 0
    ·rw [if_neg (by simpa using hs)]
     have := ih ((c :: t).drop k).length (by rw [List.length_drop]; simp only [List.length_cons] at *; omega) ((c :: t).drop k) (fun y hy => hl y (List.mem_of_mem_drop hy)) hs rfl
     refine ⟨?_, ?_⟩
     ·show putL x ++ joinL (splitL ((c :: t).drop k)).1 = c :: t
      rw [this.1, hp, List.take_append_drop]
     ·intro n hn
      rcases List.mem_cons.1 hn with rfl | hn
      ·exact hx
      ·exact this.2 n hn
    ·rw [if_pos hs] at h; exact absurd h hs
   ·rw [splitL_err (by simp) he] at h; exact absurd h he
theorem splitL_len (l : List Nat) (hl : ∀ c ∈ l, c < 256) : (splitL l).1.length ≤ l.length := by
 by_cases h : (splitL l).2 = 0
 ·have hj := (join_split l hl h).1
  have e : ∀ ns : List Nat, ns.length ≤ (joinL ns).length := by
   intro ns
   induction ns with
   | nil => simp
   | cons n ns ih => have := putL_pos n; simp only [joinL, List.flatMap_cons, List.length_append, List.length_cons] at *; omega
  have := e (splitL l).1
  rw [hj] at this
  exact this
 ·have : more [] (splitL l) = splitL l := more_nil l
  unfold more at this
  rw [if_pos h] at this
  rw [← this]; simp
end Go.Proofs.YtcaaljioennnnabDoor.num

/- Plain mathematics of sums of bytes: a state, a byte more, and what a sum tells of a change. No program is named here. -/
namespace Go.Proofs.YtcaaljioennnnabDoor.crcnum

theorem xor_zero_eq {a b : Nat} (h : a ^^^ b = 0) : a = b := by
 have e : a ^^^ b ^^^ b = a := by rw [Nat.xor_assoc, Nat.xor_self, Nat.xor_zero]
 rw [h, Nat.zero_xor] at e
 exact e.symm
/-- one step: halved, and turned if it was odd -/
def half (n : Nat) : Nat := n / 2 ^^^ (if n % 2 = 1 then 3988292384 else 0)
/-- k steps -/
def halfs : Nat → Nat → Nat
 | 0, n => n
 | k + 1, n => halfs k (half n)
/-- a byte more -/
def step (s c : Nat) : Nat := halfs 8 (s ^^^ c)
/-- bytes more -/
def addL (s : Nat) (l : List Nat) : Nat := l.foldl step s
def neg (s : Nat) : Nat := 4294967295 - s
def sumL (l : List Nat) : Nat := neg (addL 4294967295 l)

theorem half_xor (a b : Nat) : half (a ^^^ b) = half a ^^^ half b := by
 unfold half
 have e1 : (a ^^^ b) / 2 = a / 2 ^^^ b / 2 := Nat.xor_div_two
 have e2 : (a ^^^ b) % 2 = (a + b) % 2 := by
  have h := Nat.xor_mod_two_pow (a := a) (b := b) (n := 1)
  rw [Nat.pow_one] at h
  rw [h, Nat.add_mod]
  rcases Nat.mod_two_eq_zero_or_one a with ha | ha <;> rcases Nat.mod_two_eq_zero_or_one b with hb | hb <;> rw [ha, hb] <;> rfl
 rw [e1, e2]
 rcases Nat.mod_two_eq_zero_or_one a with ha | ha <;> rcases Nat.mod_two_eq_zero_or_one b with hb | hb
 ·rw [if_neg (by omega), if_neg (by omega), if_neg (by omega)]; simp
 ·rw [if_pos (by omega), if_neg (by omega), if_pos (by omega)]; simp [Nat.xor_assoc]
 ·rw [if_pos (by omega), if_pos (by omega), if_neg (by omega), Nat.xor_zero, Nat.xor_assoc, Nat.xor_assoc, Nat.xor_comm (b / 2)]
 ·rw [if_neg (by omega), if_pos (by omega), if_pos (by omega)]
  have : ∀ x y p : Nat, x ^^^ p ^^^ (y ^^^ p) = x ^^^ y := fun x y p => by
   rw [Nat.xor_assoc, Nat.xor_comm y p, ← Nat.xor_assoc p p y, Nat.xor_self, Nat.zero_xor]
  rw [this]; simp
theorem half_even (x : Nat) : half (2 * x) = x := by
 unfold half
 rw [if_neg (by omega), Nat.mul_div_cancel_left x (by omega)]; simp
theorem half_lt (n : Nat) (h : n < 2 ^ 32) : half n < 2 ^ 32 := by
 unfold half
 refine Nat.xor_lt_two_pow (by omega) ?_
 split <;> omega
theorem half_zero {n : Nat} (h : n < 2 ^ 32) (h0 : half n = 0) : n = 0 := by
 unfold half at h0
 by_cases ho : n % 2 = 1
 ·rw [if_pos ho] at h0
  have := xor_zero_eq h0
  omega
 ·rw [if_neg ho, Nat.xor_zero] at h0
  omega
theorem halfs_xor (k a b : Nat) : halfs k (a ^^^ b) = halfs k a ^^^ halfs k b := by
 induction k generalizing a b with
 | zero => rfl
 | succ k ih => simp only [halfs]; rw [half_xor, ih]
theorem halfs_even (k x : Nat) : halfs k (2 ^ k * x) = x := by
 induction k generalizing x with
 | zero => simp [halfs]
 | succ k ih => simp only [halfs]; rw [Nat.pow_succ, Nat.mul_comm (2 ^ k) 2, Nat.mul_assoc, half_even, ih]
theorem halfs_lt (k n : Nat) (h : n < 2 ^ 32) : halfs k n < 2 ^ 32 := by
 induction k generalizing n with
 | zero => exact h
 | succ k ih => exact ih _ (half_lt n h)
theorem halfs_zero (k : Nat) {n : Nat} (h : n < 2 ^ 32) (h0 : halfs k n = 0) : n = 0 := by
 induction k generalizing n with
 | zero => exact h0
 | succ k ih => exact half_zero h (ih (half_lt n h) h0)
theorem halfs_add (j k n : Nat) : halfs (j + k) n = halfs k (halfs j n) := by
 induction j generalizing n with
 | zero => simp [halfs]
 | succ j ih => rw [Nat.succ_add]; simp only [halfs]; rw [ih]
theorem halfs_nought (k : Nat) : halfs k 0 = 0 := by
 have := halfs_even k 0
 simpa using this
theorem join16 (x k : Nat) (hk : k < 16) : 16 * x + k = 16 * x ^^^ k := by
 have h := Nat.two_pow_add_eq_or_of_lt (i := 4) (b := k) (by omega) x
 have h2 : 16 * x ||| k = 16 * x ^^^ k := by
  apply Nat.eq_of_testBit_eq
  intro i
  rw [Nat.testBit_or, Nat.testBit_xor]
  by_cases hi : i < 4
  ·have : (16 * x).testBit i = false := by
    have := Nat.testBit_two_pow_mul (i := 4) (a := x) (j := i)
    rw [show (2 : Nat) ^ 4 = 16 from rfl] at this
    rw [this]; simp; omega
   rw [this]; simp
  ·have : k.testBit i = false := Nat.testBit_lt_two_pow (Nat.lt_of_lt_of_le hk (by
    calc 16 = 2 ^ 4 := rfl
     _ ≤ 2 ^ i := Nat.pow_le_pow_right (by omega) (by omega)))
   rw [this]; simp
 rw [show (2 : Nat) ^ 4 = 16 from rfl] at h
 rw [h, h2]

/-- four steps, by what they come to on the lowest four bits -/
theorem four (n : Nat) : halfs 4 n = n / 16 ^^^ halfs 4 (n % 16) := by
 have e : n = 16 * (n / 16) ^^^ n % 16 := by
  rw [← join16 (n / 16) (n % 16) (by omega)]; omega
 have h : halfs 4 n = halfs 4 (16 * (n / 16) ^^^ n % 16) := by rw [← e]
 rw [h, halfs_xor]
 congr 1
 exact halfs_even 4 (n / 16)
/-- the table of sixteen -/
def T (k : Nat) : Nat := halfs 4 k
theorem step_four (s c : Nat) : step s c = (((s ^^^ c) / 16 ^^^ T ((s ^^^ c) % 16)) / 16) ^^^ T (((s ^^^ c) / 16 ^^^ T ((s ^^^ c) % 16)) % 16) := by
 unfold step
 rw [show (8 : Nat) = 4 + 4 from rfl, halfs_add, four (s ^^^ c), four]
 rfl
theorem T_lt (k : Nat) (h : k < 16) : T k < 4294967296 := halfs_lt 4 k (by omega)

theorem xor_lt {a b : Nat} (ha : a < 4294967296) (hb : b < 4294967296) : a ^^^ b < 4294967296 := Nat.xor_lt_two_pow (n := 32) ha hb
theorem step_lt {s c : Nat} (hs : s < 4294967296) (hc : c < 256) : step s c < 4294967296 := halfs_lt 8 _ (xor_lt hs (by omega))
theorem addL_lt {s : Nat} (hs : s < 4294967296) (l : List Nat) (hl : ∀ c ∈ l, c < 256) : addL s l < 4294967296 := by
 induction l generalizing s with
 | nil => exact hs
 | cons c l ih => exact ih (step_lt hs (hl c (by simp))) (fun d hd => hl d (by simp [hd]))
theorem addL_app (s : Nat) (a b : List Nat) : addL s (a ++ b) = addL (addL s a) b := List.foldl_append
theorem step_xor (s t c d : Nat) : step (s ^^^ t) (c ^^^ d) = step s c ^^^ step t d := by
 unfold step
 rw [← halfs_xor]
 congr 1
 rw [Nat.xor_assoc, Nat.xor_assoc]
 congr 1
 rw [← Nat.xor_assoc, ← Nat.xor_assoc, Nat.xor_comm t c]
theorem pow_ge {a i n : Nat} (h : a < 2 ^ n) (hi : ¬ i < n) : a < 2 ^ i := Nat.lt_of_lt_of_le h (Nat.pow_le_pow_right (by omega) (by omega))
theorem neg_xor {s : Nat} (h : s < 4294967296) : neg s = s ^^^ 4294967295 := by
 unfold neg
 rw [show 4294967295 - s = 2 ^ 32 - (s + 1) by omega]
 apply Nat.eq_of_testBit_eq
 intro i
 rw [Nat.testBit_two_pow_sub_succ (n := 32) h, Nat.testBit_xor, show (4294967295 : Nat) = 2 ^ 32 - 1 from rfl, Nat.testBit_two_pow_sub_one]
 by_cases hi : i < 32
 ·simp [hi]
 ·have : s.testBit i = false := Nat.testBit_lt_two_pow (pow_ge (n := 32) h hi)
  simp [hi, this]

/-- THREE LISTS, turned by one another -/
def xorL : List Nat → List Nat → List Nat
 | a :: l, b :: r => (a ^^^ b) :: xorL l r
 | _, _ => []
theorem addL_xor (a b : List Nat) (h : a.length = b.length) (s t : Nat) : addL (s ^^^ t) (xorL a b) = addL s a ^^^ addL t b := by
 induction a generalizing b s t with
 | nil => cases b with
  | nil => rfl
  | cons d b => simp at h
 | cons c a ih => cases b with
  | nil => simp at h
  | cons d b =>
   simp only [xorL, addL, List.foldl_cons]
   rw [step_xor]
   exact ih b (by simpa using h) _ _
theorem xorL_len (a b : List Nat) (h : a.length = b.length) : (xorL a b).length = a.length := by
 induction a generalizing b with
 | nil => simp [xorL]
 | cons c a ih => cases b with
  | nil => simp at h
  | cons d b => simp only [xorL, List.length_cons]; rw [ih b (by simpa using h)]
theorem xorL_byte (a b : List Nat) (ha : ∀ c ∈ a, c < 256) (hb : ∀ c ∈ b, c < 256) : ∀ c ∈ xorL a b, c < 256 := by
 induction a generalizing b with
 | nil => simp [xorL]
 | cons c a ih => cases b with
  | nil => simp [xorL]
  | cons d b =>
   intro x hx
   simp only [xorL, List.mem_cons] at hx
   rcases hx with rfl | hx
   ·exact Nat.xor_lt_two_pow (n := 8) (ha c (by simp)) (hb d (by simp))
   ·exact ih b (fun y hy => ha y (by simp [hy])) (fun y hy => hb y (by simp [hy])) x hx
theorem sumL_lt (l : List Nat) : sumL l < 4294967296 := by unfold sumL neg; omega
theorem three (a b c : List Nat) (h1 : a.length = b.length) (h2 : b.length = c.length) (ha : ∀ x ∈ a, x < 256) (hb : ∀ x ∈ b, x < 256) (hc : ∀ x ∈ c, x < 256) :
  sumL (xorL (xorL a b) c) = sumL a ^^^ sumL b ^^^ sumL c := by
 unfold sumL
 have la := addL_lt (s := 4294967295) (by omega) a ha
 have lb := addL_lt (s := 4294967295) (by omega) b hb
 have lc := addL_lt (s := 4294967295) (by omega) c hc
 have e : (4294967295 : Nat) = 4294967295 ^^^ 4294967295 ^^^ 4294967295 := by decide
 have h := addL_xor (xorL a b) c (by rw [xorL_len a b h1]; omega) (4294967295 ^^^ 4294967295) 4294967295
 rw [addL_xor a b h1, ← e] at h
 rw [h, neg_xor la, neg_xor lb, neg_xor lc, neg_xor (xor_lt (xor_lt la lb) lc)]
 generalize addL 4294967295 a = x
 generalize addL 4294967295 b = y
 generalize addL 4294967295 c = z
 have e2 : ∀ p : Nat, (x ^^^ p) ^^^ (y ^^^ p) = x ^^^ y := fun p => by
  rw [Nat.xor_assoc, Nat.xor_comm y p, ← Nat.xor_assoc p p y, Nat.xor_self, Nat.zero_xor]
 rw [e2, Nat.xor_assoc (x ^^^ y)]

/-! FOUR BYTES IN A ROW -/
/-- bytes as one number, the first lowest -/
def word : List Nat → Nat
 | [] => 0
 | c :: l => c ^^^ (256 * word l)
theorem word_lt (n : Nat) (l : List Nat) (hn : l.length ≤ n) (hl : ∀ c ∈ l, c < 256) : word l < 2 ^ (8 * n) := by
 induction l generalizing n with
 | nil => simp only [word]; exact Nat.pow_pos (by omega)
 | cons c l ih =>
  obtain ⟨m, rfl⟩ : ∃ m, n = m + 1 := ⟨n - 1, by simp at hn; omega⟩
  have := ih m (by simpa using hn) (fun d hd => hl d (by simp [hd]))
  simp only [word]
  rw [Nat.mul_add, Nat.pow_add]
  have hp : 0 < 2 ^ (8 * m) := Nat.pow_pos (by omega)
  have hc := hl c (by simp)
  rw [← Nat.pow_add]
  refine Nat.xor_lt_two_pow (Nat.lt_of_lt_of_le hc (by rw [show (256 : Nat) = 2 ^ 8 from rfl]; exact Nat.pow_le_pow_right (by omega) (by omega))) ?_
  rw [Nat.pow_add]; omega
theorem word_zero (l : List Nat) (hl : ∀ c ∈ l, c < 256) (h : word l = 0) : ∀ c ∈ l, c = 0 := by
 induction l with
 | nil => simp
 | cons c l ih =>
  have e := xor_zero_eq h
  have hc := hl c (by simp)
  intro d hd
  rcases List.mem_cons.1 hd with rfl | hd
  ·omega
  ·exact ih (fun x hx => hl x (by simp [hx])) (by omega) d hd
theorem addL_word (l : List Nat) (s : Nat) : addL s l = halfs (8 * l.length) (s ^^^ word l) := by
 induction l generalizing s with
 | nil => simp [addL, word, halfs]
 | cons c l ih =>
  have h : addL s (c :: l) = addL (step s c) l := rfl
  rw [h, ih, List.length_cons, Nat.mul_add, Nat.add_comm, Nat.mul_one, halfs_add]
  have key : halfs 8 (s ^^^ word (c :: l)) = step s c ^^^ word l := by
   show halfs 8 (s ^^^ (c ^^^ (256 * word l))) = halfs 8 (s ^^^ c) ^^^ word l
   rw [← Nat.xor_assoc, halfs_xor 8 (s ^^^ c) (256 * word l)]
   have e := halfs_even 8 (word l)
   rw [show (2 : Nat) ^ 8 = 256 from rfl] at e
   rw [e]
  rw [key]
theorem addL_noughts (s k : Nat) : addL s (List.replicate k 0) = halfs (8 * k) s := by
 have hw : ∀ k, word (List.replicate k 0) = 0 := by
  intro k
  induction k with
  | zero => rfl
  | succ k ih => simp only [List.replicate_succ, word, ih]; rfl
 rw [addL_word, hw]; simp
/-- what is turned within four bytes in a row turns the state, if anything is turned -/
theorem turned (i j : Nat) (l : List Nat) (hn : l.length ≤ 4) (hl : ∀ c ∈ l, c < 256) (h : addL 0 (List.replicate i 0 ++ l ++ List.replicate j 0) = 0) : ∀ c ∈ l, c = 0 := by
 rw [addL_app, addL_app, addL_noughts, addL_noughts, halfs_nought, addL_word, Nat.zero_xor] at h
 have h1 := word_lt 4 l hn hl
 exact word_zero l hl (halfs_zero _ h1 (halfs_zero _ (halfs_lt _ _ h1) h))
theorem sums_differ (a b : List Nat) (h : a.length = b.length) (ha : ∀ x ∈ a, x < 256) (hb : ∀ x ∈ b, x < 256) : sumL a = sumL b ↔ addL 0 (xorL a b) = 0 := by
 unfold sumL
 have la := addL_lt (s := 4294967295) (by omega) a ha
 have lb := addL_lt (s := 4294967295) (by omega) b hb
 have h1 := addL_xor a b h 4294967295 4294967295
 rw [Nat.xor_self] at h1
 rw [h1]
 constructor
 ·intro e
  have : addL 4294967295 a = addL 4294967295 b := by unfold neg at e; omega
  rw [this, Nat.xor_self]
 ·intro e
  rw [xor_zero_eq e]
end Go.Proofs.YtcaaljioennnnabDoor.crcnum

/- What Add, Sum, Begin and End of crc answer, where the table of sixteen is as the program's text lays it; and the reference's Add and Sum: the states and the sums of crcnum. -/
namespace Go.Proofs.YtcaaljioennnnabDoor.crc
open Go.RowKit
open crcnum words

theorem xor32 {a b : Nat} (ha : a < 4294967296) (hb : b < 4294967296) : bits .xor .u32 (a : Int) (b : Int) = ((a ^^^ b : Nat) : Int) := u32_xor_nat a b ha hb

theorem u32max : IntKind.u32.max = ((4294967295 : Nat) : Int) := by kernel_rfl
theorem unot {s : Nat} (h : s < 4294967296) : bits .xor .u32 IntKind.u32.max (s : Int) = (neg s : Int) := by
 rw [u32max, xor32 (by omega) h, neg_xor h, Nat.xor_comm]
/-! THE REFERENCE -/
theorem half_odd {t : Nat} (h : 1 ≤ t % 2) (hl : t < 4294967296) : bits .xor .u32 ((t : Int) / 2) 3988292384 = (half t : Int) := by
 have e : ((t : Int) / 2) = ((t / 2 : Nat) : Int) := by omega
 have := xor32 (a := t / 2) (b := 3988292384) (by omega) (by omega)
 rw [e]
 unfold half
 rw [if_pos (by omega)]
 exact this
theorem half_evn {t : Nat} (h : t % 2 ≤ 0) : ((t : Int) / 2) = (half t : Int) := by
 unfold half
 rw [if_neg (by omega), Nat.xor_zero]; omega
end Go.Proofs.YtcaaljioennnnabDoor.crc

/- What leb.Put and the reference's Put hand back: a new slice that holds a number's bytes. Both are what putL says. -/
namespace Go.Proofs.YtcaaljioennnnabDoor.put
open Go.RowKit
open num words

set_option maxRecDepth 100000 in
theorem info5 : (Tryd.prog.info? 5).map (fun i => (i.zero, i.size, i.bytes)) = some (some (.int .u8 0), 1, 1) := by kernel_rfl

/-- a new slice of bytes: what it holds, and that nothing which was there has changed -/
def New (w : World) (l : List Nat) (e : Ending) (w' : World) : Prop :=
 ∃ v, e = .returned v ∧ w'.ownsRow w.heap.size 5 1 v l.length (B l) ∧ Below w.heap.size w w'

theorem or_byte_nat : ∀ x : Fin 256, x.val ||| 128 = x.val % 128 + 128 := by decide +kernel
theorem or_byte (m : Nat) : bits .or .u8 ((m : Int) % 256) 128 = ((m % 128 + 128 : Nat) : Int) := by
 have e : (m : Int) % 256 = ((m % 256 : Nat) : Int) := by omega
 have h := u8_or_nat (m % 256) 128 (by omega) (by omega)
 rw [show (((128 : Nat) : Int)) = 128 from rfl] at h
 rw [e, h, or_byte_nat ⟨m % 256, by omega⟩]
 congr 1
 show m % 256 % 128 + 128 = _
 omega
set_option maxRecDepth 100000 in
theorem size5 (w : World) : (sizeOf 5).run Tryd.prog w = .ok 1 w := by kernel_rfl
theorem take_set {cs : Array Value} {j : Nat} {xs : List Nat} {x : Nat} (hs : j < cs.size) (ht : cs.toList.take j = B xs) :
  (cs.setIfInBounds j (.int .u8 (x : Int))).toList.take (j + 1) = B (xs ++ [x]) := by
 rw [Array.toList_setIfInBounds, B_app, ← ht]
 rw [List.take_add_one, List.take_set_of_le (by omega)]
 simp [B, hs]
end Go.Proofs.YtcaaljioennnnabDoor.put

/- What leb.Take answers: the number that stands at a place of any bytes, or the error: what takeAt says. -/
namespace Go.Proofs.YtcaaljioennnnabDoor.take
open Go.RowKit
open num words

/-- what turns the bits of one byte more into the number -/
theorem or_step (y d j : Nat) (hy : y < 128 ^ j) (h : y + d * 128 ^ j < 18446744073709551616) :
  bits .or .u64 (y : Int) (IntKind.u64.wrap ((d : Int) * 2 ^ (7 * j))) = ((y + d * 128 ^ j : Nat) : Int) := by
 have e1 : (d : Int) * 2 ^ (7 * j) = ((d * 128 ^ j : Nat) : Int) := by
  push_cast; rw [show (2 : Int) ^ (7 * j) = 128 ^ j by rw [Int.pow_mul]; rfl]
 rw [e1, IntKind.wrap_u64]
 have e2 : ((d * 128 ^ j : Nat) : Int) % 18446744073709551616 = ((d * 128 ^ j : Nat) : Int) := by omega
 rw [e2, u64_or_nat _ _ (by omega) (by omega)]
 have e3 : y ||| d * 128 ^ j = d * 128 ^ j + y := by
  rw [Nat.or_comm]
  have : 128 ^ j = 2 ^ (7 * j) := by rw [Nat.pow_mul]
  exact nat_join (7 * j) _ _ (by rw [← this]; exact Nat.mul_mod_left _ _) (by rw [← this]; exact hy)
 rw [e3]; omega
theorem andNot_byte (d : Nat) (h : d < 256) : bits .andNot .u8 (d : Int) 128 = ((d % 128 : Nat) : Int) := by
 have := u8_andNot_nat d 128 h (by omega)
 rw [show (((128 : Nat) : Int)) = 128 from rfl] at this
 rw [this]
 congr 1
 exact nat_mask7 d
theorem wrap_byte (d : Nat) (h : d < 256) : IntKind.u64.wrap (d : Int) = d := by rw [IntKind.wrap_u64]; omega
theorem leb_step (y d j : Nat) (hd : d < 256) (hy : y < 128 ^ j) (h : y + d % 128 * 128 ^ j < 18446744073709551616) :
  bits .or .u64 (y : Int) (IntKind.u64.wrap (IntKind.u64.wrap (bits .andNot .u8 (d : Int) 128) * 2 ^ (7 * j))) = ((y + d % 128 * 128 ^ j : Nat) : Int) := by
 rw [andNot_byte d hd, wrap_byte _ (by omega), or_step y _ j hy h]
theorem pow9 {j : Nat} (h : j = 9) : (2 : Int) ^ (7 * j) = 9223372036854775808 := by subst h; rfl
theorem fits (y d j : Nat) (hy : y < 128 ^ j) (hj : j ≤ 9) (h9 : j ≤ 8 ∨ d ≤ 1) : y + d % 128 * 128 ^ j < 18446744073709551616 := by
 have hp : 0 < 128 ^ j := Nat.pow_pos (by omega)
 rcases h9 with h | h
 ·have a1 : d % 128 * 128 ^ j ≤ 127 * 128 ^ j := Nat.mul_le_mul_right _ (by omega)
  have a2 : 128 ^ (j + 1) ≤ 128 ^ 9 := Nat.pow_le_pow_right (by omega) (by omega)
  rw [Nat.pow_succ] at a2
  omega
 ·have a1 : d % 128 * 128 ^ j ≤ 1 * 128 ^ j := Nat.mul_le_mul_right _ (by omega)
  have a2 : 128 ^ j ≤ 128 ^ 9 := Nat.pow_le_pow_right (by omega) (by omega)
  omega

/-- one way on from a place: what the whole answers -/
theorem fin {l L : List Nat} {k j y d : Nat} {r : List Nat} (hk : k ≤ l.length) (hL : l.drop k = L) (ht : takeGo 0 0 L = takeGo j y (L.drop j)) (hd : L.drop j = d :: r) {x q e : Nat}
  (h : takeGo j y (d :: r) = (x, q, e)) : takeAt l k = (x, if e = 0 then k + q else 0, e) := by
 unfold takeAt
 rw [if_neg (by omega)]
 simp only [Int.toNat_natCast, hL, ht, hd, h]
theorem fin_short {l L : List Nat} {k j y : Nat} (hk : k ≤ l.length) (hL : l.drop k = L) (ht : takeGo 0 0 L = takeGo j y (L.drop j)) (hd : L.drop j = []) : takeAt l k = (0, 0, 2) := by
 unfold takeAt
 rw [if_neg (by omega)]
 simp only [Int.toNat_natCast, hL, ht, hd, takeGo]
 rfl
theorem go_more {j y d : Nat} (r : List Nat) (h9 : ¬ (j = 9 ∧ 1 < d)) (h : 128 ≤ d) : takeGo j y (d :: r) = takeGo (j + 1) (y + d % 128 * 128 ^ j) r := by
 simp only [takeGo]; rw [if_neg h9, if_pos h]
theorem go_big {j y d : Nat} (r : List Nat) (h : j = 9 ∧ 1 < d) : takeGo j y (d :: r) = (0, 0, 1) := by
 simp only [takeGo]; rw [if_pos h]
theorem go_nought {j y d : Nat} (r : List Nat) (h : d = 0) (hj : 0 < j) : takeGo j y (d :: r) = (0, 0, 1) := by
 simp only [takeGo]; rw [if_neg (by omega), if_neg (by omega), if_pos ⟨h, hj⟩]
theorem go_last {j y d : Nat} (r : List Nat) (h9 : ¬ (j = 9 ∧ 1 < d)) (h : d < 128) (h0 : ¬ (d = 0 ∧ 0 < j)) : takeGo j y (d :: r) = (y + d % 128 * 128 ^ j, j + 1, 0) := by
 simp only [takeGo]; rw [if_neg h9, if_neg (by omega), if_neg h0, Nat.mod_eq_of_lt h]
def Out (l : List Nat) (k : Nat) (e : Ending) : Prop :=
 e = .returned (.tuple #[.int .u64 ((takeAt l k).1 : Int), .int .i64 ((takeAt l k).2.1 : Int), .int .i64 ((takeAt l k).2.2 : Int)])
theorem out_of {l : List Nat} {k x q e : Nat} {x' q' e' : Int} (h : takeAt l k = (x, q, e)) (hx : x' = x) (hq : q' = q) (he : e' = e) : Out l k (.returned (.tuple #[.int .u64 x', .int .i64 q', .int .i64 e'])) := by
 unfold Out; rw [h, hx, hq, he]

theorem size5 (w : World) : (sizeOf 5).run Tryd.prog w = .ok 1 w := by kernel_rfl

set_option maxRecDepth 100000 in
theorem cut (A : Option Addr) (n c k : Nat) (hk : k ≤ n) : ∃ A', A' = (if c = k then A else A.map (·.add k)) ∧
  ∀ w : World, (Instr.sliceAt 61 (.slice A n c) (some (.int .i64 (k : Int))) none none).run Tryd.prog w = .ok (.slice A' (n - k) (c - k)) w := by
 refine ⟨_, rfl, fun w => ?_⟩
 rw [run_sliceAt_slice w _ _ _ _ _ Tryd.underlying61, run_slice_l w _ A n c Tryd.underlying61 .i64 (k : Int) (by omega) (by omega)]
 have h := size5 w
 have he : Tryd.prog.elem 61 = 5 := by kernel_rfl
 rw [he, h]
 simp only [Result.andThen_ok, sliced, Nat.mul_one, Int.toNat_natCast]

/-- leb.Take AT ANY PLACE: what takeAt says; the world stays. -/
def OutI (l : List Nat) (p : Int) (e : Ending) : Prop :=
 e = .returned (.tuple #[.int .u64 ((takeAt l p).1 : Int), .int .i64 ((takeAt l p).2.1 : Int), .int .i64 ((takeAt l p).2.2 : Int)])
theorem outside {l : List Nat} {p : Int} (h : p < 0 ∨ (l.length : Int) < p) : OutI l p (.returned (.tuple #[.int .u64 0, .int .i64 0, .int .i64 12])) := by
 unfold OutI takeAt; rw [if_pos h]; rfl
end Go.Proofs.YtcaaljioennnnabDoor.take

/- What Seal and Open of crc hand back: bytes with their sum behind them, and the bytes that were sealed. -/
namespace Go.Proofs.YtcaaljioennnnabDoor.sealing
open Go.RowKit
open crcnum words

def fourL (s : Nat) : List Nat := [s % 256, s / 256 % 256, s / 65536 % 256, s / 16777216 % 256]
def sealL (l : List Nat) : List Nat := l ++ fourL (sumL l)
def openL (l : List Nat) : List Nat × Nat :=
 if l.length < 4 then ([], 2)
 else if l.drop (l.length - 4) = fourL (sumL (l.take (l.length - 4))) then (l.take (l.length - 4), 0) else ([], 4)
theorem fourL_byte (s : Nat) : ∀ x ∈ fourL s, x < 256 := by
 intro x hx
 simp only [fourL, List.mem_cons, List.not_mem_nil, or_false] at hx
 rcases hx with rfl | rfl | rfl | rfl <;> omega
theorem sealL_byte {l : List Nat} (h : ∀ x ∈ l, x < 256) : ∀ x ∈ sealL l, x < 256 := by
 intro x hx
 rcases List.mem_append.1 hx with hx | hx
 ·exact h x hx
 ·exact fourL_byte _ x hx
theorem sealL_len (l : List Nat) : (sealL l).length = l.length + 4 := by simp [sealL, fourL]
theorem open_seal (l : List Nat) : openL (sealL l) = (l, 0) := by
 unfold openL
 rw [if_neg (by rw [sealL_len]; omega)]
 have e : (sealL l).length - 4 = l.length := by rw [sealL_len]; omega
 rw [e]
 simp [sealL]
theorem seal_open {l : List Nat} (h : (openL l).2 = 0) : sealL (openL l).1 = l := by
 unfold openL at h ⊢
 by_cases h1 : l.length < 4
 ·rw [if_pos h1] at h; simp at h
 ·rw [if_neg h1] at h ⊢
  by_cases h2 : l.drop (l.length - 4) = fourL (sumL (l.take (l.length - 4)))
  ·rw [if_pos h2]
   simp only [sealL]
   rw [← h2, List.take_append_drop]
  ·rw [if_neg h2] at h; simp at h

/-- a sum's four bytes, as one array -/
def F (s : Nat) : Value := .agg #[.int .u8 ((s % 256 : Nat) : Int), .int .u8 ((s / 256 % 256 : Nat) : Int), .int .u8 ((s / 65536 % 256 : Nat) : Int), .int .u8 ((s / 16777216 % 256 : Nat) : Int)]
/-- a row with room, that holds nothing yet -/
theorem own_empty (w : World) (cur : Array Value) (cap : Nat) (hm : cap ≤ maxLen) (hs : cur.size = cap) : (w.alloc (.cells cur 5)).ownsRow w.heap.size 5 1 (.slice (some ⟨w.heap.size, 0, none⟩) 0 cap) 0 [] :=
 ⟨by simp, .inr ⟨w.heap.size, cap, cur, rfl, Nat.le_refl _, heap_alloc_new w _, Nat.zero_le _, hm, by rw [hs, Nat.mul_one], by simp⟩⟩
/-- SEAL: bytes, and the four bytes of their sum. -/
theorem F_cells (s : Nat) : (F s).cells = (B (fourL s)).toArray := rfl
end Go.Proofs.YtcaaljioennnnabDoor.sealing

/- What Open of crc hands back: the bytes that were sealed, or the error. -/
namespace Go.Proofs.YtcaaljioennnnabDoor.sealing
open Go.RowKit
open crcnum words

theorem four_of {l : List Nat} (h : l.length = 4) : ∃ a b c d, l = [a, b, c, d] := by
 match l, h with
 | [a, b, c, d], _ => exact ⟨a, b, c, d, rfl⟩

set_option maxRecDepth 100000 in
theorem info5 : ∃ i, Tryd.prog.info? 5 = some i := ⟨_, rfl⟩
set_option maxRecDepth 100000 in
theorem cells5 : Tryd.prog.cellsOf 5 = 1 := by kernel_rfl
/-- OPEN: the bytes that were sealed, or the error. -/
def NewO (w : World) (s : List Nat × Nat) (e : Ending) (w' : World) : Prop :=
 ∃ v, e = .returned (.tuple #[v, .int .i64 (s.2 : Int)]) ∧ w'.ownsRow w.heap.size 5 1 v s.1.length (B s.1) ∧ Below w.heap.size w w'
end Go.Proofs.YtcaaljioennnnabDoor.sealing

/- The small functions of leb and of the reference on numbers alone that the later layers call, too: Zag; the reference's Zig, Zag and Put. -/
namespace Go.Proofs.YtcaaljioennnnabDoor.small
open Go.RowKit
open num words

def zig (n : Int) : Int := if 0 ≤ n then 2 * n else -2 * n - 1
def zag (u : Int) : Int := if u % 2 = 0 then u / 2 else -(u / 2) - 1
theorem zag_zig (n : Int) : zag (zig n) = n := by
 unfold zag zig; split <;> split <;> omega
theorem zig_zag (u : Int) (h : 0 ≤ u) : zig (zag u) = u := by
 unfold zag zig; split <;> split <;> omega
theorem zig_bd (n : Int) (h1 : -9223372036854775808 ≤ n) (h2 : n ≤ 9223372036854775807) : 0 ≤ zig n ∧ zig n ≤ 18446744073709551615 := by
 unfold zig; split <;> omega
theorem zag_bd (u : Int) (h1 : 0 ≤ u) (h2 : u ≤ 18446744073709551615) : -9223372036854775808 ≤ zag u ∧ zag u ≤ 9223372036854775807 := by
 unfold zag; split <;> omega
theorem ret_u {k : IntKind} {a b : Int} (h : a = b) : Ending.returned (.int k a) = .returned (.int k b) := by rw [h]
theorem B_snoc (xs : List Nat) (x : Nat) (y : Int) (h : y = x) : B xs ++ [.int .u8 y] = B (xs ++ [x]) := by
 rw [h]; simp [B]
end Go.Proofs.YtcaaljioennnnabDoor.small

/- What the reference's Seal and Open hand back: what sealL and openL say, as crc's. -/
namespace Go.Proofs.YtcaaljioennnnabDoor.sealing
open Go.RowKit
open crcnum words

theorem four_at (s j : Nat) (hj : j < 4) : (fourL s)[j]? = some (s / 2 ^ (8 * j) % 256) := by
 match j, hj with
 | 0, _ => simp [fourL]
 | 1, _ => simp [fourL]
 | 2, _ => simp [fourL]
 | 3, _ => simp [fourL]
end Go.Proofs.YtcaaljioennnnabDoor.sealing

/-
  What leb.Take answers: the number that stands at a place of any bytes, or the error: what takeAt says.
-/
import Derived.Test.YtdenpefihplnoaaProg
import Derived.Test.YtdenpefihplnoaaNum
import Derived.Test.YtdenpefihplnoaaWords
import Derived.Lib.Hide
namespace Go.Proofs.Ytdenpefihplnoaa.take
open Go.RowKit
open Go.Proofs.Ytdenpefihplnoaa.num Go.Proofs.Ytdenpefihplnoaa.words

/-- what turns the bits of one byte more into the number -/
theorem or_step (y d j : Nat) (hy : y < 128 ^ j) (h : y + d * 128 ^ j < 18446744073709551616) :
    bits .or .u64 (y : Int) (IntKind.u64.wrap ((d : Int) * 2 ^ (7 * j))) = ((y + d * 128 ^ j : Nat) : Int) := by
  have e1 : (d : Int) * 2 ^ (7 * j) = ((d * 128 ^ j : Nat) : Int) := by
    push_cast; rw [show (2 : Int) ^ (7 * j) = 128 ^ j by rw [Int.pow_mul]; rfl]
  rw [e1, IntKind.wrap_u64]
  have e2 : ((d * 128 ^ j : Nat) : Int) % 18446744073709551616 = ((d * 128 ^ j : Nat) : Int) := by omega
  rw [e2, u64_or_nat _ _ (by omega) (by omega)]
  have e3 : y ||| d * 128 ^ j = d * 128 ^ j + y := by
    rw [Nat.or_comm]
    have : 128 ^ j = 2 ^ (7 * j) := by rw [Nat.pow_mul]
    exact nat_join (7 * j) _ _ (by rw [← this]; exact Nat.mul_mod_left _ _) (by rw [← this]; exact hy)
  rw [e3]; omega
theorem andNot_byte (d : Nat) (h : d < 256) : bits .andNot .u8 (d : Int) 128 = ((d % 128 : Nat) : Int) := by
  have := u8_andNot_nat d 128 h (by omega)
  rw [show (((128 : Nat) : Int)) = 128 from rfl] at this
  rw [this]
  congr 1
  exact nat_mask7 d
theorem wrap_byte (d : Nat) (h : d < 256) : IntKind.u64.wrap (d : Int) = d := by rw [IntKind.wrap_u64]; omega
theorem leb_step (y d j : Nat) (hd : d < 256) (hy : y < 128 ^ j) (h : y + d % 128 * 128 ^ j < 18446744073709551616) :
    bits .or .u64 (y : Int) (IntKind.u64.wrap (IntKind.u64.wrap (bits .andNot .u8 (d : Int) 128) * 2 ^ (7 * j))) = ((y + d % 128 * 128 ^ j : Nat) : Int) := by
  rw [andNot_byte d hd, wrap_byte _ (by omega), or_step y _ j hy h]
theorem pow9 {j : Nat} (h : j = 9) : (2 : Int) ^ (7 * j) = 9223372036854775808 := by subst h; rfl
theorem fits (y d j : Nat) (hy : y < 128 ^ j) (hj : j ≤ 9) (h9 : j ≤ 8 ∨ d ≤ 1) : y + d % 128 * 128 ^ j < 18446744073709551616 := by
  have hp : 0 < 128 ^ j := Nat.pow_pos (by omega)
  rcases h9 with h | h
  · have a1 : d % 128 * 128 ^ j ≤ 127 * 128 ^ j := Nat.mul_le_mul_right _ (by omega)
    have a2 : 128 ^ (j + 1) ≤ 128 ^ 9 := Nat.pow_le_pow_right (by omega) (by omega)
    rw [Nat.pow_succ] at a2
    omega
  · have a1 : d % 128 * 128 ^ j ≤ 1 * 128 ^ j := Nat.mul_le_mul_right _ (by omega)
    have a2 : 128 ^ j ≤ 128 ^ 9 := Nat.pow_le_pow_right (by omega) (by omega)
    omega

/-- one way on from a place: what the whole answers -/
theorem fin {l L : List Nat} {k j y d : Nat} {r : List Nat} (hk : k ≤ l.length) (hL : l.drop k = L) (ht : takeGo 0 0 L = takeGo j y (L.drop j)) (hd : L.drop j = d :: r) {x q e : Nat}
    (h : takeGo j y (d :: r) = (x, q, e)) : takeAt l k = (x, if e = 0 then k + q else 0, e) := by
  unfold takeAt
  rw [if_neg (by omega)]
  simp only [Int.toNat_natCast, hL, ht, hd, h]
theorem fin_short {l L : List Nat} {k j y : Nat} (hk : k ≤ l.length) (hL : l.drop k = L) (ht : takeGo 0 0 L = takeGo j y (L.drop j)) (hd : L.drop j = []) : takeAt l k = (0, 0, 2) := by
  unfold takeAt
  rw [if_neg (by omega)]
  simp only [Int.toNat_natCast, hL, ht, hd, takeGo]
  rfl
theorem go_more {j y d : Nat} (r : List Nat) (h9 : ¬ (j = 9 ∧ 1 < d)) (h : 128 ≤ d) : takeGo j y (d :: r) = takeGo (j + 1) (y + d % 128 * 128 ^ j) r := by
  simp only [takeGo]; rw [if_neg h9, if_pos h]
theorem go_big {j y d : Nat} (r : List Nat) (h : j = 9 ∧ 1 < d) : takeGo j y (d :: r) = (0, 0, 1) := by
  simp only [takeGo]; rw [if_pos h]
theorem go_nought {j y d : Nat} (r : List Nat) (h : d = 0) (hj : 0 < j) : takeGo j y (d :: r) = (0, 0, 1) := by
  simp only [takeGo]; rw [if_neg (by omega), if_neg (by omega), if_pos ⟨h, hj⟩]
theorem go_last {j y d : Nat} (r : List Nat) (h9 : ¬ (j = 9 ∧ 1 < d)) (h : d < 128) (h0 : ¬ (d = 0 ∧ 0 < j)) : takeGo j y (d :: r) = (y + d % 128 * 128 ^ j, j + 1, 0) := by
  simp only [takeGo]; rw [if_neg h9, if_neg (by omega), if_neg h0, Nat.mod_eq_of_lt h]
def Out (l : List Nat) (k : Nat) (e : Ending) : Prop :=
  e = .returned (.tuple #[.int .u64 ((takeAt l k).1 : Int), .int .i64 ((takeAt l k).2.1 : Int), .int .i64 ((takeAt l k).2.2 : Int)])
theorem out_of {l : List Nat} {k x q e : Nat} {x' q' e' : Int} (h : takeAt l k = (x, q, e)) (hx : x' = x) (hq : q' = q) (he : e' = e) : Out l k (.returned (.tuple #[.int .u64 x', .int .i64 q', .int .i64 e'])) := by
  unfold Out; rw [h, hx, hq, he]

theorem size5 (w : World) : (sizeOf 5).run Try.prog w = .ok 1 w := by kernel_rfl

set_option maxRecDepth 100000 in
theorem cut (A : Option Addr) (n c k : Nat) (hk : k ≤ n) : ∃ A', A' = (if c = k then A else A.map (·.add k)) ∧
    ∀ w : World, (Instr.sliceAt 33 (.slice A n c) (some (.int .i64 (k : Int))) none none).run Try.prog w = .ok (.slice A' (n - k) (c - k)) w := by
  refine ⟨_, rfl, fun w => ?_⟩
  rw [run_sliceAt_slice w _ _ _ _ _ Try.underlying33, run_slice_l w _ A n c Try.underlying33 .i64 (k : Int) (by omega) (by omega)]
  have h := size5 w
  have he : Try.prog.elem 33 = 5 := by kernel_rfl
  rw [he, h]
  simp only [Result.andThen_ok, sliced, Nat.mul_one, Int.toNat_natCast]

set_option maxRecDepth 100000 in
set_option maxHeartbeats 800000 in
theorem take_in (A : Option Addr) (n c : Nat) (l : List Nat) (k : Nat) (w : World) (hr : Rd w A (B l)) (hl : l.length = n) (hc : n ≤ c) (hn : n ≤ 140737488355328) (hby : ∀ x ∈ l, x < 256) (hk : k ≤ n) :
    Calls Try.prog 69 #[.slice A n c, .int .i64 (k : Int)] w fun e w' => Out l k e ∧ w = w' := by
  obtain ⟨A', hA, hcut⟩ := cut A n c k hk
  have hrd : Rd w A' (B (l.drop k)) := by
    rw [hA, ← B_drop]
    exact hr.cut (by rw [B_len, hl]; exact hc)
  have hk9 : (k : Int) ≤ 140737488355328 := by omega
  have b1 : decide ((k : Int) < 0) = false := by simp
  have b2 : decide (n < k) = false := by simp; omega
  clear hA hr hn
  go_enter Try.func69, Try.ntmps69
  go_wp2
  have hlen : (l.drop k).length = n - k := by rw [List.length_drop, hl]
  generalize hL : l.drop k = L at hrd hlen
  go_loop [7, 22] (fun x i => ∃ y j : Nat, j ≤ 9 ∧ j ≤ n - k ∧ y < 128 ^ j ∧ takeGo 0 0 L = takeGo j y (L.drop j) ∧ x = .int .u64 (y : Int) ∧ i = .int .i64 (j : Int)) (fun _ i => n - (intOf i).toNat)
  case atStart => exact ⟨0, 0, by omega, by omega, by simp, by simp, rfl, rfl⟩
  case round =>
    obtain ⟨y, j, hj, hjn, hy, ht, rfl, rfl⟩ := hrel
    have HT := Lib.hid ht; clear ht
    have HL := Lib.hid hL; clear hL
    have HY := Lib.hid hy; clear hy
    by_cases hlt : j < n - k
    · obtain ⟨d, hd, hdj⟩ := drop_at (l := L) (k := j) (by omega)
      obtain ⟨a, rfl, _, hcell⟩ := hrd.at_ (B_at hdj)
      have hdb : d < 256 := hby d (by rw [← HL.out] at hdj; exact List.mem_of_mem_drop (List.mem_of_getElem? hdj))
      have HD := Lib.hid hd; clear hd
      clear hdj
      by_cases h9 : j ≤ 8
      · by_cases h128 : 128 ≤ d
        · have hs := leb_step y d j hdb HY.out (fits y d j HY.out hj (.inl h9))
          have HS := Lib.hid hs; clear hs
          go_wp2
          go_round
          case rel =>
            refine ⟨y + d % 128 * 128 ^ j, j + 1, by omega, by omega, ?_, ?_, by rw [HS.out], by go_num⟩
            · have := HY.out
              have hp : d % 128 * 128 ^ j ≤ 127 * 128 ^ j := Nat.mul_le_mul_right _ (by omega)
              rw [Nat.pow_succ]; omega
            · rw [HT.out, HD.out, go_more _ (by omega) h128]
          case measure => simp [intOf]; omega
        · by_cases h0 : d = 0
          · have h0' : d < 1 := by omega
            by_cases hj0 : 0 < j
            · clear h0
              go_wp2
              go_ret3
              exact ⟨out_of (fin (by omega) HL.out HT.out HD.out (go_nought _ (by omega) hj0)) rfl (by simp) rfl, rfl⟩
            · have hj1 : j < 1 := by omega
              have hs := leb_step y d j hdb HY.out (fits y d j HY.out hj (.inl h9))
              rw [show ((d : Nat) : Int) = 0 by omega] at hs
              have HS := Lib.hid hs; clear hs
              clear h0 hj0
              go_wp2
              go_ret3
              exact ⟨out_of (fin (by omega) HL.out HT.out HD.out (go_last _ (by omega) (by omega) (by omega))) HS.out (by simp; omega) rfl, rfl⟩
          · have hs := leb_step y d j hdb HY.out (fits y d j HY.out hj (.inl h9))
            have HS := Lib.hid hs; clear hs
            have hd0 : 0 < d := by omega
            clear h0
            go_wp2
            go_ret3
            exact ⟨out_of (fin (by omega) HL.out HT.out HD.out (go_last _ (by omega) (by omega) (by omega))) HS.out (by simp; omega) rfl, rfl⟩
      · by_cases h1 : 1 < d
        · go_wp2
          go_ret3
          exact ⟨out_of (fin (by omega) HL.out HT.out HD.out (go_big _ ⟨by omega, h1⟩)) rfl (by simp) rfl, rfl⟩
        · by_cases h0 : d = 0
          · have h0' : d < 1 := by omega
            have hj0 : 0 < j := by omega
            clear h0
            go_wp2
            go_ret3
            exact ⟨out_of (fin (by omega) HL.out HT.out HD.out (go_nought _ (by omega) hj0)) rfl (by simp) rfl, rfl⟩
          · have hs := leb_step y d j hdb HY.out (fits y d j HY.out hj (.inr (by omega)))
            rw [pow9 (by omega)] at hs
            have HS := Lib.hid hs; clear hs
            have hd0 : 0 < d := by omega
            clear h0
            go_wp2
            go_ret3
            exact ⟨out_of (fin (by omega) HL.out HT.out HD.out (go_last _ (by omega) (by omega) (by omega))) HS.out (by simp; omega) rfl, rfl⟩
    · go_wp2
      go_ret3
      exact ⟨out_of (fin_short (by omega) HL.out HT.out (List.drop_eq_nil_of_le (by omega))) rfl rfl rfl, rfl⟩

/-- leb.Take AT ANY PLACE: what takeAt says; the world stays. -/
def OutI (l : List Nat) (p : Int) (e : Ending) : Prop :=
  e = .returned (.tuple #[.int .u64 ((takeAt l p).1 : Int), .int .i64 ((takeAt l p).2.1 : Int), .int .i64 ((takeAt l p).2.2 : Int)])
theorem outside {l : List Nat} {p : Int} (h : p < 0 ∨ (l.length : Int) < p) : OutI l p (.returned (.tuple #[.int .u64 0, .int .i64 0, .int .i64 12])) := by
  unfold OutI takeAt; rw [if_pos h]; rfl
set_option maxRecDepth 100000 in
set_option maxHeartbeats 800000 in
theorem take_any (A : Option Addr) (n c : Nat) (l : List Nat) (p : Int) (w : World) (hr : Rd w A (B l)) (hl : l.length = n) (hc : n ≤ c) (hn : n ≤ 140737488355328) (hby : ∀ x ∈ l, x < 256) :
    Calls Try.prog 69 #[.slice A n c, .int .i64 p] w fun e w' => OutI l p e ∧ w = w' := by
  by_cases hp : p < 0
  · have ho := outside (l := l) (.inl hp)
    have HO := Lib.hid ho; clear ho hn hr hby
    go_enter Try.func69, Try.ntmps69
    go_wp2
    go_ret3
    exact ⟨HO.out, rfl⟩
  · obtain ⟨k, rfl⟩ := Int.eq_ofNat_of_zero_le (show 0 ≤ p by omega)
    by_cases hk : k ≤ n
    · exact take_in A n c l k w hr hl hc hn hby hk
    · have ho := outside (l := l) (p := (k : Int)) (.inr (by omega))
      have HO := Lib.hid ho; clear ho hn hr hby
      have hk' : n < k := by omega
      clear hk
      go_enter Try.func69, Try.ntmps69
      go_wp2
      go_ret3
      exact ⟨HO.out, rfl⟩
end Go.Proofs.Ytdenpefihplnoaa.take

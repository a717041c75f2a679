/-
  The small functions of leb and of the reference on numbers alone: Zig, Zag, Size; and the reference's Put.
-/
import Derived.Test.YtnadjcmfmbjnnaaProg
import Derived.Test.YtnadjcmfmbjnnaaNum
import Derived.Test.YtnadjcmfmbjnnaaWords
import Derived.Test.YtnadjcmfmbjnnaaPut
import Derived.Lib.Hide
import Derived.Test.YtnadjcmfmbjnnaaShelf
namespace Go.Proofs.Ytnadjcmfmbjnnaa.small
open Go.RowKit
open Go.Proofs.Ytnadjcmfmbjnnaa.num Go.Proofs.Ytnadjcmfmbjnnaa.words

def zig (n : Int) : Int := if 0 ≤ n then 2 * n else -2 * n - 1
def zag (u : Int) : Int := if u % 2 = 0 then u / 2 else -(u / 2) - 1
theorem zag_zig (n : Int) : zag (zig n) = n := by
  unfold zag zig; split <;> split <;> omega
theorem zig_zag (u : Int) (h : 0 ≤ u) : zig (zag u) = u := by
  unfold zag zig; split <;> split <;> omega
theorem zig_bd (n : Int) (h1 : -9223372036854775808 ≤ n) (h2 : n ≤ 9223372036854775807) : 0 ≤ zig n ∧ zig n ≤ 18446744073709551615 := by
  unfold zig; split <;> omega
theorem zag_bd (u : Int) (h1 : 0 ≤ u) (h2 : u ≤ 18446744073709551615) : -9223372036854775808 ≤ zag u ∧ zag u ≤ 9223372036854775807 := by
  unfold zag; split <;> omega
theorem ret_u {k : IntKind} {a b : Int} (h : a = b) : Ending.returned (.int k a) = .returned (.int k b) := by rw [h]

set_option maxHeartbeats 400000 in
theorem zig_any (n : Int) (w : World) (h1 : -9223372036854775808 ≤ n) (h2 : n ≤ 9223372036854775807) :
    Calls Try.prog 15 #[.int .i64 n] w fun e w' => e = .returned (.int .u64 (zig n)) ∧ w = w' := by
  by_cases h : 0 ≤ n
  · go_enter Try.func15, Try.ntmps15
    go_wp2
    go_ret
    exact ⟨ret_u (by unfold zig; rw [if_pos h]), rfl⟩
  · go_enter Try.func15, Try.ntmps15
    go_wp2
    go_ret
    exact ⟨ret_u (by unfold zig; rw [if_neg (by omega)]; simp only [IntKind.wrap_u64]; omega), rfl⟩
set_option maxHeartbeats 400000 in
theorem zag_any (n : Int) (w : World) (h1 : 0 ≤ n) (h2 : n ≤ 18446744073709551615) :
    Calls Try.prog 17 #[.int .u64 n] w fun e w' => e = .returned (.int .i64 (zag n)) ∧ w = w' := by
  go_enter Try.func17, Try.ntmps17
  go_wp2
  · have h : (n % 2 == 0) = true := by assumption
    go_ret
    exact ⟨ret_u (by unfold zag; rw [if_pos (by simpa using h)]), rfl⟩
  · have h : (n % 2 == 0) = false := by assumption
    go_ret
    exact ⟨ret_u (by unfold zag; rw [if_neg (by simpa using h)]), rfl⟩
set_option maxHeartbeats 400000 in
theorem rzig_any (n : Int) (w : World) (h1 : -9223372036854775808 ≤ n) (h2 : n ≤ 9223372036854775807) :
    Calls Try.prog 16 #[.int .i64 n] w fun e w' => e = .returned (.int .u64 (zig n)) ∧ w = w' := by
  by_cases h : 0 ≤ n
  · go_enter Try.func16, Try.ntmps16
    go_wp2
    go_ret
    exact ⟨ret_u (by unfold zig; rw [if_pos h]; omega), rfl⟩
  · go_enter Try.func16, Try.ntmps16
    go_wp2
    go_ret
    exact ⟨ret_u (by unfold zig; rw [if_neg (by omega)]; omega), rfl⟩
set_option maxHeartbeats 400000 in
theorem rzag_any (n : Int) (w : World) (h1 : 0 ≤ n) (h2 : n ≤ 18446744073709551615) :
    Calls Try.prog 18 #[.int .u64 n] w fun e w' => e = .returned (.int .i64 (zag n)) ∧ w = w' := by
  go_enter Try.func18, Try.ntmps18
  go_wp2
  · have h : (n % 2 == 0) = true := by assumption
    go_ret
    exact ⟨ret_u (by unfold zag; rw [if_pos (by simpa using h)]), rfl⟩
  · have h : (n % 2 == 0) = false := by assumption
    go_ret
    exact ⟨ret_u (by unfold zag; rw [if_neg (by simpa using h)]), rfl⟩

theorem bl_two (x : Nat) (h : x ≠ 0) : bl x = 1 + bl (x / 2) := by
  unfold bl
  rw [if_neg h, Nat.log2_def]
  by_cases h2 : 2 ≤ x
  · rw [if_pos h2, if_neg (by omega)]; omega
  · have : x / 2 = 0 := by omega
    rw [if_neg h2, this]; simp
theorem bl_aux (f x : Nat) (h : x < 2 ^ f) : Lib.bitLenAux f x = bl x := by
  induction f generalizing x with
  | zero => obtain rfl : x = 0 := by simpa using h
            rfl
  | succ f ih =>
    unfold Lib.bitLenAux
    by_cases h0 : x = 0
    · rw [if_pos h0, h0]; rfl
    · rw [if_neg h0, bl_two x h0, ih (x / 2) (by rw [Nat.pow_succ] at h; omega)]
theorem bl_eq (n : Nat) (h : n < 18446744073709551616) : Lib.bitLen n = bl n := bl_aux 64 n h
theorem ret_max {k : Nat} {m : Nat} (h : m = max 1 ((k + 6) / 7)) : max (1 : Int) (((k : Int) + 7 - 1) / 7) = (m : Int) := by omega
set_option maxHeartbeats 400000 in
theorem size_any (n : Int) (w : World) (h0 : 0 ≤ n) (h1 : n ≤ 18446744073709551615) :
    Calls Try.prog 14 #[.int .u64 n] w fun e w' => e = .returned (.int .i64 ((putL n.toNat).length : Int)) ∧ w = w' := by
  have hs := putL_size n.toNat
  have h10 := putL_len10 n.toNat (by omega)
  have hbl : bl n.toNat ≤ 1000 := by omega
  rw [← bl_eq _ (by omega)] at hs hbl
  have HS := Lib.hid hs; clear hs h10
  go_enter Try.func14, Try.ntmps14
  go_wp2_with (go_at_call 25; refine (shelf.bits_Len64 n _ h0 h1).mono ?_; rintro e w' ⟨rfl, rfl⟩)
  go_ret
  exact ⟨ret_u (ret_max HS.out), rfl⟩

theorem B_snoc (xs : List Nat) (x : Nat) (y : Int) (h : y = x) : B xs ++ [.int .u8 y] = B (xs ++ [x]) := by
  rw [h]; simp [B]
set_option maxRecDepth 20000 in
set_option maxHeartbeats 400000 in
theorem rput_any (n : Nat) (w : World) (hn : n < 18446744073709551616) : Calls Try.prog 13 #[.int .u64 (n : Int)] w (put.New w (putL n)) := by
  obtain ⟨i0, hi0, hz0, hz1, hz2⟩ := info_parts put.info5
  have hnI : (n : Int) ≤ 18446744073709551615 := by omega
  have HN := Lib.hid hn; clear hn
  go_enter Try.func13, Try.ntmps13
  go_wp2
  go_loopw [0, 3] (fun x v wr => ∃ (m : Nat) (xs : List Nat), x = .int .u64 (m : Int) ∧ m ≤ n ∧ xs ++ putL m = putL n ∧ wr.ownsRow w.heap.size 5 1 v xs.length (B xs) ∧ Below w.heap.size w wr) (fun x _ _ => (intOf x).toNat)
  case atStart =>
    exact ⟨n, [], rfl, Nat.le_refl _, rfl, World.ownsRow_nil _ _ _ _, Below.refl _ _⟩
  case round =>
    obtain ⟨m, xs, rfl, hmn, he, hown, hb⟩ := hrel
    have hm : (m : Int) ≤ 18446744073709551615 := by omega
    have hlen : xs.length ≤ 9 := by
      have h1 := putL_len10 n HN.out
      have h2 := putL_pos m
      rw [← he, List.length_append] at h1
      omega
    have HE := Lib.hid he; clear he
    have HM := Lib.hid hmn; clear hmn hnI
    have hsz := hb.size
    have HO := Lib.hid hown; clear hown
    by_cases hlt : 128 ≤ m
    · go_wp2_with (at_builtin; refine wpList_app _ rfl (.tmp 6) (.tmp 11) _ rfl w.heap.size 5 i0 _ 1 1 Try.underlying23 hi0 hz0 hz1 hz2 rfl (by omega) _ xs.length (B xs) rfl (HO.out.alloc _) _ 1 1 [_] rfl rfl (rd_blk (heap_alloc_new wr _) (k := 1) rfl) (by simp [Value.oneCell']) (by simp only [maxLen]; omega) (by omega) (by have := hb.size; simp; omega) ?_; intro v' w1 hown1 hg1 hb1 hat1; clear hg1 hat1)
      have hown2 : w1.ownsRow w.heap.size 5 1 v' (xs ++ [m % 128 + 128]).length (B (xs ++ [m % 128 + 128])) := by
        rw [← B_snoc xs (m % 128 + 128) ((m : Int) % 128 + 128) (by omega)]
        simpa using hown1
      have hb2 := (hb.alloc hsz (Obj.cells #[Value.int IntKind.u8 ((m : Int) % 128 + 128)] 5)).trans hb1
      go_roundw
      case rel => exact ⟨m / 128, xs ++ [m % 128 + 128], by go_num, by have := HM.out; omega, by rw [← HE.out, putL_ge hlt]; simp, hown2, hb2⟩
      case measure => simp [intOf]; omega
    · go_wp2_with (at_builtin; refine wpList_app _ rfl (.tmp 15) (.tmp 18) _ rfl w.heap.size 5 i0 _ 1 1 Try.underlying23 hi0 hz0 hz1 hz2 rfl (by omega) _ xs.length (B xs) rfl (HO.out.alloc _) _ 1 1 [_] rfl rfl (rd_blk (heap_alloc_new wr _) (k := 1) rfl) (by simp [Value.oneCell']) (by simp only [maxLen]; omega) (by omega) (by have := hb.size; simp; omega) ?_; intro v' w1 hown1 hg1 hb1 hat1; clear hg1 hat1)
      have e : putL n = xs ++ [m] := by rw [← HE.out, putL_lt (by omega)]
      have hown2 : w1.ownsRow w.heap.size 5 1 v' (putL n).length (B (putL n)) := by
        rw [e, ← B_snoc xs m (m : Int) rfl]
        simpa using hown1
      have hb2 := (hb.alloc hsz (Obj.cells #[Value.int IntKind.u8 (m : Int)] 5)).trans hb1
      go_ret
      exact ⟨v', rfl, hown2, hb2⟩
end Go.Proofs.Ytnadjcmfmbjnnaa.small

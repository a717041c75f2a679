/-
  The small functions of leb and of the reference on numbers alone that the later layers call, too: Zag; the reference's Zig, Zag and Put.
-/
import Derived.Test.YtchhibicbgimcaaProg
import Derived.Test.YtchhibicbgimcaaNum
import Derived.Test.YtchhibicbgimcaaWords
import Derived.Test.YtchhibicbgimcaaPut
import Derived.Lib.Hide
namespace Go.Proofs.Ytchhibicbgimcaa.small
open Go.RowKit
open Go.Proofs.Ytchhibicbgimcaa.num Go.Proofs.Ytchhibicbgimcaa.words

def zig (n : Int) : Int := if 0 ≤ n then 2 * n else -2 * n - 1
def zag (u : Int) : Int := if u % 2 = 0 then u / 2 else -(u / 2) - 1
theorem zag_zig (n : Int) : zag (zig n) = n := by
  unfold zag zig; split <;> split <;> omega
theorem zig_zag (u : Int) (h : 0 ≤ u) : zig (zag u) = u := by
  unfold zag zig; split <;> split <;> omega
theorem zig_bd (n : Int) (h1 : -9223372036854775808 ≤ n) (h2 : n ≤ 9223372036854775807) : 0 ≤ zig n ∧ zig n ≤ 18446744073709551615 := by
  unfold zig; split <;> omega
theorem zag_bd (u : Int) (h1 : 0 ≤ u) (h2 : u ≤ 18446744073709551615) : -9223372036854775808 ≤ zag u ∧ zag u ≤ 9223372036854775807 := by
  unfold zag; split <;> omega
theorem ret_u {k : IntKind} {a b : Int} (h : a = b) : Ending.returned (.int k a) = .returned (.int k b) := by rw [h]
theorem B_snoc (xs : List Nat) (x : Nat) (y : Int) (h : y = x) : B xs ++ [.int .u8 y] = B (xs ++ [x]) := by
  rw [h]; simp [B]
set_option maxRecDepth 100000 in
set_option maxHeartbeats 400000 in
theorem rput_any (n : Nat) (w : World) (hn : n < 18446744073709551616) : Calls Try.prog 24 #[.int .u64 (n : Int)] w (put.New w (putL n)) := by
  obtain ⟨i0, hi0, hz0, hz1, hz2⟩ := info_parts put.info5
  have hnI : (n : Int) ≤ 18446744073709551615 := by omega
  have HN := Lib.hid hn; clear hn
  go_enter Try.func24, Try.ntmps24
  go_wp2
  go_loopw [0, 3] (fun x v wr => ∃ (m : Nat) (xs : List Nat), x = .int .u64 (m : Int) ∧ m ≤ n ∧ xs ++ putL m = putL n ∧ wr.ownsRow w.heap.size 5 1 v xs.length (B xs) ∧ Below w.heap.size w wr) (fun x _ _ => (intOf x).toNat)
  case atStart =>
    exact ⟨n, [], rfl, Nat.le_refl _, rfl, World.ownsRow_nil _ _ _ _, Below.refl _ _⟩
  case round =>
    obtain ⟨m, xs, rfl, hmn, he, hown, hb⟩ := hrel
    have hm : (m : Int) ≤ 18446744073709551615 := by omega
    have hlen : xs.length ≤ 9 := by
      have h1 := putL_len10 n HN.out
      have h2 := putL_pos m
      rw [← he, List.length_append] at h1
      omega
    have HE := Lib.hid he; clear he
    have HM := Lib.hid hmn; clear hmn hnI
    have hsz := hb.size
    have HO := Lib.hid hown; clear hown
    by_cases hlt : 128 ≤ m
    · go_wp2_with (at_builtin; refine wpList_app _ rfl (.tmp 6) (.tmp 11) _ rfl w.heap.size 5 i0 _ 1 1 Try.underlying23 hi0 hz0 hz1 hz2 rfl (by omega) _ xs.length (B xs) rfl (HO.out.alloc _) _ 1 1 [_] rfl rfl (rd_blk (heap_alloc_new wr _) (k := 1) rfl) (by simp [Value.oneCell']) (by simp only [maxLen]; omega) (by omega) (by have := hb.size; simp; omega) ?_; intro v' w1 hown1 hg1 hb1 hat1; clear hg1 hat1)
      have hown2 : w1.ownsRow w.heap.size 5 1 v' (xs ++ [m % 128 + 128]).length (B (xs ++ [m % 128 + 128])) := by
        rw [← B_snoc xs (m % 128 + 128) ((m : Int) % 128 + 128) (by omega)]
        simpa using hown1
      have hb2 := (hb.alloc hsz (Obj.cells #[Value.int IntKind.u8 ((m : Int) % 128 + 128)] 5)).trans hb1
      go_roundw
      case rel => exact ⟨m / 128, xs ++ [m % 128 + 128], by go_num, by have := HM.out; omega, by rw [← HE.out, putL_ge hlt]; simp, hown2, hb2⟩
      case measure => simp [intOf]; omega
    · go_wp2_with (at_builtin; refine wpList_app _ rfl (.tmp 15) (.tmp 18) _ rfl w.heap.size 5 i0 _ 1 1 Try.underlying23 hi0 hz0 hz1 hz2 rfl (by omega) _ xs.length (B xs) rfl (HO.out.alloc _) _ 1 1 [_] rfl rfl (rd_blk (heap_alloc_new wr _) (k := 1) rfl) (by simp [Value.oneCell']) (by simp only [maxLen]; omega) (by omega) (by have := hb.size; simp; omega) ?_; intro v' w1 hown1 hg1 hb1 hat1; clear hg1 hat1)
      have e : putL n = xs ++ [m] := by rw [← HE.out, putL_lt (by omega)]
      have hown2 : w1.ownsRow w.heap.size 5 1 v' (putL n).length (B (putL n)) := by
        rw [e, ← B_snoc xs m (m : Int) rfl]
        simpa using hown1
      have hb2 := (hb.alloc hsz (Obj.cells #[Value.int IntKind.u8 (m : Int)] 5)).trans hb1
      go_ret
      exact ⟨v', rfl, hown2, hb2⟩
end Go.Proofs.Ytchhibicbgimcaa.small

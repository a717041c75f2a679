/-
  The walk of the law LebSigns: Zig and Zag are the reference's, and each undoes the other.
-/
import Derived.Test.YtnadjcmfmbjnnaaLive
namespace Go.Proofs.Ytnadjcmfmbjnnaa.lebSigns
open Go.RowKit
open Go.Proofs.Ytnadjcmfmbjnnaa.num Go.Proofs.Ytnadjcmfmbjnnaa.words

theorem zag_back (n : Int) (w : World) (h1 : -9223372036854775808 ≤ n) (h2 : n ≤ 9223372036854775807) :
    Calls Try.prog 17 #[.int .u64 (small.zig n)] w fun e w' => e = .returned (.int .i64 n) ∧ w = w' := by
  have b := small.zig_bd n h1 h2
  have := small.zag_any (small.zig n) w b.1 b.2
  rw [small.zag_zig] at this
  exact this
theorem zig_back (n : Int) (w : World) (h1 : 0 ≤ n) (h2 : n ≤ 18446744073709551615) :
    Calls Try.prog 15 #[.int .i64 (small.zag n)] w fun e w' => e = .returned (.int .u64 n) ∧ w = w' := by
  have b := small.zag_bd n h1 h2
  have := small.zig_any (small.zag n) w b.1 b.2
  rw [small.zig_zag n h1] at this
  exact this

set_option maxRecDepth 20000 in
set_option maxHeartbeats 800000 in
theorem walk (a b : Int) (w : World) (a1 : -9223372036854775808 ≤ a) (a2 : a ≤ 9223372036854775807) (b1 : 0 ≤ b) (b2 : b ≤ 18446744073709551615) :
    Calls Try.prog 4 #[.int .i64 a, .int .u64 b] w fun e w' => e = .returned (.bool true) ∧ Below w.heap.size w w' := by
  go_enter Try.func4, Try.ntmps4
  go_wp2_with fail
  refine (live.live_any _).mono ?_
  rintro e w' ⟨rfl, hb⟩
  go_wp2_with fail
  refine (small.zig_any a _ a1 a2).mono ?_
  rintro e w1 ⟨rfl, rfl⟩
  go_wp2_with fail
  refine (small.rzig_any a _ a1 a2).mono ?_
  rintro e w1 ⟨rfl, rfl⟩
  go_wp2_with fail
  refine (small.zag_any b _ b1 b2).mono ?_
  rintro e w1 ⟨rfl, rfl⟩
  go_wp2_with fail
  refine (small.rzag_any b _ b1 b2).mono ?_
  rintro e w1 ⟨rfl, rfl⟩
  go_wp2_with fail
  refine (small.zig_any a _ a1 a2).mono ?_
  rintro e w1 ⟨rfl, rfl⟩
  go_wp2_with fail
  refine (zag_back a _ a1 a2).mono ?_
  rintro e w1 ⟨rfl, rfl⟩
  go_wp2_with fail
  refine (small.zag_any b _ b1 b2).mono ?_
  rintro e w1 ⟨rfl, rfl⟩
  go_wp2_with fail
  refine (zig_back b _ b1 b2).mono ?_
  rintro e w1 ⟨rfl, rfl⟩
  go_wp2
  go_ret
  exact ⟨rfl, hb⟩
end Go.Proofs.Ytnadjcmfmbjnnaa.lebSigns

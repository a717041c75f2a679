/-
  What the laws of layer 1 ask first, whatever is asked: the function 'live' answers true, and nothing that was there changes.
-/
import Derived.Test.YtnadjcmfmbjnnaaProg
import Derived.Test.YtnadjcmfmbjnnaaNum
import Derived.Test.YtnadjcmfmbjnnaaWords
import Derived.Test.YtnadjcmfmbjnnaaPut
import Derived.Test.YtnadjcmfmbjnnaaTake
import Derived.Test.YtnadjcmfmbjnnaaSame
import Derived.Test.YtnadjcmfmbjnnaaSmall
namespace Go.Proofs.Ytnadjcmfmbjnnaa.live
open Go.RowKit
open Go.Proofs.Ytnadjcmfmbjnnaa.num Go.Proofs.Ytnadjcmfmbjnnaa.words

theorem t1 (b : Nat) (w : World) (h : w.heap[b]? = some (.cells #[.int .u8 9, .int .u8 172, .int .u8 2] 5 (0, 0))) :
    Calls Try.prog 8 #[.slice (some ⟨b, 0, none⟩) 3 3, .int .i64 1] w fun e w' => e = .returned (.tuple #[.int .u64 300, .int .i64 3, .int .i64 0]) ∧ w = w' :=
  (take.take_any (some ⟨b, 0, none⟩) 3 3 [9, 172, 2] 1 w (rd_blk h (k := 3) rfl) rfl (by omega) (by omega) (by decide)).mono fun _ _ ⟨he, hw⟩ => ⟨he, hw⟩
theorem t2 (b : Nat) (w : World) (h : w.heap[b]? = some (.cells #[.int .u8 128, .int .u8 0] 5 (0, 0))) :
    Calls Try.prog 8 #[.slice (some ⟨b, 0, none⟩) 2 2, .int .i64 0] w fun e w' => e = .returned (.tuple #[.int .u64 0, .int .i64 0, .int .i64 1]) ∧ w = w' :=
  (take.take_any (some ⟨b, 0, none⟩) 2 2 [128, 0] 0 w (rd_blk h (k := 2) rfl) rfl (by omega) (by omega) (by decide)).mono fun _ _ ⟨he, hw⟩ => ⟨he, hw⟩
theorem p300 : putL 300 = [172, 2] := by rw [putL_ge (by omega), putL_lt (by omega)]

set_option maxRecDepth 20000 in
set_option maxHeartbeats 800000 in
theorem live_any (w : World) : Calls Try.prog 10 #[] w fun e w' => e = .returned (.bool true) ∧ Below w.heap.size w w' := by
  go_enter Try.func10, Try.ntmps10
  go_wp2_with fail
  refine (t1 _ _ (heap_alloc_new w _)).mono ?_
  rintro e w' ⟨rfl, rfl⟩
  go_wp2_with fail
  refine (t2 _ _ (by simpa using heap_alloc_new (w.alloc _) _)).mono ?_
  rintro e w' ⟨rfl, rfl⟩
  go_wp2_with fail
  have hp := put.put_any 300
  refine (hp _ (by omega)).mono ?_
  rintro e w2 ⟨v, rfl, hown, hb2⟩
  rw [p300] at hown
  go_wp2_with fail
  obtain ⟨A, c, rfl, _, _, hrd⟩ := own_rd hown
  refine (same.bytes_same A _ 2 c 2 [172, 2] _ (hrd.below ((Below.refl _ _).alloc (Nat.le_refl _) _)) (rd_blk (heap_alloc_new w2 _) (k := 2) rfl) rfl (by omega)).mono ?_
  rintro e w' ⟨rfl, q, rfl⟩
  clear hown hrd hp
  have hz1 := small.zig_any (-1)
  have hz2 := small.zag_any 2
  have hz3 := small.size_any 127
  have H1 := Lib.hid hz1; have H2 := Lib.hid hz2; have H3 := Lib.hid hz3
  clear hz1 hz2 hz3
  go_wp2_with fail
  refine (H1.out _ (by omega) (by omega)).mono ?_
  rintro e w' ⟨rfl, rfl⟩
  rw [show small.zig (-1) = 1 from rfl]
  go_wp2_with fail
  refine (H2.out _ (by omega) (by omega)).mono ?_
  rintro e w' ⟨rfl, rfl⟩
  rw [show small.zag 2 = 1 from rfl]
  go_wp2_with fail
  refine (H3.out _ (by omega) (by omega)).mono ?_
  rintro e w' ⟨rfl, rfl⟩
  rw [show (putL (127 : Int).toNat).length = 1 by rw [putL_lt (by decide)]; rfl]
  go_wp2
  go_ret
  have h1 : Below w.heap.size w ((w.alloc (Obj.cells #[Value.int IntKind.u8 9, Value.int IntKind.u8 172, Value.int IntKind.u8 2] 5)).alloc (Obj.cells #[Value.int IntKind.u8 128, Value.int IntKind.u8 0] 5)) :=
    ((Below.refl _ _).alloc (Nat.le_refl _) _).alloc (by simp) _
  have h2 := h1.trans (hb2.mono h1.size)
  exact ⟨rfl, (h2.alloc h2.size _).trans ⟨rfl, rfl, rfl, Nat.le_refl _, fun _ _ => rfl⟩⟩
end Go.Proofs.Ytnadjcmfmbjnnaa.live

/-
  Layer 4: a line's fields: the program's answer, and the reference's.
-/
import Derived.Test.YtcaaljioennnnabDoorLinesP
import Derived.Test.YtcaaljioennnnabDoorFrameT
namespace Go.Proofs.YtcaaljioennnnabDoor.word
open Go.RowKit Go.Shelf
open Go.Proofs.YtcaaljioennnnabDoor.num Go.Proofs.YtcaaljioennnnabDoor.words Go.Proofs.YtcaaljioennnnabDoor.give Go.Proofs.YtcaaljioennnnabDoor.write Go.Proofs.YtcaaljioennnnabDoor.piece Go.Proofs.YtcaaljioennnnabDoor.texts

/-- texts that are new, in a slice -/
def NewS (w : World) (xs : List ByteArray) (e : Ending) (w' : World) : Prop :=
  (∃ a c, e = .returned (.slice (some ⟨a, 0, none⟩) xs.length c) ∧ xs.length ≤ c ∧ Rd w' (some ⟨a, 0, none⟩) (S xs)) ∧ Below w.heap.size w w'

set_option maxRecDepth 100000 in
set_option maxHeartbeats 400000 in
theorem fields_w (s : ByteArray) (hs : s.size ≤ 1048576) (w : World) (m : Int) (hm : w.cell? ⟨0, 0, none⟩ = some (.int .i64 m)) :
    Calls Tryd.prog 30 #[.string s] w (NewS w (fieldsB s)) := by
  have HS := Lib.hid (Tryd.strings_Split s ⟨#[32]⟩ m w (by omega) hm (by decide))
  rw [← fieldsB_len s] at HS
  clear hm hs
  go_enter Tryd.func30, Tryd.ntmps30
  go_wp2_with fail
  refine HS.out.mono ?_
  rintro e w1 ⟨rfl, rfl⟩
  clear HS
  go_wp2
  go_ret
  refine ⟨⟨_, _, rfl, Nat.le_refl _, ?_⟩, (Below.refl _ _).alloc (Nat.le_refl _) _⟩
  exact rd_blk (k := (fieldsB s).length) (heap_alloc_new w _) (by
    show (((fieldsB s).map Value.string).toArray.toList).take (fieldsB s).length = S (fieldsB s)
    rw [List.take_of_length_le (by simp)]
    rfl)

end Go.Proofs.YtcaaljioennnnabDoor.word

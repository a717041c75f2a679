/-
  Layer 4: a number's digits; and what must be whatever is asked.
-/
import Derived.Test.YtcpjllkfgoaamaaDoorLinesW
namespace Go.Proofs.YtcpjllkfgoaamaaDoor.word
open Go.RowKit Go.Shelf
open Go.Proofs.YtcpjllkfgoaamaaDoor.num Go.Proofs.YtcpjllkfgoaamaaDoor.words Go.Proofs.YtcpjllkfgoaamaaDoor.give Go.Proofs.YtcpjllkfgoaamaaDoor.write

/-- what the library's tables and variables hold -/
structure Tabs (w : World) : Prop where
  pow : w.var? Tryd.prog "internal/strconv.uint64pow10" = some (Lib.pow10Tab.map fun z => Value.int .u64 z).toArray
  room : 0 < w.heap.size
  pin : 3 < w.heap.size
  len : ∃ m, w.cell? ⟨0, 0, none⟩ = some (.int .i64 m)

set_option maxRecDepth 100000 in
theorem digits_w (n : Int) (h0 : -9223372036854775808 ≤ n) (h1 : n ≤ 9223372036854775807) (w : World) (ht : w.var? Tryd.prog "internal/strconv.uint64pow10" = some (Lib.pow10Tab.map fun z => Value.int .u64 z).toArray) :
    Calls Tryd.prog 19 #[.int .i64 n] w fun e w' => e = .returned (.string ⟨(Lib.itoa n).toArray⟩) ∧ Below w.heap.size w w' := by
  have HI := Lib.hid (Tryd.strconv_Itoa n h0 h1 w ht)
  clear ht
  go_enter Tryd.func19, Tryd.ntmps19
  go_wp2_with fail
  refine HI.out.mono ?_
  rintro e w' ⟨rfl, k, os, rfl⟩
  go_wp2
  go_ret
  exact ⟨rfl, ⟨rfl, rfl, rfl, by show _ ≤ (_ ++ _ : Array _).size; simp, fun k hk => by show (_ ++ _ : Array _)[k]? = _; rw [Array.getElem?_append_left (by exact hk)]; rfl⟩⟩
theorem lines_w (s : ByteArray) (hs : s.size ≤ 65536) (w : World) (ht : Tabs w) : Calls Tryd.prog 9 #[.string s] w (LinesPost s hs w) := by
  obtain ⟨m, hm⟩ := ht.len
  exact callsIn_wide.1 (linesW_in s hs m w ht.room hm)

theorem s07 : (N ⟨#[48, 55]⟩).all digitB = true := by decide +kernel
theorem itoa0 : Lib.itoa 0 = [48] := by
  unfold Lib.itoa Lib.decDigits
  rfl
set_option maxRecDepth 100000 in
set_option maxHeartbeats 400000 in
theorem parse07 (w : World) (ht : w.var? Tryd.prog "internal/strconv.uint64pow10" = some (Lib.pow10Tab.map fun z => Value.int .u64 z).toArray) :
    Calls Tryd.prog 18 #[.string ⟨#[48, 55]⟩] w fun e w' => e = .returned (.tuple #[.int .i64 0, .int .i64 1]) ∧ Below w.heap.size w w' := by
  have HD := Lib.hid (digits_w 0 (by omega) (by omega) w ht)
  have HA := Lib.hid (all_w ⟨#[48, 55]⟩ digitB 33 w (by decide) (fun c w _ => digit_w c w) (fun _ _ => rfl))
  rw [s07] at HA
  rw [itoa0] at HD
  clear ht
  go_enter Tryd.func18, Tryd.ntmps18
  go_wp2_with fail
  refine HA.out.mono ?_
  rintro e w ⟨rfl, rfl⟩
  go_wp2_with fail
  refine HD.out.mono ?_
  rintro e w' ⟨rfl, hb⟩
  have HB := Lib.hid hb
  clear hb HD HA
  go_wp2
  go_ret2
  exact ⟨rfl, HB.out⟩
end Go.Proofs.YtcpjllkfgoaamaaDoor.word

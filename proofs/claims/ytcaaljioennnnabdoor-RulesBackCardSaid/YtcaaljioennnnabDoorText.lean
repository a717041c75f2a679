/-
  Layer 4: lines' text, and fields' line: the program's answer, and the reference's.
-/
import Derived.Test.YtcaaljioennnnabDoorFields
import Derived.Shelf.Strings.BuilderK
namespace Go.Proofs.YtcaaljioennnnabDoor.word
open Go.RowKit Go.Shelf
open Go.Proofs.YtcaaljioennnnabDoor.num Go.Proofs.YtcaaljioennnnabDoor.words Go.Proofs.YtcaaljioennnnabDoor.give Go.Proofs.YtcaaljioennnnabDoor.write Go.Proofs.YtcaaljioennnnabDoor.piece Go.Proofs.YtcaaljioennnnabDoor.texts

def Bld (B : Nat) (l : List UInt8) (w : World) : Prop := Lib.IsBuilderF 63 5 B B (Lib.byteCells l) w
theorem bytes_app (l r : List UInt8) : Lib.byteCells (l ++ r) = Lib.byteCells l ++ Lib.byteCells r := by simp [Lib.byteCells]
theorem bytes_len (l : List UInt8) : (Lib.byteCells l).length = l.length := by simp [Lib.byteCells]
theorem put_w (B : Nat) (l : List UInt8) (s : ByteArray) (w : World) (h : Bld B l w) (hlen : l.length + s.size ≤ 140737488355328) (hB : B ≤ w.heap.size) :
    Calls Tryd.prog 36 #[.pointer (some ⟨B, 0, none⟩), .string s] w fun e w' => e = .returned (.tuple #[.int .i64 s.size, .nilIface]) ∧ Bld B (l ++ s.data.toList) w' ∧ Below B w w' := by
  refine (Any.Builder_WriteString_k (P := Tryd.prog) (ρ := Tryd.lays156_ren) { Tryd.lays156 with } Tryd.Builder_Extra_156 B B (Lib.byteCells l) s w h (by rw [bytes_len]; exact hlen) hB).mono ?_
  rintro e w' ⟨rfl, h1, hb, _⟩
  refine ⟨rfl, ?_, hb⟩
  unfold Bld
  rw [bytes_app]
  exact .inr h1
theorem told_w (B : Nat) (l : List UInt8) (w : World) (h : Bld B l w) (hB : B ≤ w.heap.size) :
    Calls Tryd.prog 37 #[.pointer (some ⟨B, 0, none⟩)] w fun e w' => e = .returned (.string ⟨l.toArray⟩) ∧ Below B w w' := by
  refine (Tryd.Builder_String_any_k B B l w h hB).mono ?_
  rintro e w' ⟨rfl, _, hb, _⟩
  exact ⟨rfl, hb⟩
theorem textL_take {xs : List ByteArray} {k : Nat} {x : ByteArray} (h : xs[k]? = some x) : textL (D (xs.take (k + 1))) = textL (D (xs.take k)) ++ x.data.toList ++ [10] := by
  rw [List.take_add_one, h, D_app]; simp [D, piece.textL]
theorem textL_app (a b : List (List UInt8)) : piece.textL (a ++ b) = piece.textL a ++ piece.textL b := by simp [piece.textL]
theorem textL_le (l : List (List UInt8)) (k : Nat) : (piece.textL (l.take k)).length ≤ (piece.textL l).length := by
  have h := textL_app (l.take k) (l.drop k)
  rw [List.take_append_drop] at h
  rw [h, List.length_append]; omega
theorem D_take (xs : List ByteArray) (k : Nat) : D (xs.take k) = (D xs).take k := by simp [D, List.map_take]
theorem rd_cell {w : World} {A : Option Addr} {xs : List ByteArray} (h : Rd w A (S xs)) {k : Nat} {x : ByteArray} (hx : xs[k]? = some x) : ∃ a, A = some a ∧ a.block < w.heap.size ∧ w.cell? (a.add k) = some (.string x) := h.at_ (S_at hx)

set_option maxRecDepth 100000 in
set_option maxHeartbeats 800000 in
theorem feeds_w (A : Option Addr) (c : Nat) (xs : List ByteArray) (w : World) (hr : Rd w A (S xs)) (hl : (textL (D xs)).length ≤ 1048576) (hx : xs.length ≤ 1048576) :
    Calls Tryd.prog 27 #[.slice A xs.length c] w fun e w' => e = .returned (.string ⟨(textL (D xs)).toArray⟩) ∧ Below w.heap.size w w' := by
  have HL := Lib.hid hl
  have hxI : (xs.length : Int) ≤ 1048576 := by omega
  have HB0 := Lib.hid (show Bld w.heap.size [] (w.alloc (.cells #[.pointer none, .slice none 0 0] 63)) from Lib.IsBuilderF.of (Lib.fresh_isBuilder _ _ w))
  obtain ⟨n, hn⟩ : ∃ n, n = xs.length := ⟨_, rfl⟩
  rw [← hn] at hxI ⊢
  have HN := Lib.hid hn
  clear hl hx hn
  go_enter Tryd.func27, Tryd.ntmps27
  go_wp2
  go_loopw [8] (fun i wr => ∃ k : Nat, i = .int .i64 (k : Int) ∧ k ≤ n ∧ Bld w.heap.size (textL (D (xs.take k))) wr ∧ Below w.heap.size w wr) (fun i _ => n - (intOf i).toNat)
  case atStart => exact ⟨0, rfl, Nat.zero_le _, HB0.out, (Below.refl _ _).alloc (Nat.le_refl _) _⟩
  case round =>
    obtain ⟨k, rfl, hk, hbl, hb⟩ := hrel
    have HBL := Lib.hid hbl; have HB := Lib.hid hb
    have hsz := hb.size
    clear hbl
    by_cases hlt : k < n
    · have hltI : (k : Int) < (n : Int) := by omega
      obtain ⟨x, hx⟩ : ∃ x, xs[k]? = some x := ⟨xs[k]'(by rw [← HN.out]; exact hlt), List.getElem?_eq_getElem _⟩
      obtain ⟨a, rfl, _, hcell⟩ := rd_cell (hr.below hb) hx
      have ht := textL_take hx
      have hlen := textL_le (D xs) (k + 1)
      rw [← D_take, ht] at hlen
      have HT := Lib.hid ht
      simp only [List.length_append] at hlen
      have hxs : x.data.toList.length = x.size := size_list x
      have HLEN := Lib.hid hlen
      have hL := HL.out
      have HW := Lib.hid (put_w w.heap.size _ x wr HBL.out (by omega) hsz)
      clear ht hlen hx hr hb
      go_wp2_with fail
      refine HW.out.mono ?_
      rintro e w1 ⟨rfl, hbl1, hb1⟩
      have HBL1 := Lib.hid hbl1
      have HB1 := Lib.hid (HB.out.trans hb1)
      have hsz1 := HB1.out.size
      clear hb1 hbl1 HW hcell
      have HW2 := Lib.hid (put_w w.heap.size _ ⟨#[10]⟩ w1 HBL1.out (by have := HLEN.out; simp only [List.length_append]; show _ + 1 ≤ _; omega) hsz1)
      go_wp2_with fail
      refine HW2.out.mono ?_
      rintro e w2 ⟨rfl, hbl2, hb2⟩
      have HBL2 := Lib.hid hbl2
      have HB2 := Lib.hid (HB1.out.trans hb2)
      clear hb2 hbl2 HW2 hxs hL
      go_wp2
      go_roundw
      case rel => exact ⟨k + 1, by go_num, by omega, by rw [HT.out]; exact HBL2.out, HB2.out⟩
      case measure => simp [intOf]; omega
    · have hltI : ¬ (k : Int) < (n : Int) := by omega
      have HT := Lib.hid (show textL (D (xs.take k)) = textL (D xs) by rw [List.take_of_length_le (by rw [← HN.out]; omega)])
      have HW := Lib.hid (told_w w.heap.size _ wr HBL.out hsz)
      clear hr hb
      go_wp2_with fail
      refine HW.out.mono ?_
      rintro e w1 ⟨rfl, hb1⟩
      have HB1 := Lib.hid (HB.out.trans hb1)
      rw [HT.out]
      clear HW hb1
      go_wp2
      go_ret
      exact ⟨rfl, HB1.out⟩

end Go.Proofs.YtcaaljioennnnabDoor.word

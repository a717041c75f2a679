/-
  The walk of the theorem TopSealed: numbers that are joined, sealed, opened and split are as they were.
-/
import Derived.Test.YtnadjcmfmbjnnaaDoorLive2
import Derived.Test.YtnadjcmfmbjnnaaDoorSame
import Derived.Test.YtnadjcmfmbjnnaaDoorLists
namespace Go.Proofs.YtnadjcmfmbjnnaaDoor.topSealed
open Go.RowKit
open Go.Proofs.YtnadjcmfmbjnnaaDoor.num Go.Proofs.YtnadjcmfmbjnnaaDoor.words Go.Proofs.YtnadjcmfmbjnnaaDoor.sealing

set_option maxRecDepth 20000 in
set_option maxHeartbeats 800000 in
theorem sealed_any (A : Option Addr) (n c : Nat) (l : List Nat) (w : World) (ht : crc.Tab w) (hr : Rd w A (U l)) (hl : l.length = n) (hn : n ≤ 1048576) (hnum : ∀ x ∈ l, x < 18446744073709551616) :
    Calls Tryd.prog 21 #[.slice A n c] w fun e w' => e = .returned (.bool true) ∧ Below w.heap.size w w' := by
  have hjl := lists.joinL_len l hnum
  rw [hl] at hjl
  have hjb := lists.joinL_byte l
  have J := lists.join_any A n c l w hr hl hn hnum
  have S := fun X cx w h1 h2 => seal_any X (joinL l).length cx (joinL l) w h1 h2 rfl (by omega) hjb
  have O := fun X cx w h1 h2 hx => open_any X (sealL (joinL l)).length cx (sealL (joinL l)) w h1 h2 rfl hx (by rw [sealL_len]; omega) (sealL_byte hjb)
  rw [open_seal] at O
  have P := fun X cx w h2 hx => lists.split_any X (joinL l).length cx (joinL l) w h2 rfl hx (by omega) hjb
  rw [split_join l hnum] at P
  have J := Lib.hid J; have S := Lib.hid S; have O := Lib.hid O; have P := Lib.hid P
  have HL := Lib.hid hl; have HN := Lib.hid hn
  clear hl hn hnum hjl hjb
  go_enter Tryd.func21, Tryd.ntmps21
  go_wp2_with fail
  refine J.out.mono ?_
  rintro e w1 ⟨v1, rfl, hown1, hb1⟩
  obtain ⟨A1, c1, rfl, _, _, hrd1⟩ := own_rd hown1
  have ht1 := ht.below hb1
  have hr1 := hr.below hb1
  clear hown1 ht hr
  go_wp2_with fail
  refine (S.out A1 c1 _ ht1 hrd1).mono ?_
  rintro e w2 ⟨v2, rfl, hown2, hb2⟩
  obtain ⟨A2, c2, rfl, hc2, _, hrd2⟩ := own_rd hown2
  have ht2 := ht1.below hb2
  have hr2 := hr1.below hb2
  have hbb := then' hb1 hb2
  clear hown2 hrd1 ht1 hr1 hb1 hb2
  go_wp2_with fail
  refine (O.out A2 c2 _ ht2 hrd2 hc2).mono ?_
  rintro e w3 ⟨v3, rfl, hown3, hb3⟩
  obtain ⟨A3, c3, rfl, hc3, _, hrd3⟩ := own_rd hown3
  have hr3 := hr2.below hb3
  have hbc := then' hbb hb3
  clear hown3 hrd2 ht2 hr2 hbb hb3 hc2
  simp only at hrd3 hc3 ⊢
  go_wp2_with fail
  refine (P.out A3 c3 _ hrd3 hc3).mono ?_
  rintro e w4 ⟨v4, rfl, hown4, hb4⟩
  obtain ⟨A4, c4, rfl, _, _, hrd4⟩ := own_rd hown4
  have hr4 := hr3.below hb4
  have hbd := then' hbc hb4
  clear hown4 hrd3 hr3 hbc hb4 hc3
  simp only at hrd4 ⊢
  rw [HL.out]
  go_wp2_with fail
  refine (same.nums_same A4 A n c4 c l _ hrd4 hr4 HL.out (by have := HN.out; omega)).mono ?_
  rintro e w6 ⟨rfl, q6, rfl⟩
  go_wp2
  go_ret
  exact ⟨rfl, over hbd⟩

set_option maxRecDepth 20000 in
set_option maxHeartbeats 800000 in
theorem walk (A : Option Addr) (n c : Nat) (l : List Nat) (w : World) (hr : Rd w A (U l)) (hl : l.length = n) (_ : n ≤ c) (hnum : ∀ x ∈ l, x < 18446744073709551616) (_ : n * 8 ≤ 140737488351232) (hsum : n ≤ 1048576) (ht : crc.Tab w) :
    Calls Tryd.prog 8 #[.slice A n c] w fun e w' => e = .returned (.bool true) ∧ Below w.heap.size w w' := by
  have S := fun w h1 h2 => sealed_any A n c l w h1 h2 hl hsum hnum
  have S := Lib.hid S
  clear hl hnum
  go_enter Tryd.func8, Tryd.ntmps8
  go_wp2_with fail
  have ba : Below w.heap.size w (w.alloc (Obj.cells #[Value.int IntKind.u64 300, Value.int IntKind.u64 0] 43)) := (Below.refl _ _).alloc (Nat.le_refl _) _
  refine (sealed_any (some ⟨w.heap.size, 0, none⟩) 2 2 [300, 0] _ (ht.below ba) (rd_blk (heap_alloc_new w _) (k := 2) rfl) rfl (by omega) (by decide)).mono ?_
  rintro e w1 ⟨rfl, hb1⟩
  have hbb := then_ ba (Nat.le_refl _) hb1
  have ht1 := ht.below hbb
  have hr1 := hr.below hbb
  clear ba hb1 ht hr
  go_wp2_with fail
  refine (S.out _ ht1 hr1).mono ?_
  rintro e w2 ⟨rfl, hb2⟩
  go_wp2
  go_ret
  exact ⟨rfl, then_ hbb (Nat.le_refl _) hb2⟩
end Go.Proofs.YtnadjcmfmbjnnaaDoor.topSealed

/-
  What the laws of layer 3 ask first, whatever is asked: the function 'live' answers true, and nothing that was there changes.
-/
import Derived.Test.YtbapalgikfllkaaDoorWriteR
namespace Go.Proofs.YtbapalgikfllkaaDoor.live3
open Go.RowKit
open Go.Proofs.YtbapalgikfllkaaDoor.num Go.Proofs.YtbapalgikfllkaaDoor.words Go.Proofs.YtbapalgikfllkaaDoor.rdnum Go.Proofs.YtbapalgikfllkaaDoor.rdr Go.Proofs.YtbapalgikfllkaaDoor.give Go.Proofs.YtbapalgikfllkaaDoor.reading Go.Proofs.YtbapalgikfllkaaDoor.meth Go.Proofs.YtbapalgikfllkaaDoor.sealing Go.Proofs.YtbapalgikfllkaaDoor.write

theorem t1 : textT [2, 97, 98] 0 = ⟨[97, 98], 3, 0, 0⟩ := by simp [textT, numT, lebT, takeAt, takeGo, bytesT]
theorem t2 : endT [2, 97, 98] 3 = ⟨1, 3, 0, 0⟩ := by simp [endT]
theorem t3 : sectT [7] 0 8 = ⟨(0, 0), 0, 1, 0⟩ := by simp [sectT, byteT]

set_option maxRecDepth 100000 in
set_option maxHeartbeats 800000 in
theorem live_any (w : World) (tab : crc.Tab w) : Calls Tryd.prog 15 #[] w fun e w' => e = .returned (.bool true) ∧ Below w.heap.size w w' := by
  have HB1 := Lib.hid (show Below w.heap.size w (w.alloc (Obj.cells #[Value.int IntKind.u8 2, Value.int IntKind.u8 97, Value.int IntKind.u8 98] 5)) from (Below.refl _ _).alloc (Nat.le_refl _) _)
  have HTab := Lib.hid tab
  clear tab
  go_enter Tryd.func15, Tryd.ntmps15
  go_wp2_with fail
  refine (open_w (some ⟨w.heap.size, 0, none⟩) 3 3 [2, 97, 98] _ (rd_blk (heap_alloc_new w _) (k := 3) rfl) rfl (by omega) (by decide)).mono ?_
  rintro e w1 ⟨g1, rfl, hg1, hr1, hb1⟩
  have HB := Lib.hid (then_ HB1.out (Nat.le_refl _) hb1)
  have HR1 := Lib.hid hr1
  have hg1' : w.heap.size ≤ g1 := Nat.le_trans HB1.out.size hg1
  clear hg1 hr1 hb1 HB1
  go_wp2_with fail
  have k2 := text_m g1 _ w1 HR1.out
  dsimp only at k2
  rw [t1] at k2
  refine k2.mono ?_
  rintro e w2 ⟨rfl, hr2, hb2⟩
  rw [show S ((Rs.mk [2, 97, 98] 0 0 0).ans (Rr.mk [97, 98] 3 0 0) []) = .string ⟨#[97, 98]⟩ from rfl]
  rw [show (Rs.mk [2, 97, 98] 0 0 0).go (Rr.mk [97, 98] 3 0 0) = Rs.mk [2, 97, 98] 3 0 0 from rfl] at hr2
  have HB2 := Lib.hid (HB.out.trans (hb2.below hg1' HB.out.size))
  have HR2 := Lib.hid hr2
  clear k2 hr2 hb2 HB HR1
  go_wp2_with fail
  have hb3 : Below w.heap.size w (w2.alloc (Obj.cells #[Value.int IntKind.u8 7] 5)) := HB2.out.alloc HB2.out.size _
  have HB3 := Lib.hid hb3
  have HR2' := Lib.hid (HR2.out.below ((Below.refl _ _).alloc (Nat.le_refl _) (Obj.cells #[Value.int IntKind.u8 7] 5)))
  refine (open_w (some ⟨w2.heap.size, 0, none⟩) 1 1 [7] _ (rd_blk (heap_alloc_new w2 _) (k := 1) rfl) rfl (by omega) (by decide)).mono ?_
  rintro e w3 ⟨g3, rfl, hg3, hr3, hb4⟩
  have hne : g1 ≠ g3 := by have := HR2'.out.lt; omega
  have HNE := Lib.hid hne
  have HB4 := Lib.hid (then_ HB3.out (Nat.le_refl _) hb4)
  have HR3 := Lib.hid hr3
  have HR23 := Lib.hid (HR2'.out.below hb4)
  have hg3' : w.heap.size ≤ g3 := Nat.le_trans HB3.out.size hg3
  clear hg3 hr3 hb3 hb4 HB3 HB2 HR2 HR2' hne
  go_wp2_with fail
  have k4 := sect_m g3 _ 8 w3 (HTab.out.below HB4.out) HR3.out
  dsimp only at k4
  rw [t3] at k4
  refine k4.mono ?_
  rintro e w4 ⟨hx, hr4, hb5⟩
  have HB5 := Lib.hid (HB4.out.trans (hb5.below hg3' HB4.out.size))
  have HR4 := Lib.hid hr4
  have HR24 := Lib.hid (HR23.out.kept hb5 HNE.out HR3.out.no)
  obtain ⟨_, rfl⟩ : _ ∧ e = .returned (.pointer none) := by
    rcases hx with ⟨_, h, _⟩ | h
    · cases h
    · exact h
  clear k4 hr4 hb5 HB4 HR3 HR23 hx
  go_wp2_with fail
  have k5 := end_m g1 _ w4 HR24.out
  dsimp only at k5
  rw [t2] at k5
  refine k5.mono ?_
  rintro e w5 ⟨rfl, hr5, hb6⟩
  rw [show (fun x : Nat => Value.bool (x == 1)) ((Rs.mk [2, 97, 98] 3 0 0).ans (Rr.mk 1 3 0 0) 0) = .bool true from rfl]
  have HB6 := Lib.hid (HB5.out.trans (hb6.below hg1' HB5.out.size))
  have HR45 := Lib.hid (HR4.out.kept hb6 HNE.out.symm HR24.out.no)
  clear k5 hr5 hb6 HB5 HR24 HR4
  go_wp2_with fail
  refine (fault_m g3 _ w5 HR45.out).mono ?_
  rintro e w6 ⟨rfl, hb7⟩
  have HB7 := Lib.hid (then_ HB6.out (Nat.le_refl _) hb7)
  rw [show fv ((Rs.mk [7] 0 0 0).go (Rr.mk ((0 : Nat), (0 : Nat)) 0 1 0)) = .agg #[.int .i64 1, .int .i64 0] from rfl]
  clear hb7 HB6 HR45
  go_wp2_with fail
  refine (fault_nil w6).mono ?_
  rintro e w7 ⟨rfl, hb8⟩
  have HB8 := Lib.hid (then_ HB7.out (Nat.le_refl _) hb8)
  clear hb8 HB7
  go_wp2_with fail
  refine (sect_w 1 none 0 0 [] w7 (HTab.out.below HB8.out) (Rd.nil _ _) rfl (by omega) (by simp)).mono ?_
  rintro e w8 ⟨v8, rfl, hown8, hb9⟩
  have HB9 := Lib.hid (then_ HB8.out (Nat.le_refl _) hb9)
  obtain ⟨A8, c8, rfl, hc8, _, _⟩ := own_rd hown8
  have hl6 : (sectL 1 []).length = 6 := by unfold sectL; rw [List.length_cons, List.length_append, sealL_len, List.length_nil, putL_lt (by omega)]; rfl
  rw [hl6]
  clear hown8 hb9 HB8 hl6
  go_wp2
  go_ret
  exact ⟨rfl, HB9.out⟩
end Go.Proofs.YtbapalgikfllkaaDoor.live3

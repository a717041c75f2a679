/-
  Layer 6, the document's answers: the type of a text, and a descriptor of any types.
-/
import Derived.Test.YtchhibicbgimcaaDoorKindO
import Derived.Test.YtchhibicbgimcaaDoorKindG
namespace Go.Proofs.YtchhibicbgimcaaDoor.kind
open Go.RowKit
open Go.Proofs.YtchhibicbgimcaaDoor.words Go.Proofs.YtchhibicbgimcaaDoor.kindp Go.Proofs.YtchhibicbgimcaaDoor.word Go.Proofs.YtchhibicbgimcaaDoor.rdr

theorem next_some_w {s : ByteArray} {at_ : Nat} {t : Ty} {r : Tx} (w : World) (hs : s.size ≤ 281474976710656) (hat : at_ ≤ s.size) (h : typeT (s.data.toList.drop at_) = some (t, r)) :
    ∃ to : Nat, to ≤ s.size ∧ at_ < to ∧ r = s.data.toList.drop to ∧ Calls Tryd.prog 35 #[.string s, .int .i64 (at_ : Int)] w fun e w' => e = .returned (.tuple #[.agg #[.int .i64 t.1, .string ⟨t.2.toArray⟩], .int .i64 (to : Int), .bool true]) ∧ Below w.heap.size w w' := by
  have hr := (type_less h)
  refine ⟨s.size - r.length, by omega, ?_, ?_, (next_r s at_ w hs hat).mono ?_⟩
  · rw [List.length_drop, size_data] at hr; omega
  · obtain ⟨_, e⟩ := type_of h
    have e2 : s.data.toList = s.data.toList.take at_ ++ (textT t ++ r) := by rw [← e, List.take_append_drop]
    have hl : s.size = at_ + ((textT t).length + r.length) := by
      have := congrArg List.length e2
      rw [List.length_append, List.length_append, List.length_take, size_data] at this; omega
    conv => rhs; rw [e2]
    rw [← List.append_assoc, List.drop_append, List.drop_of_length_le (by rw [List.length_append, List.length_take, size_data]; omega), List.nil_append, List.length_append, List.length_take, size_data, show s.size - r.length - (min at_ s.size + (textT t).length) = 0 by omega, List.drop_zero]
  · intro e w' hh
    unfold Next at hh
    rw [h] at hh
    obtain ⟨⟨to, h1, h2, h3, h4⟩, hb⟩ := hh
    have hto : to = s.size - r.length := by rw [h3, List.length_drop, size_data] ; rw [size_data] at h1; omega
    exact ⟨by rw [h4, hto]; rfl, hb⟩
theorem next_none_w {s : ByteArray} {at_ : Nat} (w : World) (hs : s.size ≤ 281474976710656) (hat : at_ ≤ s.size) (h : typeT (s.data.toList.drop at_) = none) :
    Calls Tryd.prog 35 #[.string s, .int .i64 (at_ : Int)] w fun e w' => (∃ (k : Int) (c : Tx) (m : Nat), e = .returned (.tuple #[.agg #[.int .i64 k, .string ⟨c.toArray⟩], .int .i64 (m : Int), .bool false])) ∧ Below w.heap.size w w' := by
  refine (next_r s at_ w hs hat).mono ?_
  intro e w' hh
  unfold Next at hh
  rw [h] at hh
  obtain ⟨⟨t, m, h4⟩, hb⟩ := hh
  exact ⟨⟨t.1, t.2, m, h4⟩, hb⟩

set_option maxRecDepth 100000 in
set_option maxHeartbeats 1600000 in
theorem parse_r (s : ByteArray) (w : World) (hs : s.size ≤ 281474976710656) :
    Calls Tryd.prog 10 #[.string s] w fun e w' => e = .returned (parseV s.data.toList) ∧ Below w.heap.size w w' := by
  have hal : Below w.heap.size w (w.alloc (.cells #[.int .i64 0, .string ⟨#[]⟩] 24)) := (Below.refl _ _).alloc (Nat.le_refl _) _
  have HAL := Lib.hid hal
  have HNW := Lib.hid (heap_alloc_new w (.cells #[.int .i64 0, .string ⟨#[]⟩] 24))
  have hsI : (s.size : Int) ≤ 281474976710656 := by omega
  have ec : ((0 : Nat) : Int) = 0 := rfl
  cases h : typeT (s.data.toList.drop 0) with
  | none =>
    have hk := (fun w => next_none_w w hs (Nat.zero_le _) h)
    rw [ec] at hk
    have HK := Lib.hid hk
    have HP := Lib.hid (show parseV s.data.toList = .tuple #[.agg #[.int .i64 0, .string ⟨#[]⟩], .int .i64 1] by rw [List.drop_zero] at h; unfold parseV parseT allT; rw [h]; rfl)
    clear hk h hs hal ec
    go_enter Tryd.func10, Tryd.ntmps10
    go_wp2_with fail
    refine (HK.out _).mono ?_
    rintro e w1 ⟨⟨k, c, m, rfl⟩, hb1⟩
    have hce := (hb1.block _ (by simp)).trans HNW.out
    have hlt := blk_lt hce
    obtain ⟨z0, z1⟩ := two_alloc hce (.int .i64 0) (.string ⟨#[]⟩) (.cells #[.int .i64 k, .string ⟨c.toArray⟩] 24)
    have c0 : w1.cell? ⟨w.heap.size, 0, none⟩ = some (.int .i64 0) := cell_of_row _ _ _ _ _ _ hce
    have c1 : w1.cell? ⟨w.heap.size, 1, none⟩ = some (.string ⟨#[]⟩) := cell_of_row _ _ _ _ _ _ hce
    have f0 := frozen_of_row w1 _ 0 _ _ hce
    have f1 := frozen_of_row w1 _ 1 _ _ hce
    have HB := Lib.hid (HAL.out.trans (hb1.mono (by simp)))
    clear hb1 hce
    go_wp2
    exact bodyPost_ret (v := .tuple #[.agg #[.int .i64 0, .string ⟨#[]⟩], .int .i64 1]) (by simp [results, Tryd.results10, go_sem, z0, z1]) rfl ⟨by rw [HP.out], ((HB.out.setCell (by simp) _).setCell (by simp) _).alloc (by simp; omega) _⟩
  | some tr =>
    obtain ⟨⟨k, c⟩, r⟩ := tr
    have hk := (fun w => next_some_w w hs (Nat.zero_le _) h)
    obtain ⟨to, h1, h2, h3, -⟩ := hk w
    have hk2 : ∀ w, Calls Tryd.prog 35 #[.string s, .int .i64 0] w fun e w' => e = .returned (.tuple #[.agg #[.int .i64 k, .string ⟨c.toArray⟩], .int .i64 (to : Int), .bool true]) ∧ Below w.heap.size w w' := by
      intro w
      obtain ⟨to', h1', h2', h3', hc⟩ := hk w
      have : to' = to := by
        have e := congrArg List.length (h3.symm.trans h3')
        rw [List.length_drop, List.length_drop, size_data] at e; omega
      rw [this, ec] at hc; exact hc
    have HK := Lib.hid hk2
    have hrl : r.length = s.size - to := by rw [h3, List.length_drop, size_data]
    rw [List.drop_zero] at h
    cases r with
    | nil =>
      have hto : ((to : Int) != (s.size : Int)) = false := by simp at hrl ⊢; omega
      have HP := Lib.hid (show parseV s.data.toList = .tuple #[.agg #[.int .i64 k, .string ⟨c.toArray⟩], .int .i64 0] by unfold parseV parseT allT; rw [h]; rfl)
      clear hk hk2 h h1 h2 h3 hs hal ec hrl
      go_enter Tryd.func10, Tryd.ntmps10
      go_wp2_with fail
      refine (HK.out _).mono ?_
      rintro e w1 ⟨rfl, hb1⟩
      have hce := (hb1.block _ (by simp)).trans HNW.out
      have hlt := blk_lt hce
      obtain ⟨z0, z1⟩ := two_alloc hce (.int .i64 k) (.string ⟨c.toArray⟩) (.cells #[.int .i64 k, .string ⟨c.toArray⟩] 24)
      have c0 : w1.cell? ⟨w.heap.size, 0, none⟩ = some (.int .i64 0) := cell_of_row _ _ _ _ _ _ hce
      have c1 : w1.cell? ⟨w.heap.size, 1, none⟩ = some (.string ⟨#[]⟩) := cell_of_row _ _ _ _ _ _ hce
      have f0 := frozen_of_row w1 _ 0 _ _ hce
      have f1 := frozen_of_row w1 _ 1 _ _ hce
      have HB := Lib.hid (HAL.out.trans (hb1.mono (by simp)))
      clear hb1 hce
      go_wp2
      exact bodyPost_ret (v := .tuple #[.agg #[.int .i64 k, .string ⟨c.toArray⟩], .int .i64 0]) (by simp [results, Tryd.results10, go_sem, z0, z1]) rfl ⟨by rw [HP.out], ((HB.out.setCell (by simp) _).setCell (by simp) _).alloc (by simp; omega) _⟩
    | cons x r =>
      have hto : ((to : Int) != (s.size : Int)) = true := by simp at hrl ⊢; omega
      have HP := Lib.hid (show parseV s.data.toList = .tuple #[.agg #[.int .i64 0, .string ⟨#[]⟩], .int .i64 1] by unfold parseV parseT allT; rw [h]; rfl)
      clear hk hk2 h h1 h2 h3 hs hal ec hrl
      go_enter Tryd.func10, Tryd.ntmps10
      go_wp2_with fail
      refine (HK.out _).mono ?_
      rintro e w1 ⟨rfl, hb1⟩
      have hce := (hb1.block _ (by simp)).trans HNW.out
      have hlt := blk_lt hce
      obtain ⟨z0, z1⟩ := two_alloc hce (.int .i64 0) (.string ⟨#[]⟩) (.cells #[.int .i64 k, .string ⟨c.toArray⟩] 24)
      have c0 : w1.cell? ⟨w.heap.size, 0, none⟩ = some (.int .i64 0) := cell_of_row _ _ _ _ _ _ hce
      have c1 : w1.cell? ⟨w.heap.size, 1, none⟩ = some (.string ⟨#[]⟩) := cell_of_row _ _ _ _ _ _ hce
      have f0 := frozen_of_row w1 _ 0 _ _ hce
      have f1 := frozen_of_row w1 _ 1 _ _ hce
      have HB := Lib.hid (HAL.out.trans (hb1.mono (by simp)))
      clear hb1 hce
      go_wp2
      exact bodyPost_ret (v := .tuple #[.agg #[.int .i64 0, .string ⟨#[]⟩], .int .i64 1]) (by simp [results, Tryd.results10, go_sem, z0, z1]) rfl ⟨by rw [HP.out], ((HB.out.setCell (by simp) _).setCell (by simp) _).alloc (by simp; omega) _⟩
end Go.Proofs.YtchhibicbgimcaaDoor.kind

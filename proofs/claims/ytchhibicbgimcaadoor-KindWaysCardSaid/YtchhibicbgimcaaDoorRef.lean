/-
  Layer 6, the document's answers: texts, descriptors, renamings, and the types of a descriptor.
-/
import Derived.Test.YtchhibicbgimcaaDoorKindN
import Derived.Test.YtchhibicbgimcaaDoorKindG
import Derived.Deep.QuietTactic
import Derived.BigQuiet
/- Layer 6, the document's small answers: whether a type can be, of what sort it is, its text, and the type of a text. -/
namespace Go.Proofs.YtchhibicbgimcaaDoor.kind
open Go.RowKit
open Go.Proofs.YtchhibicbgimcaaDoor.words Go.Proofs.YtchhibicbgimcaaDoor.kindp Go.Proofs.YtchhibicbgimcaaDoor.word

theorem cls_rr (c : Tx) (w : World) (hc : c.length ≤ 281474976710656) :
    Calls Tryd.prog 39 #[.string ⟨c.toArray⟩] w fun e w' => e = .returned (.bool (clsB c)) ∧ w' = w := by
  have h := class_r ⟨c.toArray⟩ w (by rw [mk_len]; exact hc)
  rw [cls_eq] at h
  exact h

set_option maxRecDepth 100000 in
set_option maxHeartbeats 800000 in
theorem right_r (k : Int) (c : Tx) (w : World) (hc : c.length ≤ 281474976710656) :
    Calls Tryd.prog 12 #[.agg #[.int .i64 k, .string ⟨c.toArray⟩]] w fun e w' => e = .returned (.bool (rightT (k, c))) ∧ Below w.heap.size w w' := by
  have HC := Lib.hid (fun w => cls_rr c w hc)
  have HAL := Lib.hid ((Below.refl w.heap.size w).alloc (Nat.le_refl _) (.cells #[.int .i64 k, .string ⟨c.toArray⟩] 24))
  rcases kinds k with rfl | rfl | rfl | rfl | rfl | ⟨e1, e2, e3, e4, e5, -, e6⟩
  · by_cases h0 : c = []
    · subst h0
      rw [show rightT (1, []) = true from rfl]
      go_enter Tryd.func12, Tryd.ntmps12
      go_wp2
      go_ret
      exact ⟨rfl, HAL.out⟩
    · rw [show rightT (1, c) = false by rw [right_no (by rfl)]; simp [h0]]
      have hie : List.isEmpty c = false := by
        cases c with
        | nil => exact absurd rfl h0
        | cons => rfl
      go_enter Tryd.func12, Tryd.ntmps12
      go_wp2
      go_ret
      exact ⟨rfl, HAL.out⟩
  · by_cases h0 : c = []
    · subst h0
      rw [show rightT (2, []) = true from rfl]
      go_enter Tryd.func12, Tryd.ntmps12
      go_wp2
      go_ret
      exact ⟨rfl, HAL.out⟩
    · rw [show rightT (2, c) = false by rw [right_no (by rfl)]; simp [h0]]
      have hie : List.isEmpty c = false := by
        cases c with
        | nil => exact absurd rfl h0
        | cons => rfl
      go_enter Tryd.func12, Tryd.ntmps12
      go_wp2
      go_ret
      exact ⟨rfl, HAL.out⟩
  · rw [show rightT (3, c) = clsB c from right_has rfl]
    clear hc
    go_enter Tryd.func12, Tryd.ntmps12
    go_wp2_with fail
    refine (HC.out _).mono ?_
    rintro e w1 ⟨rfl, rfl⟩
    go_wp2
    go_ret
    exact ⟨rfl, HAL.out⟩
  · by_cases h0 : c = []
    · subst h0
      rw [show rightT (4, []) = true from rfl]
      go_enter Tryd.func12, Tryd.ntmps12
      go_wp2
      go_ret
      exact ⟨rfl, HAL.out⟩
    · rw [show rightT (4, c) = false by rw [right_no (by rfl)]; simp [h0]]
      have hie : List.isEmpty c = false := by
        cases c with
        | nil => exact absurd rfl h0
        | cons => rfl
      go_enter Tryd.func12, Tryd.ntmps12
      go_wp2
      go_ret
      exact ⟨rfl, HAL.out⟩
  · rw [show rightT (5, c) = clsB c from right_has rfl]
    clear hc
    go_enter Tryd.func12, Tryd.ntmps12
    go_wp2_with fail
    refine (HC.out _).mono ?_
    rintro e w1 ⟨rfl, rfl⟩
    go_wp2
    go_ret
    exact ⟨rfl, HAL.out⟩
  · have n1 : ¬ k = 1 := by simpa using e1
    have n2 : ¬ k = 2 := by simpa using e2
    have n4 : ¬ k = 4 := by simpa using e4
    rw [show rightT (k, c) = false by rw [right_no e6]; simp [n1, n2, n4]]
    clear hc n1 n2 n4 e6
    go_enter Tryd.func12, Tryd.ntmps12
    go_wp2
    go_ret
    exact ⟨rfl, HAL.out⟩

set_option maxRecDepth 100000 in
set_option maxHeartbeats 800000 in
theorem text_rr (k : Int) (c : Tx) (w : World) (hc : c.length ≤ 281474976710656) :
    Calls Tryd.prog 18 #[.agg #[.int .i64 k, .string ⟨c.toArray⟩]] w fun e w' => e = .returned (.string ⟨(textT (k, c)).toArray⟩) ∧ Below w.heap.size w w' := by
  have hR := (fun w => right_r k c w hc)
  have HAL := Lib.hid ((Below.refl w.heap.size w).alloc (Nat.le_refl _) (.cells #[.int .i64 k, .string ⟨c.toArray⟩] 24))
  have HNW := Lib.hid (heap_alloc_new w (.cells #[.int .i64 k, .string ⟨c.toArray⟩] 24))
  cases hr : rightT (k, c) with
  | false =>
    rw [hr] at hR
    have HR := Lib.hid hR
    rw [text_bad hr]
    clear hr hc hR
    go_enter Tryd.func18, Tryd.ntmps18
    go_wp2_with fail
    refine (HR.out _).mono ?_
    rintro e w1 ⟨rfl, hb1⟩
    have HB := Lib.hid (HAL.out.trans (hb1.mono (by simp)))
    clear hb1
    go_wp2
    go_ret
    exact ⟨rfl, HB.out⟩
  | true =>
    rw [hr] at hR
    have HR := Lib.hid hR
    rcases right_cases hr with h | h | h | ⟨c2, h, hcl⟩ | ⟨c2, h, hcl⟩
    · cases h
      rw [show textT (1, []) = [86] from rfl]
      clear hr hc hR
      go_enter Tryd.func18, Tryd.ntmps18
      go_wp2_with fail
      refine (HR.out _).mono ?_
      rintro e w1 ⟨rfl, hb1⟩
      have c0 := (hb1.cell (p := ⟨w.heap.size, 0, none⟩) (by simp)).trans (show _ = some (.int .i64 1) by rw [cell_of_row _ _ _ _ _ _ HNW.out]; rfl)
      have HB := Lib.hid (HAL.out.trans (hb1.mono (by simp)))
      clear hb1
      go_wp2
      go_ret
      exact ⟨rfl, HB.out⟩
    · cases h
      rw [show textT (2, []) = [73] from rfl]
      clear hr hc hR
      go_enter Tryd.func18, Tryd.ntmps18
      go_wp2_with fail
      refine (HR.out _).mono ?_
      rintro e w1 ⟨rfl, hb1⟩
      have c0 := (hb1.cell (p := ⟨w.heap.size, 0, none⟩) (by simp)).trans (show _ = some (.int .i64 2) by rw [cell_of_row _ _ _ _ _ _ HNW.out]; rfl)
      have HB := Lib.hid (HAL.out.trans (hb1.mono (by simp)))
      clear hb1
      go_wp2
      go_ret
      exact ⟨rfl, HB.out⟩
    · cases h
      rw [show textT (4, []) = [91, 73] from rfl]
      clear hr hc hR
      go_enter Tryd.func18, Tryd.ntmps18
      go_wp2_with fail
      refine (HR.out _).mono ?_
      rintro e w1 ⟨rfl, hb1⟩
      have c0 := (hb1.cell (p := ⟨w.heap.size, 0, none⟩) (by simp)).trans (show _ = some (.int .i64 4) by rw [cell_of_row _ _ _ _ _ _ HNW.out]; rfl)
      have HB := Lib.hid (HAL.out.trans (hb1.mono (by simp)))
      clear hb1
      go_wp2
      go_ret
      exact ⟨rfl, HB.out⟩
    · cases h
      have h32 := (cls_no hcl).2.2
      have HE := Lib.hid (show (⟨#[76]⟩ : ByteArray) ++ ⟨c.toArray⟩ ++ ⟨#[59]⟩ = ⟨(textT (3, c)).toArray⟩ by rw [text3 hcl, show (⟨#[76]⟩ : ByteArray) = ⟨([76] : Tx).toArray⟩ from rfl, app_mk]; exact app_mk ([76] ++ c) [59])
      have hz1 : ¬ 9223372036854775807 < 1 + c.length := by omega
      have hz2 : ¬ 9223372036854775807 < 1 + c.length + 1 := by omega
      clear hr hc hR hcl h32
      go_enter Tryd.func18, Tryd.ntmps18
      go_wp2_with fail
      refine (HR.out _).mono ?_
      rintro e w1 ⟨rfl, hb1⟩
      have c0 := (hb1.cell (p := ⟨w.heap.size, 0, none⟩) (by simp)).trans (show _ = some (.int .i64 3) by rw [cell_of_row _ _ _ _ _ _ HNW.out]; rfl)
      have c1 := (hb1.cell (p := ⟨w.heap.size, 1, none⟩) (by simp)).trans (show _ = some (.string ⟨c.toArray⟩) by rw [cell_of_row _ _ _ _ _ _ HNW.out]; rfl)
      have HB := Lib.hid (HAL.out.trans (hb1.mono (by simp)))
      clear hb1
      go_wp2
      go_ret
      exact ⟨congrArg (fun z => Ending.returned (Value.string z)) HE.out, HB.out⟩
    · cases h
      have h32 := (cls_no hcl).2.2
      have HE := Lib.hid (show (⟨#[91, 76]⟩ : ByteArray) ++ ⟨c.toArray⟩ ++ ⟨#[59]⟩ = ⟨(textT (5, c)).toArray⟩ by rw [text5 hcl, show (⟨#[91, 76]⟩ : ByteArray) = ⟨([91, 76] : Tx).toArray⟩ from rfl, app_mk]; exact app_mk ([91, 76] ++ c) [59])
      have hz1 : ¬ 9223372036854775807 < 2 + c.length := by omega
      have hz2 : ¬ 9223372036854775807 < 2 + c.length + 1 := by omega
      clear hr hc hR hcl h32
      go_enter Tryd.func18, Tryd.ntmps18
      go_wp2_with fail
      refine (HR.out _).mono ?_
      rintro e w1 ⟨rfl, hb1⟩
      have c0 := (hb1.cell (p := ⟨w.heap.size, 0, none⟩) (by simp)).trans (show _ = some (.int .i64 5) by rw [cell_of_row _ _ _ _ _ _ HNW.out]; rfl)
      have c1 := (hb1.cell (p := ⟨w.heap.size, 1, none⟩) (by simp)).trans (show _ = some (.string ⟨c.toArray⟩) by rw [cell_of_row _ _ _ _ _ _ HNW.out]; rfl)
      have HB := Lib.hid (HAL.out.trans (hb1.mono (by simp)))
      clear hb1
      go_wp2
      go_ret
      exact ⟨congrArg (fun z => Ending.returned (Value.string z)) HE.out, HB.out⟩

set_option maxRecDepth 100000 in
set_option maxHeartbeats 800000 in
theorem isref_r (k : Int) (c : Tx) (w : World) :
    Calls Tryd.prog 14 #[.agg #[.int .i64 k, .string ⟨c.toArray⟩]] w fun e w' => e = .returned (.bool (hasB k || (k == 4))) ∧ Below w.heap.size w w' := by
  have HAL := Lib.hid ((Below.refl w.heap.size w).alloc (Nat.le_refl _) (.cells #[.int .i64 k, .string ⟨c.toArray⟩] 24))
  rcases kinds k with rfl | rfl | rfl | rfl | rfl | ⟨e1, e2, e3, e4, e5, -, e6⟩
  · go_enter Tryd.func14, Tryd.ntmps14
    go_wp2
    go_ret
    exact ⟨rfl, HAL.out⟩
  · go_enter Tryd.func14, Tryd.ntmps14
    go_wp2
    go_ret
    exact ⟨rfl, HAL.out⟩
  · go_enter Tryd.func14, Tryd.ntmps14
    go_wp2
    go_ret
    exact ⟨rfl, HAL.out⟩
  · go_enter Tryd.func14, Tryd.ntmps14
    go_wp2
    go_ret
    exact ⟨rfl, HAL.out⟩
  · go_enter Tryd.func14, Tryd.ntmps14
    go_wp2
    go_ret
    exact ⟨rfl, HAL.out⟩
  · rw [e6, e4, Bool.false_or]
    clear e6
    go_enter Tryd.func14, Tryd.ntmps14
    go_wp2
    go_ret
    exact ⟨rfl, HAL.out⟩
set_option maxRecDepth 100000 in
set_option maxHeartbeats 800000 in
theorem elem_r (k : Int) (c : Tx) (w : World) :
    Calls Tryd.prog 16 #[.agg #[.int .i64 k, .string ⟨c.toArray⟩]] w fun e w' => e = .returned (tyV (elemT (k, c))) ∧ Below w.heap.size w w' := by
  unfold elemT tyV
  dsimp only
  by_cases h4 : k = 4
  · subst h4
    rw [if_pos rfl]
    go_enter Tryd.func16, Tryd.ntmps16
    go_wp2
    exact bodyPost_ret (v := .agg #[.int .i64 2, .string ⟨#[]⟩]) (by simp [results, Tryd.results16, go_sem]) rfl ⟨rfl, by repeat (first | exact Below.refl _ _ | refine Below.setCell ?_ (by simp) _ | refine Below.alloc ?_ (by simp) _)⟩
  · rw [if_neg h4]
    have e4 : (k == 4) = false := by simpa using h4
    by_cases h5 : k = 5
    · subst h5
      rw [if_pos rfl]
      clear h4 e4
      go_enter Tryd.func16, Tryd.ntmps16
      go_wp2
      exact bodyPost_ret (v := .agg #[.int .i64 3, .string ⟨c.toArray⟩]) (by simp [results, Tryd.results16, go_sem]) rfl ⟨rfl, by repeat (first | exact Below.refl _ _ | refine Below.setCell ?_ (by simp) _ | refine Below.alloc ?_ (by simp) _)⟩
    · rw [if_neg h5]
      have e5 : (k == 5) = false := by simpa using h5
      clear h4 h5
      go_enter Tryd.func16, Tryd.ntmps16
      go_wp2
      exact bodyPost_ret (v := .agg #[.int .i64 0, .string ⟨#[]⟩]) (by simp [results, Tryd.results16, go_sem]) rfl ⟨rfl, by repeat (first | exact Below.refl _ _ | refine Below.setCell ?_ (by simp) _ | refine Below.alloc ?_ (by simp) _)⟩

end Go.Proofs.YtchhibicbgimcaaDoor.kind

/- Layer 6, the document's answers: the type of a text, and a descriptor of any types. -/
namespace Go.Proofs.YtchhibicbgimcaaDoor.kind
open Go.RowKit
open Go.Proofs.YtchhibicbgimcaaDoor.words Go.Proofs.YtchhibicbgimcaaDoor.kindp Go.Proofs.YtchhibicbgimcaaDoor.word Go.Proofs.YtchhibicbgimcaaDoor.rdr

theorem next_some_w {s : ByteArray} {at_ : Nat} {t : Ty} {r : Tx} (w : World) (hs : s.size ≤ 281474976710656) (hat : at_ ≤ s.size) (h : typeT (s.data.toList.drop at_) = some (t, r)) :
    ∃ to : Nat, to ≤ s.size ∧ at_ < to ∧ r = s.data.toList.drop to ∧ Calls Tryd.prog 35 #[.string s, .int .i64 (at_ : Int)] w fun e w' => e = .returned (.tuple #[.agg #[.int .i64 t.1, .string ⟨t.2.toArray⟩], .int .i64 (to : Int), .bool true]) ∧ Below w.heap.size w w' := by
  have hr := (type_less h)
  refine ⟨s.size - r.length, by omega, ?_, ?_, (next_r s at_ w hs hat).mono ?_⟩
  · rw [List.length_drop, size_data] at hr; omega
  · obtain ⟨_, e⟩ := type_of h
    have e2 : s.data.toList = s.data.toList.take at_ ++ (textT t ++ r) := by rw [← e, List.take_append_drop]
    have hl : s.size = at_ + ((textT t).length + r.length) := by
      have := congrArg List.length e2
      rw [List.length_append, List.length_append, List.length_take, size_data] at this; omega
    conv => rhs; rw [e2]
    rw [← List.append_assoc, List.drop_append, List.drop_of_length_le (by rw [List.length_append, List.length_take, size_data]; omega), List.nil_append, List.length_append, List.length_take, size_data, show s.size - r.length - (min at_ s.size + (textT t).length) = 0 by omega, List.drop_zero]
  · intro e w' hh
    unfold Next at hh
    rw [h] at hh
    obtain ⟨⟨to, h1, h2, h3, h4⟩, hb⟩ := hh
    have hto : to = s.size - r.length := by rw [h3, List.length_drop, size_data] ; rw [size_data] at h1; omega
    exact ⟨by rw [h4, hto]; rfl, hb⟩
theorem next_none_w {s : ByteArray} {at_ : Nat} (w : World) (hs : s.size ≤ 281474976710656) (hat : at_ ≤ s.size) (h : typeT (s.data.toList.drop at_) = none) :
    Calls Tryd.prog 35 #[.string s, .int .i64 (at_ : Int)] w fun e w' => (∃ (k : Int) (c : Tx) (m : Nat), e = .returned (.tuple #[.agg #[.int .i64 k, .string ⟨c.toArray⟩], .int .i64 (m : Int), .bool false])) ∧ Below w.heap.size w w' := by
  refine (next_r s at_ w hs hat).mono ?_
  intro e w' hh
  unfold Next at hh
  rw [h] at hh
  obtain ⟨⟨t, m, h4⟩, hb⟩ := hh
  exact ⟨⟨t.1, t.2, m, h4⟩, hb⟩

set_option maxRecDepth 100000 in
set_option maxHeartbeats 1600000 in
theorem parse_r (s : ByteArray) (w : World) (hs : s.size ≤ 281474976710656) :
    Calls Tryd.prog 10 #[.string s] w fun e w' => e = .returned (parseV s.data.toList) ∧ Below w.heap.size w w' := by
  have hal : Below w.heap.size w (w.alloc (.cells #[.int .i64 0, .string ⟨#[]⟩] 24)) := (Below.refl _ _).alloc (Nat.le_refl _) _
  have HAL := Lib.hid hal
  have HNW := Lib.hid (heap_alloc_new w (.cells #[.int .i64 0, .string ⟨#[]⟩] 24))
  have hsI : (s.size : Int) ≤ 281474976710656 := by omega
  have ec : ((0 : Nat) : Int) = 0 := rfl
  cases h : typeT (s.data.toList.drop 0) with
  | none =>
    have hk := (fun w => next_none_w w hs (Nat.zero_le _) h)
    rw [ec] at hk
    have HK := Lib.hid hk
    have HP := Lib.hid (show parseV s.data.toList = .tuple #[.agg #[.int .i64 0, .string ⟨#[]⟩], .int .i64 1] by rw [List.drop_zero] at h; unfold parseV parseT allT; rw [h]; rfl)
    clear hk h hs hal ec
    go_enter Tryd.func10, Tryd.ntmps10
    go_wp2_with fail
    refine (HK.out _).mono ?_
    rintro e w1 ⟨⟨k, c, m, rfl⟩, hb1⟩
    have hce := (hb1.block _ (by simp)).trans HNW.out
    have hlt := blk_lt hce
    obtain ⟨z0, z1⟩ := two_alloc hce (.int .i64 0) (.string ⟨#[]⟩) (.cells #[.int .i64 k, .string ⟨c.toArray⟩] 24)
    have c0 : w1.cell? ⟨w.heap.size, 0, none⟩ = some (.int .i64 0) := cell_of_row _ _ _ _ _ _ hce
    have c1 : w1.cell? ⟨w.heap.size, 1, none⟩ = some (.string ⟨#[]⟩) := cell_of_row _ _ _ _ _ _ hce
    have f0 := frozen_of_row w1 _ 0 _ _ hce
    have f1 := frozen_of_row w1 _ 1 _ _ hce
    have HB := Lib.hid (HAL.out.trans (hb1.mono (by simp)))
    clear hb1 hce
    go_wp2
    exact bodyPost_ret (v := .tuple #[.agg #[.int .i64 0, .string ⟨#[]⟩], .int .i64 1]) (by simp [results, Tryd.results10, go_sem, z0, z1]) rfl ⟨by rw [HP.out], ((HB.out.setCell (by simp) _).setCell (by simp) _).alloc (by simp; omega) _⟩
  | some tr =>
    obtain ⟨⟨k, c⟩, r⟩ := tr
    have hk := (fun w => next_some_w w hs (Nat.zero_le _) h)
    obtain ⟨to, h1, h2, h3, -⟩ := hk w
    have hk2 : ∀ w, Calls Tryd.prog 35 #[.string s, .int .i64 0] w fun e w' => e = .returned (.tuple #[.agg #[.int .i64 k, .string ⟨c.toArray⟩], .int .i64 (to : Int), .bool true]) ∧ Below w.heap.size w w' := by
      intro w
      obtain ⟨to', h1', h2', h3', hc⟩ := hk w
      have : to' = to := by
        have e := congrArg List.length (h3.symm.trans h3')
        rw [List.length_drop, List.length_drop, size_data] at e; omega
      rw [this, ec] at hc; exact hc
    have HK := Lib.hid hk2
    have hrl : r.length = s.size - to := by rw [h3, List.length_drop, size_data]
    rw [List.drop_zero] at h
    cases r with
    | nil =>
      have hto : ((to : Int) != (s.size : Int)) = false := by simp at hrl ⊢; omega
      have HP := Lib.hid (show parseV s.data.toList = .tuple #[.agg #[.int .i64 k, .string ⟨c.toArray⟩], .int .i64 0] by unfold parseV parseT allT; rw [h]; rfl)
      clear hk hk2 h h1 h2 h3 hs hal ec hrl
      go_enter Tryd.func10, Tryd.ntmps10
      go_wp2_with fail
      refine (HK.out _).mono ?_
      rintro e w1 ⟨rfl, hb1⟩
      have hce := (hb1.block _ (by simp)).trans HNW.out
      have hlt := blk_lt hce
      obtain ⟨z0, z1⟩ := two_alloc hce (.int .i64 k) (.string ⟨c.toArray⟩) (.cells #[.int .i64 k, .string ⟨c.toArray⟩] 24)
      have c0 : w1.cell? ⟨w.heap.size, 0, none⟩ = some (.int .i64 0) := cell_of_row _ _ _ _ _ _ hce
      have c1 : w1.cell? ⟨w.heap.size, 1, none⟩ = some (.string ⟨#[]⟩) := cell_of_row _ _ _ _ _ _ hce
      have f0 := frozen_of_row w1 _ 0 _ _ hce
      have f1 := frozen_of_row w1 _ 1 _ _ hce
      have HB := Lib.hid (HAL.out.trans (hb1.mono (by simp)))
      clear hb1 hce
      go_wp2
      exact bodyPost_ret (v := .tuple #[.agg #[.int .i64 k, .string ⟨c.toArray⟩], .int .i64 0]) (by simp [results, Tryd.results10, go_sem, z0, z1]) rfl ⟨by rw [HP.out], ((HB.out.setCell (by simp) _).setCell (by simp) _).alloc (by simp; omega) _⟩
    | cons x r =>
      have hto : ((to : Int) != (s.size : Int)) = true := by simp at hrl ⊢; omega
      have HP := Lib.hid (show parseV s.data.toList = .tuple #[.agg #[.int .i64 0, .string ⟨#[]⟩], .int .i64 1] by unfold parseV parseT allT; rw [h]; rfl)
      clear hk hk2 h h1 h2 h3 hs hal ec hrl
      go_enter Tryd.func10, Tryd.ntmps10
      go_wp2_with fail
      refine (HK.out _).mono ?_
      rintro e w1 ⟨rfl, hb1⟩
      have hce := (hb1.block _ (by simp)).trans HNW.out
      have hlt := blk_lt hce
      obtain ⟨z0, z1⟩ := two_alloc hce (.int .i64 0) (.string ⟨#[]⟩) (.cells #[.int .i64 k, .string ⟨c.toArray⟩] 24)
      have c0 : w1.cell? ⟨w.heap.size, 0, none⟩ = some (.int .i64 0) := cell_of_row _ _ _ _ _ _ hce
      have c1 : w1.cell? ⟨w.heap.size, 1, none⟩ = some (.string ⟨#[]⟩) := cell_of_row _ _ _ _ _ _ hce
      have f0 := frozen_of_row w1 _ 0 _ _ hce
      have f1 := frozen_of_row w1 _ 1 _ _ hce
      have HB := Lib.hid (HAL.out.trans (hb1.mono (by simp)))
      clear hb1 hce
      go_wp2
      exact bodyPost_ret (v := .tuple #[.agg #[.int .i64 0, .string ⟨#[]⟩], .int .i64 1]) (by simp [results, Tryd.results10, go_sem, z0, z1]) rfl ⟨by rw [HP.out], ((HB.out.setCell (by simp) _).setCell (by simp) _).alloc (by simp; omega) _⟩
end Go.Proofs.YtchhibicbgimcaaDoor.kind

/- Layer 6, the document's answers: a type with another class's name, and a descriptor of any types. -/
namespace Go.Proofs.YtchhibicbgimcaaDoor.kind
open Go.RowKit
open Go.Proofs.YtchhibicbgimcaaDoor.words Go.Proofs.YtchhibicbgimcaaDoor.kindp Go.Proofs.YtchhibicbgimcaaDoor.word Go.Proofs.YtchhibicbgimcaaDoor.rdr

set_option maxRecDepth 100000 in
set_option maxHeartbeats 1600000 in
theorem ren_r (k : Int) (c : Tx) (A : Option Addr) (cc : Nat) (l : List Pr) (w : World) (hr : Rd w A (PL l)) (hl : l.length ≤ 281474976710656) :
    Calls Tryd.prog 28 #[.agg #[.int .i64 k, .string ⟨c.toArray⟩], .slice A l.length cc] w (RenW (renT l (k, c)) w) := by
  have hal : Below w.heap.size w ((w.alloc (.cells #[.int .i64 k, .string ⟨c.toArray⟩] 24)).alloc (.cells #[.int .i64 0, .string ⟨#[]⟩] 24)) := ((Below.refl _ _).alloc (Nat.le_refl _) _).alloc (by simp) _
  have HAL := Lib.hid hal
  have hnw := two_new w (.cells #[.int .i64 k, .string ⟨c.toArray⟩] 24) (.cells #[.int .i64 0, .string ⟨#[]⟩] 24)
  have HNW := Lib.hid hnw
  obtain ⟨n, hn⟩ : ∃ n, n = l.length := ⟨_, rfl⟩
  rw [← hn] at hl ⊢
  have HN := Lib.hid hn; have HR := Lib.hid (hr.below hal)
  have hnI : (n : Int) ≤ 281474976710656 := by omega
  cases hb : hasB k with
  | false =>
    have HD := Lib.hid (show renT l (k, c) = (k, c) by unfold renT; rw [if_neg (by rw [hb]; simp)])
    have e3 : (k == 3) = false := by
      cases h : k == 3 with
      | false => rfl
      | true => have : k = 3 := by simpa using h
                rw [this] at hb; cases hb
    have e5 : (k == 5) = false := by
      cases h : k == 5 with
      | false => rfl
      | true => have : k = 5 := by simpa using h
                rw [this] at hb; cases hb
    clear hb hn hl hr hal hnw
    go_enter Tryd.func28, Tryd.ntmps28
    go_wp2
    go_loopw [5] (fun i wr => ∃ j : Nat, i = .int .i64 (j : Int) ∧ j ≤ n ∧ wr = (w.alloc (.cells #[.int .i64 k, .string ⟨c.toArray⟩] 24)).alloc (.cells #[.int .i64 0, .string ⟨#[]⟩] 24)) (fun i _ => n - (intOf i).toNat)
    case atStart => exact ⟨0, rfl, Nat.zero_le _, rfl⟩
    case round =>
      obtain ⟨j, rfl, hj, rfl⟩ := hrel
      obtain ⟨z0, z1, -⟩ := two_set HNW.out.2 (.int .i64 k) (.string ⟨c.toArray⟩)
      by_cases hlt : j < n
      · have hltI : (j : Int) < (n : Int) := by omega
        go_wp2
        exact bodyPost_ret (v := .agg #[.int .i64 k, .string ⟨c.toArray⟩]) (by simp [results, Tryd.results28, go_sem]) rfl ⟨by rw [HD.out], by repeat (first | exact Below.refl _ _ | refine Below.setCell ?_ (by simp) _ | refine Below.alloc ?_ (by simp) _)⟩
      · have hltI : ¬ (j : Int) < (n : Int) := by omega
        go_wp2
        exact bodyPost_ret (v := .agg #[.int .i64 k, .string ⟨c.toArray⟩]) (by simp [results, Tryd.results28, go_sem]) rfl ⟨by rw [HD.out], by repeat (first | exact Below.refl _ _ | refine Below.setCell ?_ (by simp) _ | refine Below.alloc ?_ (by simp) _)⟩
  | true =>
    have hk : k = 3 ∨ k = 5 := by unfold hasB at hb; simpa using hb
    have HRT := Lib.hid (show renT l (k, c) = match lookT l c with | some m => (k, m) | none => (k, c) by unfold renT; rw [if_pos hb]; rfl)
    obtain ⟨W, hW⟩ : ∃ W, W = (w.alloc (.cells #[.int .i64 k, .string ⟨c.toArray⟩] 24)).alloc (.cells #[.int .i64 0, .string ⟨#[]⟩] 24) := ⟨_, rfl⟩
    have c00 : W.cell? ⟨w.heap.size, 0, none⟩ = some (.int .i64 k) := by rw [hW]; exact cell_of_row _ _ _ _ _ _ hnw.1
    have c01 : W.cell? ⟨w.heap.size, 1, none⟩ = some (.string ⟨c.toArray⟩) := by rw [hW]; exact cell_of_row _ _ _ _ _ _ hnw.1
    have hg1 : W.heap[w.heap.size + 1]? = some (.cells #[.int .i64 0, .string ⟨#[]⟩] 24 (0, 0)) := by rw [hW]; exact hnw.2
    have c10 : W.cell? ⟨w.heap.size + 1, 0, none⟩ = some (.int .i64 0) := cell_of_row _ _ _ _ _ _ hg1
    have c11 : W.cell? ⟨w.heap.size + 1, 1, none⟩ = some (.string ⟨#[]⟩) := cell_of_row _ _ _ _ _ _ hg1
    have f10 := frozen_of_row W _ 0 _ _ hg1
    have f11 := frozen_of_row W _ 1 _ _ hg1
    have HG1 := Lib.hid hg1
    rw [← hW] at HAL HR
    have HW := Lib.hid hW
    clear hb hn hl hr hal hnw hg1 hW
    go_enter Tryd.func28, Tryd.ntmps28
    go_wp2
    rw [← HW.out]
    go_loopw [5] (fun i wr => ∃ (j q : Nat), i = .int .i64 (j : Int) ∧ j ≤ n ∧ (∀ y ∈ l.take j, olds c y = false) ∧ wr = W.drewN q) (fun i _ => n - (intOf i).toNat)
    case atStart => exact ⟨0, 0, rfl, Nat.zero_le _, by simp, rfl⟩
    case round =>
      obtain ⟨j, q, rfl, hj, hall, rfl⟩ := hrel
      have HA := Lib.hid hall
      clear hall
      by_cases hlt : j < n
      · have hltI : (j : Int) < (n : Int) := by omega
        obtain ⟨⟨qo, qn⟩, hx⟩ : ∃ x, l[j]? = some x := ⟨l[j]'(by rw [← HN.out]; exact hlt), List.getElem?_eq_getElem _⟩
        obtain ⟨a, rfl, ha, p0, p1⟩ := pl_cell HR.out hx
        dsimp only at p0 p1
        by_cases hc : c = qo
        · have hq : (c == qo) = true := by simpa using hc
          have HD := Lib.hid (show renT l (k, c) = (k, qn) by
            rw [HRT.out]
            have hl := find_idx (P := olds c) hx (by unfold olds; exact decide_eq_true hc.symm) HA.out
            have : lookT l c = some qn := by unfold lookT; rw [show (fun q : Pr => decide (q.1 = c)) = olds c from rfl, hl]; rfl
            rw [this])
          have HZ := Lib.hid (fun r => two_set (w := W.drewN r) HG1.out (.int .i64 k) (.string ⟨qn.toArray⟩))
          clear hx ha hc
          rcases hk with rfl | rfl
          · go_wp2
            go_quiet (fail)
            go_wp2
            go_region
            obtain ⟨z0, z1, -⟩ := HZ.out (q + nq + 1)
            go_wp2
            exact bodyPost_ret (v := .agg #[.int .i64 3, .string ⟨qn.toArray⟩]) (by simp [results, Tryd.results28, go_sem, z0, z1]) rfl ⟨by rw [HD.out], ((over HAL.out).setCell (by simp) _).setCell (by simp) _⟩
          · go_wp2
            go_quiet (fail)
            go_wp2
            go_region
            obtain ⟨z0, z1, -⟩ := HZ.out (q + nq + 1)
            go_wp2
            exact bodyPost_ret (v := .agg #[.int .i64 5, .string ⟨qn.toArray⟩]) (by simp [results, Tryd.results28, go_sem, z0, z1]) rfl ⟨by rw [HD.out], ((over HAL.out).setCell (by simp) _).setCell (by simp) _⟩
        · have hq : (c == qo) = false := by simpa using hc
          have HMT := Lib.hid (take_more HA.out hx (by unfold olds; exact decide_eq_false (fun e => hc e.symm)))
          clear hx ha hc
          rcases hk with rfl | rfl
          · go_wp2
            go_quiet (fail)
            go_wp2
            go_roundw
            case rel => exact ⟨j + 1, q + nq, by go_num, by omega, HMT.out, by simp⟩
            case measure => simp [intOf]; omega
          · go_wp2
            go_quiet (fail)
            go_wp2
            go_roundw
            case rel => exact ⟨j + 1, q + nq, by go_num, by omega, HMT.out, by simp⟩
            case measure => simp [intOf]; omega
      · have hltI : ¬ (j : Int) < (n : Int) := by omega
        have hall := HA.out
        rw [List.take_of_length_le (by rw [← HN.out]; omega)] at hall
        have HD := Lib.hid (show renT l (k, c) = (k, c) by
          rw [HRT.out]
          have : lookT l c = none := by unfold lookT; rw [List.find?_eq_none.2 (fun x hx => by have := hall x hx; unfold olds at this; rw [this]; simp)]; rfl
          rw [this])
        obtain ⟨z0, z1, -⟩ := two_set (w := W.drewN q) HG1.out (.int .i64 k) (.string ⟨c.toArray⟩)
        have HZ0 := Lib.hid z0; have HZ1 := Lib.hid z1
        clear hall z0 z1
        rcases hk with rfl | rfl
        · go_wp2
          exact bodyPost_ret (v := .agg #[.int .i64 3, .string ⟨c.toArray⟩]) (by simp [results, Tryd.results28, go_sem, HZ0.out, HZ1.out]) rfl ⟨by rw [HD.out], ((over HAL.out).setCell (by simp) _).setCell (by simp) _⟩
        · go_wp2
          exact bodyPost_ret (v := .agg #[.int .i64 5, .string ⟨c.toArray⟩]) (by simp [results, Tryd.results28, go_sem, HZ0.out, HZ1.out]) rfl ⟨by rw [HD.out], ((over HAL.out).setCell (by simp) _).setCell (by simp) _⟩
end Go.Proofs.YtchhibicbgimcaaDoor.kind

/- Layer 6, the document's answer: a descriptor of any types. -/
namespace Go.Proofs.YtchhibicbgimcaaDoor.kind
open Go.RowKit
open Go.Proofs.YtchhibicbgimcaaDoor.words Go.Proofs.YtchhibicbgimcaaDoor.kindp Go.Proofs.YtchhibicbgimcaaDoor.word Go.Proofs.YtchhibicbgimcaaDoor.rdr

theorem wrong_eq (k : Int) (c : Tx) : wrongT (k, c) = (!rightT (k, c) || (k == 1)) := by
  unfold wrongT
  cases hr : rightT (k, c) with
  | false => simp
  | true =>
    simp only [Bool.not_true, Bool.or_false, Bool.false_or]
    by_cases h : k = 1
    · subst h
      rw [right_no rfl] at hr
      have := (of_decide_eq_true hr).2
      subst this; rfl
    · have : ((k == 1) : Bool) = false := by simpa using h
      rw [this]; simp [h]
theorem min_step {p : List Ty} {j : Nat} {t : Ty} (h : p[j]? = some t) (hj : j ≤ 8) : bodyT (p.take (min (j + 1) 9)) = bodyT (p.take (min j 9)) ++ textT t := by
  rw [show min (j + 1) 9 = j + 1 by omega, show min j 9 = j by omega]; exact body_take h

set_option maxRecDepth 100000 in
set_option maxHeartbeats 4000000 in
theorem desc_r (k : Int) (c : Tx) (A : Option Addr) (cc : Nat) (p : List Ty) (w : World) (hc : c.length ≤ 281474976710656) (hr : Rd w A (TL p)) (hl : p.length ≤ 281474976710656) (hz : ∀ t ∈ p, t.2.length ≤ 281474976710656) :
    Calls Tryd.prog 22 #[.agg #[.int .i64 k, .string ⟨c.toArray⟩], .slice A p.length cc] w (DescW (descT (k, c) p) w) := by
  have hal : Below w.heap.size w (w.alloc (.cells #[.int .i64 k, .string ⟨c.toArray⟩] 24)) := (Below.refl _ _).alloc (Nat.le_refl _) _
  have HAL := Lib.hid hal
  have HNW := Lib.hid (heap_alloc_new w (.cells #[.int .i64 k, .string ⟨c.toArray⟩] 24))
  have hRT := (fun w => right_r k c w hc)
  have HTX := Lib.hid (fun w => text_rr k c w hc)
  obtain ⟨n, hn⟩ : ∃ n, n = p.length := ⟨_, rfl⟩
  rw [← hn] at hl ⊢
  have hnI : (n : Int) ≤ 281474976710656 := by omega
  have HN := Lib.hid hn; have HR := Lib.hid hr; have HZ := Lib.hid hz
  obtain ⟨br, hbr⟩ : ∃ b, b = rightT (k, c) := ⟨_, rfl⟩
  rw [← hbr] at hRT
  have HRT := Lib.hid hRT; have HBR := Lib.hid hbr
  clear hc hr hl hz hal hn hRT hbr
  go_enter Tryd.func22, Tryd.ntmps22
  go_wp2
  go_loopw [6, 7] (fun s i wr => ∃ j : Nat, s = .string ⟨([40] ++ bodyT (p.take (min j 9))).toArray⟩ ∧ i = .int .i64 (j : Int) ∧ j ≤ n ∧ (∀ y ∈ p.take j, wrongT y = false) ∧ wr.heap[w.heap.size]? = some (.cells #[.int .i64 k, .string ⟨c.toArray⟩] 24 (0, 0)) ∧ Below w.heap.size w wr) (fun _ i _ => n - (intOf i).toNat)
  case atStart => exact ⟨0, rfl, rfl, Nat.zero_le _, by simp, HNW.out, HAL.out⟩
  case round =>
    obtain ⟨j, rfl, rfl, hj, hall, hce, hbw⟩ := hrel
    have HB := Lib.hid hbw; have HA := Lib.hid hall; have HCE := Lib.hid hce
    have hsz := hbw.size
    have hbl := body_le (p.take (min j 9))
    rw [List.length_take] at hbl
    obtain ⟨S, hS⟩ : ∃ S, S = [40] ++ bodyT (p.take (min j 9)) := ⟨_, rfl⟩
    have hSl : S.length ≤ 400 := by rw [hS, List.length_append]; show 1 + _ ≤ _; omega
    have HSS := Lib.hid hS
    rw [← hS]
    clear hall hbl hS
    by_cases hlt : j < n
    · have hltI : (j : Int) < (n : Int) := by omega
      obtain ⟨⟨kd, cl⟩, hx⟩ : ∃ x, p[j]? = some x := ⟨p[j]'(by rw [← HN.out]; exact hlt), List.getElem?_eq_getElem _⟩
      have HX := Lib.hid hx
      obtain ⟨a, rfl, ha, c0, c1⟩ := tl_cell (HR.out.below hbw) hx
      dsimp only at c0 c1
      have hcl := HZ.out _ (List.mem_of_getElem? hx)
      have hRX := (fun w => right_r kd cl w hcl)
      have hwe := wrong_eq kd cl
      have hmt := take_more HA.out hx
      cases hrx : rightT (kd, cl) with
      | false =>
        rw [hrx] at hRX hwe
        have HD := Lib.hid (show descT (k, c) p = ([], 1) by
          unfold descT
          rw [if_pos (by rw [List.any_eq_true.2 ⟨_, List.mem_of_getElem? hx, by rw [hwe]; rfl⟩, Bool.or_true])])
        have HRX := Lib.hid hRX
        clear hx hce hbw hcl hRX hwe hmt hrx ha
        go_wp2_with fail
        refine (HRX.out _).mono ?_
        rintro e w4 ⟨rfl, hb4⟩
        have HB4 := Lib.hid (HB.out.trans (hb4.mono hsz))
        clear hb4
        go_wp2
        go_ret2
        rw [HD.out]
        exact ⟨rfl, HB4.out⟩
      | true =>
        rw [hrx] at hRX hwe
        have HRX := Lib.hid hRX
        by_cases hk1 : kd = 1
        · have HD := Lib.hid (show descT (k, c) p = ([], 1) by
            unfold descT
            rw [if_pos (by rw [List.any_eq_true.2 ⟨_, List.mem_of_getElem? hx, by rw [hwe, hk1]; rfl⟩, Bool.or_true])])
          have e1 : (kd == 1) = true := by simpa using hk1
          clear hx hce hbw hcl hRX hwe hmt hrx ha hk1
          go_wp2_with fail
          refine (HRX.out _).mono ?_
          rintro e w4 ⟨rfl, hb4⟩
          have d0 := (hb4.cell (World.block_lt_of_cell? _ _ c0)).trans c0
          have HB4 := Lib.hid (HB.out.trans (hb4.mono hsz))
          clear hb4
          go_wp2
          go_ret2
          rw [HD.out]
          exact ⟨rfl, HB4.out⟩
        · have e1 : (kd == 1) = false := by simpa using hk1
          have HM := Lib.hid (hmt (by rw [hwe, e1]; rfl))
          by_cases h8 : j ≤ 8
          · have h8I : (j : Int) ≤ 8 := by omega
            have htl := text_le (kd, cl)
            have hmn := min_step hx h8
            have HT := (fun w => text_rr kd cl w hcl)
            obtain ⟨T, hT⟩ : ∃ T, T = textT (kd, cl) := ⟨_, rfl⟩
            rw [← hT] at HT hmn htl
            have HTT := Lib.hid HT
            have HSE := Lib.hid (show (⟨S.toArray⟩ : ByteArray) ++ ⟨T.toArray⟩ = ⟨([40] ++ bodyT (p.take (min (j + 1) 9))).toArray⟩ by rw [app_mk, hmn, HSS.out, List.append_assoc])
            have hz1 : ¬ 9223372036854775807 < S.length + T.length := by omega
            clear hx hce hbw hcl hRX hwe hmt hrx ha hk1 HT hT hmn h8
            go_wp2_with fail
            refine (HRX.out _).mono ?_
            rintro e w4 ⟨rfl, hb4⟩
            have d0 := (hb4.cell (World.block_lt_of_cell? _ _ c0)).trans c0
            have d1 := (hb4.cell (World.block_lt_of_cell? _ _ c1)).trans c1
            have HB4 := Lib.hid (HB.out.trans (hb4.mono hsz))
            have HCE4 := Lib.hid ((hb4.block _ (blk_lt HCE.out)).trans HCE.out)
            clear hb4
            go_wp2_with fail
            refine (HTT.out _).mono ?_
            rintro e w5 ⟨rfl, hb5⟩
            have HB5 := Lib.hid (HB4.out.trans (hb5.mono HB4.out.size))
            have HCE5 := Lib.hid ((hb5.block _ (blk_lt HCE4.out)).trans HCE4.out)
            clear hb5 d0 d1
            go_wp2
            go_roundw
            case rel => exact ⟨j + 1, congrArg Value.string HSE.out, by go_num, by omega, HM.out, HCE5.out, HB5.out⟩
            case measure => simp [intOf]; omega
          · have h8I : ¬ (j : Int) ≤ 8 := by omega
            have HSE := Lib.hid (show S = [40] ++ bodyT (p.take (min (j + 1) 9)) by rw [HSS.out, show min (j + 1) 9 = 9 by omega, show min j 9 = 9 by omega])
            clear hx hce hbw hcl hRX hwe hmt hrx ha hk1 h8
            go_wp2_with fail
            refine (HRX.out _).mono ?_
            rintro e w4 ⟨rfl, hb4⟩
            have d0 := (hb4.cell (World.block_lt_of_cell? _ _ c0)).trans c0
            have HB4 := Lib.hid (HB.out.trans (hb4.mono hsz))
            have HCE4 := Lib.hid ((hb4.block _ (blk_lt HCE.out)).trans HCE.out)
            clear hb4
            go_wp2
            go_roundw
            case rel => exact ⟨j + 1, by rw [← HSE.out], by go_num, by omega, HM.out, HCE4.out, HB4.out⟩
            case measure => simp [intOf]; omega
    · have hltI : ¬ (j : Int) < (n : Int) := by omega
      obtain rfl : j = n := by omega
      have hall := HA.out
      rw [List.take_of_length_le (by rw [← HN.out]; omega)] at hall
      have hany := no_wrong hall
      have c0 : wr.cell? ⟨w.heap.size, 0, none⟩ = some (.int .i64 k) := cell_of_row _ _ _ _ _ _ hce
      have c1 : wr.cell? ⟨w.heap.size, 1, none⟩ = some (.string ⟨c.toArray⟩) := cell_of_row _ _ _ _ _ _ hce
      cases br with
      | false =>
        have HD := Lib.hid (show descT (k, c) p = ([], 1) by unfold descT; rw [← HBR.out]; rfl)
        clear hall hany hce hbw
        go_wp2_with fail
        refine (HRT.out _).mono ?_
        rintro e w4 ⟨rfl, hb4⟩
        have HB4 := Lib.hid (HB.out.trans (hb4.mono hsz))
        clear hb4
        go_wp2
        go_ret2
        rw [HD.out]
        exact ⟨rfl, HB4.out⟩
      | true =>
        have hD : descT (k, c) p = if 8 < p.length ∨ 64 < (wholeT (k, c) p).length then ([], 3) else (wholeT (k, c) p, 0) := by
          unfold descT; rw [← HBR.out, hany, if_neg (by simp)]
        rw [← HN.out] at hD
        have htl := text_le (k, c)
        obtain ⟨T, hT⟩ : ∃ T, T = textT (k, c) := ⟨_, rfl⟩
        rw [← hT] at HTX htl
        have hz1 : ¬ 9223372036854775807 < 1 + T.length := by omega
        have hz2 : ¬ 9223372036854775807 < S.length + (1 + T.length) := by omega
        by_cases h8 : 8 < j
        · have h8I : (8 : Int) < (j : Int) := by omega
          rw [if_pos (.inl h8)] at hD
          have HD := Lib.hid hD
          clear hall hany hce hbw hD hT h8
          go_wp2_with fail
          refine (HRT.out _).mono ?_
          rintro e w4 ⟨rfl, hb4⟩
          have d0 := (hb4.cell (World.block_lt_of_cell? _ _ c0)).trans c0
          have d1 := (hb4.cell (World.block_lt_of_cell? _ _ c1)).trans c1
          have HB4 := Lib.hid (HB.out.trans (hb4.mono hsz))
          clear hb4
          go_wp2_with fail
          refine (HTX.out _).mono ?_
          rintro e w5 ⟨rfl, hb5⟩
          have HB5 := Lib.hid (HB4.out.trans (hb5.mono HB4.out.size))
          clear hb5
          go_wp2
          go_ret2
          rw [HD.out]
          exact ⟨rfl, HB5.out⟩
        · have h8I : ¬ (8 : Int) < (j : Int) := by omega
          have hwh : wholeT (k, c) p = S ++ ([41] ++ T) := by
            unfold wholeT
            rw [HSS.out, hT, List.take_of_length_le (by rw [← HN.out]; omega)]; simp
          have hwl : (wholeT (k, c) p).length = S.length + (1 + T.length) := by rw [hwh, List.length_append, List.length_append]; rfl
          have HWH := Lib.hid (show (⟨S.toArray⟩ : ByteArray) ++ (⟨#[41]⟩ ++ ⟨T.toArray⟩) = ⟨(wholeT (k, c) p).toArray⟩ by rw [show (⟨#[41]⟩ : ByteArray) = ⟨([41] : Tx).toArray⟩ from rfl, app_mk, app_mk, hwh])
          rw [hwl] at hD
          by_cases h64 : 64 < S.length + (1 + T.length)
          · rw [if_pos (.inr h64)] at hD
            have HD := Lib.hid hD
            have h64I : (64 : Int) < (S.length : Int) + (1 + (T.length : Int)) := by omega
            clear hall hany hce hbw hD hT h8 hwh hwl h64
            go_wp2_with fail
            refine (HRT.out _).mono ?_
            rintro e w4 ⟨rfl, hb4⟩
            have d0 := (hb4.cell (World.block_lt_of_cell? _ _ c0)).trans c0
            have d1 := (hb4.cell (World.block_lt_of_cell? _ _ c1)).trans c1
            have HB4 := Lib.hid (HB.out.trans (hb4.mono hsz))
            clear hb4
            go_wp2_with fail
            refine (HTX.out _).mono ?_
            rintro e w5 ⟨rfl, hb5⟩
            have HB5 := Lib.hid (HB4.out.trans (hb5.mono HB4.out.size))
            clear hb5
            go_wp2
            go_ret2
            rw [HD.out]
            exact ⟨rfl, HB5.out⟩
          · rw [if_neg (by rintro (h | h) <;> omega)] at hD
            have HD := Lib.hid hD
            have h64I : ¬ (64 : Int) < (S.length : Int) + (1 + (T.length : Int)) := by omega
            clear hall hany hce hbw hD hT h8 hwh hwl h64
            go_wp2_with fail
            refine (HRT.out _).mono ?_
            rintro e w4 ⟨rfl, hb4⟩
            have d0 := (hb4.cell (World.block_lt_of_cell? _ _ c0)).trans c0
            have d1 := (hb4.cell (World.block_lt_of_cell? _ _ c1)).trans c1
            have HB4 := Lib.hid (HB.out.trans (hb4.mono hsz))
            clear hb4
            go_wp2_with fail
            refine (HTX.out _).mono ?_
            rintro e w5 ⟨rfl, hb5⟩
            have HB5 := Lib.hid (HB4.out.trans (hb5.mono HB4.out.size))
            clear hb5
            go_wp2
            go_ret2
            rw [HD.out]
            exact ⟨congrArg (fun z => Ending.returned (.tuple #[Value.string z, .int .i64 0])) HWH.out, HB5.out⟩
end Go.Proofs.YtchhibicbgimcaaDoor.kind

/- Layer 6, the document's answer: a descriptor's parameters, and its answer. -/
namespace Go.Proofs.YtchhibicbgimcaaDoor.kind
open Go.RowKit
open Go.Proofs.YtchhibicbgimcaaDoor.words Go.Proofs.YtchhibicbgimcaaDoor.kindp Go.Proofs.YtchhibicbgimcaaDoor.word Go.Proofs.YtchhibicbgimcaaDoor.rdr Go.Proofs.YtchhibicbgimcaaDoor.piece

theorem next_all {s : ByteArray} {at_ : Nat} {t : Ty} {r : Tx} (hs : s.size ≤ 281474976710656) (hat : at_ ≤ s.size) (h : typeT (s.data.toList.drop at_) = some (t, r)) :
    ∃ to : Nat, to ≤ s.size ∧ at_ < to ∧ r = s.data.toList.drop to ∧ ∀ w, Calls Tryd.prog 35 #[.string s, .int .i64 (at_ : Int)] w fun e w' => e = .returned (.tuple #[.agg #[.int .i64 t.1, .string ⟨t.2.toArray⟩], .int .i64 (to : Int), .bool true]) ∧ Below w.heap.size w w' := by
  have hr := type_less h
  rw [List.length_drop, size_data] at hr
  refine ⟨s.size - r.length, by omega, by omega, ?_, fun w => ?_⟩
  · obtain ⟨to, h1, h2, h3, -⟩ := next_some_w (default : World) hs hat h
    rw [h3, List.length_drop, size_data, show s.size - (s.size - to) = to by omega]
  · obtain ⟨to, h1, h2, h3, hc⟩ := next_some_w w hs hat h
    have : s.size - r.length = to := by rw [h3, List.length_drop, size_data]; omega
    rw [this]; exact hc
theorem ext_drop (s : ByteArray) (k : Nat) : (s.extract k s.size).data.toList = s.data.toList.drop k := by
  rw [ext_data, List.take_of_length_le (by rw [List.length_drop, size_data]; exact Nat.le_refl _)]
theorem sig_end {acc : List Ty} : sigT (([] : Tx).length + 1) acc [] = none := rfl
theorem split_one {d : Tx} (h : ¬ 64 < d.length) (hg : sigD d = none) : splitT d = ([], (0, []), 1) := by unfold splitT; rw [if_neg h, hg]
theorem split_some {d : Tx} {p : List Ty} {t : Ty} (h : ¬ 64 < d.length) (hg : sigD d = some (p, t)) : splitT d = if 8 < p.length then ([], (0, []), 3) else (p, t, 0) := by unfold splitT; rw [if_neg h, hg]
/-- what the loop holds -/
def SigR (G : Option (List Ty × Ty)) (L : Tx) (at_ : Nat) (acc : List Ty) : Prop := sigT ((L.drop at_).length + 1) acc (L.drop at_) = G ∧ at_ ≤ L.length ∧ acc.length ≤ at_

set_option maxRecDepth 100000 in
set_option maxHeartbeats 4000000 in
theorem split_r (s : ByteArray) (w : World) (hs : s.size ≤ 140737488355328) :
    Calls Tryd.prog 23 #[.string s] w (SplitW s.data.toList w) := by
  have hal : Below w.heap.size w (w.alloc (.cells #[.int .i64 0, .string ⟨#[]⟩] 24)) := (Below.refl _ _).alloc (Nat.le_refl _) _
  have HAL := Lib.hid hal
  have HNW := Lib.hid (heap_alloc_new w (.cells #[.int .i64 0, .string ⟨#[]⟩] 24))
  have hsI : (s.size : Int) ≤ 140737488355328 := by omega
  have hlen := size_data s
  obtain ⟨L, hL⟩ : ∃ L, L = s.data.toList := ⟨_, rfl⟩
  rw [← hL] at hlen ⊢
  by_cases h64 : 64 < s.size
  · have h64I : (64 : Int) < (s.size : Int) := by omega
    have HS := Lib.hid (show splitT L = ([], (0, []), 3) by unfold splitT; rw [if_pos (by omega)])
    clear hal hs h64 hlen hL
    go_enter Tryd.func23, Tryd.ntmps23
    go_wp2
    exact bodyPost_ret (v := .tuple #[.slice none 0 0, .agg #[.int .i64 0, .string ⟨#[]⟩], .int .i64 3]) (by simp [results, Tryd.results23, go_sem]) rfl (splitW_of HS.out none 0 rfl (World.ownsRow_nil _ _ _ _) HAL.out)
  have h64I : ¬ (64 : Int) < (s.size : Int) := by omega
  have h64L : ¬ 64 < L.length := by omega
  by_cases h0 : s.size = 0
  · have h0I : ((s.size : Int) == 0) = true := by rw [beq_iff_eq]; omega
    have HS := Lib.hid (split_one h64L (show sigD L = none by
      have : L = [] := List.eq_nil_of_length_eq_zero (by omega)
      rw [this]; rfl))
    clear hal hs h64 hlen hL h64L h0
    go_enter Tryd.func23, Tryd.ntmps23
    go_wp2
    exact bodyPost_ret (v := .tuple #[.slice none 0 0, .agg #[.int .i64 0, .string ⟨#[]⟩], .int .i64 1]) (by simp [results, Tryd.results23, go_sem]) rfl (splitW_of HS.out none 0 rfl (World.ownsRow_nil _ _ _ _) HAL.out)
  have h0I : ((s.size : Int) == 0) = false := by rw [beq_eq_false_iff_ne]; omega
  have hp0 : 0 < s.size := by omega
  have hpI : (0 : Int) < (s.size : Int) := by omega
  have hd0 := drop_data hp0
  rw [← hL, List.drop_zero] at hd0
  by_cases h40 : (s[0]'hp0).toNat = 40
  · have hb40 : (((s[0]'hp0).toNat : Int) != 40) = false := by rw [h40]; rfl
    have hG : SigR (sigD L) L 1 [] := by
      refine ⟨?_, by omega, Nat.zero_le _⟩
      unfold sigD
      rw [hd0, byte_nat h40]
      rw [if_pos (show ((UInt8.ofNat 40) :: List.drop (0 + 1) L).head? = some 40 from rfl), List.tail_cons]
      show sigT ((List.drop (0 + 1) L).length + 1) [] (List.drop (0 + 1) L) = _
      exact sig_fuel _ _ _ _ (by omega) (by simp; omega)
    have HSO := Lib.hid (fun (h : sigD L = none) => split_one h64L h)
    have HSS := Lib.hid (fun (p : List Ty) (t : Ty) (h : sigD L = some (p, t)) => split_some h64L h)
    obtain ⟨G, hGG⟩ : ∃ G, G = sigD L := ⟨_, rfl⟩
    rw [← hGG] at hG HSO HSS
    have HG := Lib.hid hG; have HLN := Lib.hid hlen; have HL := Lib.hid hL
    obtain ⟨i0, hi0, hz0, hz1, hz2⟩ := info_parts infoT
    have hszn : s.size ≤ 64 := by omega
    clear hG hGG hd0 h40 h0 h64 h64L hal hlen hL hs
    go_enter Tryd.func23, Tryd.ntmps23
    go_wp2
    go_loopw [5, 6] (fun v i wr => ∃ (j : Nat) (acc : List Ty), i = .int .i64 (j : Int) ∧ SigR G L j acc ∧ wr.heap[w.heap.size]? = some (.cells #[.int .i64 0, .string ⟨#[]⟩] 24 (0, 0)) ∧ wr.ownsRow (w.heap.size + 1) 24 2 v acc.length (TL acc) ∧ Below w.heap.size w wr) (fun _ i _ => s.size - (intOf i).toNat)
    case atStart => exact ⟨1, [], rfl, HG.out, HNW.out, World.ownsRow_nil _ _ _ _, HAL.out⟩
    case round =>
      obtain ⟨j, acc, rfl, hsig, hg3, hown, hbw⟩ := hrel
      obtain ⟨A, cc, rfl, _, _, _⟩ := own_rd hown
      have HG3 := Lib.hid hg3; have HO := Lib.hid hown; have HB := Lib.hid hbw
      obtain ⟨hsg, hjl, hacc⟩ := hsig
      rw [HLN.out] at hjl
      have hl3 := blk_lt hg3
      have hsz := hbw.size
      clear hown hbw
      by_cases hlt : j < s.size
      · have hltI : (j : Int) < (s.size : Int) := by omega
        have hltJ : ¬ (s.size : Int) ≤ (j : Int) := by omega
        have hdj := drop_data hlt
        rw [← HL.out] at hdj
        by_cases h41 : (s[j]'hlt).toNat = 41
        · have hb41 : (((s[j]'hlt).toNat : Int) != 41) = false := by rw [h41]; rfl
          rw [hdj, byte_nat h41] at hsg
          rw [show (UInt8.ofNat 41) = 41 from rfl, sig_done] at hsg
          have hP := (fun w => parse_r (s.extract (j + 1) s.size) w (by rw [← size_data, ext_drop, List.length_drop, size_data]; omega))
          rw [ext_drop, ← HL.out] at hP
          unfold parseV twoV tyV parseT at hP
          cases hall : allT (L.drop (j + 1)) with
          | none =>
            rw [hall] at hP hsg
            dsimp only at hP
            have HP := Lib.hid hP
            have HS := Lib.hid (HSO.out hsg.symm)
            clear hP hall hsg hdj h41 hg3
            go_wp2_with fail
            refine (HP.out _).mono ?_
            rintro e w1 ⟨rfl, hb1⟩
            have hg3 := (hb1.block _ hl3).trans HG3.out
            have HB1 := Lib.hid (HB.out.trans (hb1.mono hsz))
            have HG4 := Lib.hid hg3
            have c0 : w1.cell? ⟨w.heap.size, 0, none⟩ = some (.int .i64 0) := cell_of_row _ _ _ _ _ _ hg3
            have c1 : w1.cell? ⟨w.heap.size, 1, none⟩ = some (.string ⟨#[]⟩) := cell_of_row _ _ _ _ _ _ hg3
            have f0 := frozen_of_row w1 _ 0 _ _ hg3
            have f1 := frozen_of_row w1 _ 1 _ _ hg3
            have hlt1 := blk_lt hg3
            obtain ⟨z0, z1⟩ := two_alloc hg3 (.int .i64 0) (.string ⟨#[]⟩) (.cells #[.int .i64 0, .string ⟨#[]⟩] 24)
            clear hb1 hg3
            go_wp2
            exact bodyPost_ret (v := .tuple #[.slice none 0 0, .agg #[.int .i64 0, .string ⟨#[]⟩], .int .i64 1]) (by simp [results, Tryd.results23, go_sem, z0, z1]) rfl (splitW_of HS.out none 0 rfl (World.ownsRow_nil _ _ _ _) (((HB1.out.setCell (by simp) _).setCell (by simp) _).alloc (by simp; omega) _))
          | some t =>
            obtain ⟨k, c⟩ := t
            rw [hall] at hP hsg
            dsimp only at hP
            have HP := Lib.hid hP
            by_cases h8 : 8 < acc.length
            · have h8I : (8 : Int) < (acc.length : Int) := by omega
              have hsp := HSS.out _ _ hsg.symm
              rw [if_pos h8] at hsp
              have HS := Lib.hid hsp
              clear hP hall hsg hdj h41 hg3 hsp h8
              go_wp2_with fail
              refine (HP.out _).mono ?_
              rintro e w1 ⟨rfl, hb1⟩
              have hg3 := (hb1.block _ hl3).trans HG3.out
              have HB1 := Lib.hid (HB.out.trans (hb1.mono hsz))
              have c0 : w1.cell? ⟨w.heap.size, 0, none⟩ = some (.int .i64 0) := cell_of_row _ _ _ _ _ _ hg3
              have c1 : w1.cell? ⟨w.heap.size, 1, none⟩ = some (.string ⟨#[]⟩) := cell_of_row _ _ _ _ _ _ hg3
              have f0 := frozen_of_row w1 _ 0 _ _ hg3
              have f1 := frozen_of_row w1 _ 1 _ _ hg3
              have hlt1 := blk_lt hg3
              obtain ⟨z0, z1⟩ := two_alloc hg3 (.int .i64 0) (.string ⟨#[]⟩) (.cells #[.int .i64 k, .string ⟨c.toArray⟩] 24)
              clear hb1 hg3
              go_wp2
              exact bodyPost_ret (v := .tuple #[.slice none 0 0, .agg #[.int .i64 0, .string ⟨#[]⟩], .int .i64 3]) (by simp [results, Tryd.results23, go_sem, z0, z1]) rfl (splitW_of HS.out none 0 rfl (World.ownsRow_nil _ _ _ _) (((HB1.out.setCell (by simp) _).setCell (by simp) _).alloc (by simp; omega) _))
            · have h8I : ¬ (8 : Int) < (acc.length : Int) := by omega
              have hsp := HSS.out _ _ hsg.symm
              rw [if_neg h8] at hsp
              have HS := Lib.hid hsp
              clear hP hall hsg hdj h41 hg3 hsp h8
              go_wp2_with fail
              refine (HP.out _).mono ?_
              rintro e w1 ⟨rfl, hb1⟩
              have HO1 := Lib.hid (own_below HO.out hb1)
              have HCE := Lib.hid ((hb1.block _ hl3).trans HG3.out)
              have hlt := blk_lt HCE.out
              have HB1 := Lib.hid (HB.out.trans (hb1.mono hsz))
              clear hb1
              go_wp2
              have hce := HCE.out
              have hW := Lib.hid ((Below.refl w1.heap.size w1).alloc (Nat.le_refl _) (.cells #[.int .i64 k, .string ⟨c.toArray⟩] 24))
              have hn5 := heap_alloc_new w1 (.cells #[.int .i64 k, .string ⟨c.toArray⟩] 24)
              have hce := (hW.out.block _ hlt).trans HCE.out
              have HOW := Lib.hid (own_below HO1.out hW.out)
              have HBW := Lib.hid (HB1.out.trans (hW.out.mono HB1.out.size))
              generalize hgW : w1.alloc (.cells #[.int .i64 k, .string ⟨c.toArray⟩] 24) = W at *
              have d0 : W.cell? ⟨w1.heap.size, 0, none⟩ = some (.int .i64 k) := cell_of_row _ _ _ _ _ _ hn5
              have d1 : W.cell? ⟨w1.heap.size, 1, none⟩ = some (.string ⟨c.toArray⟩) := cell_of_row _ _ _ _ _ _ hn5
              have c0 : W.cell? ⟨w.heap.size, 0, none⟩ = some (.int .i64 0) := cell_of_row _ _ _ _ _ _ hce
              have c1 : W.cell? ⟨w.heap.size, 1, none⟩ = some (.string ⟨#[]⟩) := cell_of_row _ _ _ _ _ _ hce
              have f0 := frozen_of_row W _ 0 _ _ hce
              have f1 := frozen_of_row W _ 1 _ _ hce
              have hne : ¬ w1.heap.size = w.heap.size := by omega
              have hne' : ¬ w.heap.size = w1.heap.size := by omega
              obtain ⟨z0, z1, -⟩ := two_set hce (.int .i64 k) (.string ⟨c.toArray⟩)
              have HZ0 := Lib.hid z0; have HZ1 := Lib.hid z1
              clear hgW hn5 hce hlt hW z0 z1
              generalize w1.heap.size = g at *
              have HO3 := Lib.hid (own_base (own_but HOW.out (b := w.heap.size) (by omega) (((But.refl w.heap.size W).set 0 (.int .i64 k)).set 1 (.string ⟨c.toArray⟩))) (base' := w.heap.size) (by omega))
              have HB3 := Lib.hid ((HBW.out.setCell (p := ⟨w.heap.size, 0, none⟩) (by simp) (.int .i64 k)).setCell (p := ⟨w.heap.size, 1, none⟩) (by simp) (.string ⟨c.toArray⟩))
              go_region
              have z0 := HZ0.out; have z1 := HZ1.out
              go_wp2
              exact bodyPost_ret (v := .tuple #[.slice A acc.length cc, .agg #[.int .i64 k, .string ⟨c.toArray⟩], .int .i64 0]) (by simp [results, Tryd.results23, go_sem, z0, z1]) rfl (splitW_of HS.out A cc rfl HO3.out (over (q := 1) HB3.out))
        · have hb41 : (((s[j]'hlt).toNat : Int) != 41) = true := by rw [bne_iff_ne]; omega
          have hnd : (L.drop j).head? ≠ some 41 := by
            rw [hdj]; intro e; simp at e; rw [e] at h41; exact h41 rfl
          cases htt : typeT (L.drop j) with
          | none =>
            rw [sig_none hnd htt] at hsg
            have HS := Lib.hid (HSO.out hsg.symm)
            have HK := Lib.hid (fun w => next_none_w (s := s) (at_ := j) w (by omega) (by omega) (by rw [← HL.out]; exact htt))
            clear hsg hdj h41 hg3 hnd htt
            go_wp2_with fail
            refine (HK.out _).mono ?_
            rintro e w1 ⟨⟨k, c, m, rfl⟩, hb1⟩
            have hg3 := (hb1.block _ hl3).trans HG3.out
            have HB1 := Lib.hid (HB.out.trans (hb1.mono hsz))
            have c0 : w1.cell? ⟨w.heap.size, 0, none⟩ = some (.int .i64 0) := cell_of_row _ _ _ _ _ _ hg3
            have c1 : w1.cell? ⟨w.heap.size, 1, none⟩ = some (.string ⟨#[]⟩) := cell_of_row _ _ _ _ _ _ hg3
            have f0 := frozen_of_row w1 _ 0 _ _ hg3
            have f1 := frozen_of_row w1 _ 1 _ _ hg3
            have hlt1 := blk_lt hg3
            obtain ⟨z0, z1⟩ := two_alloc hg3 (.int .i64 0) (.string ⟨#[]⟩) (.cells #[.int .i64 k, .string ⟨c.toArray⟩] 24)
            clear hb1 hg3
            go_wp2
            exact bodyPost_ret (v := .tuple #[.slice none 0 0, .agg #[.int .i64 0, .string ⟨#[]⟩], .int .i64 1]) (by simp [results, Tryd.results23, go_sem, z0, z1]) rfl (splitW_of HS.out none 0 rfl (World.ownsRow_nil _ _ _ _) (((HB1.out.setCell (by simp) _).setCell (by simp) _).alloc (by simp; omega) _))
          | some tr =>
            obtain ⟨⟨k, c⟩, r⟩ := tr
            obtain ⟨to, hto1, hto2, rfl, hK⟩ := next_all (s := s) (at_ := j) (by omega) (by omega) (by rw [← HL.out]; exact htt)
            have HK := Lib.hid hK
            by_cases hvd : ((k, c) : Ty) = (1, [])
            · cases hvd
              rw [sig_void hnd htt] at hsg
              have HS := Lib.hid (HSO.out hsg.symm)
              clear hsg hdj h41 hg3 hnd htt hK
              go_wp2_with fail
              refine (HK.out _).mono ?_
              rintro e w1 ⟨rfl, hb1⟩
              dsimp only
              have hg3 := (hb1.block _ hl3).trans HG3.out
              have HB1 := Lib.hid (HB.out.trans (hb1.mono hsz))
              have c0 : w1.cell? ⟨w.heap.size, 0, none⟩ = some (.int .i64 0) := cell_of_row _ _ _ _ _ _ hg3
              have c1 : w1.cell? ⟨w.heap.size, 1, none⟩ = some (.string ⟨#[]⟩) := cell_of_row _ _ _ _ _ _ hg3
              have f0 := frozen_of_row w1 _ 0 _ _ hg3
              have f1 := frozen_of_row w1 _ 1 _ _ hg3
              have hlt1 := blk_lt hg3
              obtain ⟨z0, z1⟩ := two_alloc hg3 (.int .i64 0) (.string ⟨#[]⟩) (.cells #[.int .i64 1, .string ⟨#[]⟩] 24)
              clear hb1 hg3
              go_wp2
              exact bodyPost_ret (v := .tuple #[.slice none 0 0, .agg #[.int .i64 0, .string ⟨#[]⟩], .int .i64 1]) (by simp [results, Tryd.results23, go_sem, z0, z1]) rfl (splitW_of HS.out none 0 rfl (World.ownsRow_nil _ _ _ _) (((HB1.out.setCell (by simp) _).setCell (by simp) _).alloc (by simp; omega) _))
            · rw [sig_next hnd htt hvd] at hsg
              have hk1 : (k == 1) = false := by
                rw [beq_eq_false_iff_ne]
                intro hk
                have hrt := (type_of htt).1
                rw [hk, right_no rfl] at hrt
                exact hvd (by rw [hk, (of_decide_eq_true hrt).2])
              have HNX := Lib.hid (show SigR G L to (acc ++ [(k, c)]) from ⟨by rw [HL.out]; exact hsg, by rw [HLN.out]; exact hto1, by rw [List.length_append]; show acc.length + 1 ≤ to; omega⟩)
              clear hsg hdj h41 hg3 hnd htt hK hvd
              go_wp2_with fail
              refine (HK.out _).mono ?_
              rintro e w1 ⟨rfl, hb1⟩
              dsimp only
              have HG1 := Lib.hid ((hb1.block _ hl3).trans HG3.out)
              have hlt1 := blk_lt HG1.out
              have HB1 := Lib.hid (HB.out.trans (hb1.mono hsz))
              have HO1 := Lib.hid (own_below HO.out hb1)
              clear hb1
              have HN2 := two_new w1 (.cells #[.int .i64 k, .string ⟨c.toArray⟩] 24) (.cells #[.int .i64 k, .string ⟨c.toArray⟩] 24)
              have HRD := Lib.hid (rd_blk HN2.2 (show (#[(.int .i64 k : Value), .string ⟨c.toArray⟩] : Array Value).toList.take 2 = [.int .i64 k, .string ⟨c.toArray⟩] from rfl))
              have hb2 := ((Below.refl w1.heap.size w1).alloc (Nat.le_refl _) (.cells #[.int .i64 k, .string ⟨c.toArray⟩] 24)).alloc (by simp) (.cells #[.int .i64 k, .string ⟨c.toArray⟩] 24)
              have HO4 := Lib.hid (own_below HO1.out hb2)
              have HG2 := Lib.hid ((hb2.block _ hlt1).trans HG1.out)
              have HB2 := Lib.hid (HB1.out.trans (hb2.mono HB1.out.size))
              have hacc2 : acc.length ≤ 64 := by omega
              clear hb2 HN2
              go_wp2_with (at_builtin; refine wpList_app _ rfl (.tmp 50) (.tmp 52) _ rfl (w.heap.size + 1) 24 i0 _ 2 24 Tryd.underlying33 hi0 hz0 hz1 hz2 rfl (by omega) _ acc.length (TL acc) rfl HO4.out _ 1 1 [.int .i64 k, .string ⟨c.toArray⟩] rfl rfl HRD.out (by simp [Value.oneCell']) (by simp only [maxLen]; omega) (by omega) (by simp; omega) ?_; intro v7 w7 hown7 hg7 hb7 hat7; clear hat7; obtain ⟨A7, cc7, rfl, _, _, _⟩ := own_rd hown7)
              have hown8 : w7.ownsRow (w.heap.size + 1) 24 2 (.slice A7 (acc.length + 1) cc7) (acc ++ [((k, c) : Ty)]).length (TL (acc ++ [(k, c)])) := by rw [List.length_append, TL_app]; exact hown7
              have hq7 := (hb7.block w.heap.size (by omega)).trans HG2.out
              have HB9 := Lib.hid (HB2.out.trans (hb7.mono (by omega)))
              have HO9 := Lib.hid hown8; have HQ9 := Lib.hid hq7
              clear hown7 hg7 hb7 hown8 hq7
              go_roundw
              case rel => exact ⟨to, acc ++ [((k, c) : Ty)], rfl, HNX.out, HQ9.out, HO9.out, HB9.out⟩
              case measure => simp only [intOf]; omega
      · have hltI : ¬ (j : Int) < (s.size : Int) := by omega
        have hltJ : (s.size : Int) ≤ (j : Int) := by omega
        rw [List.drop_of_length_le (by rw [HLN.out]; omega), sig_end] at hsg
        have HS := Lib.hid (HSO.out hsg.symm)
        have c0 : wr.cell? ⟨w.heap.size, 0, none⟩ = some (.int .i64 0) := cell_of_row _ _ _ _ _ _ hg3
        have c1 : wr.cell? ⟨w.heap.size, 1, none⟩ = some (.string ⟨#[]⟩) := cell_of_row _ _ _ _ _ _ hg3
        have f0 := frozen_of_row wr _ 0 _ _ hg3
        have f1 := frozen_of_row wr _ 1 _ _ hg3
        obtain ⟨z0, z1, -⟩ := two_set hg3 (.int .i64 0) (.string ⟨#[]⟩)
        clear hsg hg3
        go_wp2
        exact bodyPost_ret (v := .tuple #[.slice none 0 0, .agg #[.int .i64 0, .string ⟨#[]⟩], .int .i64 1]) (by simp [results, Tryd.results23, go_sem, z0, z1]) rfl (splitW_of HS.out none 0 rfl (World.ownsRow_nil _ _ _ _) ((HB.out.setCell (by simp) _).setCell (by simp) _))
  · have hb40 : (((s[0]'hp0).toNat : Int) != 40) = true := by simp; omega
    have HS := Lib.hid (split_one h64L (show sigD L = none by
      unfold sigD; rw [hd0, if_neg (by intro e; simp at e; rw [e] at h40; exact h40 rfl)]))
    clear hal hs h64 hlen hL h64L h0 hd0 h40
    go_enter Tryd.func23, Tryd.ntmps23
    go_wp2
    exact bodyPost_ret (v := .tuple #[.slice none 0 0, .agg #[.int .i64 0, .string ⟨#[]⟩], .int .i64 1]) (by simp [results, Tryd.results23, go_sem]) rfl (splitW_of HS.out none 0 rfl (World.ownsRow_nil _ _ _ _) HAL.out)
end Go.Proofs.YtchhibicbgimcaaDoor.kind

/- Layer 6, the document's answer: a descriptor with its classes renamed. -/
namespace Go.Proofs.YtchhibicbgimcaaDoor.kind
open Go.RowKit
open Go.Proofs.YtchhibicbgimcaaDoor.words Go.Proofs.YtchhibicbgimcaaDoor.kindp Go.Proofs.YtchhibicbgimcaaDoor.word Go.Proofs.YtchhibicbgimcaaDoor.rdr Go.Proofs.YtchhibicbgimcaaDoor.piece

theorem map_more {α β : Type} (f : α → β) {p : List α} {j : Nat} {x : α} (h : p[j]? = some x) : (p.take (j + 1)).map f = (p.take j).map f ++ [f x] := by
  rw [List.take_add_one, h, List.map_append]; rfl

set_option maxRecDepth 100000 in
set_option maxHeartbeats 4000000 in
theorem renamed_r (s : ByteArray) (B : Option Addr) (bc : Nat) (l : List Pr) (w : World) (hs : s.size ≤ 140737488355328) (hr : Rd w B (PL l)) (hl : l.length ≤ 281474976710656) (hz : ∀ q ∈ l, q.2.length ≤ 281474976710656) :
    Calls Tryd.prog 30 #[.string s, .slice B l.length bc] w fun e w' => e = .returned (.string ⟨(renD s.data.toList l).toArray⟩) ∧ Below w.heap.size w w' := by
  have hS := split_r s w hs
  generalize s.data.toList = S at hS ⊢
  have hrD : renD S l = if (splitT S).2.2 = 0 then (descT (renT l (splitT S).2.1) ((splitT S).1.map (renT l))).1 else [] := rfl
  have hsm := split_small (d := S)
  have h8 := split_len S
  unfold SplitW at hS
  obtain ⟨x, hx⟩ : ∃ x, x = splitT S := ⟨_, rfl⟩
  rw [← hx] at hS hrD hsm h8
  obtain ⟨p, ⟨k, c⟩, er⟩ := x
  dsimp only at hS hrD hsm h8
  have HS := Lib.hid hS; have HRD := Lib.hid hrD
  have HR := Lib.hid hr
  obtain ⟨L, hL⟩ : ∃ L, L = l.length := ⟨_, rfl⟩
  have HRN := Lib.hid (fun (k : Int) (c : Tx) w hr => ren_r k c B bc l w hr hl)
  rw [← hL] at HRN ⊢
  by_cases he : er = 0
  · subst he
    obtain ⟨hs1, hs2⟩ := hsm rfl
    rw [if_pos rfl] at HRD
    have hzp : ∀ t ∈ p.map (renT l), t.2.length ≤ 281474976710656 := by
      intro t ht
      obtain ⟨y, hy, rfl⟩ := List.mem_map.1 ht
      exact ren_small hz (by have := hs2 y hy; omega)
    have hzt : (renT l (k, c)).2.length ≤ 281474976710656 := ren_small hz (by dsimp only; omega)
    obtain ⟨n, hn⟩ : ∃ n, n = p.length := ⟨_, rfl⟩
    have HDS := Lib.hid (fun A cc w hr => desc_r (renT l (k, c)).1 (renT l (k, c)).2 A cc (p.map (renT l)) w hzt hr (by rw [List.length_map]; omega) hzp)
    rw [List.length_map, ← hn] at HDS
    rw [← hn] at HS h8
    have hnI : (n : Int) ≤ 8 := by omega
    have HN := Lib.hid hn
    obtain ⟨D, hD⟩ : ∃ D, D = descT (renT l (k, c)) (p.map (renT l)) := ⟨_, rfl⟩
    rw [show ((renT l (k, c)).1, (renT l (k, c)).2) = renT l (k, c) from rfl, ← hD] at HDS
    rw [← hD] at HRD
    unfold DescW at HDS
    obtain ⟨⟨k2, c2⟩, hkc⟩ : ∃ y, y = renT l (k, c) := ⟨_, rfl⟩
    have HK := Lib.hid hkc
    rw [← hkc] at HDS
    dsimp only at HDS
    obtain ⟨i0, hi0, hz0, hz1, hz2⟩ := info_parts infoT
    clear hS hrD hsm hr hz hs hx hL hs1 hs2 hzp hzt hn hD hkc hl
    go_enter Tryd.func30, Tryd.ntmps30
    go_wp2_with fail
    refine HS.out.mono ?_
    rintro e w1 ⟨⟨A, cc, rfl, hown⟩, hb1⟩
    obtain ⟨_, _, e1, _, _, hrd⟩ := own_rd hown
    cases e1
    have HRP := Lib.hid hrd; have HB := Lib.hid hb1
    have HAL := Lib.hid ((Below.refl w1.heap.size w1).alloc (Nat.le_refl _) (.cells #[.int .i64 k, .string ⟨c.toArray⟩] 24))
    have HNW := Lib.hid (heap_alloc_new w1 (.cells #[.int .i64 k, .string ⟨c.toArray⟩] 24))
    have hsz1 := hb1.size
    clear hown hb1 hrd
    go_wp2
    go_loopw [8, 9] (fun v i wr => ∃ j : Nat, i = .int .i64 (j : Int) ∧ j ≤ n ∧ wr.ownsRow (w1.heap.size + 1) 24 2 v j (TL ((p.take j).map (renT l))) ∧ wr.heap[w1.heap.size]? = some (.cells #[.int .i64 k, .string ⟨c.toArray⟩] 24 (0, 0)) ∧ Below w1.heap.size w1 wr) (fun _ i _ => n - (intOf i).toNat)
    case atStart => exact ⟨0, rfl, Nat.zero_le _, World.ownsRow_nil _ _ _ _, HNW.out, HAL.out⟩
    case round =>
      obtain ⟨j, rfl, hj, hown, hg6, hbw⟩ := hrel
      obtain ⟨A2, c3, rfl, _, _, hrd2⟩ := own_rd hown
      have HO := Lib.hid hown; have HG6 := Lib.hid hg6; have HBW := Lib.hid hbw
      have hl6 := blk_lt hg6
      have hszr := hbw.size
      by_cases hlt : j < n
      · have hltI : (j : Int) < (n : Int) := by omega
        obtain ⟨⟨kd, cl⟩, hx⟩ : ∃ x, p[j]? = some x := ⟨p[j]'(by rw [← HN.out]; exact hlt), List.getElem?_eq_getElem _⟩
        obtain ⟨a, rfl, ha, c0, c1⟩ := tl_cell (HRP.out.below hbw) hx
        dsimp only at c0 c1
        have HRR := Lib.hid (HR.out.below (HB.out.trans (hbw.mono hsz1)))
        have hmm := map_more (renT l) hx
        obtain ⟨⟨k9, c9⟩, h9⟩ : ∃ y, y = renT l (kd, cl) := ⟨_, rfl⟩
        have HRK := Lib.hid (HRN.out kd cl)
        rw [← h9] at HRK hmm
        unfold RenW at HRK
        dsimp only at HRK
        have HMM := Lib.hid hmm
        clear hown hg6 hbw hx ha hrd2 h9 hmm
        go_wp2_with fail
        refine (HRK.out _ HRR.out).mono ?_
        rintro e w4 ⟨rfl, hb4⟩
        have HG4 := Lib.hid ((hb4.block _ hl6).trans HG6.out)
        have HO4 := own_below HO.out hb4
        have HB4 := Lib.hid (HBW.out.trans (hb4.mono hszr))
        have hsz4 := hb4.size
        have HRD := Lib.hid (rd_blk (heap_alloc_new w4 (.cells #[.int .i64 k9, .string ⟨c9.toArray⟩] 24)) (show (#[(.int .i64 k9 : Value), .string ⟨c9.toArray⟩] : Array Value).toList.take 2 = [.int .i64 k9, .string ⟨c9.toArray⟩] from rfl))
        have hal := (Below.refl w4.heap.size w4).alloc (Nat.le_refl _) (.cells #[.int .i64 k9, .string ⟨c9.toArray⟩] 24)
        have HO5 := Lib.hid (own_below HO4 hal)
        have HG5 := Lib.hid ((hal.block _ (by omega)).trans HG4.out)
        have HB5 := Lib.hid (HB4.out.trans (hal.mono (by omega)))
        clear hb4 HO4 hal c0 c1
        go_wp2_with (at_builtin; refine wpList_app _ rfl (.tmp 26) (.tmp 33) _ rfl (w1.heap.size + 1) 24 i0 _ 2 24 Tryd.underlying33 hi0 hz0 hz1 hz2 rfl (by omega) _ j (TL ((p.take j).map (renT l))) rfl HO5.out _ 1 1 [.int .i64 k9, .string ⟨c9.toArray⟩] rfl rfl HRD.out (by simp [Value.oneCell']) (by simp only [maxLen]; omega) (by omega) (by simp; omega) ?_; intro v7 w7 hown7 hg7 hb7 hat7; clear hat7; obtain ⟨A7, cc7, rfl, _, _, _⟩ := own_rd hown7)
        have hown8 : w7.ownsRow (w1.heap.size + 1) 24 2 (.slice A7 (j + 1) cc7) (j + 1) (TL ((p.take (j + 1)).map (renT l))) := by rw [HMM.out, TL_app]; exact hown7
        have HQ9 := Lib.hid ((hb7.block w1.heap.size (by omega)).trans HG5.out)
        have HB9 := Lib.hid (HB5.out.trans (hb7.mono (by omega)))
        have HO9 := Lib.hid hown8
        clear hown7 hg7 hb7 hown8
        go_roundw
        case rel => exact ⟨j + 1, by go_num, by omega, HO9.out, HQ9.out, HB9.out⟩
        case measure => simp [intOf]; omega
      · have hltI : ¬ (j : Int) < (n : Int) := by omega
        obtain rfl : j = n := by omega
        rw [HN.out, List.take_length] at hrd2
        have HRD2 := Lib.hid hrd2
        have c0 : wr.cell? ⟨w1.heap.size, 0, none⟩ = some (.int .i64 k) := cell_of_row _ _ _ _ _ _ hg6
        have c1 : wr.cell? ⟨w1.heap.size, 1, none⟩ = some (.string ⟨c.toArray⟩) := cell_of_row _ _ _ _ _ _ hg6
        have HRK := Lib.hid (HRN.out k c)
        rw [← HK.out] at HRK
        unfold RenW at HRK
        dsimp only at HRK
        have HRR := Lib.hid (HR.out.below (HB.out.trans (hbw.mono hsz1)))
        have HBR := Lib.hid (HB.out.trans (hbw.mono hsz1))
        clear hown hg6 hrd2 hbw
        go_wp2_with fail
        refine (HRK.out _ HRR.out).mono ?_
        rintro e w4 ⟨rfl, hb4⟩
        have HRD4 := Lib.hid (HRD2.out.below hb4)
        have HB4 := Lib.hid (HBR.out.trans (hb4.mono HBR.out.size))
        clear hb4
        go_wp2_with fail
        refine (HDS.out A2 c3 _ HRD4.out).mono ?_
        rintro e w5 ⟨rfl, hb5⟩
        have HB5 := Lib.hid (HB4.out.trans (hb5.mono HB4.out.size))
        clear hb5
        go_wp2
        go_ret
        rw [HRD.out]
        exact ⟨rfl, HB5.out⟩
  · rw [if_neg he] at HRD
    have heI : ((er : Int) != 0) = true := by simp; omega
    clear hS hrD hsm hr hz hs hx hL he h8 hl
    go_enter Tryd.func30, Tryd.ntmps30
    go_wp2_with fail
    refine HS.out.mono ?_
    rintro e w1 ⟨⟨A, cc, rfl, hown⟩, hb1⟩
    have HB := Lib.hid (hb1.alloc hb1.size (.cells #[.int .i64 k, .string ⟨c.toArray⟩] 24))
    clear hown hb1
    go_wp2
    go_ret
    rw [HRD.out]
    exact ⟨rfl, HB.out⟩
end Go.Proofs.YtchhibicbgimcaaDoor.kind

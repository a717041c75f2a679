/-
  Layer 6, the document's small answers: whether a type can be, of what sort it is, its text, and the type of a text.
-/
import Derived.Test.YtchhibicbgimcaaDoorKindN
namespace Go.Proofs.YtchhibicbgimcaaDoor.kind
open Go.RowKit
open Go.Proofs.YtchhibicbgimcaaDoor.words Go.Proofs.YtchhibicbgimcaaDoor.kindp Go.Proofs.YtchhibicbgimcaaDoor.word

theorem cls_rr (c : Tx) (w : World) (hc : c.length ≤ 281474976710656) :
    Calls Tryd.prog 39 #[.string ⟨c.toArray⟩] w fun e w' => e = .returned (.bool (clsB c)) ∧ w' = w := by
  have h := class_r ⟨c.toArray⟩ w (by rw [mk_len]; exact hc)
  rw [cls_eq] at h
  exact h

set_option maxRecDepth 100000 in
set_option maxHeartbeats 800000 in
theorem right_r (k : Int) (c : Tx) (w : World) (hc : c.length ≤ 281474976710656) :
    Calls Tryd.prog 12 #[.agg #[.int .i64 k, .string ⟨c.toArray⟩]] w fun e w' => e = .returned (.bool (rightT (k, c))) ∧ Below w.heap.size w w' := by
  have HC := Lib.hid (fun w => cls_rr c w hc)
  have HAL := Lib.hid ((Below.refl w.heap.size w).alloc (Nat.le_refl _) (.cells #[.int .i64 k, .string ⟨c.toArray⟩] 24))
  rcases kinds k with rfl | rfl | rfl | rfl | rfl | ⟨e1, e2, e3, e4, e5, -, e6⟩
  · by_cases h0 : c = []
    · subst h0
      rw [show rightT (1, []) = true from rfl]
      go_enter Tryd.func12, Tryd.ntmps12
      go_wp2
      go_ret
      exact ⟨rfl, HAL.out⟩
    · rw [show rightT (1, c) = false by rw [right_no (by rfl)]; simp [h0]]
      have hie : List.isEmpty c = false := by
        cases c with
        | nil => exact absurd rfl h0
        | cons => rfl
      go_enter Tryd.func12, Tryd.ntmps12
      go_wp2
      go_ret
      exact ⟨rfl, HAL.out⟩
  · by_cases h0 : c = []
    · subst h0
      rw [show rightT (2, []) = true from rfl]
      go_enter Tryd.func12, Tryd.ntmps12
      go_wp2
      go_ret
      exact ⟨rfl, HAL.out⟩
    · rw [show rightT (2, c) = false by rw [right_no (by rfl)]; simp [h0]]
      have hie : List.isEmpty c = false := by
        cases c with
        | nil => exact absurd rfl h0
        | cons => rfl
      go_enter Tryd.func12, Tryd.ntmps12
      go_wp2
      go_ret
      exact ⟨rfl, HAL.out⟩
  · rw [show rightT (3, c) = clsB c from right_has rfl]
    clear hc
    go_enter Tryd.func12, Tryd.ntmps12
    go_wp2_with fail
    refine (HC.out _).mono ?_
    rintro e w1 ⟨rfl, rfl⟩
    go_wp2
    go_ret
    exact ⟨rfl, HAL.out⟩
  · by_cases h0 : c = []
    · subst h0
      rw [show rightT (4, []) = true from rfl]
      go_enter Tryd.func12, Tryd.ntmps12
      go_wp2
      go_ret
      exact ⟨rfl, HAL.out⟩
    · rw [show rightT (4, c) = false by rw [right_no (by rfl)]; simp [h0]]
      have hie : List.isEmpty c = false := by
        cases c with
        | nil => exact absurd rfl h0
        | cons => rfl
      go_enter Tryd.func12, Tryd.ntmps12
      go_wp2
      go_ret
      exact ⟨rfl, HAL.out⟩
  · rw [show rightT (5, c) = clsB c from right_has rfl]
    clear hc
    go_enter Tryd.func12, Tryd.ntmps12
    go_wp2_with fail
    refine (HC.out _).mono ?_
    rintro e w1 ⟨rfl, rfl⟩
    go_wp2
    go_ret
    exact ⟨rfl, HAL.out⟩
  · have n1 : ¬ k = 1 := by simpa using e1
    have n2 : ¬ k = 2 := by simpa using e2
    have n4 : ¬ k = 4 := by simpa using e4
    rw [show rightT (k, c) = false by rw [right_no e6]; simp [n1, n2, n4]]
    clear hc n1 n2 n4 e6
    go_enter Tryd.func12, Tryd.ntmps12
    go_wp2
    go_ret
    exact ⟨rfl, HAL.out⟩

set_option maxRecDepth 100000 in
set_option maxHeartbeats 800000 in
theorem text_rr (k : Int) (c : Tx) (w : World) (hc : c.length ≤ 281474976710656) :
    Calls Tryd.prog 18 #[.agg #[.int .i64 k, .string ⟨c.toArray⟩]] w fun e w' => e = .returned (.string ⟨(textT (k, c)).toArray⟩) ∧ Below w.heap.size w w' := by
  have hR := (fun w => right_r k c w hc)
  have HAL := Lib.hid ((Below.refl w.heap.size w).alloc (Nat.le_refl _) (.cells #[.int .i64 k, .string ⟨c.toArray⟩] 24))
  have HNW := Lib.hid (heap_alloc_new w (.cells #[.int .i64 k, .string ⟨c.toArray⟩] 24))
  cases hr : rightT (k, c) with
  | false =>
    rw [hr] at hR
    have HR := Lib.hid hR
    rw [text_bad hr]
    clear hr hc hR
    go_enter Tryd.func18, Tryd.ntmps18
    go_wp2_with fail
    refine (HR.out _).mono ?_
    rintro e w1 ⟨rfl, hb1⟩
    have HB := Lib.hid (HAL.out.trans (hb1.mono (by simp)))
    clear hb1
    go_wp2
    go_ret
    exact ⟨rfl, HB.out⟩
  | true =>
    rw [hr] at hR
    have HR := Lib.hid hR
    rcases right_cases hr with h | h | h | ⟨c2, h, hcl⟩ | ⟨c2, h, hcl⟩
    · cases h
      rw [show textT (1, []) = [86] from rfl]
      clear hr hc hR
      go_enter Tryd.func18, Tryd.ntmps18
      go_wp2_with fail
      refine (HR.out _).mono ?_
      rintro e w1 ⟨rfl, hb1⟩
      have c0 := (hb1.cell (p := ⟨w.heap.size, 0, none⟩) (by simp)).trans (show _ = some (.int .i64 1) by rw [cell_of_row _ _ _ _ _ _ HNW.out]; rfl)
      have HB := Lib.hid (HAL.out.trans (hb1.mono (by simp)))
      clear hb1
      go_wp2
      go_ret
      exact ⟨rfl, HB.out⟩
    · cases h
      rw [show textT (2, []) = [73] from rfl]
      clear hr hc hR
      go_enter Tryd.func18, Tryd.ntmps18
      go_wp2_with fail
      refine (HR.out _).mono ?_
      rintro e w1 ⟨rfl, hb1⟩
      have c0 := (hb1.cell (p := ⟨w.heap.size, 0, none⟩) (by simp)).trans (show _ = some (.int .i64 2) by rw [cell_of_row _ _ _ _ _ _ HNW.out]; rfl)
      have HB := Lib.hid (HAL.out.trans (hb1.mono (by simp)))
      clear hb1
      go_wp2
      go_ret
      exact ⟨rfl, HB.out⟩
    · cases h
      rw [show textT (4, []) = [91, 73] from rfl]
      clear hr hc hR
      go_enter Tryd.func18, Tryd.ntmps18
      go_wp2_with fail
      refine (HR.out _).mono ?_
      rintro e w1 ⟨rfl, hb1⟩
      have c0 := (hb1.cell (p := ⟨w.heap.size, 0, none⟩) (by simp)).trans (show _ = some (.int .i64 4) by rw [cell_of_row _ _ _ _ _ _ HNW.out]; rfl)
      have HB := Lib.hid (HAL.out.trans (hb1.mono (by simp)))
      clear hb1
      go_wp2
      go_ret
      exact ⟨rfl, HB.out⟩
    · cases h
      have h32 := (cls_no hcl).2.2
      have HE := Lib.hid (show (⟨#[76]⟩ : ByteArray) ++ ⟨c.toArray⟩ ++ ⟨#[59]⟩ = ⟨(textT (3, c)).toArray⟩ by rw [text3 hcl, show (⟨#[76]⟩ : ByteArray) = ⟨([76] : Tx).toArray⟩ from rfl, app_mk]; exact app_mk ([76] ++ c) [59])
      have hz1 : ¬ 9223372036854775807 < 1 + c.length := by omega
      have hz2 : ¬ 9223372036854775807 < 1 + c.length + 1 := by omega
      clear hr hc hR hcl h32
      go_enter Tryd.func18, Tryd.ntmps18
      go_wp2_with fail
      refine (HR.out _).mono ?_
      rintro e w1 ⟨rfl, hb1⟩
      have c0 := (hb1.cell (p := ⟨w.heap.size, 0, none⟩) (by simp)).trans (show _ = some (.int .i64 3) by rw [cell_of_row _ _ _ _ _ _ HNW.out]; rfl)
      have c1 := (hb1.cell (p := ⟨w.heap.size, 1, none⟩) (by simp)).trans (show _ = some (.string ⟨c.toArray⟩) by rw [cell_of_row _ _ _ _ _ _ HNW.out]; rfl)
      have HB := Lib.hid (HAL.out.trans (hb1.mono (by simp)))
      clear hb1
      go_wp2
      go_ret
      exact ⟨congrArg (fun z => Ending.returned (Value.string z)) HE.out, HB.out⟩
    · cases h
      have h32 := (cls_no hcl).2.2
      have HE := Lib.hid (show (⟨#[91, 76]⟩ : ByteArray) ++ ⟨c.toArray⟩ ++ ⟨#[59]⟩ = ⟨(textT (5, c)).toArray⟩ by rw [text5 hcl, show (⟨#[91, 76]⟩ : ByteArray) = ⟨([91, 76] : Tx).toArray⟩ from rfl, app_mk]; exact app_mk ([91, 76] ++ c) [59])
      have hz1 : ¬ 9223372036854775807 < 2 + c.length := by omega
      have hz2 : ¬ 9223372036854775807 < 2 + c.length + 1 := by omega
      clear hr hc hR hcl h32
      go_enter Tryd.func18, Tryd.ntmps18
      go_wp2_with fail
      refine (HR.out _).mono ?_
      rintro e w1 ⟨rfl, hb1⟩
      have c0 := (hb1.cell (p := ⟨w.heap.size, 0, none⟩) (by simp)).trans (show _ = some (.int .i64 5) by rw [cell_of_row _ _ _ _ _ _ HNW.out]; rfl)
      have c1 := (hb1.cell (p := ⟨w.heap.size, 1, none⟩) (by simp)).trans (show _ = some (.string ⟨c.toArray⟩) by rw [cell_of_row _ _ _ _ _ _ HNW.out]; rfl)
      have HB := Lib.hid (HAL.out.trans (hb1.mono (by simp)))
      clear hb1
      go_wp2
      go_ret
      exact ⟨congrArg (fun z => Ending.returned (Value.string z)) HE.out, HB.out⟩

set_option maxRecDepth 100000 in
set_option maxHeartbeats 800000 in
theorem isref_r (k : Int) (c : Tx) (w : World) :
    Calls Tryd.prog 14 #[.agg #[.int .i64 k, .string ⟨c.toArray⟩]] w fun e w' => e = .returned (.bool (hasB k || (k == 4))) ∧ Below w.heap.size w w' := by
  have HAL := Lib.hid ((Below.refl w.heap.size w).alloc (Nat.le_refl _) (.cells #[.int .i64 k, .string ⟨c.toArray⟩] 24))
  rcases kinds k with rfl | rfl | rfl | rfl | rfl | ⟨e1, e2, e3, e4, e5, -, e6⟩
  · go_enter Tryd.func14, Tryd.ntmps14
    go_wp2
    go_ret
    exact ⟨rfl, HAL.out⟩
  · go_enter Tryd.func14, Tryd.ntmps14
    go_wp2
    go_ret
    exact ⟨rfl, HAL.out⟩
  · go_enter Tryd.func14, Tryd.ntmps14
    go_wp2
    go_ret
    exact ⟨rfl, HAL.out⟩
  · go_enter Tryd.func14, Tryd.ntmps14
    go_wp2
    go_ret
    exact ⟨rfl, HAL.out⟩
  · go_enter Tryd.func14, Tryd.ntmps14
    go_wp2
    go_ret
    exact ⟨rfl, HAL.out⟩
  · rw [e6, e4, Bool.false_or]
    clear e6
    go_enter Tryd.func14, Tryd.ntmps14
    go_wp2
    go_ret
    exact ⟨rfl, HAL.out⟩
set_option maxRecDepth 100000 in
set_option maxHeartbeats 800000 in
theorem elem_r (k : Int) (c : Tx) (w : World) :
    Calls Tryd.prog 16 #[.agg #[.int .i64 k, .string ⟨c.toArray⟩]] w fun e w' => e = .returned (tyV (elemT (k, c))) ∧ Below w.heap.size w w' := by
  unfold elemT tyV
  dsimp only
  by_cases h4 : k = 4
  · subst h4
    rw [if_pos rfl]
    go_enter Tryd.func16, Tryd.ntmps16
    go_wp2
    exact bodyPost_ret (v := .agg #[.int .i64 2, .string ⟨#[]⟩]) (by simp [results, Tryd.results16, go_sem]) rfl ⟨rfl, by repeat (first | exact Below.refl _ _ | refine Below.setCell ?_ (by simp) _ | refine Below.alloc ?_ (by simp) _)⟩
  · rw [if_neg h4]
    have e4 : (k == 4) = false := by simpa using h4
    by_cases h5 : k = 5
    · subst h5
      rw [if_pos rfl]
      clear h4 e4
      go_enter Tryd.func16, Tryd.ntmps16
      go_wp2
      exact bodyPost_ret (v := .agg #[.int .i64 3, .string ⟨c.toArray⟩]) (by simp [results, Tryd.results16, go_sem]) rfl ⟨rfl, by repeat (first | exact Below.refl _ _ | refine Below.setCell ?_ (by simp) _ | refine Below.alloc ?_ (by simp) _)⟩
    · rw [if_neg h5]
      have e5 : (k == 5) = false := by simpa using h5
      clear h4 h5
      go_enter Tryd.func16, Tryd.ntmps16
      go_wp2
      exact bodyPost_ret (v := .agg #[.int .i64 0, .string ⟨#[]⟩]) (by simp [results, Tryd.results16, go_sem]) rfl ⟨rfl, by repeat (first | exact Below.refl _ _ | refine Below.setCell ?_ (by simp) _ | refine Below.alloc ?_ (by simp) _)⟩

end Go.Proofs.YtchhibicbgimcaaDoor.kind

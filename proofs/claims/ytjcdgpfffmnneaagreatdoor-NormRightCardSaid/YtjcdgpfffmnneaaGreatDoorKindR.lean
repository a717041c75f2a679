/-
 Layer 6: whether a type can be, and its text: the program's answers.
-/
import Derived.Test.YtjcdgpfffmnneaaGreatDoorKind
namespace Go.Proofs.YtjcdgpfffmnneaaGreatDoor.kind
open Go.RowKit
open words kindp word

theorem app_mk (a b : Tx) : (⟨a.toArray⟩ : ByteArray) ++ ⟨b.toArray⟩ = ⟨(a ++ b).toArray⟩ := by
 apply ByteArray.ext; rw [ByteArray.data_append]; simp
theorem right_has {k : Int} {c : Tx} (h : hasB k = true) : rightT (k, c) = clsB c := by unfold rightT; rw [if_pos h]
theorem right_no {k : Int} {c : Tx} (h : hasB k = false) : rightT (k, c) = decide ((k = 1 ∨ k = 2 ∨ k = 4) ∧ c = []) := by unfold rightT; rw [if_neg (by rw [h]; simp)]

set_option maxRecDepth 100000 in
set_option maxHeartbeats 800000 in
theorem right_w (k : Int) (c : Tx) (w : World) (hc : c.length ≤ 281474976710656) :
  Calls Tryz.prog 87 #[.agg #[.int .i64 k, .string ⟨c.toArray⟩]] w fun e w' => e = .returned (.bool (rightT (k, c))) ∧ Below w.heap.size w w' := by
 have HH := Lib.hid (fun w => has_w k c w)
 cases hb : hasB k with
 | true =>
  rw [hb] at HH
  rw [right_has hb]
  have HC := Lib.hid (fun w => class_name ⟨c.toArray⟩ w (by rw [mk_len]; exact hc))
  rw [cls_eq] at HC
  clear hb hc
  go_enter Tryz.func87, Tryz.ntmps87
  go_wp2_with fail
  refine (HH.out _).mono ?_
  rintro e w1 ⟨rfl, hb1⟩
  have c1 := (hb1.cell (p := ⟨w.heap.size, 1, none⟩) (by simp)).trans (show _ = some (.string ⟨c.toArray⟩) by rw [cell_of_row _ _ _ _ _ _ (heap_alloc_new w _)]; rfl)
  have HB := Lib.hid (((Below.refl w.heap.size w).alloc (Nat.le_refl _) _).trans (hb1.mono (by simp)))
  clear hb1 HH
  go_wp2_with fail
  refine (HC.out _).mono ?_
  rintro e w2 ⟨rfl, rfl⟩
  go_wp2
  go_ret
  exact ⟨rfl, HB.out⟩
 | false =>
  rw [hb] at HH
  have HS := (fun w => sign_w k w)
  rcases kinds k with rfl | rfl | rfl | rfl | rfl | ⟨e1, e2, e3, e4, e5, e6, -⟩
  ·rw [right_no hb]
   rw [show signL 1 = [86] from rfl] at HS
   have HS := Lib.hid HS
   by_cases hc0 : c = []
   ·subst hc0
    rw [show decide (((1 : Int) = 1 ∨ (1 : Int) = 2 ∨ (1 : Int) = 4) ∧ ([] : Tx) = []) = true from rfl]
    clear hb hc
    go_enter Tryz.func87, Tryz.ntmps87
    go_wp2_with fail
    refine (HH.out _).mono ?_
    rintro e w1 ⟨rfl, hb1⟩
    have c0 := (hb1.cell (p := ⟨w.heap.size, 0, none⟩) (by simp)).trans (show _ = some (.int .i64 1) by rw [cell_of_row _ _ _ _ _ _ (heap_alloc_new w _)]; rfl)
    have c1 := (hb1.cell (p := ⟨w.heap.size, 1, none⟩) (by simp)).trans (show _ = some (.string ⟨#[]⟩) by rw [cell_of_row _ _ _ _ _ _ (heap_alloc_new w _)]; rfl)
    have HB := Lib.hid (((Below.refl w.heap.size w).alloc (Nat.le_refl _) _).trans (hb1.mono (by simp)))
    clear hb1 HH
    go_wp2_with fail
    refine (HS.out _).mono ?_
    rintro e w2 ⟨rfl, rfl⟩
    go_wp2
    go_ret
    exact ⟨rfl, HB.out⟩
   ·rw [show decide (((1 : Int) = 1 ∨ (1 : Int) = 2 ∨ (1 : Int) = 4) ∧ c = []) = false by simp [hc0]]
    clear hb hc
    go_enter Tryz.func87, Tryz.ntmps87
    go_wp2_with fail
    refine (HH.out _).mono ?_
    rintro e w1 ⟨rfl, hb1⟩
    have c0 := (hb1.cell (p := ⟨w.heap.size, 0, none⟩) (by simp)).trans (show _ = some (.int .i64 1) by rw [cell_of_row _ _ _ _ _ _ (heap_alloc_new w _)]; rfl)
    have c1 := (hb1.cell (p := ⟨w.heap.size, 1, none⟩) (by simp)).trans (show _ = some (.string ⟨c.toArray⟩) by rw [cell_of_row _ _ _ _ _ _ (heap_alloc_new w _)]; rfl)
    have HB := Lib.hid (((Below.refl w.heap.size w).alloc (Nat.le_refl _) _).trans (hb1.mono (by simp)))
    clear hb1 HH
    go_wp2_with fail
    refine (HS.out _).mono ?_
    rintro e w2 ⟨rfl, rfl⟩
    go_wp2
    go_ret
    exact ⟨rfl, HB.out⟩
  ·rw [right_no hb]
   rw [show signL 2 = [73] from rfl] at HS
   have HS := Lib.hid HS
   by_cases hc0 : c = []
   ·subst hc0
    rw [show decide (((2 : Int) = 1 ∨ (2 : Int) = 2 ∨ (2 : Int) = 4) ∧ ([] : Tx) = []) = true from rfl]
    clear hb hc
    go_enter Tryz.func87, Tryz.ntmps87
    go_wp2_with fail
    refine (HH.out _).mono ?_
    rintro e w1 ⟨rfl, hb1⟩
    have c0 := (hb1.cell (p := ⟨w.heap.size, 0, none⟩) (by simp)).trans (show _ = some (.int .i64 2) by rw [cell_of_row _ _ _ _ _ _ (heap_alloc_new w _)]; rfl)
    have c1 := (hb1.cell (p := ⟨w.heap.size, 1, none⟩) (by simp)).trans (show _ = some (.string ⟨#[]⟩) by rw [cell_of_row _ _ _ _ _ _ (heap_alloc_new w _)]; rfl)
    have HB := Lib.hid (((Below.refl w.heap.size w).alloc (Nat.le_refl _) _).trans (hb1.mono (by simp)))
    clear hb1 HH
    go_wp2_with fail
    refine (HS.out _).mono ?_
    rintro e w2 ⟨rfl, rfl⟩
    go_wp2
    go_ret
    exact ⟨rfl, HB.out⟩
   ·rw [show decide (((2 : Int) = 1 ∨ (2 : Int) = 2 ∨ (2 : Int) = 4) ∧ c = []) = false by simp [hc0]]
    clear hb hc
    go_enter Tryz.func87, Tryz.ntmps87
    go_wp2_with fail
    refine (HH.out _).mono ?_
    rintro e w1 ⟨rfl, hb1⟩
    have c0 := (hb1.cell (p := ⟨w.heap.size, 0, none⟩) (by simp)).trans (show _ = some (.int .i64 2) by rw [cell_of_row _ _ _ _ _ _ (heap_alloc_new w _)]; rfl)
    have c1 := (hb1.cell (p := ⟨w.heap.size, 1, none⟩) (by simp)).trans (show _ = some (.string ⟨c.toArray⟩) by rw [cell_of_row _ _ _ _ _ _ (heap_alloc_new w _)]; rfl)
    have HB := Lib.hid (((Below.refl w.heap.size w).alloc (Nat.le_refl _) _).trans (hb1.mono (by simp)))
    clear hb1 HH
    go_wp2_with fail
    refine (HS.out _).mono ?_
    rintro e w2 ⟨rfl, rfl⟩
    go_wp2
    go_ret
    exact ⟨rfl, HB.out⟩
  ·exact absurd hb (by decide)
  ·rw [right_no hb]
   rw [show signL 4 = [91, 73] from rfl] at HS
   have HS := Lib.hid HS
   by_cases hc0 : c = []
   ·subst hc0
    rw [show decide (((4 : Int) = 1 ∨ (4 : Int) = 2 ∨ (4 : Int) = 4) ∧ ([] : Tx) = []) = true from rfl]
    clear hb hc
    go_enter Tryz.func87, Tryz.ntmps87
    go_wp2_with fail
    refine (HH.out _).mono ?_
    rintro e w1 ⟨rfl, hb1⟩
    have c0 := (hb1.cell (p := ⟨w.heap.size, 0, none⟩) (by simp)).trans (show _ = some (.int .i64 4) by rw [cell_of_row _ _ _ _ _ _ (heap_alloc_new w _)]; rfl)
    have c1 := (hb1.cell (p := ⟨w.heap.size, 1, none⟩) (by simp)).trans (show _ = some (.string ⟨#[]⟩) by rw [cell_of_row _ _ _ _ _ _ (heap_alloc_new w _)]; rfl)
    have HB := Lib.hid (((Below.refl w.heap.size w).alloc (Nat.le_refl _) _).trans (hb1.mono (by simp)))
    clear hb1 HH
    go_wp2_with fail
    refine (HS.out _).mono ?_
    rintro e w2 ⟨rfl, rfl⟩
    go_wp2
    go_ret
    exact ⟨rfl, HB.out⟩
   ·rw [show decide (((4 : Int) = 1 ∨ (4 : Int) = 2 ∨ (4 : Int) = 4) ∧ c = []) = false by simp [hc0]]
    clear hb hc
    go_enter Tryz.func87, Tryz.ntmps87
    go_wp2_with fail
    refine (HH.out _).mono ?_
    rintro e w1 ⟨rfl, hb1⟩
    have c0 := (hb1.cell (p := ⟨w.heap.size, 0, none⟩) (by simp)).trans (show _ = some (.int .i64 4) by rw [cell_of_row _ _ _ _ _ _ (heap_alloc_new w _)]; rfl)
    have c1 := (hb1.cell (p := ⟨w.heap.size, 1, none⟩) (by simp)).trans (show _ = some (.string ⟨c.toArray⟩) by rw [cell_of_row _ _ _ _ _ _ (heap_alloc_new w _)]; rfl)
    have HB := Lib.hid (((Below.refl w.heap.size w).alloc (Nat.le_refl _) _).trans (hb1.mono (by simp)))
    clear hb1 HH
    go_wp2_with fail
    refine (HS.out _).mono ?_
    rintro e w2 ⟨rfl, rfl⟩
    go_wp2
    go_ret
    exact ⟨rfl, HB.out⟩
  ·exact absurd hb (by decide)
  ·rw [right_no hb]
   rw [e6] at HS
   have HS := Lib.hid HS
   have n1 : ¬ k = 1 := by simpa using e1
   have n2 : ¬ k = 2 := by simpa using e2
   have n4 : ¬ k = 4 := by simpa using e4
   rw [show decide ((k = 1 ∨ k = 2 ∨ k = 4) ∧ c = []) = false by simp [n1, n2, n4]]
   clear hb hc n1 n2 n4 e1 e2 e3 e4 e5 e6
   go_enter Tryz.func87, Tryz.ntmps87
   go_wp2_with fail
   refine (HH.out _).mono ?_
   rintro e w1 ⟨rfl, hb1⟩
   have c0 := (hb1.cell (p := ⟨w.heap.size, 0, none⟩) (by simp)).trans (show _ = some (.int .i64 k) by rw [cell_of_row _ _ _ _ _ _ (heap_alloc_new w _)]; rfl)
   have HB := Lib.hid (((Below.refl w.heap.size w).alloc (Nat.le_refl _) _).trans (hb1.mono (by simp)))
   clear hb1 HH
   go_wp2_with fail
   refine (HS.out _).mono ?_
   rintro e w2 ⟨rfl, rfl⟩
   go_wp2
   go_ret
   exact ⟨rfl, HB.out⟩

theorem text_has {k : Int} {c : Tx} (h : hasB k = true) (hc : clsB c = true) : textT (k, c) = signL k ++ c ++ [59] := by
 unfold textT; rw [right_has h, if_pos hc, if_pos h]
theorem text_no {k : Int} {c : Tx} (h : hasB k = false) (hr : rightT (k, c) = true) : textT (k, c) = signL k := by
 unfold textT; rw [if_pos hr, if_neg (by rw [h]; simp)]
theorem text_bad {t : Ty} (h : rightT t = false) : textT t = [] := by unfold textT; rw [if_neg (by rw [h]; simp)]
theorem sign_len (k : Int) : (signL k).length ≤ 2 := by unfold signL; (repeat' split) <;> simp
set_option maxRecDepth 100000 in
set_option maxHeartbeats 800000 in
theorem text_w (k : Int) (c : Tx) (w : World) (hc : c.length ≤ 281474976710656) :
  Calls Tryz.prog 50 #[.agg #[.int .i64 k, .string ⟨c.toArray⟩]] w fun e w' => e = .returned (.string ⟨(textT (k, c)).toArray⟩) ∧ Below w.heap.size w w' := by
 have HR := Lib.hid (fun w => right_w k c w hc)
 have HH := Lib.hid (fun w => has_w k c w)
 have HS := Lib.hid (fun w => sign_w k w)
 cases hr : rightT (k, c) with
 | false =>
  rw [hr] at HR
  rw [text_bad hr]
  clear hr hc HH HS
  go_enter Tryz.func50, Tryz.ntmps50
  go_wp2_with fail
  refine (HR.out _).mono ?_
  rintro e w1 ⟨rfl, hb1⟩
  have HB := Lib.hid (((Below.refl w.heap.size w).alloc (Nat.le_refl _) _).trans (hb1.mono (by simp)))
  clear hb1 HR
  go_wp2
  go_ret
  exact ⟨rfl, HB.out⟩
 | true =>
  rw [hr] at HR
  cases hb : hasB k with
  | false =>
   rw [hb] at HH
   rw [text_no hb hr]
   clear hr hc hb
   go_enter Tryz.func50, Tryz.ntmps50
   go_wp2_with fail
   refine (HR.out _).mono ?_
   rintro e w1 ⟨rfl, hb1⟩
   have c0 := (hb1.cell (p := ⟨w.heap.size, 0, none⟩) (by simp)).trans (show _ = some (.int .i64 k) by rw [cell_of_row _ _ _ _ _ _ (heap_alloc_new w _)]; rfl)
   have c1 := (hb1.cell (p := ⟨w.heap.size, 1, none⟩) (by simp)).trans (show _ = some (.string ⟨c.toArray⟩) by rw [cell_of_row _ _ _ _ _ _ (heap_alloc_new w _)]; rfl)
   have hlt : w.heap.size < w1.heap.size := by have := hb1.size; simp at this; omega
   have HB := Lib.hid (((Below.refl w.heap.size w).alloc (Nat.le_refl _) _).trans (hb1.mono (by simp)))
   clear hb1 HR
   go_wp2_with fail
   refine (HH.out _).mono ?_
   rintro e w2 ⟨rfl, hb2⟩
   have k0 := (hb2.cell (p := ⟨w.heap.size, 0, none⟩) hlt).trans c0
   have HB2 := Lib.hid (then' HB.out hb2)
   clear hb2 HH c0 c1 HB
   go_wp2_with fail
   refine (HS.out _).mono ?_
   rintro e w3 ⟨rfl, rfl⟩
   go_wp2
   go_ret
   exact ⟨rfl, HB2.out⟩
  | true =>
   rw [hb] at HH
   rw [right_has hb] at hr
   rw [text_has hb hr]
   have h32 := (cls_no hr).2.2
   have hsg := sign_len k
   obtain ⟨g, hg⟩ : ∃ g, g = signL k := ⟨_, rfl⟩
   rw [← hg] at HS hsg ⊢
   have hz1 : ¬ 9223372036854775807 < g.length + c.length := by omega
   have hz2 : ¬ 9223372036854775807 < g.length + c.length + 1 := by omega
   have HE := Lib.hid (show (⟨g.toArray⟩ : ByteArray) ++ ⟨c.toArray⟩ ++ ⟨#[59]⟩ = ⟨(g ++ c ++ [59]).toArray⟩ by rw [app_mk g c]; exact app_mk (g ++ c) [59])
   clear hr hc hb hg h32 hsg
   go_enter Tryz.func50, Tryz.ntmps50
   go_wp2_with fail
   refine (HR.out _).mono ?_
   rintro e w1 ⟨rfl, hb1⟩
   have c0 := (hb1.cell (p := ⟨w.heap.size, 0, none⟩) (by simp)).trans (show _ = some (.int .i64 k) by rw [cell_of_row _ _ _ _ _ _ (heap_alloc_new w _)]; rfl)
   have c1 := (hb1.cell (p := ⟨w.heap.size, 1, none⟩) (by simp)).trans (show _ = some (.string ⟨c.toArray⟩) by rw [cell_of_row _ _ _ _ _ _ (heap_alloc_new w _)]; rfl)
   have hlt : w.heap.size < w1.heap.size := by have := hb1.size; simp at this; omega
   have HB := Lib.hid (((Below.refl w.heap.size w).alloc (Nat.le_refl _) _).trans (hb1.mono (by simp)))
   clear hb1 HR
   go_wp2_with fail
   refine (HH.out _).mono ?_
   rintro e w2 ⟨rfl, hb2⟩
   have k0 := (hb2.cell (p := ⟨w.heap.size, 0, none⟩) hlt).trans c0
   have k1 := (hb2.cell (p := ⟨w.heap.size, 1, none⟩) hlt).trans c1
   have HB2 := Lib.hid (then' HB.out hb2)
   clear hb2 HH c0 c1 HB
   go_wp2_with fail
   go_quiet ((go_at_call 89; exact Calls.quiet_of_same (HS.out _)))
   go_wp2
   go_ret
   exact ⟨congrArg (fun z => Ending.returned (Value.string z)) HE.out, over HB2.out⟩
end Go.Proofs.YtjcdgpfffmnneaaGreatDoor.kind

/- OpR -/
import Derived.Test.YtdifmgeicnndfaaWordM
import Derived.Test.YtdifmgeicnndfaaRef
namespace Go.Proofs.Ytdifmgeicnndfaa.op
open Go.RowKit
open words kindp opp kind
set_option maxRecDepth 100000
set_option maxHeartbeats 16000000
set_option linter.all false
theorem empty_and (i : In) (s : Tx) : emptyB i s = ((hasL s 97 || i.a == 0) && ((hasL s 98 || i.b == 0) && ((hasL s 99 || i.c == 0) && (((hasL s 107 || hasL s 116 || hasL s 114) || i.k == 0) && (((hasL s 67 || hasL s 70 || hasL s 77) || i.cl == []) && (((hasL s 70 || hasL s 77) || i.nm == []) && ((hasL s 77 || i.ds == []) && (hasL s 118 || ((i.ar.length : Int) == 0))))))))) := by
 obtain ⟨o, a, b, c, k, cl, nm, ds, ar⟩ := i
 rw [Bool.eq_iff_iff]
 unfold emptyB bareL emptyI
 simp only [decide_eq_true_eq, In.mk.injEq, true_and, Bool.and_eq_true, Bool.or_eq_true, beq_iff_eq, ite_eq_left_iff, Bool.not_eq_true]
 have hl : ((ar.length : Int) = 0) ↔ ar = [] := by rw [Int.natCast_eq_zero, List.length_eq_zero_iff]
 rw [hl]
 generalize hasL s 97 = x1; generalize hasL s 98 = x2; generalize hasL s 99 = x3; generalize hasL s 107 = x4; generalize hasL s 116 = x5; generalize hasL s 114 = x6
 generalize hasL s 67 = x7; generalize hasL s 70 = x8; generalize hasL s 77 = x9; generalize hasL s 118 = x10
 cases x1 <;> cases x2 <;> cases x3 <;> cases x4 <;> cases x5 <;> cases x6 <;> cases x7 <;> cases x8 <;> cases x9 <;> cases x10 <;> simp
end Go.Proofs.Ytdifmgeicnndfaa.op
namespace Go.Proofs.Ytdifmgeicnndfaa.op
open Go.RowKit
open words kindp opp kind
set_option maxRecDepth 100000
set_option maxHeartbeats 16000000
set_option linter.all false
theorem is_empty (s : Tx) (b : Bool) (h : (s == []) = b) : List.isEmpty s = b := by cases s <;> simpa using h
theorem empty_0 (i : In) (A : Option Addr) (c : Nat) (w : World) (hz : (i.ar.length : Int) ≤ 281474976710656) :
  Calls Try.prog 168 #[.agg (InV i A c), .string ⟨#[]⟩] w fun e w' => e = .returned (.bool (emptyB i [])) ∧ Below w.heap.size w w' := by
 obtain ⟨W, hW⟩ : ∃ W, W = w.alloc (.cells (InV i A c) 90) := ⟨_, rfl⟩
 have hal : Below w.heap.size w W := by rw [hW]; exact (Below.refl _ w).alloc (Nat.le_refl _) _
 have HAL := zh hal
 have hblk : W.heap[w.heap.size]? = some (.cells (InV i A c) 90 (0, 0)) := by rw [hW]; exact heap_alloc_new w _
 obtain ⟨g0, g1, g2, g3, g4, g5, g6, g7, g8⟩ := in_cells hblk
 have H97 := zh (fun w => has_r [] 97 w (by decide))
 rw [show hasL [] 97 = false by decide] at H97
 have H98 := zh (fun w => has_r [] 98 w (by decide))
 rw [show hasL [] 98 = false by decide] at H98
 have H99 := zh (fun w => has_r [] 99 w (by decide))
 rw [show hasL [] 99 = false by decide] at H99
 have H107 := zh (fun w => has_r [] 107 w (by decide))
 rw [show hasL [] 107 = false by decide] at H107
 have H116 := zh (fun w => has_r [] 116 w (by decide))
 rw [show hasL [] 116 = false by decide] at H116
 have H114 := zh (fun w => has_r [] 114 w (by decide))
 rw [show hasL [] 114 = false by decide] at H114
 have H67 := zh (fun w => has_r [] 67 w (by decide))
 rw [show hasL [] 67 = false by decide] at H67
 have H70 := zh (fun w => has_r [] 70 w (by decide))
 rw [show hasL [] 70 = false by decide] at H70
 have H77 := zh (fun w => has_r [] 77 w (by decide))
 rw [show hasL [] 77 = false by decide] at H77
 have H118 := zh (fun w => has_r [] 118 w (by decide))
 rw [show hasL [] 118 = false by decide] at H118
 rw [empty_and]
 rw [show hasL [] 97 = false by decide]
 rw [show hasL [] 98 = false by decide]
 rw [show hasL [] 99 = false by decide]
 rw [show hasL [] 107 = false by decide]
 rw [show hasL [] 116 = false by decide]
 rw [show hasL [] 114 = false by decide]
 rw [show hasL [] 67 = false by decide]
 rw [show hasL [] 70 = false by decide]
 rw [show hasL [] 77 = false by decide]
 rw [show hasL [] 118 = false by decide]
 simp only [Bool.true_or, Bool.or_true, Bool.false_or, Bool.or_false, Bool.true_and, Bool.and_true]
 dsimp only [InV] at hW ⊢
 have HW := zh hW
 clear hal hblk hW
 go_enter Try.func168, Try.ntmps168
 go_wp2_with fail
 rw [← HW.out]
 refine (H67.out _).mono ?_; rintro e W ⟨rfl, rfl⟩
 go_wp2_with fail
 refine (H70.out _).mono ?_; rintro e W ⟨rfl, rfl⟩
 go_wp2_with fail
 refine (H77.out _).mono ?_; rintro e W ⟨rfl, rfl⟩
 go_wp2_with fail
 refine (H70.out _).mono ?_; rintro e W ⟨rfl, rfl⟩
 go_wp2_with fail
 refine (H77.out _).mono ?_; rintro e W ⟨rfl, rfl⟩
 go_wp2_with fail
 refine (H107.out _).mono ?_; rintro e W ⟨rfl, rfl⟩
 go_wp2_with fail
 refine (H116.out _).mono ?_; rintro e W ⟨rfl, rfl⟩
 go_wp2_with fail
 refine (H114.out _).mono ?_; rintro e W ⟨rfl, rfl⟩
 go_wp2_with fail
 refine (H97.out _).mono ?_; rintro e W ⟨rfl, rfl⟩
 go_simp
 go_step
 go_step
 go_step
 dsimp only [List.append]
 cases za : (i.a == 0) with
 | false =>
  go_wp2_with fail
  go_ret
  exact ⟨by simp only [za, Bool.true_and, Bool.false_and]; rfl, HAL.out⟩
 | true =>
  go_wp2_with fail
  refine (H98.out _).mono ?_; rintro e W ⟨rfl, rfl⟩
  cases zb : (i.b == 0) with
  | false =>
   go_wp2_with fail
   go_ret
   exact ⟨by simp only [za, zb, Bool.true_and, Bool.false_and]; rfl, HAL.out⟩
  | true =>
   go_wp2_with fail
   refine (H99.out _).mono ?_; rintro e W ⟨rfl, rfl⟩
   cases zc : (i.c == 0) with
   | false =>
    go_wp2_with fail
    go_ret
    exact ⟨by simp only [za, zb, zc, Bool.true_and, Bool.false_and]; rfl, HAL.out⟩
   | true =>
    cases zk : (i.k == 0) with
    | false =>
     go_wp2_with fail
     go_ret
     exact ⟨by simp only [za, zb, zc, zk, Bool.true_and, Bool.false_and]; rfl, HAL.out⟩
    | true =>
     cases zl : (i.cl == []) with
     | false =>
      have zl2 := is_empty _ _ zl
      go_wp2_with fail
      go_ret
      exact ⟨by simp only [za, zb, zc, zk, zl, Bool.true_and, Bool.false_and]; rfl, HAL.out⟩
     | true =>
      have zl2 := is_empty _ _ zl
      cases zn : (i.nm == []) with
      | false =>
       have zn2 := is_empty _ _ zn
       go_wp2_with fail
       go_ret
       exact ⟨by simp only [za, zb, zc, zk, zl, zn, Bool.true_and, Bool.false_and]; rfl, HAL.out⟩
      | true =>
       have zn2 := is_empty _ _ zn
       go_wp2_with fail
       refine (H77.out _).mono ?_; rintro e W ⟨rfl, rfl⟩
       cases zd : (i.ds == []) with
       | false =>
        have zd2 := is_empty _ _ zd
        go_wp2_with fail
        go_ret
        exact ⟨by simp only [za, zb, zc, zk, zl, zn, zd, Bool.true_and, Bool.false_and]; rfl, HAL.out⟩
       | true =>
        have zd2 := is_empty _ _ zd
        go_wp2_with fail
        refine (H118.out _).mono ?_; rintro e W ⟨rfl, rfl⟩
        cases zv : ((i.ar.length : Int) == 0) with
        | false =>
         go_wp2_with fail
         go_ret
         exact ⟨by simp only [za, zb, zc, zk, zl, zn, zd, zv, Bool.true_and, Bool.false_and]; rfl, HAL.out⟩
        | true =>
         go_wp2_with fail
         go_ret
         exact ⟨by simp only [za, zb, zc, zk, zl, zn, zd, zv, Bool.true_and, Bool.false_and]; rfl, HAL.out⟩
theorem empty_1 (i : In) (A : Option Addr) (c : Nat) (w : World) (hz : (i.ar.length : Int) ≤ 281474976710656) :
  Calls Try.prog 168 #[.agg (InV i A c), .string ⟨#[97, 107]⟩] w fun e w' => e = .returned (.bool (emptyB i [97, 107])) ∧ Below w.heap.size w w' := by
 obtain ⟨W, hW⟩ : ∃ W, W = w.alloc (.cells (InV i A c) 90) := ⟨_, rfl⟩
 have hal : Below w.heap.size w W := by rw [hW]; exact (Below.refl _ w).alloc (Nat.le_refl _) _
 have HAL := zh hal
 have hblk : W.heap[w.heap.size]? = some (.cells (InV i A c) 90 (0, 0)) := by rw [hW]; exact heap_alloc_new w _
 obtain ⟨g0, g1, g2, g3, g4, g5, g6, g7, g8⟩ := in_cells hblk
 have H97 := zh (fun w => has_r [97, 107] 97 w (by decide))
 rw [show hasL [97, 107] 97 = true by decide] at H97
 have H98 := zh (fun w => has_r [97, 107] 98 w (by decide))
 rw [show hasL [97, 107] 98 = false by decide] at H98
 have H99 := zh (fun w => has_r [97, 107] 99 w (by decide))
 rw [show hasL [97, 107] 99 = false by decide] at H99
 have H107 := zh (fun w => has_r [97, 107] 107 w (by decide))
 rw [show hasL [97, 107] 107 = true by decide] at H107
 have H116 := zh (fun w => has_r [97, 107] 116 w (by decide))
 rw [show hasL [97, 107] 116 = false by decide] at H116
 have H114 := zh (fun w => has_r [97, 107] 114 w (by decide))
 rw [show hasL [97, 107] 114 = false by decide] at H114
 have H67 := zh (fun w => has_r [97, 107] 67 w (by decide))
 rw [show hasL [97, 107] 67 = false by decide] at H67
 have H70 := zh (fun w => has_r [97, 107] 70 w (by decide))
 rw [show hasL [97, 107] 70 = false by decide] at H70
 have H77 := zh (fun w => has_r [97, 107] 77 w (by decide))
 rw [show hasL [97, 107] 77 = false by decide] at H77
 have H118 := zh (fun w => has_r [97, 107] 118 w (by decide))
 rw [show hasL [97, 107] 118 = false by decide] at H118
 rw [empty_and]
 rw [show hasL [97, 107] 97 = true by decide]
 rw [show hasL [97, 107] 98 = false by decide]
 rw [show hasL [97, 107] 99 = false by decide]
 rw [show hasL [97, 107] 107 = true by decide]
 rw [show hasL [97, 107] 116 = false by decide]
 rw [show hasL [97, 107] 114 = false by decide]
 rw [show hasL [97, 107] 67 = false by decide]
 rw [show hasL [97, 107] 70 = false by decide]
 rw [show hasL [97, 107] 77 = false by decide]
 rw [show hasL [97, 107] 118 = false by decide]
 simp only [Bool.true_or, Bool.or_true, Bool.false_or, Bool.or_false, Bool.true_and, Bool.and_true]
 dsimp only [InV] at hW ⊢
 have HW := zh hW
 clear hal hblk hW
 go_enter Try.func168, Try.ntmps168
 go_wp2_with fail
 rw [← HW.out]
 refine (H67.out _).mono ?_; rintro e W ⟨rfl, rfl⟩
 go_wp2_with fail
 refine (H70.out _).mono ?_; rintro e W ⟨rfl, rfl⟩
 go_wp2_with fail
 refine (H77.out _).mono ?_; rintro e W ⟨rfl, rfl⟩
 go_wp2_with fail
 refine (H70.out _).mono ?_; rintro e W ⟨rfl, rfl⟩
 go_wp2_with fail
 refine (H77.out _).mono ?_; rintro e W ⟨rfl, rfl⟩
 go_wp2_with fail
 refine (H107.out _).mono ?_; rintro e W ⟨rfl, rfl⟩
 go_wp2_with fail
 refine (H97.out _).mono ?_; rintro e W ⟨rfl, rfl⟩
 go_simp
 go_step
 go_step
 go_step
 dsimp only [List.append]
 go_wp2_with fail
 refine (H98.out _).mono ?_; rintro e W ⟨rfl, rfl⟩
 cases zb : (i.b == 0) with
 | false =>
  go_wp2_with fail
  go_ret
  exact ⟨by simp only [zb, Bool.true_and, Bool.false_and]; rfl, HAL.out⟩
 | true =>
  go_wp2_with fail
  refine (H99.out _).mono ?_; rintro e W ⟨rfl, rfl⟩
  cases zc : (i.c == 0) with
  | false =>
   go_wp2_with fail
   go_ret
   exact ⟨by simp only [zb, zc, Bool.true_and, Bool.false_and]; rfl, HAL.out⟩
  | true =>
   cases zl : (i.cl == []) with
   | false =>
    have zl2 := is_empty _ _ zl
    go_wp2_with fail
    go_ret
    exact ⟨by simp only [zb, zc, zl, Bool.true_and, Bool.false_and]; rfl, HAL.out⟩
   | true =>
    have zl2 := is_empty _ _ zl
    cases zn : (i.nm == []) with
    | false =>
     have zn2 := is_empty _ _ zn
     go_wp2_with fail
     go_ret
     exact ⟨by simp only [zb, zc, zl, zn, Bool.true_and, Bool.false_and]; rfl, HAL.out⟩
    | true =>
     have zn2 := is_empty _ _ zn
     go_wp2_with fail
     refine (H77.out _).mono ?_; rintro e W ⟨rfl, rfl⟩
     cases zd : (i.ds == []) with
     | false =>
      have zd2 := is_empty _ _ zd
      go_wp2_with fail
      go_ret
      exact ⟨by simp only [zb, zc, zl, zn, zd, Bool.true_and, Bool.false_and]; rfl, HAL.out⟩
     | true =>
      have zd2 := is_empty _ _ zd
      go_wp2_with fail
      refine (H118.out _).mono ?_; rintro e W ⟨rfl, rfl⟩
      cases zv : ((i.ar.length : Int) == 0) with
      | false =>
       go_wp2_with fail
       go_ret
       exact ⟨by simp only [zb, zc, zl, zn, zd, zv, Bool.true_and, Bool.false_and]; rfl, HAL.out⟩
      | true =>
       go_wp2_with fail
       go_ret
       exact ⟨by simp only [zb, zc, zl, zn, zd, zv, Bool.true_and, Bool.false_and]; rfl, HAL.out⟩
theorem empty_2 (i : In) (A : Option Addr) (c : Nat) (w : World) (hz : (i.ar.length : Int) ≤ 281474976710656) :
  Calls Try.prog 168 #[.agg (InV i A c), .string ⟨#[97]⟩] w fun e w' => e = .returned (.bool (emptyB i [97])) ∧ Below w.heap.size w w' := by
 obtain ⟨W, hW⟩ : ∃ W, W = w.alloc (.cells (InV i A c) 90) := ⟨_, rfl⟩
 have hal : Below w.heap.size w W := by rw [hW]; exact (Below.refl _ w).alloc (Nat.le_refl _) _
 have HAL := zh hal
 have hblk : W.heap[w.heap.size]? = some (.cells (InV i A c) 90 (0, 0)) := by rw [hW]; exact heap_alloc_new w _
 obtain ⟨g0, g1, g2, g3, g4, g5, g6, g7, g8⟩ := in_cells hblk
 have H97 := zh (fun w => has_r [97] 97 w (by decide))
 rw [show hasL [97] 97 = true by decide] at H97
 have H98 := zh (fun w => has_r [97] 98 w (by decide))
 rw [show hasL [97] 98 = false by decide] at H98
 have H99 := zh (fun w => has_r [97] 99 w (by decide))
 rw [show hasL [97] 99 = false by decide] at H99
 have H107 := zh (fun w => has_r [97] 107 w (by decide))
 rw [show hasL [97] 107 = false by decide] at H107
 have H116 := zh (fun w => has_r [97] 116 w (by decide))
 rw [show hasL [97] 116 = false by decide] at H116
 have H114 := zh (fun w => has_r [97] 114 w (by decide))
 rw [show hasL [97] 114 = false by decide] at H114
 have H67 := zh (fun w => has_r [97] 67 w (by decide))
 rw [show hasL [97] 67 = false by decide] at H67
 have H70 := zh (fun w => has_r [97] 70 w (by decide))
 rw [show hasL [97] 70 = false by decide] at H70
 have H77 := zh (fun w => has_r [97] 77 w (by decide))
 rw [show hasL [97] 77 = false by decide] at H77
 have H118 := zh (fun w => has_r [97] 118 w (by decide))
 rw [show hasL [97] 118 = false by decide] at H118
 rw [empty_and]
 rw [show hasL [97] 97 = true by decide]
 rw [show hasL [97] 98 = false by decide]
 rw [show hasL [97] 99 = false by decide]
 rw [show hasL [97] 107 = false by decide]
 rw [show hasL [97] 116 = false by decide]
 rw [show hasL [97] 114 = false by decide]
 rw [show hasL [97] 67 = false by decide]
 rw [show hasL [97] 70 = false by decide]
 rw [show hasL [97] 77 = false by decide]
 rw [show hasL [97] 118 = false by decide]
 simp only [Bool.true_or, Bool.or_true, Bool.false_or, Bool.or_false, Bool.true_and, Bool.and_true]
 dsimp only [InV] at hW ⊢
 have HW := zh hW
 clear hal hblk hW
 go_enter Try.func168, Try.ntmps168
 go_wp2_with fail
 rw [← HW.out]
 refine (H67.out _).mono ?_; rintro e W ⟨rfl, rfl⟩
 go_wp2_with fail
 refine (H70.out _).mono ?_; rintro e W ⟨rfl, rfl⟩
 go_wp2_with fail
 refine (H77.out _).mono ?_; rintro e W ⟨rfl, rfl⟩
 go_wp2_with fail
 refine (H70.out _).mono ?_; rintro e W ⟨rfl, rfl⟩
 go_wp2_with fail
 refine (H77.out _).mono ?_; rintro e W ⟨rfl, rfl⟩
 go_wp2_with fail
 refine (H107.out _).mono ?_; rintro e W ⟨rfl, rfl⟩
 go_wp2_with fail
 refine (H116.out _).mono ?_; rintro e W ⟨rfl, rfl⟩
 go_wp2_with fail
 refine (H114.out _).mono ?_; rintro e W ⟨rfl, rfl⟩
 go_wp2_with fail
 refine (H97.out _).mono ?_; rintro e W ⟨rfl, rfl⟩
 go_simp
 go_step
 go_step
 go_step
 dsimp only [List.append]
 go_wp2_with fail
 refine (H98.out _).mono ?_; rintro e W ⟨rfl, rfl⟩
 cases zb : (i.b == 0) with
 | false =>
  go_wp2_with fail
  go_ret
  exact ⟨by simp only [zb, Bool.true_and, Bool.false_and]; rfl, HAL.out⟩
 | true =>
  go_wp2_with fail
  refine (H99.out _).mono ?_; rintro e W ⟨rfl, rfl⟩
  cases zc : (i.c == 0) with
  | false =>
   go_wp2_with fail
   go_ret
   exact ⟨by simp only [zb, zc, Bool.true_and, Bool.false_and]; rfl, HAL.out⟩
  | true =>
   cases zk : (i.k == 0) with
   | false =>
    go_wp2_with fail
    go_ret
    exact ⟨by simp only [zb, zc, zk, Bool.true_and, Bool.false_and]; rfl, HAL.out⟩
   | true =>
    cases zl : (i.cl == []) with
    | false =>
     have zl2 := is_empty _ _ zl
     go_wp2_with fail
     go_ret
     exact ⟨by simp only [zb, zc, zk, zl, Bool.true_and, Bool.false_and]; rfl, HAL.out⟩
    | true =>
     have zl2 := is_empty _ _ zl
     cases zn : (i.nm == []) with
     | false =>
      have zn2 := is_empty _ _ zn
      go_wp2_with fail
      go_ret
      exact ⟨by simp only [zb, zc, zk, zl, zn, Bool.true_and, Bool.false_and]; rfl, HAL.out⟩
     | true =>
      have zn2 := is_empty _ _ zn
      go_wp2_with fail
      refine (H77.out _).mono ?_; rintro e W ⟨rfl, rfl⟩
      cases zd : (i.ds == []) with
      | false =>
       have zd2 := is_empty _ _ zd
       go_wp2_with fail
       go_ret
       exact ⟨by simp only [zb, zc, zk, zl, zn, zd, Bool.true_and, Bool.false_and]; rfl, HAL.out⟩
      | true =>
       have zd2 := is_empty _ _ zd
       go_wp2_with fail
       refine (H118.out _).mono ?_; rintro e W ⟨rfl, rfl⟩
       cases zv : ((i.ar.length : Int) == 0) with
       | false =>
        go_wp2_with fail
        go_ret
        exact ⟨by simp only [zb, zc, zk, zl, zn, zd, zv, Bool.true_and, Bool.false_and]; rfl, HAL.out⟩
       | true =>
        go_wp2_with fail
        go_ret
        exact ⟨by simp only [zb, zc, zk, zl, zn, zd, zv, Bool.true_and, Bool.false_and]; rfl, HAL.out⟩
theorem empty_3 (i : In) (A : Option Addr) (c : Nat) (w : World) (hz : (i.ar.length : Int) ≤ 281474976710656) :
  Calls Try.prog 168 #[.agg (InV i A c), .string ⟨#[97, 98]⟩] w fun e w' => e = .returned (.bool (emptyB i [97, 98])) ∧ Below w.heap.size w w' := by
 obtain ⟨W, hW⟩ : ∃ W, W = w.alloc (.cells (InV i A c) 90) := ⟨_, rfl⟩
 have hal : Below w.heap.size w W := by rw [hW]; exact (Below.refl _ w).alloc (Nat.le_refl _) _
 have HAL := zh hal
 have hblk : W.heap[w.heap.size]? = some (.cells (InV i A c) 90 (0, 0)) := by rw [hW]; exact heap_alloc_new w _
 obtain ⟨g0, g1, g2, g3, g4, g5, g6, g7, g8⟩ := in_cells hblk
 have H97 := zh (fun w => has_r [97, 98] 97 w (by decide))
 rw [show hasL [97, 98] 97 = true by decide] at H97
 have H98 := zh (fun w => has_r [97, 98] 98 w (by decide))
 rw [show hasL [97, 98] 98 = true by decide] at H98
 have H99 := zh (fun w => has_r [97, 98] 99 w (by decide))
 rw [show hasL [97, 98] 99 = false by decide] at H99
 have H107 := zh (fun w => has_r [97, 98] 107 w (by decide))
 rw [show hasL [97, 98] 107 = false by decide] at H107
 have H116 := zh (fun w => has_r [97, 98] 116 w (by decide))
 rw [show hasL [97, 98] 116 = false by decide] at H116
 have H114 := zh (fun w => has_r [97, 98] 114 w (by decide))
 rw [show hasL [97, 98] 114 = false by decide] at H114
 have H67 := zh (fun w => has_r [97, 98] 67 w (by decide))
 rw [show hasL [97, 98] 67 = false by decide] at H67
 have H70 := zh (fun w => has_r [97, 98] 70 w (by decide))
 rw [show hasL [97, 98] 70 = false by decide] at H70
 have H77 := zh (fun w => has_r [97, 98] 77 w (by decide))
 rw [show hasL [97, 98] 77 = false by decide] at H77
 have H118 := zh (fun w => has_r [97, 98] 118 w (by decide))
 rw [show hasL [97, 98] 118 = false by decide] at H118
 rw [empty_and]
 rw [show hasL [97, 98] 97 = true by decide]
 rw [show hasL [97, 98] 98 = true by decide]
 rw [show hasL [97, 98] 99 = false by decide]
 rw [show hasL [97, 98] 107 = false by decide]
 rw [show hasL [97, 98] 116 = false by decide]
 rw [show hasL [97, 98] 114 = false by decide]
 rw [show hasL [97, 98] 67 = false by decide]
 rw [show hasL [97, 98] 70 = false by decide]
 rw [show hasL [97, 98] 77 = false by decide]
 rw [show hasL [97, 98] 118 = false by decide]
 simp only [Bool.true_or, Bool.or_true, Bool.false_or, Bool.or_false, Bool.true_and, Bool.and_true]
 dsimp only [InV] at hW ⊢
 have HW := zh hW
 clear hal hblk hW
 go_enter Try.func168, Try.ntmps168
 go_wp2_with fail
 rw [← HW.out]
 refine (H67.out _).mono ?_; rintro e W ⟨rfl, rfl⟩
 go_wp2_with fail
 refine (H70.out _).mono ?_; rintro e W ⟨rfl, rfl⟩
 go_wp2_with fail
 refine (H77.out _).mono ?_; rintro e W ⟨rfl, rfl⟩
 go_wp2_with fail
 refine (H70.out _).mono ?_; rintro e W ⟨rfl, rfl⟩
 go_wp2_with fail
 refine (H77.out _).mono ?_; rintro e W ⟨rfl, rfl⟩
 go_wp2_with fail
 refine (H107.out _).mono ?_; rintro e W ⟨rfl, rfl⟩
 go_wp2_with fail
 refine (H116.out _).mono ?_; rintro e W ⟨rfl, rfl⟩
 go_wp2_with fail
 refine (H114.out _).mono ?_; rintro e W ⟨rfl, rfl⟩
 go_wp2_with fail
 refine (H97.out _).mono ?_; rintro e W ⟨rfl, rfl⟩
 go_simp
 go_step
 go_step
 go_step
 dsimp only [List.append]
 go_wp2_with fail
 refine (H98.out _).mono ?_; rintro e W ⟨rfl, rfl⟩
 go_wp2_with fail
 refine (H99.out _).mono ?_; rintro e W ⟨rfl, rfl⟩
 cases zc : (i.c == 0) with
 | false =>
  go_wp2_with fail
  go_ret
  exact ⟨by simp only [zc, Bool.true_and, Bool.false_and]; rfl, HAL.out⟩
 | true =>
  cases zk : (i.k == 0) with
  | false =>
   go_wp2_with fail
   go_ret
   exact ⟨by simp only [zc, zk, Bool.true_and, Bool.false_and]; rfl, HAL.out⟩
  | true =>
   cases zl : (i.cl == []) with
   | false =>
    have zl2 := is_empty _ _ zl
    go_wp2_with fail
    go_ret
    exact ⟨by simp only [zc, zk, zl, Bool.true_and, Bool.false_and]; rfl, HAL.out⟩
   | true =>
    have zl2 := is_empty _ _ zl
    cases zn : (i.nm == []) with
    | false =>
     have zn2 := is_empty _ _ zn
     go_wp2_with fail
     go_ret
     exact ⟨by simp only [zc, zk, zl, zn, Bool.true_and, Bool.false_and]; rfl, HAL.out⟩
    | true =>
     have zn2 := is_empty _ _ zn
     go_wp2_with fail
     refine (H77.out _).mono ?_; rintro e W ⟨rfl, rfl⟩
     cases zd : (i.ds == []) with
     | false =>
      have zd2 := is_empty _ _ zd
      go_wp2_with fail
      go_ret
      exact ⟨by simp only [zc, zk, zl, zn, zd, Bool.true_and, Bool.false_and]; rfl, HAL.out⟩
     | true =>
      have zd2 := is_empty _ _ zd
      go_wp2_with fail
      refine (H118.out _).mono ?_; rintro e W ⟨rfl, rfl⟩
      cases zv : ((i.ar.length : Int) == 0) with
      | false =>
       go_wp2_with fail
       go_ret
       exact ⟨by simp only [zc, zk, zl, zn, zd, zv, Bool.true_and, Bool.false_and]; rfl, HAL.out⟩
      | true =>
       go_wp2_with fail
       go_ret
       exact ⟨by simp only [zc, zk, zl, zn, zd, zv, Bool.true_and, Bool.false_and]; rfl, HAL.out⟩
end Go.Proofs.Ytdifmgeicnndfaa.op
namespace Go.Proofs.Ytdifmgeicnndfaa.op
open Go.RowKit
open words kindp opp kind
set_option maxRecDepth 100000
set_option maxHeartbeats 16000000
set_option linter.all false
theorem is_empty_b (s : Tx) (b : Bool) (h : (s == []) = b) : List.isEmpty s = b := by cases s <;> simpa using h
theorem empty_4 (i : In) (A : Option Addr) (c : Nat) (w : World) (hz : (i.ar.length : Int) ≤ 281474976710656) :
  Calls Try.prog 168 #[.agg (InV i A c), .string ⟨#[97, 98, 99, 114]⟩] w fun e w' => e = .returned (.bool (emptyB i [97, 98, 99, 114])) ∧ Below w.heap.size w w' := by
 obtain ⟨W, hW⟩ : ∃ W, W = w.alloc (.cells (InV i A c) 90) := ⟨_, rfl⟩
 have hal : Below w.heap.size w W := by rw [hW]; exact (Below.refl _ w).alloc (Nat.le_refl _) _
 have HAL := zh hal
 have hblk : W.heap[w.heap.size]? = some (.cells (InV i A c) 90 (0, 0)) := by rw [hW]; exact heap_alloc_new w _
 obtain ⟨g0, g1, g2, g3, g4, g5, g6, g7, g8⟩ := in_cells hblk
 have H97 := zh (fun w => has_r [97, 98, 99, 114] 97 w (by decide))
 rw [show hasL [97, 98, 99, 114] 97 = true by decide] at H97
 have H98 := zh (fun w => has_r [97, 98, 99, 114] 98 w (by decide))
 rw [show hasL [97, 98, 99, 114] 98 = true by decide] at H98
 have H99 := zh (fun w => has_r [97, 98, 99, 114] 99 w (by decide))
 rw [show hasL [97, 98, 99, 114] 99 = true by decide] at H99
 have H107 := zh (fun w => has_r [97, 98, 99, 114] 107 w (by decide))
 rw [show hasL [97, 98, 99, 114] 107 = false by decide] at H107
 have H116 := zh (fun w => has_r [97, 98, 99, 114] 116 w (by decide))
 rw [show hasL [97, 98, 99, 114] 116 = false by decide] at H116
 have H114 := zh (fun w => has_r [97, 98, 99, 114] 114 w (by decide))
 rw [show hasL [97, 98, 99, 114] 114 = true by decide] at H114
 have H67 := zh (fun w => has_r [97, 98, 99, 114] 67 w (by decide))
 rw [show hasL [97, 98, 99, 114] 67 = false by decide] at H67
 have H70 := zh (fun w => has_r [97, 98, 99, 114] 70 w (by decide))
 rw [show hasL [97, 98, 99, 114] 70 = false by decide] at H70
 have H77 := zh (fun w => has_r [97, 98, 99, 114] 77 w (by decide))
 rw [show hasL [97, 98, 99, 114] 77 = false by decide] at H77
 have H118 := zh (fun w => has_r [97, 98, 99, 114] 118 w (by decide))
 rw [show hasL [97, 98, 99, 114] 118 = false by decide] at H118
 rw [empty_and]
 rw [show hasL [97, 98, 99, 114] 97 = true by decide]
 rw [show hasL [97, 98, 99, 114] 98 = true by decide]
 rw [show hasL [97, 98, 99, 114] 99 = true by decide]
 rw [show hasL [97, 98, 99, 114] 107 = false by decide]
 rw [show hasL [97, 98, 99, 114] 116 = false by decide]
 rw [show hasL [97, 98, 99, 114] 114 = true by decide]
 rw [show hasL [97, 98, 99, 114] 67 = false by decide]
 rw [show hasL [97, 98, 99, 114] 70 = false by decide]
 rw [show hasL [97, 98, 99, 114] 77 = false by decide]
 rw [show hasL [97, 98, 99, 114] 118 = false by decide]
 simp only [Bool.true_or, Bool.or_true, Bool.false_or, Bool.or_false, Bool.true_and, Bool.and_true]
 dsimp only [InV] at hW ⊢
 have HW := zh hW
 clear hal hblk hW
 go_enter Try.func168, Try.ntmps168
 go_wp2_with fail
 rw [← HW.out]
 refine (H67.out _).mono ?_; rintro e W ⟨rfl, rfl⟩
 go_wp2_with fail
 refine (H70.out _).mono ?_; rintro e W ⟨rfl, rfl⟩
 go_wp2_with fail
 refine (H77.out _).mono ?_; rintro e W ⟨rfl, rfl⟩
 go_wp2_with fail
 refine (H70.out _).mono ?_; rintro e W ⟨rfl, rfl⟩
 go_wp2_with fail
 refine (H77.out _).mono ?_; rintro e W ⟨rfl, rfl⟩
 go_wp2_with fail
 refine (H107.out _).mono ?_; rintro e W ⟨rfl, rfl⟩
 go_wp2_with fail
 refine (H116.out _).mono ?_; rintro e W ⟨rfl, rfl⟩
 go_wp2_with fail
 refine (H114.out _).mono ?_; rintro e W ⟨rfl, rfl⟩
 go_wp2_with fail
 refine (H97.out _).mono ?_; rintro e W ⟨rfl, rfl⟩
 go_simp
 go_step
 go_step
 go_step
 dsimp only [List.append]
 go_wp2_with fail
 refine (H98.out _).mono ?_; rintro e W ⟨rfl, rfl⟩
 go_wp2_with fail
 refine (H99.out _).mono ?_; rintro e W ⟨rfl, rfl⟩
 cases zl : (i.cl == []) with
 | false =>
  have zl2 := is_empty_b _ _ zl
  go_wp2_with fail
  go_ret
  exact ⟨by simp only [zl, Bool.true_and, Bool.false_and]; rfl, HAL.out⟩
 | true =>
  have zl2 := is_empty_b _ _ zl
  cases zn : (i.nm == []) with
  | false =>
   have zn2 := is_empty_b _ _ zn
   go_wp2_with fail
   go_ret
   exact ⟨by simp only [zl, zn, Bool.true_and, Bool.false_and]; rfl, HAL.out⟩
  | true =>
   have zn2 := is_empty_b _ _ zn
   go_wp2_with fail
   refine (H77.out _).mono ?_; rintro e W ⟨rfl, rfl⟩
   cases zd : (i.ds == []) with
   | false =>
    have zd2 := is_empty_b _ _ zd
    go_wp2_with fail
    go_ret
    exact ⟨by simp only [zl, zn, zd, Bool.true_and, Bool.false_and]; rfl, HAL.out⟩
   | true =>
    have zd2 := is_empty_b _ _ zd
    go_wp2_with fail
    refine (H118.out _).mono ?_; rintro e W ⟨rfl, rfl⟩
    cases zv : ((i.ar.length : Int) == 0) with
    | false =>
     go_wp2_with fail
     go_ret
     exact ⟨by simp only [zl, zn, zd, zv, Bool.true_and, Bool.false_and]; rfl, HAL.out⟩
    | true =>
     go_wp2_with fail
     go_ret
     exact ⟨by simp only [zl, zn, zd, zv, Bool.true_and, Bool.false_and]; rfl, HAL.out⟩
theorem empty_5 (i : In) (A : Option Addr) (c : Nat) (w : World) (hz : (i.ar.length : Int) ≤ 281474976710656) :
  Calls Try.prog 168 #[.agg (InV i A c), .string ⟨#[116]⟩] w fun e w' => e = .returned (.bool (emptyB i [116])) ∧ Below w.heap.size w w' := by
 obtain ⟨W, hW⟩ : ∃ W, W = w.alloc (.cells (InV i A c) 90) := ⟨_, rfl⟩
 have hal : Below w.heap.size w W := by rw [hW]; exact (Below.refl _ w).alloc (Nat.le_refl _) _
 have HAL := zh hal
 have hblk : W.heap[w.heap.size]? = some (.cells (InV i A c) 90 (0, 0)) := by rw [hW]; exact heap_alloc_new w _
 obtain ⟨g0, g1, g2, g3, g4, g5, g6, g7, g8⟩ := in_cells hblk
 have H97 := zh (fun w => has_r [116] 97 w (by decide))
 rw [show hasL [116] 97 = false by decide] at H97
 have H98 := zh (fun w => has_r [116] 98 w (by decide))
 rw [show hasL [116] 98 = false by decide] at H98
 have H99 := zh (fun w => has_r [116] 99 w (by decide))
 rw [show hasL [116] 99 = false by decide] at H99
 have H107 := zh (fun w => has_r [116] 107 w (by decide))
 rw [show hasL [116] 107 = false by decide] at H107
 have H116 := zh (fun w => has_r [116] 116 w (by decide))
 rw [show hasL [116] 116 = true by decide] at H116
 have H114 := zh (fun w => has_r [116] 114 w (by decide))
 rw [show hasL [116] 114 = false by decide] at H114
 have H67 := zh (fun w => has_r [116] 67 w (by decide))
 rw [show hasL [116] 67 = false by decide] at H67
 have H70 := zh (fun w => has_r [116] 70 w (by decide))
 rw [show hasL [116] 70 = false by decide] at H70
 have H77 := zh (fun w => has_r [116] 77 w (by decide))
 rw [show hasL [116] 77 = false by decide] at H77
 have H118 := zh (fun w => has_r [116] 118 w (by decide))
 rw [show hasL [116] 118 = false by decide] at H118
 rw [empty_and]
 rw [show hasL [116] 97 = false by decide]
 rw [show hasL [116] 98 = false by decide]
 rw [show hasL [116] 99 = false by decide]
 rw [show hasL [116] 107 = false by decide]
 rw [show hasL [116] 116 = true by decide]
 rw [show hasL [116] 114 = false by decide]
 rw [show hasL [116] 67 = false by decide]
 rw [show hasL [116] 70 = false by decide]
 rw [show hasL [116] 77 = false by decide]
 rw [show hasL [116] 118 = false by decide]
 simp only [Bool.true_or, Bool.or_true, Bool.false_or, Bool.or_false, Bool.true_and, Bool.and_true]
 dsimp only [InV] at hW ⊢
 have HW := zh hW
 clear hal hblk hW
 go_enter Try.func168, Try.ntmps168
 go_wp2_with fail
 rw [← HW.out]
 refine (H67.out _).mono ?_; rintro e W ⟨rfl, rfl⟩
 go_wp2_with fail
 refine (H70.out _).mono ?_; rintro e W ⟨rfl, rfl⟩
 go_wp2_with fail
 refine (H77.out _).mono ?_; rintro e W ⟨rfl, rfl⟩
 go_wp2_with fail
 refine (H70.out _).mono ?_; rintro e W ⟨rfl, rfl⟩
 go_wp2_with fail
 refine (H77.out _).mono ?_; rintro e W ⟨rfl, rfl⟩
 go_wp2_with fail
 refine (H107.out _).mono ?_; rintro e W ⟨rfl, rfl⟩
 go_wp2_with fail
 refine (H116.out _).mono ?_; rintro e W ⟨rfl, rfl⟩
 go_wp2_with fail
 refine (H97.out _).mono ?_; rintro e W ⟨rfl, rfl⟩
 go_simp
 go_step
 go_step
 go_step
 dsimp only [List.append]
 cases za : (i.a == 0) with
 | false =>
  go_wp2_with fail
  go_ret
  exact ⟨by simp only [za, Bool.true_and, Bool.false_and]; rfl, HAL.out⟩
 | true =>
  go_wp2_with fail
  refine (H98.out _).mono ?_; rintro e W ⟨rfl, rfl⟩
  cases zb : (i.b == 0) with
  | false =>
   go_wp2_with fail
   go_ret
   exact ⟨by simp only [za, zb, Bool.true_and, Bool.false_and]; rfl, HAL.out⟩
  | true =>
   go_wp2_with fail
   refine (H99.out _).mono ?_; rintro e W ⟨rfl, rfl⟩
   cases zc : (i.c == 0) with
   | false =>
    go_wp2_with fail
    go_ret
    exact ⟨by simp only [za, zb, zc, Bool.true_and, Bool.false_and]; rfl, HAL.out⟩
   | true =>
    cases zl : (i.cl == []) with
    | false =>
     have zl2 := is_empty_b _ _ zl
     go_wp2_with fail
     go_ret
     exact ⟨by simp only [za, zb, zc, zl, Bool.true_and, Bool.false_and]; rfl, HAL.out⟩
    | true =>
     have zl2 := is_empty_b _ _ zl
     cases zn : (i.nm == []) with
     | false =>
      have zn2 := is_empty_b _ _ zn
      go_wp2_with fail
      go_ret
      exact ⟨by simp only [za, zb, zc, zl, zn, Bool.true_and, Bool.false_and]; rfl, HAL.out⟩
     | true =>
      have zn2 := is_empty_b _ _ zn
      go_wp2_with fail
      refine (H77.out _).mono ?_; rintro e W ⟨rfl, rfl⟩
      cases zd : (i.ds == []) with
      | false =>
       have zd2 := is_empty_b _ _ zd
       go_wp2_with fail
       go_ret
       exact ⟨by simp only [za, zb, zc, zl, zn, zd, Bool.true_and, Bool.false_and]; rfl, HAL.out⟩
      | true =>
       have zd2 := is_empty_b _ _ zd
       go_wp2_with fail
       refine (H118.out _).mono ?_; rintro e W ⟨rfl, rfl⟩
       cases zv : ((i.ar.length : Int) == 0) with
       | false =>
        go_wp2_with fail
        go_ret
        exact ⟨by simp only [za, zb, zc, zl, zn, zd, zv, Bool.true_and, Bool.false_and]; rfl, HAL.out⟩
       | true =>
        go_wp2_with fail
        go_ret
        exact ⟨by simp only [za, zb, zc, zl, zn, zd, zv, Bool.true_and, Bool.false_and]; rfl, HAL.out⟩
theorem empty_6 (i : In) (A : Option Addr) (c : Nat) (w : World) (hz : (i.ar.length : Int) ≤ 281474976710656) :
  Calls Try.prog 168 #[.agg (InV i A c), .string ⟨#[98, 116]⟩] w fun e w' => e = .returned (.bool (emptyB i [98, 116])) ∧ Below w.heap.size w w' := by
 obtain ⟨W, hW⟩ : ∃ W, W = w.alloc (.cells (InV i A c) 90) := ⟨_, rfl⟩
 have hal : Below w.heap.size w W := by rw [hW]; exact (Below.refl _ w).alloc (Nat.le_refl _) _
 have HAL := zh hal
 have hblk : W.heap[w.heap.size]? = some (.cells (InV i A c) 90 (0, 0)) := by rw [hW]; exact heap_alloc_new w _
 obtain ⟨g0, g1, g2, g3, g4, g5, g6, g7, g8⟩ := in_cells hblk
 have H97 := zh (fun w => has_r [98, 116] 97 w (by decide))
 rw [show hasL [98, 116] 97 = false by decide] at H97
 have H98 := zh (fun w => has_r [98, 116] 98 w (by decide))
 rw [show hasL [98, 116] 98 = true by decide] at H98
 have H99 := zh (fun w => has_r [98, 116] 99 w (by decide))
 rw [show hasL [98, 116] 99 = false by decide] at H99
 have H107 := zh (fun w => has_r [98, 116] 107 w (by decide))
 rw [show hasL [98, 116] 107 = false by decide] at H107
 have H116 := zh (fun w => has_r [98, 116] 116 w (by decide))
 rw [show hasL [98, 116] 116 = true by decide] at H116
 have H114 := zh (fun w => has_r [98, 116] 114 w (by decide))
 rw [show hasL [98, 116] 114 = false by decide] at H114
 have H67 := zh (fun w => has_r [98, 116] 67 w (by decide))
 rw [show hasL [98, 116] 67 = false by decide] at H67
 have H70 := zh (fun w => has_r [98, 116] 70 w (by decide))
 rw [show hasL [98, 116] 70 = false by decide] at H70
 have H77 := zh (fun w => has_r [98, 116] 77 w (by decide))
 rw [show hasL [98, 116] 77 = false by decide] at H77
 have H118 := zh (fun w => has_r [98, 116] 118 w (by decide))
 rw [show hasL [98, 116] 118 = false by decide] at H118
 rw [empty_and]
 rw [show hasL [98, 116] 97 = false by decide]
 rw [show hasL [98, 116] 98 = true by decide]
 rw [show hasL [98, 116] 99 = false by decide]
 rw [show hasL [98, 116] 107 = false by decide]
 rw [show hasL [98, 116] 116 = true by decide]
 rw [show hasL [98, 116] 114 = false by decide]
 rw [show hasL [98, 116] 67 = false by decide]
 rw [show hasL [98, 116] 70 = false by decide]
 rw [show hasL [98, 116] 77 = false by decide]
 rw [show hasL [98, 116] 118 = false by decide]
 simp only [Bool.true_or, Bool.or_true, Bool.false_or, Bool.or_false, Bool.true_and, Bool.and_true]
 dsimp only [InV] at hW ⊢
 have HW := zh hW
 clear hal hblk hW
 go_enter Try.func168, Try.ntmps168
 go_wp2_with fail
 rw [← HW.out]
 refine (H67.out _).mono ?_; rintro e W ⟨rfl, rfl⟩
 go_wp2_with fail
 refine (H70.out _).mono ?_; rintro e W ⟨rfl, rfl⟩
 go_wp2_with fail
 refine (H77.out _).mono ?_; rintro e W ⟨rfl, rfl⟩
 go_wp2_with fail
 refine (H70.out _).mono ?_; rintro e W ⟨rfl, rfl⟩
 go_wp2_with fail
 refine (H77.out _).mono ?_; rintro e W ⟨rfl, rfl⟩
 go_wp2_with fail
 refine (H107.out _).mono ?_; rintro e W ⟨rfl, rfl⟩
 go_wp2_with fail
 refine (H116.out _).mono ?_; rintro e W ⟨rfl, rfl⟩
 go_wp2_with fail
 refine (H97.out _).mono ?_; rintro e W ⟨rfl, rfl⟩
 go_simp
 go_step
 go_step
 go_step
 dsimp only [List.append]
 cases za : (i.a == 0) with
 | false =>
  go_wp2_with fail
  go_ret
  exact ⟨by simp only [za, Bool.true_and, Bool.false_and]; rfl, HAL.out⟩
 | true =>
  go_wp2_with fail
  refine (H98.out _).mono ?_; rintro e W ⟨rfl, rfl⟩
  go_wp2_with fail
  refine (H99.out _).mono ?_; rintro e W ⟨rfl, rfl⟩
  cases zc : (i.c == 0) with
  | false =>
   go_wp2_with fail
   go_ret
   exact ⟨by simp only [za, zc, Bool.true_and, Bool.false_and]; rfl, HAL.out⟩
  | true =>
   cases zl : (i.cl == []) with
   | false =>
    have zl2 := is_empty_b _ _ zl
    go_wp2_with fail
    go_ret
    exact ⟨by simp only [za, zc, zl, Bool.true_and, Bool.false_and]; rfl, HAL.out⟩
   | true =>
    have zl2 := is_empty_b _ _ zl
    cases zn : (i.nm == []) with
    | false =>
     have zn2 := is_empty_b _ _ zn
     go_wp2_with fail
     go_ret
     exact ⟨by simp only [za, zc, zl, zn, Bool.true_and, Bool.false_and]; rfl, HAL.out⟩
    | true =>
     have zn2 := is_empty_b _ _ zn
     go_wp2_with fail
     refine (H77.out _).mono ?_; rintro e W ⟨rfl, rfl⟩
     cases zd : (i.ds == []) with
     | false =>
      have zd2 := is_empty_b _ _ zd
      go_wp2_with fail
      go_ret
      exact ⟨by simp only [za, zc, zl, zn, zd, Bool.true_and, Bool.false_and]; rfl, HAL.out⟩
     | true =>
      have zd2 := is_empty_b _ _ zd
      go_wp2_with fail
      refine (H118.out _).mono ?_; rintro e W ⟨rfl, rfl⟩
      cases zv : ((i.ar.length : Int) == 0) with
      | false =>
       go_wp2_with fail
       go_ret
       exact ⟨by simp only [za, zc, zl, zn, zd, zv, Bool.true_and, Bool.false_and]; rfl, HAL.out⟩
      | true =>
       go_wp2_with fail
       go_ret
       exact ⟨by simp only [za, zc, zl, zn, zd, zv, Bool.true_and, Bool.false_and]; rfl, HAL.out⟩
theorem empty_7 (i : In) (A : Option Addr) (c : Nat) (w : World) (hz : (i.ar.length : Int) ≤ 281474976710656) :
  Calls Try.prog 168 #[.agg (InV i A c), .string ⟨#[97, 67]⟩] w fun e w' => e = .returned (.bool (emptyB i [97, 67])) ∧ Below w.heap.size w w' := by
 obtain ⟨W, hW⟩ : ∃ W, W = w.alloc (.cells (InV i A c) 90) := ⟨_, rfl⟩
 have hal : Below w.heap.size w W := by rw [hW]; exact (Below.refl _ w).alloc (Nat.le_refl _) _
 have HAL := zh hal
 have hblk : W.heap[w.heap.size]? = some (.cells (InV i A c) 90 (0, 0)) := by rw [hW]; exact heap_alloc_new w _
 obtain ⟨g0, g1, g2, g3, g4, g5, g6, g7, g8⟩ := in_cells hblk
 have H97 := zh (fun w => has_r [97, 67] 97 w (by decide))
 rw [show hasL [97, 67] 97 = true by decide] at H97
 have H98 := zh (fun w => has_r [97, 67] 98 w (by decide))
 rw [show hasL [97, 67] 98 = false by decide] at H98
 have H99 := zh (fun w => has_r [97, 67] 99 w (by decide))
 rw [show hasL [97, 67] 99 = false by decide] at H99
 have H107 := zh (fun w => has_r [97, 67] 107 w (by decide))
 rw [show hasL [97, 67] 107 = false by decide] at H107
 have H116 := zh (fun w => has_r [97, 67] 116 w (by decide))
 rw [show hasL [97, 67] 116 = false by decide] at H116
 have H114 := zh (fun w => has_r [97, 67] 114 w (by decide))
 rw [show hasL [97, 67] 114 = false by decide] at H114
 have H67 := zh (fun w => has_r [97, 67] 67 w (by decide))
 rw [show hasL [97, 67] 67 = true by decide] at H67
 have H70 := zh (fun w => has_r [97, 67] 70 w (by decide))
 rw [show hasL [97, 67] 70 = false by decide] at H70
 have H77 := zh (fun w => has_r [97, 67] 77 w (by decide))
 rw [show hasL [97, 67] 77 = false by decide] at H77
 have H118 := zh (fun w => has_r [97, 67] 118 w (by decide))
 rw [show hasL [97, 67] 118 = false by decide] at H118
 rw [empty_and]
 rw [show hasL [97, 67] 97 = true by decide]
 rw [show hasL [97, 67] 98 = false by decide]
 rw [show hasL [97, 67] 99 = false by decide]
 rw [show hasL [97, 67] 107 = false by decide]
 rw [show hasL [97, 67] 116 = false by decide]
 rw [show hasL [97, 67] 114 = false by decide]
 rw [show hasL [97, 67] 67 = true by decide]
 rw [show hasL [97, 67] 70 = false by decide]
 rw [show hasL [97, 67] 77 = false by decide]
 rw [show hasL [97, 67] 118 = false by decide]
 simp only [Bool.true_or, Bool.or_true, Bool.false_or, Bool.or_false, Bool.true_and, Bool.and_true]
 dsimp only [InV] at hW ⊢
 have HW := zh hW
 clear hal hblk hW
 go_enter Try.func168, Try.ntmps168
 go_wp2_with fail
 rw [← HW.out]
 refine (H67.out _).mono ?_; rintro e W ⟨rfl, rfl⟩
 go_wp2_with fail
 refine (H70.out _).mono ?_; rintro e W ⟨rfl, rfl⟩
 go_wp2_with fail
 refine (H77.out _).mono ?_; rintro e W ⟨rfl, rfl⟩
 go_wp2_with fail
 refine (H107.out _).mono ?_; rintro e W ⟨rfl, rfl⟩
 go_wp2_with fail
 refine (H116.out _).mono ?_; rintro e W ⟨rfl, rfl⟩
 go_wp2_with fail
 refine (H114.out _).mono ?_; rintro e W ⟨rfl, rfl⟩
 go_wp2_with fail
 refine (H97.out _).mono ?_; rintro e W ⟨rfl, rfl⟩
 go_simp
 go_step
 go_step
 go_step
 dsimp only [List.append]
 go_wp2_with fail
 refine (H98.out _).mono ?_; rintro e W ⟨rfl, rfl⟩
 cases zb : (i.b == 0) with
 | false =>
  go_wp2_with fail
  go_ret
  exact ⟨by simp only [zb, Bool.true_and, Bool.false_and]; rfl, HAL.out⟩
 | true =>
  go_wp2_with fail
  refine (H99.out _).mono ?_; rintro e W ⟨rfl, rfl⟩
  cases zc : (i.c == 0) with
  | false =>
   go_wp2_with fail
   go_ret
   exact ⟨by simp only [zb, zc, Bool.true_and, Bool.false_and]; rfl, HAL.out⟩
  | true =>
   cases zk : (i.k == 0) with
   | false =>
    go_wp2_with fail
    go_ret
    exact ⟨by simp only [zb, zc, zk, Bool.true_and, Bool.false_and]; rfl, HAL.out⟩
   | true =>
    cases zn : (i.nm == []) with
    | false =>
     have zn2 := is_empty_b _ _ zn
     go_wp2_with fail
     go_ret
     exact ⟨by simp only [zb, zc, zk, zn, Bool.true_and, Bool.false_and]; rfl, HAL.out⟩
    | true =>
     have zn2 := is_empty_b _ _ zn
     go_wp2_with fail
     refine (H77.out _).mono ?_; rintro e W ⟨rfl, rfl⟩
     cases zd : (i.ds == []) with
     | false =>
      have zd2 := is_empty_b _ _ zd
      go_wp2_with fail
      go_ret
      exact ⟨by simp only [zb, zc, zk, zn, zd, Bool.true_and, Bool.false_and]; rfl, HAL.out⟩
     | true =>
      have zd2 := is_empty_b _ _ zd
      go_wp2_with fail
      refine (H118.out _).mono ?_; rintro e W ⟨rfl, rfl⟩
      cases zv : ((i.ar.length : Int) == 0) with
      | false =>
       go_wp2_with fail
       go_ret
       exact ⟨by simp only [zb, zc, zk, zn, zd, zv, Bool.true_and, Bool.false_and]; rfl, HAL.out⟩
      | true =>
       go_wp2_with fail
       go_ret
       exact ⟨by simp only [zb, zc, zk, zn, zd, zv, Bool.true_and, Bool.false_and]; rfl, HAL.out⟩
theorem empty_8 (i : In) (A : Option Addr) (c : Nat) (w : World) (hz : (i.ar.length : Int) ≤ 281474976710656) :
  Calls Try.prog 168 #[.agg (InV i A c), .string ⟨#[97, 98, 67]⟩] w fun e w' => e = .returned (.bool (emptyB i [97, 98, 67])) ∧ Below w.heap.size w w' := by
 obtain ⟨W, hW⟩ : ∃ W, W = w.alloc (.cells (InV i A c) 90) := ⟨_, rfl⟩
 have hal : Below w.heap.size w W := by rw [hW]; exact (Below.refl _ w).alloc (Nat.le_refl _) _
 have HAL := zh hal
 have hblk : W.heap[w.heap.size]? = some (.cells (InV i A c) 90 (0, 0)) := by rw [hW]; exact heap_alloc_new w _
 obtain ⟨g0, g1, g2, g3, g4, g5, g6, g7, g8⟩ := in_cells hblk
 have H97 := zh (fun w => has_r [97, 98, 67] 97 w (by decide))
 rw [show hasL [97, 98, 67] 97 = true by decide] at H97
 have H98 := zh (fun w => has_r [97, 98, 67] 98 w (by decide))
 rw [show hasL [97, 98, 67] 98 = true by decide] at H98
 have H99 := zh (fun w => has_r [97, 98, 67] 99 w (by decide))
 rw [show hasL [97, 98, 67] 99 = false by decide] at H99
 have H107 := zh (fun w => has_r [97, 98, 67] 107 w (by decide))
 rw [show hasL [97, 98, 67] 107 = false by decide] at H107
 have H116 := zh (fun w => has_r [97, 98, 67] 116 w (by decide))
 rw [show hasL [97, 98, 67] 116 = false by decide] at H116
 have H114 := zh (fun w => has_r [97, 98, 67] 114 w (by decide))
 rw [show hasL [97, 98, 67] 114 = false by decide] at H114
 have H67 := zh (fun w => has_r [97, 98, 67] 67 w (by decide))
 rw [show hasL [97, 98, 67] 67 = true by decide] at H67
 have H70 := zh (fun w => has_r [97, 98, 67] 70 w (by decide))
 rw [show hasL [97, 98, 67] 70 = false by decide] at H70
 have H77 := zh (fun w => has_r [97, 98, 67] 77 w (by decide))
 rw [show hasL [97, 98, 67] 77 = false by decide] at H77
 have H118 := zh (fun w => has_r [97, 98, 67] 118 w (by decide))
 rw [show hasL [97, 98, 67] 118 = false by decide] at H118
 rw [empty_and]
 rw [show hasL [97, 98, 67] 97 = true by decide]
 rw [show hasL [97, 98, 67] 98 = true by decide]
 rw [show hasL [97, 98, 67] 99 = false by decide]
 rw [show hasL [97, 98, 67] 107 = false by decide]
 rw [show hasL [97, 98, 67] 116 = false by decide]
 rw [show hasL [97, 98, 67] 114 = false by decide]
 rw [show hasL [97, 98, 67] 67 = true by decide]
 rw [show hasL [97, 98, 67] 70 = false by decide]
 rw [show hasL [97, 98, 67] 77 = false by decide]
 rw [show hasL [97, 98, 67] 118 = false by decide]
 simp only [Bool.true_or, Bool.or_true, Bool.false_or, Bool.or_false, Bool.true_and, Bool.and_true]
 dsimp only [InV] at hW ⊢
 have HW := zh hW
 clear hal hblk hW
 go_enter Try.func168, Try.ntmps168
 go_wp2_with fail
 rw [← HW.out]
 refine (H67.out _).mono ?_; rintro e W ⟨rfl, rfl⟩
 go_wp2_with fail
 refine (H70.out _).mono ?_; rintro e W ⟨rfl, rfl⟩
 go_wp2_with fail
 refine (H77.out _).mono ?_; rintro e W ⟨rfl, rfl⟩
 go_wp2_with fail
 refine (H107.out _).mono ?_; rintro e W ⟨rfl, rfl⟩
 go_wp2_with fail
 refine (H116.out _).mono ?_; rintro e W ⟨rfl, rfl⟩
 go_wp2_with fail
 refine (H114.out _).mono ?_; rintro e W ⟨rfl, rfl⟩
 go_wp2_with fail
 refine (H97.out _).mono ?_; rintro e W ⟨rfl, rfl⟩
 go_simp
 go_step
 go_step
 go_step
 dsimp only [List.append]
 go_wp2_with fail
 refine (H98.out _).mono ?_; rintro e W ⟨rfl, rfl⟩
 go_wp2_with fail
 refine (H99.out _).mono ?_; rintro e W ⟨rfl, rfl⟩
 cases zc : (i.c == 0) with
 | false =>
  go_wp2_with fail
  go_ret
  exact ⟨by simp only [zc, Bool.true_and, Bool.false_and]; rfl, HAL.out⟩
 | true =>
  cases zk : (i.k == 0) with
  | false =>
   go_wp2_with fail
   go_ret
   exact ⟨by simp only [zc, zk, Bool.true_and, Bool.false_and]; rfl, HAL.out⟩
  | true =>
   cases zn : (i.nm == []) with
   | false =>
    have zn2 := is_empty_b _ _ zn
    go_wp2_with fail
    go_ret
    exact ⟨by simp only [zc, zk, zn, Bool.true_and, Bool.false_and]; rfl, HAL.out⟩
   | true =>
    have zn2 := is_empty_b _ _ zn
    go_wp2_with fail
    refine (H77.out _).mono ?_; rintro e W ⟨rfl, rfl⟩
    cases zd : (i.ds == []) with
    | false =>
     have zd2 := is_empty_b _ _ zd
     go_wp2_with fail
     go_ret
     exact ⟨by simp only [zc, zk, zn, zd, Bool.true_and, Bool.false_and]; rfl, HAL.out⟩
    | true =>
     have zd2 := is_empty_b _ _ zd
     go_wp2_with fail
     refine (H118.out _).mono ?_; rintro e W ⟨rfl, rfl⟩
     cases zv : ((i.ar.length : Int) == 0) with
     | false =>
      go_wp2_with fail
      go_ret
      exact ⟨by simp only [zc, zk, zn, zd, zv, Bool.true_and, Bool.false_and]; rfl, HAL.out⟩
     | true =>
      go_wp2_with fail
      go_ret
      exact ⟨by simp only [zc, zk, zn, zd, zv, Bool.true_and, Bool.false_and]; rfl, HAL.out⟩
end Go.Proofs.Ytdifmgeicnndfaa.op
namespace Go.Proofs.Ytdifmgeicnndfaa.op
open Go.RowKit
open words kindp opp kind
set_option maxRecDepth 100000
set_option maxHeartbeats 16000000
set_option linter.all false
theorem is_empty_c (s : Tx) (b : Bool) (h : (s == []) = b) : List.isEmpty s = b := by cases s <;> simpa using h
theorem empty_9 (i : In) (A : Option Addr) (c : Nat) (w : World) (hz : (i.ar.length : Int) ≤ 281474976710656) :
  Calls Try.prog 168 #[.agg (InV i A c), .string ⟨#[97, 98, 99]⟩] w fun e w' => e = .returned (.bool (emptyB i [97, 98, 99])) ∧ Below w.heap.size w w' := by
 obtain ⟨W, hW⟩ : ∃ W, W = w.alloc (.cells (InV i A c) 90) := ⟨_, rfl⟩
 have hal : Below w.heap.size w W := by rw [hW]; exact (Below.refl _ w).alloc (Nat.le_refl _) _
 have HAL := zh hal
 have hblk : W.heap[w.heap.size]? = some (.cells (InV i A c) 90 (0, 0)) := by rw [hW]; exact heap_alloc_new w _
 obtain ⟨g0, g1, g2, g3, g4, g5, g6, g7, g8⟩ := in_cells hblk
 have H97 := zh (fun w => has_r [97, 98, 99] 97 w (by decide))
 rw [show hasL [97, 98, 99] 97 = true by decide] at H97
 have H98 := zh (fun w => has_r [97, 98, 99] 98 w (by decide))
 rw [show hasL [97, 98, 99] 98 = true by decide] at H98
 have H99 := zh (fun w => has_r [97, 98, 99] 99 w (by decide))
 rw [show hasL [97, 98, 99] 99 = true by decide] at H99
 have H107 := zh (fun w => has_r [97, 98, 99] 107 w (by decide))
 rw [show hasL [97, 98, 99] 107 = false by decide] at H107
 have H116 := zh (fun w => has_r [97, 98, 99] 116 w (by decide))
 rw [show hasL [97, 98, 99] 116 = false by decide] at H116
 have H114 := zh (fun w => has_r [97, 98, 99] 114 w (by decide))
 rw [show hasL [97, 98, 99] 114 = false by decide] at H114
 have H67 := zh (fun w => has_r [97, 98, 99] 67 w (by decide))
 rw [show hasL [97, 98, 99] 67 = false by decide] at H67
 have H70 := zh (fun w => has_r [97, 98, 99] 70 w (by decide))
 rw [show hasL [97, 98, 99] 70 = false by decide] at H70
 have H77 := zh (fun w => has_r [97, 98, 99] 77 w (by decide))
 rw [show hasL [97, 98, 99] 77 = false by decide] at H77
 have H118 := zh (fun w => has_r [97, 98, 99] 118 w (by decide))
 rw [show hasL [97, 98, 99] 118 = false by decide] at H118
 rw [empty_and]
 rw [show hasL [97, 98, 99] 97 = true by decide]
 rw [show hasL [97, 98, 99] 98 = true by decide]
 rw [show hasL [97, 98, 99] 99 = true by decide]
 rw [show hasL [97, 98, 99] 107 = false by decide]
 rw [show hasL [97, 98, 99] 116 = false by decide]
 rw [show hasL [97, 98, 99] 114 = false by decide]
 rw [show hasL [97, 98, 99] 67 = false by decide]
 rw [show hasL [97, 98, 99] 70 = false by decide]
 rw [show hasL [97, 98, 99] 77 = false by decide]
 rw [show hasL [97, 98, 99] 118 = false by decide]
 simp only [Bool.true_or, Bool.or_true, Bool.false_or, Bool.or_false, Bool.true_and, Bool.and_true]
 dsimp only [InV] at hW ⊢
 have HW := zh hW
 clear hal hblk hW
 go_enter Try.func168, Try.ntmps168
 go_wp2_with fail
 rw [← HW.out]
 refine (H67.out _).mono ?_; rintro e W ⟨rfl, rfl⟩
 go_wp2_with fail
 refine (H70.out _).mono ?_; rintro e W ⟨rfl, rfl⟩
 go_wp2_with fail
 refine (H77.out _).mono ?_; rintro e W ⟨rfl, rfl⟩
 go_wp2_with fail
 refine (H70.out _).mono ?_; rintro e W ⟨rfl, rfl⟩
 go_wp2_with fail
 refine (H77.out _).mono ?_; rintro e W ⟨rfl, rfl⟩
 go_wp2_with fail
 refine (H107.out _).mono ?_; rintro e W ⟨rfl, rfl⟩
 go_wp2_with fail
 refine (H116.out _).mono ?_; rintro e W ⟨rfl, rfl⟩
 go_wp2_with fail
 refine (H114.out _).mono ?_; rintro e W ⟨rfl, rfl⟩
 go_wp2_with fail
 refine (H97.out _).mono ?_; rintro e W ⟨rfl, rfl⟩
 go_simp
 go_step
 go_step
 go_step
 dsimp only [List.append]
 go_wp2_with fail
 refine (H98.out _).mono ?_; rintro e W ⟨rfl, rfl⟩
 go_wp2_with fail
 refine (H99.out _).mono ?_; rintro e W ⟨rfl, rfl⟩
 cases zk : (i.k == 0) with
 | false =>
  go_wp2_with fail
  go_ret
  exact ⟨by simp only [zk, Bool.true_and, Bool.false_and]; rfl, HAL.out⟩
 | true =>
  cases zl : (i.cl == []) with
  | false =>
   have zl2 := is_empty_c _ _ zl
   go_wp2_with fail
   go_ret
   exact ⟨by simp only [zk, zl, Bool.true_and, Bool.false_and]; rfl, HAL.out⟩
  | true =>
   have zl2 := is_empty_c _ _ zl
   cases zn : (i.nm == []) with
   | false =>
    have zn2 := is_empty_c _ _ zn
    go_wp2_with fail
    go_ret
    exact ⟨by simp only [zk, zl, zn, Bool.true_and, Bool.false_and]; rfl, HAL.out⟩
   | true =>
    have zn2 := is_empty_c _ _ zn
    go_wp2_with fail
    refine (H77.out _).mono ?_; rintro e W ⟨rfl, rfl⟩
    cases zd : (i.ds == []) with
    | false =>
     have zd2 := is_empty_c _ _ zd
     go_wp2_with fail
     go_ret
     exact ⟨by simp only [zk, zl, zn, zd, Bool.true_and, Bool.false_and]; rfl, HAL.out⟩
    | true =>
     have zd2 := is_empty_c _ _ zd
     go_wp2_with fail
     refine (H118.out _).mono ?_; rintro e W ⟨rfl, rfl⟩
     cases zv : ((i.ar.length : Int) == 0) with
     | false =>
      go_wp2_with fail
      go_ret
      exact ⟨by simp only [zk, zl, zn, zd, zv, Bool.true_and, Bool.false_and]; rfl, HAL.out⟩
     | true =>
      go_wp2_with fail
      go_ret
      exact ⟨by simp only [zk, zl, zn, zd, zv, Bool.true_and, Bool.false_and]; rfl, HAL.out⟩
theorem empty_10 (i : In) (A : Option Addr) (c : Nat) (w : World) (hz : (i.ar.length : Int) ≤ 281474976710656) :
  Calls Try.prog 168 #[.agg (InV i A c), .string ⟨#[97, 98, 70]⟩] w fun e w' => e = .returned (.bool (emptyB i [97, 98, 70])) ∧ Below w.heap.size w w' := by
 obtain ⟨W, hW⟩ : ∃ W, W = w.alloc (.cells (InV i A c) 90) := ⟨_, rfl⟩
 have hal : Below w.heap.size w W := by rw [hW]; exact (Below.refl _ w).alloc (Nat.le_refl _) _
 have HAL := zh hal
 have hblk : W.heap[w.heap.size]? = some (.cells (InV i A c) 90 (0, 0)) := by rw [hW]; exact heap_alloc_new w _
 obtain ⟨g0, g1, g2, g3, g4, g5, g6, g7, g8⟩ := in_cells hblk
 have H97 := zh (fun w => has_r [97, 98, 70] 97 w (by decide))
 rw [show hasL [97, 98, 70] 97 = true by decide] at H97
 have H98 := zh (fun w => has_r [97, 98, 70] 98 w (by decide))
 rw [show hasL [97, 98, 70] 98 = true by decide] at H98
 have H99 := zh (fun w => has_r [97, 98, 70] 99 w (by decide))
 rw [show hasL [97, 98, 70] 99 = false by decide] at H99
 have H107 := zh (fun w => has_r [97, 98, 70] 107 w (by decide))
 rw [show hasL [97, 98, 70] 107 = false by decide] at H107
 have H116 := zh (fun w => has_r [97, 98, 70] 116 w (by decide))
 rw [show hasL [97, 98, 70] 116 = false by decide] at H116
 have H114 := zh (fun w => has_r [97, 98, 70] 114 w (by decide))
 rw [show hasL [97, 98, 70] 114 = false by decide] at H114
 have H67 := zh (fun w => has_r [97, 98, 70] 67 w (by decide))
 rw [show hasL [97, 98, 70] 67 = false by decide] at H67
 have H70 := zh (fun w => has_r [97, 98, 70] 70 w (by decide))
 rw [show hasL [97, 98, 70] 70 = true by decide] at H70
 have H77 := zh (fun w => has_r [97, 98, 70] 77 w (by decide))
 rw [show hasL [97, 98, 70] 77 = false by decide] at H77
 have H118 := zh (fun w => has_r [97, 98, 70] 118 w (by decide))
 rw [show hasL [97, 98, 70] 118 = false by decide] at H118
 rw [empty_and]
 rw [show hasL [97, 98, 70] 97 = true by decide]
 rw [show hasL [97, 98, 70] 98 = true by decide]
 rw [show hasL [97, 98, 70] 99 = false by decide]
 rw [show hasL [97, 98, 70] 107 = false by decide]
 rw [show hasL [97, 98, 70] 116 = false by decide]
 rw [show hasL [97, 98, 70] 114 = false by decide]
 rw [show hasL [97, 98, 70] 67 = false by decide]
 rw [show hasL [97, 98, 70] 70 = true by decide]
 rw [show hasL [97, 98, 70] 77 = false by decide]
 rw [show hasL [97, 98, 70] 118 = false by decide]
 simp only [Bool.true_or, Bool.or_true, Bool.false_or, Bool.or_false, Bool.true_and, Bool.and_true]
 dsimp only [InV] at hW ⊢
 have HW := zh hW
 clear hal hblk hW
 go_enter Try.func168, Try.ntmps168
 go_wp2_with fail
 rw [← HW.out]
 refine (H67.out _).mono ?_; rintro e W ⟨rfl, rfl⟩
 go_wp2_with fail
 refine (H70.out _).mono ?_; rintro e W ⟨rfl, rfl⟩
 go_wp2_with fail
 refine (H70.out _).mono ?_; rintro e W ⟨rfl, rfl⟩
 go_wp2_with fail
 refine (H107.out _).mono ?_; rintro e W ⟨rfl, rfl⟩
 go_wp2_with fail
 refine (H116.out _).mono ?_; rintro e W ⟨rfl, rfl⟩
 go_wp2_with fail
 refine (H114.out _).mono ?_; rintro e W ⟨rfl, rfl⟩
 go_wp2_with fail
 refine (H97.out _).mono ?_; rintro e W ⟨rfl, rfl⟩
 go_simp
 go_step
 go_step
 go_step
 dsimp only [List.append]
 go_wp2_with fail
 refine (H98.out _).mono ?_; rintro e W ⟨rfl, rfl⟩
 go_wp2_with fail
 refine (H99.out _).mono ?_; rintro e W ⟨rfl, rfl⟩
 cases zc : (i.c == 0) with
 | false =>
  go_wp2_with fail
  go_ret
  exact ⟨by simp only [zc, Bool.true_and, Bool.false_and]; rfl, HAL.out⟩
 | true =>
  cases zk : (i.k == 0) with
  | false =>
   go_wp2_with fail
   go_ret
   exact ⟨by simp only [zc, zk, Bool.true_and, Bool.false_and]; rfl, HAL.out⟩
  | true =>
   go_wp2_with fail
   refine (H77.out _).mono ?_; rintro e W ⟨rfl, rfl⟩
   cases zd : (i.ds == []) with
   | false =>
    have zd2 := is_empty_c _ _ zd
    go_wp2_with fail
    go_ret
    exact ⟨by simp only [zc, zk, zd, Bool.true_and, Bool.false_and]; rfl, HAL.out⟩
   | true =>
    have zd2 := is_empty_c _ _ zd
    go_wp2_with fail
    refine (H118.out _).mono ?_; rintro e W ⟨rfl, rfl⟩
    cases zv : ((i.ar.length : Int) == 0) with
    | false =>
     go_wp2_with fail
     go_ret
     exact ⟨by simp only [zc, zk, zd, zv, Bool.true_and, Bool.false_and]; rfl, HAL.out⟩
    | true =>
     go_wp2_with fail
     go_ret
     exact ⟨by simp only [zc, zk, zd, zv, Bool.true_and, Bool.false_and]; rfl, HAL.out⟩
theorem empty_11 (i : In) (A : Option Addr) (c : Nat) (w : World) (hz : (i.ar.length : Int) ≤ 281474976710656) :
  Calls Try.prog 168 #[.agg (InV i A c), .string ⟨#[98, 99, 70]⟩] w fun e w' => e = .returned (.bool (emptyB i [98, 99, 70])) ∧ Below w.heap.size w w' := by
 obtain ⟨W, hW⟩ : ∃ W, W = w.alloc (.cells (InV i A c) 90) := ⟨_, rfl⟩
 have hal : Below w.heap.size w W := by rw [hW]; exact (Below.refl _ w).alloc (Nat.le_refl _) _
 have HAL := zh hal
 have hblk : W.heap[w.heap.size]? = some (.cells (InV i A c) 90 (0, 0)) := by rw [hW]; exact heap_alloc_new w _
 obtain ⟨g0, g1, g2, g3, g4, g5, g6, g7, g8⟩ := in_cells hblk
 have H97 := zh (fun w => has_r [98, 99, 70] 97 w (by decide))
 rw [show hasL [98, 99, 70] 97 = false by decide] at H97
 have H98 := zh (fun w => has_r [98, 99, 70] 98 w (by decide))
 rw [show hasL [98, 99, 70] 98 = true by decide] at H98
 have H99 := zh (fun w => has_r [98, 99, 70] 99 w (by decide))
 rw [show hasL [98, 99, 70] 99 = true by decide] at H99
 have H107 := zh (fun w => has_r [98, 99, 70] 107 w (by decide))
 rw [show hasL [98, 99, 70] 107 = false by decide] at H107
 have H116 := zh (fun w => has_r [98, 99, 70] 116 w (by decide))
 rw [show hasL [98, 99, 70] 116 = false by decide] at H116
 have H114 := zh (fun w => has_r [98, 99, 70] 114 w (by decide))
 rw [show hasL [98, 99, 70] 114 = false by decide] at H114
 have H67 := zh (fun w => has_r [98, 99, 70] 67 w (by decide))
 rw [show hasL [98, 99, 70] 67 = false by decide] at H67
 have H70 := zh (fun w => has_r [98, 99, 70] 70 w (by decide))
 rw [show hasL [98, 99, 70] 70 = true by decide] at H70
 have H77 := zh (fun w => has_r [98, 99, 70] 77 w (by decide))
 rw [show hasL [98, 99, 70] 77 = false by decide] at H77
 have H118 := zh (fun w => has_r [98, 99, 70] 118 w (by decide))
 rw [show hasL [98, 99, 70] 118 = false by decide] at H118
 rw [empty_and]
 rw [show hasL [98, 99, 70] 97 = false by decide]
 rw [show hasL [98, 99, 70] 98 = true by decide]
 rw [show hasL [98, 99, 70] 99 = true by decide]
 rw [show hasL [98, 99, 70] 107 = false by decide]
 rw [show hasL [98, 99, 70] 116 = false by decide]
 rw [show hasL [98, 99, 70] 114 = false by decide]
 rw [show hasL [98, 99, 70] 67 = false by decide]
 rw [show hasL [98, 99, 70] 70 = true by decide]
 rw [show hasL [98, 99, 70] 77 = false by decide]
 rw [show hasL [98, 99, 70] 118 = false by decide]
 simp only [Bool.true_or, Bool.or_true, Bool.false_or, Bool.or_false, Bool.true_and, Bool.and_true]
 dsimp only [InV] at hW ⊢
 have HW := zh hW
 clear hal hblk hW
 go_enter Try.func168, Try.ntmps168
 go_wp2_with fail
 rw [← HW.out]
 refine (H67.out _).mono ?_; rintro e W ⟨rfl, rfl⟩
 go_wp2_with fail
 refine (H70.out _).mono ?_; rintro e W ⟨rfl, rfl⟩
 go_wp2_with fail
 refine (H70.out _).mono ?_; rintro e W ⟨rfl, rfl⟩
 go_wp2_with fail
 refine (H107.out _).mono ?_; rintro e W ⟨rfl, rfl⟩
 go_wp2_with fail
 refine (H116.out _).mono ?_; rintro e W ⟨rfl, rfl⟩
 go_wp2_with fail
 refine (H114.out _).mono ?_; rintro e W ⟨rfl, rfl⟩
 go_wp2_with fail
 refine (H97.out _).mono ?_; rintro e W ⟨rfl, rfl⟩
 go_simp
 go_step
 go_step
 go_step
 dsimp only [List.append]
 cases za : (i.a == 0) with
 | false =>
  go_wp2_with fail
  go_ret
  exact ⟨by simp only [za, Bool.true_and, Bool.false_and]; rfl, HAL.out⟩
 | true =>
  go_wp2_with fail
  refine (H98.out _).mono ?_; rintro e W ⟨rfl, rfl⟩
  go_wp2_with fail
  refine (H99.out _).mono ?_; rintro e W ⟨rfl, rfl⟩
  cases zk : (i.k == 0) with
  | false =>
   go_wp2_with fail
   go_ret
   exact ⟨by simp only [za, zk, Bool.true_and, Bool.false_and]; rfl, HAL.out⟩
  | true =>
   go_wp2_with fail
   refine (H77.out _).mono ?_; rintro e W ⟨rfl, rfl⟩
   cases zd : (i.ds == []) with
   | false =>
    have zd2 := is_empty_c _ _ zd
    go_wp2_with fail
    go_ret
    exact ⟨by simp only [za, zk, zd, Bool.true_and, Bool.false_and]; rfl, HAL.out⟩
   | true =>
    have zd2 := is_empty_c _ _ zd
    go_wp2_with fail
    refine (H118.out _).mono ?_; rintro e W ⟨rfl, rfl⟩
    cases zv : ((i.ar.length : Int) == 0) with
    | false =>
     go_wp2_with fail
     go_ret
     exact ⟨by simp only [za, zk, zd, zv, Bool.true_and, Bool.false_and]; rfl, HAL.out⟩
    | true =>
     go_wp2_with fail
     go_ret
     exact ⟨by simp only [za, zk, zd, zv, Bool.true_and, Bool.false_and]; rfl, HAL.out⟩
theorem empty_12 (i : In) (A : Option Addr) (c : Nat) (w : World) (hz : (i.ar.length : Int) ≤ 281474976710656) :
  Calls Try.prog 168 #[.agg (InV i A c), .string ⟨#[97, 70]⟩] w fun e w' => e = .returned (.bool (emptyB i [97, 70])) ∧ Below w.heap.size w w' := by
 obtain ⟨W, hW⟩ : ∃ W, W = w.alloc (.cells (InV i A c) 90) := ⟨_, rfl⟩
 have hal : Below w.heap.size w W := by rw [hW]; exact (Below.refl _ w).alloc (Nat.le_refl _) _
 have HAL := zh hal
 have hblk : W.heap[w.heap.size]? = some (.cells (InV i A c) 90 (0, 0)) := by rw [hW]; exact heap_alloc_new w _
 obtain ⟨g0, g1, g2, g3, g4, g5, g6, g7, g8⟩ := in_cells hblk
 have H97 := zh (fun w => has_r [97, 70] 97 w (by decide))
 rw [show hasL [97, 70] 97 = true by decide] at H97
 have H98 := zh (fun w => has_r [97, 70] 98 w (by decide))
 rw [show hasL [97, 70] 98 = false by decide] at H98
 have H99 := zh (fun w => has_r [97, 70] 99 w (by decide))
 rw [show hasL [97, 70] 99 = false by decide] at H99
 have H107 := zh (fun w => has_r [97, 70] 107 w (by decide))
 rw [show hasL [97, 70] 107 = false by decide] at H107
 have H116 := zh (fun w => has_r [97, 70] 116 w (by decide))
 rw [show hasL [97, 70] 116 = false by decide] at H116
 have H114 := zh (fun w => has_r [97, 70] 114 w (by decide))
 rw [show hasL [97, 70] 114 = false by decide] at H114
 have H67 := zh (fun w => has_r [97, 70] 67 w (by decide))
 rw [show hasL [97, 70] 67 = false by decide] at H67
 have H70 := zh (fun w => has_r [97, 70] 70 w (by decide))
 rw [show hasL [97, 70] 70 = true by decide] at H70
 have H77 := zh (fun w => has_r [97, 70] 77 w (by decide))
 rw [show hasL [97, 70] 77 = false by decide] at H77
 have H118 := zh (fun w => has_r [97, 70] 118 w (by decide))
 rw [show hasL [97, 70] 118 = false by decide] at H118
 rw [empty_and]
 rw [show hasL [97, 70] 97 = true by decide]
 rw [show hasL [97, 70] 98 = false by decide]
 rw [show hasL [97, 70] 99 = false by decide]
 rw [show hasL [97, 70] 107 = false by decide]
 rw [show hasL [97, 70] 116 = false by decide]
 rw [show hasL [97, 70] 114 = false by decide]
 rw [show hasL [97, 70] 67 = false by decide]
 rw [show hasL [97, 70] 70 = true by decide]
 rw [show hasL [97, 70] 77 = false by decide]
 rw [show hasL [97, 70] 118 = false by decide]
 simp only [Bool.true_or, Bool.or_true, Bool.false_or, Bool.or_false, Bool.true_and, Bool.and_true]
 dsimp only [InV] at hW ⊢
 have HW := zh hW
 clear hal hblk hW
 go_enter Try.func168, Try.ntmps168
 go_wp2_with fail
 rw [← HW.out]
 refine (H67.out _).mono ?_; rintro e W ⟨rfl, rfl⟩
 go_wp2_with fail
 refine (H70.out _).mono ?_; rintro e W ⟨rfl, rfl⟩
 go_wp2_with fail
 refine (H70.out _).mono ?_; rintro e W ⟨rfl, rfl⟩
 go_wp2_with fail
 refine (H107.out _).mono ?_; rintro e W ⟨rfl, rfl⟩
 go_wp2_with fail
 refine (H116.out _).mono ?_; rintro e W ⟨rfl, rfl⟩
 go_wp2_with fail
 refine (H114.out _).mono ?_; rintro e W ⟨rfl, rfl⟩
 go_wp2_with fail
 refine (H97.out _).mono ?_; rintro e W ⟨rfl, rfl⟩
 go_simp
 go_step
 go_step
 go_step
 dsimp only [List.append]
 go_wp2_with fail
 refine (H98.out _).mono ?_; rintro e W ⟨rfl, rfl⟩
 cases zb : (i.b == 0) with
 | false =>
  go_wp2_with fail
  go_ret
  exact ⟨by simp only [zb, Bool.true_and, Bool.false_and]; rfl, HAL.out⟩
 | true =>
  go_wp2_with fail
  refine (H99.out _).mono ?_; rintro e W ⟨rfl, rfl⟩
  cases zc : (i.c == 0) with
  | false =>
   go_wp2_with fail
   go_ret
   exact ⟨by simp only [zb, zc, Bool.true_and, Bool.false_and]; rfl, HAL.out⟩
  | true =>
   cases zk : (i.k == 0) with
   | false =>
    go_wp2_with fail
    go_ret
    exact ⟨by simp only [zb, zc, zk, Bool.true_and, Bool.false_and]; rfl, HAL.out⟩
   | true =>
    go_wp2_with fail
    refine (H77.out _).mono ?_; rintro e W ⟨rfl, rfl⟩
    cases zd : (i.ds == []) with
    | false =>
     have zd2 := is_empty_c _ _ zd
     go_wp2_with fail
     go_ret
     exact ⟨by simp only [zb, zc, zk, zd, Bool.true_and, Bool.false_and]; rfl, HAL.out⟩
    | true =>
     have zd2 := is_empty_c _ _ zd
     go_wp2_with fail
     refine (H118.out _).mono ?_; rintro e W ⟨rfl, rfl⟩
     cases zv : ((i.ar.length : Int) == 0) with
     | false =>
      go_wp2_with fail
      go_ret
      exact ⟨by simp only [zb, zc, zk, zd, zv, Bool.true_and, Bool.false_and]; rfl, HAL.out⟩
     | true =>
      go_wp2_with fail
      go_ret
      exact ⟨by simp only [zb, zc, zk, zd, zv, Bool.true_and, Bool.false_and]; rfl, HAL.out⟩
theorem empty_13 (i : In) (A : Option Addr) (c : Nat) (w : World) (hz : (i.ar.length : Int) ≤ 281474976710656) :
  Calls Try.prog 168 #[.agg (InV i A c), .string ⟨#[99, 70]⟩] w fun e w' => e = .returned (.bool (emptyB i [99, 70])) ∧ Below w.heap.size w w' := by
 obtain ⟨W, hW⟩ : ∃ W, W = w.alloc (.cells (InV i A c) 90) := ⟨_, rfl⟩
 have hal : Below w.heap.size w W := by rw [hW]; exact (Below.refl _ w).alloc (Nat.le_refl _) _
 have HAL := zh hal
 have hblk : W.heap[w.heap.size]? = some (.cells (InV i A c) 90 (0, 0)) := by rw [hW]; exact heap_alloc_new w _
 obtain ⟨g0, g1, g2, g3, g4, g5, g6, g7, g8⟩ := in_cells hblk
 have H97 := zh (fun w => has_r [99, 70] 97 w (by decide))
 rw [show hasL [99, 70] 97 = false by decide] at H97
 have H98 := zh (fun w => has_r [99, 70] 98 w (by decide))
 rw [show hasL [99, 70] 98 = false by decide] at H98
 have H99 := zh (fun w => has_r [99, 70] 99 w (by decide))
 rw [show hasL [99, 70] 99 = true by decide] at H99
 have H107 := zh (fun w => has_r [99, 70] 107 w (by decide))
 rw [show hasL [99, 70] 107 = false by decide] at H107
 have H116 := zh (fun w => has_r [99, 70] 116 w (by decide))
 rw [show hasL [99, 70] 116 = false by decide] at H116
 have H114 := zh (fun w => has_r [99, 70] 114 w (by decide))
 rw [show hasL [99, 70] 114 = false by decide] at H114
 have H67 := zh (fun w => has_r [99, 70] 67 w (by decide))
 rw [show hasL [99, 70] 67 = false by decide] at H67
 have H70 := zh (fun w => has_r [99, 70] 70 w (by decide))
 rw [show hasL [99, 70] 70 = true by decide] at H70
 have H77 := zh (fun w => has_r [99, 70] 77 w (by decide))
 rw [show hasL [99, 70] 77 = false by decide] at H77
 have H118 := zh (fun w => has_r [99, 70] 118 w (by decide))
 rw [show hasL [99, 70] 118 = false by decide] at H118
 rw [empty_and]
 rw [show hasL [99, 70] 97 = false by decide]
 rw [show hasL [99, 70] 98 = false by decide]
 rw [show hasL [99, 70] 99 = true by decide]
 rw [show hasL [99, 70] 107 = false by decide]
 rw [show hasL [99, 70] 116 = false by decide]
 rw [show hasL [99, 70] 114 = false by decide]
 rw [show hasL [99, 70] 67 = false by decide]
 rw [show hasL [99, 70] 70 = true by decide]
 rw [show hasL [99, 70] 77 = false by decide]
 rw [show hasL [99, 70] 118 = false by decide]
 simp only [Bool.true_or, Bool.or_true, Bool.false_or, Bool.or_false, Bool.true_and, Bool.and_true]
 dsimp only [InV] at hW ⊢
 have HW := zh hW
 clear hal hblk hW
 go_enter Try.func168, Try.ntmps168
 go_wp2_with fail
 rw [← HW.out]
 refine (H67.out _).mono ?_; rintro e W ⟨rfl, rfl⟩
 go_wp2_with fail
 refine (H70.out _).mono ?_; rintro e W ⟨rfl, rfl⟩
 go_wp2_with fail
 refine (H70.out _).mono ?_; rintro e W ⟨rfl, rfl⟩
 go_wp2_with fail
 refine (H107.out _).mono ?_; rintro e W ⟨rfl, rfl⟩
 go_wp2_with fail
 refine (H116.out _).mono ?_; rintro e W ⟨rfl, rfl⟩
 go_wp2_with fail
 refine (H114.out _).mono ?_; rintro e W ⟨rfl, rfl⟩
 go_wp2_with fail
 refine (H97.out _).mono ?_; rintro e W ⟨rfl, rfl⟩
 go_simp
 go_step
 go_step
 go_step
 dsimp only [List.append]
 cases za : (i.a == 0) with
 | false =>
  go_wp2_with fail
  go_ret
  exact ⟨by simp only [za, Bool.true_and, Bool.false_and]; rfl, HAL.out⟩
 | true =>
  go_wp2_with fail
  refine (H98.out _).mono ?_; rintro e W ⟨rfl, rfl⟩
  cases zb : (i.b == 0) with
  | false =>
   go_wp2_with fail
   go_ret
   exact ⟨by simp only [za, zb, Bool.true_and, Bool.false_and]; rfl, HAL.out⟩
  | true =>
   go_wp2_with fail
   refine (H99.out _).mono ?_; rintro e W ⟨rfl, rfl⟩
   cases zk : (i.k == 0) with
   | false =>
    go_wp2_with fail
    go_ret
    exact ⟨by simp only [za, zb, zk, Bool.true_and, Bool.false_and]; rfl, HAL.out⟩
   | true =>
    go_wp2_with fail
    refine (H77.out _).mono ?_; rintro e W ⟨rfl, rfl⟩
    cases zd : (i.ds == []) with
    | false =>
     have zd2 := is_empty_c _ _ zd
     go_wp2_with fail
     go_ret
     exact ⟨by simp only [za, zb, zk, zd, Bool.true_and, Bool.false_and]; rfl, HAL.out⟩
    | true =>
     have zd2 := is_empty_c _ _ zd
     go_wp2_with fail
     refine (H118.out _).mono ?_; rintro e W ⟨rfl, rfl⟩
     cases zv : ((i.ar.length : Int) == 0) with
     | false =>
      go_wp2_with fail
      go_ret
      exact ⟨by simp only [za, zb, zk, zd, zv, Bool.true_and, Bool.false_and]; rfl, HAL.out⟩
     | true =>
      go_wp2_with fail
      go_ret
      exact ⟨by simp only [za, zb, zk, zd, zv, Bool.true_and, Bool.false_and]; rfl, HAL.out⟩
end Go.Proofs.Ytdifmgeicnndfaa.op
namespace Go.Proofs.Ytdifmgeicnndfaa.op
open Go.RowKit
open words kindp opp kind
set_option maxRecDepth 100000
set_option maxHeartbeats 16000000
set_option linter.all false
theorem is_empty_d (s : Tx) (b : Bool) (h : (s == []) = b) : List.isEmpty s = b := by cases s <;> simpa using h
theorem empty_14 (i : In) (A : Option Addr) (c : Nat) (w : World) (hz : (i.ar.length : Int) ≤ 281474976710656) :
  Calls Try.prog 168 #[.agg (InV i A c), .string ⟨#[97, 77, 118]⟩] w fun e w' => e = .returned (.bool (emptyB i [97, 77, 118])) ∧ Below w.heap.size w w' := by
 obtain ⟨W, hW⟩ : ∃ W, W = w.alloc (.cells (InV i A c) 90) := ⟨_, rfl⟩
 have hal : Below w.heap.size w W := by rw [hW]; exact (Below.refl _ w).alloc (Nat.le_refl _) _
 have HAL := zh hal
 have hblk : W.heap[w.heap.size]? = some (.cells (InV i A c) 90 (0, 0)) := by rw [hW]; exact heap_alloc_new w _
 obtain ⟨g0, g1, g2, g3, g4, g5, g6, g7, g8⟩ := in_cells hblk
 have H97 := zh (fun w => has_r [97, 77, 118] 97 w (by decide))
 rw [show hasL [97, 77, 118] 97 = true by decide] at H97
 have H98 := zh (fun w => has_r [97, 77, 118] 98 w (by decide))
 rw [show hasL [97, 77, 118] 98 = false by decide] at H98
 have H99 := zh (fun w => has_r [97, 77, 118] 99 w (by decide))
 rw [show hasL [97, 77, 118] 99 = false by decide] at H99
 have H107 := zh (fun w => has_r [97, 77, 118] 107 w (by decide))
 rw [show hasL [97, 77, 118] 107 = false by decide] at H107
 have H116 := zh (fun w => has_r [97, 77, 118] 116 w (by decide))
 rw [show hasL [97, 77, 118] 116 = false by decide] at H116
 have H114 := zh (fun w => has_r [97, 77, 118] 114 w (by decide))
 rw [show hasL [97, 77, 118] 114 = false by decide] at H114
 have H67 := zh (fun w => has_r [97, 77, 118] 67 w (by decide))
 rw [show hasL [97, 77, 118] 67 = false by decide] at H67
 have H70 := zh (fun w => has_r [97, 77, 118] 70 w (by decide))
 rw [show hasL [97, 77, 118] 70 = false by decide] at H70
 have H77 := zh (fun w => has_r [97, 77, 118] 77 w (by decide))
 rw [show hasL [97, 77, 118] 77 = true by decide] at H77
 have H118 := zh (fun w => has_r [97, 77, 118] 118 w (by decide))
 rw [show hasL [97, 77, 118] 118 = true by decide] at H118
 rw [empty_and]
 rw [show hasL [97, 77, 118] 97 = true by decide]
 rw [show hasL [97, 77, 118] 98 = false by decide]
 rw [show hasL [97, 77, 118] 99 = false by decide]
 rw [show hasL [97, 77, 118] 107 = false by decide]
 rw [show hasL [97, 77, 118] 116 = false by decide]
 rw [show hasL [97, 77, 118] 114 = false by decide]
 rw [show hasL [97, 77, 118] 67 = false by decide]
 rw [show hasL [97, 77, 118] 70 = false by decide]
 rw [show hasL [97, 77, 118] 77 = true by decide]
 rw [show hasL [97, 77, 118] 118 = true by decide]
 simp only [Bool.true_or, Bool.or_true, Bool.false_or, Bool.or_false, Bool.true_and, Bool.and_true]
 dsimp only [InV] at hW ⊢
 have HW := zh hW
 clear hal hblk hW
 go_enter Try.func168, Try.ntmps168
 go_wp2_with fail
 rw [← HW.out]
 refine (H67.out _).mono ?_; rintro e W ⟨rfl, rfl⟩
 go_wp2_with fail
 refine (H70.out _).mono ?_; rintro e W ⟨rfl, rfl⟩
 go_wp2_with fail
 refine (H77.out _).mono ?_; rintro e W ⟨rfl, rfl⟩
 go_wp2_with fail
 refine (H70.out _).mono ?_; rintro e W ⟨rfl, rfl⟩
 go_wp2_with fail
 refine (H77.out _).mono ?_; rintro e W ⟨rfl, rfl⟩
 go_wp2_with fail
 refine (H107.out _).mono ?_; rintro e W ⟨rfl, rfl⟩
 go_wp2_with fail
 refine (H116.out _).mono ?_; rintro e W ⟨rfl, rfl⟩
 go_wp2_with fail
 refine (H114.out _).mono ?_; rintro e W ⟨rfl, rfl⟩
 go_wp2_with fail
 refine (H97.out _).mono ?_; rintro e W ⟨rfl, rfl⟩
 go_simp
 go_step
 go_step
 go_step
 dsimp only [List.append]
 go_wp2_with fail
 refine (H98.out _).mono ?_; rintro e W ⟨rfl, rfl⟩
 cases zb : (i.b == 0) with
 | false =>
  go_wp2_with fail
  go_ret
  exact ⟨by simp only [zb, Bool.true_and, Bool.false_and]; rfl, HAL.out⟩
 | true =>
  go_wp2_with fail
  refine (H99.out _).mono ?_; rintro e W ⟨rfl, rfl⟩
  cases zc : (i.c == 0) with
  | false =>
   go_wp2_with fail
   go_ret
   exact ⟨by simp only [zb, zc, Bool.true_and, Bool.false_and]; rfl, HAL.out⟩
  | true =>
   cases zk : (i.k == 0) with
   | false =>
    go_wp2_with fail
    go_ret
    exact ⟨by simp only [zb, zc, zk, Bool.true_and, Bool.false_and]; rfl, HAL.out⟩
   | true =>
    go_wp2_with fail
    refine (H77.out _).mono ?_; rintro e W ⟨rfl, rfl⟩
    go_wp2_with fail
    refine (H118.out _).mono ?_; rintro e W ⟨rfl, rfl⟩
    go_wp2_with fail
    go_ret
    exact ⟨by simp only [zb, zc, zk, Bool.true_and, Bool.false_and]; rfl, HAL.out⟩
theorem empty_15 (i : In) (A : Option Addr) (c : Nat) (w : World) (hz : (i.ar.length : Int) ≤ 281474976710656) :
  Calls Try.prog 168 #[.agg (InV i A c), .string ⟨#[98]⟩] w fun e w' => e = .returned (.bool (emptyB i [98])) ∧ Below w.heap.size w w' := by
 obtain ⟨W, hW⟩ : ∃ W, W = w.alloc (.cells (InV i A c) 90) := ⟨_, rfl⟩
 have hal : Below w.heap.size w W := by rw [hW]; exact (Below.refl _ w).alloc (Nat.le_refl _) _
 have HAL := zh hal
 have hblk : W.heap[w.heap.size]? = some (.cells (InV i A c) 90 (0, 0)) := by rw [hW]; exact heap_alloc_new w _
 obtain ⟨g0, g1, g2, g3, g4, g5, g6, g7, g8⟩ := in_cells hblk
 have H97 := zh (fun w => has_r [98] 97 w (by decide))
 rw [show hasL [98] 97 = false by decide] at H97
 have H98 := zh (fun w => has_r [98] 98 w (by decide))
 rw [show hasL [98] 98 = true by decide] at H98
 have H99 := zh (fun w => has_r [98] 99 w (by decide))
 rw [show hasL [98] 99 = false by decide] at H99
 have H107 := zh (fun w => has_r [98] 107 w (by decide))
 rw [show hasL [98] 107 = false by decide] at H107
 have H116 := zh (fun w => has_r [98] 116 w (by decide))
 rw [show hasL [98] 116 = false by decide] at H116
 have H114 := zh (fun w => has_r [98] 114 w (by decide))
 rw [show hasL [98] 114 = false by decide] at H114
 have H67 := zh (fun w => has_r [98] 67 w (by decide))
 rw [show hasL [98] 67 = false by decide] at H67
 have H70 := zh (fun w => has_r [98] 70 w (by decide))
 rw [show hasL [98] 70 = false by decide] at H70
 have H77 := zh (fun w => has_r [98] 77 w (by decide))
 rw [show hasL [98] 77 = false by decide] at H77
 have H118 := zh (fun w => has_r [98] 118 w (by decide))
 rw [show hasL [98] 118 = false by decide] at H118
 rw [empty_and]
 rw [show hasL [98] 97 = false by decide]
 rw [show hasL [98] 98 = true by decide]
 rw [show hasL [98] 99 = false by decide]
 rw [show hasL [98] 107 = false by decide]
 rw [show hasL [98] 116 = false by decide]
 rw [show hasL [98] 114 = false by decide]
 rw [show hasL [98] 67 = false by decide]
 rw [show hasL [98] 70 = false by decide]
 rw [show hasL [98] 77 = false by decide]
 rw [show hasL [98] 118 = false by decide]
 simp only [Bool.true_or, Bool.or_true, Bool.false_or, Bool.or_false, Bool.true_and, Bool.and_true]
 dsimp only [InV] at hW ⊢
 have HW := zh hW
 clear hal hblk hW
 go_enter Try.func168, Try.ntmps168
 go_wp2_with fail
 rw [← HW.out]
 refine (H67.out _).mono ?_; rintro e W ⟨rfl, rfl⟩
 go_wp2_with fail
 refine (H70.out _).mono ?_; rintro e W ⟨rfl, rfl⟩
 go_wp2_with fail
 refine (H77.out _).mono ?_; rintro e W ⟨rfl, rfl⟩
 go_wp2_with fail
 refine (H70.out _).mono ?_; rintro e W ⟨rfl, rfl⟩
 go_wp2_with fail
 refine (H77.out _).mono ?_; rintro e W ⟨rfl, rfl⟩
 go_wp2_with fail
 refine (H107.out _).mono ?_; rintro e W ⟨rfl, rfl⟩
 go_wp2_with fail
 refine (H116.out _).mono ?_; rintro e W ⟨rfl, rfl⟩
 go_wp2_with fail
 refine (H114.out _).mono ?_; rintro e W ⟨rfl, rfl⟩
 go_wp2_with fail
 refine (H97.out _).mono ?_; rintro e W ⟨rfl, rfl⟩
 go_simp
 go_step
 go_step
 go_step
 dsimp only [List.append]
 cases za : (i.a == 0) with
 | false =>
  go_wp2_with fail
  go_ret
  exact ⟨by simp only [za, Bool.true_and, Bool.false_and]; rfl, HAL.out⟩
 | true =>
  go_wp2_with fail
  refine (H98.out _).mono ?_; rintro e W ⟨rfl, rfl⟩
  go_wp2_with fail
  refine (H99.out _).mono ?_; rintro e W ⟨rfl, rfl⟩
  cases zc : (i.c == 0) with
  | false =>
   go_wp2_with fail
   go_ret
   exact ⟨by simp only [za, zc, Bool.true_and, Bool.false_and]; rfl, HAL.out⟩
  | true =>
   cases zk : (i.k == 0) with
   | false =>
    go_wp2_with fail
    go_ret
    exact ⟨by simp only [za, zc, zk, Bool.true_and, Bool.false_and]; rfl, HAL.out⟩
   | true =>
    cases zl : (i.cl == []) with
    | false =>
     have zl2 := is_empty_d _ _ zl
     go_wp2_with fail
     go_ret
     exact ⟨by simp only [za, zc, zk, zl, Bool.true_and, Bool.false_and]; rfl, HAL.out⟩
    | true =>
     have zl2 := is_empty_d _ _ zl
     cases zn : (i.nm == []) with
     | false =>
      have zn2 := is_empty_d _ _ zn
      go_wp2_with fail
      go_ret
      exact ⟨by simp only [za, zc, zk, zl, zn, Bool.true_and, Bool.false_and]; rfl, HAL.out⟩
     | true =>
      have zn2 := is_empty_d _ _ zn
      go_wp2_with fail
      refine (H77.out _).mono ?_; rintro e W ⟨rfl, rfl⟩
      cases zd : (i.ds == []) with
      | false =>
       have zd2 := is_empty_d _ _ zd
       go_wp2_with fail
       go_ret
       exact ⟨by simp only [za, zc, zk, zl, zn, zd, Bool.true_and, Bool.false_and]; rfl, HAL.out⟩
      | true =>
       have zd2 := is_empty_d _ _ zd
       go_wp2_with fail
       refine (H118.out _).mono ?_; rintro e W ⟨rfl, rfl⟩
       cases zv : ((i.ar.length : Int) == 0) with
       | false =>
        go_wp2_with fail
        go_ret
        exact ⟨by simp only [za, zc, zk, zl, zn, zd, zv, Bool.true_and, Bool.false_and]; rfl, HAL.out⟩
       | true =>
        go_wp2_with fail
        go_ret
        exact ⟨by simp only [za, zc, zk, zl, zn, zd, zv, Bool.true_and, Bool.false_and]; rfl, HAL.out⟩
theorem empty_16 (i : In) (A : Option Addr) (c : Nat) (w : World) (hz : (i.ar.length : Int) ≤ 281474976710656) :
  Calls Try.prog 168 #[.agg (InV i A c), .string ⟨#[107]⟩] w fun e w' => e = .returned (.bool (emptyB i [107])) ∧ Below w.heap.size w w' := by
 obtain ⟨W, hW⟩ : ∃ W, W = w.alloc (.cells (InV i A c) 90) := ⟨_, rfl⟩
 have hal : Below w.heap.size w W := by rw [hW]; exact (Below.refl _ w).alloc (Nat.le_refl _) _
 have HAL := zh hal
 have hblk : W.heap[w.heap.size]? = some (.cells (InV i A c) 90 (0, 0)) := by rw [hW]; exact heap_alloc_new w _
 obtain ⟨g0, g1, g2, g3, g4, g5, g6, g7, g8⟩ := in_cells hblk
 have H97 := zh (fun w => has_r [107] 97 w (by decide))
 rw [show hasL [107] 97 = false by decide] at H97
 have H98 := zh (fun w => has_r [107] 98 w (by decide))
 rw [show hasL [107] 98 = false by decide] at H98
 have H99 := zh (fun w => has_r [107] 99 w (by decide))
 rw [show hasL [107] 99 = false by decide] at H99
 have H107 := zh (fun w => has_r [107] 107 w (by decide))
 rw [show hasL [107] 107 = true by decide] at H107
 have H116 := zh (fun w => has_r [107] 116 w (by decide))
 rw [show hasL [107] 116 = false by decide] at H116
 have H114 := zh (fun w => has_r [107] 114 w (by decide))
 rw [show hasL [107] 114 = false by decide] at H114
 have H67 := zh (fun w => has_r [107] 67 w (by decide))
 rw [show hasL [107] 67 = false by decide] at H67
 have H70 := zh (fun w => has_r [107] 70 w (by decide))
 rw [show hasL [107] 70 = false by decide] at H70
 have H77 := zh (fun w => has_r [107] 77 w (by decide))
 rw [show hasL [107] 77 = false by decide] at H77
 have H118 := zh (fun w => has_r [107] 118 w (by decide))
 rw [show hasL [107] 118 = false by decide] at H118
 rw [empty_and]
 rw [show hasL [107] 97 = false by decide]
 rw [show hasL [107] 98 = false by decide]
 rw [show hasL [107] 99 = false by decide]
 rw [show hasL [107] 107 = true by decide]
 rw [show hasL [107] 116 = false by decide]
 rw [show hasL [107] 114 = false by decide]
 rw [show hasL [107] 67 = false by decide]
 rw [show hasL [107] 70 = false by decide]
 rw [show hasL [107] 77 = false by decide]
 rw [show hasL [107] 118 = false by decide]
 simp only [Bool.true_or, Bool.or_true, Bool.false_or, Bool.or_false, Bool.true_and, Bool.and_true]
 dsimp only [InV] at hW ⊢
 have HW := zh hW
 clear hal hblk hW
 go_enter Try.func168, Try.ntmps168
 go_wp2_with fail
 rw [← HW.out]
 refine (H67.out _).mono ?_; rintro e W ⟨rfl, rfl⟩
 go_wp2_with fail
 refine (H70.out _).mono ?_; rintro e W ⟨rfl, rfl⟩
 go_wp2_with fail
 refine (H77.out _).mono ?_; rintro e W ⟨rfl, rfl⟩
 go_wp2_with fail
 refine (H70.out _).mono ?_; rintro e W ⟨rfl, rfl⟩
 go_wp2_with fail
 refine (H77.out _).mono ?_; rintro e W ⟨rfl, rfl⟩
 go_wp2_with fail
 refine (H107.out _).mono ?_; rintro e W ⟨rfl, rfl⟩
 go_wp2_with fail
 refine (H97.out _).mono ?_; rintro e W ⟨rfl, rfl⟩
 go_simp
 go_step
 go_step
 go_step
 dsimp only [List.append]
 cases za : (i.a == 0) with
 | false =>
  go_wp2_with fail
  go_ret
  exact ⟨by simp only [za, Bool.true_and, Bool.false_and]; rfl, HAL.out⟩
 | true =>
  go_wp2_with fail
  refine (H98.out _).mono ?_; rintro e W ⟨rfl, rfl⟩
  cases zb : (i.b == 0) with
  | false =>
   go_wp2_with fail
   go_ret
   exact ⟨by simp only [za, zb, Bool.true_and, Bool.false_and]; rfl, HAL.out⟩
  | true =>
   go_wp2_with fail
   refine (H99.out _).mono ?_; rintro e W ⟨rfl, rfl⟩
   cases zc : (i.c == 0) with
   | false =>
    go_wp2_with fail
    go_ret
    exact ⟨by simp only [za, zb, zc, Bool.true_and, Bool.false_and]; rfl, HAL.out⟩
   | true =>
    cases zl : (i.cl == []) with
    | false =>
     have zl2 := is_empty_d _ _ zl
     go_wp2_with fail
     go_ret
     exact ⟨by simp only [za, zb, zc, zl, Bool.true_and, Bool.false_and]; rfl, HAL.out⟩
    | true =>
     have zl2 := is_empty_d _ _ zl
     cases zn : (i.nm == []) with
     | false =>
      have zn2 := is_empty_d _ _ zn
      go_wp2_with fail
      go_ret
      exact ⟨by simp only [za, zb, zc, zl, zn, Bool.true_and, Bool.false_and]; rfl, HAL.out⟩
     | true =>
      have zn2 := is_empty_d _ _ zn
      go_wp2_with fail
      refine (H77.out _).mono ?_; rintro e W ⟨rfl, rfl⟩
      cases zd : (i.ds == []) with
      | false =>
       have zd2 := is_empty_d _ _ zd
       go_wp2_with fail
       go_ret
       exact ⟨by simp only [za, zb, zc, zl, zn, zd, Bool.true_and, Bool.false_and]; rfl, HAL.out⟩
      | true =>
       have zd2 := is_empty_d _ _ zd
       go_wp2_with fail
       refine (H118.out _).mono ?_; rintro e W ⟨rfl, rfl⟩
       cases zv : ((i.ar.length : Int) == 0) with
       | false =>
        go_wp2_with fail
        go_ret
        exact ⟨by simp only [za, zb, zc, zl, zn, zd, zv, Bool.true_and, Bool.false_and]; rfl, HAL.out⟩
       | true =>
        go_wp2_with fail
        go_ret
        exact ⟨by simp only [za, zb, zc, zl, zn, zd, zv, Bool.true_and, Bool.false_and]; rfl, HAL.out⟩
theorem empty_17 (i : In) (A : Option Addr) (c : Nat) (w : World) (hz : (i.ar.length : Int) ≤ 281474976710656) :
  Calls Try.prog 168 #[.agg (InV i A c), .string ⟨#[67]⟩] w fun e w' => e = .returned (.bool (emptyB i [67])) ∧ Below w.heap.size w w' := by
 obtain ⟨W, hW⟩ : ∃ W, W = w.alloc (.cells (InV i A c) 90) := ⟨_, rfl⟩
 have hal : Below w.heap.size w W := by rw [hW]; exact (Below.refl _ w).alloc (Nat.le_refl _) _
 have HAL := zh hal
 have hblk : W.heap[w.heap.size]? = some (.cells (InV i A c) 90 (0, 0)) := by rw [hW]; exact heap_alloc_new w _
 obtain ⟨g0, g1, g2, g3, g4, g5, g6, g7, g8⟩ := in_cells hblk
 have H97 := zh (fun w => has_r [67] 97 w (by decide))
 rw [show hasL [67] 97 = false by decide] at H97
 have H98 := zh (fun w => has_r [67] 98 w (by decide))
 rw [show hasL [67] 98 = false by decide] at H98
 have H99 := zh (fun w => has_r [67] 99 w (by decide))
 rw [show hasL [67] 99 = false by decide] at H99
 have H107 := zh (fun w => has_r [67] 107 w (by decide))
 rw [show hasL [67] 107 = false by decide] at H107
 have H116 := zh (fun w => has_r [67] 116 w (by decide))
 rw [show hasL [67] 116 = false by decide] at H116
 have H114 := zh (fun w => has_r [67] 114 w (by decide))
 rw [show hasL [67] 114 = false by decide] at H114
 have H67 := zh (fun w => has_r [67] 67 w (by decide))
 rw [show hasL [67] 67 = true by decide] at H67
 have H70 := zh (fun w => has_r [67] 70 w (by decide))
 rw [show hasL [67] 70 = false by decide] at H70
 have H77 := zh (fun w => has_r [67] 77 w (by decide))
 rw [show hasL [67] 77 = false by decide] at H77
 have H118 := zh (fun w => has_r [67] 118 w (by decide))
 rw [show hasL [67] 118 = false by decide] at H118
 rw [empty_and]
 rw [show hasL [67] 97 = false by decide]
 rw [show hasL [67] 98 = false by decide]
 rw [show hasL [67] 99 = false by decide]
 rw [show hasL [67] 107 = false by decide]
 rw [show hasL [67] 116 = false by decide]
 rw [show hasL [67] 114 = false by decide]
 rw [show hasL [67] 67 = true by decide]
 rw [show hasL [67] 70 = false by decide]
 rw [show hasL [67] 77 = false by decide]
 rw [show hasL [67] 118 = false by decide]
 simp only [Bool.true_or, Bool.or_true, Bool.false_or, Bool.or_false, Bool.true_and, Bool.and_true]
 dsimp only [InV] at hW ⊢
 have HW := zh hW
 clear hal hblk hW
 go_enter Try.func168, Try.ntmps168
 go_wp2_with fail
 rw [← HW.out]
 refine (H67.out _).mono ?_; rintro e W ⟨rfl, rfl⟩
 go_wp2_with fail
 refine (H70.out _).mono ?_; rintro e W ⟨rfl, rfl⟩
 go_wp2_with fail
 refine (H77.out _).mono ?_; rintro e W ⟨rfl, rfl⟩
 go_wp2_with fail
 refine (H107.out _).mono ?_; rintro e W ⟨rfl, rfl⟩
 go_wp2_with fail
 refine (H116.out _).mono ?_; rintro e W ⟨rfl, rfl⟩
 go_wp2_with fail
 refine (H114.out _).mono ?_; rintro e W ⟨rfl, rfl⟩
 go_wp2_with fail
 refine (H97.out _).mono ?_; rintro e W ⟨rfl, rfl⟩
 go_simp
 go_step
 go_step
 go_step
 dsimp only [List.append]
 cases za : (i.a == 0) with
 | false =>
  go_wp2_with fail
  go_ret
  exact ⟨by simp only [za, Bool.true_and, Bool.false_and]; rfl, HAL.out⟩
 | true =>
  go_wp2_with fail
  refine (H98.out _).mono ?_; rintro e W ⟨rfl, rfl⟩
  cases zb : (i.b == 0) with
  | false =>
   go_wp2_with fail
   go_ret
   exact ⟨by simp only [za, zb, Bool.true_and, Bool.false_and]; rfl, HAL.out⟩
  | true =>
   go_wp2_with fail
   refine (H99.out _).mono ?_; rintro e W ⟨rfl, rfl⟩
   cases zc : (i.c == 0) with
   | false =>
    go_wp2_with fail
    go_ret
    exact ⟨by simp only [za, zb, zc, Bool.true_and, Bool.false_and]; rfl, HAL.out⟩
   | true =>
    cases zk : (i.k == 0) with
    | false =>
     go_wp2_with fail
     go_ret
     exact ⟨by simp only [za, zb, zc, zk, Bool.true_and, Bool.false_and]; rfl, HAL.out⟩
    | true =>
     cases zn : (i.nm == []) with
     | false =>
      have zn2 := is_empty_d _ _ zn
      go_wp2_with fail
      go_ret
      exact ⟨by simp only [za, zb, zc, zk, zn, Bool.true_and, Bool.false_and]; rfl, HAL.out⟩
     | true =>
      have zn2 := is_empty_d _ _ zn
      go_wp2_with fail
      refine (H77.out _).mono ?_; rintro e W ⟨rfl, rfl⟩
      cases zd : (i.ds == []) with
      | false =>
       have zd2 := is_empty_d _ _ zd
       go_wp2_with fail
       go_ret
       exact ⟨by simp only [za, zb, zc, zk, zn, zd, Bool.true_and, Bool.false_and]; rfl, HAL.out⟩
      | true =>
       have zd2 := is_empty_d _ _ zd
       go_wp2_with fail
       refine (H118.out _).mono ?_; rintro e W ⟨rfl, rfl⟩
       cases zv : ((i.ar.length : Int) == 0) with
       | false =>
        go_wp2_with fail
        go_ret
        exact ⟨by simp only [za, zb, zc, zk, zn, zd, zv, Bool.true_and, Bool.false_and]; rfl, HAL.out⟩
       | true =>
        go_wp2_with fail
        go_ret
        exact ⟨by simp only [za, zb, zc, zk, zn, zd, zv, Bool.true_and, Bool.false_and]; rfl, HAL.out⟩
end Go.Proofs.Ytdifmgeicnndfaa.op
namespace Go.Proofs.Ytdifmgeicnndfaa.op
open Go.RowKit
open words kindp opp kind word
set_option maxRecDepth 100000
set_option maxHeartbeats 16000000
set_option linter.all false
def namedB (i : In) (s : Tx) : Bool := (!(hasL s 67 || hasL s 70 || hasL s 77) || clsB i.cl) && ((!(hasL s 70 || hasL s 77) || nmL i.nm) && (!hasL s 77 || decide ((splitT i.ds).2.2 = 0)))
theorem one_of (o : Int) : (hasL (shapeL o) 67 = false ∧ hasL (shapeL o) 70 = false ∧ hasL (shapeL o) 77 = false) ∨ (hasL (shapeL o) 67 = true ∧ hasL (shapeL o) 70 = false ∧ hasL (shapeL o) 77 = false) ∨ (hasL (shapeL o) 67 = false ∧ hasL (shapeL o) 70 = true ∧ hasL (shapeL o) 77 = false) ∨ (hasL (shapeL o) 67 = false ∧ hasL (shapeL o) 70 = false ∧ hasL (shapeL o) 77 = true) := by
 refine shape_cases (P := fun _ s => (hasL s 67 = false ∧ hasL s 70 = false ∧ hasL s 77 = false) ∨ (hasL s 67 = true ∧ hasL s 70 = false ∧ hasL s 77 = false) ∨ (hasL s 67 = false ∧ hasL s 70 = true ∧ hasL s 77 = false) ∨ (hasL s 67 = false ∧ hasL s 70 = false ∧ hasL s 77 = true)) ?_ ?_ ?_ ?_ ?_ ?_ ?_ ?_ ?_ ?_ ?_ ?_ ?_ ?_ ?_ ?_ ?_ ?_ ?_ ?_ ?_ ?_ ?_ ?_ ?_ ?_ ?_ ?_ ?_ ?_ ?_ ?_ ?_ ?_ o
 all_goals first | decide | (intro o _; decide)
theorem named_r (i : In) (A : Option Addr) (c : Nat) (s : Tx) (w : World) (hs4 : s.length ≤ 4) (hd : i.ds.length ≤ 65536) (hcl : i.cl.length ≤ 281474976710656) (hnm : i.nm.length ≤ 281474976710656)
  (h4 : (hasL s 67 = false ∧ hasL s 70 = false ∧ hasL s 77 = false) ∨ (hasL s 67 = true ∧ hasL s 70 = false ∧ hasL s 77 = false) ∨ (hasL s 67 = false ∧ hasL s 70 = true ∧ hasL s 77 = false) ∨ (hasL s 67 = false ∧ hasL s 70 = false ∧ hasL s 77 = true)) :
  Calls Try.prog 169 #[.agg (InV i A c), .string ⟨s.toArray⟩] w fun e w' => e = .returned (.bool (namedB i s)) ∧ Below w.heap.size w w' := by
 obtain ⟨W, hW⟩ : ∃ W, W = w.alloc (.cells (InV i A c) 90) := ⟨_, rfl⟩
 have hal : Below w.heap.size w W := by rw [hW]; exact (Below.refl _ w).alloc (Nat.le_refl _) _
 have HAL := zh hal
 have hblk : W.heap[w.heap.size]? = some (.cells (InV i A c) 90 (0, 0)) := by rw [hW]; exact heap_alloc_new w _
 have HBK := zh hblk; have HLT := zh (blk_lt hblk)
 obtain ⟨g0, g1, g2, g3, g4, g5, g6, g7, g8⟩ := in_cells hblk
 have H67 := zh (fun w => has_r s 67 w hs4)
 have H70 := zh (fun w => has_r s 70 w hs4)
 have H77 := zh (fun w => has_r s 77 w hs4)
 have HC := zh (fun w => kind.cls_rr i.cl w (by omega))
 have HN := zh (fun w => word.name_r ⟨i.nm.toArray⟩ w (by show i.nm.toArray.size ≤ _; simpa using hnm))
 rw [show word.nameB ⟨i.nm.toArray⟩ = nmL i.nm from rfl] at HN
 have HSP := zh (fun w => kind.split_r ⟨i.ds.toArray⟩ w (by show i.ds.toArray.size ≤ _; simp; omega))
 unfold SplitW at HSP
 rw [show (⟨i.ds.toArray⟩ : ByteArray).data.toList = i.ds from rfl] at HSP
 unfold namedB
 obtain ⟨⟨ps, ⟨rk, rc⟩, er⟩, hsp⟩ : ∃ x, x = splitT i.ds := ⟨_, rfl⟩
 rw [← hsp] at HSP ⊢
 dsimp only at HSP ⊢
 generalize ps.length = np at *
 dsimp only [InV] at hW ⊢
 have HW := zh hW
 generalize clsB i.cl = bcl at *
 generalize nmL i.nm = bnm at *
 clear hs4 hd hal hblk hW hcl hnm hsp
 rcases h4 with ⟨h1, h2, h3⟩ | ⟨h1, h2, h3⟩ | ⟨h1, h2, h3⟩ | ⟨h1, h2, h3⟩ <;> (rw [h1] at H67 ⊢; rw [h2] at H70 ⊢; rw [h3] at H77 ⊢; clear h1 h2 h3)
 ·simp only [Bool.or_false, Bool.not_false, Bool.true_or, Bool.true_and]
  go_enter Try.func169, Try.ntmps169
  go_wp2_with fail
  rw [← HW.out]
  refine (H67.out _).mono ?_; rintro e W ⟨rfl, rfl⟩
  go_wp2_with fail
  refine (H70.out _).mono ?_; rintro e W ⟨rfl, rfl⟩
  go_wp2_with fail
  refine (H77.out _).mono ?_; rintro e W ⟨rfl, rfl⟩
  go_wp2_with fail
  refine (H70.out _).mono ?_; rintro e W ⟨rfl, rfl⟩
  go_wp2_with fail
  refine (H77.out _).mono ?_; rintro e W ⟨rfl, rfl⟩
  go_wp2_with fail
  refine (HSP.out _).mono ?_; rintro e v1 ⟨⟨A1, c1, rfl, hoo⟩, hb⟩
  have HB := zh (HAL.out.trans ((hb.alloc hb.size (.cells #[.int .i64 rk, .string ⟨rc.toArray⟩] 63)).mono HAL.out.size))
  clear hoo hb g0 g1 g2 g3 g4 g5 g6 g7 g8
  go_wp2_with fail
  refine (H77.out _).mono ?_; rintro e W ⟨rfl, rfl⟩
  go_wp2
  go_ret
  exact ⟨rfl, HB.out⟩
 ·cases bcl
  ·simp only [Bool.true_or, Bool.not_true, Bool.false_or, Bool.false_and]
   go_enter Try.func169, Try.ntmps169
   go_wp2_with fail
   rw [← HW.out]
   refine (H67.out _).mono ?_; rintro e W ⟨rfl, rfl⟩
   go_wp2_with fail
   refine (HC.out _).mono ?_; rintro e W ⟨rfl, rfl⟩
   go_wp2
   go_ret
   exact ⟨rfl, HAL.out⟩
  ·simp only [Bool.true_or, Bool.or_true, Bool.not_true, Bool.false_or, Bool.true_and, Bool.or_false, Bool.not_false]
   go_enter Try.func169, Try.ntmps169
   go_wp2_with fail
   rw [← HW.out]
   refine (H67.out _).mono ?_; rintro e W ⟨rfl, rfl⟩
   go_wp2_with fail
   refine (HC.out _).mono ?_; rintro e W ⟨rfl, rfl⟩
   go_wp2_with fail
   refine (H70.out _).mono ?_; rintro e W ⟨rfl, rfl⟩
   go_wp2_with fail
   refine (H77.out _).mono ?_; rintro e W ⟨rfl, rfl⟩
   go_wp2_with fail
   refine (HSP.out _).mono ?_; rintro e v1 ⟨⟨A1, c1, rfl, hoo⟩, hb⟩
   have HB := zh (HAL.out.trans ((hb.alloc hb.size (.cells #[.int .i64 rk, .string ⟨rc.toArray⟩] 63)).mono HAL.out.size))
   clear hoo hb g0 g1 g2 g3 g4 g5 g6 g7 g8
   go_wp2_with fail
   refine (H77.out _).mono ?_; rintro e W ⟨rfl, rfl⟩
   go_wp2
   go_ret
   exact ⟨rfl, HB.out⟩
 ·cases bcl
  ·simp only [Bool.true_or, Bool.or_true, Bool.false_or, Bool.or_false, Bool.not_true, Bool.false_and]
   go_enter Try.func169, Try.ntmps169
   go_wp2_with fail
   rw [← HW.out]
   refine (H67.out _).mono ?_; rintro e W ⟨rfl, rfl⟩
   go_wp2_with fail
   refine (H70.out _).mono ?_; rintro e W ⟨rfl, rfl⟩
   go_wp2_with fail
   refine (HC.out _).mono ?_; rintro e W ⟨rfl, rfl⟩
   go_wp2
   go_ret
   exact ⟨rfl, HAL.out⟩
  ·cases bnm
   ·simp only [Bool.true_or, Bool.or_true, Bool.false_or, Bool.or_false, Bool.not_true, Bool.true_and, Bool.false_and]
    go_enter Try.func169, Try.ntmps169
    go_wp2_with fail
    rw [← HW.out]
    refine (H67.out _).mono ?_; rintro e W ⟨rfl, rfl⟩
    go_wp2_with fail
    refine (H70.out _).mono ?_; rintro e W ⟨rfl, rfl⟩
    go_wp2_with fail
    refine (HC.out _).mono ?_; rintro e W ⟨rfl, rfl⟩
    go_wp2_with fail
    refine (H70.out _).mono ?_; rintro e W ⟨rfl, rfl⟩
    go_wp2_with fail
    refine (HN.out _).mono ?_; rintro e W ⟨rfl, rfl⟩
    go_wp2
    go_ret
    exact ⟨rfl, HAL.out⟩
   ·simp only [Bool.true_or, Bool.or_true, Bool.false_or, Bool.or_false, Bool.not_true, Bool.true_and, Bool.false_and, Bool.not_false]
    go_enter Try.func169, Try.ntmps169
    go_wp2_with fail
    rw [← HW.out]
    refine (H67.out _).mono ?_; rintro e W ⟨rfl, rfl⟩
    go_wp2_with fail
    refine (H70.out _).mono ?_; rintro e W ⟨rfl, rfl⟩
    go_wp2_with fail
    refine (HC.out _).mono ?_; rintro e W ⟨rfl, rfl⟩
    go_wp2_with fail
    refine (H70.out _).mono ?_; rintro e W ⟨rfl, rfl⟩
    go_wp2_with fail
    refine (HN.out _).mono ?_; rintro e W ⟨rfl, rfl⟩
    go_wp2_with fail
    refine (HSP.out _).mono ?_; rintro e v1 ⟨⟨A1, c1, rfl, hoo⟩, hb⟩
    have HB := zh (HAL.out.trans ((hb.alloc hb.size (.cells #[.int .i64 rk, .string ⟨rc.toArray⟩] 63)).mono HAL.out.size))
    clear hoo hb g0 g1 g2 g3 g4 g5 g6 g7 g8
    go_wp2_with fail
    refine (H77.out _).mono ?_; rintro e W ⟨rfl, rfl⟩
    go_wp2
    go_ret
    exact ⟨rfl, HB.out⟩
 ·cases bcl
  ·simp only [Bool.true_or, Bool.or_true, Bool.false_or, Bool.or_false, Bool.not_true, Bool.false_and]
   go_enter Try.func169, Try.ntmps169
   go_wp2_with fail
   rw [← HW.out]
   refine (H67.out _).mono ?_; rintro e W ⟨rfl, rfl⟩
   go_wp2_with fail
   refine (H70.out _).mono ?_; rintro e W ⟨rfl, rfl⟩
   go_wp2_with fail
   refine (H77.out _).mono ?_; rintro e W ⟨rfl, rfl⟩
   go_wp2_with fail
   refine (HC.out _).mono ?_; rintro e W ⟨rfl, rfl⟩
   go_wp2
   go_ret
   exact ⟨rfl, HAL.out⟩
  ·cases bnm
   ·simp only [Bool.true_or, Bool.or_true, Bool.false_or, Bool.or_false, Bool.not_true, Bool.true_and, Bool.false_and]
    go_enter Try.func169, Try.ntmps169
    go_wp2_with fail
    rw [← HW.out]
    refine (H67.out _).mono ?_; rintro e W ⟨rfl, rfl⟩
    go_wp2_with fail
    refine (H70.out _).mono ?_; rintro e W ⟨rfl, rfl⟩
    go_wp2_with fail
    refine (H77.out _).mono ?_; rintro e W ⟨rfl, rfl⟩
    go_wp2_with fail
    refine (HC.out _).mono ?_; rintro e W ⟨rfl, rfl⟩
    go_wp2_with fail
    refine (H70.out _).mono ?_; rintro e W ⟨rfl, rfl⟩
    go_wp2_with fail
    refine (H77.out _).mono ?_; rintro e W ⟨rfl, rfl⟩
    go_wp2_with fail
    refine (HN.out _).mono ?_; rintro e W ⟨rfl, rfl⟩
    go_wp2
    go_ret
    exact ⟨rfl, HAL.out⟩
   ·by_cases he : er = 0
    ·subst he
     simp only [Bool.true_or, Bool.or_true, Bool.false_or, Bool.or_false, Bool.not_true, Bool.true_and, Bool.false_and, Bool.not_false, decide_true]
     go_enter Try.func169, Try.ntmps169
     go_wp2_with fail
     rw [← HW.out]
     refine (H67.out _).mono ?_; rintro e W ⟨rfl, rfl⟩
     go_wp2_with fail
     refine (H70.out _).mono ?_; rintro e W ⟨rfl, rfl⟩
     go_wp2_with fail
     refine (H77.out _).mono ?_; rintro e W ⟨rfl, rfl⟩
     go_wp2_with fail
     refine (HC.out _).mono ?_; rintro e W ⟨rfl, rfl⟩
     go_wp2_with fail
     refine (H70.out _).mono ?_; rintro e W ⟨rfl, rfl⟩
     go_wp2_with fail
     refine (H77.out _).mono ?_; rintro e W ⟨rfl, rfl⟩
     go_wp2_with fail
     refine (HN.out _).mono ?_; rintro e W ⟨rfl, rfl⟩
     go_wp2_with fail
     refine (HSP.out _).mono ?_; rintro e v1 ⟨⟨A1, c1, rfl, hoo⟩, hb⟩
     have HB := zh (HAL.out.trans ((hb.alloc hb.size (.cells #[.int .i64 rk, .string ⟨rc.toArray⟩] 63)).mono HAL.out.size))
     clear hoo hb g0 g1 g2 g3 g4 g5 g6 g7 g8
     go_wp2_with fail
     refine (H77.out _).mono ?_; rintro e W ⟨rfl, rfl⟩
     go_wp2
     go_ret
     exact ⟨rfl, HB.out⟩
    ·have hb1 : ((er : Int) == 0) = false := by rw [beq_eq_false_iff_ne]; omega
     rw [decide_eq_false he]
     simp only [Bool.true_or, Bool.or_true, Bool.false_or, Bool.or_false, Bool.not_true, Bool.true_and, Bool.false_and, Bool.not_false]
     clear he
     go_enter Try.func169, Try.ntmps169
     go_wp2_with fail
     rw [← HW.out]
     refine (H67.out _).mono ?_; rintro e W ⟨rfl, rfl⟩
     go_wp2_with fail
     refine (H70.out _).mono ?_; rintro e W ⟨rfl, rfl⟩
     go_wp2_with fail
     refine (H77.out _).mono ?_; rintro e W ⟨rfl, rfl⟩
     go_wp2_with fail
     refine (HC.out _).mono ?_; rintro e W ⟨rfl, rfl⟩
     go_wp2_with fail
     refine (H70.out _).mono ?_; rintro e W ⟨rfl, rfl⟩
     go_wp2_with fail
     refine (H77.out _).mono ?_; rintro e W ⟨rfl, rfl⟩
     go_wp2_with fail
     refine (HN.out _).mono ?_; rintro e W ⟨rfl, rfl⟩
     go_wp2_with fail
     refine (HSP.out _).mono ?_; rintro e v1 ⟨⟨A1, c1, rfl, hoo⟩, hb⟩
     have HB := zh (HAL.out.trans ((hb.alloc hb.size (.cells #[.int .i64 rk, .string ⟨rc.toArray⟩] 63)).mono HAL.out.size))
     clear hoo hb g0 g1 g2 g3 g4 g5 g6 g7 g8
     go_wp2_with fail
     refine (H77.out _).mono ?_; rintro e W ⟨rfl, rfl⟩
     go_wp2
     go_ret
     exact ⟨rfl, HB.out⟩
def refE (i : In) (s : Tx) (regs code : Int) : Int :=
 if known i.o = false then 1 else if emptyB i s = false then 1 else if namedB i s = false then 1
 else if isCall i.o = true ∧ i.ar.length ≠ (splitT i.ds).1.length + recv i.o then 9
 else if hasL s 97 = true ∧ withB i.a regs = false then 12 else if hasL s 98 = true ∧ withB i.b regs = false then 12 else if hasL s 99 = true ∧ withB i.c regs = false then 12
 else if (isCall i.o = true ∧ (splitT i.ds).2.1.1 = 1) ∧ i.a ≠ 0 then 12
 else if i.ar.all (fun z => withB z regs) = false then 12
 else if countedB i code = false then 12 else 0
theorem regs_all (i : In) (regs : Int) : (regsL i).all (okR regs) = ((!hasL (shapeL i.o) 97 || withB i.a regs) && ((!hasL (shapeL i.o) 98 || withB i.b regs) && ((!hasL (shapeL i.o) 99 || withB i.c regs) && (!hasL (shapeL i.o) 118 || i.ar.all (fun z => withB z regs))))) := by
 unfold regsL
 refine shape_cases (P := fun _ s => (s.flatMap fun c => (lettered i c).map fun r => (c, r)).all (okR regs) = ((!hasL s 97 || withB i.a regs) && ((!hasL s 98 || withB i.b regs) && ((!hasL s 99 || withB i.c regs) && (!hasL s 118 || i.ar.all (fun z => withB z regs)))))) ?_ ?_ ?_ ?_ ?_ ?_ ?_ ?_ ?_ ?_ ?_ ?_ ?_ ?_ ?_ ?_ ?_ ?_ ?_ ?_ ?_ ?_ ?_ ?_ ?_ ?_ ?_ ?_ ?_ ?_ ?_ ?_ ?_ ?_ i.o
 all_goals first | (simp [lettered, hasL, okR, withB, List.all_map, Function.comp_def]; done) | (intro o _; simp [hasL])
theorem any_class (o : Int) : anyL (shapeL o) [67, 70, 77] = (hasL (shapeL o) 67 || hasL (shapeL o) 70 || hasL (shapeL o) 77) := by
 refine shape_cases (P := fun _ s => anyL s [67, 70, 77] = (hasL s 67 || hasL s 70 || hasL s 77)) ?_ ?_ ?_ ?_ ?_ ?_ ?_ ?_ ?_ ?_ ?_ ?_ ?_ ?_ ?_ ?_ ?_ ?_ ?_ ?_ ?_ ?_ ?_ ?_ ?_ ?_ ?_ ?_ ?_ ?_ ?_ ?_ ?_ ?_ o
 all_goals first | decide +kernel | (intro o _; decide +kernel)
theorem any_member (o : Int) : anyL (shapeL o) [70, 77] = (hasL (shapeL o) 70 || hasL (shapeL o) 77) := by
 refine shape_cases (P := fun _ s => anyL s [70, 77] = (hasL s 70 || hasL s 77)) ?_ ?_ ?_ ?_ ?_ ?_ ?_ ?_ ?_ ?_ ?_ ?_ ?_ ?_ ?_ ?_ ?_ ?_ ?_ ?_ ?_ ?_ ?_ ?_ ?_ ?_ ?_ ?_ ?_ ?_ ?_ ?_ ?_ ?_ o
 all_goals first | decide +kernel | (intro o _; decide +kernel)
theorem formed_named (i : In) : formedB i = (known i.o && (emptyB i (shapeL i.o) && ((!(hasL (shapeL i.o) 67 || hasL (shapeL i.o) 70 || hasL (shapeL i.o) 77) || clsB i.cl) && (!(hasL (shapeL i.o) 70 || hasL (shapeL i.o) 77) || nmL i.nm)))) := by
 unfold formedB; rw [any_class, any_member]
theorem no_args {i : In} {s : Tx} (h : emptyB i s = true) (hv : hasL s 118 = false) : i.ar = [] := by
 unfold emptyB at h
 have := congrArg In.ar (of_decide_eq_true h)
 unfold bareL emptyI at this
 simpa [hv] using this
theorem v_call (o : Int) : hasL (shapeL o) 118 = isCall o := by
 rw [← call_shape]
 refine shape_cases (P := fun _ s => hasL s 118 = hasL s 77) ?_ ?_ ?_ ?_ ?_ ?_ ?_ ?_ ?_ ?_ ?_ ?_ ?_ ?_ ?_ ?_ ?_ ?_ ?_ ?_ ?_ ?_ ?_ ?_ ?_ ?_ ?_ ?_ ?_ ?_ ?_ ?_ ?_ ?_ o
 all_goals first | decide | (intro o _; decide)
theorem bad_reg (x w : Bool) : (x = true ∧ w = false) = ((!x || w) = false) := by cases x <;> cases w <;> simp
theorem fits_ref (i : In) (regs code : Int) : fitsE i regs code = refE i (shapeL i.o) regs code := by
 unfold fitsE refE
 rw [formed_named, regs_all]
 have hv := v_call i.o
 have h77 := call_shape i.o
 have hna := fun h1 h2 => no_args (i := i) (s := shapeL i.o) h1 h2
 unfold namedB descE
 simp only [bad_reg]
 generalize (!hasL (shapeL i.o) 97 || withB i.a regs) = pa at *
 generalize (!hasL (shapeL i.o) 98 || withB i.b regs) = pb at *
 generalize (!hasL (shapeL i.o) 99 || withB i.c regs) = pc at *
 generalize countedB i code = cn at *
 generalize hasL (shapeL i.o) 118 = x118 at *
 generalize hasL (shapeL i.o) 67 = x67 at *
 generalize hasL (shapeL i.o) 70 = x70 at *
 generalize hasL (shapeL i.o) 77 = x77 at *
 generalize emptyB i (shapeL i.o) = em at *
 generalize known i.o = kn at *
 generalize isCall i.o = ic at *
 generalize clsB i.cl = bc at *
 generalize nmL i.nm = bn at *
 subst hv h77
 obtain ⟨⟨ps, ⟨rk, rc⟩, er⟩, hsp⟩ : ∃ x, x = splitT i.ds := ⟨_, rfl⟩
 rw [← hsp]
 dsimp only
 clear hsp
 cases kn
 ·simp
 cases em
 ·simp
 have hall : x77 = false → i.ar.all (fun z => withB z regs) = true := fun h => by rw [hna rfl h]; rfl
 clear hna
 generalize i.ar.all (fun z => withB z regs) = al at *
 generalize i.ar.length = n at *
 generalize ps.length + recv i.o = m at *
 cases x77
 ·rw [hall rfl]
  simp only [Bool.or_false, Bool.not_false, Bool.true_or, Bool.true_and, Bool.and_true, Bool.false_eq_true, false_and, if_false, Bool.true_eq_false]
  generalize ((!(x67 || x70) || bc) && (!x70 || bn)) = F
  clear hall
  cases F
  ·simp
  ·cases pa <;> cases pb <;> cases pc <;> cases cn <;> simp
 ·clear hall
  simp only [Bool.or_true, Bool.not_true, Bool.false_or, Bool.true_and]
  cases bc
  ·simp
  cases bn
  ·simp
  by_cases e1 : er = 0
  ·subst e1
   by_cases e2 : n = m
   ·subst e2
    by_cases e3 : rk = 1
    ·subst e3
     by_cases e4 : i.a = 0
     ·rw [e4]
      cases pa <;> cases pb <;> cases pc <;> cases al <;> cases cn <;> simp
     ·cases pa <;> cases pb <;> cases pc <;> simp [e4]
    ·cases pa <;> cases pb <;> cases pc <;> cases al <;> cases cn <;> simp [e3]
   ·simp [e2]
  ·simp [e1]
end Go.Proofs.Ytdifmgeicnndfaa.op

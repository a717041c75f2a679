/-
 Layer 22: which rules can be, and which classes and members a rule is of: the program's answers, and the document's.
-/
import Derived.Test.YtcaaljioennnnabDoorRulA
import Derived.Test.YtcaaljioennnnabDoorGlobT
namespace Go.Proofs.YtcaaljioennnnabDoor.rul
open Go.RowKit
open Go.Proofs.YtcaaljioennnnabDoor.words Go.Proofs.YtcaaljioennnnabDoor.glob
set_option linter.all false
theorem right_lr (l : List UInt8) (w : World) (hl : l.length ≤ 281474976710656) : Calls Tryd.prog 34 #[.string ⟨l.toArray⟩] w fun e w' => e = .returned (.bool (rightG l)) ∧ w' = w := by
 have h := right_r ⟨l.toArray⟩ w (by rw [mk_size]; exact hl)
 rw [lb_mk] at h
 exact h
theorem not_empty_l {l : List UInt8} (h : ¬ l = []) : (⟨l.toArray⟩ : ByteArray).toList.isEmpty = false := by
 rw [Lib.toList_data, List.isEmpty_eq_false_iff]; simpa using h
theorem right_len {l : List UInt8} (h : rightG l = true) : l.length ≤ 64 := by
 unfold rightG at h
 simp only [Bool.and_eq_true, decide_eq_true_eq] at h
 exact h.2.2
def initL : List UInt8 := [60, 99, 108, 105, 110, 105, 116, 62]
/-- how long a rule's texts are at the most -/
structure RuOk (r : Ru) : Prop where
 cl : r.cl.length ≤ 140737488351232
 nm : r.nm.length ≤ 140737488351232
 ds : r.ds.length ≤ 140737488351232
theorem rightu_w (r : Ru) (w : World) (h : RuOk r) : Calls Tryd.prog 23 #[RuV r] w fun e w' => e = .returned (.bool (rightR r)) ∧ Below w.heap.size w w' := by
 obtain ⟨nb, me, c, n, d⟩ := r
 cases me
 ·exact right_n nb c n d w h.cl
 ·exact right_y nb c n d w h.cl h.nm h.ds
set_option maxRecDepth 100000 in
set_option maxHeartbeats 8000000 in
theorem rightu_r (r : Ru) (w : World) (h : RuOk r) : Calls Tryd.prog 24 #[RuV r] w fun e w' => e = .returned (.bool (rightR r)) ∧ Below w.heap.size w w' := by
 obtain ⟨nb, me, c, n, d⟩ := r
 have H1 := Lib.hid (fun w => right_lr c w (by have := h.cl; dsimp only at this; omega)); have H2 := Lib.hid (fun w => right_lr n w (by have := h.nm; dsimp only at this; omega)); have H3 := Lib.hid (fun w => right_lr d w (by have := h.ds; dsimp only at this; omega))
 have HB := Lib.hid (fun o => (Below.refl _ w).alloc (Nat.le_refl _) o)
 dsimp only [RuV, rightR]
 clear h
 cases h1 : rightG c with
 | false =>
  rw [h1] at H1
  clear h1
  cases me
  ·simp only [Bool.false_and]
   go_enter Tryd.func24, Tryd.ntmps24
   go_wp2_with fail
   refine (H1.out _).mono ?_
   rintro e w1 ⟨rfl, hw⟩; subst hw
   go_wp2
   go_ret
   exact ⟨by first | rfl | simp, HB.out _⟩
  ·simp only [Bool.false_and]
   go_enter Tryd.func24, Tryd.ntmps24
   go_wp2_with fail
   refine (H1.out _).mono ?_
   rintro e w1 ⟨rfl, hw⟩; subst hw
   go_wp2
   go_ret
   exact ⟨by first | rfl | simp, HB.out _⟩
 | true =>
  rw [h1] at H1
  clear h1
  simp only [Bool.true_and]
  cases me
  ·simp only [Bool.false_eq_true, if_false]
   by_cases hn : n = []
   ·subst hn
    by_cases hd : d = []
    ·subst hd
     go_enter Tryd.func24, Tryd.ntmps24
     go_wp2_with fail
     refine (H1.out _).mono ?_
     rintro e w1 ⟨rfl, hw⟩; subst hw
     go_wp2
     go_ret
     exact ⟨by first | rfl | simp, HB.out _⟩
    ·have hd2 := not_empty_l hd
     have hd3 : d.isEmpty = false := by simpa using hd
     rw [hd3]
     go_enter Tryd.func24, Tryd.ntmps24
     go_wp2_with fail
     refine (H1.out _).mono ?_
     rintro e w1 ⟨rfl, hw⟩; subst hw
     go_wp2
     go_ret
     exact ⟨by first | rfl | simp, HB.out _⟩
   ·have hn2 := not_empty_l hn
    have hn3 : n.isEmpty = false := by simpa using hn
    rw [hn3]
    go_enter Tryd.func24, Tryd.ntmps24
    go_wp2_with fail
    refine (H1.out _).mono ?_
    rintro e w1 ⟨rfl, hw⟩; subst hw
    go_wp2
    go_ret
    exact ⟨by first | rfl | simp, HB.out _⟩
  ·simp only [if_true]
   cases h2 : rightG n with
   | false =>
    rw [h2] at H2
    clear h2
    go_enter Tryd.func24, Tryd.ntmps24
    go_wp2_with fail
    refine (H1.out _).mono ?_
    rintro e w1 ⟨rfl, hw⟩; subst hw
    go_wp2_with fail
    refine (H2.out _).mono ?_
    rintro e w1 ⟨rfl, hw⟩; subst hw
    go_wp2
    go_ret
    exact ⟨by first | rfl | simp, HB.out _⟩
   | true =>
    rw [h2] at H2
    clear h2
    obtain ⟨b3, hb3⟩ : ∃ b3, b3 = rightG d := ⟨_, rfl⟩
    rw [← hb3] at H3 ⊢
    clear hb3
    go_enter Tryd.func24, Tryd.ntmps24
    go_wp2_with fail
    refine (H1.out _).mono ?_
    rintro e w1 ⟨rfl, hw⟩; subst hw
    go_wp2_with fail
    refine (H2.out _).mono ?_
    rintro e w1 ⟨rfl, hw⟩; subst hw
    go_wp2_with fail
    refine (H3.out _).mono ?_
    rintro e w1 ⟨rfl, hw⟩; subst hw
    go_wp2
    go_ret
    exact ⟨by first | rfl | simp, HB.out _⟩
set_option maxRecDepth 100000 in
set_option maxHeartbeats 8000000 in
theorem class_w (r : Ru) (s : ByteArray) (w : World) (h : RuOk r) (hs : s.size ≤ 1000) : Calls Tryd.prog 10 #[RuV r, .string s] w fun e w' => e = .returned (.bool (!r.me && (rightR r && mat r.cl (lb s)))) ∧ Below w.heap.size w w' := by
 have HR := Lib.hid (fun w => rightu_w r w h)
 obtain ⟨nb, me, c, n, d⟩ := r
 dsimp only [RuV] at HR ⊢
 cases me
 ·simp only [Bool.not_false, Bool.true_and]
  obtain ⟨W, hW⟩ : ∃ W, W = w.alloc (.cells #[.bool nb, .bool false, .string ⟨c.toArray⟩, .string ⟨n.toArray⟩, .string ⟨d.toArray⟩] 23) := ⟨_, rfl⟩
  obtain ⟨b, hb⟩ : ∃ b, b = w.heap.size := ⟨_, rfl⟩
  have HG := Lib.hid (show W.heap[b]? = some (.cells #[.bool nb, .bool false, .string ⟨c.toArray⟩, .string ⟨n.toArray⟩, .string ⟨d.toArray⟩] 23 (0, 0)) from by rw [hW, hb]; exact heap_alloc_new w _)
  have B0 := Lib.hid (show Below w.heap.size w W from by rw [hW]; exact (Below.refl _ w).alloc (Nat.le_refl _) _)
  have HW := Lib.hid hW
  have HBB := Lib.hid hb
  clear hW hb
  cases hr : rightR ⟨nb, false, c, n, d⟩ with
  | false =>
   rw [hr] at HR
   clear hr
   go_enter Tryd.func10, Tryd.ntmps10
   go_wp2_with fail
   rw [← HW.out, ← HBB.out]
   (try go_wp2_with fail)
   refine (HR.out _).mono ?_
   rintro e v1 ⟨rfl, hb⟩
   have G1 := Lib.hid ((hb.block b (blk_lt HG.out)).trans HG.out)
   have B1 := Lib.hid (then' B0.out hb)
   clear hb HG B0
   go_wp2
   go_ret
   exact ⟨by first | rfl | simp, B1.out⟩
  | true =>
   rw [hr] at HR
   have hcl : c.length ≤ 64 := by
    unfold rightR at hr
    simp only [Bool.and_eq_true] at hr
    exact right_len hr.1
   have HM := Lib.hid (fun w => match_w ⟨c.toArray⟩ s w (by rw [mk_size]; omega) hs)
   rw [lb_mk] at HM
   obtain ⟨m1, hm1⟩ : ∃ m1, m1 = mat c (lb s) := ⟨_, rfl⟩
   rw [← hm1] at HM ⊢
   clear hr hm1 h
   go_enter Tryd.func10, Tryd.ntmps10
   go_wp2_with fail
   rw [← HW.out, ← HBB.out]
   (try go_wp2_with fail)
   refine (HR.out _).mono ?_
   rintro e v1 ⟨rfl, hb⟩
   have G1 := Lib.hid ((hb.block b (blk_lt HG.out)).trans HG.out)
   have B1 := Lib.hid (then' B0.out hb)
   clear hb HG B0
   have hcell := cell_of_row v1 b 2 _ _ _ G1.out
   go_wp2_with fail
   refine (HM.out _).mono ?_
   rintro e v2 ⟨rfl, hb⟩
   have G2 := Lib.hid ((hb.block b (blk_lt G1.out)).trans G1.out)
   have B2 := Lib.hid (then' B1.out hb)
   clear hb hcell G1 B1
   go_wp2
   go_ret
   exact ⟨by first | rfl | simp, B2.out⟩
 ·simp only [Bool.not_true, Bool.false_and]
  have HB := Lib.hid (fun o => (Below.refl _ w).alloc (Nat.le_refl _) o)
  go_enter Tryd.func10, Tryd.ntmps10
  go_wp2
  go_ret
  exact ⟨rfl, HB.out _⟩
set_option maxRecDepth 100000 in
set_option maxHeartbeats 8000000 in
theorem member_w (r : Ru) (s1 s2 s3 : ByteArray) (w : World) (h : RuOk r) (hs1 : s1.size ≤ 1000) (hs2 : s2.size ≤ 1000) (hs3 : s3.size ≤ 1000) : Calls Tryd.prog 12 #[RuV r, .string s1, .string s2, .string s3] w fun e w' => e = .returned (.bool (r.me && (rightR r && (!(lb s2 == initL) && (mat r.cl (lb s1) && (mat r.nm (lb s2) && mat r.ds (lb s3))))))) ∧ Below w.heap.size w w' := by
 have HR := Lib.hid (fun w => rightu_w r w h)
 obtain ⟨nb, me, c, n, d⟩ := r
 dsimp only [RuV] at HR ⊢
 cases me
 ·simp only [Bool.false_and]
  have HB := Lib.hid (fun o => (Below.refl _ w).alloc (Nat.le_refl _) o)
  go_enter Tryd.func12, Tryd.ntmps12
  go_wp2
  go_ret
  exact ⟨rfl, HB.out _⟩
 ·simp only [Bool.true_and]
  obtain ⟨W, hW⟩ : ∃ W, W = w.alloc (.cells #[.bool nb, .bool true, .string ⟨c.toArray⟩, .string ⟨n.toArray⟩, .string ⟨d.toArray⟩] 23) := ⟨_, rfl⟩
  obtain ⟨b, hb⟩ : ∃ b, b = w.heap.size := ⟨_, rfl⟩
  have HG := Lib.hid (show W.heap[b]? = some (.cells #[.bool nb, .bool true, .string ⟨c.toArray⟩, .string ⟨n.toArray⟩, .string ⟨d.toArray⟩] 23 (0, 0)) from by rw [hW, hb]; exact heap_alloc_new w _)
  have B0 := Lib.hid (show Below w.heap.size w W from by rw [hW]; exact (Below.refl _ w).alloc (Nat.le_refl _) _)
  have HW := Lib.hid hW
  have HBB := Lib.hid hb
  clear hW hb
  cases hr : rightR ⟨nb, true, c, n, d⟩ with
  | false =>
   rw [hr] at HR
   clear hr
   go_enter Tryd.func12, Tryd.ntmps12
   go_wp2_with fail
   rw [← HW.out, ← HBB.out]
   (try go_wp2_with fail)
   refine (HR.out _).mono ?_
   rintro e v1 ⟨rfl, hb⟩
   have G1 := Lib.hid ((hb.block b (blk_lt HG.out)).trans HG.out)
   have B1 := Lib.hid (then' B0.out hb)
   clear hb HG B0
   go_wp2
   go_ret
   exact ⟨by first | rfl | simp, B1.out⟩
  | true =>
   rw [hr] at HR
   have hl : c.length ≤ 64 ∧ n.length ≤ 64 ∧ d.length ≤ 64 := by
    unfold rightR at hr
    simp only [Bool.and_eq_true, if_true] at hr
    exact ⟨right_len hr.1, right_len hr.2.1, right_len hr.2.2⟩
   have M1 := Lib.hid (fun w => match_w ⟨c.toArray⟩ s1 w (by rw [mk_size]; omega) hs1)
   have M2 := Lib.hid (fun w => match_w ⟨n.toArray⟩ s2 w (by rw [mk_size]; omega) hs2)
   have M3 := Lib.hid (fun w => match_w ⟨d.toArray⟩ s3 w (by rw [mk_size]; omega) hs3)
   rw [lb_mk] at M1 M2 M3
   simp only [Bool.true_and]
   have hin : (s2.toList == initL) = (lb s2 == initL) := by rw [Lib.toList_data]; rfl
   cases hi : (lb s2 == initL) with
   | true =>
    rw [hi] at hin
    unfold initL at hin
    have hin2 : (s2.toList != [60, 99, 108, 105, 110, 105, 116, 62]) = false := by rw [bne, hin]; rfl
    clear hr hi h
    go_enter Tryd.func12, Tryd.ntmps12
    go_wp2_with fail
    rw [← HW.out, ← HBB.out]
    (try go_wp2_with fail)
    refine (HR.out _).mono ?_
    rintro e v1 ⟨rfl, hb⟩
    have G1 := Lib.hid ((hb.block b (blk_lt HG.out)).trans HG.out)
    have B1 := Lib.hid (then' B0.out hb)
    clear hb HG B0
    go_wp2
    go_ret
    exact ⟨by first | rfl | simp, B1.out⟩
   | false =>
    rw [hi] at hin
    unfold initL at hin
    have hin2 : (s2.toList != [60, 99, 108, 105, 110, 105, 116, 62]) = true := by rw [bne, hin]; rfl
    clear hr hi h
    cases h1 : mat c (lb s1) with
    | false =>
     rw [h1] at M1
     clear h1
     go_enter Tryd.func12, Tryd.ntmps12
     go_wp2_with fail
     rw [← HW.out, ← HBB.out]
     (try go_wp2_with fail)
     refine (HR.out _).mono ?_
     rintro e v1 ⟨rfl, hb⟩
     have G1 := Lib.hid ((hb.block b (blk_lt HG.out)).trans HG.out)
     have B1 := Lib.hid (then' B0.out hb)
     clear hb HG B0
     have hcell := cell_of_row v1 b 2 _ _ _ G1.out
     go_wp2_with fail
     refine (M1.out _).mono ?_
     rintro e v2 ⟨rfl, hb⟩
     have G2 := Lib.hid ((hb.block b (blk_lt G1.out)).trans G1.out)
     have B2 := Lib.hid (then' B1.out hb)
     clear hb hcell G1 B1
     go_wp2
     go_ret
     exact ⟨by first | rfl | simp, B2.out⟩
    | true =>
     rw [h1] at M1
     clear h1
     cases h2 : mat n (lb s2) with
     | false =>
      rw [h2] at M2
      clear h2
      go_enter Tryd.func12, Tryd.ntmps12
      go_wp2_with fail
      rw [← HW.out, ← HBB.out]
      (try go_wp2_with fail)
      refine (HR.out _).mono ?_
      rintro e v1 ⟨rfl, hb⟩
      have G1 := Lib.hid ((hb.block b (blk_lt HG.out)).trans HG.out)
      have B1 := Lib.hid (then' B0.out hb)
      clear hb HG B0
      have hcell := cell_of_row v1 b 2 _ _ _ G1.out
      go_wp2_with fail
      refine (M1.out _).mono ?_
      rintro e v2 ⟨rfl, hb⟩
      have G2 := Lib.hid ((hb.block b (blk_lt G1.out)).trans G1.out)
      have B2 := Lib.hid (then' B1.out hb)
      clear hb hcell G1 B1
      have hcell := cell_of_row v2 b 3 _ _ _ G2.out
      go_wp2_with fail
      refine (M2.out _).mono ?_
      rintro e v3 ⟨rfl, hb⟩
      have G3 := Lib.hid ((hb.block b (blk_lt G2.out)).trans G2.out)
      have B3 := Lib.hid (then' B2.out hb)
      clear hb hcell G2 B2
      go_wp2
      go_ret
      exact ⟨by first | rfl | simp, B3.out⟩
     | true =>
      rw [h2] at M2
      clear h2
      obtain ⟨m3, hm3⟩ : ∃ m3, m3 = mat d (lb s3) := ⟨_, rfl⟩
      rw [← hm3] at M3 ⊢
      clear hm3
      go_enter Tryd.func12, Tryd.ntmps12
      go_wp2_with fail
      rw [← HW.out, ← HBB.out]
      (try go_wp2_with fail)
      refine (HR.out _).mono ?_
      rintro e v1 ⟨rfl, hb⟩
      have G1 := Lib.hid ((hb.block b (blk_lt HG.out)).trans HG.out)
      have B1 := Lib.hid (then' B0.out hb)
      clear hb HG B0
      have hcell := cell_of_row v1 b 2 _ _ _ G1.out
      go_wp2_with fail
      refine (M1.out _).mono ?_
      rintro e v2 ⟨rfl, hb⟩
      have G2 := Lib.hid ((hb.block b (blk_lt G1.out)).trans G1.out)
      have B2 := Lib.hid (then' B1.out hb)
      clear hb hcell G1 B1
      have hcell := cell_of_row v2 b 3 _ _ _ G2.out
      go_wp2_with fail
      refine (M2.out _).mono ?_
      rintro e v3 ⟨rfl, hb⟩
      have G3 := Lib.hid ((hb.block b (blk_lt G2.out)).trans G2.out)
      have B3 := Lib.hid (then' B2.out hb)
      clear hb hcell G2 B2
      have hcell := cell_of_row v3 b 4 _ _ _ G3.out
      go_wp2_with fail
      refine (M3.out _).mono ?_
      rintro e v4 ⟨rfl, hb⟩
      have G4 := Lib.hid ((hb.block b (blk_lt G3.out)).trans G3.out)
      have B4 := Lib.hid (then' B3.out hb)
      clear hb hcell G3 B3
      go_wp2
      go_ret
      exact ⟨by first | rfl | simp, B4.out⟩
set_option maxRecDepth 100000 in
set_option maxHeartbeats 8000000 in
theorem class_r (r : Ru) (s : ByteArray) (w : World) (h : RuOk r) (hs : s.size ≤ 1000) : Calls Tryd.prog 11 #[RuV r, .string s] w fun e w' => e = .returned (.bool (!r.me && (rightR r && mat r.cl (lb s)))) ∧ Below w.heap.size w w' := by
 have HR := Lib.hid (fun w => rightu_r r w h)
 obtain ⟨nb, me, c, n, d⟩ := r
 dsimp only [RuV] at HR ⊢
 cases me
 ·simp only [Bool.not_false, Bool.true_and]
  obtain ⟨W, hW⟩ : ∃ W, W = w.alloc (.cells #[.bool nb, .bool false, .string ⟨c.toArray⟩, .string ⟨n.toArray⟩, .string ⟨d.toArray⟩] 23) := ⟨_, rfl⟩
  obtain ⟨b, hb⟩ : ∃ b, b = w.heap.size := ⟨_, rfl⟩
  have HG := Lib.hid (show W.heap[b]? = some (.cells #[.bool nb, .bool false, .string ⟨c.toArray⟩, .string ⟨n.toArray⟩, .string ⟨d.toArray⟩] 23 (0, 0)) from by rw [hW, hb]; exact heap_alloc_new w _)
  have B0 := Lib.hid (show Below w.heap.size w W from by rw [hW]; exact (Below.refl _ w).alloc (Nat.le_refl _) _)
  have HW := Lib.hid hW
  have HBB := Lib.hid hb
  clear hW hb
  cases hr : rightR ⟨nb, false, c, n, d⟩ with
  | false =>
   rw [hr] at HR
   clear hr
   go_enter Tryd.func11, Tryd.ntmps11
   go_wp2_with fail
   rw [← HW.out, ← HBB.out]
   (try go_wp2_with fail)
   refine (HR.out _).mono ?_
   rintro e v1 ⟨rfl, hb⟩
   have G1 := Lib.hid ((hb.block b (blk_lt HG.out)).trans HG.out)
   have B1 := Lib.hid (then' B0.out hb)
   clear hb HG B0
   go_wp2
   go_ret
   exact ⟨by first | rfl | simp, B1.out⟩
  | true =>
   rw [hr] at HR
   have hcl : c.length ≤ 64 := by
    unfold rightR at hr
    simp only [Bool.and_eq_true] at hr
    exact right_len hr.1
   have HM := Lib.hid (fun w => match_r ⟨c.toArray⟩ s w (by rw [mk_size]; omega) hs)
   rw [lb_mk] at HM
   obtain ⟨m1, hm1⟩ : ∃ m1, m1 = mat c (lb s) := ⟨_, rfl⟩
   rw [← hm1] at HM ⊢
   clear hr hm1 h
   go_enter Tryd.func11, Tryd.ntmps11
   go_wp2_with fail
   rw [← HW.out, ← HBB.out]
   (try go_wp2_with fail)
   refine (HR.out _).mono ?_
   rintro e v1 ⟨rfl, hb⟩
   have G1 := Lib.hid ((hb.block b (blk_lt HG.out)).trans HG.out)
   have B1 := Lib.hid (then' B0.out hb)
   clear hb HG B0
   have hcell := cell_of_row v1 b 2 _ _ _ G1.out
   go_wp2_with fail
   refine (HM.out _).mono ?_
   rintro e v2 ⟨rfl, hb⟩
   have G2 := Lib.hid ((hb.block b (blk_lt G1.out)).trans G1.out)
   have B2 := Lib.hid (then' B1.out hb)
   clear hb hcell G1 B1
   go_wp2
   go_ret
   exact ⟨by first | rfl | simp, B2.out⟩
 ·simp only [Bool.not_true, Bool.false_and]
  have HB := Lib.hid (fun o => (Below.refl _ w).alloc (Nat.le_refl _) o)
  go_enter Tryd.func11, Tryd.ntmps11
  go_wp2
  go_ret
  exact ⟨rfl, HB.out _⟩
set_option maxRecDepth 100000 in
set_option maxHeartbeats 8000000 in
theorem member_r (r : Ru) (s1 s2 s3 : ByteArray) (w : World) (h : RuOk r) (hs1 : s1.size ≤ 1000) (hs2 : s2.size ≤ 1000) (hs3 : s3.size ≤ 1000) : Calls Tryd.prog 13 #[RuV r, .string s1, .string s2, .string s3] w fun e w' => e = .returned (.bool (r.me && (rightR r && (!(lb s2 == initL) && (mat r.cl (lb s1) && (mat r.nm (lb s2) && mat r.ds (lb s3))))))) ∧ Below w.heap.size w w' := by
 have HR := Lib.hid (fun w => rightu_r r w h)
 obtain ⟨nb, me, c, n, d⟩ := r
 dsimp only [RuV] at HR ⊢
 cases me
 ·simp only [Bool.false_and]
  have HB := Lib.hid (fun o => (Below.refl _ w).alloc (Nat.le_refl _) o)
  go_enter Tryd.func13, Tryd.ntmps13
  go_wp2
  go_ret
  exact ⟨rfl, HB.out _⟩
 ·simp only [Bool.true_and]
  obtain ⟨W, hW⟩ : ∃ W, W = w.alloc (.cells #[.bool nb, .bool true, .string ⟨c.toArray⟩, .string ⟨n.toArray⟩, .string ⟨d.toArray⟩] 23) := ⟨_, rfl⟩
  obtain ⟨b, hb⟩ : ∃ b, b = w.heap.size := ⟨_, rfl⟩
  have HG := Lib.hid (show W.heap[b]? = some (.cells #[.bool nb, .bool true, .string ⟨c.toArray⟩, .string ⟨n.toArray⟩, .string ⟨d.toArray⟩] 23 (0, 0)) from by rw [hW, hb]; exact heap_alloc_new w _)
  have B0 := Lib.hid (show Below w.heap.size w W from by rw [hW]; exact (Below.refl _ w).alloc (Nat.le_refl _) _)
  have HW := Lib.hid hW
  have HBB := Lib.hid hb
  clear hW hb
  cases hr : rightR ⟨nb, true, c, n, d⟩ with
  | false =>
   rw [hr] at HR
   clear hr
   go_enter Tryd.func13, Tryd.ntmps13
   go_wp2_with fail
   rw [← HW.out, ← HBB.out]
   (try go_wp2_with fail)
   refine (HR.out _).mono ?_
   rintro e v1 ⟨rfl, hb⟩
   have G1 := Lib.hid ((hb.block b (blk_lt HG.out)).trans HG.out)
   have B1 := Lib.hid (then' B0.out hb)
   clear hb HG B0
   go_wp2
   go_ret
   exact ⟨by first | rfl | simp, B1.out⟩
  | true =>
   rw [hr] at HR
   have hl : c.length ≤ 64 ∧ n.length ≤ 64 ∧ d.length ≤ 64 := by
    unfold rightR at hr
    simp only [Bool.and_eq_true, if_true] at hr
    exact ⟨right_len hr.1, right_len hr.2.1, right_len hr.2.2⟩
   have M1 := Lib.hid (fun w => match_r ⟨c.toArray⟩ s1 w (by rw [mk_size]; omega) hs1)
   have M2 := Lib.hid (fun w => match_r ⟨n.toArray⟩ s2 w (by rw [mk_size]; omega) hs2)
   have M3 := Lib.hid (fun w => match_r ⟨d.toArray⟩ s3 w (by rw [mk_size]; omega) hs3)
   rw [lb_mk] at M1 M2 M3
   simp only [Bool.true_and]
   have hin : (s2.toList == initL) = (lb s2 == initL) := by rw [Lib.toList_data]; rfl
   cases hi : (lb s2 == initL) with
   | true =>
    rw [hi] at hin
    unfold initL at hin
    have hin2 : (s2.toList != [60, 99, 108, 105, 110, 105, 116, 62]) = false := by rw [bne, hin]; rfl
    clear hr hi h
    go_enter Tryd.func13, Tryd.ntmps13
    go_wp2_with fail
    rw [← HW.out, ← HBB.out]
    (try go_wp2_with fail)
    refine (HR.out _).mono ?_
    rintro e v1 ⟨rfl, hb⟩
    have G1 := Lib.hid ((hb.block b (blk_lt HG.out)).trans HG.out)
    have B1 := Lib.hid (then' B0.out hb)
    clear hb HG B0
    go_wp2
    go_ret
    exact ⟨by first | rfl | simp, B1.out⟩
   | false =>
    rw [hi] at hin
    unfold initL at hin
    have hin2 : (s2.toList != [60, 99, 108, 105, 110, 105, 116, 62]) = true := by rw [bne, hin]; rfl
    clear hr hi h
    cases h1 : mat c (lb s1) with
    | false =>
     rw [h1] at M1
     clear h1
     go_enter Tryd.func13, Tryd.ntmps13
     go_wp2_with fail
     rw [← HW.out, ← HBB.out]
     (try go_wp2_with fail)
     refine (HR.out _).mono ?_
     rintro e v1 ⟨rfl, hb⟩
     have G1 := Lib.hid ((hb.block b (blk_lt HG.out)).trans HG.out)
     have B1 := Lib.hid (then' B0.out hb)
     clear hb HG B0
     have hcell := cell_of_row v1 b 2 _ _ _ G1.out
     go_wp2_with fail
     refine (M1.out _).mono ?_
     rintro e v2 ⟨rfl, hb⟩
     have G2 := Lib.hid ((hb.block b (blk_lt G1.out)).trans G1.out)
     have B2 := Lib.hid (then' B1.out hb)
     clear hb hcell G1 B1
     go_wp2
     go_ret
     exact ⟨by first | rfl | simp, B2.out⟩
    | true =>
     rw [h1] at M1
     clear h1
     cases h2 : mat n (lb s2) with
     | false =>
      rw [h2] at M2
      clear h2
      go_enter Tryd.func13, Tryd.ntmps13
      go_wp2_with fail
      rw [← HW.out, ← HBB.out]
      (try go_wp2_with fail)
      refine (HR.out _).mono ?_
      rintro e v1 ⟨rfl, hb⟩
      have G1 := Lib.hid ((hb.block b (blk_lt HG.out)).trans HG.out)
      have B1 := Lib.hid (then' B0.out hb)
      clear hb HG B0
      have hcell := cell_of_row v1 b 2 _ _ _ G1.out
      go_wp2_with fail
      refine (M1.out _).mono ?_
      rintro e v2 ⟨rfl, hb⟩
      have G2 := Lib.hid ((hb.block b (blk_lt G1.out)).trans G1.out)
      have B2 := Lib.hid (then' B1.out hb)
      clear hb hcell G1 B1
      have hcell := cell_of_row v2 b 3 _ _ _ G2.out
      go_wp2_with fail
      refine (M2.out _).mono ?_
      rintro e v3 ⟨rfl, hb⟩
      have G3 := Lib.hid ((hb.block b (blk_lt G2.out)).trans G2.out)
      have B3 := Lib.hid (then' B2.out hb)
      clear hb hcell G2 B2
      go_wp2
      go_ret
      exact ⟨by first | rfl | simp, B3.out⟩
     | true =>
      rw [h2] at M2
      clear h2
      obtain ⟨m3, hm3⟩ : ∃ m3, m3 = mat d (lb s3) := ⟨_, rfl⟩
      rw [← hm3] at M3 ⊢
      clear hm3
      go_enter Tryd.func13, Tryd.ntmps13
      go_wp2_with fail
      rw [← HW.out, ← HBB.out]
      (try go_wp2_with fail)
      refine (HR.out _).mono ?_
      rintro e v1 ⟨rfl, hb⟩
      have G1 := Lib.hid ((hb.block b (blk_lt HG.out)).trans HG.out)
      have B1 := Lib.hid (then' B0.out hb)
      clear hb HG B0
      have hcell := cell_of_row v1 b 2 _ _ _ G1.out
      go_wp2_with fail
      refine (M1.out _).mono ?_
      rintro e v2 ⟨rfl, hb⟩
      have G2 := Lib.hid ((hb.block b (blk_lt G1.out)).trans G1.out)
      have B2 := Lib.hid (then' B1.out hb)
      clear hb hcell G1 B1
      have hcell := cell_of_row v2 b 3 _ _ _ G2.out
      go_wp2_with fail
      refine (M2.out _).mono ?_
      rintro e v3 ⟨rfl, hb⟩
      have G3 := Lib.hid ((hb.block b (blk_lt G2.out)).trans G2.out)
      have B3 := Lib.hid (then' B2.out hb)
      clear hb hcell G2 B2
      have hcell := cell_of_row v3 b 4 _ _ _ G3.out
      go_wp2_with fail
      refine (M3.out _).mono ?_
      rintro e v4 ⟨rfl, hb⟩
      have G4 := Lib.hid ((hb.block b (blk_lt G3.out)).trans G3.out)
      have B4 := Lib.hid (then' B3.out hb)
      clear hb hcell G3 B3
      go_wp2
      go_ret
      exact ⟨by first | rfl | simp, B4.out⟩
end Go.Proofs.YtcaaljioennnnabDoor.rul

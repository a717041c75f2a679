/-
 Layer 22: which rules can be, exact rules, and which classes and members a rule is of: the program's answers.
-/
import Derived.Test.YtcaaljioennnnabDoorGlobD
import Derived.Test.YtcaaljioennnnabDoorRulQ
import Derived.Deep.RegionHeld
import Derived.BigRegion
namespace Go.Proofs.YtcaaljioennnnabDoor.rul
open Go.RowKit
open Go.Proofs.YtcaaljioennnnabDoor.words Go.Proofs.YtcaaljioennnnabDoor.glob
set_option linter.all false
def tx (l : List UInt8) : Value := .string ⟨l.toArray⟩
/-- a rule as a value -/
def RuV (r : Ru) : Value := .agg #[.bool r.nb, .bool r.me, .string ⟨r.cl.toArray⟩, .string ⟨r.nm.toArray⟩, .string ⟨r.ds.toArray⟩]
theorem lb_mk (l : List UInt8) : lb ⟨l.toArray⟩ = l := by unfold lb; simp
theorem mk_lb (s : ByteArray) : (⟨(lb s).toArray⟩ : ByteArray) = s := by unfold lb; simp
theorem mk_size (l : List UInt8) : (⟨l.toArray⟩ : ByteArray).size = l.length := by show l.toArray.size = _; simp
theorem right_l (l : List UInt8) (w : World) (hl : l.length ≤ 281474976710656) : Calls Tryd.prog 22 #[.string ⟨l.toArray⟩] w fun e w' => e = .returned (.bool (rightG l)) ∧ w' = w := by
 have h := right_w ⟨l.toArray⟩ w (by rw [mk_size]; exact hl)
 rw [lb_mk] at h
 exact h
set_option maxRecDepth 100000 in
set_option maxHeartbeats 8000000 in
theorem exact_w (c : List UInt8) (nb : Bool) (w : World) : Calls Tryd.prog 20 #[.string ⟨c.toArray⟩, .bool nb] w fun e w' => e = .returned (RuV ⟨nb, false, c, [], []⟩) ∧ Below w.heap.size w w' := by
 go_enter Tryd.func20, Tryd.ntmps20
 go_wp2
 exact bodyPost_ret (v := RuV ⟨nb, false, c, [], []⟩) (by simp [results, Tryd.results20, RuV, go_sem]) rfl ⟨rfl, (Below.refl _ w).alloc (Nat.le_refl _) _⟩
set_option maxRecDepth 100000 in
set_option maxHeartbeats 8000000 in
theorem exactm_w (c n d : ByteArray) (nb : Bool) (w : World) : Calls Tryd.prog 14 #[.string c, .string n, .string d, .bool nb] w fun e w' => e = .returned (.agg #[.bool nb, .bool true, .string c, .string n, .string d]) ∧ Below w.heap.size w w' := by
 go_enter Tryd.func14, Tryd.ntmps14
 go_wp2
 exact bodyPost_ret (v := .agg #[.bool nb, .bool true, .string c, .string n, .string d]) (by simp [results, Tryd.results14, go_sem]) rfl ⟨rfl, (Below.refl _ w).alloc (Nat.le_refl _) _⟩
set_option maxRecDepth 100000 in
set_option maxHeartbeats 8000000 in
theorem right_y (nb : Bool) (c n d : List UInt8) (w : World) (hc : c.length ≤ 140737488351232) (hn : n.length ≤ 140737488351232) (hd : d.length ≤ 140737488351232) :
  Calls Tryd.prog 23 #[.agg #[.bool nb, .bool true, .string ⟨c.toArray⟩, .string ⟨n.toArray⟩, .string ⟨d.toArray⟩]] w fun e w' => e = .returned (.bool (rightG c && (rightG n && rightG d))) ∧ Below w.heap.size w w' := by
 have H1 := Lib.hid (fun w => right_l c w (by omega)); have H2 := Lib.hid (fun w => right_l n w (by omega)); have H3 := Lib.hid (fun w => right_l d w (by omega))
 have HB := Lib.hid (fun o => (Below.refl _ w).alloc (Nat.le_refl _) o)
 cases h1 : rightG c with
 | false =>
  rw [h1] at H1
  clear h1
  go_enter Tryd.func23, Tryd.ntmps23
  go_wp2_with fail
  refine (H1.out _).mono ?_
  rintro e w1 ⟨rfl, hw⟩; subst hw
  go_wp2
  go_ret
  exact ⟨rfl, HB.out _⟩
 | true =>
  rw [h1] at H1
  clear h1
  cases h2 : rightG n with
  | false =>
   rw [h2] at H2
   clear h2
   go_enter Tryd.func23, Tryd.ntmps23
   go_wp2_with fail
   refine (H1.out _).mono ?_
   rintro e w1 ⟨rfl, hw⟩; subst hw
   go_wp2_with fail
   refine (H2.out _).mono ?_
   rintro e w1 ⟨rfl, hw⟩; subst hw
   go_wp2
   go_ret
   exact ⟨rfl, HB.out _⟩
  | true =>
   rw [h2] at H2
   clear h2
   obtain ⟨b3, hb3⟩ : ∃ b3, b3 = rightG d := ⟨_, rfl⟩
   rw [← hb3] at H3 ⊢
   clear hb3
   go_enter Tryd.func23, Tryd.ntmps23
   go_wp2_with fail
   refine (H1.out _).mono ?_
   rintro e w1 ⟨rfl, hw⟩; subst hw
   go_wp2_with fail
   refine (H2.out _).mono ?_
   rintro e w1 ⟨rfl, hw⟩; subst hw
   go_wp2_with fail
   refine (H3.out _).mono ?_
   rintro e w1 ⟨rfl, hw⟩; subst hw
   go_wp2
   go_ret
   exact ⟨by simp, HB.out _⟩
set_option maxRecDepth 100000 in
set_option maxHeartbeats 8000000 in
theorem right_n (nb : Bool) (c n d : List UInt8) (w : World) (hc : c.length ≤ 140737488351232) :
  Calls Tryd.prog 23 #[.agg #[.bool nb, .bool false, .string ⟨c.toArray⟩, .string ⟨n.toArray⟩, .string ⟨d.toArray⟩]] w fun e w' => e = .returned (.bool (rightG c && (n.isEmpty && d.isEmpty))) ∧ Below w.heap.size w w' := by
 have H1 := Lib.hid (fun w => right_l c w (by omega))
 have HB := Lib.hid (fun o => (Below.refl _ w).alloc (Nat.le_refl _) o)
 have HE := Lib.hid (fun w => exact_w c nb w)
 cases h1 : rightG c with
 | false =>
  rw [h1] at H1
  clear h1
  go_enter Tryd.func23, Tryd.ntmps23
  go_wp2_with fail
  refine (H1.out _).mono ?_
  rintro e w1 ⟨rfl, hw⟩; subst hw
  go_wp2
  go_ret
  exact ⟨rfl, HB.out _⟩
 | true =>
  rw [h1] at H1
  clear h1
  by_cases hn : n = []
  ·subst hn
   by_cases hd : d = []
   ·subst hd
    obtain ⟨W, hW⟩ : ∃ W, W = w.alloc (.cells #[.bool nb, .bool false, .string ⟨c.toArray⟩, .string ⟨#[]⟩, .string ⟨#[]⟩] 23) := ⟨_, rfl⟩
    obtain ⟨b, hb⟩ : ∃ b, b = w.heap.size := ⟨_, rfl⟩
    have HG := Lib.hid (show W.heap[b]? = some (.cells #[.bool nb, .bool false, .string ⟨c.toArray⟩, .string ⟨#[]⟩, .string ⟨#[]⟩] 23 (0, 0)) from by rw [hW, hb]; exact heap_alloc_new w _)
    have HBW := Lib.hid (show Below w.heap.size w W from by rw [hW]; exact HB.out _)
    have HW := Lib.hid hW
    have HBB := Lib.hid hb
    clear hW hb
    go_enter Tryd.func23, Tryd.ntmps23
    go_wp2_with fail
    refine (H1.out _).mono ?_
    rintro e w1 ⟨rfl, hw⟩; subst hw
    go_wp2_with fail
    rw [← HW.out, ← HBB.out]
    (try go_wp2_with fail)
    have HC := Lib.hid (show ∀ v : World, v.heap[b]? = some (.cells #[.bool nb, .bool false, .string ⟨c.toArray⟩, .string ⟨#[]⟩, .string ⟨#[]⟩] 23 (0, 0)) → (fun w' : World => w'.cell? ⟨b, 0, none⟩ = some (.bool nb) ∧ w'.cell? ⟨b, 1, none⟩ = some (.bool false) ∧ w'.cell? ⟨b, 2, none⟩ = some (.string ⟨c.toArray⟩) ∧ w'.cell? ⟨b, 3, none⟩ = some (.string ⟨#[]⟩) ∧ w'.cell? ⟨b, 4, none⟩ = some (.string ⟨#[]⟩)) v from fun v hv => ⟨cell_of_row _ _ 0 _ _ _ hv, cell_of_row _ _ 1 _ _ _ hv, cell_of_row _ _ 2 _ _ _ hv, cell_of_row _ _ 3 _ _ _ hv, cell_of_row _ _ 4 _ _ _ hv⟩)
    refine wp_region_held_drew (S := fun w' : World => w'.cell? ⟨b, 0, none⟩ = some (.bool nb) ∧ w'.cell? ⟨b, 1, none⟩ = some (.bool false) ∧ w'.cell? ⟨b, 2, none⟩ = some (.string ⟨c.toArray⟩) ∧ w'.cell? ⟨b, 3, none⟩ = some (.string ⟨#[]⟩) ∧ w'.cell? ⟨b, 4, none⟩ = some (.string ⟨#[]⟩)) (by kernel_rfl) ?_ (fun hHeld => ?_)
    ·exact HC.out _ HG.out
    obtain ⟨D, hD⟩ : ∃ u, u = W.drew := ⟨_, rfl⟩
    have DG := Lib.hid (show D.heap[b]? = some (.cells #[.bool nb, .bool false, .string ⟨c.toArray⟩, .string ⟨#[]⟩, .string ⟨#[]⟩] 23 (0, 0)) from by rw [hD]; exact HG.out)
    have DA := Lib.hid (show Below w.heap.size w D from by rw [hD]; exact over (q := 1) HBW.out)
    have hS := HC.out _ DG.out
    try dsimp only at hS
    rw [← hD]
    clear hD hHeld
    refine tkv 0 rfl ?_
    try simp only [puts]
    refine tkv 1 rfl ?_
    try simp only [puts]
    refine tkv 2 rfl ?_
    try simp only [puts]
    refine tkv 3 rfl ?_
    try simp only [puts]
    refine tkv 4 rfl ?_
    try simp only [puts]
    clear hS
    refine wpAnyH_ready (rs := [5]) (by kernel_rfl) (by simp) (AllReadyH.cons rfl (fun K hK => ?_) AllReadyH.nil)
    go_simp
    refine (HE.out D).mono ?_
    rintro e v1 ⟨rfl, hb⟩
    have B1 := Lib.hid (then' DA.out hb)
    have VG := Lib.hid ((hb.block b (blk_lt DG.out)).trans DG.out)
    clear hb
    dsimp only [RuV]
    go_wp2_with fail
    refine hK.out _ _ (HC.out _ VG.out) (fun hHeld => ?_)
    clear hK K
    try simp only [puts]
    refine tkv 6 rfl ?_
    try simp only [puts]
    refine tkv 7 rfl ?_
    try simp only [puts]
    refine wpAnyH_done (by kernel_rfl) ?_ _
    go_wp2
    go_ret
    exact ⟨by rfl, B1.out⟩
   ·have hd2 : d.isEmpty = false := by simpa using hd
    rw [hd2]
    clear hd2
    obtain ⟨W, hW⟩ : ∃ W, W = w.alloc (.cells #[.bool nb, .bool false, .string ⟨c.toArray⟩, .string ⟨#[]⟩, .string ⟨d.toArray⟩] 23) := ⟨_, rfl⟩
    obtain ⟨b, hb⟩ : ∃ b, b = w.heap.size := ⟨_, rfl⟩
    have HG := Lib.hid (show W.heap[b]? = some (.cells #[.bool nb, .bool false, .string ⟨c.toArray⟩, .string ⟨#[]⟩, .string ⟨d.toArray⟩] 23 (0, 0)) from by rw [hW, hb]; exact heap_alloc_new w _)
    have HBW := Lib.hid (show Below w.heap.size w W from by rw [hW]; exact HB.out _)
    have HW := Lib.hid hW
    have HBB := Lib.hid hb
    clear hW hb
    go_enter Tryd.func23, Tryd.ntmps23
    go_wp2_with fail
    refine (H1.out _).mono ?_
    rintro e w1 ⟨rfl, hw⟩; subst hw
    go_wp2_with fail
    rw [← HW.out, ← HBB.out]
    (try go_wp2_with fail)
    have HC := Lib.hid (show ∀ v : World, v.heap[b]? = some (.cells #[.bool nb, .bool false, .string ⟨c.toArray⟩, .string ⟨#[]⟩, .string ⟨d.toArray⟩] 23 (0, 0)) → (fun w' : World => w'.cell? ⟨b, 0, none⟩ = some (.bool nb) ∧ w'.cell? ⟨b, 1, none⟩ = some (.bool false) ∧ w'.cell? ⟨b, 2, none⟩ = some (.string ⟨c.toArray⟩) ∧ w'.cell? ⟨b, 3, none⟩ = some (.string ⟨#[]⟩) ∧ w'.cell? ⟨b, 4, none⟩ = some (.string ⟨d.toArray⟩)) v from fun v hv => ⟨cell_of_row _ _ 0 _ _ _ hv, cell_of_row _ _ 1 _ _ _ hv, cell_of_row _ _ 2 _ _ _ hv, cell_of_row _ _ 3 _ _ _ hv, cell_of_row _ _ 4 _ _ _ hv⟩)
    refine wp_region_held_drew (S := fun w' : World => w'.cell? ⟨b, 0, none⟩ = some (.bool nb) ∧ w'.cell? ⟨b, 1, none⟩ = some (.bool false) ∧ w'.cell? ⟨b, 2, none⟩ = some (.string ⟨c.toArray⟩) ∧ w'.cell? ⟨b, 3, none⟩ = some (.string ⟨#[]⟩) ∧ w'.cell? ⟨b, 4, none⟩ = some (.string ⟨d.toArray⟩)) (by kernel_rfl) ?_ (fun hHeld => ?_)
    ·exact HC.out _ HG.out
    obtain ⟨D, hD⟩ : ∃ u, u = W.drew := ⟨_, rfl⟩
    have DG := Lib.hid (show D.heap[b]? = some (.cells #[.bool nb, .bool false, .string ⟨c.toArray⟩, .string ⟨#[]⟩, .string ⟨d.toArray⟩] 23 (0, 0)) from by rw [hD]; exact HG.out)
    have DA := Lib.hid (show Below w.heap.size w D from by rw [hD]; exact over (q := 1) HBW.out)
    have hS := HC.out _ DG.out
    try dsimp only at hS
    rw [← hD]
    clear hD hHeld
    refine tkv 0 rfl ?_
    try simp only [puts]
    refine tkv 1 rfl ?_
    try simp only [puts]
    refine tkv 2 rfl ?_
    try simp only [puts]
    refine tkv 3 rfl ?_
    try simp only [puts]
    refine tkv 4 rfl ?_
    try simp only [puts]
    clear hS
    refine wpAnyH_ready (rs := [5]) (by kernel_rfl) (by simp) (AllReadyH.cons rfl (fun K hK => ?_) AllReadyH.nil)
    go_simp
    refine (HE.out D).mono ?_
    rintro e v1 ⟨rfl, hb⟩
    have B1 := Lib.hid (then' DA.out hb)
    have VG := Lib.hid ((hb.block b (blk_lt DG.out)).trans DG.out)
    clear hb
    dsimp only [RuV]
    go_wp2_with fail
    refine hK.out _ _ (HC.out _ VG.out) (fun hHeld => ?_)
    clear hK K
    try simp only [puts]
    refine tkv 6 rfl ?_
    try simp only [puts]
    refine tkv 7 rfl ?_
    try simp only [puts]
    refine wpAnyH_done (by kernel_rfl) ?_ _
    go_wp2
    go_ret
    exact ⟨by rfl, B1.out⟩
  ·have hn2 : n.isEmpty = false := by simpa using hn
   rw [hn2]
   clear hn2
   obtain ⟨W, hW⟩ : ∃ W, W = w.alloc (.cells #[.bool nb, .bool false, .string ⟨c.toArray⟩, .string ⟨n.toArray⟩, .string ⟨d.toArray⟩] 23) := ⟨_, rfl⟩
   obtain ⟨b, hb⟩ : ∃ b, b = w.heap.size := ⟨_, rfl⟩
   have HG := Lib.hid (show W.heap[b]? = some (.cells #[.bool nb, .bool false, .string ⟨c.toArray⟩, .string ⟨n.toArray⟩, .string ⟨d.toArray⟩] 23 (0, 0)) from by rw [hW, hb]; exact heap_alloc_new w _)
   have HBW := Lib.hid (show Below w.heap.size w W from by rw [hW]; exact HB.out _)
   have HW := Lib.hid hW
   have HBB := Lib.hid hb
   clear hW hb
   go_enter Tryd.func23, Tryd.ntmps23
   go_wp2_with fail
   refine (H1.out _).mono ?_
   rintro e w1 ⟨rfl, hw⟩; subst hw
   go_wp2_with fail
   rw [← HW.out, ← HBB.out]
   (try go_wp2_with fail)
   have HC := Lib.hid (show ∀ v : World, v.heap[b]? = some (.cells #[.bool nb, .bool false, .string ⟨c.toArray⟩, .string ⟨n.toArray⟩, .string ⟨d.toArray⟩] 23 (0, 0)) → (fun w' : World => w'.cell? ⟨b, 0, none⟩ = some (.bool nb) ∧ w'.cell? ⟨b, 1, none⟩ = some (.bool false) ∧ w'.cell? ⟨b, 2, none⟩ = some (.string ⟨c.toArray⟩) ∧ w'.cell? ⟨b, 3, none⟩ = some (.string ⟨n.toArray⟩) ∧ w'.cell? ⟨b, 4, none⟩ = some (.string ⟨d.toArray⟩)) v from fun v hv => ⟨cell_of_row _ _ 0 _ _ _ hv, cell_of_row _ _ 1 _ _ _ hv, cell_of_row _ _ 2 _ _ _ hv, cell_of_row _ _ 3 _ _ _ hv, cell_of_row _ _ 4 _ _ _ hv⟩)
   refine wp_region_held_drew (S := fun w' : World => w'.cell? ⟨b, 0, none⟩ = some (.bool nb) ∧ w'.cell? ⟨b, 1, none⟩ = some (.bool false) ∧ w'.cell? ⟨b, 2, none⟩ = some (.string ⟨c.toArray⟩) ∧ w'.cell? ⟨b, 3, none⟩ = some (.string ⟨n.toArray⟩) ∧ w'.cell? ⟨b, 4, none⟩ = some (.string ⟨d.toArray⟩)) (by kernel_rfl) ?_ (fun hHeld => ?_)
   ·exact HC.out _ HG.out
   obtain ⟨D, hD⟩ : ∃ u, u = W.drew := ⟨_, rfl⟩
   have DG := Lib.hid (show D.heap[b]? = some (.cells #[.bool nb, .bool false, .string ⟨c.toArray⟩, .string ⟨n.toArray⟩, .string ⟨d.toArray⟩] 23 (0, 0)) from by rw [hD]; exact HG.out)
   have DA := Lib.hid (show Below w.heap.size w D from by rw [hD]; exact over (q := 1) HBW.out)
   have hS := HC.out _ DG.out
   try dsimp only at hS
   rw [← hD]
   clear hD hHeld
   refine tkv 0 rfl ?_
   try simp only [puts]
   refine tkv 1 rfl ?_
   try simp only [puts]
   refine tkv 2 rfl ?_
   try simp only [puts]
   refine tkv 3 rfl ?_
   try simp only [puts]
   refine tkv 4 rfl ?_
   try simp only [puts]
   clear hS
   refine wpAnyH_ready (rs := [5]) (by kernel_rfl) (by simp) (AllReadyH.cons rfl (fun K hK => ?_) AllReadyH.nil)
   go_simp
   refine (HE.out D).mono ?_
   rintro e v1 ⟨rfl, hb⟩
   have B1 := Lib.hid (then' DA.out hb)
   have VG := Lib.hid ((hb.block b (blk_lt DG.out)).trans DG.out)
   clear hb
   dsimp only [RuV]
   go_wp2_with fail
   refine hK.out _ _ (HC.out _ VG.out) (fun hHeld => ?_)
   clear hK K
   try simp only [puts]
   refine tkv 6 rfl ?_
   try simp only [puts]
   refine tkv 7 rfl ?_
   try simp only [puts]
   refine wpAnyH_done (by kernel_rfl) ?_ _
   go_wp2
   go_ret
   exact ⟨by rfl, B1.out⟩
end Go.Proofs.YtcaaljioennnnabDoor.rul

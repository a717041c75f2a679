/- OpF -/
import Derived.Test.YtgociheckcpjkaaGreatDoorOpU
import Derived.Test.YtgociheckcpjkaaGreatDoorKindV
import Derived.Deep.RegionHeld3
namespace Go.Proofs.YtgociheckcpjkaaGreatDoor.op
open Go.RowKit
open words kindp opp kind
set_option maxRecDepth 100000
set_option maxHeartbeats 16000000
set_option linter.all false
def nmL (c : Tx) : Bool := word.nameB ⟨c.toArray⟩
def formedB (i : In) : Bool := known i.o && (emptyB i (shapeL i.o) && ((!anyL (shapeL i.o) [67, 70, 77] || clsB i.cl) && (!anyL (shapeL i.o) [70, 77] || nmL i.nm)))
theorem bare_len (i : In) (s : Tx) : (bareL i s).ar.length ≤ i.ar.length := by
 unfold bareL; dsimp only; split
 ·exact Nat.zero_le _
 ·exact Nat.le_refl _
theorem formed_cut {b1 b2 b3 b4 b5 b6 : Bool} {P : Bool → Prop} (h1 : b1 = false → P false) (h2 : b1 = true → b2 = false → P false) (h3 : b1 = true → b2 = true → b3 = true → b4 = false → P false)
  (h4 : b1 = true → b2 = true → b3 = false → b5 = false → P true) (h5 : b1 = true → b2 = true → b3 = false → b5 = true → b6 = false → P false) (h6 : b1 = true → b2 = true → b3 = false → b5 = true → b6 = true → P true)
  (h7 : b1 = true → b2 = true → b3 = true → b4 = true → b5 = false → P true) (h8 : b1 = true → b2 = true → b3 = true → b4 = true → b5 = true → b6 = false → P false) (h9 : b1 = true → b2 = true → b3 = true → b4 = true → b5 = true → b6 = true → P true) :
  P (b1 && (b2 && ((!b3 || b4) && (!b5 || b6)))) := by
 cases b1
 ·exact h1 rfl
 cases b2
 ·exact h2 rfl rfl
 cases b3
 ·cases b5
  ·exact h4 rfl rfl rfl rfl
  cases b6
  ·exact h5 rfl rfl rfl rfl rfl
  ·exact h6 rfl rfl rfl rfl rfl
 cases b4
 ·exact h3 rfl rfl rfl rfl
 cases b5
 ·exact h7 rfl rfl rfl rfl rfl
 cases b6
 ·exact h8 rfl rfl rfl rfl rfl rfl
 ·exact h9 rfl rfl rfl rfl rfl rfl
theorem formed_w (i : In) (A : Option Addr) (c : Nat) (w : World) (hs : Sh w) (hr : Rd w A (IL i.ar)) (hc : i.ar.length ≤ c) (hz : i.ar.length ≤ 281474976710656) (hcl : i.cl.length ≤ 281474976710656) (hnm : i.nm.length ≤ 281474976710656) :
  Calls Tryz.prog 141 #[.agg (InV i A c)] w fun e w' => e = .returned (.bool (formedB i)) ∧ Below w.heap.size w w' := by
 obtain ⟨W, hW⟩ : ∃ W, W = w.alloc (.cells (InV i A c) 42) := ⟨_, rfl⟩
 have hal : Below w.heap.size w W := by rw [hW]; exact (Below.refl _ w).alloc (Nat.le_refl _) _
 have HAL := hh hal
 have hblk : W.heap[w.heap.size]? = some (.cells (InV i A c) 42 (0, 0)) := by rw [hW]; exact heap_alloc_new w _
 have hlt := blk_lt hblk
 have HBK := hh hblk; have HLT := hh hlt
 have HSH := hh (hs.below hal); have HRD := hh (hr.below hal)
 obtain ⟨g0, g1, g2, g3, g4, g5, g6, g7, g8⟩ := in_cells hblk
 have HK := hh (fun w => known_w i.o w)
 have HBR := hh (fun w (hs : Sh w) (hr : Rd w A (IL i.ar)) => bare_w i A c w hs hr hc)
 have HSM := hh (fun A' c' w (hr : Rd w A' (IL (bareL i (shapeL i.o)).ar)) => same_w (bareL i (shapeL i.o)) (emptyI i.o) A' none c' 0 w hr (Rd.nil _ _) (Nat.le_trans (bare_len _ _) hz) (Nat.zero_le _))
 have HH1 := hh (fun w hs => has_w i.o [67, 70, 77] w hs (by decide) (by decide))
 have HH2 := hh (fun w hs => has_w i.o [70, 77] w hs (by decide) (by decide))
 have HC := hh (fun w => word.class_name ⟨i.cl.toArray⟩ w (by show i.cl.toArray.size ≤ _; simpa using hcl))
 have HN := hh (fun w => word.name_w ⟨i.nm.toArray⟩ w (by show i.nm.toArray.size ≤ _; simpa using hnm))
 rw [cls_eq] at HC
 have hFB : formedB i = (known i.o && (decide (bareL i (shapeL i.o) = emptyI i.o) && ((!anyL (shapeL i.o) [67, 70, 77] || clsB i.cl) && (!anyL (shapeL i.o) [70, 77] || nmL i.nm)))) := rfl
 rw [hFB]
 rw [show word.nameB ⟨i.nm.toArray⟩ = nmL i.nm from rfl] at HN
 unfold BareP at HBR
 generalize bareL i (shapeL i.o) = ib at *
 generalize known i.o = b1 at *
 generalize anyL (shapeL i.o) [67, 70, 77] = b3 at *
 generalize anyL (shapeL i.o) [70, 77] = b5 at *
 generalize clsB i.cl = b4 at *
 generalize nmL i.nm = b6 at *
 generalize decide (ib = emptyI i.o) = b2 at *
 dsimp only [InV, emptyI, List.length_nil] at HSM HBR hW ⊢
 have HW := hh hW
 clear hFB hs hr hc hz hcl hnm hal hblk hlt hW
 refine formed_cut (P := fun r => Calls Tryz.prog 141 _ w fun e w' => e = .returned (.bool r) ∧ Below w.heap.size w w') ?_ ?_ ?_ ?_ ?_ ?_ ?_ ?_ ?_
 ·rintro rfl
  go_enter Tryz.func141, Tryz.ntmps141
  go_wp2_with fail
  rw [← HW.out]
  refine wp_region_held_drew (S := (fun w' => w'.cell? ⟨w.heap.size, 0, none⟩ = some (.int .i64 i.o) ∧ w'.cell? ⟨w.heap.size, 1, none⟩ = some (.int .i64 i.a) ∧ w'.cell? ⟨w.heap.size, 2, none⟩ = some (.int .i64 i.b) ∧ w'.cell? ⟨w.heap.size, 3, none⟩ = some (.int .i64 i.c) ∧ w'.cell? ⟨w.heap.size, 4, none⟩ = some (.int .i64 i.k) ∧ w'.cell? ⟨w.heap.size, 5, none⟩ = some (.string ⟨i.cl.toArray⟩) ∧ w'.cell? ⟨w.heap.size, 6, none⟩ = some (.string ⟨i.nm.toArray⟩) ∧ w'.cell? ⟨w.heap.size, 7, none⟩ = some (.string ⟨i.ds.toArray⟩) ∧ w'.cell? ⟨w.heap.size, 8, none⟩ = some (.slice A i.ar.length c))) (by kernel_rfl) ?_ (fun hHeld => ?_)
  ·exact ⟨g0, g1, g2, g3, g4, g5, g6, g7, g8⟩
  refine tkp 0 rfl ?_
  refine tkp 1 rfl ?_
  refine rdy 2 rfl (fun K hK => ?_)
  go_simp
  refine (HK.out _).mono ?_; rintro e v0 ⟨rfl, rfl⟩; go_wp2_with fail
  refine hK.out _ _ (by assumption) (fun hHeld => ?_)
  clear hK K
  try simp only [puts]
  refine tkp 3 rfl ?_
  refine tup 4 rfl ?_
  refine tup 6 rfl ?_
  refine tup 7 rfl ?_
  refine tup 8 rfl ?_
  refine tup 5 rfl ?_
  refine tup 9 rfl ?_
  refine tkp 10 rfl ?_
  refine tkp 11 rfl ?_
  refine tup 12 rfl ?_
  refine tup 13 rfl ?_
  refine tup 14 rfl ?_
  refine tup 15 rfl ?_
  refine tup 16 rfl ?_
  refine tup 17 rfl ?_
  refine tup 18 rfl ?_
  refine tup 19 rfl ?_
  refine tup 20 rfl ?_
  refine tkp 21 rfl ?_
  refine tkp 22 rfl ?_
  refine tup 23 rfl ?_
  refine tup 24 rfl ?_
  refine tup 25 rfl ?_
  refine tup 26 rfl ?_
  refine tup 27 rfl ?_
  refine tup 28 rfl ?_
  refine tup 29 rfl ?_
  refine tup 30 rfl ?_
  refine tup 31 rfl ?_
  refine tkp 32 rfl ?_
  refine tkp 33 rfl ?_
  refine wpAnyH_done (by kernel_rfl) ?_ _
  go_wp2
  go_ret
  exact ⟨rfl, over HAL.out⟩
 ·rintro rfl rfl
  go_enter Tryz.func141, Tryz.ntmps141
  go_wp2_with fail
  rw [← HW.out]
  refine wp_region_held_drew (S := (fun w' => w'.cell? ⟨w.heap.size, 0, none⟩ = some (.int .i64 i.o) ∧ w'.cell? ⟨w.heap.size, 1, none⟩ = some (.int .i64 i.a) ∧ w'.cell? ⟨w.heap.size, 2, none⟩ = some (.int .i64 i.b) ∧ w'.cell? ⟨w.heap.size, 3, none⟩ = some (.int .i64 i.c) ∧ w'.cell? ⟨w.heap.size, 4, none⟩ = some (.int .i64 i.k) ∧ w'.cell? ⟨w.heap.size, 5, none⟩ = some (.string ⟨i.cl.toArray⟩) ∧ w'.cell? ⟨w.heap.size, 6, none⟩ = some (.string ⟨i.nm.toArray⟩) ∧ w'.cell? ⟨w.heap.size, 7, none⟩ = some (.string ⟨i.ds.toArray⟩) ∧ w'.cell? ⟨w.heap.size, 8, none⟩ = some (.slice A i.ar.length c))) (by kernel_rfl) ?_ (fun hHeld => ?_)
  ·exact ⟨g0, g1, g2, g3, g4, g5, g6, g7, g8⟩
  refine tkp 0 rfl ?_
  refine tkp 1 rfl ?_
  refine rdy 2 rfl (fun K hK => ?_)
  go_simp
  refine (HK.out _).mono ?_; rintro e v0 ⟨rfl, rfl⟩; go_wp2_with fail
  refine hK.out _ _ (by assumption) (fun hHeld => ?_)
  clear hK K
  try simp only [puts]
  refine tkp 3 rfl ?_
  refine tkp 4 rfl ?_
  refine tkp 6 rfl ?_
  refine tkp 7 rfl ?_
  refine tkp 8 rfl ?_
  refine rdy 5 rfl (fun K hK => ?_)
  go_simp
  refine (HBR.out _ ?_ ?_).mono ?_; exact HSH.out; exact HRD.out; rintro e v1 ⟨⟨A9, c9, rfl, hr9, hc9⟩, hb1⟩; have k1 : Below W.heap.size W v1 := (by first | exact under hb1 | exact hb1); obtain ⟨a0x1, a1x1, a2x1, a3x1, a4x1, a5x1, a6x1, a7x1, a8x1⟩ := in_cells ((k1.block _ (Hid.out HLT)).trans (Hid.out HBK)); have HR9 := hh hr9; have K1 := hh k1; clear k1 hb1 hr9 hc9; go_wp2_with fail
  refine hK.out _ _ ⟨a0x1, a1x1, a2x1, a3x1, a4x1, a5x1, a6x1, a7x1, a8x1⟩ (fun hHeld => ?_)
  clear hK K
  try simp only [puts]
  refine rdy 9 rfl (fun K hK => ?_)
  go_simp
  refine (HSM.out _ _ _ ?_).mono ?_; exact HR9.out; rintro e v2 ⟨rfl, hb2⟩; have k2 : Below W.heap.size W v2 := (by first | exact then' K1.out hb2 | exact then' K1.out (under hb2)); obtain ⟨a0x2, a1x2, a2x2, a3x2, a4x2, a5x2, a6x2, a7x2, a8x2⟩ := in_cells ((k2.block _ (Hid.out HLT)).trans (Hid.out HBK)); have K2 := hh k2; clear k2 hb2; clear a0x1 a1x1 a2x1 a3x1 a4x1 a5x1 a6x1 a7x1 a8x1; go_wp2_with fail
  refine hK.out _ _ ⟨a0x2, a1x2, a2x2, a3x2, a4x2, a5x2, a6x2, a7x2, a8x2⟩ (fun hHeld => ?_)
  clear hK K
  try simp only [puts]
  refine tkp 10 rfl ?_
  refine tkp 11 rfl ?_
  refine tup 12 rfl ?_
  refine tup 13 rfl ?_
  refine tup 14 rfl ?_
  refine tup 15 rfl ?_
  refine tup 16 rfl ?_
  refine tup 17 rfl ?_
  refine tup 18 rfl ?_
  refine tup 19 rfl ?_
  refine tup 20 rfl ?_
  refine tkp 21 rfl ?_
  refine tkp 22 rfl ?_
  refine tup 23 rfl ?_
  refine tup 24 rfl ?_
  refine tup 25 rfl ?_
  refine tup 26 rfl ?_
  refine tup 27 rfl ?_
  refine tup 28 rfl ?_
  refine tup 29 rfl ?_
  refine tup 30 rfl ?_
  refine tup 31 rfl ?_
  refine tkp 32 rfl ?_
  refine tkp 33 rfl ?_
  refine wpAnyH_done (by kernel_rfl) ?_ _
  clear a0x2 a1x2 a2x2 a3x2 a4x2 a5x2 a6x2 a7x2 a8x2
  go_wp2
  go_ret
  exact ⟨rfl, HAL.out.trans (K2.out.mono HAL.out.size)⟩
 ·rintro rfl rfl rfl rfl
  go_enter Tryz.func141, Tryz.ntmps141
  go_wp2_with fail
  rw [← HW.out]
  refine wp_region_held_drew (S := (fun w' => w'.cell? ⟨w.heap.size, 0, none⟩ = some (.int .i64 i.o) ∧ w'.cell? ⟨w.heap.size, 1, none⟩ = some (.int .i64 i.a) ∧ w'.cell? ⟨w.heap.size, 2, none⟩ = some (.int .i64 i.b) ∧ w'.cell? ⟨w.heap.size, 3, none⟩ = some (.int .i64 i.c) ∧ w'.cell? ⟨w.heap.size, 4, none⟩ = some (.int .i64 i.k) ∧ w'.cell? ⟨w.heap.size, 5, none⟩ = some (.string ⟨i.cl.toArray⟩) ∧ w'.cell? ⟨w.heap.size, 6, none⟩ = some (.string ⟨i.nm.toArray⟩) ∧ w'.cell? ⟨w.heap.size, 7, none⟩ = some (.string ⟨i.ds.toArray⟩) ∧ w'.cell? ⟨w.heap.size, 8, none⟩ = some (.slice A i.ar.length c))) (by kernel_rfl) ?_ (fun hHeld => ?_)
  ·exact ⟨g0, g1, g2, g3, g4, g5, g6, g7, g8⟩
  refine tkp 0 rfl ?_
  refine tkp 1 rfl ?_
  refine rdy 2 rfl (fun K hK => ?_)
  go_simp
  refine (HK.out _).mono ?_; rintro e v0 ⟨rfl, rfl⟩; go_wp2_with fail
  refine hK.out _ _ (by assumption) (fun hHeld => ?_)
  clear hK K
  try simp only [puts]
  refine tkp 3 rfl ?_
  refine tkp 4 rfl ?_
  refine tkp 6 rfl ?_
  refine tkp 7 rfl ?_
  refine tkp 8 rfl ?_
  refine rdy 5 rfl (fun K hK => ?_)
  go_simp
  refine (HBR.out _ ?_ ?_).mono ?_; exact HSH.out; exact HRD.out; rintro e v1 ⟨⟨A9, c9, rfl, hr9, hc9⟩, hb1⟩; have k1 : Below W.heap.size W v1 := (by first | exact under hb1 | exact hb1); obtain ⟨a0x1, a1x1, a2x1, a3x1, a4x1, a5x1, a6x1, a7x1, a8x1⟩ := in_cells ((k1.block _ (Hid.out HLT)).trans (Hid.out HBK)); have HR9 := hh hr9; have K1 := hh k1; clear k1 hb1 hr9 hc9; go_wp2_with fail
  refine hK.out _ _ ⟨a0x1, a1x1, a2x1, a3x1, a4x1, a5x1, a6x1, a7x1, a8x1⟩ (fun hHeld => ?_)
  clear hK K
  try simp only [puts]
  refine rdy 9 rfl (fun K hK => ?_)
  go_simp
  refine (HSM.out _ _ _ ?_).mono ?_; exact HR9.out; rintro e v2 ⟨rfl, hb2⟩; have k2 : Below W.heap.size W v2 := (by first | exact then' K1.out hb2 | exact then' K1.out (under hb2)); obtain ⟨a0x2, a1x2, a2x2, a3x2, a4x2, a5x2, a6x2, a7x2, a8x2⟩ := in_cells ((k2.block _ (Hid.out HLT)).trans (Hid.out HBK)); have K2 := hh k2; clear k2 hb2; clear a0x1 a1x1 a2x1 a3x1 a4x1 a5x1 a6x1 a7x1 a8x1; go_wp2_with fail
  refine hK.out _ _ ⟨a0x2, a1x2, a2x2, a3x2, a4x2, a5x2, a6x2, a7x2, a8x2⟩ (fun hHeld => ?_)
  clear hK K
  try simp only [puts]
  refine tkp 10 rfl ?_
  refine tkp 11 rfl ?_
  refine tkp 12 rfl ?_
  refine tkp 13 rfl ?_
  refine rdy 14 rfl (fun K hK => ?_)
  go_simp
  refine (HH1.out _ ?_).mono ?_; exact (show Sh _ from HSH.out.below K2.out); rintro e v3 ⟨rfl, hb3⟩; have k3 : Below W.heap.size W v3 := (by first | exact then' K2.out hb3 | exact then' K2.out (under hb3)); obtain ⟨a0x3, a1x3, a2x3, a3x3, a4x3, a5x3, a6x3, a7x3, a8x3⟩ := in_cells ((k3.block _ (Hid.out HLT)).trans (Hid.out HBK)); have K3 := hh k3; clear k3 hb3; clear a0x2 a1x2 a2x2 a3x2 a4x2 a5x2 a6x2 a7x2 a8x2; go_wp2_with fail
  refine hK.out _ _ ⟨a0x3, a1x3, a2x3, a3x3, a4x3, a5x3, a6x3, a7x3, a8x3⟩ (fun hHeld => ?_)
  clear hK K
  try simp only [puts]
  refine tkp 15 rfl ?_
  refine tkp 16 rfl ?_
  refine tkp 17 rfl ?_
  refine tkp 18 rfl ?_
  refine rdy 19 rfl (fun K hK => ?_)
  go_simp
  refine (HC.out _).mono ?_; rintro e v0 ⟨rfl, rfl⟩; go_wp2_with fail
  refine hK.out _ _ (by assumption) (fun hHeld => ?_)
  clear hK K
  try simp only [puts]
  refine tkp 20 rfl ?_
  refine tkp 21 rfl ?_
  refine tkp 22 rfl ?_
  refine tup 23 rfl ?_
  refine tup 24 rfl ?_
  refine tup 25 rfl ?_
  refine tup 26 rfl ?_
  refine tup 27 rfl ?_
  refine tup 28 rfl ?_
  refine tup 29 rfl ?_
  refine tup 30 rfl ?_
  refine tup 31 rfl ?_
  refine tkp 32 rfl ?_
  refine tkp 33 rfl ?_
  refine wpAnyH_done (by kernel_rfl) ?_ _
  clear a0x3 a1x3 a2x3 a3x3 a4x3 a5x3 a6x3 a7x3 a8x3
  go_wp2
  go_ret
  exact ⟨rfl, HAL.out.trans (K3.out.mono HAL.out.size)⟩
 ·rintro rfl rfl rfl rfl
  go_enter Tryz.func141, Tryz.ntmps141
  go_wp2_with fail
  rw [← HW.out]
  refine wp_region_held_drew (S := (fun w' => w'.cell? ⟨w.heap.size, 0, none⟩ = some (.int .i64 i.o) ∧ w'.cell? ⟨w.heap.size, 1, none⟩ = some (.int .i64 i.a) ∧ w'.cell? ⟨w.heap.size, 2, none⟩ = some (.int .i64 i.b) ∧ w'.cell? ⟨w.heap.size, 3, none⟩ = some (.int .i64 i.c) ∧ w'.cell? ⟨w.heap.size, 4, none⟩ = some (.int .i64 i.k) ∧ w'.cell? ⟨w.heap.size, 5, none⟩ = some (.string ⟨i.cl.toArray⟩) ∧ w'.cell? ⟨w.heap.size, 6, none⟩ = some (.string ⟨i.nm.toArray⟩) ∧ w'.cell? ⟨w.heap.size, 7, none⟩ = some (.string ⟨i.ds.toArray⟩) ∧ w'.cell? ⟨w.heap.size, 8, none⟩ = some (.slice A i.ar.length c))) (by kernel_rfl) ?_ (fun hHeld => ?_)
  ·exact ⟨g0, g1, g2, g3, g4, g5, g6, g7, g8⟩
  refine tkp 0 rfl ?_
  refine tkp 1 rfl ?_
  refine rdy 2 rfl (fun K hK => ?_)
  go_simp
  refine (HK.out _).mono ?_; rintro e v0 ⟨rfl, rfl⟩; go_wp2_with fail
  refine hK.out _ _ (by assumption) (fun hHeld => ?_)
  clear hK K
  try simp only [puts]
  refine tkp 3 rfl ?_
  refine tkp 4 rfl ?_
  refine tkp 6 rfl ?_
  refine tkp 7 rfl ?_
  refine tkp 8 rfl ?_
  refine rdy 5 rfl (fun K hK => ?_)
  go_simp
  refine (HBR.out _ ?_ ?_).mono ?_; exact HSH.out; exact HRD.out; rintro e v1 ⟨⟨A9, c9, rfl, hr9, hc9⟩, hb1⟩; have k1 : Below W.heap.size W v1 := (by first | exact under hb1 | exact hb1); obtain ⟨a0x1, a1x1, a2x1, a3x1, a4x1, a5x1, a6x1, a7x1, a8x1⟩ := in_cells ((k1.block _ (Hid.out HLT)).trans (Hid.out HBK)); have HR9 := hh hr9; have K1 := hh k1; clear k1 hb1 hr9 hc9; go_wp2_with fail
  refine hK.out _ _ ⟨a0x1, a1x1, a2x1, a3x1, a4x1, a5x1, a6x1, a7x1, a8x1⟩ (fun hHeld => ?_)
  clear hK K
  try simp only [puts]
  refine rdy 9 rfl (fun K hK => ?_)
  go_simp
  refine (HSM.out _ _ _ ?_).mono ?_; exact HR9.out; rintro e v2 ⟨rfl, hb2⟩; have k2 : Below W.heap.size W v2 := (by first | exact then' K1.out hb2 | exact then' K1.out (under hb2)); obtain ⟨a0x2, a1x2, a2x2, a3x2, a4x2, a5x2, a6x2, a7x2, a8x2⟩ := in_cells ((k2.block _ (Hid.out HLT)).trans (Hid.out HBK)); have K2 := hh k2; clear k2 hb2; clear a0x1 a1x1 a2x1 a3x1 a4x1 a5x1 a6x1 a7x1 a8x1; go_wp2_with fail
  refine hK.out _ _ ⟨a0x2, a1x2, a2x2, a3x2, a4x2, a5x2, a6x2, a7x2, a8x2⟩ (fun hHeld => ?_)
  clear hK K
  try simp only [puts]
  refine tkp 10 rfl ?_
  refine tkp 11 rfl ?_
  refine tkp 12 rfl ?_
  refine tkp 13 rfl ?_
  refine rdy 14 rfl (fun K hK => ?_)
  go_simp
  refine (HH1.out _ ?_).mono ?_; exact (show Sh _ from HSH.out.below K2.out); rintro e v3 ⟨rfl, hb3⟩; have k3 : Below W.heap.size W v3 := (by first | exact then' K2.out hb3 | exact then' K2.out (under hb3)); obtain ⟨a0x3, a1x3, a2x3, a3x3, a4x3, a5x3, a6x3, a7x3, a8x3⟩ := in_cells ((k3.block _ (Hid.out HLT)).trans (Hid.out HBK)); have K3 := hh k3; clear k3 hb3; clear a0x2 a1x2 a2x2 a3x2 a4x2 a5x2 a6x2 a7x2 a8x2; go_wp2_with fail
  refine hK.out _ _ ⟨a0x3, a1x3, a2x3, a3x3, a4x3, a5x3, a6x3, a7x3, a8x3⟩ (fun hHeld => ?_)
  clear hK K
  try simp only [puts]
  refine tkp 15 rfl ?_
  refine tkp 16 rfl ?_
  refine tup 17 rfl ?_
  refine tup 18 rfl ?_
  refine tup 19 rfl ?_
  refine tkp 20 rfl ?_
  refine tkp 21 rfl ?_
  refine tkp 22 rfl ?_
  refine tkp 23 rfl ?_
  refine tkp 24 rfl ?_
  refine rdy 25 rfl (fun K hK => ?_)
  go_simp
  refine (HH2.out _ ?_).mono ?_; exact (show Sh _ from HSH.out.below K3.out); rintro e v4 ⟨rfl, hb4⟩; have k4 : Below W.heap.size W v4 := (by first | exact then' K3.out hb4 | exact then' K3.out (under hb4)); obtain ⟨a0x4, a1x4, a2x4, a3x4, a4x4, a5x4, a6x4, a7x4, a8x4⟩ := in_cells ((k4.block _ (Hid.out HLT)).trans (Hid.out HBK)); have K4 := hh k4; clear k4 hb4; clear a0x3 a1x3 a2x3 a3x3 a4x3 a5x3 a6x3 a7x3 a8x3; go_wp2_with fail
  refine hK.out _ _ ⟨a0x4, a1x4, a2x4, a3x4, a4x4, a5x4, a6x4, a7x4, a8x4⟩ (fun hHeld => ?_)
  clear hK K
  try simp only [puts]
  refine tkp 26 rfl ?_
  refine tkp 27 rfl ?_
  refine tup 28 rfl ?_
  refine tup 29 rfl ?_
  refine tup 30 rfl ?_
  refine tkp 31 rfl ?_
  refine tkp 32 rfl ?_
  refine tkp 33 rfl ?_
  refine wpAnyH_done (by kernel_rfl) ?_ _
  clear a0x4 a1x4 a2x4 a3x4 a4x4 a5x4 a6x4 a7x4 a8x4
  go_wp2
  go_ret
  exact ⟨rfl, HAL.out.trans (K4.out.mono HAL.out.size)⟩
 ·rintro rfl rfl rfl rfl rfl
  go_enter Tryz.func141, Tryz.ntmps141
  go_wp2_with fail
  rw [← HW.out]
  refine wp_region_held_drew (S := (fun w' => w'.cell? ⟨w.heap.size, 0, none⟩ = some (.int .i64 i.o) ∧ w'.cell? ⟨w.heap.size, 1, none⟩ = some (.int .i64 i.a) ∧ w'.cell? ⟨w.heap.size, 2, none⟩ = some (.int .i64 i.b) ∧ w'.cell? ⟨w.heap.size, 3, none⟩ = some (.int .i64 i.c) ∧ w'.cell? ⟨w.heap.size, 4, none⟩ = some (.int .i64 i.k) ∧ w'.cell? ⟨w.heap.size, 5, none⟩ = some (.string ⟨i.cl.toArray⟩) ∧ w'.cell? ⟨w.heap.size, 6, none⟩ = some (.string ⟨i.nm.toArray⟩) ∧ w'.cell? ⟨w.heap.size, 7, none⟩ = some (.string ⟨i.ds.toArray⟩) ∧ w'.cell? ⟨w.heap.size, 8, none⟩ = some (.slice A i.ar.length c))) (by kernel_rfl) ?_ (fun hHeld => ?_)
  ·exact ⟨g0, g1, g2, g3, g4, g5, g6, g7, g8⟩
  refine tkp 0 rfl ?_
  refine tkp 1 rfl ?_
  refine rdy 2 rfl (fun K hK => ?_)
  go_simp
  refine (HK.out _).mono ?_; rintro e v0 ⟨rfl, rfl⟩; go_wp2_with fail
  refine hK.out _ _ (by assumption) (fun hHeld => ?_)
  clear hK K
  try simp only [puts]
  refine tkp 3 rfl ?_
  refine tkp 4 rfl ?_
  refine tkp 6 rfl ?_
  refine tkp 7 rfl ?_
  refine tkp 8 rfl ?_
  refine rdy 5 rfl (fun K hK => ?_)
  go_simp
  refine (HBR.out _ ?_ ?_).mono ?_; exact HSH.out; exact HRD.out; rintro e v1 ⟨⟨A9, c9, rfl, hr9, hc9⟩, hb1⟩; have k1 : Below W.heap.size W v1 := (by first | exact under hb1 | exact hb1); obtain ⟨a0x1, a1x1, a2x1, a3x1, a4x1, a5x1, a6x1, a7x1, a8x1⟩ := in_cells ((k1.block _ (Hid.out HLT)).trans (Hid.out HBK)); have HR9 := hh hr9; have K1 := hh k1; clear k1 hb1 hr9 hc9; go_wp2_with fail
  refine hK.out _ _ ⟨a0x1, a1x1, a2x1, a3x1, a4x1, a5x1, a6x1, a7x1, a8x1⟩ (fun hHeld => ?_)
  clear hK K
  try simp only [puts]
  refine rdy 9 rfl (fun K hK => ?_)
  go_simp
  refine (HSM.out _ _ _ ?_).mono ?_; exact HR9.out; rintro e v2 ⟨rfl, hb2⟩; have k2 : Below W.heap.size W v2 := (by first | exact then' K1.out hb2 | exact then' K1.out (under hb2)); obtain ⟨a0x2, a1x2, a2x2, a3x2, a4x2, a5x2, a6x2, a7x2, a8x2⟩ := in_cells ((k2.block _ (Hid.out HLT)).trans (Hid.out HBK)); have K2 := hh k2; clear k2 hb2; clear a0x1 a1x1 a2x1 a3x1 a4x1 a5x1 a6x1 a7x1 a8x1; go_wp2_with fail
  refine hK.out _ _ ⟨a0x2, a1x2, a2x2, a3x2, a4x2, a5x2, a6x2, a7x2, a8x2⟩ (fun hHeld => ?_)
  clear hK K
  try simp only [puts]
  refine tkp 10 rfl ?_
  refine tkp 11 rfl ?_
  refine tkp 12 rfl ?_
  refine tkp 13 rfl ?_
  refine rdy 14 rfl (fun K hK => ?_)
  go_simp
  refine (HH1.out _ ?_).mono ?_; exact (show Sh _ from HSH.out.below K2.out); rintro e v3 ⟨rfl, hb3⟩; have k3 : Below W.heap.size W v3 := (by first | exact then' K2.out hb3 | exact then' K2.out (under hb3)); obtain ⟨a0x3, a1x3, a2x3, a3x3, a4x3, a5x3, a6x3, a7x3, a8x3⟩ := in_cells ((k3.block _ (Hid.out HLT)).trans (Hid.out HBK)); have K3 := hh k3; clear k3 hb3; clear a0x2 a1x2 a2x2 a3x2 a4x2 a5x2 a6x2 a7x2 a8x2; go_wp2_with fail
  refine hK.out _ _ ⟨a0x3, a1x3, a2x3, a3x3, a4x3, a5x3, a6x3, a7x3, a8x3⟩ (fun hHeld => ?_)
  clear hK K
  try simp only [puts]
  refine tkp 15 rfl ?_
  refine tkp 16 rfl ?_
  refine tup 17 rfl ?_
  refine tup 18 rfl ?_
  refine tup 19 rfl ?_
  refine tkp 20 rfl ?_
  refine tkp 21 rfl ?_
  refine tkp 22 rfl ?_
  refine tkp 23 rfl ?_
  refine tkp 24 rfl ?_
  refine rdy 25 rfl (fun K hK => ?_)
  go_simp
  refine (HH2.out _ ?_).mono ?_; exact (show Sh _ from HSH.out.below K3.out); rintro e v4 ⟨rfl, hb4⟩; have k4 : Below W.heap.size W v4 := (by first | exact then' K3.out hb4 | exact then' K3.out (under hb4)); obtain ⟨a0x4, a1x4, a2x4, a3x4, a4x4, a5x4, a6x4, a7x4, a8x4⟩ := in_cells ((k4.block _ (Hid.out HLT)).trans (Hid.out HBK)); have K4 := hh k4; clear k4 hb4; clear a0x3 a1x3 a2x3 a3x3 a4x3 a5x3 a6x3 a7x3 a8x3; go_wp2_with fail
  refine hK.out _ _ ⟨a0x4, a1x4, a2x4, a3x4, a4x4, a5x4, a6x4, a7x4, a8x4⟩ (fun hHeld => ?_)
  clear hK K
  try simp only [puts]
  refine tkp 26 rfl ?_
  refine tkp 27 rfl ?_
  refine tkp 28 rfl ?_
  refine tkp 29 rfl ?_
  refine rdy 30 rfl (fun K hK => ?_)
  go_simp
  refine (HN.out _).mono ?_; rintro e v0 ⟨rfl, rfl⟩; go_wp2_with fail
  refine hK.out _ _ (by assumption) (fun hHeld => ?_)
  clear hK K
  try simp only [puts]
  refine tkp 31 rfl ?_
  refine tkp 32 rfl ?_
  refine tkp 33 rfl ?_
  refine wpAnyH_done (by kernel_rfl) ?_ _
  clear a0x4 a1x4 a2x4 a3x4 a4x4 a5x4 a6x4 a7x4 a8x4
  go_wp2
  go_ret
  exact ⟨rfl, HAL.out.trans (K4.out.mono HAL.out.size)⟩
 ·rintro rfl rfl rfl rfl rfl
  go_enter Tryz.func141, Tryz.ntmps141
  go_wp2_with fail
  rw [← HW.out]
  refine wp_region_held_drew (S := (fun w' => w'.cell? ⟨w.heap.size, 0, none⟩ = some (.int .i64 i.o) ∧ w'.cell? ⟨w.heap.size, 1, none⟩ = some (.int .i64 i.a) ∧ w'.cell? ⟨w.heap.size, 2, none⟩ = some (.int .i64 i.b) ∧ w'.cell? ⟨w.heap.size, 3, none⟩ = some (.int .i64 i.c) ∧ w'.cell? ⟨w.heap.size, 4, none⟩ = some (.int .i64 i.k) ∧ w'.cell? ⟨w.heap.size, 5, none⟩ = some (.string ⟨i.cl.toArray⟩) ∧ w'.cell? ⟨w.heap.size, 6, none⟩ = some (.string ⟨i.nm.toArray⟩) ∧ w'.cell? ⟨w.heap.size, 7, none⟩ = some (.string ⟨i.ds.toArray⟩) ∧ w'.cell? ⟨w.heap.size, 8, none⟩ = some (.slice A i.ar.length c))) (by kernel_rfl) ?_ (fun hHeld => ?_)
  ·exact ⟨g0, g1, g2, g3, g4, g5, g6, g7, g8⟩
  refine tkp 0 rfl ?_
  refine tkp 1 rfl ?_
  refine rdy 2 rfl (fun K hK => ?_)
  go_simp
  refine (HK.out _).mono ?_; rintro e v0 ⟨rfl, rfl⟩; go_wp2_with fail
  refine hK.out _ _ (by assumption) (fun hHeld => ?_)
  clear hK K
  try simp only [puts]
  refine tkp 3 rfl ?_
  refine tkp 4 rfl ?_
  refine tkp 6 rfl ?_
  refine tkp 7 rfl ?_
  refine tkp 8 rfl ?_
  refine rdy 5 rfl (fun K hK => ?_)
  go_simp
  refine (HBR.out _ ?_ ?_).mono ?_; exact HSH.out; exact HRD.out; rintro e v1 ⟨⟨A9, c9, rfl, hr9, hc9⟩, hb1⟩; have k1 : Below W.heap.size W v1 := (by first | exact under hb1 | exact hb1); obtain ⟨a0x1, a1x1, a2x1, a3x1, a4x1, a5x1, a6x1, a7x1, a8x1⟩ := in_cells ((k1.block _ (Hid.out HLT)).trans (Hid.out HBK)); have HR9 := hh hr9; have K1 := hh k1; clear k1 hb1 hr9 hc9; go_wp2_with fail
  refine hK.out _ _ ⟨a0x1, a1x1, a2x1, a3x1, a4x1, a5x1, a6x1, a7x1, a8x1⟩ (fun hHeld => ?_)
  clear hK K
  try simp only [puts]
  refine rdy 9 rfl (fun K hK => ?_)
  go_simp
  refine (HSM.out _ _ _ ?_).mono ?_; exact HR9.out; rintro e v2 ⟨rfl, hb2⟩; have k2 : Below W.heap.size W v2 := (by first | exact then' K1.out hb2 | exact then' K1.out (under hb2)); obtain ⟨a0x2, a1x2, a2x2, a3x2, a4x2, a5x2, a6x2, a7x2, a8x2⟩ := in_cells ((k2.block _ (Hid.out HLT)).trans (Hid.out HBK)); have K2 := hh k2; clear k2 hb2; clear a0x1 a1x1 a2x1 a3x1 a4x1 a5x1 a6x1 a7x1 a8x1; go_wp2_with fail
  refine hK.out _ _ ⟨a0x2, a1x2, a2x2, a3x2, a4x2, a5x2, a6x2, a7x2, a8x2⟩ (fun hHeld => ?_)
  clear hK K
  try simp only [puts]
  refine tkp 10 rfl ?_
  refine tkp 11 rfl ?_
  refine tkp 12 rfl ?_
  refine tkp 13 rfl ?_
  refine rdy 14 rfl (fun K hK => ?_)
  go_simp
  refine (HH1.out _ ?_).mono ?_; exact (show Sh _ from HSH.out.below K2.out); rintro e v3 ⟨rfl, hb3⟩; have k3 : Below W.heap.size W v3 := (by first | exact then' K2.out hb3 | exact then' K2.out (under hb3)); obtain ⟨a0x3, a1x3, a2x3, a3x3, a4x3, a5x3, a6x3, a7x3, a8x3⟩ := in_cells ((k3.block _ (Hid.out HLT)).trans (Hid.out HBK)); have K3 := hh k3; clear k3 hb3; clear a0x2 a1x2 a2x2 a3x2 a4x2 a5x2 a6x2 a7x2 a8x2; go_wp2_with fail
  refine hK.out _ _ ⟨a0x3, a1x3, a2x3, a3x3, a4x3, a5x3, a6x3, a7x3, a8x3⟩ (fun hHeld => ?_)
  clear hK K
  try simp only [puts]
  refine tkp 15 rfl ?_
  refine tkp 16 rfl ?_
  refine tup 17 rfl ?_
  refine tup 18 rfl ?_
  refine tup 19 rfl ?_
  refine tkp 20 rfl ?_
  refine tkp 21 rfl ?_
  refine tkp 22 rfl ?_
  refine tkp 23 rfl ?_
  refine tkp 24 rfl ?_
  refine rdy 25 rfl (fun K hK => ?_)
  go_simp
  refine (HH2.out _ ?_).mono ?_; exact (show Sh _ from HSH.out.below K3.out); rintro e v4 ⟨rfl, hb4⟩; have k4 : Below W.heap.size W v4 := (by first | exact then' K3.out hb4 | exact then' K3.out (under hb4)); obtain ⟨a0x4, a1x4, a2x4, a3x4, a4x4, a5x4, a6x4, a7x4, a8x4⟩ := in_cells ((k4.block _ (Hid.out HLT)).trans (Hid.out HBK)); have K4 := hh k4; clear k4 hb4; clear a0x3 a1x3 a2x3 a3x3 a4x3 a5x3 a6x3 a7x3 a8x3; go_wp2_with fail
  refine hK.out _ _ ⟨a0x4, a1x4, a2x4, a3x4, a4x4, a5x4, a6x4, a7x4, a8x4⟩ (fun hHeld => ?_)
  clear hK K
  try simp only [puts]
  refine tkp 26 rfl ?_
  refine tkp 27 rfl ?_
  refine tkp 28 rfl ?_
  refine tkp 29 rfl ?_
  refine rdy 30 rfl (fun K hK => ?_)
  go_simp
  refine (HN.out _).mono ?_; rintro e v0 ⟨rfl, rfl⟩; go_wp2_with fail
  refine hK.out _ _ (by assumption) (fun hHeld => ?_)
  clear hK K
  try simp only [puts]
  refine tkp 31 rfl ?_
  refine tkp 32 rfl ?_
  refine tkp 33 rfl ?_
  refine wpAnyH_done (by kernel_rfl) ?_ _
  clear a0x4 a1x4 a2x4 a3x4 a4x4 a5x4 a6x4 a7x4 a8x4
  go_wp2
  go_ret
  exact ⟨rfl, HAL.out.trans (K4.out.mono HAL.out.size)⟩
 ·rintro rfl rfl rfl rfl rfl
  go_enter Tryz.func141, Tryz.ntmps141
  go_wp2_with fail
  rw [← HW.out]
  refine wp_region_held_drew (S := (fun w' => w'.cell? ⟨w.heap.size, 0, none⟩ = some (.int .i64 i.o) ∧ w'.cell? ⟨w.heap.size, 1, none⟩ = some (.int .i64 i.a) ∧ w'.cell? ⟨w.heap.size, 2, none⟩ = some (.int .i64 i.b) ∧ w'.cell? ⟨w.heap.size, 3, none⟩ = some (.int .i64 i.c) ∧ w'.cell? ⟨w.heap.size, 4, none⟩ = some (.int .i64 i.k) ∧ w'.cell? ⟨w.heap.size, 5, none⟩ = some (.string ⟨i.cl.toArray⟩) ∧ w'.cell? ⟨w.heap.size, 6, none⟩ = some (.string ⟨i.nm.toArray⟩) ∧ w'.cell? ⟨w.heap.size, 7, none⟩ = some (.string ⟨i.ds.toArray⟩) ∧ w'.cell? ⟨w.heap.size, 8, none⟩ = some (.slice A i.ar.length c))) (by kernel_rfl) ?_ (fun hHeld => ?_)
  ·exact ⟨g0, g1, g2, g3, g4, g5, g6, g7, g8⟩
  refine tkp 0 rfl ?_
  refine tkp 1 rfl ?_
  refine rdy 2 rfl (fun K hK => ?_)
  go_simp
  refine (HK.out _).mono ?_; rintro e v0 ⟨rfl, rfl⟩; go_wp2_with fail
  refine hK.out _ _ (by assumption) (fun hHeld => ?_)
  clear hK K
  try simp only [puts]
  refine tkp 3 rfl ?_
  refine tkp 4 rfl ?_
  refine tkp 6 rfl ?_
  refine tkp 7 rfl ?_
  refine tkp 8 rfl ?_
  refine rdy 5 rfl (fun K hK => ?_)
  go_simp
  refine (HBR.out _ ?_ ?_).mono ?_; exact HSH.out; exact HRD.out; rintro e v1 ⟨⟨A9, c9, rfl, hr9, hc9⟩, hb1⟩; have k1 : Below W.heap.size W v1 := (by first | exact under hb1 | exact hb1); obtain ⟨a0x1, a1x1, a2x1, a3x1, a4x1, a5x1, a6x1, a7x1, a8x1⟩ := in_cells ((k1.block _ (Hid.out HLT)).trans (Hid.out HBK)); have HR9 := hh hr9; have K1 := hh k1; clear k1 hb1 hr9 hc9; go_wp2_with fail
  refine hK.out _ _ ⟨a0x1, a1x1, a2x1, a3x1, a4x1, a5x1, a6x1, a7x1, a8x1⟩ (fun hHeld => ?_)
  clear hK K
  try simp only [puts]
  refine rdy 9 rfl (fun K hK => ?_)
  go_simp
  refine (HSM.out _ _ _ ?_).mono ?_; exact HR9.out; rintro e v2 ⟨rfl, hb2⟩; have k2 : Below W.heap.size W v2 := (by first | exact then' K1.out hb2 | exact then' K1.out (under hb2)); obtain ⟨a0x2, a1x2, a2x2, a3x2, a4x2, a5x2, a6x2, a7x2, a8x2⟩ := in_cells ((k2.block _ (Hid.out HLT)).trans (Hid.out HBK)); have K2 := hh k2; clear k2 hb2; clear a0x1 a1x1 a2x1 a3x1 a4x1 a5x1 a6x1 a7x1 a8x1; go_wp2_with fail
  refine hK.out _ _ ⟨a0x2, a1x2, a2x2, a3x2, a4x2, a5x2, a6x2, a7x2, a8x2⟩ (fun hHeld => ?_)
  clear hK K
  try simp only [puts]
  refine tkp 10 rfl ?_
  refine tkp 11 rfl ?_
  refine tkp 12 rfl ?_
  refine tkp 13 rfl ?_
  refine rdy 14 rfl (fun K hK => ?_)
  go_simp
  refine (HH1.out _ ?_).mono ?_; exact (show Sh _ from HSH.out.below K2.out); rintro e v3 ⟨rfl, hb3⟩; have k3 : Below W.heap.size W v3 := (by first | exact then' K2.out hb3 | exact then' K2.out (under hb3)); obtain ⟨a0x3, a1x3, a2x3, a3x3, a4x3, a5x3, a6x3, a7x3, a8x3⟩ := in_cells ((k3.block _ (Hid.out HLT)).trans (Hid.out HBK)); have K3 := hh k3; clear k3 hb3; clear a0x2 a1x2 a2x2 a3x2 a4x2 a5x2 a6x2 a7x2 a8x2; go_wp2_with fail
  refine hK.out _ _ ⟨a0x3, a1x3, a2x3, a3x3, a4x3, a5x3, a6x3, a7x3, a8x3⟩ (fun hHeld => ?_)
  clear hK K
  try simp only [puts]
  refine tkp 15 rfl ?_
  refine tkp 16 rfl ?_
  refine tkp 17 rfl ?_
  refine tkp 18 rfl ?_
  refine rdy 19 rfl (fun K hK => ?_)
  go_simp
  refine (HC.out _).mono ?_; rintro e v0 ⟨rfl, rfl⟩; go_wp2_with fail
  refine hK.out _ _ (by assumption) (fun hHeld => ?_)
  clear hK K
  try simp only [puts]
  refine tkp 20 rfl ?_
  refine tkp 21 rfl ?_
  refine tkp 22 rfl ?_
  refine tkp 23 rfl ?_
  refine tkp 24 rfl ?_
  refine rdy 25 rfl (fun K hK => ?_)
  go_simp
  refine (HH2.out _ ?_).mono ?_; exact (show Sh _ from HSH.out.below K3.out); rintro e v4 ⟨rfl, hb4⟩; have k4 : Below W.heap.size W v4 := (by first | exact then' K3.out hb4 | exact then' K3.out (under hb4)); obtain ⟨a0x4, a1x4, a2x4, a3x4, a4x4, a5x4, a6x4, a7x4, a8x4⟩ := in_cells ((k4.block _ (Hid.out HLT)).trans (Hid.out HBK)); have K4 := hh k4; clear k4 hb4; clear a0x3 a1x3 a2x3 a3x3 a4x3 a5x3 a6x3 a7x3 a8x3; go_wp2_with fail
  refine hK.out _ _ ⟨a0x4, a1x4, a2x4, a3x4, a4x4, a5x4, a6x4, a7x4, a8x4⟩ (fun hHeld => ?_)
  clear hK K
  try simp only [puts]
  refine tkp 26 rfl ?_
  refine tkp 27 rfl ?_
  refine tup 28 rfl ?_
  refine tup 29 rfl ?_
  refine tup 30 rfl ?_
  refine tkp 31 rfl ?_
  refine tkp 32 rfl ?_
  refine tkp 33 rfl ?_
  refine wpAnyH_done (by kernel_rfl) ?_ _
  clear a0x4 a1x4 a2x4 a3x4 a4x4 a5x4 a6x4 a7x4 a8x4
  go_wp2
  go_ret
  exact ⟨rfl, HAL.out.trans (K4.out.mono HAL.out.size)⟩
 ·rintro rfl rfl rfl rfl rfl rfl
  go_enter Tryz.func141, Tryz.ntmps141
  go_wp2_with fail
  rw [← HW.out]
  refine wp_region_held_drew (S := (fun w' => w'.cell? ⟨w.heap.size, 0, none⟩ = some (.int .i64 i.o) ∧ w'.cell? ⟨w.heap.size, 1, none⟩ = some (.int .i64 i.a) ∧ w'.cell? ⟨w.heap.size, 2, none⟩ = some (.int .i64 i.b) ∧ w'.cell? ⟨w.heap.size, 3, none⟩ = some (.int .i64 i.c) ∧ w'.cell? ⟨w.heap.size, 4, none⟩ = some (.int .i64 i.k) ∧ w'.cell? ⟨w.heap.size, 5, none⟩ = some (.string ⟨i.cl.toArray⟩) ∧ w'.cell? ⟨w.heap.size, 6, none⟩ = some (.string ⟨i.nm.toArray⟩) ∧ w'.cell? ⟨w.heap.size, 7, none⟩ = some (.string ⟨i.ds.toArray⟩) ∧ w'.cell? ⟨w.heap.size, 8, none⟩ = some (.slice A i.ar.length c))) (by kernel_rfl) ?_ (fun hHeld => ?_)
  ·exact ⟨g0, g1, g2, g3, g4, g5, g6, g7, g8⟩
  refine tkp 0 rfl ?_
  refine tkp 1 rfl ?_
  refine rdy 2 rfl (fun K hK => ?_)
  go_simp
  refine (HK.out _).mono ?_; rintro e v0 ⟨rfl, rfl⟩; go_wp2_with fail
  refine hK.out _ _ (by assumption) (fun hHeld => ?_)
  clear hK K
  try simp only [puts]
  refine tkp 3 rfl ?_
  refine tkp 4 rfl ?_
  refine tkp 6 rfl ?_
  refine tkp 7 rfl ?_
  refine tkp 8 rfl ?_
  refine rdy 5 rfl (fun K hK => ?_)
  go_simp
  refine (HBR.out _ ?_ ?_).mono ?_; exact HSH.out; exact HRD.out; rintro e v1 ⟨⟨A9, c9, rfl, hr9, hc9⟩, hb1⟩; have k1 : Below W.heap.size W v1 := (by first | exact under hb1 | exact hb1); obtain ⟨a0x1, a1x1, a2x1, a3x1, a4x1, a5x1, a6x1, a7x1, a8x1⟩ := in_cells ((k1.block _ (Hid.out HLT)).trans (Hid.out HBK)); have HR9 := hh hr9; have K1 := hh k1; clear k1 hb1 hr9 hc9; go_wp2_with fail
  refine hK.out _ _ ⟨a0x1, a1x1, a2x1, a3x1, a4x1, a5x1, a6x1, a7x1, a8x1⟩ (fun hHeld => ?_)
  clear hK K
  try simp only [puts]
  refine rdy 9 rfl (fun K hK => ?_)
  go_simp
  refine (HSM.out _ _ _ ?_).mono ?_; exact HR9.out; rintro e v2 ⟨rfl, hb2⟩; have k2 : Below W.heap.size W v2 := (by first | exact then' K1.out hb2 | exact then' K1.out (under hb2)); obtain ⟨a0x2, a1x2, a2x2, a3x2, a4x2, a5x2, a6x2, a7x2, a8x2⟩ := in_cells ((k2.block _ (Hid.out HLT)).trans (Hid.out HBK)); have K2 := hh k2; clear k2 hb2; clear a0x1 a1x1 a2x1 a3x1 a4x1 a5x1 a6x1 a7x1 a8x1; go_wp2_with fail
  refine hK.out _ _ ⟨a0x2, a1x2, a2x2, a3x2, a4x2, a5x2, a6x2, a7x2, a8x2⟩ (fun hHeld => ?_)
  clear hK K
  try simp only [puts]
  refine tkp 10 rfl ?_
  refine tkp 11 rfl ?_
  refine tkp 12 rfl ?_
  refine tkp 13 rfl ?_
  refine rdy 14 rfl (fun K hK => ?_)
  go_simp
  refine (HH1.out _ ?_).mono ?_; exact (show Sh _ from HSH.out.below K2.out); rintro e v3 ⟨rfl, hb3⟩; have k3 : Below W.heap.size W v3 := (by first | exact then' K2.out hb3 | exact then' K2.out (under hb3)); obtain ⟨a0x3, a1x3, a2x3, a3x3, a4x3, a5x3, a6x3, a7x3, a8x3⟩ := in_cells ((k3.block _ (Hid.out HLT)).trans (Hid.out HBK)); have K3 := hh k3; clear k3 hb3; clear a0x2 a1x2 a2x2 a3x2 a4x2 a5x2 a6x2 a7x2 a8x2; go_wp2_with fail
  refine hK.out _ _ ⟨a0x3, a1x3, a2x3, a3x3, a4x3, a5x3, a6x3, a7x3, a8x3⟩ (fun hHeld => ?_)
  clear hK K
  try simp only [puts]
  refine tkp 15 rfl ?_
  refine tkp 16 rfl ?_
  refine tkp 17 rfl ?_
  refine tkp 18 rfl ?_
  refine rdy 19 rfl (fun K hK => ?_)
  go_simp
  refine (HC.out _).mono ?_; rintro e v0 ⟨rfl, rfl⟩; go_wp2_with fail
  refine hK.out _ _ (by assumption) (fun hHeld => ?_)
  clear hK K
  try simp only [puts]
  refine tkp 20 rfl ?_
  refine tkp 21 rfl ?_
  refine tkp 22 rfl ?_
  refine tkp 23 rfl ?_
  refine tkp 24 rfl ?_
  refine rdy 25 rfl (fun K hK => ?_)
  go_simp
  refine (HH2.out _ ?_).mono ?_; exact (show Sh _ from HSH.out.below K3.out); rintro e v4 ⟨rfl, hb4⟩; have k4 : Below W.heap.size W v4 := (by first | exact then' K3.out hb4 | exact then' K3.out (under hb4)); obtain ⟨a0x4, a1x4, a2x4, a3x4, a4x4, a5x4, a6x4, a7x4, a8x4⟩ := in_cells ((k4.block _ (Hid.out HLT)).trans (Hid.out HBK)); have K4 := hh k4; clear k4 hb4; clear a0x3 a1x3 a2x3 a3x3 a4x3 a5x3 a6x3 a7x3 a8x3; go_wp2_with fail
  refine hK.out _ _ ⟨a0x4, a1x4, a2x4, a3x4, a4x4, a5x4, a6x4, a7x4, a8x4⟩ (fun hHeld => ?_)
  clear hK K
  try simp only [puts]
  refine tkp 26 rfl ?_
  refine tkp 27 rfl ?_
  refine tkp 28 rfl ?_
  refine tkp 29 rfl ?_
  refine rdy 30 rfl (fun K hK => ?_)
  go_simp
  refine (HN.out _).mono ?_; rintro e v0 ⟨rfl, rfl⟩; go_wp2_with fail
  refine hK.out _ _ (by assumption) (fun hHeld => ?_)
  clear hK K
  try simp only [puts]
  refine tkp 31 rfl ?_
  refine tkp 32 rfl ?_
  refine tkp 33 rfl ?_
  refine wpAnyH_done (by kernel_rfl) ?_ _
  clear a0x4 a1x4 a2x4 a3x4 a4x4 a5x4 a6x4 a7x4 a8x4
  go_wp2
  go_ret
  exact ⟨rfl, HAL.out.trans (K4.out.mono HAL.out.size)⟩
 ·rintro rfl rfl rfl rfl rfl rfl
  go_enter Tryz.func141, Tryz.ntmps141
  go_wp2_with fail
  rw [← HW.out]
  refine wp_region_held_drew (S := (fun w' => w'.cell? ⟨w.heap.size, 0, none⟩ = some (.int .i64 i.o) ∧ w'.cell? ⟨w.heap.size, 1, none⟩ = some (.int .i64 i.a) ∧ w'.cell? ⟨w.heap.size, 2, none⟩ = some (.int .i64 i.b) ∧ w'.cell? ⟨w.heap.size, 3, none⟩ = some (.int .i64 i.c) ∧ w'.cell? ⟨w.heap.size, 4, none⟩ = some (.int .i64 i.k) ∧ w'.cell? ⟨w.heap.size, 5, none⟩ = some (.string ⟨i.cl.toArray⟩) ∧ w'.cell? ⟨w.heap.size, 6, none⟩ = some (.string ⟨i.nm.toArray⟩) ∧ w'.cell? ⟨w.heap.size, 7, none⟩ = some (.string ⟨i.ds.toArray⟩) ∧ w'.cell? ⟨w.heap.size, 8, none⟩ = some (.slice A i.ar.length c))) (by kernel_rfl) ?_ (fun hHeld => ?_)
  ·exact ⟨g0, g1, g2, g3, g4, g5, g6, g7, g8⟩
  refine tkp 0 rfl ?_
  refine tkp 1 rfl ?_
  refine rdy 2 rfl (fun K hK => ?_)
  go_simp
  refine (HK.out _).mono ?_; rintro e v0 ⟨rfl, rfl⟩; go_wp2_with fail
  refine hK.out _ _ (by assumption) (fun hHeld => ?_)
  clear hK K
  try simp only [puts]
  refine tkp 3 rfl ?_
  refine tkp 4 rfl ?_
  refine tkp 6 rfl ?_
  refine tkp 7 rfl ?_
  refine tkp 8 rfl ?_
  refine rdy 5 rfl (fun K hK => ?_)
  go_simp
  refine (HBR.out _ ?_ ?_).mono ?_; exact HSH.out; exact HRD.out; rintro e v1 ⟨⟨A9, c9, rfl, hr9, hc9⟩, hb1⟩; have k1 : Below W.heap.size W v1 := (by first | exact under hb1 | exact hb1); obtain ⟨a0x1, a1x1, a2x1, a3x1, a4x1, a5x1, a6x1, a7x1, a8x1⟩ := in_cells ((k1.block _ (Hid.out HLT)).trans (Hid.out HBK)); have HR9 := hh hr9; have K1 := hh k1; clear k1 hb1 hr9 hc9; go_wp2_with fail
  refine hK.out _ _ ⟨a0x1, a1x1, a2x1, a3x1, a4x1, a5x1, a6x1, a7x1, a8x1⟩ (fun hHeld => ?_)
  clear hK K
  try simp only [puts]
  refine rdy 9 rfl (fun K hK => ?_)
  go_simp
  refine (HSM.out _ _ _ ?_).mono ?_; exact HR9.out; rintro e v2 ⟨rfl, hb2⟩; have k2 : Below W.heap.size W v2 := (by first | exact then' K1.out hb2 | exact then' K1.out (under hb2)); obtain ⟨a0x2, a1x2, a2x2, a3x2, a4x2, a5x2, a6x2, a7x2, a8x2⟩ := in_cells ((k2.block _ (Hid.out HLT)).trans (Hid.out HBK)); have K2 := hh k2; clear k2 hb2; clear a0x1 a1x1 a2x1 a3x1 a4x1 a5x1 a6x1 a7x1 a8x1; go_wp2_with fail
  refine hK.out _ _ ⟨a0x2, a1x2, a2x2, a3x2, a4x2, a5x2, a6x2, a7x2, a8x2⟩ (fun hHeld => ?_)
  clear hK K
  try simp only [puts]
  refine tkp 10 rfl ?_
  refine tkp 11 rfl ?_
  refine tkp 12 rfl ?_
  refine tkp 13 rfl ?_
  refine rdy 14 rfl (fun K hK => ?_)
  go_simp
  refine (HH1.out _ ?_).mono ?_; exact (show Sh _ from HSH.out.below K2.out); rintro e v3 ⟨rfl, hb3⟩; have k3 : Below W.heap.size W v3 := (by first | exact then' K2.out hb3 | exact then' K2.out (under hb3)); obtain ⟨a0x3, a1x3, a2x3, a3x3, a4x3, a5x3, a6x3, a7x3, a8x3⟩ := in_cells ((k3.block _ (Hid.out HLT)).trans (Hid.out HBK)); have K3 := hh k3; clear k3 hb3; clear a0x2 a1x2 a2x2 a3x2 a4x2 a5x2 a6x2 a7x2 a8x2; go_wp2_with fail
  refine hK.out _ _ ⟨a0x3, a1x3, a2x3, a3x3, a4x3, a5x3, a6x3, a7x3, a8x3⟩ (fun hHeld => ?_)
  clear hK K
  try simp only [puts]
  refine tkp 15 rfl ?_
  refine tkp 16 rfl ?_
  refine tkp 17 rfl ?_
  refine tkp 18 rfl ?_
  refine rdy 19 rfl (fun K hK => ?_)
  go_simp
  refine (HC.out _).mono ?_; rintro e v0 ⟨rfl, rfl⟩; go_wp2_with fail
  refine hK.out _ _ (by assumption) (fun hHeld => ?_)
  clear hK K
  try simp only [puts]
  refine tkp 20 rfl ?_
  refine tkp 21 rfl ?_
  refine tkp 22 rfl ?_
  refine tkp 23 rfl ?_
  refine tkp 24 rfl ?_
  refine rdy 25 rfl (fun K hK => ?_)
  go_simp
  refine (HH2.out _ ?_).mono ?_; exact (show Sh _ from HSH.out.below K3.out); rintro e v4 ⟨rfl, hb4⟩; have k4 : Below W.heap.size W v4 := (by first | exact then' K3.out hb4 | exact then' K3.out (under hb4)); obtain ⟨a0x4, a1x4, a2x4, a3x4, a4x4, a5x4, a6x4, a7x4, a8x4⟩ := in_cells ((k4.block _ (Hid.out HLT)).trans (Hid.out HBK)); have K4 := hh k4; clear k4 hb4; clear a0x3 a1x3 a2x3 a3x3 a4x3 a5x3 a6x3 a7x3 a8x3; go_wp2_with fail
  refine hK.out _ _ ⟨a0x4, a1x4, a2x4, a3x4, a4x4, a5x4, a6x4, a7x4, a8x4⟩ (fun hHeld => ?_)
  clear hK K
  try simp only [puts]
  refine tkp 26 rfl ?_
  refine tkp 27 rfl ?_
  refine tkp 28 rfl ?_
  refine tkp 29 rfl ?_
  refine rdy 30 rfl (fun K hK => ?_)
  go_simp
  refine (HN.out _).mono ?_; rintro e v0 ⟨rfl, rfl⟩; go_wp2_with fail
  refine hK.out _ _ (by assumption) (fun hHeld => ?_)
  clear hK K
  try simp only [puts]
  refine tkp 31 rfl ?_
  refine tkp 32 rfl ?_
  refine tkp 33 rfl ?_
  refine wpAnyH_done (by kernel_rfl) ?_ _
  clear a0x4 a1x4 a2x4 a3x4 a4x4 a5x4 a6x4 a7x4 a8x4
  go_wp2
  go_ret
  exact ⟨rfl, HAL.out.trans (K4.out.mono HAL.out.size)⟩
end Go.Proofs.YtgociheckcpjkaaGreatDoor.op

/- StnC -/
import Derived.Test.YtjejmlpjifhmmaaGreatDoorStpAD
namespace Go.Proofs.YtjejmlpjifhmmaaGreatDoor.stp
open Go.RowKit Go.MapKept Go.ChangeMaps Go.Shelf
open words kindp opp op kind prg sto find
set_option maxRecDepth 100000
set_option maxHeartbeats 8000000
set_option linter.all false
structure Tn (mb : Nat) (m : MS) (w : World) : Prop where
 mc : Mk mb m w
 er : m.er = .slice none 0 0
 br : m.br = .slice none 0 0
 ev : m.ev = .slice none 0 0
theorem Tn.below {mb : Nat} {m : MS} {w w' : World} (h : Tn mb m w) (hb : Below w.heap.size w w') : Tn mb m w' := ⟨h.mc.below hb, h.er, h.br, h.ev⟩
theorem told_n {mb : Nat} {m : MS} (w : World) (h : Tn mb m w) :
 Calls Tryz.prog 40 #[.pointer (some ⟨mb, 28, none⟩)] w fun e w' => (∃ (B0 B1 B2 B3 B4 B5 : Option Addr) (d0 d1 d2 d3 d4 d5 : Nat), e = .returned (.agg #[.slice B0 0 d0, .slice B1 0 d1, .slice B2 0 d2, .slice B3 0 d3, .slice B4 0 d4, .slice B5 0 d5])) ∧ Below w.heap.size w w' := by
 obtain ⟨hm, he2, he8, -⟩ := h
 obtain ⟨W, hW⟩ : ∃ W, W = w.alloc (.cells #[.slice none 0 0, .slice none 0 0, .slice none 0 0, .slice none 0 0, .slice none 0 0, .slice none 0 0] 49) := ⟨_, rfl⟩
 have hal : Below w.heap.size w W := by rw [hW]; exact (Below.refl _ _).alloc (Nat.le_refl _) _
 have HC := zh (show ∀ v : World, Mk mb m v → (fun w' : World => w'.cell? ⟨mb, 29, none⟩ = some (.slice none 0 0) ∧ w'.cell? ⟨mb, 31, none⟩ = some (.slice none 0 0) ∧ w'.cell? ⟨mb, 33, none⟩ = some (.slice none 0 0) ∧ w'.cell? ⟨mb, 35, none⟩ = some (.slice none 0 0) ∧ w'.cell? ⟨mb, 37, none⟩ = some (.slice none 0 0) ∧ w'.cell? ⟨mb, 39, none⟩ = some (.slice none 0 0)) v from fun v hv => ⟨by rw [← he2]; exact cell_of_row _ _ 29 _ _ _ hv, cell_of_row _ _ 31 _ _ _ hv, cell_of_row _ _ 33 _ _ _ hv, by rw [← he8]; exact cell_of_row _ _ 35 _ _ _ hv, cell_of_row _ _ 37 _ _ _ hv, cell_of_row _ _ 39 _ _ _ hv⟩)
 have M0 := zh (hm.below hal)
 have B00 := zh (show W.heap[w.heap.size]? = some (.cells #[.slice none 0 0, .slice none 0 0, .slice none 0 0, .slice none 0 0, .slice none 0 0, .slice none 0 0] 49 (0, 0)) from by rw [hW]; exact heap_alloc_new _ _)
 have AL := zh hal; have HW := zh hW
 have HSZ := zh (blk_lt hm)
 clear hm he2 he8 hal hW
 go_enter Tryz.func40, Tryz.ntmps40
 go_wp2_with fail
 rw [← HW.out]
 (try go_wp2_with fail)
 refine wp_region_held_drew (S := fun w' : World => w'.cell? ⟨mb, 29, none⟩ = some (.slice none 0 0) ∧ w'.cell? ⟨mb, 31, none⟩ = some (.slice none 0 0) ∧ w'.cell? ⟨mb, 33, none⟩ = some (.slice none 0 0) ∧ w'.cell? ⟨mb, 35, none⟩ = some (.slice none 0 0) ∧ w'.cell? ⟨mb, 37, none⟩ = some (.slice none 0 0) ∧ w'.cell? ⟨mb, 39, none⟩ = some (.slice none 0 0)) (by kernel_rfl) ?_ (fun hHeld => ?_)
 ·exact HC.out _ M0.out
 obtain ⟨D, hD⟩ : ∃ u, u = W.drew := ⟨_, rfl⟩
 have MD := zh (show Mk mb m D from by rw [hD]; exact M0.out)
 have BD := zh (show D.heap[w.heap.size]? = some (.cells #[.slice none 0 0, .slice none 0 0, .slice none 0 0, .slice none 0 0, .slice none 0 0, .slice none 0 0] 49 (0, 0)) from by rw [hD]; exact B00.out)
 have AD := zh (show Below w.heap.size w D from by rw [hD]; exact overW AL.out)
 have hS := HC.out _ MD.out
 try dsimp only at hS
 rw [← hD]
 clear hD hHeld AL HW M0 B00
 refine tkp 0 rfl ?_
 refine tkp 1 rfl ?_
 refine tkp 2 rfl ?_
 refine tkp 3 rfl ?_
 refine tkp 4 rfl ?_
 refine tkp 6 rfl ?_
 refine tkp 7 rfl ?_
 refine tkp 8 rfl ?_
 refine tkp 9 rfl ?_
 refine tkp 10 rfl ?_
 refine tkp 12 rfl ?_
 refine tkp 13 rfl ?_
 refine tkp 14 rfl ?_
 refine tkp 15 rfl ?_
 refine tkp 16 rfl ?_
 refine tkp 18 rfl ?_
 refine tkp 19 rfl ?_
 refine tkp 20 rfl ?_
 refine tkp 21 rfl ?_
 refine tkp 22 rfl ?_
 refine tkp 24 rfl ?_
 refine tkp 25 rfl ?_
 refine tkp 26 rfl ?_
 refine tkp 27 rfl ?_
 refine tkp 28 rfl ?_
 refine tkp 30 rfl ?_
 refine tkp 31 rfl ?_
 refine tkp 32 rfl ?_
 refine tkp 33 rfl ?_
 refine tkp 34 rfl ?_
 clear hS
 refine rdy 5 rfl (fun K hK => ?_)
 go_simp
 refine (cln_mref none 0 0 [] D (.inl rfl) (by rfl) (by decide) (by intro u hu; simp at hu)).mono ?_
 rintro e v0 ⟨⟨B0, d0, rfl, -⟩, hb⟩
 have M10 := zh (MD.out.below hb)
 have X10 := zh ((hb.block _ (blk_lt BD.out)).trans BD.out)
 have A10 := zh (show Below w.heap.size w v0 from then' AD.out hb)
 clear hb
 go_wp2_with fail
 refine hK.out _ _ (HC.out _ M10.out) (fun hHeld => ?_)
 clear hK K hHeld
 try simp only [puts]
 refine rdy 11 rfl (fun K hK => ?_)
 go_simp
 refine (cln_edge none 0 0 [] v0 (.inl rfl) (by rfl) (by decide) (by intro u hu; simp at hu)).mono ?_
 rintro e v1 ⟨⟨B1, d1, rfl, -⟩, hb⟩
 have M11 := zh (M10.out.below hb)
 have X11 := zh ((hb.block _ (blk_lt X10.out)).trans X10.out)
 have A11 := zh (show Below w.heap.size w v1 from then' A10.out hb)
 clear hb
 go_wp2_with fail
 refine hK.out _ _ (HC.out _ M11.out) (fun hHeld => ?_)
 clear hK K hHeld
 try simp only [puts]
 refine rdy 17 rfl (fun K hK => ?_)
 go_simp
 refine (cln_site none 0 0 [] v1 (.inl rfl) (by rfl) (by decide) (by intro u hu; simp at hu)).mono ?_
 rintro e v2 ⟨⟨B2, d2, rfl, -⟩, hb⟩
 have M12 := zh (M11.out.below hb)
 have X12 := zh ((hb.block _ (blk_lt X11.out)).trans X11.out)
 have A12 := zh (show Below w.heap.size w v2 from then' A11.out hb)
 clear hb
 go_wp2_with fail
 refine hK.out _ _ (HC.out _ M12.out) (fun hHeld => ?_)
 clear hK K hHeld
 try simp only [puts]
 refine rdy 23 rfl (fun K hK => ?_)
 go_simp
 refine (cln_str none 0 0 [] v2 (.inl rfl) (by rfl) (by decide) (by intro u hu; simp at hu)).mono ?_
 rintro e v3 ⟨⟨B3, d3, rfl, -⟩, hb⟩
 have M13 := zh (M12.out.below hb)
 have X13 := zh ((hb.block _ (blk_lt X12.out)).trans X12.out)
 have A13 := zh (show Below w.heap.size w v3 from then' A12.out hb)
 clear hb
 go_wp2_with fail
 refine hK.out _ _ (HC.out _ M13.out) (fun hHeld => ?_)
 clear hK K hHeld
 try simp only [puts]
 refine rdy 29 rfl (fun K hK => ?_)
 go_simp
 refine (cln_fref none 0 0 [] v3 (.inl rfl) (by rfl) (by decide) (by intro u hu; simp at hu)).mono ?_
 rintro e v4 ⟨⟨B4, d4, rfl, -⟩, hb⟩
 have M14 := zh (M13.out.below hb)
 have X14 := zh ((hb.block _ (blk_lt X13.out)).trans X13.out)
 have A14 := zh (show Below w.heap.size w v4 from then' A13.out hb)
 clear hb
 go_wp2_with fail
 refine hK.out _ _ (HC.out _ M14.out) (fun hHeld => ?_)
 clear hK K hHeld
 try simp only [puts]
 refine rdy 35 rfl (fun K hK => ?_)
 go_simp
 refine (cln_str none 0 0 [] v4 (.inl rfl) (by rfl) (by decide) (by intro u hu; simp at hu)).mono ?_
 rintro e v5 ⟨⟨B5, d5, rfl, -⟩, hb⟩
 have M15 := zh (M14.out.below hb)
 have X15 := zh ((hb.block _ (blk_lt X14.out)).trans X14.out)
 have A15 := zh (show Below w.heap.size w v5 from then' A14.out hb)
 clear hb
 go_wp2_with fail
 refine hK.out _ _ (HC.out _ M15.out) (fun hHeld => ?_)
 clear hK K hHeld
 try simp only [puts]
 have hS := HC.out _ M15.out
 try dsimp only at hS
 refine tkp 36 rfl ?_
 clear hS
 obtain ⟨U, hU⟩ : ∃ U, U = ((((((v5.setCell ⟨w.heap.size, 0, none⟩ (.slice B0 0 d0)).setCell ⟨w.heap.size, 1, none⟩ (.slice B1 0 d1)).setCell ⟨w.heap.size, 2, none⟩ (.slice B2 0 d2)).setCell ⟨w.heap.size, 3, none⟩ (.slice B3 0 d3)).setCell ⟨w.heap.size, 4, none⟩ (.slice B4 0 d4)).setCell ⟨w.heap.size, 5, none⟩ (.slice B5 0 d5)) := ⟨_, rfl⟩
 have kU : Kp [w.heap.size] v5 U := by rw [hU]; exact Kp.of (gb6 _ _ _ _ _ _ _ _) (fun c hc _ => by cases hc; simp)
 have nU : U.heap[w.heap.size]? = some (.cells #[.slice B0 0 d0, .slice B1 0 d1, .slice B2 0 d2, .slice B3 0 d3, .slice B4 0 d4, .slice B5 0 d5] 49 (0, 0)) := by rw [hU]; exact set6 X15.out _ _ _ _ _ _
 have EN := zh (show Below w.heap.size w U from A15.out.trans (kU.toBelow A15.out.size (by simp)))
 have SU := zh (HC.out _ (M15.out.kept kU (by have := HSZ.out; simp; omega)))
 have y0 : v5.cell? ⟨w.heap.size, 0, none⟩ = some (.slice none 0 0) := cell_of_row _ _ 0 _ _ _ X15.out
 have g0 := frozen_of_row _ _ 0 _ _ X15.out
 have U0 := zh (show U.cell? ⟨w.heap.size, 0, none⟩ = some (.slice B0 0 d0) from cell_of_row _ _ 0 _ _ _ nU)
 have y1 : v5.cell? ⟨w.heap.size, 1, none⟩ = some (.slice none 0 0) := cell_of_row _ _ 1 _ _ _ X15.out
 have g1 := frozen_of_row _ _ 1 _ _ X15.out
 have U1 := zh (show U.cell? ⟨w.heap.size, 1, none⟩ = some (.slice B1 0 d1) from cell_of_row _ _ 1 _ _ _ nU)
 have y2 : v5.cell? ⟨w.heap.size, 2, none⟩ = some (.slice none 0 0) := cell_of_row _ _ 2 _ _ _ X15.out
 have g2 := frozen_of_row _ _ 2 _ _ X15.out
 have U2 := zh (show U.cell? ⟨w.heap.size, 2, none⟩ = some (.slice B2 0 d2) from cell_of_row _ _ 2 _ _ _ nU)
 have y3 : v5.cell? ⟨w.heap.size, 3, none⟩ = some (.slice none 0 0) := cell_of_row _ _ 3 _ _ _ X15.out
 have g3 := frozen_of_row _ _ 3 _ _ X15.out
 have U3 := zh (show U.cell? ⟨w.heap.size, 3, none⟩ = some (.slice B3 0 d3) from cell_of_row _ _ 3 _ _ _ nU)
 have y4 : v5.cell? ⟨w.heap.size, 4, none⟩ = some (.slice none 0 0) := cell_of_row _ _ 4 _ _ _ X15.out
 have g4 := frozen_of_row _ _ 4 _ _ X15.out
 have U4 := zh (show U.cell? ⟨w.heap.size, 4, none⟩ = some (.slice B4 0 d4) from cell_of_row _ _ 4 _ _ _ nU)
 have y5 : v5.cell? ⟨w.heap.size, 5, none⟩ = some (.slice none 0 0) := cell_of_row _ _ 5 _ _ _ X15.out
 have g5 := frozen_of_row _ _ 5 _ _ X15.out
 have U5 := zh (show U.cell? ⟨w.heap.size, 5, none⟩ = some (.slice B5 0 d5) from cell_of_row _ _ 5 _ _ _ nU)
 have HU := zh hU
 clear hU kU nU
 refine rdy 37 rfl (fun K hK => ?_)
 go_simp
 rw [← HU.out]
 refine hK.out _ _ SU.out (fun hHeld => ?_)
 clear hK K
 try simp only [puts]
 clear hHeld y0 g0 y1 g1 y2 g2 y3 g3 y4 g4 y5 g5
 refine wpAnyH_done (by kernel_rfl) ?_ _
 go_wp2
 exact bodyPost_ret (v := .agg #[.slice B0 0 d0, .slice B1 0 d1, .slice B2 0 d2, .slice B3 0 d3, .slice B4 0 d4, .slice B5 0 d5]) (by simp [results, Tryz.results40, go_sem, U0.out, U1.out, U2.out, U3.out, U4.out, U5.out]) rfl ⟨⟨B0, B1, B2, B3, B4, B5, d0, d1, d2, d3, d4, d5, rfl⟩, EN.out⟩
theorem result_n {mb : Nat} {m : MS} (w : World) (h : Tn mb m w) :
 Calls Tryz.prog 14 #[.pointer (some ⟨mb, 0, none⟩)] w fun e w' => (∃ (Be B0 B1 B2 B3 B4 B5 : Option Addr) (de d0 d1 d2 d3 d4 d5 : Nat), e = .returned (.agg #[.int .i64 m.st, .int .i64 m.cd, .int .i64 m.tr, .int .i64 m.sp, .slice Be 0 de, .slice B0 0 d0, .slice B1 0 d1, .slice B2 0 d2, .slice B3 0 d3, .slice B4 0 d4, .slice B5 0 d5]) ∧ Rd w' Be [] ∧ ∀ a, Be = some a → w.heap.size ≤ a.block) ∧ Below w.heap.size w w' := by
 have HTL := zh (fun v (hv : Below w.heap.size w v) => told_n v (h.below hv))
 obtain ⟨hm, -, -, hee⟩ := h
 have HCL := zh (fun v (hv : Below w.heap.size w v) => cln_ev none 0 0 [] v (.inl rfl) (by rfl) (by decide) (by intro u hu; simp at hu))
 obtain ⟨W, hW⟩ : ∃ W, W = w.alloc (.cells #[.int .i64 0, .int .i64 0, .int .i64 0, .int .i64 0, .slice none 0 0, .slice none 0 0, .slice none 0 0, .slice none 0 0, .slice none 0 0, .slice none 0 0, .slice none 0 0] 51) := ⟨_, rfl⟩
 have hal : Below w.heap.size w W := by rw [hW]; exact (Below.refl _ _).alloc (Nat.le_refl _) _
 have hwb : W.heap[w.heap.size]? = some (.cells #[.int .i64 0, .int .i64 0, .int .i64 0, .int .i64 0, .slice none 0 0, .slice none 0 0, .slice none 0 0, .slice none 0 0, .slice none 0 0, .slice none 0 0, .slice none 0 0] 51 (0, 0)) := by rw [hW]; exact heap_alloc_new _ _
 obtain ⟨X, hX⟩ : ∃ X, X = W.alloc (.cells #[.int .i64 m.st, .int .i64 m.cd, .int .i64 m.tr, .int .i64 m.sp, .slice none 0 0, .slice none 0 0, .slice none 0 0, .slice none 0 0, .slice none 0 0, .slice none 0 0, .slice none 0 0] 51) := ⟨_, rfl⟩
 have hxl : Below W.heap.size W X := by rw [hX]; exact (Below.refl _ _).alloc (Nat.le_refl _) _
 have SZ : W.heap.size = w.heap.size + 1 := by rw [hW]; simp
 have hxb : X.heap[w.heap.size + 1]? = some (.cells #[.int .i64 m.st, .int .i64 m.cd, .int .i64 m.tr, .int .i64 m.sp, .slice none 0 0, .slice none 0 0, .slice none 0 0, .slice none 0 0, .slice none 0 0, .slice none 0 0, .slice none 0 0] 51 (0, 0)) := by rw [← SZ, hX]; exact heap_alloc_new _ _
 have HC := zh (show ∀ v : World, Mk mb m v → (fun w' : World => w'.cell? ⟨mb, 27, none⟩ = some (.slice none 0 0)) v from fun v hv => by rw [← hee]; exact cell_of_row _ _ 27 _ _ _ hv)
 have MW := hm.below hal
 have c16 : (w.alloc (.cells #[.int .i64 0, .int .i64 0, .int .i64 0, .int .i64 0, .slice none 0 0, .slice none 0 0, .slice none 0 0, .slice none 0 0, .slice none 0 0, .slice none 0 0, .slice none 0 0] 51)).cell? ⟨mb, 16, none⟩ = some (.int .i64 m.st) := by rw [← hW]; exact cell_of_row _ _ 16 _ _ _ MW
 have c17 : (w.alloc (.cells #[.int .i64 0, .int .i64 0, .int .i64 0, .int .i64 0, .slice none 0 0, .slice none 0 0, .slice none 0 0, .slice none 0 0, .slice none 0 0, .slice none 0 0, .slice none 0 0] 51)).cell? ⟨mb, 17, none⟩ = some (.int .i64 m.cd) := by rw [← hW]; exact cell_of_row _ _ 17 _ _ _ MW
 have c18 : (w.alloc (.cells #[.int .i64 0, .int .i64 0, .int .i64 0, .int .i64 0, .slice none 0 0, .slice none 0 0, .slice none 0 0, .slice none 0 0, .slice none 0 0, .slice none 0 0, .slice none 0 0] 51)).cell? ⟨mb, 18, none⟩ = some (.int .i64 m.tr) := by rw [← hW]; exact cell_of_row _ _ 18 _ _ _ MW
 have c19 : (w.alloc (.cells #[.int .i64 0, .int .i64 0, .int .i64 0, .int .i64 0, .slice none 0 0, .slice none 0 0, .slice none 0 0, .slice none 0 0, .slice none 0 0, .slice none 0 0, .slice none 0 0] 51)).cell? ⟨mb, 19, none⟩ = some (.int .i64 m.sp) := by rw [← hW]; exact cell_of_row _ _ 19 _ _ _ MW
 have c20 : (w.alloc (.cells #[.int .i64 0, .int .i64 0, .int .i64 0, .int .i64 0, .slice none 0 0, .slice none 0 0, .slice none 0 0, .slice none 0 0, .slice none 0 0, .slice none 0 0, .slice none 0 0] 51)).cell? ⟨mb, 20, none⟩ = some (.slice none 0 0) := by rw [← hW]; exact cell_of_row _ _ 20 _ _ _ MW
 have c21 : (w.alloc (.cells #[.int .i64 0, .int .i64 0, .int .i64 0, .int .i64 0, .slice none 0 0, .slice none 0 0, .slice none 0 0, .slice none 0 0, .slice none 0 0, .slice none 0 0, .slice none 0 0] 51)).cell? ⟨mb, 21, none⟩ = some (.slice none 0 0) := by rw [← hW]; exact cell_of_row _ _ 21 _ _ _ MW
 have c22 : (w.alloc (.cells #[.int .i64 0, .int .i64 0, .int .i64 0, .int .i64 0, .slice none 0 0, .slice none 0 0, .slice none 0 0, .slice none 0 0, .slice none 0 0, .slice none 0 0, .slice none 0 0] 51)).cell? ⟨mb, 22, none⟩ = some (.slice none 0 0) := by rw [← hW]; exact cell_of_row _ _ 22 _ _ _ MW
 have c23 : (w.alloc (.cells #[.int .i64 0, .int .i64 0, .int .i64 0, .int .i64 0, .slice none 0 0, .slice none 0 0, .slice none 0 0, .slice none 0 0, .slice none 0 0, .slice none 0 0, .slice none 0 0] 51)).cell? ⟨mb, 23, none⟩ = some (.slice none 0 0) := by rw [← hW]; exact cell_of_row _ _ 23 _ _ _ MW
 have c24 : (w.alloc (.cells #[.int .i64 0, .int .i64 0, .int .i64 0, .int .i64 0, .slice none 0 0, .slice none 0 0, .slice none 0 0, .slice none 0 0, .slice none 0 0, .slice none 0 0, .slice none 0 0] 51)).cell? ⟨mb, 24, none⟩ = some (.slice none 0 0) := by rw [← hW]; exact cell_of_row _ _ 24 _ _ _ MW
 have c25 : (w.alloc (.cells #[.int .i64 0, .int .i64 0, .int .i64 0, .int .i64 0, .slice none 0 0, .slice none 0 0, .slice none 0 0, .slice none 0 0, .slice none 0 0, .slice none 0 0, .slice none 0 0] 51)).cell? ⟨mb, 25, none⟩ = some (.slice none 0 0) := by rw [← hW]; exact cell_of_row _ _ 25 _ _ _ MW
 have c26 : (w.alloc (.cells #[.int .i64 0, .int .i64 0, .int .i64 0, .int .i64 0, .slice none 0 0, .slice none 0 0, .slice none 0 0, .slice none 0 0, .slice none 0 0, .slice none 0 0, .slice none 0 0] 51)).cell? ⟨mb, 26, none⟩ = some (.slice none 0 0) := by rw [← hW]; exact cell_of_row _ _ 26 _ _ _ MW
 have XM := zh (MW.below hxl); have XA := zh (show Below w.heap.size w X from then' hal hxl); have XB := zh hxb
 have XW := zh ((hxl.block _ (blk_lt hwb)).trans hwb); have HW := zh hW; have HX := zh hX; have HSZ := zh (blk_lt hm); have HZ := zh SZ
 have XZ := zh (show X.heap.size = w.heap.size + 2 from by rw [hX]; simp [SZ])
 clear hm hal hwb hxl hxb MW hee hW hX SZ
 go_enter Tryz.func14, Tryz.ntmps14
 go_wp2_with fail
 rw [← HW.out]
 rw [← HX.out]
 (try go_wp2_with fail)
 clear c16 c17 c18 c19 c20 c21 c22 c23 c24 c25 c26
 refine wp_region_held_drew (S := fun w' : World => w'.cell? ⟨mb, 27, none⟩ = some (.slice none 0 0)) (by kernel_rfl) ?_ (fun hHeld => ?_)
 ·exact HC.out _ XM.out
 obtain ⟨D, hD⟩ : ∃ u, u = X.drew := ⟨_, rfl⟩
 have DM := zh (show Mk mb m D from by rw [hD]; exact XM.out)
 have DB := zh (show D.heap[w.heap.size + 1]? = some (.cells #[.int .i64 m.st, .int .i64 m.cd, .int .i64 m.tr, .int .i64 m.sp, .slice none 0 0, .slice none 0 0, .slice none 0 0, .slice none 0 0, .slice none 0 0, .slice none 0 0, .slice none 0 0] 51 (0, 0)) from by rw [hD]; exact XB.out)
 have DW := zh (show D.heap[w.heap.size]? = some (.cells #[.int .i64 0, .int .i64 0, .int .i64 0, .int .i64 0, .slice none 0 0, .slice none 0 0, .slice none 0 0, .slice none 0 0, .slice none 0 0, .slice none 0 0, .slice none 0 0] 51 (0, 0)) from by rw [hD]; exact XW.out)
 have DA := zh (show Below w.heap.size w D from by rw [hD]; exact overW XA.out)
 have DZ := zh (show D.heap.size = w.heap.size + 2 from by rw [hD]; exact XZ.out)
 have hS := HC.out _ DM.out
 try dsimp only at hS
 rw [← hD]
 clear hD hHeld XM XB XW XA XZ HX HW HZ
 refine tkp 0 rfl ?_
 refine tkp 1 rfl ?_
 refine tkp 2 rfl ?_
 refine tkp 3 rfl ?_
 refine tkp 5 rfl ?_
 refine tkp 6 rfl ?_
 refine tkp 7 rfl ?_
 clear hS
 refine rdy 4 rfl (fun K hK => ?_)
 go_simp
 refine (HCL.out D DA.out).mono ?_
 rintro e v ⟨⟨Be, de, rfl, hown⟩, hb⟩
 have hbe : ∀ a, Be = some a → w.heap.size + 2 ≤ a.block := fun a ha => by rw [← DZ.out]; exact (hown.lt a.block (by rw [ha]; rfl)).1
 have hrd : Rd v Be [] := by obtain ⟨A5, c5, e5, -, -, h5⟩ := own_rd hown; cases e5; exact h5
 have VM := zh (DM.out.below hb)
 have VB := zh ((hb.block _ (blk_lt DB.out)).trans DB.out)
 have VW := zh ((hb.block _ (blk_lt DW.out)).trans DW.out)
 have VA := zh (show Below w.heap.size w v from then' DA.out hb)
 have VE := zh hbe; have VR := zh hrd
 clear hb hown hbe hrd
 go_wp2_with fail
 refine hK.out _ _ (HC.out _ VM.out) (fun hHeld => ?_)
 clear hK K hHeld
 try simp only [puts]
 have hS := HC.out _ VM.out
 try dsimp only at hS
 refine tkp 9 rfl ?_
 clear hS
 refine rdy 8 rfl (fun K hK => ?_)
 go_simp
 refine (HTL.out v VA.out).mono ?_
 rintro e u ⟨⟨B0, B1, B2, B3, B4, B5, d0, d1, d2, d3, d4, d5, rfl⟩, hb⟩
 have UM := zh (VM.out.below hb)
 have UB := zh ((hb.block _ (blk_lt VB.out)).trans VB.out)
 have UW := zh ((hb.block _ (blk_lt VW.out)).trans VW.out)
 have UA := zh (show Below w.heap.size w u from then' VA.out hb)
 have UR := zh (VR.out.below hb)
 clear hb
 go_wp2_with fail
 refine hK.out _ _ (HC.out _ UM.out) (fun hHeld => ?_)
 clear hK K hHeld
 try simp only [puts]
 obtain ⟨Y, hY⟩ : ∃ Y, Y = u.setCell ⟨w.heap.size + 1, 4, none⟩ (.slice Be 0 de) := ⟨_, rfl⟩
 have kY : Kp [w.heap.size + 1] u Y := by rw [hY]; exact (Kp.refl _ _).set (by simp) _
 have YB := zh (show Y.heap[w.heap.size + 1]? = some (.cells #[.int .i64 m.st, .int .i64 m.cd, .int .i64 m.tr, .int .i64 m.sp, .slice Be 0 de, .slice none 0 0, .slice none 0 0, .slice none 0 0, .slice none 0 0, .slice none 0 0, .slice none 0 0] 51 (0, 0)) from by rw [hY, heap_setCell_same _ _ 4 _ _ _ UB.out]; rfl)
 have YM := zh (UM.out.kept kY (by have := HSZ.out; simp; omega))
 have YW := zh (kY.at_ UW.out (by simp))
 have y4 : u.cell? ⟨w.heap.size + 1, 4, none⟩ = some (.slice none 0 0) := cell_of_row _ _ 4 _ _ _ UB.out
 have g4 := frozen_of_row _ _ 4 _ _ UB.out
 have HY := zh hY
 clear hY
 refine rdy 10 rfl (fun K hK => ?_)
 go_simp
 rw [← HY.out]
 refine hK.out _ _ (HC.out _ YM.out) (fun hHeld => ?_)
 clear hK K
 try simp only [puts]
 clear hHeld y4 g4
 have hS := HC.out _ YM.out
 try dsimp only at hS
 refine tkp 11 rfl ?_
 clear hS
 obtain ⟨Q, hQ⟩ : ∃ Q, Q = ((((((Y.setCell ⟨w.heap.size + 1, 5, none⟩ (.slice B0 0 d0)).setCell ⟨w.heap.size + 1, 6, none⟩ (.slice B1 0 d1)).setCell ⟨w.heap.size + 1, 7, none⟩ (.slice B2 0 d2)).setCell ⟨w.heap.size + 1, 8, none⟩ (.slice B3 0 d3)).setCell ⟨w.heap.size + 1, 9, none⟩ (.slice B4 0 d4)).setCell ⟨w.heap.size + 1, 10, none⟩ (.slice B5 0 d5)) := ⟨_, rfl⟩
 have kQ : Kp [w.heap.size + 1] u Q := by rw [hQ]; exact (((((((kY.set (by simp) _).set (by simp) _).set (by simp) _).set (by simp) _).set (by simp) _).set (by simp) _))
 have QB := zh (show Q.heap[w.heap.size + 1]? = some (.cells #[.int .i64 m.st, .int .i64 m.cd, .int .i64 m.tr, .int .i64 m.sp, .slice Be 0 de, .slice B0 0 d0, .slice B1 0 d1, .slice B2 0 d2, .slice B3 0 d3, .slice B4 0 d4, .slice B5 0 d5] 51 (0, 0)) from by rw [hQ]; exact set6_11 YB.out _ _ _ _ _ _)
 have QM := zh (UM.out.kept kQ (by have := HSZ.out; simp; omega))
 have QW := zh (kQ.at_ UW.out (by simp))
 have QA := zh (show Below w.heap.size w Q from UA.out.trans (kQ.toBelow UA.out.size (by simp)))
 have QR := zh (kQ.rd UR.out (fun a ha => by have := VE.out a ha; simp; omega))
 have y5 : Y.cell? ⟨w.heap.size + 1, 5, none⟩ = some (.slice none 0 0) := cell_of_row _ _ 5 _ _ _ YB.out
 have g5 := frozen_of_row _ _ 5 _ _ YB.out
 have y6 : Y.cell? ⟨w.heap.size + 1, 6, none⟩ = some (.slice none 0 0) := cell_of_row _ _ 6 _ _ _ YB.out
 have g6 := frozen_of_row _ _ 6 _ _ YB.out
 have y7 : Y.cell? ⟨w.heap.size + 1, 7, none⟩ = some (.slice none 0 0) := cell_of_row _ _ 7 _ _ _ YB.out
 have g7 := frozen_of_row _ _ 7 _ _ YB.out
 have y8 : Y.cell? ⟨w.heap.size + 1, 8, none⟩ = some (.slice none 0 0) := cell_of_row _ _ 8 _ _ _ YB.out
 have g8 := frozen_of_row _ _ 8 _ _ YB.out
 have y9 : Y.cell? ⟨w.heap.size + 1, 9, none⟩ = some (.slice none 0 0) := cell_of_row _ _ 9 _ _ _ YB.out
 have g9 := frozen_of_row _ _ 9 _ _ YB.out
 have y10 : Y.cell? ⟨w.heap.size + 1, 10, none⟩ = some (.slice none 0 0) := cell_of_row _ _ 10 _ _ _ YB.out
 have g10 := frozen_of_row _ _ 10 _ _ YB.out
 have HQ := zh hQ
 clear hQ kQ kY
 refine rdy 12 rfl (fun K hK => ?_)
 go_simp
 rw [← HQ.out]
 refine hK.out _ _ (HC.out _ QM.out) (fun hHeld => ?_)
 clear hK K
 try simp only [puts]
 clear hHeld y5 g5 y6 g6 y7 g7 y8 g8 y9 g9 y10 g10
 refine wpAnyH_done (by kernel_rfl) ?_ _
 have p0 : Q.cell? ⟨w.heap.size + 1, 0, none⟩ = some (.int .i64 m.st) := cell_of_row _ _ 0 _ _ _ QB.out
 have q0 : Q.cell? ⟨w.heap.size, 0, none⟩ = some (.int .i64 0) := cell_of_row _ _ 0 _ _ _ QW.out
 have g0 := frozen_of_row _ _ 0 _ _ QW.out
 have p1 : Q.cell? ⟨w.heap.size + 1, 1, none⟩ = some (.int .i64 m.cd) := cell_of_row _ _ 1 _ _ _ QB.out
 have q1 : Q.cell? ⟨w.heap.size, 1, none⟩ = some (.int .i64 0) := cell_of_row _ _ 1 _ _ _ QW.out
 have g1 := frozen_of_row _ _ 1 _ _ QW.out
 have p2 : Q.cell? ⟨w.heap.size + 1, 2, none⟩ = some (.int .i64 m.tr) := cell_of_row _ _ 2 _ _ _ QB.out
 have q2 : Q.cell? ⟨w.heap.size, 2, none⟩ = some (.int .i64 0) := cell_of_row _ _ 2 _ _ _ QW.out
 have g2 := frozen_of_row _ _ 2 _ _ QW.out
 have p3 : Q.cell? ⟨w.heap.size + 1, 3, none⟩ = some (.int .i64 m.sp) := cell_of_row _ _ 3 _ _ _ QB.out
 have q3 : Q.cell? ⟨w.heap.size, 3, none⟩ = some (.int .i64 0) := cell_of_row _ _ 3 _ _ _ QW.out
 have g3 := frozen_of_row _ _ 3 _ _ QW.out
 have p4 : Q.cell? ⟨w.heap.size + 1, 4, none⟩ = some (.slice Be 0 de) := cell_of_row _ _ 4 _ _ _ QB.out
 have q4 : Q.cell? ⟨w.heap.size, 4, none⟩ = some (.slice none 0 0) := cell_of_row _ _ 4 _ _ _ QW.out
 have g4 := frozen_of_row _ _ 4 _ _ QW.out
 have p5 : Q.cell? ⟨w.heap.size + 1, 5, none⟩ = some (.slice B0 0 d0) := cell_of_row _ _ 5 _ _ _ QB.out
 have q5 : Q.cell? ⟨w.heap.size, 5, none⟩ = some (.slice none 0 0) := cell_of_row _ _ 5 _ _ _ QW.out
 have g5 := frozen_of_row _ _ 5 _ _ QW.out
 have p6 : Q.cell? ⟨w.heap.size + 1, 6, none⟩ = some (.slice B1 0 d1) := cell_of_row _ _ 6 _ _ _ QB.out
 have q6 : Q.cell? ⟨w.heap.size, 6, none⟩ = some (.slice none 0 0) := cell_of_row _ _ 6 _ _ _ QW.out
 have g6 := frozen_of_row _ _ 6 _ _ QW.out
 have p7 : Q.cell? ⟨w.heap.size + 1, 7, none⟩ = some (.slice B2 0 d2) := cell_of_row _ _ 7 _ _ _ QB.out
 have q7 : Q.cell? ⟨w.heap.size, 7, none⟩ = some (.slice none 0 0) := cell_of_row _ _ 7 _ _ _ QW.out
 have g7 := frozen_of_row _ _ 7 _ _ QW.out
 have p8 : Q.cell? ⟨w.heap.size + 1, 8, none⟩ = some (.slice B3 0 d3) := cell_of_row _ _ 8 _ _ _ QB.out
 have q8 : Q.cell? ⟨w.heap.size, 8, none⟩ = some (.slice none 0 0) := cell_of_row _ _ 8 _ _ _ QW.out
 have g8 := frozen_of_row _ _ 8 _ _ QW.out
 have p9 : Q.cell? ⟨w.heap.size + 1, 9, none⟩ = some (.slice B4 0 d4) := cell_of_row _ _ 9 _ _ _ QB.out
 have q9 : Q.cell? ⟨w.heap.size, 9, none⟩ = some (.slice none 0 0) := cell_of_row _ _ 9 _ _ _ QW.out
 have g9 := frozen_of_row _ _ 9 _ _ QW.out
 have p10 : Q.cell? ⟨w.heap.size + 1, 10, none⟩ = some (.slice B5 0 d5) := cell_of_row _ _ 10 _ _ _ QB.out
 have q10 : Q.cell? ⟨w.heap.size, 10, none⟩ = some (.slice none 0 0) := cell_of_row _ _ 10 _ _ _ QW.out
 have g10 := frozen_of_row _ _ 10 _ _ QW.out
 obtain ⟨R, hR⟩ : ∃ R, R = (((((((((((Q.setCell ⟨w.heap.size, 0, none⟩ (.int .i64 m.st)).setCell ⟨w.heap.size, 1, none⟩ (.int .i64 m.cd)).setCell ⟨w.heap.size, 2, none⟩ (.int .i64 m.tr)).setCell ⟨w.heap.size, 3, none⟩ (.int .i64 m.sp)).setCell ⟨w.heap.size, 4, none⟩ (.slice Be 0 de)).setCell ⟨w.heap.size, 5, none⟩ (.slice B0 0 d0)).setCell ⟨w.heap.size, 6, none⟩ (.slice B1 0 d1)).setCell ⟨w.heap.size, 7, none⟩ (.slice B2 0 d2)).setCell ⟨w.heap.size, 8, none⟩ (.slice B3 0 d3)).setCell ⟨w.heap.size, 9, none⟩ (.slice B4 0 d4)).setCell ⟨w.heap.size, 10, none⟩ (.slice B5 0 d5)) := ⟨_, rfl⟩
 have kR : Kp [w.heap.size] Q R := by rw [hR]; exact (((((((((((Kp.refl _ _).set (by simp) _).set (by simp) _).set (by simp) _).set (by simp) _).set (by simp) _).set (by simp) _).set (by simp) _).set (by simp) _).set (by simp) _).set (by simp) _).set (by simp) _
 have nR : R.heap[w.heap.size]? = some (.cells #[.int .i64 m.st, .int .i64 m.cd, .int .i64 m.tr, .int .i64 m.sp, .slice Be 0 de, .slice B0 0 d0, .slice B1 0 d1, .slice B2 0 d2, .slice B3 0 d3, .slice B4 0 d4, .slice B5 0 d5] 51 (0, 0)) := by rw [hR]; exact set11 QW.out _ _ _ _ _ _ _ _ _ _ _
 have EN := zh (show Rd R Be [] ∧ (∀ a, Be = some a → w.heap.size ≤ a.block) ∧ Below w.heap.size w R from ⟨kR.rd QR.out (fun a ha => by have := VE.out a ha; simp; omega), fun a ha => by have := VE.out a ha; omega, QA.out.trans (kR.toBelow QA.out.size (by simp))⟩)
 have U0 := zh (show R.cell? ⟨w.heap.size, 0, none⟩ = some (.int .i64 m.st) from cell_of_row _ _ 0 _ _ _ nR)
 have U1 := zh (show R.cell? ⟨w.heap.size, 1, none⟩ = some (.int .i64 m.cd) from cell_of_row _ _ 1 _ _ _ nR)
 have U2 := zh (show R.cell? ⟨w.heap.size, 2, none⟩ = some (.int .i64 m.tr) from cell_of_row _ _ 2 _ _ _ nR)
 have U3 := zh (show R.cell? ⟨w.heap.size, 3, none⟩ = some (.int .i64 m.sp) from cell_of_row _ _ 3 _ _ _ nR)
 have U4 := zh (show R.cell? ⟨w.heap.size, 4, none⟩ = some (.slice Be 0 de) from cell_of_row _ _ 4 _ _ _ nR)
 have U5 := zh (show R.cell? ⟨w.heap.size, 5, none⟩ = some (.slice B0 0 d0) from cell_of_row _ _ 5 _ _ _ nR)
 have U6 := zh (show R.cell? ⟨w.heap.size, 6, none⟩ = some (.slice B1 0 d1) from cell_of_row _ _ 6 _ _ _ nR)
 have U7 := zh (show R.cell? ⟨w.heap.size, 7, none⟩ = some (.slice B2 0 d2) from cell_of_row _ _ 7 _ _ _ nR)
 have U8 := zh (show R.cell? ⟨w.heap.size, 8, none⟩ = some (.slice B3 0 d3) from cell_of_row _ _ 8 _ _ _ nR)
 have U9 := zh (show R.cell? ⟨w.heap.size, 9, none⟩ = some (.slice B4 0 d4) from cell_of_row _ _ 9 _ _ _ nR)
 have U10 := zh (show R.cell? ⟨w.heap.size, 10, none⟩ = some (.slice B5 0 d5) from cell_of_row _ _ 10 _ _ _ nR)
 have HR := zh hR
 clear hR kR nR
 go_wp2_with fail
 rw [← HR.out]
 exact bodyPost_ret (v := .agg #[.int .i64 m.st, .int .i64 m.cd, .int .i64 m.tr, .int .i64 m.sp, .slice Be 0 de, .slice B0 0 d0, .slice B1 0 d1, .slice B2 0 d2, .slice B3 0 d3, .slice B4 0 d4, .slice B5 0 d5]) (by simp [results, Tryz.results14, go_sem, U0.out, U1.out, U2.out, U3.out, U4.out, U5.out, U6.out, U7.out, U8.out, U9.out, U10.out]) rfl ⟨⟨Be, B0, B1, B2, B3, B4, B5, de, d0, d1, d2, d3, d4, d5, rfl, EN.out.1, EN.out.2.1⟩, EN.out.2.2⟩
end Go.Proofs.YtjejmlpjifhmmaaGreatDoor.stp

/- StpAD -/
import Derived.Test.YtjejmlpjifhmmaaGreatDoorStpZ
namespace Go.Proofs.YtjejmlpjifhmmaaGreatDoor.stp
open Go.RowKit Go.MapKept Go.ChangeMaps Go.Shelf
open words kindp opp op kind prg sto find
set_option maxRecDepth 100000
set_option maxHeartbeats 8000000
set_option linter.all false
structure Tl (mb : Nat) (m : MS) (n : Nat) (evs : List Value) (w : World) : Prop where
 mc : Mk mb m w
 er : ∃ A c, m.er = .slice A 1 c ∧ Rd w A [.string ⟨#[65]⟩, .string ⟨#[109]⟩, .string ⟨#[40, 41, 73]⟩]
 br : ∃ A c, m.br = .slice A 1 c ∧ Rd w A [.string ⟨#[65]⟩]
 ev : ∃ A c, m.ev = .slice A n c ∧ Rd w A evs
theorem Tl.below {mb : Nat} {m : MS} {n : Nat} {evs : List Value} {w w' : World} (h : Tl mb m n evs w) (hb : Below w.heap.size w w') : Tl mb m n evs w' := by
 obtain ⟨a, ⟨A1, c1, e1, r1⟩, ⟨A2, c2, e2, r2⟩, ⟨A3, c3, e3, r3⟩⟩ := h
 exact ⟨a.below hb, ⟨A1, c1, e1, r1.below hb⟩, ⟨A2, c2, e2, r2.below hb⟩, ⟨A3, c3, e3, r3.below hb⟩⟩
theorem Rn.told {mb fb vb rb B : Nat} {k : MeM} {m : MS} {f : FS} {vals : Obj} {n : Nat} {evs : List Value} {w : World} (h : Rn mb fb vb rb B k m f vals n evs w) : Tl mb m n evs w := by
 obtain ⟨A1, c1, e1, -, r1, -⟩ := h.er
 obtain ⟨A2, c2, e2, -, r2, -⟩ := h.br
 obtain ⟨A3, c3, e3, -, -, r3⟩ := own_rd h.ev
 exact ⟨h.mc, ⟨A1, c1, e1, r1⟩, ⟨A2, c2, e2, r2⟩, ⟨A3, c3, e3, r3⟩⟩
theorem told_w {mb : Nat} {m : MS} {n : Nat} {evs : List Value} (w : World) (h : Tl mb m n evs w) :
 Calls Tryz.prog 40 #[.pointer (some ⟨mb, 28, none⟩)] w fun e w' => (∃ (B0 B1 B2 B3 B4 B5 : Option Addr) (d0 d1 d2 d3 d4 d5 : Nat), e = .returned (.agg #[.slice B0 1 d0, .slice B1 0 d1, .slice B2 0 d2, .slice B3 1 d3, .slice B4 0 d4, .slice B5 0 d5])) ∧ Below w.heap.size w w' := by
 obtain ⟨hm, ⟨A2, c2, he2, hr2⟩, ⟨A8, c8, he8, hr8⟩, -⟩ := h
 obtain ⟨W, hW⟩ : ∃ W, W = w.alloc (.cells #[.slice none 0 0, .slice none 0 0, .slice none 0 0, .slice none 0 0, .slice none 0 0, .slice none 0 0] 49) := ⟨_, rfl⟩
 have hal : Below w.heap.size w W := by rw [hW]; exact (Below.refl _ _).alloc (Nat.le_refl _) _
 have HC := zh (show ∀ v : World, Mk mb m v → (fun w' : World => w'.cell? ⟨mb, 29, none⟩ = some (.slice A2 1 c2) ∧ w'.cell? ⟨mb, 31, none⟩ = some (.slice none 0 0) ∧ w'.cell? ⟨mb, 33, none⟩ = some (.slice none 0 0) ∧ w'.cell? ⟨mb, 35, none⟩ = some (.slice A8 1 c8) ∧ w'.cell? ⟨mb, 37, none⟩ = some (.slice none 0 0) ∧ w'.cell? ⟨mb, 39, none⟩ = some (.slice none 0 0)) v from fun v hv => ⟨by rw [← he2]; exact cell_of_row _ _ 29 _ _ _ hv, cell_of_row _ _ 31 _ _ _ hv, cell_of_row _ _ 33 _ _ _ hv, by rw [← he8]; exact cell_of_row _ _ 35 _ _ _ hv, cell_of_row _ _ 37 _ _ _ hv, cell_of_row _ _ 39 _ _ _ hv⟩)
 have M0 := zh (hm.below hal)
 have B00 := zh (show W.heap[w.heap.size]? = some (.cells #[.slice none 0 0, .slice none 0 0, .slice none 0 0, .slice none 0 0, .slice none 0 0, .slice none 0 0] 49 (0, 0)) from by rw [hW]; exact heap_alloc_new _ _)
 have AL := zh hal; have HW := zh hW
 have R2 := zh (fun v (hv : Below w.heap.size w v) => hr2.below hv); have R8 := zh (fun v (hv : Below w.heap.size w v) => hr8.below hv)
 have HSZ := zh (blk_lt hm)
 clear hm he2 hr2 he8 hr8 hal hW
 go_enter Tryz.func40, Tryz.ntmps40
 go_wp2_with fail
 rw [← HW.out]
 (try go_wp2_with fail)
 refine wp_region_held_drew (S := fun w' : World => w'.cell? ⟨mb, 29, none⟩ = some (.slice A2 1 c2) ∧ w'.cell? ⟨mb, 31, none⟩ = some (.slice none 0 0) ∧ w'.cell? ⟨mb, 33, none⟩ = some (.slice none 0 0) ∧ w'.cell? ⟨mb, 35, none⟩ = some (.slice A8 1 c8) ∧ w'.cell? ⟨mb, 37, none⟩ = some (.slice none 0 0) ∧ w'.cell? ⟨mb, 39, none⟩ = some (.slice none 0 0)) (by kernel_rfl) ?_ (fun hHeld => ?_)
 ·exact HC.out _ M0.out
 obtain ⟨D, hD⟩ : ∃ u, u = W.drew := ⟨_, rfl⟩
 have MD := zh (show Mk mb m D from by rw [hD]; exact M0.out)
 have BD := zh (show D.heap[w.heap.size]? = some (.cells #[.slice none 0 0, .slice none 0 0, .slice none 0 0, .slice none 0 0, .slice none 0 0, .slice none 0 0] 49 (0, 0)) from by rw [hD]; exact B00.out)
 have AD := zh (show Below w.heap.size w D from by rw [hD]; exact overW AL.out)
 have hS := HC.out _ MD.out
 try dsimp only at hS
 rw [← hD]
 clear hD hHeld AL HW M0 B00
 refine tkp 0 rfl ?_
 refine tkp 1 rfl ?_
 refine tkp 2 rfl ?_
 refine tkp 3 rfl ?_
 refine tkp 4 rfl ?_
 refine tkp 6 rfl ?_
 refine tkp 7 rfl ?_
 refine tkp 8 rfl ?_
 refine tkp 9 rfl ?_
 refine tkp 10 rfl ?_
 refine tkp 12 rfl ?_
 refine tkp 13 rfl ?_
 refine tkp 14 rfl ?_
 refine tkp 15 rfl ?_
 refine tkp 16 rfl ?_
 refine tkp 18 rfl ?_
 refine tkp 19 rfl ?_
 refine tkp 20 rfl ?_
 refine tkp 21 rfl ?_
 refine tkp 22 rfl ?_
 refine tkp 24 rfl ?_
 refine tkp 25 rfl ?_
 refine tkp 26 rfl ?_
 refine tkp 27 rfl ?_
 refine tkp 28 rfl ?_
 refine tkp 30 rfl ?_
 refine tkp 31 rfl ?_
 refine tkp 32 rfl ?_
 refine tkp 33 rfl ?_
 refine tkp 34 rfl ?_
 clear hS
 refine rdy 5 rfl (fun K hK => ?_)
 go_simp
 refine (cln_mref A2 1 c2 [.string ⟨#[65]⟩, .string ⟨#[109]⟩, .string ⟨#[40, 41, 73]⟩] D (R2.out _ AD.out) (by rfl) (by decide) (by intro u hu; simp at hu; rcases hu with rfl | rfl | rfl <;> rfl)).mono ?_
 rintro e v0 ⟨⟨B0, d0, rfl, -⟩, hb⟩
 have M10 := zh (MD.out.below hb)
 have X10 := zh ((hb.block _ (blk_lt BD.out)).trans BD.out)
 have A10 := zh (show Below w.heap.size w v0 from then' AD.out hb)
 clear hb
 go_wp2_with fail
 refine hK.out _ _ (HC.out _ M10.out) (fun hHeld => ?_)
 clear hK K hHeld
 try simp only [puts]
 refine rdy 11 rfl (fun K hK => ?_)
 go_simp
 refine (cln_edge none 0 0 [] v0 (.inl rfl) (by rfl) (by decide) (by intro u hu; simp at hu)).mono ?_
 rintro e v1 ⟨⟨B1, d1, rfl, -⟩, hb⟩
 have M11 := zh (M10.out.below hb)
 have X11 := zh ((hb.block _ (blk_lt X10.out)).trans X10.out)
 have A11 := zh (show Below w.heap.size w v1 from then' A10.out hb)
 clear hb
 go_wp2_with fail
 refine hK.out _ _ (HC.out _ M11.out) (fun hHeld => ?_)
 clear hK K hHeld
 try simp only [puts]
 refine rdy 17 rfl (fun K hK => ?_)
 go_simp
 refine (cln_site none 0 0 [] v1 (.inl rfl) (by rfl) (by decide) (by intro u hu; simp at hu)).mono ?_
 rintro e v2 ⟨⟨B2, d2, rfl, -⟩, hb⟩
 have M12 := zh (M11.out.below hb)
 have X12 := zh ((hb.block _ (blk_lt X11.out)).trans X11.out)
 have A12 := zh (show Below w.heap.size w v2 from then' A11.out hb)
 clear hb
 go_wp2_with fail
 refine hK.out _ _ (HC.out _ M12.out) (fun hHeld => ?_)
 clear hK K hHeld
 try simp only [puts]
 refine rdy 23 rfl (fun K hK => ?_)
 go_simp
 refine (cln_str A8 1 c8 [.string ⟨#[65]⟩] v2 (R8.out _ A12.out) (by rfl) (by decide) (by intro u hu; simp at hu; rcases hu with rfl; rfl)).mono ?_
 rintro e v3 ⟨⟨B3, d3, rfl, -⟩, hb⟩
 have M13 := zh (M12.out.below hb)
 have X13 := zh ((hb.block _ (blk_lt X12.out)).trans X12.out)
 have A13 := zh (show Below w.heap.size w v3 from then' A12.out hb)
 clear hb
 go_wp2_with fail
 refine hK.out _ _ (HC.out _ M13.out) (fun hHeld => ?_)
 clear hK K hHeld
 try simp only [puts]
 refine rdy 29 rfl (fun K hK => ?_)
 go_simp
 refine (cln_fref none 0 0 [] v3 (.inl rfl) (by rfl) (by decide) (by intro u hu; simp at hu)).mono ?_
 rintro e v4 ⟨⟨B4, d4, rfl, -⟩, hb⟩
 have M14 := zh (M13.out.below hb)
 have X14 := zh ((hb.block _ (blk_lt X13.out)).trans X13.out)
 have A14 := zh (show Below w.heap.size w v4 from then' A13.out hb)
 clear hb
 go_wp2_with fail
 refine hK.out _ _ (HC.out _ M14.out) (fun hHeld => ?_)
 clear hK K hHeld
 try simp only [puts]
 refine rdy 35 rfl (fun K hK => ?_)
 go_simp
 refine (cln_str none 0 0 [] v4 (.inl rfl) (by rfl) (by decide) (by intro u hu; simp at hu)).mono ?_
 rintro e v5 ⟨⟨B5, d5, rfl, -⟩, hb⟩
 have M15 := zh (M14.out.below hb)
 have X15 := zh ((hb.block _ (blk_lt X14.out)).trans X14.out)
 have A15 := zh (show Below w.heap.size w v5 from then' A14.out hb)
 clear hb
 go_wp2_with fail
 refine hK.out _ _ (HC.out _ M15.out) (fun hHeld => ?_)
 clear hK K hHeld
 try simp only [puts]
 have hS := HC.out _ M15.out
 try dsimp only at hS
 refine tkp 36 rfl ?_
 clear hS
 obtain ⟨U, hU⟩ : ∃ U, U = ((((((v5.setCell ⟨w.heap.size, 0, none⟩ (.slice B0 1 d0)).setCell ⟨w.heap.size, 1, none⟩ (.slice B1 0 d1)).setCell ⟨w.heap.size, 2, none⟩ (.slice B2 0 d2)).setCell ⟨w.heap.size, 3, none⟩ (.slice B3 1 d3)).setCell ⟨w.heap.size, 4, none⟩ (.slice B4 0 d4)).setCell ⟨w.heap.size, 5, none⟩ (.slice B5 0 d5)) := ⟨_, rfl⟩
 have kU : Kp [w.heap.size] v5 U := by rw [hU]; exact Kp.of (gb6 _ _ _ _ _ _ _ _) (fun c hc _ => by cases hc; simp)
 have nU : U.heap[w.heap.size]? = some (.cells #[.slice B0 1 d0, .slice B1 0 d1, .slice B2 0 d2, .slice B3 1 d3, .slice B4 0 d4, .slice B5 0 d5] 49 (0, 0)) := by rw [hU]; exact set6 X15.out _ _ _ _ _ _
 have EN := zh (show Below w.heap.size w U from A15.out.trans (kU.toBelow A15.out.size (by simp)))
 have SU := zh (HC.out _ (M15.out.kept kU (by have := HSZ.out; simp; omega)))
 have y0 : v5.cell? ⟨w.heap.size, 0, none⟩ = some (.slice none 0 0) := cell_of_row _ _ 0 _ _ _ X15.out
 have g0 := frozen_of_row _ _ 0 _ _ X15.out
 have U0 := zh (show U.cell? ⟨w.heap.size, 0, none⟩ = some (.slice B0 1 d0) from cell_of_row _ _ 0 _ _ _ nU)
 have y1 : v5.cell? ⟨w.heap.size, 1, none⟩ = some (.slice none 0 0) := cell_of_row _ _ 1 _ _ _ X15.out
 have g1 := frozen_of_row _ _ 1 _ _ X15.out
 have U1 := zh (show U.cell? ⟨w.heap.size, 1, none⟩ = some (.slice B1 0 d1) from cell_of_row _ _ 1 _ _ _ nU)
 have y2 : v5.cell? ⟨w.heap.size, 2, none⟩ = some (.slice none 0 0) := cell_of_row _ _ 2 _ _ _ X15.out
 have g2 := frozen_of_row _ _ 2 _ _ X15.out
 have U2 := zh (show U.cell? ⟨w.heap.size, 2, none⟩ = some (.slice B2 0 d2) from cell_of_row _ _ 2 _ _ _ nU)
 have y3 : v5.cell? ⟨w.heap.size, 3, none⟩ = some (.slice none 0 0) := cell_of_row _ _ 3 _ _ _ X15.out
 have g3 := frozen_of_row _ _ 3 _ _ X15.out
 have U3 := zh (show U.cell? ⟨w.heap.size, 3, none⟩ = some (.slice B3 1 d3) from cell_of_row _ _ 3 _ _ _ nU)
 have y4 : v5.cell? ⟨w.heap.size, 4, none⟩ = some (.slice none 0 0) := cell_of_row _ _ 4 _ _ _ X15.out
 have g4 := frozen_of_row _ _ 4 _ _ X15.out
 have U4 := zh (show U.cell? ⟨w.heap.size, 4, none⟩ = some (.slice B4 0 d4) from cell_of_row _ _ 4 _ _ _ nU)
 have y5 : v5.cell? ⟨w.heap.size, 5, none⟩ = some (.slice none 0 0) := cell_of_row _ _ 5 _ _ _ X15.out
 have g5 := frozen_of_row _ _ 5 _ _ X15.out
 have U5 := zh (show U.cell? ⟨w.heap.size, 5, none⟩ = some (.slice B5 0 d5) from cell_of_row _ _ 5 _ _ _ nU)
 have HU := zh hU
 clear hU kU nU
 refine rdy 37 rfl (fun K hK => ?_)
 go_simp
 rw [← HU.out]
 refine hK.out _ _ SU.out (fun hHeld => ?_)
 clear hK K
 try simp only [puts]
 clear hHeld y0 g0 y1 g1 y2 g2 y3 g3 y4 g4 y5 g5
 refine wpAnyH_done (by kernel_rfl) ?_ _
 go_wp2
 exact bodyPost_ret (v := .agg #[.slice B0 1 d0, .slice B1 0 d1, .slice B2 0 d2, .slice B3 1 d3, .slice B4 0 d4, .slice B5 0 d5]) (by simp [results, Tryz.results40, go_sem, U0.out, U1.out, U2.out, U3.out, U4.out, U5.out]) rfl ⟨⟨B0, B1, B2, B3, B4, B5, d0, d1, d2, d3, d4, d5, rfl⟩, EN.out⟩
end Go.Proofs.YtjejmlpjifhmmaaGreatDoor.stp
namespace Go.Proofs.YtjejmlpjifhmmaaGreatDoor.stp
open Go.RowKit Go.MapKept Go.ChangeMaps Go.Shelf
open words kindp opp op kind prg sto find
set_option maxRecDepth 100000
set_option maxHeartbeats 8000000
set_option linter.all false
theorem set11 {w : World} {b : Nat} {t : TypeId} {z0 z1 z2 z3 z4 z5 z6 z7 z8 z9 z10 : Value} (h : w.heap[b]? = some (.cells #[z0, z1, z2, z3, z4, z5, z6, z7, z8, z9, z10] t (0, 0))) (v0 v1 v2 v3 v4 v5 v6 v7 v8 v9 v10 : Value) :
 (((((((((((w.setCell ⟨b, 0, none⟩ (v0)).setCell ⟨b, 1, none⟩ (v1)).setCell ⟨b, 2, none⟩ (v2)).setCell ⟨b, 3, none⟩ (v3)).setCell ⟨b, 4, none⟩ (v4)).setCell ⟨b, 5, none⟩ (v5)).setCell ⟨b, 6, none⟩ (v6)).setCell ⟨b, 7, none⟩ (v7)).setCell ⟨b, 8, none⟩ (v8)).setCell ⟨b, 9, none⟩ (v9)).setCell ⟨b, 10, none⟩ (v10)).heap[b]? = some (.cells #[v0, v1, v2, v3, v4, v5, v6, v7, v8, v9, v10] t (0, 0)) := by
 obtain ⟨w0, h0⟩ : ∃ x, x = w.setCell ⟨b, 0, none⟩ v0 := ⟨_, rfl⟩
 have y0 : w0.heap[b]? = some (.cells #[v0, z1, z2, z3, z4, z5, z6, z7, z8, z9, z10] t (0, 0)) := by rw [h0, heap_setCell_same _ _ 0 _ _ v0 h]; rfl
 rw [← h0]
 obtain ⟨w1, h1⟩ : ∃ x, x = w0.setCell ⟨b, 1, none⟩ v1 := ⟨_, rfl⟩
 have y1 : w1.heap[b]? = some (.cells #[v0, v1, z2, z3, z4, z5, z6, z7, z8, z9, z10] t (0, 0)) := by rw [h1, heap_setCell_same _ _ 1 _ _ v1 y0]; rfl
 rw [← h1]
 obtain ⟨w2, h2⟩ : ∃ x, x = w1.setCell ⟨b, 2, none⟩ v2 := ⟨_, rfl⟩
 have y2 : w2.heap[b]? = some (.cells #[v0, v1, v2, z3, z4, z5, z6, z7, z8, z9, z10] t (0, 0)) := by rw [h2, heap_setCell_same _ _ 2 _ _ v2 y1]; rfl
 rw [← h2]
 obtain ⟨w3, h3⟩ : ∃ x, x = w2.setCell ⟨b, 3, none⟩ v3 := ⟨_, rfl⟩
 have y3 : w3.heap[b]? = some (.cells #[v0, v1, v2, v3, z4, z5, z6, z7, z8, z9, z10] t (0, 0)) := by rw [h3, heap_setCell_same _ _ 3 _ _ v3 y2]; rfl
 rw [← h3]
 obtain ⟨w4, h4⟩ : ∃ x, x = w3.setCell ⟨b, 4, none⟩ v4 := ⟨_, rfl⟩
 have y4 : w4.heap[b]? = some (.cells #[v0, v1, v2, v3, v4, z5, z6, z7, z8, z9, z10] t (0, 0)) := by rw [h4, heap_setCell_same _ _ 4 _ _ v4 y3]; rfl
 rw [← h4]
 obtain ⟨w5, h5⟩ : ∃ x, x = w4.setCell ⟨b, 5, none⟩ v5 := ⟨_, rfl⟩
 have y5 : w5.heap[b]? = some (.cells #[v0, v1, v2, v3, v4, v5, z6, z7, z8, z9, z10] t (0, 0)) := by rw [h5, heap_setCell_same _ _ 5 _ _ v5 y4]; rfl
 rw [← h5]
 obtain ⟨w6, h6⟩ : ∃ x, x = w5.setCell ⟨b, 6, none⟩ v6 := ⟨_, rfl⟩
 have y6 : w6.heap[b]? = some (.cells #[v0, v1, v2, v3, v4, v5, v6, z7, z8, z9, z10] t (0, 0)) := by rw [h6, heap_setCell_same _ _ 6 _ _ v6 y5]; rfl
 rw [← h6]
 obtain ⟨w7, h7⟩ : ∃ x, x = w6.setCell ⟨b, 7, none⟩ v7 := ⟨_, rfl⟩
 have y7 : w7.heap[b]? = some (.cells #[v0, v1, v2, v3, v4, v5, v6, v7, z8, z9, z10] t (0, 0)) := by rw [h7, heap_setCell_same _ _ 7 _ _ v7 y6]; rfl
 rw [← h7]
 obtain ⟨w8, h8⟩ : ∃ x, x = w7.setCell ⟨b, 8, none⟩ v8 := ⟨_, rfl⟩
 have y8 : w8.heap[b]? = some (.cells #[v0, v1, v2, v3, v4, v5, v6, v7, v8, z9, z10] t (0, 0)) := by rw [h8, heap_setCell_same _ _ 8 _ _ v8 y7]; rfl
 rw [← h8]
 obtain ⟨w9, h9⟩ : ∃ x, x = w8.setCell ⟨b, 9, none⟩ v9 := ⟨_, rfl⟩
 have y9 : w9.heap[b]? = some (.cells #[v0, v1, v2, v3, v4, v5, v6, v7, v8, v9, z10] t (0, 0)) := by rw [h9, heap_setCell_same _ _ 9 _ _ v9 y8]; rfl
 rw [← h9]
 rw [heap_setCell_same _ _ 10 _ _ v10 y9]; rfl
theorem set6_11 {w : World} {b : Nat} {t : TypeId} {z0 z1 z2 z3 z4 z5 z6 z7 z8 z9 z10 : Value} (h : w.heap[b]? = some (.cells #[z0, z1, z2, z3, z4, z5, z6, z7, z8, z9, z10] t (0, 0))) (v5 v6 v7 v8 v9 v10 : Value) :
 ((((((w.setCell ⟨b, 5, none⟩ (v5)).setCell ⟨b, 6, none⟩ (v6)).setCell ⟨b, 7, none⟩ (v7)).setCell ⟨b, 8, none⟩ (v8)).setCell ⟨b, 9, none⟩ (v9)).setCell ⟨b, 10, none⟩ (v10)).heap[b]? = some (.cells #[z0, z1, z2, z3, z4, v5, v6, v7, v8, v9, v10] t (0, 0)) := by
 obtain ⟨w5, h5⟩ : ∃ x, x = w.setCell ⟨b, 5, none⟩ v5 := ⟨_, rfl⟩
 have y5 : w5.heap[b]? = some (.cells #[z0, z1, z2, z3, z4, v5, z6, z7, z8, z9, z10] t (0, 0)) := by rw [h5, heap_setCell_same _ _ 5 _ _ v5 h]; rfl
 rw [← h5]
 obtain ⟨w6, h6⟩ : ∃ x, x = w5.setCell ⟨b, 6, none⟩ v6 := ⟨_, rfl⟩
 have y6 : w6.heap[b]? = some (.cells #[z0, z1, z2, z3, z4, v5, v6, z7, z8, z9, z10] t (0, 0)) := by rw [h6, heap_setCell_same _ _ 6 _ _ v6 y5]; rfl
 rw [← h6]
 obtain ⟨w7, h7⟩ : ∃ x, x = w6.setCell ⟨b, 7, none⟩ v7 := ⟨_, rfl⟩
 have y7 : w7.heap[b]? = some (.cells #[z0, z1, z2, z3, z4, v5, v6, v7, z8, z9, z10] t (0, 0)) := by rw [h7, heap_setCell_same _ _ 7 _ _ v7 y6]; rfl
 rw [← h7]
 obtain ⟨w8, h8⟩ : ∃ x, x = w7.setCell ⟨b, 8, none⟩ v8 := ⟨_, rfl⟩
 have y8 : w8.heap[b]? = some (.cells #[z0, z1, z2, z3, z4, v5, v6, v7, v8, z9, z10] t (0, 0)) := by rw [h8, heap_setCell_same _ _ 8 _ _ v8 y7]; rfl
 rw [← h8]
 obtain ⟨w9, h9⟩ : ∃ x, x = w8.setCell ⟨b, 9, none⟩ v9 := ⟨_, rfl⟩
 have y9 : w9.heap[b]? = some (.cells #[z0, z1, z2, z3, z4, v5, v6, v7, v8, v9, z10] t (0, 0)) := by rw [h9, heap_setCell_same _ _ 9 _ _ v9 y8]; rfl
 rw [← h9]
 rw [heap_setCell_same _ _ 10 _ _ v10 y9]; rfl
theorem result_w {mb : Nat} {m : MS} {n : Nat} {evs : List Value} (w : World) (h : Tl mb m n evs w) (hl : evs.length = n * 2) (hn : n ≤ 100) (h1 : ∀ u ∈ evs, u.oneCell' = true) :
 Calls Tryz.prog 14 #[.pointer (some ⟨mb, 0, none⟩)] w fun e w' => (∃ (Be B0 B1 B2 B3 B4 B5 : Option Addr) (de d0 d1 d2 d3 d4 d5 : Nat), e = .returned (.agg #[.int .i64 m.st, .int .i64 m.cd, .int .i64 m.tr, .int .i64 m.sp, .slice Be n de, .slice B0 1 d0, .slice B1 0 d1, .slice B2 0 d2, .slice B3 1 d3, .slice B4 0 d4, .slice B5 0 d5]) ∧ Rd w' Be evs ∧ ∀ a, Be = some a → w.heap.size ≤ a.block) ∧ Below w.heap.size w w' := by
 have HTL := zh (fun v (hv : Below w.heap.size w v) => told_w v (h.below hv))
 obtain ⟨hm, -, -, ⟨Ae, ce, hee, hre⟩⟩ := h
 have HCL := zh (fun v (hv : Below w.heap.size w v) => cln_ev Ae n ce evs v (hre.below hv) hl (by omega) h1)
 obtain ⟨W, hW⟩ : ∃ W, W = w.alloc (.cells #[.int .i64 0, .int .i64 0, .int .i64 0, .int .i64 0, .slice none 0 0, .slice none 0 0, .slice none 0 0, .slice none 0 0, .slice none 0 0, .slice none 0 0, .slice none 0 0] 51) := ⟨_, rfl⟩
 have hal : Below w.heap.size w W := by rw [hW]; exact (Below.refl _ _).alloc (Nat.le_refl _) _
 have hwb : W.heap[w.heap.size]? = some (.cells #[.int .i64 0, .int .i64 0, .int .i64 0, .int .i64 0, .slice none 0 0, .slice none 0 0, .slice none 0 0, .slice none 0 0, .slice none 0 0, .slice none 0 0, .slice none 0 0] 51 (0, 0)) := by rw [hW]; exact heap_alloc_new _ _
 obtain ⟨X, hX⟩ : ∃ X, X = W.alloc (.cells #[.int .i64 m.st, .int .i64 m.cd, .int .i64 m.tr, .int .i64 m.sp, .slice none 0 0, .slice none 0 0, .slice none 0 0, .slice none 0 0, .slice none 0 0, .slice none 0 0, .slice none 0 0] 51) := ⟨_, rfl⟩
 have hxl : Below W.heap.size W X := by rw [hX]; exact (Below.refl _ _).alloc (Nat.le_refl _) _
 have SZ : W.heap.size = w.heap.size + 1 := by rw [hW]; simp
 have hxb : X.heap[w.heap.size + 1]? = some (.cells #[.int .i64 m.st, .int .i64 m.cd, .int .i64 m.tr, .int .i64 m.sp, .slice none 0 0, .slice none 0 0, .slice none 0 0, .slice none 0 0, .slice none 0 0, .slice none 0 0, .slice none 0 0] 51 (0, 0)) := by rw [← SZ, hX]; exact heap_alloc_new _ _
 have HC := zh (show ∀ v : World, Mk mb m v → (fun w' : World => w'.cell? ⟨mb, 27, none⟩ = some (.slice Ae n ce)) v from fun v hv => by rw [← hee]; exact cell_of_row _ _ 27 _ _ _ hv)
 have MW := hm.below hal
 have c16 : (w.alloc (.cells #[.int .i64 0, .int .i64 0, .int .i64 0, .int .i64 0, .slice none 0 0, .slice none 0 0, .slice none 0 0, .slice none 0 0, .slice none 0 0, .slice none 0 0, .slice none 0 0] 51)).cell? ⟨mb, 16, none⟩ = some (.int .i64 m.st) := by rw [← hW]; exact cell_of_row _ _ 16 _ _ _ MW
 have c17 : (w.alloc (.cells #[.int .i64 0, .int .i64 0, .int .i64 0, .int .i64 0, .slice none 0 0, .slice none 0 0, .slice none 0 0, .slice none 0 0, .slice none 0 0, .slice none 0 0, .slice none 0 0] 51)).cell? ⟨mb, 17, none⟩ = some (.int .i64 m.cd) := by rw [← hW]; exact cell_of_row _ _ 17 _ _ _ MW
 have c18 : (w.alloc (.cells #[.int .i64 0, .int .i64 0, .int .i64 0, .int .i64 0, .slice none 0 0, .slice none 0 0, .slice none 0 0, .slice none 0 0, .slice none 0 0, .slice none 0 0, .slice none 0 0] 51)).cell? ⟨mb, 18, none⟩ = some (.int .i64 m.tr) := by rw [← hW]; exact cell_of_row _ _ 18 _ _ _ MW
 have c19 : (w.alloc (.cells #[.int .i64 0, .int .i64 0, .int .i64 0, .int .i64 0, .slice none 0 0, .slice none 0 0, .slice none 0 0, .slice none 0 0, .slice none 0 0, .slice none 0 0, .slice none 0 0] 51)).cell? ⟨mb, 19, none⟩ = some (.int .i64 m.sp) := by rw [← hW]; exact cell_of_row _ _ 19 _ _ _ MW
 have c20 : (w.alloc (.cells #[.int .i64 0, .int .i64 0, .int .i64 0, .int .i64 0, .slice none 0 0, .slice none 0 0, .slice none 0 0, .slice none 0 0, .slice none 0 0, .slice none 0 0, .slice none 0 0] 51)).cell? ⟨mb, 20, none⟩ = some (.slice none 0 0) := by rw [← hW]; exact cell_of_row _ _ 20 _ _ _ MW
 have c21 : (w.alloc (.cells #[.int .i64 0, .int .i64 0, .int .i64 0, .int .i64 0, .slice none 0 0, .slice none 0 0, .slice none 0 0, .slice none 0 0, .slice none 0 0, .slice none 0 0, .slice none 0 0] 51)).cell? ⟨mb, 21, none⟩ = some (.slice none 0 0) := by rw [← hW]; exact cell_of_row _ _ 21 _ _ _ MW
 have c22 : (w.alloc (.cells #[.int .i64 0, .int .i64 0, .int .i64 0, .int .i64 0, .slice none 0 0, .slice none 0 0, .slice none 0 0, .slice none 0 0, .slice none 0 0, .slice none 0 0, .slice none 0 0] 51)).cell? ⟨mb, 22, none⟩ = some (.slice none 0 0) := by rw [← hW]; exact cell_of_row _ _ 22 _ _ _ MW
 have c23 : (w.alloc (.cells #[.int .i64 0, .int .i64 0, .int .i64 0, .int .i64 0, .slice none 0 0, .slice none 0 0, .slice none 0 0, .slice none 0 0, .slice none 0 0, .slice none 0 0, .slice none 0 0] 51)).cell? ⟨mb, 23, none⟩ = some (.slice none 0 0) := by rw [← hW]; exact cell_of_row _ _ 23 _ _ _ MW
 have c24 : (w.alloc (.cells #[.int .i64 0, .int .i64 0, .int .i64 0, .int .i64 0, .slice none 0 0, .slice none 0 0, .slice none 0 0, .slice none 0 0, .slice none 0 0, .slice none 0 0, .slice none 0 0] 51)).cell? ⟨mb, 24, none⟩ = some (.slice none 0 0) := by rw [← hW]; exact cell_of_row _ _ 24 _ _ _ MW
 have c25 : (w.alloc (.cells #[.int .i64 0, .int .i64 0, .int .i64 0, .int .i64 0, .slice none 0 0, .slice none 0 0, .slice none 0 0, .slice none 0 0, .slice none 0 0, .slice none 0 0, .slice none 0 0] 51)).cell? ⟨mb, 25, none⟩ = some (.slice none 0 0) := by rw [← hW]; exact cell_of_row _ _ 25 _ _ _ MW
 have c26 : (w.alloc (.cells #[.int .i64 0, .int .i64 0, .int .i64 0, .int .i64 0, .slice none 0 0, .slice none 0 0, .slice none 0 0, .slice none 0 0, .slice none 0 0, .slice none 0 0, .slice none 0 0] 51)).cell? ⟨mb, 26, none⟩ = some (.slice none 0 0) := by rw [← hW]; exact cell_of_row _ _ 26 _ _ _ MW
 have XM := zh (MW.below hxl); have XA := zh (show Below w.heap.size w X from then' hal hxl); have XB := zh hxb
 have XW := zh ((hxl.block _ (blk_lt hwb)).trans hwb); have HW := zh hW; have HX := zh hX; have HSZ := zh (blk_lt hm); have HZ := zh SZ
 have XZ := zh (show X.heap.size = w.heap.size + 2 from by rw [hX]; simp [SZ])
 clear hm hal hwb hxl hxb MW hee hre hW hX hl h1 SZ
 go_enter Tryz.func14, Tryz.ntmps14
 go_wp2_with fail
 rw [← HW.out]
 rw [← HX.out]
 (try go_wp2_with fail)
 clear c16 c17 c18 c19 c20 c21 c22 c23 c24 c25 c26
 refine wp_region_held_drew (S := fun w' : World => w'.cell? ⟨mb, 27, none⟩ = some (.slice Ae n ce)) (by kernel_rfl) ?_ (fun hHeld => ?_)
 ·exact HC.out _ XM.out
 obtain ⟨D, hD⟩ : ∃ u, u = X.drew := ⟨_, rfl⟩
 have DM := zh (show Mk mb m D from by rw [hD]; exact XM.out)
 have DB := zh (show D.heap[w.heap.size + 1]? = some (.cells #[.int .i64 m.st, .int .i64 m.cd, .int .i64 m.tr, .int .i64 m.sp, .slice none 0 0, .slice none 0 0, .slice none 0 0, .slice none 0 0, .slice none 0 0, .slice none 0 0, .slice none 0 0] 51 (0, 0)) from by rw [hD]; exact XB.out)
 have DW := zh (show D.heap[w.heap.size]? = some (.cells #[.int .i64 0, .int .i64 0, .int .i64 0, .int .i64 0, .slice none 0 0, .slice none 0 0, .slice none 0 0, .slice none 0 0, .slice none 0 0, .slice none 0 0, .slice none 0 0] 51 (0, 0)) from by rw [hD]; exact XW.out)
 have DA := zh (show Below w.heap.size w D from by rw [hD]; exact overW XA.out)
 have DZ := zh (show D.heap.size = w.heap.size + 2 from by rw [hD]; exact XZ.out)
 have hS := HC.out _ DM.out
 try dsimp only at hS
 rw [← hD]
 clear hD hHeld XM XB XW XA XZ HX HW HZ
 refine tkp 0 rfl ?_
 refine tkp 1 rfl ?_
 refine tkp 2 rfl ?_
 refine tkp 3 rfl ?_
 refine tkp 5 rfl ?_
 refine tkp 6 rfl ?_
 refine tkp 7 rfl ?_
 clear hS
 refine rdy 4 rfl (fun K hK => ?_)
 go_simp
 refine (HCL.out D DA.out).mono ?_
 rintro e v ⟨⟨Be, de, rfl, hown⟩, hb⟩
 have hbe : ∀ a, Be = some a → w.heap.size + 2 ≤ a.block := fun a ha => by rw [← DZ.out]; exact (hown.lt a.block (by rw [ha]; rfl)).1
 have hrd : Rd v Be evs := by obtain ⟨A5, c5, e5, -, -, h5⟩ := own_rd hown; cases e5; exact h5
 have VM := zh (DM.out.below hb)
 have VB := zh ((hb.block _ (blk_lt DB.out)).trans DB.out)
 have VW := zh ((hb.block _ (blk_lt DW.out)).trans DW.out)
 have VA := zh (show Below w.heap.size w v from then' DA.out hb)
 have VE := zh hbe; have VR := zh hrd
 clear hb hown hbe hrd
 go_wp2_with fail
 refine hK.out _ _ (HC.out _ VM.out) (fun hHeld => ?_)
 clear hK K hHeld
 try simp only [puts]
 have hS := HC.out _ VM.out
 try dsimp only at hS
 refine tkp 9 rfl ?_
 clear hS
 refine rdy 8 rfl (fun K hK => ?_)
 go_simp
 refine (HTL.out v VA.out).mono ?_
 rintro e u ⟨⟨B0, B1, B2, B3, B4, B5, d0, d1, d2, d3, d4, d5, rfl⟩, hb⟩
 have UM := zh (VM.out.below hb)
 have UB := zh ((hb.block _ (blk_lt VB.out)).trans VB.out)
 have UW := zh ((hb.block _ (blk_lt VW.out)).trans VW.out)
 have UA := zh (show Below w.heap.size w u from then' VA.out hb)
 have UR := zh (VR.out.below hb)
 clear hb
 go_wp2_with fail
 refine hK.out _ _ (HC.out _ UM.out) (fun hHeld => ?_)
 clear hK K hHeld
 try simp only [puts]
 obtain ⟨Y, hY⟩ : ∃ Y, Y = u.setCell ⟨w.heap.size + 1, 4, none⟩ (.slice Be n de) := ⟨_, rfl⟩
 have kY : Kp [w.heap.size + 1] u Y := by rw [hY]; exact (Kp.refl _ _).set (by simp) _
 have YB := zh (show Y.heap[w.heap.size + 1]? = some (.cells #[.int .i64 m.st, .int .i64 m.cd, .int .i64 m.tr, .int .i64 m.sp, .slice Be n de, .slice none 0 0, .slice none 0 0, .slice none 0 0, .slice none 0 0, .slice none 0 0, .slice none 0 0] 51 (0, 0)) from by rw [hY, heap_setCell_same _ _ 4 _ _ _ UB.out]; rfl)
 have YM := zh (UM.out.kept kY (by have := HSZ.out; simp; omega))
 have YW := zh (kY.at_ UW.out (by simp))
 have y4 : u.cell? ⟨w.heap.size + 1, 4, none⟩ = some (.slice none 0 0) := cell_of_row _ _ 4 _ _ _ UB.out
 have g4 := frozen_of_row _ _ 4 _ _ UB.out
 have HY := zh hY
 clear hY
 refine rdy 10 rfl (fun K hK => ?_)
 go_simp
 rw [← HY.out]
 refine hK.out _ _ (HC.out _ YM.out) (fun hHeld => ?_)
 clear hK K
 try simp only [puts]
 clear hHeld y4 g4
 have hS := HC.out _ YM.out
 try dsimp only at hS
 refine tkp 11 rfl ?_
 clear hS
 obtain ⟨Q, hQ⟩ : ∃ Q, Q = ((((((Y.setCell ⟨w.heap.size + 1, 5, none⟩ (.slice B0 1 d0)).setCell ⟨w.heap.size + 1, 6, none⟩ (.slice B1 0 d1)).setCell ⟨w.heap.size + 1, 7, none⟩ (.slice B2 0 d2)).setCell ⟨w.heap.size + 1, 8, none⟩ (.slice B3 1 d3)).setCell ⟨w.heap.size + 1, 9, none⟩ (.slice B4 0 d4)).setCell ⟨w.heap.size + 1, 10, none⟩ (.slice B5 0 d5)) := ⟨_, rfl⟩
 have kQ : Kp [w.heap.size + 1] u Q := by rw [hQ]; exact (((((((kY.set (by simp) _).set (by simp) _).set (by simp) _).set (by simp) _).set (by simp) _).set (by simp) _))
 have QB := zh (show Q.heap[w.heap.size + 1]? = some (.cells #[.int .i64 m.st, .int .i64 m.cd, .int .i64 m.tr, .int .i64 m.sp, .slice Be n de, .slice B0 1 d0, .slice B1 0 d1, .slice B2 0 d2, .slice B3 1 d3, .slice B4 0 d4, .slice B5 0 d5] 51 (0, 0)) from by rw [hQ]; exact set6_11 YB.out _ _ _ _ _ _)
 have QM := zh (UM.out.kept kQ (by have := HSZ.out; simp; omega))
 have QW := zh (kQ.at_ UW.out (by simp))
 have QA := zh (show Below w.heap.size w Q from UA.out.trans (kQ.toBelow UA.out.size (by simp)))
 have QR := zh (kQ.rd UR.out (fun a ha => by have := VE.out a ha; simp; omega))
 have y5 : Y.cell? ⟨w.heap.size + 1, 5, none⟩ = some (.slice none 0 0) := cell_of_row _ _ 5 _ _ _ YB.out
 have g5 := frozen_of_row _ _ 5 _ _ YB.out
 have y6 : Y.cell? ⟨w.heap.size + 1, 6, none⟩ = some (.slice none 0 0) := cell_of_row _ _ 6 _ _ _ YB.out
 have g6 := frozen_of_row _ _ 6 _ _ YB.out
 have y7 : Y.cell? ⟨w.heap.size + 1, 7, none⟩ = some (.slice none 0 0) := cell_of_row _ _ 7 _ _ _ YB.out
 have g7 := frozen_of_row _ _ 7 _ _ YB.out
 have y8 : Y.cell? ⟨w.heap.size + 1, 8, none⟩ = some (.slice none 0 0) := cell_of_row _ _ 8 _ _ _ YB.out
 have g8 := frozen_of_row _ _ 8 _ _ YB.out
 have y9 : Y.cell? ⟨w.heap.size + 1, 9, none⟩ = some (.slice none 0 0) := cell_of_row _ _ 9 _ _ _ YB.out
 have g9 := frozen_of_row _ _ 9 _ _ YB.out
 have y10 : Y.cell? ⟨w.heap.size + 1, 10, none⟩ = some (.slice none 0 0) := cell_of_row _ _ 10 _ _ _ YB.out
 have g10 := frozen_of_row _ _ 10 _ _ YB.out
 have HQ := zh hQ
 clear hQ kQ kY
 refine rdy 12 rfl (fun K hK => ?_)
 go_simp
 rw [← HQ.out]
 refine hK.out _ _ (HC.out _ QM.out) (fun hHeld => ?_)
 clear hK K
 try simp only [puts]
 clear hHeld y5 g5 y6 g6 y7 g7 y8 g8 y9 g9 y10 g10
 refine wpAnyH_done (by kernel_rfl) ?_ _
 have p0 : Q.cell? ⟨w.heap.size + 1, 0, none⟩ = some (.int .i64 m.st) := cell_of_row _ _ 0 _ _ _ QB.out
 have q0 : Q.cell? ⟨w.heap.size, 0, none⟩ = some (.int .i64 0) := cell_of_row _ _ 0 _ _ _ QW.out
 have g0 := frozen_of_row _ _ 0 _ _ QW.out
 have p1 : Q.cell? ⟨w.heap.size + 1, 1, none⟩ = some (.int .i64 m.cd) := cell_of_row _ _ 1 _ _ _ QB.out
 have q1 : Q.cell? ⟨w.heap.size, 1, none⟩ = some (.int .i64 0) := cell_of_row _ _ 1 _ _ _ QW.out
 have g1 := frozen_of_row _ _ 1 _ _ QW.out
 have p2 : Q.cell? ⟨w.heap.size + 1, 2, none⟩ = some (.int .i64 m.tr) := cell_of_row _ _ 2 _ _ _ QB.out
 have q2 : Q.cell? ⟨w.heap.size, 2, none⟩ = some (.int .i64 0) := cell_of_row _ _ 2 _ _ _ QW.out
 have g2 := frozen_of_row _ _ 2 _ _ QW.out
 have p3 : Q.cell? ⟨w.heap.size + 1, 3, none⟩ = some (.int .i64 m.sp) := cell_of_row _ _ 3 _ _ _ QB.out
 have q3 : Q.cell? ⟨w.heap.size, 3, none⟩ = some (.int .i64 0) := cell_of_row _ _ 3 _ _ _ QW.out
 have g3 := frozen_of_row _ _ 3 _ _ QW.out
 have p4 : Q.cell? ⟨w.heap.size + 1, 4, none⟩ = some (.slice Be n de) := cell_of_row _ _ 4 _ _ _ QB.out
 have q4 : Q.cell? ⟨w.heap.size, 4, none⟩ = some (.slice none 0 0) := cell_of_row _ _ 4 _ _ _ QW.out
 have g4 := frozen_of_row _ _ 4 _ _ QW.out
 have p5 : Q.cell? ⟨w.heap.size + 1, 5, none⟩ = some (.slice B0 1 d0) := cell_of_row _ _ 5 _ _ _ QB.out
 have q5 : Q.cell? ⟨w.heap.size, 5, none⟩ = some (.slice none 0 0) := cell_of_row _ _ 5 _ _ _ QW.out
 have g5 := frozen_of_row _ _ 5 _ _ QW.out
 have p6 : Q.cell? ⟨w.heap.size + 1, 6, none⟩ = some (.slice B1 0 d1) := cell_of_row _ _ 6 _ _ _ QB.out
 have q6 : Q.cell? ⟨w.heap.size, 6, none⟩ = some (.slice none 0 0) := cell_of_row _ _ 6 _ _ _ QW.out
 have g6 := frozen_of_row _ _ 6 _ _ QW.out
 have p7 : Q.cell? ⟨w.heap.size + 1, 7, none⟩ = some (.slice B2 0 d2) := cell_of_row _ _ 7 _ _ _ QB.out
 have q7 : Q.cell? ⟨w.heap.size, 7, none⟩ = some (.slice none 0 0) := cell_of_row _ _ 7 _ _ _ QW.out
 have g7 := frozen_of_row _ _ 7 _ _ QW.out
 have p8 : Q.cell? ⟨w.heap.size + 1, 8, none⟩ = some (.slice B3 1 d3) := cell_of_row _ _ 8 _ _ _ QB.out
 have q8 : Q.cell? ⟨w.heap.size, 8, none⟩ = some (.slice none 0 0) := cell_of_row _ _ 8 _ _ _ QW.out
 have g8 := frozen_of_row _ _ 8 _ _ QW.out
 have p9 : Q.cell? ⟨w.heap.size + 1, 9, none⟩ = some (.slice B4 0 d4) := cell_of_row _ _ 9 _ _ _ QB.out
 have q9 : Q.cell? ⟨w.heap.size, 9, none⟩ = some (.slice none 0 0) := cell_of_row _ _ 9 _ _ _ QW.out
 have g9 := frozen_of_row _ _ 9 _ _ QW.out
 have p10 : Q.cell? ⟨w.heap.size + 1, 10, none⟩ = some (.slice B5 0 d5) := cell_of_row _ _ 10 _ _ _ QB.out
 have q10 : Q.cell? ⟨w.heap.size, 10, none⟩ = some (.slice none 0 0) := cell_of_row _ _ 10 _ _ _ QW.out
 have g10 := frozen_of_row _ _ 10 _ _ QW.out
 obtain ⟨R, hR⟩ : ∃ R, R = (((((((((((Q.setCell ⟨w.heap.size, 0, none⟩ (.int .i64 m.st)).setCell ⟨w.heap.size, 1, none⟩ (.int .i64 m.cd)).setCell ⟨w.heap.size, 2, none⟩ (.int .i64 m.tr)).setCell ⟨w.heap.size, 3, none⟩ (.int .i64 m.sp)).setCell ⟨w.heap.size, 4, none⟩ (.slice Be n de)).setCell ⟨w.heap.size, 5, none⟩ (.slice B0 1 d0)).setCell ⟨w.heap.size, 6, none⟩ (.slice B1 0 d1)).setCell ⟨w.heap.size, 7, none⟩ (.slice B2 0 d2)).setCell ⟨w.heap.size, 8, none⟩ (.slice B3 1 d3)).setCell ⟨w.heap.size, 9, none⟩ (.slice B4 0 d4)).setCell ⟨w.heap.size, 10, none⟩ (.slice B5 0 d5)) := ⟨_, rfl⟩
 have kR : Kp [w.heap.size] Q R := by rw [hR]; exact (((((((((((Kp.refl _ _).set (by simp) _).set (by simp) _).set (by simp) _).set (by simp) _).set (by simp) _).set (by simp) _).set (by simp) _).set (by simp) _).set (by simp) _).set (by simp) _).set (by simp) _
 have nR : R.heap[w.heap.size]? = some (.cells #[.int .i64 m.st, .int .i64 m.cd, .int .i64 m.tr, .int .i64 m.sp, .slice Be n de, .slice B0 1 d0, .slice B1 0 d1, .slice B2 0 d2, .slice B3 1 d3, .slice B4 0 d4, .slice B5 0 d5] 51 (0, 0)) := by rw [hR]; exact set11 QW.out _ _ _ _ _ _ _ _ _ _ _
 have EN := zh (show Rd R Be evs ∧ (∀ a, Be = some a → w.heap.size ≤ a.block) ∧ Below w.heap.size w R from ⟨kR.rd QR.out (fun a ha => by have := VE.out a ha; simp; omega), fun a ha => by have := VE.out a ha; omega, QA.out.trans (kR.toBelow QA.out.size (by simp))⟩)
 have U0 := zh (show R.cell? ⟨w.heap.size, 0, none⟩ = some (.int .i64 m.st) from cell_of_row _ _ 0 _ _ _ nR)
 have U1 := zh (show R.cell? ⟨w.heap.size, 1, none⟩ = some (.int .i64 m.cd) from cell_of_row _ _ 1 _ _ _ nR)
 have U2 := zh (show R.cell? ⟨w.heap.size, 2, none⟩ = some (.int .i64 m.tr) from cell_of_row _ _ 2 _ _ _ nR)
 have U3 := zh (show R.cell? ⟨w.heap.size, 3, none⟩ = some (.int .i64 m.sp) from cell_of_row _ _ 3 _ _ _ nR)
 have U4 := zh (show R.cell? ⟨w.heap.size, 4, none⟩ = some (.slice Be n de) from cell_of_row _ _ 4 _ _ _ nR)
 have U5 := zh (show R.cell? ⟨w.heap.size, 5, none⟩ = some (.slice B0 1 d0) from cell_of_row _ _ 5 _ _ _ nR)
 have U6 := zh (show R.cell? ⟨w.heap.size, 6, none⟩ = some (.slice B1 0 d1) from cell_of_row _ _ 6 _ _ _ nR)
 have U7 := zh (show R.cell? ⟨w.heap.size, 7, none⟩ = some (.slice B2 0 d2) from cell_of_row _ _ 7 _ _ _ nR)
 have U8 := zh (show R.cell? ⟨w.heap.size, 8, none⟩ = some (.slice B3 1 d3) from cell_of_row _ _ 8 _ _ _ nR)
 have U9 := zh (show R.cell? ⟨w.heap.size, 9, none⟩ = some (.slice B4 0 d4) from cell_of_row _ _ 9 _ _ _ nR)
 have U10 := zh (show R.cell? ⟨w.heap.size, 10, none⟩ = some (.slice B5 0 d5) from cell_of_row _ _ 10 _ _ _ nR)
 have HR := zh hR
 clear hR kR nR
 go_wp2_with fail
 rw [← HR.out]
 exact bodyPost_ret (v := .agg #[.int .i64 m.st, .int .i64 m.cd, .int .i64 m.tr, .int .i64 m.sp, .slice Be n de, .slice B0 1 d0, .slice B1 0 d1, .slice B2 0 d2, .slice B3 1 d3, .slice B4 0 d4, .slice B5 0 d5]) (by simp [results, Tryz.results14, go_sem, U0.out, U1.out, U2.out, U3.out, U4.out, U5.out, U6.out, U7.out, U8.out, U9.out, U10.out]) rfl ⟨⟨Be, B0, B1, B2, B3, B4, B5, de, d0, d1, d2, d3, d4, d5, rfl, EN.out.1, EN.out.2.1⟩, EN.out.2.2⟩
end Go.Proofs.YtjejmlpjifhmmaaGreatDoor.stp
namespace Go.Proofs.YtjejmlpjifhmmaaGreatDoor.stp
open Go.RowKit Go.MapKept Go.ChangeMaps Go.Shelf
open words kindp opp op kind prg sto find
set_option maxRecDepth 100000
set_option maxHeartbeats 8000000
set_option linter.all false
theorem rd_lt {w : World} {A : Option Addr} {x : Value} {xs : List Value} (h : Rd w A (x :: xs)) : ∀ a, A = some a → a.block < w.heap.size := by
 intro a ha
 rcases h with h0 | ⟨a', e, hb, -⟩
 ·cases h0
 ·rw [ha] at e; cases e; exact hb
theorem new_rn {w w' : World} {e : Ending} (h : NewP [.int .i64 7] 1 w e w') : ∃ (mb fb vb rb : Nat) (k : MeM) (m : MS) (f : FS), e = .returned (.pointer (some ⟨mb, 0, none⟩)) ∧ Rn mb fb vb rb w'.heap.size k m f ov0 0 [] w' ∧ m.tk = 0 ∧ m.st = 0 ∧ m.cd = 0 ∧ m.sp = 0 ∧ (∃ A c, m.sf = .slice A 0 c) ∧ f.pc = 0 ∧ w.heap.size ≤ mb ∧ Below w.heap.size w w' := by
 obtain ⟨mb, k3, d3, B3, m, X, he, hk3, hinp, hrd, hkd, hB3, hso, htk, hst, hcd, htr, hsp, hev, hsf, hmx, hwm, hbx, -, fb, vb, rb, g, g8, c, c2, c8, A2, A8, k, h1, h2, h3, h4, h5, h6, h7, h8, h9, h10, h11, h12, h13, h14, h15, h16, h17, h18⟩ := h
 have hk1 : k3 = 1 := by
  rw [if_neg (by decide)] at hk3; omega
 subst hk1
 refine ⟨mb, fb, vb, rb, k, _, _, he, ⟨h1, h2, h3, ⟨rfl, rfl, rfl, rfl, rfl, rfl⟩, h17, h16, h4, ⟨c, h12, rfl⟩, ⟨by omega, h14, h15, h5, Nat.le_refl _⟩, by rw [hev]; exact World.ownsRow_nil _ _ _ _, ⟨B3, d3, hinp, hkd, h18.rd hrd (fun a ha => by have := hB3 a ha; simp; omega), hB3⟩, ⟨A2, c2, rfl, h10, h6, fun a ha => ⟨h7 a ha, rd_lt h6 a ha⟩⟩, ⟨A8, c8, rfl, h11, h8, fun a ha => ⟨h9 a ha, rd_lt h8 a ha⟩⟩⟩, htk, hst, hcd, hsp, hsf, rfl, hwm, hbx.trans (h18.toBelow hbx.size (by simp; exact hwm))⟩
theorem new_at {xi : List Value} {ni : Nat} {w w' : World} {e : Ending} (h : NewP xi ni w e w') : ∃ (mb fb rb c : Nat) (m : MS) (f : FS), e = .returned (.pointer (some ⟨mb, 0, none⟩)) ∧ Mk mb m w' ∧ m.fr = .slice (some ⟨rb, 0, none⟩) 1 c ∧ w'.cell? ⟨rb, 0, none⟩ = some (.pointer (some ⟨fb, 0, none⟩)) ∧ Fk fb f w' ∧ f.cn = [65] ∧ f.s = [109] ∧ f.d = [40, 41, 73] ∧ f.pc = 0 ∧ Below w.heap.size w w' := by
 obtain ⟨mb, k3, d3, B3, m, X, he, hk3, hinp, hrd, hkd, hB3, hso, htk, hst, hcd, htr, hsp, hev, hsf, hmx, hwm, hbx, -, fb, vb, rb, g, g8, c, c2, c8, A2, A8, k, h1, h2, h3, h4, h5, h6, h7, h8, h9, h10, h11, h12, h13, h14, h15, h16, h17, h18⟩ := h
 exact ⟨mb, fb, rb, c, _, _, he, h1, rfl, h4, h2, rfl, rfl, rfl, rfl, hbx.trans (h18.toBelow hbx.size (by simp; exact hwm))⟩
def St (mb s : Nat) (vals : Obj) (n : Nat) (evs : List Value) (w : World) : Prop := ∃ (fb vb rb B : Nat) (k : MeM) (m : MS) (f : FS), Rn mb fb vb rb B k m f vals n evs w ∧ m.st = 0 ∧ m.sp = (s : Int) ∧ f.pc = (s : Int) ∧ (s = 0 → m.tk = 0) ∧ ∃ A c, m.sf = .slice A 0 c
def Fin (mb : Nat) (w : World) : Prop := ∃ (m : MS), Tl mb m 2 [.bool true, .int .i64 7, .bool false, .int .i64 7] w ∧ m.st = 1 ∧ m.cd = 2 ∧ m.sp = 4 ∧ (∃ A c, m.fr = .slice A 0 c) ∧ ∃ A c, m.sf = .slice A 0 c
theorem St.told {mb s n : Nat} {vals : Obj} {evs : List Value} {w : World} (h : St mb s vals n evs w) : ∃ m : MS, Tl mb m n evs w ∧ m.sp = (s : Int) := by
 obtain ⟨_, _, _, _, _, m, _, h, -, h2, -⟩ := h
 exact ⟨m, h.told, h2⟩
theorem St.below {mb s n : Nat} {vals : Obj} {evs : List Value} {w w' : World} (h : St mb s vals n evs w) (hb : Below w.heap.size w w') : St mb s vals n evs w' := by
 obtain ⟨fb, vb, rb, B, k, m, f, h, r⟩ := h
 exact ⟨fb, vb, rb, B, k, m, f, h.below hb, r⟩
theorem Fin.below {mb : Nat} {w w' : World} (h : Fin mb w) (hb : Below w.heap.size w w') : Fin mb w' := by
 obtain ⟨m, h, r⟩ := h
 exact ⟨m, h.below hb, r⟩
theorem St.lt {mb s n : Nat} {vals : Obj} {evs : List Value} {w : World} (h : St mb s vals n evs w) : mb < w.heap.size := by
 obtain ⟨_, _, _, _, _, m, _, h, -⟩ := h
 exact blk_lt h.mc
theorem Fin.lt {mb : Nat} {w : World} (h : Fin mb w) : mb < w.heap.size := by
 obtain ⟨m, h, -⟩ := h
 exact blk_lt h.mc
theorem code_p {k : MeM} (hk : pM k = pM (soM 0)) (p : Nat) (x : InM) (hx : [so1, so2, so3, so4][p]? = some x) : ∃ A c, k.co[p]? = some ⟨x.i, A, c⟩ := by
 have h1 : k.co.map pI = [so1, so2, so3, so4].map pI := congrArg MeP.co hk
 have h2 : (k.co.map pI)[p]? = some (pI x) := by rw [h1, List.getElem?_map, hx]; rfl
 rw [List.getElem?_map] at h2
 rcases hy : k.co[p]? with _ | ⟨i, A, c⟩
 ·rw [hy] at h2; cases h2
 ·rw [hy] at h2
  have e : i = x.i := by simpa [pI] using h2
  exact ⟨A, c, by rw [e]⟩
theorem kb_below {B mb vb fb : Nat} {w w' : World} (h : Kb B [mb, vb, fb] w w') (h1 : mb ≤ w.heap.size) (h2 : mb ≤ B) (h3 : mb ≤ vb) (h4 : mb ≤ fb) : Below mb w w' := h.toBelow h1 h2 (by intro k hk; simp at hk; omega)
theorem set_below {mb fb : Nat} {v w : World} (x : Value) (h : Below mb w v) (hf : mb ≤ fb) (hs : mb ≤ v.heap.size) : Below mb w (v.setCell ⟨fb, 4, none⟩ x) :=
 h.trans ((((Kp.refl [fb] v).set (by simp) x).toBelow hs (by simp; exact hf)))
theorem step1 {mb : Nat} {w : World} (h : St mb 0 ov0 0 [] w) : Calls Tryz.prog 12 #[.pointer (some ⟨mb, 0, none⟩)] w fun e w' => e = .returned (.bool true) ∧ St mb 1 (ov1 1 7) 1 [.bool true, .int .i64 7] w' ∧ Below mb w w' := by
 obtain ⟨fb, vb, rb, B, k, m, f, h, hst, hsp, hpc, htk, hsf⟩ := h
 obtain ⟨l1, l2, l3, l4, l5⟩ := h.lt
 obtain ⟨A, c, hi⟩ := code_p h.pk 0 so1 rfl
 refine step_w 0 (fun w' => St mb 1 (ov1 1 7) 1 [.bool true, .int .i64 7] w' ∧ Below mb w w') w h hst hsp (by omega) (fun v hbv hR => ?_)
 refine (go_w 0 26 0 A c (fun u => (∃ x, Rn mb fb vb rb B k { m with sp := ((0 : Nat) : Int) + 1, tk := 1, ev := x } f (ov1 1 7) 1 [.bool true, .int .i64 7] u) ∧ Below mb w u) v hR hpc (by omega) hi (by decide) (fun u hbu hRu => (do_in A c u hRu (htk rfl) (by omega) (.inl rfl)).mono ?_) (fun u hu => ?_)).mono ?_
 ·rintro e u' ⟨rfl, ⟨x, hx⟩, hk⟩
  exact ⟨rfl, ⟨x, hx⟩, hbv.trans ((hbu.mono (by have := hR.lt; omega)).trans (kb_below hk (by have := hRu.lt; omega) (by omega) (by omega) (by omega)))⟩
 ·obtain ⟨⟨x, hx⟩, -⟩ := hu
  exact hx.fk
 ·rintro e u ⟨rfl, v', ⟨⟨x, hx⟩, hb⟩, rfl⟩
  exact ⟨rfl, ⟨fb, vb, rb, B, k, _, _, hx.next 1, hst, rfl, rfl, (fun h => by cases h), hsf⟩, set_below _ hb (by omega) (by have := hx.lt; omega)⟩
theorem step2 {mb : Nat} {w : World} (h : St mb 1 (ov1 1 7) 1 [.bool true, .int .i64 7] w) : Calls Tryz.prog 12 #[.pointer (some ⟨mb, 0, none⟩)] w fun e w' => e = .returned (.bool true) ∧ St mb 2 (ov1 1 7) 2 [.bool true, .int .i64 7, .bool false, .int .i64 7] w' ∧ Below mb w w' := by
 obtain ⟨fb, vb, rb, B, k, m, f, h, hst, hsp, hpc, htk, hsf⟩ := h
 obtain ⟨l1, l2, l3, l4, l5⟩ := h.lt
 obtain ⟨A, c, hi⟩ := code_p h.pk 1 so2 rfl
 refine step_w 1 (fun w' => St mb 2 (ov1 1 7) 2 [.bool true, .int .i64 7, .bool false, .int .i64 7] w' ∧ Below mb w w') w h hst hsp (by omega) (fun v hbv hR => ?_)
 refine (go_w 1 27 0 A c (fun u => (∃ x, Rn mb fb vb rb B k { m with sp := ((1 : Nat) : Int) + 1, ev := x } f (ov1 1 7) 2 [.bool true, .int .i64 7, .bool false, .int .i64 7] u) ∧ Below mb w u) v hR hpc (by omega) hi (by decide) (fun u hbu hRu => (do_out A c 7 u hRu (by omega)).mono ?_) (fun u hu => ?_)).mono ?_
 ·rintro e u' ⟨rfl, ⟨x, hx⟩, hk⟩
  exact ⟨rfl, ⟨x, hx⟩, hbv.trans ((hbu.mono (by have := hR.lt; omega)).trans (kb_below hk (by have := hRu.lt; omega) (by omega) (by omega) (by omega)))⟩
 ·obtain ⟨⟨x, hx⟩, -⟩ := hu
  exact hx.fk
 ·rintro e u ⟨rfl, v', ⟨⟨x, hx⟩, hb⟩, rfl⟩
  exact ⟨rfl, ⟨fb, vb, rb, B, k, _, _, hx.next 2, hst, rfl, rfl, (fun h => by cases h), hsf⟩, set_below _ hb (by omega) (by have := hx.lt; omega)⟩
theorem step3 {mb : Nat} {w : World} (h : St mb 2 (ov1 1 7) 2 [.bool true, .int .i64 7, .bool false, .int .i64 7] w) : Calls Tryz.prog 12 #[.pointer (some ⟨mb, 0, none⟩)] w fun e w' => e = .returned (.bool true) ∧ St mb 3 (ov1 1 2) 2 [.bool true, .int .i64 7, .bool false, .int .i64 7] w' ∧ Below mb w w' := by
 obtain ⟨fb, vb, rb, B, k, m, f, h, hst, hsp, hpc, htk, hsf⟩ := h
 obtain ⟨l1, l2, l3, l4, l5⟩ := h.lt
 obtain ⟨A, c, hi⟩ := code_p h.pk 2 so3 rfl
 refine step_w 2 (fun w' => St mb 3 (ov1 1 2) 2 [.bool true, .int .i64 7, .bool false, .int .i64 7] w' ∧ Below mb w w') w h hst hsp (by omega) (fun v hbv hR => ?_)
 refine (go_w 2 2 2 A c (fun u => Rn mb fb vb rb B k { m with sp := ((2 : Nat) : Int) + 1 } f (ov1 1 2) 2 [.bool true, .int .i64 7, .bool false, .int .i64 7] u ∧ Below mb w u) v hR hpc (by omega) hi (by decide) (fun u hbu hRu => (do_const A c u hRu (.inr ⟨1, 7, rfl⟩)).mono ?_) (fun u hu => ?_)).mono ?_
 ·rintro e u' ⟨rfl, hx, hk⟩
  exact ⟨rfl, hx, hbv.trans ((hbu.mono (by have := hR.lt; omega)).trans (kb_below hk (by have := hRu.lt; omega) (by omega) (by omega) (by omega)))⟩
 ·exact hu.1.fk
 ·rintro e u ⟨rfl, v', ⟨hx, hb⟩, rfl⟩
  exact ⟨rfl, ⟨fb, vb, rb, B, k, _, _, hx.next 3, hst, rfl, rfl, (fun h => by cases h), hsf⟩, set_below _ hb (by omega) (by have := hx.lt; omega)⟩
theorem step4 {mb : Nat} {w : World} (h : St mb 3 (ov1 1 2) 2 [.bool true, .int .i64 7, .bool false, .int .i64 7] w) : Calls Tryz.prog 12 #[.pointer (some ⟨mb, 0, none⟩)] w fun e w' => e = .returned (.bool true) ∧ Fin mb w' ∧ Below mb w w' := by
 obtain ⟨fb, vb, rb, B, k, m, f, h, hst, hsp, hpc, htk, hsf⟩ := h
 obtain ⟨l1, l2, l3, l4, l5⟩ := h.lt
 obtain ⟨A, c, hi⟩ := code_p h.pk 3 so4 rfl
 refine step_w 3 (fun w' => Fin mb w' ∧ Below mb w w') w h hst hsp (by omega) (fun v hbv hR => ?_)
 refine (go_w 3 22 0 A c (fun u => ∃ (A : Option Addr) (c : Nat) (v : World), Mk mb { m with sp := ((3 : Nat) : Int) + 1, st := 1, cd := 2, fr := .slice A 0 c } u ∧ Rn mb fb vb rb B k { m with sp := ((3 : Nat) : Int) + 1 } f (ov1 1 2) 2 [.bool true, .int .i64 7, .bool false, .int .i64 7] v ∧ Kp [mb] v u ∧ Below mb w u) v hR hpc (by omega) hi (by decide) (fun u hbu hRu => (do_ret A c 2 u hRu).mono ?_) (fun u hu => ?_)).mono ?_
 ·rintro e u' ⟨rfl, ⟨A', c', hm⟩, hk⟩
  exact ⟨rfl, A', c', u, hm, hRu, hk, hbv.trans ((hbu.mono (by have := hR.lt; omega)).trans (hk.toBelow (by have := hRu.lt; omega) (by simp)))⟩
 ·obtain ⟨A', c', z, hm, hz, hk, -⟩ := hu
  exact hk.at_ hz.fk (by simp; omega)
 ·rintro e u ⟨rfl, v', ⟨A', c', z, hm, hz, hk, hb⟩, rfl⟩
  have hs := hz.lt
  have k2 : Kp [mb, fb] z (v'.setCell ⟨fb, 4, none⟩ (.int .i64 (((3 : Nat) : Int) + 1))) := (hk.more (fun j hj _ => by simp at hj; simp [hj])).set (by simp) _
  obtain ⟨A1, c1, e1, -, r1, b1⟩ := hz.er
  obtain ⟨A2, c2, e2, -, r2, b2⟩ := hz.br
  obtain ⟨A3, c3, e3, -, -, r3⟩ := own_rd hz.ev
  have hb3 : ∀ a, A3 = some a → B ≤ a.block := fun a ha => (hz.ev.lt a.block (by rw [e3, ha]; rfl)).1
  refine ⟨rfl, ⟨_, ⟨hm.kept ((Kp.refl [fb] v').set (by simp) _) (by simp; omega), ⟨A1, c1, e1, k2.rd r1 (fun a ha => by have := b1 a ha; simp; omega)⟩, ⟨A2, c2, e2, k2.rd r2 (fun a ha => by have := b2 a ha; simp; omega)⟩, ⟨A3, c3, e3, k2.rd r3 (fun a ha => by have := hb3 a ha; simp; omega)⟩⟩, rfl, rfl, rfl, ⟨A', c', rfl⟩, hsf⟩, set_below _ hb (by omega) (by have := hk.size; omega)⟩
end Go.Proofs.YtjejmlpjifhmmaaGreatDoor.stp
namespace Go.Proofs.YtjejmlpjifhmmaaGreatDoor.stp
open Go.RowKit Go.MapKept Go.ChangeMaps Go.Shelf
open words kindp opp op kind prg sto find
set_option maxRecDepth 100000
set_option maxHeartbeats 8000000
set_option linter.all false
theorem inF_w (mb : Nat) (m : MS) (A : Option Addr) (c : Nat) (v : Value) (w : World) (h : Mk mb m w) (hf : m.fr = .slice A 0 c) : Calls Tryz.prog 43 #[.pointer (some ⟨mb, 0, none⟩), v] w fun e w' => e = .returned (.tuple #[]) ∧ w' = w := by
 have h15 : w.cell? ⟨mb, 15, none⟩ = some (.slice A 0 c) := by rw [← hf]; exact cell_of_row _ _ 15 _ _ _ h
 clear h hf
 go_enter Tryz.func43, Tryz.ntmps43
 go_wp2
 refine wp_loop_rounds 1 ?_
 rw [rounds_succ]
 go_wp2
 refine bodyPost_end (results_none rfl _ _ _) rfl ?_
 exact ⟨rfl, rfl⟩
theorem inS_w (mb : Nat) (m : MS) (A : Option Addr) (c : Nat) (v : Value) (w : World) (h : Mk mb m w) (hf : m.sf = .slice A 0 c) : Calls Tryz.prog 44 #[.pointer (some ⟨mb, 0, none⟩), v] w fun e w' => e = .returned (.tuple #[]) ∧ w' = w := by
 have h13 : w.cell? ⟨mb, 13, none⟩ = some (.slice A 0 c) := by rw [← hf]; exact cell_of_row _ _ 13 _ _ _ h
 clear h hf
 go_enter Tryz.func44, Tryz.ntmps44
 go_wp2
 refine wp_loop_rounds 1 ?_
 rw [rounds_succ]
 go_wp2
 refine bodyPost_end (results_none rfl _ _ _) rfl ?_
 exact ⟨rfl, rfl⟩
theorem inO_w (mb : Nat) (m : MS) (v : Value) (w : World) (h : Mk mb m w) : Calls Tryz.prog 45 #[.pointer (some ⟨mb, 0, none⟩), v] w fun e w' => e = .returned (.tuple #[]) ∧ w' = w := by
 have h11 : w.cell? ⟨mb, 11, none⟩ = some (.slice none 0 0) := cell_of_row _ _ 11 _ _ _ h
 clear h
 go_enter Tryz.func45, Tryz.ntmps45
 go_wp2
 refine wp_loop_rounds 1 ?_
 rw [rounds_succ]
 go_wp2
 refine bodyPost_end (results_none rfl _ _ _) rfl ?_
 exact ⟨rfl, rfl⟩
theorem held_w (mb : Nat) (w : World) (h : Fin mb w) : Calls Tryz.prog 16 #[.pointer (some ⟨mb, 0, none⟩)] w fun e w' => e = .returned (.slice none 0 0) ∧ Below w.heap.size w w' := by
 obtain ⟨m, ht, -, -, -, ⟨A1, c1, hfr⟩, ⟨A2, c2, hsf⟩⟩ := h
 have HB := zh (show ∀ o1 o2 o3 : Obj, Below w.heap.size w (((w.alloc o1).alloc o2).alloc o3) from fun o1 o2 o3 => (((Below.refl _ _).alloc (Nat.le_refl _) _).alloc (by simp) _).alloc (by simp; omega) _)
 have HM := zh ht.mc; have HFR := zh hfr; have HSF := zh hsf
 have H1 := zh (fun (o1 o2 o3 : Obj) (v : Value) => inF_w mb m A1 c1 v (((w.alloc o1).alloc o2).alloc o3) (HM.out.below (HB.out o1 o2 o3)) hfr)
 have H2 := zh (fun (o1 o2 o3 : Obj) (v : Value) => inS_w mb m A2 c2 v (((w.alloc o1).alloc o2).alloc o3) (HM.out.below (HB.out o1 o2 o3)) hsf)
 have H3 := zh (fun (o1 o2 o3 : Obj) (v : Value) => inO_w mb m v (((w.alloc o1).alloc o2).alloc o3) (HM.out.below (HB.out o1 o2 o3)))
 clear ht hfr hsf
 have hmf : ∀ (fn : Fn) (first cap : Array Value) (w : World), (Instr.makeFunc fn first cap).run Tryz.prog w = .ok (.func fn first cap) w := fun _ _ _ _ => rfl
 go_enter Tryz.func16, Tryz.ntmps16
 go_wp2_with fail
 refine (H1.out _ _ _ _).mono ?_
 rintro e v ⟨rfl, hv⟩
 rw [hv]
 clear hv v
 go_wp2_with fail
 refine (H2.out _ _ _ _).mono ?_
 rintro e v ⟨rfl, hv⟩
 rw [hv]
 clear hv v
 go_wp2_with fail
 refine (H3.out _ _ _ _).mono ?_
 rintro e v ⟨rfl, hv⟩
 rw [hv]
 clear hv v
 go_wp2
 refine wp_loop_rounds 1 ?_
 rw [rounds_succ]
 go_wp2
 go_ret
 exact ⟨rfl, HB.out _ _ _⟩
theorem at_w (mb fb rb c : Nat) (m : MS) (f : FS) (w : World) (h : Mk mb m w) (hf : m.fr = .slice (some ⟨rb, 0, none⟩) 1 c) (hr : w.cell? ⟨rb, 0, none⟩ = some (.pointer (some ⟨fb, 0, none⟩))) (hk : Fk fb f w) (h1 : f.cn = [65]) (h2 : f.s = [109]) (h3 : f.d = [40, 41, 73]) (h4 : f.pc = 0) :
 Calls Tryz.prog 11 #[.pointer (some ⟨mb, 0, none⟩)] w fun e w' => e = .returned (.tuple #[.agg #[.string ⟨#[65]⟩, .string ⟨#[109]⟩, .string ⟨#[40, 41, 73]⟩], .int .i64 0]) ∧ Below w.heap.size w w' := by
 obtain ⟨W, hW⟩ : ∃ W, W = w.alloc (.cells #[.string ⟨#[]⟩, .string ⟨#[]⟩, .string ⟨#[]⟩] 34) := ⟨_, rfl⟩
 have hal : Below w.heap.size w W := by rw [hW]; exact (Below.refl _ _).alloc (Nat.le_refl _) _
 have hM := h.below hal
 have hRB := (World.cell?_of_block (w := w) (a := ⟨rb, 0, none⟩) (hal.block _ (World.block_lt_of_cell? _ _ hr))).trans hr
 have hF : Fk fb f W := (hal.block _ (blk_lt hk)).trans hk
 have HD := zh (deep_w mb m _ 1 c W hM hf)
 have HLA := zh (last_w mb rb fb m c W hM hf hRB)
 have HBX := zh (show W.heap[w.heap.size]? = some (.cells #[.string ⟨#[]⟩, .string ⟨#[]⟩, .string ⟨#[]⟩] 34 (0, 0)) from by rw [hW]; exact heap_alloc_new _ _)
 have HC := zh (show ∀ v : World, Fk fb f v → (fun w' : World => w'.cell? ⟨fb, 0, none⟩ = some (.string ⟨#[65]⟩) ∧ w'.cell? ⟨fb, 1, none⟩ = some (.string ⟨#[109]⟩) ∧ w'.cell? ⟨fb, 2, none⟩ = some (.string ⟨#[40, 41, 73]⟩) ∧ w'.cell? ⟨fb, 4, none⟩ = some (.int .i64 0)) v from fun v hv => by
  have a0 : v.cell? ⟨fb, 0, none⟩ = some (.string ⟨f.cn.toArray⟩) := cell_of_row _ _ 0 _ _ _ hv
  have a1 : v.cell? ⟨fb, 1, none⟩ = some (.string ⟨f.s.toArray⟩) := cell_of_row _ _ 1 _ _ _ hv
  have a2 : v.cell? ⟨fb, 2, none⟩ = some (.string ⟨f.d.toArray⟩) := cell_of_row _ _ 2 _ _ _ hv
  have a4 : v.cell? ⟨fb, 4, none⟩ = some (.int .i64 f.pc) := cell_of_row _ _ 4 _ _ _ hv
  rw [h1] at a0; rw [h2] at a1; rw [h3] at a2; rw [h4] at a4
  exact ⟨a0, a1, a2, a4⟩)
 have HF := zh hF; have HAL := zh hal; have HW := zh hW; have HLT := zh (blk_lt hk)
 clear hal hM hRB hF hW h hf hr hk h1 h2 h3 h4
 go_enter Tryz.func11, Tryz.ntmps11
 go_wp2_with fail
 rw [← HW.out]
 (try go_wp2_with fail)
 refine HD.out.mono ?_
 rintro e v ⟨rfl, hv⟩
 rw [hv]
 clear hv
 go_wp2_with fail
 refine HLA.out.mono ?_
 rintro e v ⟨rfl, q, hv⟩
 have VF := zh (show Fk fb f v from by rw [hv]; exact HF.out)
 have VB := zh (show v.heap[w.heap.size]? = some (.cells #[.string ⟨#[]⟩, .string ⟨#[]⟩, .string ⟨#[]⟩] 34 (0, 0)) from by rw [hv]; exact HBX.out)
 have VA := zh (show Below w.heap.size w v from by rw [hv]; exact over HAL.out)
 clear hv
 have hS0 := HC.out _ VF.out
 try dsimp only at hS0
 go_wp2_with fail
 clear hS0
 refine wp_region_held_drew (S := fun w' : World => w'.cell? ⟨fb, 0, none⟩ = some (.string ⟨#[65]⟩) ∧ w'.cell? ⟨fb, 1, none⟩ = some (.string ⟨#[109]⟩) ∧ w'.cell? ⟨fb, 2, none⟩ = some (.string ⟨#[40, 41, 73]⟩) ∧ w'.cell? ⟨fb, 4, none⟩ = some (.int .i64 0)) (by kernel_rfl) ?_ (fun hHeld => ?_)
 ·exact HC.out _ VF.out
 obtain ⟨D, hD⟩ : ∃ u, u = v.drew := ⟨_, rfl⟩
 have DF := zh (show Fk fb f D from by rw [hD]; exact VF.out)
 have DB := zh (show D.heap[w.heap.size]? = some (.cells #[.string ⟨#[]⟩, .string ⟨#[]⟩, .string ⟨#[]⟩] 34 (0, 0)) from by rw [hD]; exact VB.out)
 have DA := zh (show Below w.heap.size w D from by rw [hD]; exact overW VA.out)
 have hS := HC.out _ DF.out
 try dsimp only at hS
 rw [← hD]
 clear hD hHeld
 refine tkp 0 rfl ?_
 refine tkp 1 rfl ?_
 refine tkp 2 rfl ?_
 refine tkp 3 rfl ?_
 refine tkp 4 rfl ?_
 refine tkp 5 rfl ?_
 refine tkp 6 rfl ?_
 refine tkp 7 rfl ?_
 clear hS
 have x0 := heap_setCell_same _ _ 0 _ _ (.string ⟨#[65]⟩) DB.out
 have x1 := heap_setCell_same _ _ 1 _ _ (.string ⟨#[109]⟩) x0
 have x2 := heap_setCell_same _ _ 2 _ _ (.string ⟨#[40, 41, 73]⟩) x1
 have y0 : D.cell? ⟨w.heap.size, 0, none⟩ = some (.string ⟨#[]⟩) := cell_of_row _ _ 0 _ _ _ DB.out
 have y1 : D.cell? ⟨w.heap.size, 1, none⟩ = some (.string ⟨#[]⟩) := cell_of_row _ _ 1 _ _ _ DB.out
 have y2 : D.cell? ⟨w.heap.size, 2, none⟩ = some (.string ⟨#[]⟩) := cell_of_row _ _ 2 _ _ _ DB.out
 have g0 := frozen_of_row _ _ 0 _ _ DB.out
 have g1 := frozen_of_row _ _ 1 _ _ DB.out
 have g2 := frozen_of_row _ _ 2 _ _ DB.out
 obtain ⟨Z, hZ⟩ : ∃ Z, Z = ((D.setCell ⟨w.heap.size, 0, none⟩ (.string ⟨#[65]⟩)).setCell ⟨w.heap.size, 1, none⟩ (.string ⟨#[109]⟩)).setCell ⟨w.heap.size, 2, none⟩ (.string ⟨#[40, 41, 73]⟩) := ⟨_, rfl⟩
 have kZ : Kp [w.heap.size] D Z := by rw [hZ]; exact (((Kp.refl _ _).set (by simp) _).set (by simp) _).set (by simp) _
 have nZ : Z.heap[w.heap.size]? = some (.cells #[.string ⟨#[65]⟩, .string ⟨#[109]⟩, .string ⟨#[40, 41, 73]⟩] 34 (0, 0)) := by rw [hZ, x2]; rfl
 have ZF := zh (DF.out.kept kZ (by have := HLT.out; simp; omega))
 have ZA := zh (show Below w.heap.size w Z from DA.out.trans (kZ.toBelow DA.out.size (by simp)))
 have U0 := zh (show Z.cell? ⟨w.heap.size, 0, none⟩ = some (.string ⟨#[65]⟩) from cell_of_row _ _ 0 _ _ _ nZ)
 have U1 := zh (show Z.cell? ⟨w.heap.size, 1, none⟩ = some (.string ⟨#[109]⟩) from cell_of_row _ _ 1 _ _ _ nZ)
 have U2 := zh (show Z.cell? ⟨w.heap.size, 2, none⟩ = some (.string ⟨#[40, 41, 73]⟩) from cell_of_row _ _ 2 _ _ _ nZ)
 have HZ := zh hZ
 clear x0 x1 x2 hZ kZ nZ
 refine rdy 8 rfl (fun K hK => ?_)
 go_simp
 rw [← HZ.out]
 refine hK.out _ _ (HC.out _ ZF.out) (fun hHeld => ?_)
 clear hK K
 try simp only [puts]
 clear hHeld y0 y1 y2 g0 g1 g2
 have hS := HC.out _ ZF.out
 try dsimp only at hS
 refine tkp 9 rfl ?_
 refine wpAnyH_done (by kernel_rfl) ?_ _
 clear hS
 go_wp2
 exact bodyPost_ret (v := .tuple #[.agg #[.string ⟨#[65]⟩, .string ⟨#[109]⟩, .string ⟨#[40, 41, 73]⟩], .int .i64 0]) (by simp [results, Tryz.results11, go_sem, U0.out, U1.out, U2.out]) rfl ⟨rfl, ZA.out⟩
end Go.Proofs.YtjejmlpjifhmmaaGreatDoor.stp

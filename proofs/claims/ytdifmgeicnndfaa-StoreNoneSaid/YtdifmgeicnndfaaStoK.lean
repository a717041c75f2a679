/- StoK -/
import Derived.Test.YtdifmgeicnndfaaHier
namespace Go.Proofs.Ytdifmgeicnndfaa.sto
open Go.RowKit Go.MapKept Go.ChangeMaps
open words kindp kind prg
set_option maxRecDepth 100000
set_option maxHeartbeats 8000000
set_option linter.all false
def lvF : FiM := ⟨[102], 2, [], false⟩
def lvC (f : Nat) : ClM := ⟨[65], [], false, false, [], none, 0, [lvF], some ⟨f, 0, none⟩, 1, [], none, 0⟩
def lvX (f c : Nat) : PrM := ⟨[lvC f], some ⟨c, 0, none⟩, 1, [], none, 0, [], [], []⟩
theorem lvX_gr (f c : Nat) : GrP (lvX f c) := by
 refine ⟨⟨by simp [lvX], by simp [lvX]⟩, fun y hy => ?_⟩
 simp only [lvX, List.mem_cons, List.not_mem_nil, or_false] at hy
 subst hy
 exact ⟨⟨by simp [lvC], by simp [lvC], by simp [lvC], by simp [lvC], by simp [lvC]⟩, fun m hm => by simp [lvC] at hm⟩
theorem lvX_ok {w : World} {f c : Nat} (hf : w.heap[f]? = some (.cells (fiC lvF).toArray 92 (0, 0))) (hc : w.heap[c]? = some (.cells (clC (lvC f)).toArray 43 (0, 0))) : PrOk w (lvX f c) := by
 refine ⟨⟨by simp [lvX], rd_blk hc (k := 7) rfl⟩, ⟨Nat.zero_le _, Rd.nil _ _⟩, fun y hy => ?_⟩
 simp only [lvX, List.mem_cons, List.not_mem_nil, or_false] at hy
 subst hy
 exact ⟨⟨Nat.zero_le _, Rd.nil _ _⟩, ⟨Nat.le_refl _, rd_blk hf (k := 4) rfl⟩, ⟨Nat.zero_le _, Rd.nil _ _⟩, fun y hy => by cases hy⟩
theorem lv_sup (f : Nat) : supersL [lvC f] [65] = [[65]] := by
 unfold supersL
 kernel_rfl
theorem lv_idx {f : Nat} {r : Int} (h : Idx (fun y : ClM => y.nm == [65]) [lvC f] r) : r = 0 := by
 rcases idx_two h with ⟨-, -, h⟩ | ⟨k, x, rfl, -, -, h, -⟩
 ·simp [lvC] at h
 ·have : [lvC f].findIdx? (fun y : ClM => y.nm == [65]) = some 0 := by simp [lvC]
  rw [this] at h
  injection h with h
  omega
theorem kept_cell {mb : Nat} {v wr : World} {es : Array MapEntry} {cl : Nat} (hm : v.heap[mb]? = some (.map es cl)) (hk : Kept mb none v wr) {p : Addr} {u : Value} (h : v.cell? p = some u) : wr.cell? p = some u := by
 have hb := World.block_lt_of_cell? _ _ h
 have hne : p.block ≠ mb := fun e => by rw [← e] at hm; simp [World.cell?, hm] at h
 exact (World.cell?_of_block (hk.block _ hb hne (by simp))).trans h
theorem zeros_w (f c : Nat) (w : World) (hf : w.heap[f]? = some (.cells (fiC lvF).toArray 92 (0, 0))) (hc : w.heap[c]? = some (.cells (clC (lvC f)).toArray 43 (0, 0))) :
  Calls Try.prog 62 #[.agg (prC (lvX f c)).toArray, .string ⟨#[65]⟩] w fun e w' => ∃ mb, e = .returned (.map (some mb)) ∧ w.heap.size ≤ mb ∧ w'.heap[mb]? = some (mp1 0) ∧ Below w.heap.size w w' := by
 have hmm := @run_makeMap Try.prog
 obtain ⟨V, hV⟩ : ∃ V, V = w.alloc (.cells (prC (lvX f c)).toArray 27) := ⟨_, rfl⟩
 obtain ⟨W, hW⟩ : ∃ W, W = V.alloc mp0 := ⟨_, rfl⟩
 have halV : Below w.heap.size w V := by rw [hV]; exact (Below.refl _ w).alloc (Nat.le_refl _) _
 have halW : Below V.heap.size V W := by rw [hW]; exact (Below.refl _ V).alloc (Nat.le_refl _) _
 have hal := then' halV halW
 obtain ⟨mb, hmb⟩ : ∃ mb, mb = w.heap.size + 1 := ⟨_, rfl⟩
 have hVs : V.heap.size = w.heap.size + 1 := by rw [hV]; simp
 have hm : W.heap[mb]? = some mp0 := by rw [hW, hmb, ← hVs]; exact heap_alloc_new V _
 have hblk : W.heap[w.heap.size]? = some (.cells (prC (lvX f c)).toArray 27 (0, 0)) := (halW.block _ (by omega)).trans (by rw [hV]; exact heap_alloc_new w _)
 have hmw : w.heap.size ≤ mb := by omega
 have HOK := lvX_ok hf hc
 have hsu := supers_w (lvX f c) [65] W (HOK.below hal) (lvX_gr f c)
 have hpl := fun v (hv : v.heap[c]? = some (.cells (clC (lvC f)).toArray 43 (0, 0))) => place_cl (lvX f c) [65] v (rd_blk hv (k := 7) rfl) (by simp [lvX])
 have hf2 := (hal.block _ (blk_lt hf)).trans hf
 have hc2 := (hal.block _ (blk_lt hc)).trans hc
 unfold prC at hV hsu hpl ⊢
 dsimp only [lvX, List.length_cons, List.length_nil, Nat.zero_add, List.cons_append, List.nil_append] at hV hsu hpl ⊢
 unfold mp0 at hW
 have HX := zh (show ∀ v : World, v.heap[w.heap.size]? = some (.cells (prC (lvX f c)).toArray 27 (0, 0)) → v.cell? ⟨w.heap.size, 0, none⟩ = some (.slice (some ⟨c, 0, none⟩) 1 1) ∧ v.cell? ⟨w.heap.size, 1, none⟩ = some (.slice none 0 0) ∧ v.cell? ⟨w.heap.size, 2, none⟩ = some (.string ⟨#[]⟩) ∧ v.cell? ⟨w.heap.size, 3, none⟩ = some (.string ⟨#[]⟩) ∧ v.cell? ⟨w.heap.size, 4, none⟩ = some (.string ⟨#[]⟩) from fun v hv => pr_cells hv)
 have HV := zh hV; have HW := zh hW; have HM := zh hm; have HMB := zh hmb; have HAL := zh hal; have HBK := zh hblk; have HMW := zh hmw
 have HF := zh hf2; have HC := zh hc2; have HSU := zh hsu; have HPL := zh hpl
 clear hV hW hm hmb hal halV halW hblk hf hc hf2 hc2 hmw HOK hsu hpl hVs
 go_enter Try.func62, Try.ntmps62
 go_wp2_with fail
 rw [← HV.out, ← HW.out, ← HMB.out]
 refine HSU.out.mono ?_
 rintro e v1 ⟨⟨A, c1, rfl, hc1, hrd⟩, hb⟩
 rw [lv_sup] at hc1 hrd ⊢
 rw [show ([[65]] : List Tx).length = 1 from rfl] at hc1 ⊢
 obtain ⟨a, rfl, hab, ha0⟩ := hrd.at_ (j := 0) (u := .string ⟨#[65]⟩) rfl
 have K1 := zh hb
 have hm1 := (hb.block _ (blk_lt HM.out)).trans HM.out
 have hb1 := (hb.block _ (blk_lt HBK.out)).trans HBK.out
 have hf1 := (hb.block _ (blk_lt HF.out)).trans HF.out
 have hcl1 := (hb.block _ (blk_lt HC.out)).trans HC.out
 have M1 := zh hm1; have B1 := zh hb1; have F1 := zh hf1; have C1 := zh hcl1; have A0 := zh ha0
 have HMW1 := zh (show w.heap.size ≠ mb from by have := HMB.out; omega)
 clear hb hm1 hb1 hf1 hcl1 ha0 hrd hc1 hab
 go_wp2_with fail
 go_loopw [18] (fun iv wr => ∃ i : Nat, i ≤ 1 ∧ iv = .int .i64 (i : Int) ∧ wr.heap[mb]? = some (if i = 0 then mp0 else mp1 0) ∧ Kept mb none v1 wr) (fun iv _ => 1 - (intOf iv).toNat)
 case atStart => exact ⟨0, by omega, rfl, M1.out, Kept.refl _ _ _⟩
 case round =>
  obtain ⟨i, hi, rfl, hmi, hk⟩ := hrel
  rcases (show i = 0 ∨ i = 1 by omega) with rfl | rfl
  ·rw [if_pos rfl] at hmi
   have hc0 := kept_cell M1.out hk A0.out
   have hc0' : wr.cell? a = some (.string ⟨#[65]⟩) := hc0
   have HKI := zh hk; have HMI := zh hmi
   clear hk hmi hi
   go_wp2_with fail
   obtain ⟨wb, hwb⟩ : ∃ u, u = wr := ⟨_, rfl⟩
   subst hwb
   have kb : ∀ q o, v1.heap[q]? = some o → (∀ es cl, o ≠ Obj.map es cl) → wb.heap[q]? = some o := fun q o h hn => (HKI.out.block q (blk_lt h) (fun e => by rw [e, M1.out] at h; injection h with h; exact hn _ _ h.symm) (by simp)).trans h
   have hbb := kb _ _ B1.out (by intro es cl e; cases e)
   have hfb := kb _ _ F1.out (by intro es cl e; cases e)
   have hcb := kb _ _ C1.out (by intro es cl e; cases e)
   have BB := zh hbb; have FB := zh hfb; have CB := zh hcb
   have HS5 := zh (show ∀ v : World, Below wb.heap.size wb v → (fun w' : World => (w'.cell? ⟨w.heap.size, 0, none⟩ = some (.slice (some ⟨c, 0, none⟩) 1 1) ∧ w'.cell? ⟨w.heap.size, 1, none⟩ = some (.slice none 0 0) ∧ w'.cell? ⟨w.heap.size, 2, none⟩ = some (.string ⟨#[]⟩) ∧ w'.cell? ⟨w.heap.size, 3, none⟩ = some (.string ⟨#[]⟩) ∧ w'.cell? ⟨w.heap.size, 4, none⟩ = some (.string ⟨#[]⟩)) ∧ w'.cell? ⟨c, 5, none⟩ = some (.slice (some ⟨f, 0, none⟩) 1 1)) v from fun v hv => ⟨HX.out v ((hv.block _ (blk_lt BB.out)).trans BB.out), cell_of_row _ _ 5 _ _ _ ((hv.block _ (blk_lt CB.out)).trans CB.out)⟩)
   clear kb hbb hfb hcb hc0 hc0'
   refine wp_region_held_drew (S := fun w' : World => (w'.cell? ⟨w.heap.size, 0, none⟩ = some (.slice (some ⟨c, 0, none⟩) 1 1) ∧ w'.cell? ⟨w.heap.size, 1, none⟩ = some (.slice none 0 0) ∧ w'.cell? ⟨w.heap.size, 2, none⟩ = some (.string ⟨#[]⟩) ∧ w'.cell? ⟨w.heap.size, 3, none⟩ = some (.string ⟨#[]⟩) ∧ w'.cell? ⟨w.heap.size, 4, none⟩ = some (.string ⟨#[]⟩)) ∧ w'.cell? ⟨c, 5, none⟩ = some (.slice (some ⟨f, 0, none⟩) 1 1)) (by kernel_rfl) ?_ (fun hHeld => ?_)
   ·exact HS5.out _ (overW (Below.refl _ _))
   obtain ⟨r0, hr0⟩ : ∃ r, r = wb.drew := ⟨_, rfl⟩
   have R0 := zh (show Below wb.heap.size wb r0 from by rw [hr0]; exact overW (Below.refl _ _))
   rw [← hr0]
   clear hr0
   have hS0 := HS5.out _ R0.out
   refine tkp 0 rfl ?_
   refine tkp 1 rfl ?_
   refine tkp 2 rfl ?_
   refine tkp 3 rfl ?_
   refine tkp 9 rfl ?_
   clear hS0
   refine rdy 4 rfl (fun K hK => ?_)
   go_simp
   refine (HPL.out r0 ((R0.out.block _ (blk_lt CB.out)).trans CB.out)).mono ?_
   rintro e r1 ⟨r, rfl, hix, hb⟩
   obtain rfl := lv_idx hix
   have R1 := zh (then' R0.out hb)
   clear hix hb
   go_wp2_with fail
   refine hK.out _ _ (HS5.out _ R1.out) (fun hHeld => ?_)
   clear hK K
   try simp only [puts]
   have hS1 := HS5.out _ R1.out
   refine tkp 5 rfl ?_
   refine tkp 6 rfl ?_
   refine tkp 7 rfl ?_
   refine tkp 8 rfl ?_
   clear hS1
   refine wpAnyH_done (by kernel_rfl) ?_ _
   have MR := zh ((R1.out.block _ (blk_lt HMI.out)).trans HMI.out)
   have KR := zh (HKI.out.trans (Nxt.refl _ _) (Kept.below R1.out))
   have FR := zh ((R1.out.block _ (blk_lt FB.out)).trans FB.out)
   clear R0 R1 HS5 BB FB CB HMI HKI
   go_wp2_with fail
   go_loopw [31] (fun iv wr => ∃ k : Nat, k ≤ 1 ∧ iv = .int .i64 (k : Int) ∧ wr.heap[mb]? = some (if k = 0 then mp0 else mp1 0) ∧ Kept mb none v1 wr ∧ wr.heap[f]? = some (.cells (fiC lvF).toArray 92 (0, 0))) (fun iv _ => 1 - (intOf iv).toNat)
   case atStart => exact ⟨0, by omega, rfl, MR.out, KR.out, FR.out⟩
   case round =>
    obtain ⟨k, hk1, rfl, hmk, hkk, hfk⟩ := hrel
    rcases (show k = 0 ∨ k = 1 by omega) with rfl | rfl
    ·rw [if_pos rfl] at hmk
     obtain ⟨wa, hwa⟩ : ∃ u, u = wr := ⟨_, rfl⟩
     subst hwa
     obtain ⟨f0, f1, f2, f3⟩ := fi_cells hfk
     dsimp only [lvF] at f0 f1 f2 f3
     obtain ⟨Y, hY⟩ : ∃ Y, Y = (((wa.alloc (.cells #[.string ⟨#[102]⟩, .int .i64 2, .string ⟨#[]⟩, .bool false] 92)).alloc (.cells #[.string ⟨#[65]⟩, .string ⟨#[102]⟩] 67)).alloc (.cells #[.int .i64 0, .int .i64 0] 70)) := ⟨_, rfl⟩
     have l1 : Below wa.heap.size wa (wa.alloc (.cells #[.string ⟨#[102]⟩, .int .i64 2, .string ⟨#[]⟩, .bool false] 92)) := (Below.refl _ _).alloc (Nat.le_refl _) _
     have l2 : Below wa.heap.size wa ((wa.alloc (.cells #[.string ⟨#[102]⟩, .int .i64 2, .string ⟨#[]⟩, .bool false] 92)).alloc (.cells #[.string ⟨#[65]⟩, .string ⟨#[102]⟩] 67)) := l1.alloc (by simp) _
     have l3 : Below wa.heap.size wa Y := by rw [hY]; exact l2.alloc (by simp; omega) _
     have hm2 := (l2.block _ (blk_lt hmk)).trans hmk
     have hlk := look_none hm2
     unfold kA at hlk
     have hm3 := (l3.block _ (blk_lt hmk)).trans hmk
     have hf3 := (l3.block _ (blk_lt hfk)).trans hfk
     have b12 : Below (wa.alloc (.cells #[.string ⟨#[102]⟩, .int .i64 2, .string ⟨#[]⟩, .bool false] 92)).heap.size (wa.alloc (.cells #[.string ⟨#[102]⟩, .int .i64 2, .string ⟨#[]⟩, .bool false] 92)) Y := by rw [hY]; exact ((Below.refl _ _).alloc (Nat.le_refl _) _).alloc (by simp) _
     have b23 : Below ((wa.alloc (.cells #[.string ⟨#[102]⟩, .int .i64 2, .string ⟨#[]⟩, .bool false] 92)).alloc (.cells #[.string ⟨#[65]⟩, .string ⟨#[102]⟩] 67)).heap.size ((wa.alloc (.cells #[.string ⟨#[102]⟩, .int .i64 2, .string ⟨#[]⟩, .bool false] 92)).alloc (.cells #[.string ⟨#[65]⟩, .string ⟨#[102]⟩] 67)) Y := by rw [hY]; exact (Below.refl _ _).alloc (Nat.le_refl _) _
     have y9 : Y.heap[wa.heap.size]? = some (.cells #[.string ⟨#[102]⟩, .int .i64 2, .string ⟨#[]⟩, .bool false] 92 (0, 0)) := (b12.block _ (by simp)).trans (heap_alloc_new wa _)
     have y10 : Y.heap[wa.heap.size + 1]? = some (.cells #[.string ⟨#[65]⟩, .string ⟨#[102]⟩] 67 (0, 0)) := (b23.block _ (by simp)).trans (by simpa using heap_alloc_new (wa.alloc (.cells #[.string ⟨#[102]⟩, .int .i64 2, .string ⟨#[]⟩, .bool false] 92)) (.cells #[.string ⟨#[65]⟩, .string ⟨#[102]⟩] 67))
     have HS11 := zh (show ∀ v : World, Below Y.heap.size Y v → (fun w' : World => (w'.cell? ⟨wa.heap.size, 0, none⟩ = some (.string ⟨#[102]⟩) ∧ w'.cell? ⟨wa.heap.size, 1, none⟩ = some (.int .i64 2) ∧ w'.cell? ⟨wa.heap.size, 2, none⟩ = some (.string ⟨#[]⟩) ∧ w'.cell? ⟨wa.heap.size, 3, none⟩ = some (.bool false)) ∧ (w'.cell? ⟨wa.heap.size + 1, 0, none⟩ = some (.string ⟨#[65]⟩) ∧ w'.cell? ⟨wa.heap.size + 1, 1, none⟩ = some (.string ⟨#[102]⟩))) v from fun v hv => by
      have g9 := (hv.block _ (blk_lt y9)).trans y9
      have g10 := (hv.block _ (blk_lt y10)).trans y10
      exact ⟨⟨cell_of_row _ _ 0 _ _ _ g9, cell_of_row _ _ 1 _ _ _ g9, cell_of_row _ _ 2 _ _ _ g9, cell_of_row _ _ 3 _ _ _ g9⟩, cell_of_row _ _ 0 _ _ _ g10, cell_of_row _ _ 1 _ _ _ g10⟩)
     have KY := zh (hkk.trans (Nxt.refl _ _) (Kept.below l3))
     have MY := zh hm3; have FY := zh hf3; have HY := zh hY
     have HFM := zh (show f ≠ mb from fun e => by rw [← e, hfk] at hmk; cases hmk)
     clear l1 l2 l3 b12 b23 hm2 hm3 hf3 y9 y10 hY hkk hfk hmk hk1
     go_wp2_with fail
     rw [← HY.out]
     refine wp_region_held_drew (S := fun w' : World => (w'.cell? ⟨wa.heap.size, 0, none⟩ = some (.string ⟨#[102]⟩) ∧ w'.cell? ⟨wa.heap.size, 1, none⟩ = some (.int .i64 2) ∧ w'.cell? ⟨wa.heap.size, 2, none⟩ = some (.string ⟨#[]⟩) ∧ w'.cell? ⟨wa.heap.size, 3, none⟩ = some (.bool false)) ∧ (w'.cell? ⟨wa.heap.size + 1, 0, none⟩ = some (.string ⟨#[65]⟩) ∧ w'.cell? ⟨wa.heap.size + 1, 1, none⟩ = some (.string ⟨#[102]⟩))) (by kernel_rfl) ?_ (fun hHeld => ?_)
     ·exact HS11.out _ (overW (Below.refl _ _))
     obtain ⟨r0, hr0⟩ : ∃ r, r = Y.drew := ⟨_, rfl⟩
     have R0 := zh (show Below Y.heap.size Y r0 from by rw [hr0]; exact overW (Below.refl _ _))
     rw [← hr0]
     clear hr0
     have hS0 := HS11.out _ R0.out
     refine tkp 0 rfl ?_
     refine tkp 1 rfl ?_
     refine tkp 2 rfl ?_
     refine tkp 3 rfl ?_
     clear hS0
     refine rdy 4 rfl (fun K hK => ?_)
     go_simp
     refine (show Calls Try.prog 33 #[.agg #[.int .i64 2, .string ⟨#[]⟩]] r0 (fun e w' => e = .returned (.agg #[.int .i64 1, .int .i64 0]) ∧ Below r0.heap.size r0 w') from zero_w 2 [] r0).mono ?_
     rintro e r1 ⟨rfl, hb⟩
     have R1 := zh (then' R0.out hb)
     clear hb
     go_wp2_with fail
     refine hK.out _ _ (HS11.out _ R1.out) (fun hHeld => ?_)
     clear hK K
     try simp only [puts]
     have hmr := (R1.out.block _ (blk_lt MY.out)).trans MY.out
     have hfr := (R1.out.block _ (blk_lt FY.out)).trans FY.out
     have hpu := put_none (x := 0) hmr
     unfold kA vA at hpu
     obtain ⟨Z, hZ⟩ : ∃ Z, Z = setBlock r1 mb (mp1 0) := ⟨_, rfl⟩
     rw [← hZ] at hpu
     have MZ := zh (show Z.heap[mb]? = some (mp1 0) from by rw [hZ]; exact set_at (blk_lt hmr))
     have FZ := zh (show Z.heap[f]? = some (.cells (fiC lvF).toArray 92 (0, 0)) from by rw [hZ, set_off HFM.out]; exact hfr)
     have KZ := zh (show Kept mb none v1 Z from KY.out.trans (Nxt.refl _ _) ((Kept.below R1.out).trans (Nxt.refl _ _) ⟨by rw [hZ]; rfl, by rw [hZ]; rfl, by rw [hZ]; rfl, by rw [hZ, set_size]; exact Nat.le_refl _, fun q _ hq _ => by rw [hZ]; exact set_off hq⟩))
     have SZ := HS11.out _ R1.out
     have hnb : ∀ q, q ≠ mb → Z.heap[q]? = r1.heap[q]? := fun q hq => by rw [hZ]; exact set_off hq
     have S2 := HS11.out r1 R1.out
     have HNB := zh hnb
     have HSZ := zh (show (fun w' : World => (w'.cell? ⟨wa.heap.size, 0, none⟩ = some (.string ⟨#[102]⟩) ∧ w'.cell? ⟨wa.heap.size, 1, none⟩ = some (.int .i64 2) ∧ w'.cell? ⟨wa.heap.size, 2, none⟩ = some (.string ⟨#[]⟩) ∧ w'.cell? ⟨wa.heap.size, 3, none⟩ = some (.bool false)) ∧ (w'.cell? ⟨wa.heap.size + 1, 0, none⟩ = some (.string ⟨#[65]⟩) ∧ w'.cell? ⟨wa.heap.size + 1, 1, none⟩ = some (.string ⟨#[102]⟩))) Z from by
      have h1 : ∀ (p : Addr) u, r1.cell? p = some u → Z.cell? p = some u := fun p u hp => (World.cell?_of_block (HNB.out _ (fun e => by rw [← e] at hmr; simp [World.cell?, hmr, mp0] at hp))).trans hp
      obtain ⟨⟨g0, g1, g2, g3⟩, g4, g5⟩ := S2
      exact ⟨⟨h1 _ _ g0, h1 _ _ g1, h1 _ _ g2, h1 _ _ g3⟩, h1 _ _ g4, h1 _ _ g5⟩)
     clear SZ S2 hnb hZ hmr hfr
     refine rdy 5 rfl (fun K hK => ?_)
     go_simp
     refine hK.out _ _ HSZ.out (fun hHeld => ?_)
     clear hK K hpu
     try simp only [puts]
     refine wpAnyH_done (by kernel_rfl) ?_ _
     go_wp2
     go_roundw
     case rel => exact ⟨1, by omega, rfl, MZ.out, KZ.out, FZ.out⟩
     case measure => simp [intOf]
    ·rw [if_neg (by omega)] at hmk
     have HKK := zh hkk; have HMK := zh hmk
     clear hkk hmk hfk hk1
     go_wp2
     go_roundw
     case rel => exact ⟨1, by omega, rfl, HMK.out, HKK.out⟩
     case measure => simp [intOf]
  ·rw [if_neg (by omega)] at hmi
   have HKI := zh hk; have HMI := zh hmi
   clear hk hmi hi
   go_wp2
   go_ret
   have h1 : Below w.heap.size w v1 := HAL.out.trans (K1.out.mono HAL.out.size)
   exact ⟨mb, rfl, HMW.out, HMI.out, h1.trans (HKI.out.toBelow HMW.out h1.size (by intro g e; cases e))⟩
end Go.Proofs.Ytdifmgeicnndfaa.sto
namespace Go.Proofs.Ytdifmgeicnndfaa.sto
open Go.RowKit Go.MapKept Go.ChangeMaps
open words kindp kind prg
set_option maxRecDepth 100000
set_option maxHeartbeats 4000000
set_option linter.all false
def loO (mb : Nat) : ObM := ⟨[65], some mb, false, none, 0, 0⟩
def Lv (sb mb g : Nat) (x : Int) (w : World) : Prop := ∃ rb, StoM sb [loO mb, arO g 2] rb w ∧ w.heap[mb]? = some (mp1 x) ∧ w.heap[g]? = some (.cells (rep vo 2).toArray 70 (0, 0))
theorem Lv.below {sb mb g : Nat} {x : Int} {w w' : World} (h : Lv sb mb g x w) (hb : Below w.heap.size w w') : Lv sb mb g x w' := by
 obtain ⟨rb, h1, h2, h3⟩ := h
 exact ⟨rb, h1.below hb, (hb.block _ (blk_lt h2)).trans h2, (hb.block _ (blk_lt h3)).trans h3⟩
theorem at_one {sb mb g : Nat} {x : Int} {w : World} (h : Lv sb mb g x w) :
  Calls Try.prog 63 #[.pointer (some ⟨sb, 0, none⟩), .int .i64 1] w fun e w' => e = .returned (.tuple #[.agg #[.string ⟨#[65]⟩, .map (some mb), .bool false, .slice none 0 0], .int .i64 0]) ∧ Below w.heap.size w w' := by
 obtain ⟨rb, h1, -, -⟩ := h
 exact at_ok sb [loO mb, arO g 2] rb 0 (loO mb) rfl (by simp) 1 rfl w h1
theorem at_two {sb mb g : Nat} {x : Int} {w : World} (h : Lv sb mb g x w) :
  Calls Try.prog 63 #[.pointer (some ⟨sb, 0, none⟩), .int .i64 2] w fun e w' => e = .returned (.tuple #[.agg #[.string ⟨#[91, 73]⟩, .map none, .bool true, .slice (some ⟨g, 0, none⟩) 2 2], .int .i64 0]) ∧ Below w.heap.size w w' := by
 obtain ⟨rb, h1, -, -⟩ := h
 exact at_ok sb [loO mb, arO g 2] rb 1 (arO g 2) rfl (by simp) 2 rfl w h1
theorem at_none (sb : Nat) (w : World) :
  Calls Try.prog 63 #[.pointer (some ⟨sb, 0, none⟩), .int .i64 0] w fun e w' => e = .returned (.tuple #[.agg #[.string ⟨#[]⟩, .map none, .bool false, .slice none 0 0], .int .i64 2]) ∧ Below w.heap.size w w' := at_zero sb w
theorem at_nilp (n : Int) (w : World) :
  Calls Try.prog 63 #[.pointer none, .int .i64 n] w fun e w' => e = .returned (.tuple #[.agg #[.string ⟨#[]⟩, .map none, .bool false, .slice none 0 0], .int .i64 9]) ∧ Below w.heap.size w w' := at_nil n w
theorem class_two {sb mb g : Nat} {x : Int} {w : World} (h : Lv sb mb g x w) :
  Calls Try.prog 30 #[.pointer (some ⟨sb, 0, none⟩), .int .i64 2] w fun e w' => e = .returned (.string ⟨#[91, 73]⟩) ∧ Below w.heap.size w w' := by
 have HA := zh (at_two h)
 clear h
 go_enter Try.func30, Try.ntmps30
 go_wp2_with fail
 refine HA.out.mono ?_
 rintro e v ⟨rfl, hb⟩
 have HB := zh hb
 clear hb HA
 go_wp2
 go_ret
 exact ⟨rfl, HB.out.alloc HB.out.size _⟩
theorem class_nil (n : Int) (w : World) :
  Calls Try.prog 30 #[.pointer none, .int .i64 n] w fun e w' => e = .returned (.string ⟨#[]⟩) ∧ Below w.heap.size w w' := by
 have HA := zh (at_nilp n w)
 go_enter Try.func30, Try.ntmps30
 go_wp2_with fail
 refine HA.out.mono ?_
 rintro e v ⟨rfl, hb⟩
 have HB := zh hb
 clear hb HA
 go_wp2
 go_ret
 exact ⟨rfl, HB.out.alloc HB.out.size _⟩
theorem len_nil (w : World) : Calls Try.prog 23 #[.pointer none] w fun e w' => e = .returned (.int .i64 0) ∧ Below w.heap.size w w' := by
 go_enter Try.func23, Try.ntmps23
 go_wp2
 go_ret
 exact ⟨rfl, Below.refl _ _⟩
theorem len_w {sb : Nat} {os : List ObM} {rb : Option Nat} {w : World} (h : StoM sb os rb w) : Calls Try.prog 23 #[.pointer (some ⟨sb, 0, none⟩)] w fun e w' => e = .returned (.int .i64 (os.length : Int)) ∧ Below w.heap.size w w' := by
 obtain ⟨v, hv, -, hown⟩ := h
 obtain ⟨A, c, rfl, -, -, -⟩ := own_rd hown
 have c0 : w.cell? ⟨sb, 0, none⟩ = some (.slice A os.length c) := cell_of_row _ _ 0 _ _ _ hv
 clear hown hv
 go_enter Try.func23, Try.ntmps23
 go_wp2
 go_ret
 exact ⟨rfl, Below.refl _ _⟩
theorem array_two {sb mb g : Nat} {x : Int} {w : World} (h : Lv sb mb g x w) :
  Calls Try.prog 64 #[.pointer (some ⟨sb, 0, none⟩), .int .i64 2] w fun e w' => e = .returned (.tuple #[.slice (some ⟨g, 0, none⟩) 2 2, .int .i64 0]) ∧ Below w.heap.size w w' := by
 have HA := zh (at_two h)
 clear h
 go_enter Try.func64, Try.ntmps64
 go_wp2_with fail
 refine HA.out.mono ?_
 rintro e v ⟨rfl, hb⟩
 have HB := zh hb
 clear hb HA
 go_wp2
 exact bodyPost_ret (v := .tuple #[.slice (some ⟨g, 0, none⟩) 2 2, .int .i64 0]) (by simp [results, Try.results64, go_sem]) rfl ⟨rfl, HB.out.alloc HB.out.size _⟩
theorem array_nil (n : Int) (w : World) :
  Calls Try.prog 64 #[.pointer none, .int .i64 n] w fun e w' => e = .returned (.tuple #[.slice none 0 0, .int .i64 9]) ∧ Below w.heap.size w w' := by
 have HA := zh (at_nilp n w)
 go_enter Try.func64, Try.ntmps64
 go_wp2_with fail
 refine HA.out.mono ?_
 rintro e v ⟨rfl, hb⟩
 have HB := zh hb
 clear hb HA
 go_wp2
 exact bodyPost_ret (v := .tuple #[.slice none 0 0, .int .i64 9]) (by simp [results, Try.results64, go_sem]) rfl ⟨rfl, HB.out.alloc HB.out.size _⟩
theorem size_nil (n : Int) (w : World) :
  Calls Try.prog 26 #[.pointer none, .int .i64 n] w fun e w' => e = .returned (.tuple #[.int .i64 0, .int .i64 9]) ∧ Below w.heap.size w w' := by
 have HA := zh (array_nil n w)
 go_enter Try.func26, Try.ntmps26
 go_wp2_with fail
 refine HA.out.mono ?_
 rintro e v ⟨rfl, hb⟩
 have HB := zh hb
 clear hb HA
 go_wp2
 exact bodyPost_ret (v := .tuple #[.int .i64 0, .int .i64 9]) (by simp [results, Try.results26, go_sem]) rfl ⟨rfl, HB.out⟩
theorem load_two {sb mb g : Nat} {x : Int} {w : World} (h : Lv sb mb g x w) :
  Calls Try.prog 27 #[.pointer (some ⟨sb, 0, none⟩), .int .i64 2, .int .i64 2] w fun e w' => e = .returned (.tuple #[.agg #[.int .i64 0, .int .i64 0], .int .i64 3]) ∧ Below w.heap.size w w' := by
 obtain ⟨W, hW⟩ : ∃ W, W = w.alloc (.cells #[.int .i64 0, .int .i64 0] 70) := ⟨_, rfl⟩
 have hal : Below w.heap.size w W := by rw [hW]; exact (Below.refl _ w).alloc (Nat.le_refl _) _
 have hblk : W.heap[w.heap.size]? = some (.cells #[.int .i64 0, .int .i64 0] 70 (0, 0)) := by rw [hW]; exact heap_alloc_new w _
 have HA := zh (array_two (h.below hal))
 have HW := zh hW; have HAL := zh hal; have HBK := zh hblk
 clear h hW hal hblk
 go_enter Try.func27, Try.ntmps27
 go_wp2_with fail
 rw [← HW.out]
 refine HA.out.mono ?_
 rintro e v ⟨rfl, hb⟩
 have h2 := (hb.block _ (blk_lt HBK.out)).trans HBK.out
 have d0 : v.cell? ⟨w.heap.size, 0, none⟩ = some (.int .i64 0) := cell_of_row _ _ 0 _ _ _ h2
 have d1 : v.cell? ⟨w.heap.size, 1, none⟩ = some (.int .i64 0) := cell_of_row _ _ 1 _ _ _ h2
 have g0 := frozen_of_row _ _ 0 _ _ h2; have g1 := frozen_of_row _ _ 1 _ _ h2
 have HB := zh (then' HAL.out hb)
 clear hb HA h2
 go_wp2
 exact bodyPost_ret (v := .tuple #[.agg #[.int .i64 0, .int .i64 0], .int .i64 3]) (by simp [results, Try.results27, go_sem, d0, d1]) rfl ⟨rfl, by repeat (first | exact HB.out | refine Below.setCell ?_ (by simp; try omega) _)⟩
theorem load_nil (n i : Int) (w : World) :
  Calls Try.prog 27 #[.pointer none, .int .i64 n, .int .i64 i] w fun e w' => e = .returned (.tuple #[.agg #[.int .i64 0, .int .i64 0], .int .i64 9]) ∧ Below w.heap.size w w' := by
 obtain ⟨W, hW⟩ : ∃ W, W = w.alloc (.cells #[.int .i64 0, .int .i64 0] 70) := ⟨_, rfl⟩
 have hal : Below w.heap.size w W := by rw [hW]; exact (Below.refl _ w).alloc (Nat.le_refl _) _
 have hblk : W.heap[w.heap.size]? = some (.cells #[.int .i64 0, .int .i64 0] 70 (0, 0)) := by rw [hW]; exact heap_alloc_new w _
 have HA := zh (array_nil n W)
 have HW := zh hW; have HAL := zh hal; have HBK := zh hblk
 clear hW hal hblk
 go_enter Try.func27, Try.ntmps27
 go_wp2_with fail
 rw [← HW.out]
 refine HA.out.mono ?_
 rintro e v ⟨rfl, hb⟩
 have h2 := (hb.block _ (blk_lt HBK.out)).trans HBK.out
 have d0 : v.cell? ⟨w.heap.size, 0, none⟩ = some (.int .i64 0) := cell_of_row _ _ 0 _ _ _ h2
 have d1 : v.cell? ⟨w.heap.size, 1, none⟩ = some (.int .i64 0) := cell_of_row _ _ 1 _ _ _ h2
 have g0 := frozen_of_row _ _ 0 _ _ h2; have g1 := frozen_of_row _ _ 1 _ _ h2
 have HB := zh (then' HAL.out hb)
 clear hb HA h2
 go_wp2
 exact bodyPost_ret (v := .tuple #[.agg #[.int .i64 0, .int .i64 0], .int .i64 9]) (by simp [results, Try.results27, go_sem, d0, d1]) rfl ⟨rfl, by repeat (first | exact HB.out | refine Below.setCell ?_ (by simp; try omega) _)⟩
end Go.Proofs.Ytdifmgeicnndfaa.sto
namespace Go.Proofs.Ytdifmgeicnndfaa.sto
open Go.RowKit Go.MapKept Go.ChangeMaps
open words kindp kind prg
set_option maxRecDepth 100000
set_option maxHeartbeats 8000000
set_option linter.all false
theorem get_one {sb mb g : Nat} {x : Int} {w : World} (h : Lv sb mb g x w) :
  Calls Try.prog 25 #[.pointer (some ⟨sb, 0, none⟩), .int .i64 1, .agg #[.string ⟨#[65]⟩, .string ⟨#[102]⟩]] w fun e w' => e = .returned (.tuple #[.agg #[.int .i64 1, .int .i64 x], .int .i64 0]) ∧ Below w.heap.size w w' := by
 obtain ⟨W, hW⟩ : ∃ W, W = (w.alloc (.cells #[.string ⟨#[65]⟩, .string ⟨#[102]⟩] 67)).alloc (.cells #[.int .i64 0, .int .i64 0] 70) := ⟨_, rfl⟩
 have hal : Below w.heap.size w W := by rw [hW]; exact ((Below.refl _ w).alloc (Nat.le_refl _) _).alloc (by simp) _
 have bf : W.heap[w.heap.size]? = some (.cells #[.string ⟨#[65]⟩, .string ⟨#[102]⟩] 67 (0, 0)) := by rw [hW]; exact (Below.heap_alloc _ _ _ (by simp)).trans (heap_alloc_new w _)
 have br : W.heap[w.heap.size + 1]? = some (.cells #[.int .i64 0, .int .i64 0] 70 (0, 0)) := by rw [hW]; simpa using heap_alloc_new (w.alloc (.cells #[.string ⟨#[65]⟩, .string ⟨#[102]⟩] 67)) (.cells #[.int .i64 0, .int .i64 0] 70)
 have HA := zh (at_one (h.below hal))
 have HW := zh hW; have HAL := zh hal; have HBF := zh bf; have HBR := zh br
 have HLV := zh (h.below hal)
 clear h hW hal bf br
 go_enter Try.func25, Try.ntmps25
 go_wp2_with fail
 rw [← HW.out]
 refine HA.out.mono ?_
 rintro e v ⟨rfl, hb⟩
 have h1 := (hb.block _ (blk_lt HBF.out)).trans HBF.out
 have h2 := (hb.block _ (blk_lt HBR.out)).trans HBR.out
 have HB := zh (then' HAL.out hb)
 obtain ⟨X, hX⟩ : ∃ X, X = v.alloc (.cells #[.string ⟨#[65]⟩, .map (some mb), .bool false, .slice none 0 0] 130) := ⟨_, rfl⟩
 have hx : Below v.heap.size v X := by rw [hX]; exact (Below.refl _ v).alloc (Nat.le_refl _) _
 have x1 := (hx.block _ (blk_lt h1)).trans h1
 have x2 := (hx.block _ (blk_lt h2)).trans h2
 have f0 : X.cell? ⟨w.heap.size, 0, none⟩ = some (.string ⟨#[65]⟩) := cell_of_row _ _ 0 _ _ _ x1
 have f1 : X.cell? ⟨w.heap.size, 1, none⟩ = some (.string ⟨#[102]⟩) := cell_of_row _ _ 1 _ _ _ x1
 have d0 : X.cell? ⟨w.heap.size + 1, 0, none⟩ = some (.int .i64 0) := cell_of_row _ _ 0 _ _ _ x2
 have d1 : X.cell? ⟨w.heap.size + 1, 1, none⟩ = some (.int .i64 0) := cell_of_row _ _ 1 _ _ _ x2
 have g0 := frozen_of_row _ _ 0 _ _ x2; have g1 := frozen_of_row _ _ 1 _ _ x2
 have HBX := zh ((HB.out.trans (hx.mono HB.out.size)))
 have hlv := (HLV.out.below hb).below hx
 have hlk : (Instr.lookup 128 (.map (some mb)) (.agg #[.string ⟨#[65]⟩, .string ⟨#[102]⟩]) true).run Try.prog X = .ok (.tuple #[.agg #[.int .i64 1, .int .i64 x], .bool true]) X := by obtain ⟨rb, -, hm, -⟩ := hlv; exact look_one hm
 obtain ⟨Y, hY⟩ : ∃ Y, Y = X.alloc (.cells #[.int .i64 1, .int .i64 x] 70) := ⟨_, rfl⟩
 have hy : Below X.heap.size X Y := by rw [hY]; exact (Below.refl _ X).alloc (Nat.le_refl _) _
 have y2 := (hy.block _ (blk_lt x2)).trans x2
 have y0 : Y.cell? ⟨w.heap.size + 1, 0, none⟩ = some (.int .i64 0) := cell_of_row _ _ 0 _ _ _ y2
 have y1 : Y.cell? ⟨w.heap.size + 1, 1, none⟩ = some (.int .i64 0) := cell_of_row _ _ 1 _ _ _ y2
 have e0 := frozen_of_row _ _ 0 _ _ y2; have e1 := frozen_of_row _ _ 1 _ _ y2
 have HBY := zh (HBX.out.trans (hy.mono HBX.out.size))
 have HX := zh hX; have HY := zh hY
 rw [hX] at hlk f0 f1
 rw [hY, hX] at y0 y1 e0 e1
 clear hb HA HLV h1 h2 hx x1 x2 hlv hX hy y2 hY
 go_wp2_with fail
 rw [← HX.out, ← HY.out] at y0 y1 ⊢
 exact bodyPost_ret (v := .tuple #[.agg #[.int .i64 1, .int .i64 x], .int .i64 0]) (by simp [results, Try.results25, go_sem, y0, y1]) rfl ⟨rfl, by repeat (first | exact HBY.out | refine Below.setCell ?_ (by simp; try omega) _)⟩
theorem get_zero (sb : Nat) (w : World) :
  Calls Try.prog 25 #[.pointer (some ⟨sb, 0, none⟩), .int .i64 0, .agg #[.string ⟨#[65]⟩, .string ⟨#[102]⟩]] w fun e w' => e = .returned (.tuple #[.agg #[.int .i64 0, .int .i64 0], .int .i64 2]) ∧ Below w.heap.size w w' := by
 obtain ⟨W, hW⟩ : ∃ W, W = (w.alloc (.cells #[.string ⟨#[65]⟩, .string ⟨#[102]⟩] 67)).alloc (.cells #[.int .i64 0, .int .i64 0] 70) := ⟨_, rfl⟩
 have hal : Below w.heap.size w W := by rw [hW]; exact ((Below.refl _ w).alloc (Nat.le_refl _) _).alloc (by simp) _
 have bf : W.heap[w.heap.size]? = some (.cells #[.string ⟨#[65]⟩, .string ⟨#[102]⟩] 67 (0, 0)) := by rw [hW]; exact (Below.heap_alloc _ _ _ (by simp)).trans (heap_alloc_new w _)
 have br : W.heap[w.heap.size + 1]? = some (.cells #[.int .i64 0, .int .i64 0] 70 (0, 0)) := by rw [hW]; simpa using heap_alloc_new (w.alloc (.cells #[.string ⟨#[65]⟩, .string ⟨#[102]⟩] 67)) (.cells #[.int .i64 0, .int .i64 0] 70)
 have HA := zh (at_none sb W)
 have HW := zh hW; have HAL := zh hal; have HBF := zh bf; have HBR := zh br
 clear hW hal bf br
 go_enter Try.func25, Try.ntmps25
 go_wp2_with fail
 rw [← HW.out]
 refine HA.out.mono ?_
 rintro e v ⟨rfl, hb⟩
 have h1 := (hb.block _ (blk_lt HBF.out)).trans HBF.out
 have h2 := (hb.block _ (blk_lt HBR.out)).trans HBR.out
 have HB := zh (then' HAL.out hb)
 obtain ⟨X, hX⟩ : ∃ X, X = v.alloc (.cells #[.string ⟨#[]⟩, .map none, .bool false, .slice none 0 0] 130) := ⟨_, rfl⟩
 have hx : Below v.heap.size v X := by rw [hX]; exact (Below.refl _ v).alloc (Nat.le_refl _) _
 have x1 := (hx.block _ (blk_lt h1)).trans h1
 have x2 := (hx.block _ (blk_lt h2)).trans h2
 have f0 : X.cell? ⟨w.heap.size, 0, none⟩ = some (.string ⟨#[65]⟩) := cell_of_row _ _ 0 _ _ _ x1
 have f1 : X.cell? ⟨w.heap.size, 1, none⟩ = some (.string ⟨#[102]⟩) := cell_of_row _ _ 1 _ _ _ x1
 have d0 : X.cell? ⟨w.heap.size + 1, 0, none⟩ = some (.int .i64 0) := cell_of_row _ _ 0 _ _ _ x2
 have d1 : X.cell? ⟨w.heap.size + 1, 1, none⟩ = some (.int .i64 0) := cell_of_row _ _ 1 _ _ _ x2
 have g0 := frozen_of_row _ _ 0 _ _ x2; have g1 := frozen_of_row _ _ 1 _ _ x2
 have HBX := zh ((HB.out.trans (hx.mono HB.out.size)))
 have HX := zh hX
 clear hb HA h1 h2 hx x1 x2
 rw [hX] at d0 d1 g0 g1
 go_wp2_with fail
 rw [← HX.out] at d0 d1 ⊢
 exact bodyPost_ret (v := .tuple #[.agg #[.int .i64 0, .int .i64 0], .int .i64 2]) (by simp [results, Try.results25, go_sem, d0, d1]) rfl ⟨rfl, by repeat (first | exact HBX.out | refine Below.setCell ?_ (by simp; try omega) _)⟩
theorem get_nil (n : Int) (c f : Tx) (w : World) :
  Calls Try.prog 25 #[.pointer none, .int .i64 n, .agg #[.string ⟨c.toArray⟩, .string ⟨f.toArray⟩]] w fun e w' => e = .returned (.tuple #[.agg #[.int .i64 0, .int .i64 0], .int .i64 9]) ∧ Below w.heap.size w w' := by
 obtain ⟨W, hW⟩ : ∃ W, W = (w.alloc (.cells #[.string ⟨c.toArray⟩, .string ⟨f.toArray⟩] 67)).alloc (.cells #[.int .i64 0, .int .i64 0] 70) := ⟨_, rfl⟩
 have hal : Below w.heap.size w W := by rw [hW]; exact ((Below.refl _ w).alloc (Nat.le_refl _) _).alloc (by simp) _
 have bf : W.heap[w.heap.size]? = some (.cells #[.string ⟨c.toArray⟩, .string ⟨f.toArray⟩] 67 (0, 0)) := by rw [hW]; exact (Below.heap_alloc _ _ _ (by simp)).trans (heap_alloc_new w _)
 have br : W.heap[w.heap.size + 1]? = some (.cells #[.int .i64 0, .int .i64 0] 70 (0, 0)) := by rw [hW]; simpa using heap_alloc_new (w.alloc (.cells #[.string ⟨c.toArray⟩, .string ⟨f.toArray⟩] 67)) (.cells #[.int .i64 0, .int .i64 0] 70)
 have HA := zh (at_nilp n W)
 have HW := zh hW; have HAL := zh hal; have HBF := zh bf; have HBR := zh br
 clear hW hal bf br
 go_enter Try.func25, Try.ntmps25
 go_wp2_with fail
 rw [← HW.out]
 refine HA.out.mono ?_
 rintro e v ⟨rfl, hb⟩
 have h1 := (hb.block _ (blk_lt HBF.out)).trans HBF.out
 have h2 := (hb.block _ (blk_lt HBR.out)).trans HBR.out
 have HB := zh (then' HAL.out hb)
 obtain ⟨X, hX⟩ : ∃ X, X = v.alloc (.cells #[.string ⟨#[]⟩, .map none, .bool false, .slice none 0 0] 130) := ⟨_, rfl⟩
 have hx : Below v.heap.size v X := by rw [hX]; exact (Below.refl _ v).alloc (Nat.le_refl _) _
 have x1 := (hx.block _ (blk_lt h1)).trans h1
 have x2 := (hx.block _ (blk_lt h2)).trans h2
 have f0 : X.cell? ⟨w.heap.size, 0, none⟩ = some (.string ⟨c.toArray⟩) := cell_of_row _ _ 0 _ _ _ x1
 have f1 : X.cell? ⟨w.heap.size, 1, none⟩ = some (.string ⟨f.toArray⟩) := cell_of_row _ _ 1 _ _ _ x1
 have d0 : X.cell? ⟨w.heap.size + 1, 0, none⟩ = some (.int .i64 0) := cell_of_row _ _ 0 _ _ _ x2
 have d1 : X.cell? ⟨w.heap.size + 1, 1, none⟩ = some (.int .i64 0) := cell_of_row _ _ 1 _ _ _ x2
 have g0 := frozen_of_row _ _ 0 _ _ x2; have g1 := frozen_of_row _ _ 1 _ _ x2
 have HBX := zh ((HB.out.trans (hx.mono HB.out.size)))
 have HX := zh hX
 clear hb HA h1 h2 hx x1 x2
 rw [hX] at d0 d1 g0 g1
 go_wp2_with fail
 rw [← HX.out] at d0 d1 ⊢
 exact bodyPost_ret (v := .tuple #[.agg #[.int .i64 0, .int .i64 0], .int .i64 9]) (by simp [results, Try.results25, go_sem, d0, d1]) rfl ⟨rfl, by repeat (first | exact HBX.out | refine Below.setCell ?_ (by simp; try omega) _)⟩
end Go.Proofs.Ytdifmgeicnndfaa.sto
namespace Go.Proofs.Ytdifmgeicnndfaa.sto
open Go.RowKit Go.MapKept Go.ChangeMaps
open words kindp kind prg
set_option maxRecDepth 100000
set_option maxHeartbeats 8000000
set_option linter.all false
theorem fits_w (x y : Int) (w : World) :
  Calls Try.prog 65 #[.agg #[.int .i64 1, .int .i64 x], .agg #[.int .i64 1, .int .i64 y]] w fun e w' => e = .returned (.bool true) ∧ Below w.heap.size w w' := by
 go_enter Try.func65, Try.ntmps65
 go_wp2
 go_ret
 exact ⟨rfl, by repeat (first | exact Below.refl _ _ | refine Below.alloc ?_ (by simp; try omega) _)⟩
theorem StoM.mapped {sb mb : Nat} {os : List ObM} {rb : Option Nat} {w w' : World} {es : Array MapEntry} {cl : Nat} (h : StoM sb os rb w) (hm : w.heap[mb]? = some (.map es cl)) (hg : w.grownBy w' (some mb)) : StoM sb os rb w' := by
 obtain ⟨v, h1, h2, h3⟩ := h
 refine ⟨v, (hg.block _ (blk_lt h1) (fun e => by injection e with e; rw [← e, h1] at hm; cases hm)).trans h1, h2, h3.kept hg ?_⟩
 rcases h3.2 with ⟨rfl, _⟩ | ⟨q, cap, cur, rfl, _, hgb, _⟩
 ·exact .inl rfl
 ·refine .inr fun e' => ?_
  have : q = mb := by simpa [Value.ownBlock] using e'
  rw [this, hm] at hgb; cases hgb
theorem put_w {sb mb g : Nat} {x : Int} (y : Int) {w : World} (h : Lv sb mb g x w) :
  Calls Try.prog 28 #[.pointer (some ⟨sb, 0, none⟩), .int .i64 1, .agg #[.string ⟨#[65]⟩, .string ⟨#[102]⟩], .agg #[.int .i64 1, .int .i64 y]] w fun e w' => e = .returned (.int .i64 0) ∧ Lv sb mb g y w' ∧ Kept mb none w w' := by
 obtain ⟨W, hW⟩ : ∃ W, W = (w.alloc (.cells #[.string ⟨#[65]⟩, .string ⟨#[102]⟩] 67)).alloc (.cells #[.int .i64 1, .int .i64 y] 70) := ⟨_, rfl⟩
 have hal : Below w.heap.size w W := by rw [hW]; exact ((Below.refl _ w).alloc (Nat.le_refl _) _).alloc (by simp) _
 have bf : W.heap[w.heap.size]? = some (.cells #[.string ⟨#[65]⟩, .string ⟨#[102]⟩] 67 (0, 0)) := by rw [hW]; exact (Below.heap_alloc _ _ _ (by simp)).trans (heap_alloc_new w _)
 have br : W.heap[w.heap.size + 1]? = some (.cells #[.int .i64 1, .int .i64 y] 70 (0, 0)) := by rw [hW]; simpa using heap_alloc_new (w.alloc (.cells #[.string ⟨#[65]⟩, .string ⟨#[102]⟩] 67)) (.cells #[.int .i64 1, .int .i64 y] 70)
 have HA := zh (get_one (h.below hal))
 have HLV := zh (h.below hal)
 have HW := zh hW; have HAL := zh hal; have HBF := zh bf; have HBR := zh br
 obtain ⟨x0, x1⟩ : W.cell? ⟨w.heap.size, 0, none⟩ = some (.string ⟨#[65]⟩) ∧ W.cell? ⟨w.heap.size, 1, none⟩ = some (.string ⟨#[102]⟩) := ⟨cell_of_row _ _ 0 _ _ _ bf, cell_of_row _ _ 1 _ _ _ bf⟩
 rw [hW] at x0 x1
 clear h hW hal bf br
 go_enter Try.func28, Try.ntmps28
 go_wp2_with fail
 rw [← HW.out]
 (try go_wp2_with fail)
 refine HA.out.mono ?_
 rintro e v ⟨rfl, hb⟩
 obtain ⟨X, hX⟩ : ∃ X, X = v.alloc (.cells #[.int .i64 1, .int .i64 x] 70) := ⟨_, rfl⟩
 have hx : Below v.heap.size v X := by rw [hX]; exact (Below.refl _ v).alloc (Nat.le_refl _) _
 have hWX : Below W.heap.size W X := then' hb hx
 have b3 := (hWX.block _ (blk_lt HBR.out)).trans HBR.out
 have q0 : X.cell? ⟨w.heap.size + 1, 0, none⟩ = some (.int .i64 1) := cell_of_row _ _ 0 _ _ _ b3
 have q1 : X.cell? ⟨w.heap.size + 1, 1, none⟩ = some (.int .i64 y) := cell_of_row _ _ 1 _ _ _ b3
 rw [hX] at q0 q1
 have HX := zh hX; have HWX := zh hWX
 clear hX hb hx hWX b3 HA x0 x1
 go_wp2_with fail
 rw [← HX.out]
 refine (fits_w y x X).mono ?_
 rintro e u ⟨rfl, hb⟩
 have hWu := then' HWX.out hb
 have hlv := HLV.out.below hWu
 obtain ⟨rb, hst, hmp, hgg⟩ := hlv
 have hst0 := hst
 obtain ⟨vv, hv1, hv2, hv3⟩ := hst
 obtain ⟨A, c, rfl, hnc, hcm, hrd⟩ := own_rd hv3
 obtain ⟨a, rfl, hab, -, o1, -, -⟩ := ob_at hrd (i := 0) (x := loO mb) rfl
 have o1' : u.cell? ⟨a.block, a.off + 1, none⟩ = some (.map (some mb)) := o1
 have hcs : u.cell? ⟨sb, 0, none⟩ = some (.slice (some a) 2 c) := cell_of_row _ _ 0 _ _ _ hv1
 have bf := (hWu.block _ (blk_lt HBF.out)).trans HBF.out
 have br := (hWu.block _ (blk_lt HBR.out)).trans HBR.out
 have hS : (fun w' : World => w'.cell? ⟨sb, 0, none⟩ = some (.slice (some a) 2 c) ∧ w'.cell? ⟨a.block, a.off + 1, none⟩ = some (.map (some mb)) ∧ w'.cell? ⟨w.heap.size, 0, none⟩ = some (.string ⟨#[65]⟩) ∧ w'.cell? ⟨w.heap.size, 1, none⟩ = some (.string ⟨#[102]⟩) ∧ w'.cell? ⟨w.heap.size + 1, 0, none⟩ = some (.int .i64 1) ∧ w'.cell? ⟨w.heap.size + 1, 1, none⟩ = some (.int .i64 y)) u := ⟨hcs, o1', cell_of_row _ _ 0 _ _ _ bf, cell_of_row _ _ 1 _ _ _ bf, cell_of_row _ _ 0 _ _ _ br, cell_of_row _ _ 1 _ _ _ br⟩
 have HSU := zh hS; have HST := zh hst0; have HMP := zh hmp; have HGG := zh hgg; have HWU := zh hWu
 clear hS hst0 hmp hgg hWu hv1 hv2 hv3 hnc hcm hrd hab o1 o1' hcs bf br q0 q1 hb HLV HWX
 go_wp2_with fail
 refine wp_region_held_drew (S := fun w' : World => w'.cell? ⟨sb, 0, none⟩ = some (.slice (some a) 2 c) ∧ w'.cell? ⟨a.block, a.off + 1, none⟩ = some (.map (some mb)) ∧ w'.cell? ⟨w.heap.size, 0, none⟩ = some (.string ⟨#[65]⟩) ∧ w'.cell? ⟨w.heap.size, 1, none⟩ = some (.string ⟨#[102]⟩) ∧ w'.cell? ⟨w.heap.size + 1, 0, none⟩ = some (.int .i64 1) ∧ w'.cell? ⟨w.heap.size + 1, 1, none⟩ = some (.int .i64 y)) (by kernel_rfl) ?_ (fun hHeld => ?_)
 ·exact HSU.out
 obtain ⟨r0, hr0⟩ : ∃ r, r = u.drew := ⟨_, rfl⟩
 have RS := zh (show (fun w' : World => w'.cell? ⟨sb, 0, none⟩ = some (.slice (some a) 2 c) ∧ w'.cell? ⟨a.block, a.off + 1, none⟩ = some (.map (some mb)) ∧ w'.cell? ⟨w.heap.size, 0, none⟩ = some (.string ⟨#[65]⟩) ∧ w'.cell? ⟨w.heap.size, 1, none⟩ = some (.string ⟨#[102]⟩) ∧ w'.cell? ⟨w.heap.size + 1, 0, none⟩ = some (.int .i64 1) ∧ w'.cell? ⟨w.heap.size + 1, 1, none⟩ = some (.int .i64 y)) r0 from by rw [hr0]; exact HSU.out)
 have RT := zh (show StoM sb [loO mb, arO g 2] rb r0 from by rw [hr0]; exact HST.out)
 have RM := zh (show r0.heap[mb]? = some (mp1 x) from by rw [hr0]; exact HMP.out)
 have RG := zh (show r0.heap[g]? = some (.cells (rep vo 2).toArray 70 (0, 0)) from by rw [hr0]; exact HGG.out)
 have RW := zh (show Below W.heap.size W r0 from by rw [hr0]; exact overW HWU.out)
 rw [← hr0]
 clear hr0
 have hS0 := RS.out
 refine tkp 0 rfl ?_
 refine tkp 1 rfl ?_
 refine tkp 2 rfl ?_
 refine tkp 3 rfl ?_
 refine tkp 4 rfl ?_
 refine tkp 5 rfl ?_
 try rw [show IntKind.i64.wrap 0 = 0 from rfl]
 refine tkp 6 rfl ?_
 refine tkp 7 rfl ?_
 refine tkp 8 rfl ?_
 refine tkp 9 rfl ?_
 refine tkp 10 rfl ?_
 clear hS0
 have hmr := RM.out
 have hpu := put_one (x := x) (y := y) hmr
 unfold kA vA at hpu
 obtain ⟨Z, hZ⟩ : ∃ Z, Z = setBlock r0 mb (mp1 y) := ⟨_, rfl⟩
 rw [← hZ] at hpu
 have hnb : ∀ q, q ≠ mb → Z.heap[q]? = r0.heap[q]? := fun q hq => by rw [hZ]; exact set_off hq
 have hgz : r0.grownBy Z (some mb) := ⟨by rw [hZ]; rfl, by rw [hZ]; rfl, by rw [hZ]; rfl, by rw [hZ, set_size]; exact Nat.le_refl _, fun k _ hk => hnb k (fun e => hk (by rw [e]))⟩
 have HSZ := zh (show (fun w' : World => w'.cell? ⟨sb, 0, none⟩ = some (.slice (some a) 2 c) ∧ w'.cell? ⟨a.block, a.off + 1, none⟩ = some (.map (some mb)) ∧ w'.cell? ⟨w.heap.size, 0, none⟩ = some (.string ⟨#[65]⟩) ∧ w'.cell? ⟨w.heap.size, 1, none⟩ = some (.string ⟨#[102]⟩) ∧ w'.cell? ⟨w.heap.size + 1, 0, none⟩ = some (.int .i64 1) ∧ w'.cell? ⟨w.heap.size + 1, 1, none⟩ = some (.int .i64 y)) Z from by
  have h1 : ∀ (p : Addr) u, r0.cell? p = some u → Z.cell? p = some u := fun p u hp => (World.cell?_of_block (hnb _ (fun e => by rw [← e] at hmr; simp [World.cell?, hmr, mp1] at hp))).trans hp
  obtain ⟨g0, g1, g2, g3, g4, g5⟩ := RS.out
  exact ⟨h1 _ _ g0, h1 _ _ g1, h1 _ _ g2, h1 _ _ g3, h1 _ _ g4, h1 _ _ g5⟩)
 have HEN := zh (show Lv sb mb g y Z ∧ Kept mb none w Z from by
  refine ⟨⟨rb, RT.out.mapped hmr hgz, by rw [hZ]; exact set_at (blk_lt hmr), (hnb g (fun e => by have := RG.out; rw [e, hmr] at this; cases this)).trans RG.out⟩, ?_⟩
  have hwr : Below w.heap.size w r0 := HAL.out.trans (RW.out.mono HAL.out.size)
  exact (Kept.below hwr).trans (Nxt.refl _ _) ⟨hgz.os, hgz.tape, hgz.output, hgz.size, fun k _ hk _ => hnb k hk⟩)
 clear hmr hZ hnb hgz
 refine rdy 11 rfl (fun K hK => ?_)
 go_simp
 refine hK.out _ _ HSZ.out (fun hHeld => ?_)
 clear hK K hpu
 try simp only [puts]
 refine wpAnyH_done (by kernel_rfl) ?_ _
 go_wp2
 go_ret
 exact ⟨rfl, HEN.out.1, HEN.out.2⟩
end Go.Proofs.Ytdifmgeicnndfaa.sto
namespace Go.Proofs.Ytdifmgeicnndfaa.prg
open Go.RowKit Go.Maps Go.Shelf
open words kindp opp op kind word
set_option maxRecDepth 100000
set_option maxHeartbeats 4000000
set_option linter.all false
attribute [local go_sem] Oper.semAt_some
def concB (cs : List ClM) (s : Tx) : Bool := match findC cs s with
 | some c => !c.ab
 | none => false
theorem concrete_w (x : PrM) (s : Tx) (w : World) (hpr : PrOk w x) (h70 : x.cs.length ≤ 70) :
  Calls Try.prog 61 #[.agg (prC x).toArray, .string ⟨s.toArray⟩] w fun e w' => e = .returned (.bool (concB x.cs s)) ∧ Below w.heap.size w w' := by
 obtain ⟨cs, A1, c1, ns, A2, c2, ec, en, ed⟩ := x
 obtain ⟨W, hW⟩ : ∃ W, W = w.alloc (.cells (prC ⟨cs, A1, c1, ns, A2, c2, ec, en, ed⟩).toArray 27) := ⟨_, rfl⟩
 have hal : Below w.heap.size w W := by rw [hW]; exact (Below.refl _ w).alloc (Nat.le_refl _) _
 have hblk : W.heap[w.heap.size]? = some (.cells (prC ⟨cs, A1, c1, ns, A2, c2, ec, en, ed⟩).toArray 27 (0, 0)) := by rw [hW]; exact heap_alloc_new w _
 obtain ⟨x0, x1, x2, x3, x4⟩ := pr_cells hblk
 have HPL := place_cl ⟨cs, A1, c1, ns, A2, c2, ec, en, ed⟩ s W (hpr.1.2.below hal) (by show cs.length ≤ _; have : cs.length ≤ 70 := h70; omega)
 have HRD := zh (show Rd W A1 (cs.flatMap clC) from hpr.1.2.below hal)
 have HAL := zh hal; have HBK := zh hblk
 have hnI : (cs.length : Int) ≤ 70 := by have : cs.length ≤ 70 := h70; omega
 unfold prC at hW HPL ⊢
 try dsimp only [List.cons_append, List.nil_append] at hW HPL ⊢
 have HPL := zh HPL
 have HW := zh hW
 clear hal hblk hW hpr h70
 go_enter Try.func61, Try.ntmps61
 go_wp2_with fail
 rw [← HW.out]
 (try go_wp2_with fail)
 refine HPL.out.mono ?_
 rintro e w1 ⟨r, rfl, hix, hb1⟩
 have HB1 := zh hb1
 have HE := zh (HAL.out.trans (hb1.mono HAL.out.size))
 clear x0 x1 x2 x3 x4
 obtain ⟨x0, x1, x2, x3, x4⟩ := pr_cells ((hb1.block _ (blk_lt HBK.out)).trans HBK.out)
 dsimp only at x0 x1 x2 x3 x4
 rcases idx_two hix with ⟨rfl, -, hf⟩ | ⟨k, y, rfl, hy, -, -, hf⟩
 ·have HF := zh (show concB cs s = false from by unfold concB findC; rw [hf])
  clear hix hf hb1
  go_wp2
  go_ret
  exact ⟨by rw [HF.out]; rfl, HE.out⟩
 ·have HF := zh (show concB cs s = !y.ab from by unfold concB findC; rw [hf])
  have hkI : ((k : Int) != -1) = true := by simp
  have hkn : k < cs.length := (List.getElem?_eq_some_iff.1 hy).1
  have hknI : (k : Int) < (cs.length : Int) := by omega
  obtain ⟨a, rfl, -, q0, q1, q2, q3, q4, q5, q6⟩ := cl_at (HRD.out.below hb1) hy
  clear hix hf hb1 hy
  go_wp2
  go_ret
  exact ⟨by rw [HF.out]; first | done | rfl, HE.out⟩
end Go.Proofs.Ytdifmgeicnndfaa.prg
namespace Go.Proofs.Ytdifmgeicnndfaa.prg
open Go.RowKit Go.Maps Go.Shelf
open words kindp opp op kind word
set_option maxRecDepth 100000
set_option maxHeartbeats 4000000
set_option linter.all false
end Go.Proofs.Ytdifmgeicnndfaa.prg
namespace Go.Proofs.Ytdifmgeicnndfaa.sto
open Go.RowKit Go.MapKept Go.ChangeMaps
open words kindp kind prg
set_option maxRecDepth 100000
set_option maxHeartbeats 8000000
set_option linter.all false
theorem lv_conc (f : Nat) : concB [lvC f] [65] = true := by simp [concB, findC, lvC]
theorem make_w (sb f c : Nat) (w : World) (h : StoM sb [] none w) (hf : w.heap[f]? = some (.cells (fiC lvF).toArray 92 (0, 0))) (hc : w.heap[c]? = some (.cells (clC (lvC f)).toArray 43 (0, 0))) :
  Calls Try.prog 24 #[.pointer (some ⟨sb, 0, none⟩), .agg (prC (lvX f c)).toArray, .string ⟨#[65]⟩] w fun e w' => e = .returned (.tuple #[.int .i64 1, .int .i64 0]) ∧
   ∃ mb rb, StoM sb [loO mb] rb w' ∧ w'.heap[mb]? = some (mp1 0) ∧ w.heap.size ≤ mb ∧ rb ≠ some mb ∧ Kept sb none w w' := by
 obtain ⟨W, hW⟩ : ∃ W, W = w.alloc (.cells (prC (lvX f c)).toArray 27) := ⟨_, rfl⟩
 have hal : Below w.heap.size w W := by rw [hW]; exact (Below.refl _ w).alloc (Nat.le_refl _) _
 have hblk : W.heap[w.heap.size]? = some (.cells (prC (lvX f c)).toArray 27 (0, 0)) := by rw [hW]; exact heap_alloc_new w _
 have hf2 := (hal.block _ (blk_lt hf)).trans hf
 have hc2 := (hal.block _ (blk_lt hc)).trans hc
 have hco := concrete_w (lvX f c) [65] W (lvX_ok hf2 hc2) (by simp [lvX])
 have hze := fun v (hv : Below W.heap.size W v) => zeros_w f c v ((hv.block _ (blk_lt hf2)).trans hf2) ((hv.block _ (blk_lt hc2)).trans hc2)
 rw [show (lvX f c).cs = [lvC f] from rfl, lv_conc] at hco
 have HCE := zh (show ∀ v : World, Below W.heap.size W v → v.cell? ⟨w.heap.size, 0, none⟩ = some (.slice (some ⟨c, 0, none⟩) 1 1) ∧ v.cell? ⟨w.heap.size, 1, none⟩ = some (.slice none 0 0) ∧ v.cell? ⟨w.heap.size, 2, none⟩ = some (.string ⟨#[]⟩) ∧ v.cell? ⟨w.heap.size, 3, none⟩ = some (.string ⟨#[]⟩) ∧ v.cell? ⟨w.heap.size, 4, none⟩ = some (.string ⟨#[]⟩) from fun v hv => pr_cells ((hv.block _ (blk_lt hblk)).trans hblk))
 unfold prC at hW hco hze ⊢
 dsimp only [lvX, List.length_cons, List.length_nil, Nat.zero_add, List.cons_append, List.nil_append] at hW hco hze ⊢
 have HW := zh hW; have HAL := zh hal; have HCO := zh hco; have HZE := zh hze; have HST := zh h
 clear hW hal hblk hf hc hf2 hc2 hco hze h
 obtain ⟨x0, x1, x2, x3, x4⟩ := HCE.out W (Below.refl _ _)
 go_enter Try.func24, Try.ntmps24
 go_wp2_with fail
 rw [← HW.out]
 (try go_wp2_with fail)
 refine HCO.out.mono ?_
 rintro e v1 ⟨rfl, hb⟩
 have K1 := zh hb
 clear hb x0 x1 x2 x3 x4
 obtain ⟨x0, x1, x2, x3, x4⟩ := HCE.out v1 K1.out
 go_wp2_with fail
 refine (HZE.out v1 K1.out).mono ?_
 rintro e v2 ⟨mb, rfl, hmb, hm, hb⟩
 have K2 := zh (then' K1.out hb)
 have KW := zh (show Below w.heap.size w v2 from HAL.out.trans (K2.out.mono HAL.out.size))
 have had := add_w sb [] none (loO mb) v2 (HST.out.below KW.out) (by simp)
 unfold AddP loO obC at had
 have HAD := zh had
 have HM := zh hm
 have HMB := zh (show w.heap.size ≤ mb from Nat.le_trans HAL.out.size (Nat.le_trans K1.out.size hmb))
 clear hb hm hmb had x0 x1 x2 x3 x4
 go_wp2_with fail
 refine HAD.out.mono ?_
 rintro e v3 ⟨rfl, rb, hs, hx, hk⟩
 have HEN := zh (show ∃ mb rb, StoM sb [loO mb] rb v3 ∧ v3.heap[mb]? = some (mp1 0) ∧ w.heap.size ≤ mb ∧ rb ≠ some mb ∧ Kept sb none w v3 from by
  have hms : mb ≠ sb := by have := HST.out.lt; have := HMB.out; omega
  refine ⟨mb, rb, hs, (hk.block mb (blk_lt HM.out) hms (by simp)).trans HM.out, HMB.out, ?_, (Kept.below KW.out).trans (Nxt.refl _ _) hk⟩
  rcases hx with rfl | ⟨q, rfl, hq⟩
  ·simp
  ·intro e; injection e with e; have := blk_lt HM.out; omega)
 clear hs hx hk
 go_wp2
 exact bodyPost_ret (v := .tuple #[.int .i64 1, .int .i64 0]) (by simp [results, Try.results24, go_sem]) rfl ⟨rfl, HEN.out⟩
theorem make_nil (w : World) : Calls Try.prog 24 #[.pointer none, .agg #[.slice none 0 0, .slice none 0 0, .string ⟨#[]⟩, .string ⟨#[]⟩, .string ⟨#[]⟩], .string ⟨#[65]⟩] w fun e w' => e = .returned (.tuple #[.int .i64 0, .int .i64 9]) ∧ Below w.heap.size w w' := by
 go_enter Try.func24, Try.ntmps24
 go_wp2
 exact bodyPost_ret (v := .tuple #[.int .i64 0, .int .i64 9]) (by simp [results, Try.results24, go_sem]) rfl ⟨rfl, by repeat (first | exact Below.refl _ _ | refine Below.alloc ?_ (by simp; try omega) _)⟩
theorem arr_nil (k : Int) (s : Tx) (n : Int) (w : World) : Calls Try.prog 21 #[.pointer none, .agg #[.int .i64 k, .string ⟨s.toArray⟩], .int .i64 n] w fun e w' => e = .returned (.tuple #[.int .i64 0, .int .i64 9]) ∧ Below w.heap.size w w' := by
 go_enter Try.func21, Try.ntmps21
 go_wp2
 exact bodyPost_ret (v := .tuple #[.int .i64 0, .int .i64 9]) (by simp [results, Try.results21, go_sem]) rfl ⟨rfl, by repeat (first | exact Below.refl _ _ | refine Below.alloc ?_ (by simp; try omega) _)⟩
theorem put_nil (n : Int) (c f : Tx) (k x : Int) (w : World) : Calls Try.prog 28 #[.pointer none, .int .i64 n, .agg #[.string ⟨c.toArray⟩, .string ⟨f.toArray⟩], .agg #[.int .i64 k, .int .i64 x]] w fun e w' => e = .returned (.int .i64 9) ∧ Below w.heap.size w w' := by
 obtain ⟨W, hW⟩ : ∃ W, W = (w.alloc (.cells #[.string ⟨c.toArray⟩, .string ⟨f.toArray⟩] 67)).alloc (.cells #[.int .i64 k, .int .i64 x] 70) := ⟨_, rfl⟩
 have hal : Below w.heap.size w W := by rw [hW]; exact ((Below.refl _ w).alloc (Nat.le_refl _) _).alloc (by simp) _
 have HA := zh (get_nil n c f W)
 have HW := zh hW; have HAL := zh hal
 clear hW hal
 go_enter Try.func28, Try.ntmps28
 go_wp2_with fail
 rw [← HW.out]
 (try go_wp2_with fail)
 refine HA.out.mono ?_
 rintro e v ⟨rfl, hb⟩
 have HB := zh (then' HAL.out hb)
 clear hb HA
 go_wp2
 go_ret
 exact ⟨rfl, by repeat (first | exact HB.out | refine Below.alloc ?_ (by first | exact HB.out.size | (simp; have := HB.out.size; omega)) _)⟩
theorem save_nil (n i : Int) (k x : Int) (w : World) : Calls Try.prog 29 #[.pointer none, .int .i64 n, .int .i64 i, .agg #[.int .i64 k, .int .i64 x]] w fun e w' => e = .returned (.int .i64 9) ∧ Below w.heap.size w w' := by
 obtain ⟨W, hW⟩ : ∃ W, W = w.alloc (.cells #[.int .i64 k, .int .i64 x] 70) := ⟨_, rfl⟩
 have hal : Below w.heap.size w W := by rw [hW]; exact (Below.refl _ w).alloc (Nat.le_refl _) _
 have HA := zh (load_nil n i W)
 have HW := zh hW; have HAL := zh hal
 clear hW hal
 go_enter Try.func29, Try.ntmps29
 go_wp2_with fail
 rw [← HW.out]
 (try go_wp2_with fail)
 refine HA.out.mono ?_
 rintro e v ⟨rfl, hb⟩
 have HB := zh (then' HAL.out hb)
 clear hb HA
 go_wp2
 go_ret
 exact ⟨rfl, by repeat (first | exact HB.out | refine Below.alloc ?_ (by first | exact HB.out.size | (simp; have := HB.out.size; omega)) _)⟩
end Go.Proofs.Ytdifmgeicnndfaa.sto
namespace Go.Proofs.Ytdifmgeicnndfaa.sto
open Go.RowKit Go.MapKept Go.ChangeMaps
open words kindp kind prg
set_option maxRecDepth 100000
set_option maxHeartbeats 8000000
set_option linter.all false
theorem wpList_copyN {P : Program} {w : World} {ops : Array Oper} {rest : List Oper} {o : Oper} {a : Act} {Q : Exit → Act → World → Prop} (hgd : o.guard = none) (d s : Operand) (dT sT : TypeId)
    (ho : o.op = .call { callee := .builtin .copy, args := #[d, s], argTypes := #[dT, sT] }) (elem : TypeId) (hu : P.underlying dT = some (.slice elem)) (hsz : ((P.info? elem).map (·.size)).isSome = true)
    (ad : Addr) (dLen dCap : Nat) (hd : a.eval d = .slice (some ad) dLen dCap) (hs : a.eval s = .slice none 0 0)
    (h : wpList P ops Q rest (a.put o.dst (goInt 0)) w) : wpList P ops Q (o :: rest) a w := by
  refine wpList_plain hgd fun K hK => ?_
  have hrun := run_copy_nil P w dT sT o.type elem ad dLen dCap hu hsz
  unfold Oper.wp
  simp [execOp, ho, resolve, invoke, builtin, hd, hs, hrun, Result.andThen]
  exact hK _ _ h
theorem make_v (n : Nat) (hn : n ≤ 64) (w : World) : (Instr.makeSlice 83 (.int .i64 (n : Int)) (.int .i64 (n : Int))).run Try.prog w = .ok (.slice (some ⟨w.heap.size, 0, none⟩) n n) (w.alloc (.cells (rowV n 0).toArray 70)) := by
 obtain ⟨i0, hi, hz0, hz1, hz2⟩ := info_parts infoV
 have h := run_make (P := Try.prog) w 83 70 i0 (.agg #[.int .i64 0, .int .i64 0]) Try.underlying83 hi hz0 .i64 .i64 (n : Int) (n : Int) (by omega) (Int.le_refl _) (by rw [hz2]; omega) (by omega)
 rw [Int.toNat_natCast, hz1] at h
 rw [h]
 congr 3
 unfold madeCells rowV
 apply Array.ext'
 rw [rep_zero, List.nil_append, Nat.sub_zero]
 simp only [Value.cells, Array.toList_map, Array.toList_range, List.size_toArray, List.length_cons, List.length_nil, Nat.zero_add]
 apply List.ext_getElem?
 intro j
 by_cases hj : j < n * 2
 ·rw [List.getElem?_map, List.getElem?_range hj]
  have h2 : (rep vz n)[j]? = some (.int .i64 0) := by
   have hl : j < (rep vz n).length := by rw [vz_len]; omega
   rw [List.getElem?_eq_getElem hl]
   have := rep_mem (List.getElem_mem hl)
   simp only [vz, List.mem_cons, List.not_mem_nil, or_false, or_self] at this
   exact congrArg some this
  rw [h2]
  have h3 : j % 2 = 0 ∨ j % 2 = 1 := by omega
  rcases h3 with h3 | h3 <;> simp [h3]
 ·rw [List.getElem?_eq_none (by simp; omega), List.getElem?_eq_none (by rw [vz_len]; omega)]
theorem items_nil (n : Int) (w : World) : Calls Try.prog 32 #[.pointer none, .int .i64 n] w fun e w' => (∃ A c, e = .returned (.slice A 0 c)) ∧ Below w.heap.size w w' := by
 obtain ⟨i0, hi, hz0, hz1, hz2⟩ := info_parts infoV
 have HSZ := zh (show ((Try.prog.info? 70).map (·.size)).isSome = true from by rw [hi]; rfl)
 have hmk : ∀ v, (Instr.makeSlice 83 (.int .i64 0) (.int .i64 0)).run Try.prog v = .ok (.slice (some ⟨v.heap.size, 0, none⟩) 0 0) (v.alloc (.cells (rowV 0 0).toArray 70)) := fun v => make_v 0 (by omega) v
 have HA := zh (at_nilp n w)
 clear hi hz0 hz1 hz2
 go_enter Try.func32, Try.ntmps32
 go_wp2_with fail
 refine HA.out.mono ?_
 rintro e v ⟨rfl, hb⟩
 have HB := zh hb
 clear hb HA
 go_wp2_with (refine wpList_copyN rfl (.tmp 18) (.tmp 20) 83 83 rfl 70 Try.underlying83 HSZ.out _ _ _ rfl rfl ?_)
 go_ret
 exact ⟨⟨_, _, rfl⟩, by repeat (first | exact HB.out | refine Below.alloc ?_ (by first | exact HB.out.size | (simp; have := HB.out.size; omega)) _)⟩
theorem items_two {sb mb g : Nat} {x : Int} {w : World} (h : Lv sb mb g x w) : Calls Try.prog 32 #[.pointer (some ⟨sb, 0, none⟩), .int .i64 2] w fun e w' => (∃ A c, e = .returned (.slice A 2 c)) ∧ Below w.heap.size w w' := by
 obtain ⟨i0, hi, hz0, hz1, hz2⟩ := info_parts infoV
 have HSZ := zh (show (Try.prog.info? 70).map (·.size) = some 2 from by rw [hi]; simp [hz1])
 have hmk : ∀ v, (Instr.makeSlice 83 (.int .i64 2) (.int .i64 2)).run Try.prog v = .ok (.slice (some ⟨v.heap.size, 0, none⟩) 2 2) (v.alloc (.cells (rowV 2 0).toArray 70)) := fun v => make_v 2 (by omega) v
 have HA := zh (at_two h)
 have HLV := zh h
 clear hi hz0 hz1 hz2 h
 go_enter Try.func32, Try.ntmps32
 go_wp2_with fail
 refine HA.out.mono ?_
 rintro e v ⟨rfl, hb⟩
 have hg : v.heap[g]? = some (.cells (rep vo 2).toArray 70 (0, 0)) := by obtain ⟨rb, -, -, h3⟩ := HLV.out.below hb; exact h3
 obtain ⟨Y, hY⟩ : ∃ Y, Y = (v.alloc (.cells #[.string ⟨#[91, 73]⟩, .map none, .bool true, .slice (some ⟨g, 0, none⟩) 2 2] 130)).alloc (.cells (rowV 2 0).toArray 70) := ⟨_, rfl⟩
 have hy : Below v.heap.size v Y := by rw [hY]; exact ((Below.refl _ v).alloc (Nat.le_refl _) _).alloc (by simp) _
 have HB := zh hb
 have hgn : Y.heap[v.heap.size + 1]? = some (.cells (rowV 2 0).toArray 70 (0, 0)) := by rw [hY]; simpa using heap_alloc_new (v.alloc (.cells #[.string ⟨#[91, 73]⟩, .map none, .bool true, .slice (some ⟨g, 0, none⟩) 2 2] 130)) (.cells (rowV 2 0).toArray 70)
 have hgy := (hy.block _ (blk_lt hg)).trans hg
 obtain ⟨cs, hcs⟩ : ∃ cs, cs = rep vo 2 := ⟨_, rfl⟩
 have Q0 := zh (show Nat.min 2 2 = 2 from rfl)
 have Q1 := zh (show cs.length = 2 * 2 from by rw [hcs, vo_len])
 have Q2 := zh (show 0 + cs.length ≤ (rowV 2 0).length from by rw [rowV_len (by omega), hcs, vo_len]; omega)
 have Q3 := zh (show ∀ u ∈ cs, u.oneCell' = true from by rw [hcs]; exact vo_one)
 have QP := zh (show ∀ (j : Nat) u, cs[j]? = some u → Y.cell? ((⟨g, 0, none⟩ : Addr).add j) = some u from fun j u hj => by
  rw [hcs] at hj
  rw [add_zero_off]
  exact (cell_of_row _ _ _ _ _ _ hgy).trans (by simpa using hj))
 have QG := zh hgn; have QB := zh hy
 clear hb HA hg hgy hcs hgn hy HLV
 rw [hY] at QG QP QB
 clear hY Y
 go_wp2_with (refine wpList_copyZ rfl (.tmp 18) (.tmp 20) 83 83 rfl 70 2 Try.underlying83 HSZ.out _ _ _ _ _ _ _ rfl rfl (rowV 2 0) 70 QG.out cs 2 Q0.out Q1.out QP.out Q2.out Q3.out v.heap.size v QB.out (by omega) ?_; intro w2 HG2 hB2)
 have HE := zh (show Below w.heap.size w w2 from then' HB.out hB2)
 clear hB2 HG2
 go_wp2
 go_ret
 exact ⟨⟨_, _, rfl⟩, HE.out⟩
end Go.Proofs.Ytdifmgeicnndfaa.sto

/- OpK -/
import Derived.Test.YtdifmgeicnndfaaOpR
namespace Go.Proofs.Ytdifmgeicnndfaa.op
open Go.RowKit
open words kindp opp kind word
set_option maxRecDepth 100000
set_option maxHeartbeats 16000000
set_option linter.all false
theorem fits_r0 (i : In) (A : Option Addr) (c : Nat) (regs code : Int) (w : World) (hsh : shapeL i.o = []) (hk : known i.o = true) (hr : Rd w A (IL i.ar)) (hz : i.ar.length ≤ 1000) (hd : i.ds.length ≤ 65536) (hcl : i.cl.length ≤ 281474976710656) (hnm : i.nm.length ≤ 281474976710656) :
  Calls Try.prog 144 #[.agg (InV i A c), .int .i64 regs, .int .i64 code] w fun e w' => e = .returned (.int .i64 (refE i [] regs code)) ∧ Below w.heap.size w w' := by
 obtain ⟨W, hW⟩ : ∃ W, W = w.alloc (.cells (InV i A c) 90) := ⟨_, rfl⟩
 have hal : Below w.heap.size w W := by rw [hW]; exact (Below.refl _ w).alloc (Nat.le_refl _) _
 have HAL := zh hal
 have hblk : W.heap[w.heap.size]? = some (.cells (InV i A c) 90 (0, 0)) := by rw [hW]; exact heap_alloc_new w _
 have HBK := zh hblk; have HLT := zh (blk_lt hblk)
 obtain ⟨g0, g1, g2, g3, g4, g5, g6, g7, g8⟩ := in_cells hblk
 have hkk := of_decide_eq_true hk
 have o1 : ¬ i.o < 1 := by omega
 have o2 : ¬ 32 < i.o := by omega
 have hic : isCall i.o = false := by rw [← call_shape, hsh]; decide
 have h1f := one_of i.o
 rw [hsh] at h1f
 have HSH := zh (fun w => shape_r i.o w)
 rw [hsh] at HSH
 have HEM := zh (fun w => empty_0 i A c w (by omega))
 have HNM := zh (fun w => named_r i A c [] w (by decide) hd hcl hnm h1f)
 have HCA := zh (fun w => call_r i.o w)
 rw [hic] at HCA
 have H97 := zh (fun w => has_r [] 97 w (by decide))
 rw [show hasL [] 97 = false by decide] at H97
 have H98 := zh (fun w => has_r [] 98 w (by decide))
 rw [show hasL [] 98 = false by decide] at H98
 have H99 := zh (fun w => has_r [] 99 w (by decide))
 rw [show hasL [] 99 = false by decide] at H99
 have H116 := zh (fun w => has_r [] 116 w (by decide))
 rw [show hasL [] 116 = false by decide] at H116
 have H114 := zh (fun w => has_r [] 114 w (by decide))
 rw [show hasL [] 114 = false by decide] at H114
 dsimp only [InV] at hW HEM HNM ⊢
 have HW := zh hW
 have HO := zh (show isCall i.o = false from hic)
 clear hal hblk hW h1f hd hcl hnm
 cases hem : emptyB i [] with
 | false =>
  have hE : refE i [] regs code = 1 := by simp [refE, hk, hic, hem]
  rw [hE]
  rw [hem] at HEM
  clear hE hem hsh hk hic hkk hr hz
  go_enter Try.func144, Try.ntmps144
  go_wp2_with fail
  rw [← HW.out]
  refine (HSH.out _).mono ?_; rintro e W ⟨rfl, rfl⟩
  go_wp2_with fail
  refine (HEM.out _).mono ?_
  rintro e v1 ⟨rfl, hb⟩
  obtain ⟨x0, x1, x2, x3, x4, x5, x6, x7, x8⟩ := in_cells ((hb.block _ HLT.out).trans HBK.out)
  have K1 := zh hb
  clear hb g0 g1 g2 g3 g4 g5 g6 g7 g8
  go_wp2
  go_ret
  exact ⟨rfl, HAL.out.trans (K1.out.mono HAL.out.size)⟩
 | true =>
 cases hnd : namedB i [] with
 | false =>
  have hE : refE i [] regs code = 1 := by simp [refE, hk, hic, hem, hnd]
  rw [hE]
  rw [hem] at HEM
  rw [hnd] at HNM
  clear hE hem hnd hsh hk hic hkk hr hz
  go_enter Try.func144, Try.ntmps144
  go_wp2_with fail
  rw [← HW.out]
  refine (HSH.out _).mono ?_; rintro e W ⟨rfl, rfl⟩
  go_wp2_with fail
  refine (HEM.out _).mono ?_
  rintro e v1 ⟨rfl, hb⟩
  obtain ⟨x0, x1, x2, x3, x4, x5, x6, x7, x8⟩ := in_cells ((hb.block _ HLT.out).trans HBK.out)
  have K1 := zh hb
  clear hb g0 g1 g2 g3 g4 g5 g6 g7 g8
  go_wp2_with fail
  refine (HNM.out _).mono ?_
  rintro e v2 ⟨rfl, hb⟩
  have K2 := zh (show Below W.heap.size W v2 from then' K1.out hb)
  obtain ⟨y0, y1, y2, y3, y4, y5, y6, y7, y8⟩ := in_cells ((K2.out.block _ HLT.out).trans HBK.out)
  clear hb x0 x1 x2 x3 x4 x5 x6 x7 x8
  go_wp2
  go_ret
  exact ⟨rfl, HAL.out.trans (K2.out.mono HAL.out.size)⟩
 | true =>
 have har : i.ar = [] := no_args hem (by decide)
 have hE : refE i [] regs code = 0 := by simp [refE, countedB, hsh, hk, hic, hem, hnd, har, show hasL [] 97 = false by decide, show hasL [] 98 = false by decide, show hasL [] 99 = false by decide, show hasL [] 116 = false by decide, show hasL [] 114 = false by decide]
 rw [hE]
 rw [hem] at HEM
 rw [hnd] at HNM
 have hln : i.ar.length = 0 := by rw [har]; rfl
 rw [hln] at HEM HNM HW g8 ⊢
 have HB9 := zh (show ∀ v : World, Below W.heap.size W v → v.cell? ⟨w.heap.size, 8, none⟩ = some (.slice A 0 c) from fun v hb => by have := (in_cells ((hb.block _ HLT.out).trans HBK.out)).2.2.2.2.2.2.2.2; rwa [hln] at this)
 clear hE hem hnd hsh hk hic hkk hr hz har hln 
 go_enter Try.func144, Try.ntmps144
 go_wp2_with fail
 rw [← HW.out]
 refine (HSH.out _).mono ?_; rintro e W ⟨rfl, rfl⟩
 go_wp2_with fail
 refine (HEM.out _).mono ?_
 rintro e v1 ⟨rfl, hb⟩
 obtain ⟨x0, x1, x2, x3, x4, x5, x6, x7, -⟩ := in_cells ((hb.block _ HLT.out).trans HBK.out)
 have x8 := HB9.out _ hb
 have K1 := zh hb
 clear hb g0 g1 g2 g3 g4 g5 g6 g7 g8
 go_wp2_with fail
 refine (HNM.out _).mono ?_
 rintro e v2 ⟨rfl, hb⟩
 have K2 := zh (show Below W.heap.size W v2 from then' K1.out hb)
 obtain ⟨y0, y1, y2, y3, y4, y5, y6, y7, -⟩ := in_cells ((K2.out.block _ HLT.out).trans HBK.out)
 have y8 := HB9.out _ K2.out
 clear hb x0 x1 x2 x3 x4 x5 x6 x7 x8
 go_wp2_with fail
 refine (HCA.out _).mono ?_; rintro e v2 ⟨rfl, rfl⟩
 go_wp2_with fail
 refine (H97.out _).mono ?_; rintro e v2 ⟨rfl, rfl⟩
 go_wp2_with fail
 refine (H98.out _).mono ?_; rintro e v2 ⟨rfl, rfl⟩
 go_wp2_with fail
 refine (H99.out _).mono ?_; rintro e v2 ⟨rfl, rfl⟩
 go_wp2
 go_loopw [13] (fun v wr => v = .int .i64 0 ∧ wr = v2) (fun _ _ => 0)
 case atStart => exact ⟨rfl, rfl⟩
 case round =>
  obtain ⟨rfl, rfl⟩ := hrel
  go_wp2_with fail
  refine (H116.out _).mono ?_; rintro e v2 ⟨rfl, rfl⟩
  go_wp2_with fail
  refine (H114.out _).mono ?_; rintro e v2 ⟨rfl, rfl⟩
  go_wp2
  go_ret
  exact ⟨rfl, HAL.out.trans (K2.out.mono HAL.out.size)⟩
theorem fits_r1 (i : In) (A : Option Addr) (c : Nat) (regs code : Int) (w : World) (hsh : shapeL i.o = [97, 107]) (hk : known i.o = true) (hr : Rd w A (IL i.ar)) (hz : i.ar.length ≤ 1000) (hd : i.ds.length ≤ 65536) (hcl : i.cl.length ≤ 281474976710656) (hnm : i.nm.length ≤ 281474976710656) :
  Calls Try.prog 144 #[.agg (InV i A c), .int .i64 regs, .int .i64 code] w fun e w' => e = .returned (.int .i64 (refE i [97, 107] regs code)) ∧ Below w.heap.size w w' := by
 obtain ⟨W, hW⟩ : ∃ W, W = w.alloc (.cells (InV i A c) 90) := ⟨_, rfl⟩
 have hal : Below w.heap.size w W := by rw [hW]; exact (Below.refl _ w).alloc (Nat.le_refl _) _
 have HAL := zh hal
 have hblk : W.heap[w.heap.size]? = some (.cells (InV i A c) 90 (0, 0)) := by rw [hW]; exact heap_alloc_new w _
 have HBK := zh hblk; have HLT := zh (blk_lt hblk)
 obtain ⟨g0, g1, g2, g3, g4, g5, g6, g7, g8⟩ := in_cells hblk
 have hkk := of_decide_eq_true hk
 have o1 : ¬ i.o < 1 := by omega
 have o2 : ¬ 32 < i.o := by omega
 have hic : isCall i.o = false := by rw [← call_shape, hsh]; decide
 have h1f := one_of i.o
 rw [hsh] at h1f
 have HSH := zh (fun w => shape_r i.o w)
 rw [hsh] at HSH
 have HEM := zh (fun w => empty_1 i A c w (by omega))
 have HNM := zh (fun w => named_r i A c [97, 107] w (by decide) hd hcl hnm h1f)
 have HCA := zh (fun w => call_r i.o w)
 rw [hic] at HCA
 have H97 := zh (fun w => has_r [97, 107] 97 w (by decide))
 rw [show hasL [97, 107] 97 = true by decide] at H97
 have H98 := zh (fun w => has_r [97, 107] 98 w (by decide))
 rw [show hasL [97, 107] 98 = false by decide] at H98
 have H99 := zh (fun w => has_r [97, 107] 99 w (by decide))
 rw [show hasL [97, 107] 99 = false by decide] at H99
 have H116 := zh (fun w => has_r [97, 107] 116 w (by decide))
 rw [show hasL [97, 107] 116 = false by decide] at H116
 have H114 := zh (fun w => has_r [97, 107] 114 w (by decide))
 rw [show hasL [97, 107] 114 = false by decide] at H114
 have HWa := zh (fun w => within_r i.a regs w)
 dsimp only [InV] at hW HEM HNM ⊢
 have HW := zh hW
 have HO := zh (show isCall i.o = false from hic)
 clear hal hblk hW h1f hd hcl hnm
 cases hem : emptyB i [97, 107] with
 | false =>
  have hE : refE i [97, 107] regs code = 1 := by simp [refE, hk, hic, hem]
  rw [hE]
  rw [hem] at HEM
  clear hE hem hsh hk hic hkk hr hz
  go_enter Try.func144, Try.ntmps144
  go_wp2_with fail
  rw [← HW.out]
  refine (HSH.out _).mono ?_; rintro e W ⟨rfl, rfl⟩
  go_wp2_with fail
  refine (HEM.out _).mono ?_
  rintro e v1 ⟨rfl, hb⟩
  obtain ⟨x0, x1, x2, x3, x4, x5, x6, x7, x8⟩ := in_cells ((hb.block _ HLT.out).trans HBK.out)
  have K1 := zh hb
  clear hb g0 g1 g2 g3 g4 g5 g6 g7 g8
  go_wp2
  go_ret
  exact ⟨rfl, HAL.out.trans (K1.out.mono HAL.out.size)⟩
 | true =>
 cases hnd : namedB i [97, 107] with
 | false =>
  have hE : refE i [97, 107] regs code = 1 := by simp [refE, hk, hic, hem, hnd]
  rw [hE]
  rw [hem] at HEM
  rw [hnd] at HNM
  clear hE hem hnd hsh hk hic hkk hr hz
  go_enter Try.func144, Try.ntmps144
  go_wp2_with fail
  rw [← HW.out]
  refine (HSH.out _).mono ?_; rintro e W ⟨rfl, rfl⟩
  go_wp2_with fail
  refine (HEM.out _).mono ?_
  rintro e v1 ⟨rfl, hb⟩
  obtain ⟨x0, x1, x2, x3, x4, x5, x6, x7, x8⟩ := in_cells ((hb.block _ HLT.out).trans HBK.out)
  have K1 := zh hb
  clear hb g0 g1 g2 g3 g4 g5 g6 g7 g8
  go_wp2_with fail
  refine (HNM.out _).mono ?_
  rintro e v2 ⟨rfl, hb⟩
  have K2 := zh (show Below W.heap.size W v2 from then' K1.out hb)
  obtain ⟨y0, y1, y2, y3, y4, y5, y6, y7, y8⟩ := in_cells ((K2.out.block _ HLT.out).trans HBK.out)
  clear hb x0 x1 x2 x3 x4 x5 x6 x7 x8
  go_wp2
  go_ret
  exact ⟨rfl, HAL.out.trans (K2.out.mono HAL.out.size)⟩
 | true =>
 have har : i.ar = [] := no_args hem (by decide)
 cases hwa : withB i.a regs with
 | false =>
  have hE : refE i [97, 107] regs code = 12 := by simp [refE, hk, hic, hem, hnd, hwa, show hasL [97, 107] 97 = true by decide]
  rw [hE]
  rw [hem] at HEM
  rw [hnd] at HNM
  rw [hwa] at HWa
  clear hE hem hnd hsh hk hic hkk hr hz har hwa
  go_enter Try.func144, Try.ntmps144
  go_wp2_with fail
  rw [← HW.out]
  refine (HSH.out _).mono ?_; rintro e W ⟨rfl, rfl⟩
  go_wp2_with fail
  refine (HEM.out _).mono ?_
  rintro e v1 ⟨rfl, hb⟩
  obtain ⟨x0, x1, x2, x3, x4, x5, x6, x7, x8⟩ := in_cells ((hb.block _ HLT.out).trans HBK.out)
  have K1 := zh hb
  clear hb g0 g1 g2 g3 g4 g5 g6 g7 g8
  go_wp2_with fail
  refine (HNM.out _).mono ?_
  rintro e v2 ⟨rfl, hb⟩
  have K2 := zh (show Below W.heap.size W v2 from then' K1.out hb)
  obtain ⟨y0, y1, y2, y3, y4, y5, y6, y7, y8⟩ := in_cells ((K2.out.block _ HLT.out).trans HBK.out)
  clear hb x0 x1 x2 x3 x4 x5 x6 x7 x8
  go_wp2_with fail
  refine (HCA.out _).mono ?_; rintro e v2 ⟨rfl, rfl⟩
  go_wp2_with fail
  refine (H97.out _).mono ?_; rintro e v2 ⟨rfl, rfl⟩
  go_wp2_with fail
  refine (HWa.out _).mono ?_; rintro e v2 ⟨rfl, rfl⟩
  go_wp2
  go_ret
  exact ⟨rfl, HAL.out.trans (K2.out.mono HAL.out.size)⟩
 | true =>
 have hE : refE i [97, 107] regs code = 0 := by simp [refE, countedB, hsh, hk, hic, hem, hnd, hwa, har, show hasL [97, 107] 97 = true by decide, show hasL [97, 107] 98 = false by decide, show hasL [97, 107] 99 = false by decide, show hasL [97, 107] 116 = false by decide, show hasL [97, 107] 114 = false by decide]
 rw [hE]
 rw [hem] at HEM
 rw [hnd] at HNM
 rw [hwa] at HWa
 have hln : i.ar.length = 0 := by rw [har]; rfl
 rw [hln] at HEM HNM HW g8 ⊢
 have HB9 := zh (show ∀ v : World, Below W.heap.size W v → v.cell? ⟨w.heap.size, 8, none⟩ = some (.slice A 0 c) from fun v hb => by have := (in_cells ((hb.block _ HLT.out).trans HBK.out)).2.2.2.2.2.2.2.2; rwa [hln] at this)
 clear hE hem hnd hsh hk hic hkk hr hz har hln hwa
 go_enter Try.func144, Try.ntmps144
 go_wp2_with fail
 rw [← HW.out]
 refine (HSH.out _).mono ?_; rintro e W ⟨rfl, rfl⟩
 go_wp2_with fail
 refine (HEM.out _).mono ?_
 rintro e v1 ⟨rfl, hb⟩
 obtain ⟨x0, x1, x2, x3, x4, x5, x6, x7, -⟩ := in_cells ((hb.block _ HLT.out).trans HBK.out)
 have x8 := HB9.out _ hb
 have K1 := zh hb
 clear hb g0 g1 g2 g3 g4 g5 g6 g7 g8
 go_wp2_with fail
 refine (HNM.out _).mono ?_
 rintro e v2 ⟨rfl, hb⟩
 have K2 := zh (show Below W.heap.size W v2 from then' K1.out hb)
 obtain ⟨y0, y1, y2, y3, y4, y5, y6, y7, -⟩ := in_cells ((K2.out.block _ HLT.out).trans HBK.out)
 have y8 := HB9.out _ K2.out
 clear hb x0 x1 x2 x3 x4 x5 x6 x7 x8
 go_wp2_with fail
 refine (HCA.out _).mono ?_; rintro e v2 ⟨rfl, rfl⟩
 go_wp2_with fail
 refine (H97.out _).mono ?_; rintro e v2 ⟨rfl, rfl⟩
 go_wp2_with fail
 refine (HWa.out _).mono ?_; rintro e v2 ⟨rfl, rfl⟩
 go_wp2_with fail
 refine (H98.out _).mono ?_; rintro e v2 ⟨rfl, rfl⟩
 go_wp2_with fail
 refine (H99.out _).mono ?_; rintro e v2 ⟨rfl, rfl⟩
 go_wp2
 go_loopw [13] (fun v wr => v = .int .i64 0 ∧ wr = v2) (fun _ _ => 0)
 case atStart => exact ⟨rfl, rfl⟩
 case round =>
  obtain ⟨rfl, rfl⟩ := hrel
  go_wp2_with fail
  refine (H116.out _).mono ?_; rintro e v2 ⟨rfl, rfl⟩
  go_wp2_with fail
  refine (H114.out _).mono ?_; rintro e v2 ⟨rfl, rfl⟩
  go_wp2
  go_ret
  exact ⟨rfl, HAL.out.trans (K2.out.mono HAL.out.size)⟩
theorem fits_r2 (i : In) (A : Option Addr) (c : Nat) (regs code : Int) (w : World) (hsh : shapeL i.o = [97]) (hk : known i.o = true) (hr : Rd w A (IL i.ar)) (hz : i.ar.length ≤ 1000) (hd : i.ds.length ≤ 65536) (hcl : i.cl.length ≤ 281474976710656) (hnm : i.nm.length ≤ 281474976710656) :
  Calls Try.prog 144 #[.agg (InV i A c), .int .i64 regs, .int .i64 code] w fun e w' => e = .returned (.int .i64 (refE i [97] regs code)) ∧ Below w.heap.size w w' := by
 obtain ⟨W, hW⟩ : ∃ W, W = w.alloc (.cells (InV i A c) 90) := ⟨_, rfl⟩
 have hal : Below w.heap.size w W := by rw [hW]; exact (Below.refl _ w).alloc (Nat.le_refl _) _
 have HAL := zh hal
 have hblk : W.heap[w.heap.size]? = some (.cells (InV i A c) 90 (0, 0)) := by rw [hW]; exact heap_alloc_new w _
 have HBK := zh hblk; have HLT := zh (blk_lt hblk)
 obtain ⟨g0, g1, g2, g3, g4, g5, g6, g7, g8⟩ := in_cells hblk
 have hkk := of_decide_eq_true hk
 have o1 : ¬ i.o < 1 := by omega
 have o2 : ¬ 32 < i.o := by omega
 have hic : isCall i.o = false := by rw [← call_shape, hsh]; decide
 have h1f := one_of i.o
 rw [hsh] at h1f
 have HSH := zh (fun w => shape_r i.o w)
 rw [hsh] at HSH
 have HEM := zh (fun w => empty_2 i A c w (by omega))
 have HNM := zh (fun w => named_r i A c [97] w (by decide) hd hcl hnm h1f)
 have HCA := zh (fun w => call_r i.o w)
 rw [hic] at HCA
 have H97 := zh (fun w => has_r [97] 97 w (by decide))
 rw [show hasL [97] 97 = true by decide] at H97
 have H98 := zh (fun w => has_r [97] 98 w (by decide))
 rw [show hasL [97] 98 = false by decide] at H98
 have H99 := zh (fun w => has_r [97] 99 w (by decide))
 rw [show hasL [97] 99 = false by decide] at H99
 have H116 := zh (fun w => has_r [97] 116 w (by decide))
 rw [show hasL [97] 116 = false by decide] at H116
 have H114 := zh (fun w => has_r [97] 114 w (by decide))
 rw [show hasL [97] 114 = false by decide] at H114
 have HWa := zh (fun w => within_r i.a regs w)
 dsimp only [InV] at hW HEM HNM ⊢
 have HW := zh hW
 have HO := zh (show isCall i.o = false from hic)
 clear hal hblk hW h1f hd hcl hnm
 cases hem : emptyB i [97] with
 | false =>
  have hE : refE i [97] regs code = 1 := by simp [refE, hk, hic, hem]
  rw [hE]
  rw [hem] at HEM
  clear hE hem hsh hk hic hkk hr hz
  go_enter Try.func144, Try.ntmps144
  go_wp2_with fail
  rw [← HW.out]
  refine (HSH.out _).mono ?_; rintro e W ⟨rfl, rfl⟩
  go_wp2_with fail
  refine (HEM.out _).mono ?_
  rintro e v1 ⟨rfl, hb⟩
  obtain ⟨x0, x1, x2, x3, x4, x5, x6, x7, x8⟩ := in_cells ((hb.block _ HLT.out).trans HBK.out)
  have K1 := zh hb
  clear hb g0 g1 g2 g3 g4 g5 g6 g7 g8
  go_wp2
  go_ret
  exact ⟨rfl, HAL.out.trans (K1.out.mono HAL.out.size)⟩
 | true =>
 cases hnd : namedB i [97] with
 | false =>
  have hE : refE i [97] regs code = 1 := by simp [refE, hk, hic, hem, hnd]
  rw [hE]
  rw [hem] at HEM
  rw [hnd] at HNM
  clear hE hem hnd hsh hk hic hkk hr hz
  go_enter Try.func144, Try.ntmps144
  go_wp2_with fail
  rw [← HW.out]
  refine (HSH.out _).mono ?_; rintro e W ⟨rfl, rfl⟩
  go_wp2_with fail
  refine (HEM.out _).mono ?_
  rintro e v1 ⟨rfl, hb⟩
  obtain ⟨x0, x1, x2, x3, x4, x5, x6, x7, x8⟩ := in_cells ((hb.block _ HLT.out).trans HBK.out)
  have K1 := zh hb
  clear hb g0 g1 g2 g3 g4 g5 g6 g7 g8
  go_wp2_with fail
  refine (HNM.out _).mono ?_
  rintro e v2 ⟨rfl, hb⟩
  have K2 := zh (show Below W.heap.size W v2 from then' K1.out hb)
  obtain ⟨y0, y1, y2, y3, y4, y5, y6, y7, y8⟩ := in_cells ((K2.out.block _ HLT.out).trans HBK.out)
  clear hb x0 x1 x2 x3 x4 x5 x6 x7 x8
  go_wp2
  go_ret
  exact ⟨rfl, HAL.out.trans (K2.out.mono HAL.out.size)⟩
 | true =>
 have har : i.ar = [] := no_args hem (by decide)
 cases hwa : withB i.a regs with
 | false =>
  have hE : refE i [97] regs code = 12 := by simp [refE, hk, hic, hem, hnd, hwa, show hasL [97] 97 = true by decide]
  rw [hE]
  rw [hem] at HEM
  rw [hnd] at HNM
  rw [hwa] at HWa
  clear hE hem hnd hsh hk hic hkk hr hz har hwa
  go_enter Try.func144, Try.ntmps144
  go_wp2_with fail
  rw [← HW.out]
  refine (HSH.out _).mono ?_; rintro e W ⟨rfl, rfl⟩
  go_wp2_with fail
  refine (HEM.out _).mono ?_
  rintro e v1 ⟨rfl, hb⟩
  obtain ⟨x0, x1, x2, x3, x4, x5, x6, x7, x8⟩ := in_cells ((hb.block _ HLT.out).trans HBK.out)
  have K1 := zh hb
  clear hb g0 g1 g2 g3 g4 g5 g6 g7 g8
  go_wp2_with fail
  refine (HNM.out _).mono ?_
  rintro e v2 ⟨rfl, hb⟩
  have K2 := zh (show Below W.heap.size W v2 from then' K1.out hb)
  obtain ⟨y0, y1, y2, y3, y4, y5, y6, y7, y8⟩ := in_cells ((K2.out.block _ HLT.out).trans HBK.out)
  clear hb x0 x1 x2 x3 x4 x5 x6 x7 x8
  go_wp2_with fail
  refine (HCA.out _).mono ?_; rintro e v2 ⟨rfl, rfl⟩
  go_wp2_with fail
  refine (H97.out _).mono ?_; rintro e v2 ⟨rfl, rfl⟩
  go_wp2_with fail
  refine (HWa.out _).mono ?_; rintro e v2 ⟨rfl, rfl⟩
  go_wp2
  go_ret
  exact ⟨rfl, HAL.out.trans (K2.out.mono HAL.out.size)⟩
 | true =>
 have hE : refE i [97] regs code = 0 := by simp [refE, countedB, hsh, hk, hic, hem, hnd, hwa, har, show hasL [97] 97 = true by decide, show hasL [97] 98 = false by decide, show hasL [97] 99 = false by decide, show hasL [97] 116 = false by decide, show hasL [97] 114 = false by decide]
 rw [hE]
 rw [hem] at HEM
 rw [hnd] at HNM
 rw [hwa] at HWa
 have hln : i.ar.length = 0 := by rw [har]; rfl
 rw [hln] at HEM HNM HW g8 ⊢
 have HB9 := zh (show ∀ v : World, Below W.heap.size W v → v.cell? ⟨w.heap.size, 8, none⟩ = some (.slice A 0 c) from fun v hb => by have := (in_cells ((hb.block _ HLT.out).trans HBK.out)).2.2.2.2.2.2.2.2; rwa [hln] at this)
 clear hE hem hnd hsh hk hic hkk hr hz har hln hwa
 go_enter Try.func144, Try.ntmps144
 go_wp2_with fail
 rw [← HW.out]
 refine (HSH.out _).mono ?_; rintro e W ⟨rfl, rfl⟩
 go_wp2_with fail
 refine (HEM.out _).mono ?_
 rintro e v1 ⟨rfl, hb⟩
 obtain ⟨x0, x1, x2, x3, x4, x5, x6, x7, -⟩ := in_cells ((hb.block _ HLT.out).trans HBK.out)
 have x8 := HB9.out _ hb
 have K1 := zh hb
 clear hb g0 g1 g2 g3 g4 g5 g6 g7 g8
 go_wp2_with fail
 refine (HNM.out _).mono ?_
 rintro e v2 ⟨rfl, hb⟩
 have K2 := zh (show Below W.heap.size W v2 from then' K1.out hb)
 obtain ⟨y0, y1, y2, y3, y4, y5, y6, y7, -⟩ := in_cells ((K2.out.block _ HLT.out).trans HBK.out)
 have y8 := HB9.out _ K2.out
 clear hb x0 x1 x2 x3 x4 x5 x6 x7 x8
 go_wp2_with fail
 refine (HCA.out _).mono ?_; rintro e v2 ⟨rfl, rfl⟩
 go_wp2_with fail
 refine (H97.out _).mono ?_; rintro e v2 ⟨rfl, rfl⟩
 go_wp2_with fail
 refine (HWa.out _).mono ?_; rintro e v2 ⟨rfl, rfl⟩
 go_wp2_with fail
 refine (H98.out _).mono ?_; rintro e v2 ⟨rfl, rfl⟩
 go_wp2_with fail
 refine (H99.out _).mono ?_; rintro e v2 ⟨rfl, rfl⟩
 go_wp2
 go_loopw [13] (fun v wr => v = .int .i64 0 ∧ wr = v2) (fun _ _ => 0)
 case atStart => exact ⟨rfl, rfl⟩
 case round =>
  obtain ⟨rfl, rfl⟩ := hrel
  go_wp2_with fail
  refine (H116.out _).mono ?_; rintro e v2 ⟨rfl, rfl⟩
  go_wp2_with fail
  refine (H114.out _).mono ?_; rintro e v2 ⟨rfl, rfl⟩
  go_wp2
  go_ret
  exact ⟨rfl, HAL.out.trans (K2.out.mono HAL.out.size)⟩
theorem fits_r3 (i : In) (A : Option Addr) (c : Nat) (regs code : Int) (w : World) (hsh : shapeL i.o = [97, 98]) (hk : known i.o = true) (hr : Rd w A (IL i.ar)) (hz : i.ar.length ≤ 1000) (hd : i.ds.length ≤ 65536) (hcl : i.cl.length ≤ 281474976710656) (hnm : i.nm.length ≤ 281474976710656) :
  Calls Try.prog 144 #[.agg (InV i A c), .int .i64 regs, .int .i64 code] w fun e w' => e = .returned (.int .i64 (refE i [97, 98] regs code)) ∧ Below w.heap.size w w' := by
 obtain ⟨W, hW⟩ : ∃ W, W = w.alloc (.cells (InV i A c) 90) := ⟨_, rfl⟩
 have hal : Below w.heap.size w W := by rw [hW]; exact (Below.refl _ w).alloc (Nat.le_refl _) _
 have HAL := zh hal
 have hblk : W.heap[w.heap.size]? = some (.cells (InV i A c) 90 (0, 0)) := by rw [hW]; exact heap_alloc_new w _
 have HBK := zh hblk; have HLT := zh (blk_lt hblk)
 obtain ⟨g0, g1, g2, g3, g4, g5, g6, g7, g8⟩ := in_cells hblk
 have hkk := of_decide_eq_true hk
 have o1 : ¬ i.o < 1 := by omega
 have o2 : ¬ 32 < i.o := by omega
 have hic : isCall i.o = false := by rw [← call_shape, hsh]; decide
 have h1f := one_of i.o
 rw [hsh] at h1f
 have HSH := zh (fun w => shape_r i.o w)
 rw [hsh] at HSH
 have HEM := zh (fun w => empty_3 i A c w (by omega))
 have HNM := zh (fun w => named_r i A c [97, 98] w (by decide) hd hcl hnm h1f)
 have HCA := zh (fun w => call_r i.o w)
 rw [hic] at HCA
 have H97 := zh (fun w => has_r [97, 98] 97 w (by decide))
 rw [show hasL [97, 98] 97 = true by decide] at H97
 have H98 := zh (fun w => has_r [97, 98] 98 w (by decide))
 rw [show hasL [97, 98] 98 = true by decide] at H98
 have H99 := zh (fun w => has_r [97, 98] 99 w (by decide))
 rw [show hasL [97, 98] 99 = false by decide] at H99
 have H116 := zh (fun w => has_r [97, 98] 116 w (by decide))
 rw [show hasL [97, 98] 116 = false by decide] at H116
 have H114 := zh (fun w => has_r [97, 98] 114 w (by decide))
 rw [show hasL [97, 98] 114 = false by decide] at H114
 have HWa := zh (fun w => within_r i.a regs w)
 have HWb := zh (fun w => within_r i.b regs w)
 dsimp only [InV] at hW HEM HNM ⊢
 have HW := zh hW
 have HO := zh (show isCall i.o = false from hic)
 clear hal hblk hW h1f hd hcl hnm
 cases hem : emptyB i [97, 98] with
 | false =>
  have hE : refE i [97, 98] regs code = 1 := by simp [refE, hk, hic, hem]
  rw [hE]
  rw [hem] at HEM
  clear hE hem hsh hk hic hkk hr hz
  go_enter Try.func144, Try.ntmps144
  go_wp2_with fail
  rw [← HW.out]
  refine (HSH.out _).mono ?_; rintro e W ⟨rfl, rfl⟩
  go_wp2_with fail
  refine (HEM.out _).mono ?_
  rintro e v1 ⟨rfl, hb⟩
  obtain ⟨x0, x1, x2, x3, x4, x5, x6, x7, x8⟩ := in_cells ((hb.block _ HLT.out).trans HBK.out)
  have K1 := zh hb
  clear hb g0 g1 g2 g3 g4 g5 g6 g7 g8
  go_wp2
  go_ret
  exact ⟨rfl, HAL.out.trans (K1.out.mono HAL.out.size)⟩
 | true =>
 cases hnd : namedB i [97, 98] with
 | false =>
  have hE : refE i [97, 98] regs code = 1 := by simp [refE, hk, hic, hem, hnd]
  rw [hE]
  rw [hem] at HEM
  rw [hnd] at HNM
  clear hE hem hnd hsh hk hic hkk hr hz
  go_enter Try.func144, Try.ntmps144
  go_wp2_with fail
  rw [← HW.out]
  refine (HSH.out _).mono ?_; rintro e W ⟨rfl, rfl⟩
  go_wp2_with fail
  refine (HEM.out _).mono ?_
  rintro e v1 ⟨rfl, hb⟩
  obtain ⟨x0, x1, x2, x3, x4, x5, x6, x7, x8⟩ := in_cells ((hb.block _ HLT.out).trans HBK.out)
  have K1 := zh hb
  clear hb g0 g1 g2 g3 g4 g5 g6 g7 g8
  go_wp2_with fail
  refine (HNM.out _).mono ?_
  rintro e v2 ⟨rfl, hb⟩
  have K2 := zh (show Below W.heap.size W v2 from then' K1.out hb)
  obtain ⟨y0, y1, y2, y3, y4, y5, y6, y7, y8⟩ := in_cells ((K2.out.block _ HLT.out).trans HBK.out)
  clear hb x0 x1 x2 x3 x4 x5 x6 x7 x8
  go_wp2
  go_ret
  exact ⟨rfl, HAL.out.trans (K2.out.mono HAL.out.size)⟩
 | true =>
 have har : i.ar = [] := no_args hem (by decide)
 cases hwa : withB i.a regs with
 | false =>
  have hE : refE i [97, 98] regs code = 12 := by simp [refE, hk, hic, hem, hnd, hwa, show hasL [97, 98] 97 = true by decide]
  rw [hE]
  rw [hem] at HEM
  rw [hnd] at HNM
  rw [hwa] at HWa
  clear hE hem hnd hsh hk hic hkk hr hz har hwa
  go_enter Try.func144, Try.ntmps144
  go_wp2_with fail
  rw [← HW.out]
  refine (HSH.out _).mono ?_; rintro e W ⟨rfl, rfl⟩
  go_wp2_with fail
  refine (HEM.out _).mono ?_
  rintro e v1 ⟨rfl, hb⟩
  obtain ⟨x0, x1, x2, x3, x4, x5, x6, x7, x8⟩ := in_cells ((hb.block _ HLT.out).trans HBK.out)
  have K1 := zh hb
  clear hb g0 g1 g2 g3 g4 g5 g6 g7 g8
  go_wp2_with fail
  refine (HNM.out _).mono ?_
  rintro e v2 ⟨rfl, hb⟩
  have K2 := zh (show Below W.heap.size W v2 from then' K1.out hb)
  obtain ⟨y0, y1, y2, y3, y4, y5, y6, y7, y8⟩ := in_cells ((K2.out.block _ HLT.out).trans HBK.out)
  clear hb x0 x1 x2 x3 x4 x5 x6 x7 x8
  go_wp2_with fail
  refine (HCA.out _).mono ?_; rintro e v2 ⟨rfl, rfl⟩
  go_wp2_with fail
  refine (H97.out _).mono ?_; rintro e v2 ⟨rfl, rfl⟩
  go_wp2_with fail
  refine (HWa.out _).mono ?_; rintro e v2 ⟨rfl, rfl⟩
  go_wp2
  go_ret
  exact ⟨rfl, HAL.out.trans (K2.out.mono HAL.out.size)⟩
 | true =>
 cases hwb : withB i.b regs with
 | false =>
  have hE : refE i [97, 98] regs code = 12 := by simp [refE, hk, hic, hem, hnd, hwa, hwb, show hasL [97, 98] 98 = true by decide, show hasL [97, 98] 97 = true by decide]
  rw [hE]
  rw [hem] at HEM
  rw [hnd] at HNM
  rw [hwa] at HWa
  rw [hwb] at HWb
  clear hE hem hnd hsh hk hic hkk hr hz har hwa hwb
  go_enter Try.func144, Try.ntmps144
  go_wp2_with fail
  rw [← HW.out]
  refine (HSH.out _).mono ?_; rintro e W ⟨rfl, rfl⟩
  go_wp2_with fail
  refine (HEM.out _).mono ?_
  rintro e v1 ⟨rfl, hb⟩
  obtain ⟨x0, x1, x2, x3, x4, x5, x6, x7, x8⟩ := in_cells ((hb.block _ HLT.out).trans HBK.out)
  have K1 := zh hb
  clear hb g0 g1 g2 g3 g4 g5 g6 g7 g8
  go_wp2_with fail
  refine (HNM.out _).mono ?_
  rintro e v2 ⟨rfl, hb⟩
  have K2 := zh (show Below W.heap.size W v2 from then' K1.out hb)
  obtain ⟨y0, y1, y2, y3, y4, y5, y6, y7, y8⟩ := in_cells ((K2.out.block _ HLT.out).trans HBK.out)
  clear hb x0 x1 x2 x3 x4 x5 x6 x7 x8
  go_wp2_with fail
  refine (HCA.out _).mono ?_; rintro e v2 ⟨rfl, rfl⟩
  go_wp2_with fail
  refine (H97.out _).mono ?_; rintro e v2 ⟨rfl, rfl⟩
  go_wp2_with fail
  refine (HWa.out _).mono ?_; rintro e v2 ⟨rfl, rfl⟩
  go_wp2_with fail
  refine (H98.out _).mono ?_; rintro e v2 ⟨rfl, rfl⟩
  go_wp2_with fail
  refine (HWb.out _).mono ?_; rintro e v2 ⟨rfl, rfl⟩
  go_wp2
  go_ret
  exact ⟨rfl, HAL.out.trans (K2.out.mono HAL.out.size)⟩
 | true =>
 have hE : refE i [97, 98] regs code = 0 := by simp [refE, countedB, hsh, hk, hic, hem, hnd, hwa, hwb, har, show hasL [97, 98] 97 = true by decide, show hasL [97, 98] 98 = true by decide, show hasL [97, 98] 99 = false by decide, show hasL [97, 98] 116 = false by decide, show hasL [97, 98] 114 = false by decide]
 rw [hE]
 rw [hem] at HEM
 rw [hnd] at HNM
 rw [hwa] at HWa
 rw [hwb] at HWb
 have hln : i.ar.length = 0 := by rw [har]; rfl
 rw [hln] at HEM HNM HW g8 ⊢
 have HB9 := zh (show ∀ v : World, Below W.heap.size W v → v.cell? ⟨w.heap.size, 8, none⟩ = some (.slice A 0 c) from fun v hb => by have := (in_cells ((hb.block _ HLT.out).trans HBK.out)).2.2.2.2.2.2.2.2; rwa [hln] at this)
 clear hE hem hnd hsh hk hic hkk hr hz har hln hwa hwb
 go_enter Try.func144, Try.ntmps144
 go_wp2_with fail
 rw [← HW.out]
 refine (HSH.out _).mono ?_; rintro e W ⟨rfl, rfl⟩
 go_wp2_with fail
 refine (HEM.out _).mono ?_
 rintro e v1 ⟨rfl, hb⟩
 obtain ⟨x0, x1, x2, x3, x4, x5, x6, x7, -⟩ := in_cells ((hb.block _ HLT.out).trans HBK.out)
 have x8 := HB9.out _ hb
 have K1 := zh hb
 clear hb g0 g1 g2 g3 g4 g5 g6 g7 g8
 go_wp2_with fail
 refine (HNM.out _).mono ?_
 rintro e v2 ⟨rfl, hb⟩
 have K2 := zh (show Below W.heap.size W v2 from then' K1.out hb)
 obtain ⟨y0, y1, y2, y3, y4, y5, y6, y7, -⟩ := in_cells ((K2.out.block _ HLT.out).trans HBK.out)
 have y8 := HB9.out _ K2.out
 clear hb x0 x1 x2 x3 x4 x5 x6 x7 x8
 go_wp2_with fail
 refine (HCA.out _).mono ?_; rintro e v2 ⟨rfl, rfl⟩
 go_wp2_with fail
 refine (H97.out _).mono ?_; rintro e v2 ⟨rfl, rfl⟩
 go_wp2_with fail
 refine (HWa.out _).mono ?_; rintro e v2 ⟨rfl, rfl⟩
 go_wp2_with fail
 refine (H98.out _).mono ?_; rintro e v2 ⟨rfl, rfl⟩
 go_wp2_with fail
 refine (HWb.out _).mono ?_; rintro e v2 ⟨rfl, rfl⟩
 go_wp2_with fail
 refine (H99.out _).mono ?_; rintro e v2 ⟨rfl, rfl⟩
 go_wp2
 go_loopw [13] (fun v wr => v = .int .i64 0 ∧ wr = v2) (fun _ _ => 0)
 case atStart => exact ⟨rfl, rfl⟩
 case round =>
  obtain ⟨rfl, rfl⟩ := hrel
  go_wp2_with fail
  refine (H116.out _).mono ?_; rintro e v2 ⟨rfl, rfl⟩
  go_wp2_with fail
  refine (H114.out _).mono ?_; rintro e v2 ⟨rfl, rfl⟩
  go_wp2
  go_ret
  exact ⟨rfl, HAL.out.trans (K2.out.mono HAL.out.size)⟩
end Go.Proofs.Ytdifmgeicnndfaa.op
namespace Go.Proofs.Ytdifmgeicnndfaa.op
open Go.RowKit
open words kindp opp kind word
set_option maxRecDepth 100000
set_option maxHeartbeats 16000000
set_option linter.all false
theorem fits_r5 (i : In) (A : Option Addr) (c : Nat) (regs code : Int) (w : World) (hsh : shapeL i.o = [116]) (hk : known i.o = true) (hr : Rd w A (IL i.ar)) (hz : i.ar.length ≤ 1000) (hd : i.ds.length ≤ 65536) (hcl : i.cl.length ≤ 281474976710656) (hnm : i.nm.length ≤ 281474976710656) :
  Calls Try.prog 144 #[.agg (InV i A c), .int .i64 regs, .int .i64 code] w fun e w' => e = .returned (.int .i64 (refE i [116] regs code)) ∧ Below w.heap.size w w' := by
 obtain ⟨W, hW⟩ : ∃ W, W = w.alloc (.cells (InV i A c) 90) := ⟨_, rfl⟩
 have hal : Below w.heap.size w W := by rw [hW]; exact (Below.refl _ w).alloc (Nat.le_refl _) _
 have HAL := zh hal
 have hblk : W.heap[w.heap.size]? = some (.cells (InV i A c) 90 (0, 0)) := by rw [hW]; exact heap_alloc_new w _
 have HBK := zh hblk; have HLT := zh (blk_lt hblk)
 obtain ⟨g0, g1, g2, g3, g4, g5, g6, g7, g8⟩ := in_cells hblk
 have hkk := of_decide_eq_true hk
 have o1 : ¬ i.o < 1 := by omega
 have o2 : ¬ 32 < i.o := by omega
 have hic : isCall i.o = false := by rw [← call_shape, hsh]; decide
 have h1f := one_of i.o
 rw [hsh] at h1f
 have HSH := zh (fun w => shape_r i.o w)
 rw [hsh] at HSH
 have HEM := zh (fun w => empty_5 i A c w (by omega))
 have HNM := zh (fun w => named_r i A c [116] w (by decide) hd hcl hnm h1f)
 have HCA := zh (fun w => call_r i.o w)
 rw [hic] at HCA
 have H97 := zh (fun w => has_r [116] 97 w (by decide))
 rw [show hasL [116] 97 = false by decide] at H97
 have H98 := zh (fun w => has_r [116] 98 w (by decide))
 rw [show hasL [116] 98 = false by decide] at H98
 have H99 := zh (fun w => has_r [116] 99 w (by decide))
 rw [show hasL [116] 99 = false by decide] at H99
 have H116 := zh (fun w => has_r [116] 116 w (by decide))
 rw [show hasL [116] 116 = true by decide] at H116
 have H114 := zh (fun w => has_r [116] 114 w (by decide))
 rw [show hasL [116] 114 = false by decide] at H114
 dsimp only [InV] at hW HEM HNM ⊢
 have HW := zh hW
 have HO := zh (show isCall i.o = false from hic)
 clear hal hblk hW h1f hd hcl hnm
 cases hem : emptyB i [116] with
 | false =>
  have hE : refE i [116] regs code = 1 := by simp [refE, hk, hic, hem]
  rw [hE]
  rw [hem] at HEM
  clear hE hem hsh hk hic hkk hr hz
  go_enter Try.func144, Try.ntmps144
  go_wp2_with fail
  rw [← HW.out]
  refine (HSH.out _).mono ?_; rintro e W ⟨rfl, rfl⟩
  go_wp2_with fail
  refine (HEM.out _).mono ?_
  rintro e v1 ⟨rfl, hb⟩
  obtain ⟨x0, x1, x2, x3, x4, x5, x6, x7, x8⟩ := in_cells ((hb.block _ HLT.out).trans HBK.out)
  have K1 := zh hb
  clear hb g0 g1 g2 g3 g4 g5 g6 g7 g8
  go_wp2
  go_ret
  exact ⟨rfl, HAL.out.trans (K1.out.mono HAL.out.size)⟩
 | true =>
 cases hnd : namedB i [116] with
 | false =>
  have hE : refE i [116] regs code = 1 := by simp [refE, hk, hic, hem, hnd]
  rw [hE]
  rw [hem] at HEM
  rw [hnd] at HNM
  clear hE hem hnd hsh hk hic hkk hr hz
  go_enter Try.func144, Try.ntmps144
  go_wp2_with fail
  rw [← HW.out]
  refine (HSH.out _).mono ?_; rintro e W ⟨rfl, rfl⟩
  go_wp2_with fail
  refine (HEM.out _).mono ?_
  rintro e v1 ⟨rfl, hb⟩
  obtain ⟨x0, x1, x2, x3, x4, x5, x6, x7, x8⟩ := in_cells ((hb.block _ HLT.out).trans HBK.out)
  have K1 := zh hb
  clear hb g0 g1 g2 g3 g4 g5 g6 g7 g8
  go_wp2_with fail
  refine (HNM.out _).mono ?_
  rintro e v2 ⟨rfl, hb⟩
  have K2 := zh (show Below W.heap.size W v2 from then' K1.out hb)
  obtain ⟨y0, y1, y2, y3, y4, y5, y6, y7, y8⟩ := in_cells ((K2.out.block _ HLT.out).trans HBK.out)
  clear hb x0 x1 x2 x3 x4 x5 x6 x7 x8
  go_wp2
  go_ret
  exact ⟨rfl, HAL.out.trans (K2.out.mono HAL.out.size)⟩
 | true =>
 have har : i.ar = [] := no_args hem (by decide)
 by_cases k0 : i.k < 0
 ·have k0n : ¬ 0 ≤ i.k := by omega
  have hE : refE i [116] regs code = 12 := by simp [refE, countedB, hsh, hk, hic, hem, hnd, har, show hasL [116] 97 = false by decide, show hasL [116] 98 = false by decide, show hasL [116] 99 = false by decide, show hasL [116] 116 = true by decide, show hasL [116] 114 = false by decide, k0n]
  rw [hE]
  rw [hem] at HEM
  rw [hnd] at HNM
  have hln : i.ar.length = 0 := by rw [har]; rfl
  rw [hln] at HEM HNM HW g8 ⊢
  have HB9 := zh (show ∀ v : World, Below W.heap.size W v → v.cell? ⟨w.heap.size, 8, none⟩ = some (.slice A 0 c) from fun v hb => by have := (in_cells ((hb.block _ HLT.out).trans HBK.out)).2.2.2.2.2.2.2.2; rwa [hln] at this)
  clear hE hem hnd hsh hk hic hkk hr hz har hln 
  go_enter Try.func144, Try.ntmps144
  go_wp2_with fail
  rw [← HW.out]
  refine (HSH.out _).mono ?_; rintro e W ⟨rfl, rfl⟩
  go_wp2_with fail
  refine (HEM.out _).mono ?_
  rintro e v1 ⟨rfl, hb⟩
  obtain ⟨x0, x1, x2, x3, x4, x5, x6, x7, -⟩ := in_cells ((hb.block _ HLT.out).trans HBK.out)
  have x8 := HB9.out _ hb
  have K1 := zh hb
  clear hb g0 g1 g2 g3 g4 g5 g6 g7 g8
  go_wp2_with fail
  refine (HNM.out _).mono ?_
  rintro e v2 ⟨rfl, hb⟩
  have K2 := zh (show Below W.heap.size W v2 from then' K1.out hb)
  obtain ⟨y0, y1, y2, y3, y4, y5, y6, y7, -⟩ := in_cells ((K2.out.block _ HLT.out).trans HBK.out)
  have y8 := HB9.out _ K2.out
  clear hb x0 x1 x2 x3 x4 x5 x6 x7 x8
  go_wp2_with fail
  refine (HCA.out _).mono ?_; rintro e v2 ⟨rfl, rfl⟩
  go_wp2_with fail
  refine (H97.out _).mono ?_; rintro e v2 ⟨rfl, rfl⟩
  go_wp2_with fail
  refine (H98.out _).mono ?_; rintro e v2 ⟨rfl, rfl⟩
  go_wp2_with fail
  refine (H99.out _).mono ?_; rintro e v2 ⟨rfl, rfl⟩
  go_wp2
  go_loopw [13] (fun v wr => v = .int .i64 0 ∧ wr = v2) (fun _ _ => 0)
  case atStart => exact ⟨rfl, rfl⟩
  case round =>
   obtain ⟨rfl, rfl⟩ := hrel
   go_wp2_with fail
   refine (H116.out _).mono ?_; rintro e v2 ⟨rfl, rfl⟩
   go_wp2
   go_ret
   exact ⟨rfl, HAL.out.trans (K2.out.mono HAL.out.size)⟩
 ·have k0n : 0 ≤ i.k := by omega
  by_cases k1 : code ≤ i.k
  ·have k1n : ¬ i.k < code := by omega
   have hE : refE i [116] regs code = 12 := by simp [refE, countedB, hsh, hk, hic, hem, hnd, har, show hasL [116] 97 = false by decide, show hasL [116] 98 = false by decide, show hasL [116] 99 = false by decide, show hasL [116] 116 = true by decide, show hasL [116] 114 = false by decide, k0n, k1n]
   rw [hE]
   rw [hem] at HEM
   rw [hnd] at HNM
   have hln : i.ar.length = 0 := by rw [har]; rfl
   rw [hln] at HEM HNM HW g8 ⊢
   have HB9 := zh (show ∀ v : World, Below W.heap.size W v → v.cell? ⟨w.heap.size, 8, none⟩ = some (.slice A 0 c) from fun v hb => by have := (in_cells ((hb.block _ HLT.out).trans HBK.out)).2.2.2.2.2.2.2.2; rwa [hln] at this)
   clear hE hem hnd hsh hk hic hkk hr hz har hln 
   go_enter Try.func144, Try.ntmps144
   go_wp2_with fail
   rw [← HW.out]
   refine (HSH.out _).mono ?_; rintro e W ⟨rfl, rfl⟩
   go_wp2_with fail
   refine (HEM.out _).mono ?_
   rintro e v1 ⟨rfl, hb⟩
   obtain ⟨x0, x1, x2, x3, x4, x5, x6, x7, -⟩ := in_cells ((hb.block _ HLT.out).trans HBK.out)
   have x8 := HB9.out _ hb
   have K1 := zh hb
   clear hb g0 g1 g2 g3 g4 g5 g6 g7 g8
   go_wp2_with fail
   refine (HNM.out _).mono ?_
   rintro e v2 ⟨rfl, hb⟩
   have K2 := zh (show Below W.heap.size W v2 from then' K1.out hb)
   obtain ⟨y0, y1, y2, y3, y4, y5, y6, y7, -⟩ := in_cells ((K2.out.block _ HLT.out).trans HBK.out)
   have y8 := HB9.out _ K2.out
   clear hb x0 x1 x2 x3 x4 x5 x6 x7 x8
   go_wp2_with fail
   refine (HCA.out _).mono ?_; rintro e v2 ⟨rfl, rfl⟩
   go_wp2_with fail
   refine (H97.out _).mono ?_; rintro e v2 ⟨rfl, rfl⟩
   go_wp2_with fail
   refine (H98.out _).mono ?_; rintro e v2 ⟨rfl, rfl⟩
   go_wp2_with fail
   refine (H99.out _).mono ?_; rintro e v2 ⟨rfl, rfl⟩
   go_wp2
   go_loopw [13] (fun v wr => v = .int .i64 0 ∧ wr = v2) (fun _ _ => 0)
   case atStart => exact ⟨rfl, rfl⟩
   case round =>
    obtain ⟨rfl, rfl⟩ := hrel
    go_wp2_with fail
    refine (H116.out _).mono ?_; rintro e v2 ⟨rfl, rfl⟩
    go_wp2
    go_ret
    exact ⟨rfl, HAL.out.trans (K2.out.mono HAL.out.size)⟩
  ·have k1n : i.k < code := by omega
   have hE : refE i [116] regs code = 0 := by simp [refE, countedB, hsh, hk, hic, hem, hnd, har, show hasL [116] 97 = false by decide, show hasL [116] 98 = false by decide, show hasL [116] 99 = false by decide, show hasL [116] 116 = true by decide, show hasL [116] 114 = false by decide, k0n, k1n]
   rw [hE]
   rw [hem] at HEM
   rw [hnd] at HNM
   have hln : i.ar.length = 0 := by rw [har]; rfl
   rw [hln] at HEM HNM HW g8 ⊢
   have HB9 := zh (show ∀ v : World, Below W.heap.size W v → v.cell? ⟨w.heap.size, 8, none⟩ = some (.slice A 0 c) from fun v hb => by have := (in_cells ((hb.block _ HLT.out).trans HBK.out)).2.2.2.2.2.2.2.2; rwa [hln] at this)
   clear hE hem hnd hsh hk hic hkk hr hz har hln 
   go_enter Try.func144, Try.ntmps144
   go_wp2_with fail
   rw [← HW.out]
   refine (HSH.out _).mono ?_; rintro e W ⟨rfl, rfl⟩
   go_wp2_with fail
   refine (HEM.out _).mono ?_
   rintro e v1 ⟨rfl, hb⟩
   obtain ⟨x0, x1, x2, x3, x4, x5, x6, x7, -⟩ := in_cells ((hb.block _ HLT.out).trans HBK.out)
   have x8 := HB9.out _ hb
   have K1 := zh hb
   clear hb g0 g1 g2 g3 g4 g5 g6 g7 g8
   go_wp2_with fail
   refine (HNM.out _).mono ?_
   rintro e v2 ⟨rfl, hb⟩
   have K2 := zh (show Below W.heap.size W v2 from then' K1.out hb)
   obtain ⟨y0, y1, y2, y3, y4, y5, y6, y7, -⟩ := in_cells ((K2.out.block _ HLT.out).trans HBK.out)
   have y8 := HB9.out _ K2.out
   clear hb x0 x1 x2 x3 x4 x5 x6 x7 x8
   go_wp2_with fail
   refine (HCA.out _).mono ?_; rintro e v2 ⟨rfl, rfl⟩
   go_wp2_with fail
   refine (H97.out _).mono ?_; rintro e v2 ⟨rfl, rfl⟩
   go_wp2_with fail
   refine (H98.out _).mono ?_; rintro e v2 ⟨rfl, rfl⟩
   go_wp2_with fail
   refine (H99.out _).mono ?_; rintro e v2 ⟨rfl, rfl⟩
   go_wp2
   go_loopw [13] (fun v wr => v = .int .i64 0 ∧ wr = v2) (fun _ _ => 0)
   case atStart => exact ⟨rfl, rfl⟩
   case round =>
    obtain ⟨rfl, rfl⟩ := hrel
    go_wp2_with fail
    refine (H116.out _).mono ?_; rintro e v2 ⟨rfl, rfl⟩
    go_wp2_with fail
    refine (H114.out _).mono ?_; rintro e v2 ⟨rfl, rfl⟩
    go_wp2
    go_ret
    exact ⟨rfl, HAL.out.trans (K2.out.mono HAL.out.size)⟩
theorem fits_r6 (i : In) (A : Option Addr) (c : Nat) (regs code : Int) (w : World) (hsh : shapeL i.o = [98, 116]) (hk : known i.o = true) (hr : Rd w A (IL i.ar)) (hz : i.ar.length ≤ 1000) (hd : i.ds.length ≤ 65536) (hcl : i.cl.length ≤ 281474976710656) (hnm : i.nm.length ≤ 281474976710656) :
  Calls Try.prog 144 #[.agg (InV i A c), .int .i64 regs, .int .i64 code] w fun e w' => e = .returned (.int .i64 (refE i [98, 116] regs code)) ∧ Below w.heap.size w w' := by
 obtain ⟨W, hW⟩ : ∃ W, W = w.alloc (.cells (InV i A c) 90) := ⟨_, rfl⟩
 have hal : Below w.heap.size w W := by rw [hW]; exact (Below.refl _ w).alloc (Nat.le_refl _) _
 have HAL := zh hal
 have hblk : W.heap[w.heap.size]? = some (.cells (InV i A c) 90 (0, 0)) := by rw [hW]; exact heap_alloc_new w _
 have HBK := zh hblk; have HLT := zh (blk_lt hblk)
 obtain ⟨g0, g1, g2, g3, g4, g5, g6, g7, g8⟩ := in_cells hblk
 have hkk := of_decide_eq_true hk
 have o1 : ¬ i.o < 1 := by omega
 have o2 : ¬ 32 < i.o := by omega
 have hic : isCall i.o = false := by rw [← call_shape, hsh]; decide
 have h1f := one_of i.o
 rw [hsh] at h1f
 have HSH := zh (fun w => shape_r i.o w)
 rw [hsh] at HSH
 have HEM := zh (fun w => empty_6 i A c w (by omega))
 have HNM := zh (fun w => named_r i A c [98, 116] w (by decide) hd hcl hnm h1f)
 have HCA := zh (fun w => call_r i.o w)
 rw [hic] at HCA
 have H97 := zh (fun w => has_r [98, 116] 97 w (by decide))
 rw [show hasL [98, 116] 97 = false by decide] at H97
 have H98 := zh (fun w => has_r [98, 116] 98 w (by decide))
 rw [show hasL [98, 116] 98 = true by decide] at H98
 have H99 := zh (fun w => has_r [98, 116] 99 w (by decide))
 rw [show hasL [98, 116] 99 = false by decide] at H99
 have H116 := zh (fun w => has_r [98, 116] 116 w (by decide))
 rw [show hasL [98, 116] 116 = true by decide] at H116
 have H114 := zh (fun w => has_r [98, 116] 114 w (by decide))
 rw [show hasL [98, 116] 114 = false by decide] at H114
 have HWb := zh (fun w => within_r i.b regs w)
 dsimp only [InV] at hW HEM HNM ⊢
 have HW := zh hW
 have HO := zh (show isCall i.o = false from hic)
 clear hal hblk hW h1f hd hcl hnm
 cases hem : emptyB i [98, 116] with
 | false =>
  have hE : refE i [98, 116] regs code = 1 := by simp [refE, hk, hic, hem]
  rw [hE]
  rw [hem] at HEM
  clear hE hem hsh hk hic hkk hr hz
  go_enter Try.func144, Try.ntmps144
  go_wp2_with fail
  rw [← HW.out]
  refine (HSH.out _).mono ?_; rintro e W ⟨rfl, rfl⟩
  go_wp2_with fail
  refine (HEM.out _).mono ?_
  rintro e v1 ⟨rfl, hb⟩
  obtain ⟨x0, x1, x2, x3, x4, x5, x6, x7, x8⟩ := in_cells ((hb.block _ HLT.out).trans HBK.out)
  have K1 := zh hb
  clear hb g0 g1 g2 g3 g4 g5 g6 g7 g8
  go_wp2
  go_ret
  exact ⟨rfl, HAL.out.trans (K1.out.mono HAL.out.size)⟩
 | true =>
 cases hnd : namedB i [98, 116] with
 | false =>
  have hE : refE i [98, 116] regs code = 1 := by simp [refE, hk, hic, hem, hnd]
  rw [hE]
  rw [hem] at HEM
  rw [hnd] at HNM
  clear hE hem hnd hsh hk hic hkk hr hz
  go_enter Try.func144, Try.ntmps144
  go_wp2_with fail
  rw [← HW.out]
  refine (HSH.out _).mono ?_; rintro e W ⟨rfl, rfl⟩
  go_wp2_with fail
  refine (HEM.out _).mono ?_
  rintro e v1 ⟨rfl, hb⟩
  obtain ⟨x0, x1, x2, x3, x4, x5, x6, x7, x8⟩ := in_cells ((hb.block _ HLT.out).trans HBK.out)
  have K1 := zh hb
  clear hb g0 g1 g2 g3 g4 g5 g6 g7 g8
  go_wp2_with fail
  refine (HNM.out _).mono ?_
  rintro e v2 ⟨rfl, hb⟩
  have K2 := zh (show Below W.heap.size W v2 from then' K1.out hb)
  obtain ⟨y0, y1, y2, y3, y4, y5, y6, y7, y8⟩ := in_cells ((K2.out.block _ HLT.out).trans HBK.out)
  clear hb x0 x1 x2 x3 x4 x5 x6 x7 x8
  go_wp2
  go_ret
  exact ⟨rfl, HAL.out.trans (K2.out.mono HAL.out.size)⟩
 | true =>
 have har : i.ar = [] := no_args hem (by decide)
 cases hwb : withB i.b regs with
 | false =>
  have hE : refE i [98, 116] regs code = 12 := by simp [refE, hk, hic, hem, hnd, hwb, show hasL [98, 116] 98 = true by decide, show hasL [98, 116] 97 = false by decide]
  rw [hE]
  rw [hem] at HEM
  rw [hnd] at HNM
  rw [hwb] at HWb
  clear hE hem hnd hsh hk hic hkk hr hz har hwb
  go_enter Try.func144, Try.ntmps144
  go_wp2_with fail
  rw [← HW.out]
  refine (HSH.out _).mono ?_; rintro e W ⟨rfl, rfl⟩
  go_wp2_with fail
  refine (HEM.out _).mono ?_
  rintro e v1 ⟨rfl, hb⟩
  obtain ⟨x0, x1, x2, x3, x4, x5, x6, x7, x8⟩ := in_cells ((hb.block _ HLT.out).trans HBK.out)
  have K1 := zh hb
  clear hb g0 g1 g2 g3 g4 g5 g6 g7 g8
  go_wp2_with fail
  refine (HNM.out _).mono ?_
  rintro e v2 ⟨rfl, hb⟩
  have K2 := zh (show Below W.heap.size W v2 from then' K1.out hb)
  obtain ⟨y0, y1, y2, y3, y4, y5, y6, y7, y8⟩ := in_cells ((K2.out.block _ HLT.out).trans HBK.out)
  clear hb x0 x1 x2 x3 x4 x5 x6 x7 x8
  go_wp2_with fail
  refine (HCA.out _).mono ?_; rintro e v2 ⟨rfl, rfl⟩
  go_wp2_with fail
  refine (H97.out _).mono ?_; rintro e v2 ⟨rfl, rfl⟩
  go_wp2_with fail
  refine (H98.out _).mono ?_; rintro e v2 ⟨rfl, rfl⟩
  go_wp2_with fail
  refine (HWb.out _).mono ?_; rintro e v2 ⟨rfl, rfl⟩
  go_wp2
  go_ret
  exact ⟨rfl, HAL.out.trans (K2.out.mono HAL.out.size)⟩
 | true =>
 by_cases k0 : i.k < 0
 ·have k0n : ¬ 0 ≤ i.k := by omega
  have hE : refE i [98, 116] regs code = 12 := by simp [refE, countedB, hsh, hk, hic, hem, hnd, hwb, har, show hasL [98, 116] 97 = false by decide, show hasL [98, 116] 98 = true by decide, show hasL [98, 116] 99 = false by decide, show hasL [98, 116] 116 = true by decide, show hasL [98, 116] 114 = false by decide, k0n]
  rw [hE]
  rw [hem] at HEM
  rw [hnd] at HNM
  rw [hwb] at HWb
  have hln : i.ar.length = 0 := by rw [har]; rfl
  rw [hln] at HEM HNM HW g8 ⊢
  have HB9 := zh (show ∀ v : World, Below W.heap.size W v → v.cell? ⟨w.heap.size, 8, none⟩ = some (.slice A 0 c) from fun v hb => by have := (in_cells ((hb.block _ HLT.out).trans HBK.out)).2.2.2.2.2.2.2.2; rwa [hln] at this)
  clear hE hem hnd hsh hk hic hkk hr hz har hln hwb
  go_enter Try.func144, Try.ntmps144
  go_wp2_with fail
  rw [← HW.out]
  refine (HSH.out _).mono ?_; rintro e W ⟨rfl, rfl⟩
  go_wp2_with fail
  refine (HEM.out _).mono ?_
  rintro e v1 ⟨rfl, hb⟩
  obtain ⟨x0, x1, x2, x3, x4, x5, x6, x7, -⟩ := in_cells ((hb.block _ HLT.out).trans HBK.out)
  have x8 := HB9.out _ hb
  have K1 := zh hb
  clear hb g0 g1 g2 g3 g4 g5 g6 g7 g8
  go_wp2_with fail
  refine (HNM.out _).mono ?_
  rintro e v2 ⟨rfl, hb⟩
  have K2 := zh (show Below W.heap.size W v2 from then' K1.out hb)
  obtain ⟨y0, y1, y2, y3, y4, y5, y6, y7, -⟩ := in_cells ((K2.out.block _ HLT.out).trans HBK.out)
  have y8 := HB9.out _ K2.out
  clear hb x0 x1 x2 x3 x4 x5 x6 x7 x8
  go_wp2_with fail
  refine (HCA.out _).mono ?_; rintro e v2 ⟨rfl, rfl⟩
  go_wp2_with fail
  refine (H97.out _).mono ?_; rintro e v2 ⟨rfl, rfl⟩
  go_wp2_with fail
  refine (H98.out _).mono ?_; rintro e v2 ⟨rfl, rfl⟩
  go_wp2_with fail
  refine (HWb.out _).mono ?_; rintro e v2 ⟨rfl, rfl⟩
  go_wp2_with fail
  refine (H99.out _).mono ?_; rintro e v2 ⟨rfl, rfl⟩
  go_wp2
  go_loopw [13] (fun v wr => v = .int .i64 0 ∧ wr = v2) (fun _ _ => 0)
  case atStart => exact ⟨rfl, rfl⟩
  case round =>
   obtain ⟨rfl, rfl⟩ := hrel
   go_wp2_with fail
   refine (H116.out _).mono ?_; rintro e v2 ⟨rfl, rfl⟩
   go_wp2
   go_ret
   exact ⟨rfl, HAL.out.trans (K2.out.mono HAL.out.size)⟩
 ·have k0n : 0 ≤ i.k := by omega
  by_cases k1 : code ≤ i.k
  ·have k1n : ¬ i.k < code := by omega
   have hE : refE i [98, 116] regs code = 12 := by simp [refE, countedB, hsh, hk, hic, hem, hnd, hwb, har, show hasL [98, 116] 97 = false by decide, show hasL [98, 116] 98 = true by decide, show hasL [98, 116] 99 = false by decide, show hasL [98, 116] 116 = true by decide, show hasL [98, 116] 114 = false by decide, k0n, k1n]
   rw [hE]
   rw [hem] at HEM
   rw [hnd] at HNM
   rw [hwb] at HWb
   have hln : i.ar.length = 0 := by rw [har]; rfl
   rw [hln] at HEM HNM HW g8 ⊢
   have HB9 := zh (show ∀ v : World, Below W.heap.size W v → v.cell? ⟨w.heap.size, 8, none⟩ = some (.slice A 0 c) from fun v hb => by have := (in_cells ((hb.block _ HLT.out).trans HBK.out)).2.2.2.2.2.2.2.2; rwa [hln] at this)
   clear hE hem hnd hsh hk hic hkk hr hz har hln hwb
   go_enter Try.func144, Try.ntmps144
   go_wp2_with fail
   rw [← HW.out]
   refine (HSH.out _).mono ?_; rintro e W ⟨rfl, rfl⟩
   go_wp2_with fail
   refine (HEM.out _).mono ?_
   rintro e v1 ⟨rfl, hb⟩
   obtain ⟨x0, x1, x2, x3, x4, x5, x6, x7, -⟩ := in_cells ((hb.block _ HLT.out).trans HBK.out)
   have x8 := HB9.out _ hb
   have K1 := zh hb
   clear hb g0 g1 g2 g3 g4 g5 g6 g7 g8
   go_wp2_with fail
   refine (HNM.out _).mono ?_
   rintro e v2 ⟨rfl, hb⟩
   have K2 := zh (show Below W.heap.size W v2 from then' K1.out hb)
   obtain ⟨y0, y1, y2, y3, y4, y5, y6, y7, -⟩ := in_cells ((K2.out.block _ HLT.out).trans HBK.out)
   have y8 := HB9.out _ K2.out
   clear hb x0 x1 x2 x3 x4 x5 x6 x7 x8
   go_wp2_with fail
   refine (HCA.out _).mono ?_; rintro e v2 ⟨rfl, rfl⟩
   go_wp2_with fail
   refine (H97.out _).mono ?_; rintro e v2 ⟨rfl, rfl⟩
   go_wp2_with fail
   refine (H98.out _).mono ?_; rintro e v2 ⟨rfl, rfl⟩
   go_wp2_with fail
   refine (HWb.out _).mono ?_; rintro e v2 ⟨rfl, rfl⟩
   go_wp2_with fail
   refine (H99.out _).mono ?_; rintro e v2 ⟨rfl, rfl⟩
   go_wp2
   go_loopw [13] (fun v wr => v = .int .i64 0 ∧ wr = v2) (fun _ _ => 0)
   case atStart => exact ⟨rfl, rfl⟩
   case round =>
    obtain ⟨rfl, rfl⟩ := hrel
    go_wp2_with fail
    refine (H116.out _).mono ?_; rintro e v2 ⟨rfl, rfl⟩
    go_wp2
    go_ret
    exact ⟨rfl, HAL.out.trans (K2.out.mono HAL.out.size)⟩
  ·have k1n : i.k < code := by omega
   have hE : refE i [98, 116] regs code = 0 := by simp [refE, countedB, hsh, hk, hic, hem, hnd, hwb, har, show hasL [98, 116] 97 = false by decide, show hasL [98, 116] 98 = true by decide, show hasL [98, 116] 99 = false by decide, show hasL [98, 116] 116 = true by decide, show hasL [98, 116] 114 = false by decide, k0n, k1n]
   rw [hE]
   rw [hem] at HEM
   rw [hnd] at HNM
   rw [hwb] at HWb
   have hln : i.ar.length = 0 := by rw [har]; rfl
   rw [hln] at HEM HNM HW g8 ⊢
   have HB9 := zh (show ∀ v : World, Below W.heap.size W v → v.cell? ⟨w.heap.size, 8, none⟩ = some (.slice A 0 c) from fun v hb => by have := (in_cells ((hb.block _ HLT.out).trans HBK.out)).2.2.2.2.2.2.2.2; rwa [hln] at this)
   clear hE hem hnd hsh hk hic hkk hr hz har hln hwb
   go_enter Try.func144, Try.ntmps144
   go_wp2_with fail
   rw [← HW.out]
   refine (HSH.out _).mono ?_; rintro e W ⟨rfl, rfl⟩
   go_wp2_with fail
   refine (HEM.out _).mono ?_
   rintro e v1 ⟨rfl, hb⟩
   obtain ⟨x0, x1, x2, x3, x4, x5, x6, x7, -⟩ := in_cells ((hb.block _ HLT.out).trans HBK.out)
   have x8 := HB9.out _ hb
   have K1 := zh hb
   clear hb g0 g1 g2 g3 g4 g5 g6 g7 g8
   go_wp2_with fail
   refine (HNM.out _).mono ?_
   rintro e v2 ⟨rfl, hb⟩
   have K2 := zh (show Below W.heap.size W v2 from then' K1.out hb)
   obtain ⟨y0, y1, y2, y3, y4, y5, y6, y7, -⟩ := in_cells ((K2.out.block _ HLT.out).trans HBK.out)
   have y8 := HB9.out _ K2.out
   clear hb x0 x1 x2 x3 x4 x5 x6 x7 x8
   go_wp2_with fail
   refine (HCA.out _).mono ?_; rintro e v2 ⟨rfl, rfl⟩
   go_wp2_with fail
   refine (H97.out _).mono ?_; rintro e v2 ⟨rfl, rfl⟩
   go_wp2_with fail
   refine (H98.out _).mono ?_; rintro e v2 ⟨rfl, rfl⟩
   go_wp2_with fail
   refine (HWb.out _).mono ?_; rintro e v2 ⟨rfl, rfl⟩
   go_wp2_with fail
   refine (H99.out _).mono ?_; rintro e v2 ⟨rfl, rfl⟩
   go_wp2
   go_loopw [13] (fun v wr => v = .int .i64 0 ∧ wr = v2) (fun _ _ => 0)
   case atStart => exact ⟨rfl, rfl⟩
   case round =>
    obtain ⟨rfl, rfl⟩ := hrel
    go_wp2_with fail
    refine (H116.out _).mono ?_; rintro e v2 ⟨rfl, rfl⟩
    go_wp2_with fail
    refine (H114.out _).mono ?_; rintro e v2 ⟨rfl, rfl⟩
    go_wp2
    go_ret
    exact ⟨rfl, HAL.out.trans (K2.out.mono HAL.out.size)⟩
end Go.Proofs.Ytdifmgeicnndfaa.op
namespace Go.Proofs.Ytdifmgeicnndfaa.op
open Go.RowKit
open words kindp opp kind word
set_option maxRecDepth 100000
set_option maxHeartbeats 16000000
set_option linter.all false
theorem fits_r9 (i : In) (A : Option Addr) (c : Nat) (regs code : Int) (w : World) (hsh : shapeL i.o = [97, 98, 99]) (hk : known i.o = true) (hr : Rd w A (IL i.ar)) (hz : i.ar.length ≤ 1000) (hd : i.ds.length ≤ 65536) (hcl : i.cl.length ≤ 281474976710656) (hnm : i.nm.length ≤ 281474976710656) :
  Calls Try.prog 144 #[.agg (InV i A c), .int .i64 regs, .int .i64 code] w fun e w' => e = .returned (.int .i64 (refE i [97, 98, 99] regs code)) ∧ Below w.heap.size w w' := by
 obtain ⟨W, hW⟩ : ∃ W, W = w.alloc (.cells (InV i A c) 90) := ⟨_, rfl⟩
 have hal : Below w.heap.size w W := by rw [hW]; exact (Below.refl _ w).alloc (Nat.le_refl _) _
 have HAL := zh hal
 have hblk : W.heap[w.heap.size]? = some (.cells (InV i A c) 90 (0, 0)) := by rw [hW]; exact heap_alloc_new w _
 have HBK := zh hblk; have HLT := zh (blk_lt hblk)
 obtain ⟨g0, g1, g2, g3, g4, g5, g6, g7, g8⟩ := in_cells hblk
 have hkk := of_decide_eq_true hk
 have o1 : ¬ i.o < 1 := by omega
 have o2 : ¬ 32 < i.o := by omega
 have hic : isCall i.o = false := by rw [← call_shape, hsh]; decide
 have h1f := one_of i.o
 rw [hsh] at h1f
 have HSH := zh (fun w => shape_r i.o w)
 rw [hsh] at HSH
 have HEM := zh (fun w => empty_9 i A c w (by omega))
 have HNM := zh (fun w => named_r i A c [97, 98, 99] w (by decide) hd hcl hnm h1f)
 have HCA := zh (fun w => call_r i.o w)
 rw [hic] at HCA
 have H97 := zh (fun w => has_r [97, 98, 99] 97 w (by decide))
 rw [show hasL [97, 98, 99] 97 = true by decide] at H97
 have H98 := zh (fun w => has_r [97, 98, 99] 98 w (by decide))
 rw [show hasL [97, 98, 99] 98 = true by decide] at H98
 have H99 := zh (fun w => has_r [97, 98, 99] 99 w (by decide))
 rw [show hasL [97, 98, 99] 99 = true by decide] at H99
 have H116 := zh (fun w => has_r [97, 98, 99] 116 w (by decide))
 rw [show hasL [97, 98, 99] 116 = false by decide] at H116
 have H114 := zh (fun w => has_r [97, 98, 99] 114 w (by decide))
 rw [show hasL [97, 98, 99] 114 = false by decide] at H114
 have HWa := zh (fun w => within_r i.a regs w)
 have HWb := zh (fun w => within_r i.b regs w)
 have HWc := zh (fun w => within_r i.c regs w)
 dsimp only [InV] at hW HEM HNM ⊢
 have HW := zh hW
 have HO := zh (show isCall i.o = false from hic)
 clear hal hblk hW h1f hd hcl hnm
 cases hem : emptyB i [97, 98, 99] with
 | false =>
  have hE : refE i [97, 98, 99] regs code = 1 := by simp [refE, hk, hic, hem]
  rw [hE]
  rw [hem] at HEM
  clear hE hem hsh hk hic hkk hr hz
  go_enter Try.func144, Try.ntmps144
  go_wp2_with fail
  rw [← HW.out]
  refine (HSH.out _).mono ?_; rintro e W ⟨rfl, rfl⟩
  go_wp2_with fail
  refine (HEM.out _).mono ?_
  rintro e v1 ⟨rfl, hb⟩
  obtain ⟨x0, x1, x2, x3, x4, x5, x6, x7, x8⟩ := in_cells ((hb.block _ HLT.out).trans HBK.out)
  have K1 := zh hb
  clear hb g0 g1 g2 g3 g4 g5 g6 g7 g8
  go_wp2
  go_ret
  exact ⟨rfl, HAL.out.trans (K1.out.mono HAL.out.size)⟩
 | true =>
 cases hnd : namedB i [97, 98, 99] with
 | false =>
  have hE : refE i [97, 98, 99] regs code = 1 := by simp [refE, hk, hic, hem, hnd]
  rw [hE]
  rw [hem] at HEM
  rw [hnd] at HNM
  clear hE hem hnd hsh hk hic hkk hr hz
  go_enter Try.func144, Try.ntmps144
  go_wp2_with fail
  rw [← HW.out]
  refine (HSH.out _).mono ?_; rintro e W ⟨rfl, rfl⟩
  go_wp2_with fail
  refine (HEM.out _).mono ?_
  rintro e v1 ⟨rfl, hb⟩
  obtain ⟨x0, x1, x2, x3, x4, x5, x6, x7, x8⟩ := in_cells ((hb.block _ HLT.out).trans HBK.out)
  have K1 := zh hb
  clear hb g0 g1 g2 g3 g4 g5 g6 g7 g8
  go_wp2_with fail
  refine (HNM.out _).mono ?_
  rintro e v2 ⟨rfl, hb⟩
  have K2 := zh (show Below W.heap.size W v2 from then' K1.out hb)
  obtain ⟨y0, y1, y2, y3, y4, y5, y6, y7, y8⟩ := in_cells ((K2.out.block _ HLT.out).trans HBK.out)
  clear hb x0 x1 x2 x3 x4 x5 x6 x7 x8
  go_wp2
  go_ret
  exact ⟨rfl, HAL.out.trans (K2.out.mono HAL.out.size)⟩
 | true =>
 have har : i.ar = [] := no_args hem (by decide)
 cases hwa : withB i.a regs with
 | false =>
  have hE : refE i [97, 98, 99] regs code = 12 := by simp [refE, hk, hic, hem, hnd, hwa, show hasL [97, 98, 99] 97 = true by decide]
  rw [hE]
  rw [hem] at HEM
  rw [hnd] at HNM
  rw [hwa] at HWa
  clear hE hem hnd hsh hk hic hkk hr hz har hwa
  go_enter Try.func144, Try.ntmps144
  go_wp2_with fail
  rw [← HW.out]
  refine (HSH.out _).mono ?_; rintro e W ⟨rfl, rfl⟩
  go_wp2_with fail
  refine (HEM.out _).mono ?_
  rintro e v1 ⟨rfl, hb⟩
  obtain ⟨x0, x1, x2, x3, x4, x5, x6, x7, x8⟩ := in_cells ((hb.block _ HLT.out).trans HBK.out)
  have K1 := zh hb
  clear hb g0 g1 g2 g3 g4 g5 g6 g7 g8
  go_wp2_with fail
  refine (HNM.out _).mono ?_
  rintro e v2 ⟨rfl, hb⟩
  have K2 := zh (show Below W.heap.size W v2 from then' K1.out hb)
  obtain ⟨y0, y1, y2, y3, y4, y5, y6, y7, y8⟩ := in_cells ((K2.out.block _ HLT.out).trans HBK.out)
  clear hb x0 x1 x2 x3 x4 x5 x6 x7 x8
  go_wp2_with fail
  refine (HCA.out _).mono ?_; rintro e v2 ⟨rfl, rfl⟩
  go_wp2_with fail
  refine (H97.out _).mono ?_; rintro e v2 ⟨rfl, rfl⟩
  go_wp2_with fail
  refine (HWa.out _).mono ?_; rintro e v2 ⟨rfl, rfl⟩
  go_wp2
  go_ret
  exact ⟨rfl, HAL.out.trans (K2.out.mono HAL.out.size)⟩
 | true =>
 cases hwb : withB i.b regs with
 | false =>
  have hE : refE i [97, 98, 99] regs code = 12 := by simp [refE, hk, hic, hem, hnd, hwa, hwb, show hasL [97, 98, 99] 98 = true by decide, show hasL [97, 98, 99] 97 = true by decide]
  rw [hE]
  rw [hem] at HEM
  rw [hnd] at HNM
  rw [hwa] at HWa
  rw [hwb] at HWb
  clear hE hem hnd hsh hk hic hkk hr hz har hwa hwb
  go_enter Try.func144, Try.ntmps144
  go_wp2_with fail
  rw [← HW.out]
  refine (HSH.out _).mono ?_; rintro e W ⟨rfl, rfl⟩
  go_wp2_with fail
  refine (HEM.out _).mono ?_
  rintro e v1 ⟨rfl, hb⟩
  obtain ⟨x0, x1, x2, x3, x4, x5, x6, x7, x8⟩ := in_cells ((hb.block _ HLT.out).trans HBK.out)
  have K1 := zh hb
  clear hb g0 g1 g2 g3 g4 g5 g6 g7 g8
  go_wp2_with fail
  refine (HNM.out _).mono ?_
  rintro e v2 ⟨rfl, hb⟩
  have K2 := zh (show Below W.heap.size W v2 from then' K1.out hb)
  obtain ⟨y0, y1, y2, y3, y4, y5, y6, y7, y8⟩ := in_cells ((K2.out.block _ HLT.out).trans HBK.out)
  clear hb x0 x1 x2 x3 x4 x5 x6 x7 x8
  go_wp2_with fail
  refine (HCA.out _).mono ?_; rintro e v2 ⟨rfl, rfl⟩
  go_wp2_with fail
  refine (H97.out _).mono ?_; rintro e v2 ⟨rfl, rfl⟩
  go_wp2_with fail
  refine (HWa.out _).mono ?_; rintro e v2 ⟨rfl, rfl⟩
  go_wp2_with fail
  refine (H98.out _).mono ?_; rintro e v2 ⟨rfl, rfl⟩
  go_wp2_with fail
  refine (HWb.out _).mono ?_; rintro e v2 ⟨rfl, rfl⟩
  go_wp2
  go_ret
  exact ⟨rfl, HAL.out.trans (K2.out.mono HAL.out.size)⟩
 | true =>
 cases hwc : withB i.c regs with
 | false =>
  have hE : refE i [97, 98, 99] regs code = 12 := by simp [refE, hk, hic, hem, hnd, hwa, hwb, hwc, show hasL [97, 98, 99] 99 = true by decide, show hasL [97, 98, 99] 97 = true by decide, show hasL [97, 98, 99] 98 = true by decide]
  rw [hE]
  rw [hem] at HEM
  rw [hnd] at HNM
  rw [hwa] at HWa
  rw [hwb] at HWb
  rw [hwc] at HWc
  clear hE hem hnd hsh hk hic hkk hr hz har hwa hwb hwc
  go_enter Try.func144, Try.ntmps144
  go_wp2_with fail
  rw [← HW.out]
  refine (HSH.out _).mono ?_; rintro e W ⟨rfl, rfl⟩
  go_wp2_with fail
  refine (HEM.out _).mono ?_
  rintro e v1 ⟨rfl, hb⟩
  obtain ⟨x0, x1, x2, x3, x4, x5, x6, x7, x8⟩ := in_cells ((hb.block _ HLT.out).trans HBK.out)
  have K1 := zh hb
  clear hb g0 g1 g2 g3 g4 g5 g6 g7 g8
  go_wp2_with fail
  refine (HNM.out _).mono ?_
  rintro e v2 ⟨rfl, hb⟩
  have K2 := zh (show Below W.heap.size W v2 from then' K1.out hb)
  obtain ⟨y0, y1, y2, y3, y4, y5, y6, y7, y8⟩ := in_cells ((K2.out.block _ HLT.out).trans HBK.out)
  clear hb x0 x1 x2 x3 x4 x5 x6 x7 x8
  go_wp2_with fail
  refine (HCA.out _).mono ?_; rintro e v2 ⟨rfl, rfl⟩
  go_wp2_with fail
  refine (H97.out _).mono ?_; rintro e v2 ⟨rfl, rfl⟩
  go_wp2_with fail
  refine (HWa.out _).mono ?_; rintro e v2 ⟨rfl, rfl⟩
  go_wp2_with fail
  refine (H98.out _).mono ?_; rintro e v2 ⟨rfl, rfl⟩
  go_wp2_with fail
  refine (HWb.out _).mono ?_; rintro e v2 ⟨rfl, rfl⟩
  go_wp2_with fail
  refine (H99.out _).mono ?_; rintro e v2 ⟨rfl, rfl⟩
  go_wp2_with fail
  refine (HWc.out _).mono ?_; rintro e v2 ⟨rfl, rfl⟩
  go_wp2
  go_ret
  exact ⟨rfl, HAL.out.trans (K2.out.mono HAL.out.size)⟩
 | true =>
 have hE : refE i [97, 98, 99] regs code = 0 := by simp [refE, countedB, hsh, hk, hic, hem, hnd, hwa, hwb, hwc, har, show hasL [97, 98, 99] 97 = true by decide, show hasL [97, 98, 99] 98 = true by decide, show hasL [97, 98, 99] 99 = true by decide, show hasL [97, 98, 99] 116 = false by decide, show hasL [97, 98, 99] 114 = false by decide]
 rw [hE]
 rw [hem] at HEM
 rw [hnd] at HNM
 rw [hwa] at HWa
 rw [hwb] at HWb
 rw [hwc] at HWc
 have hln : i.ar.length = 0 := by rw [har]; rfl
 rw [hln] at HEM HNM HW g8 ⊢
 have HB9 := zh (show ∀ v : World, Below W.heap.size W v → v.cell? ⟨w.heap.size, 8, none⟩ = some (.slice A 0 c) from fun v hb => by have := (in_cells ((hb.block _ HLT.out).trans HBK.out)).2.2.2.2.2.2.2.2; rwa [hln] at this)
 clear hE hem hnd hsh hk hic hkk hr hz har hln hwa hwb hwc
 go_enter Try.func144, Try.ntmps144
 go_wp2_with fail
 rw [← HW.out]
 refine (HSH.out _).mono ?_; rintro e W ⟨rfl, rfl⟩
 go_wp2_with fail
 refine (HEM.out _).mono ?_
 rintro e v1 ⟨rfl, hb⟩
 obtain ⟨x0, x1, x2, x3, x4, x5, x6, x7, -⟩ := in_cells ((hb.block _ HLT.out).trans HBK.out)
 have x8 := HB9.out _ hb
 have K1 := zh hb
 clear hb g0 g1 g2 g3 g4 g5 g6 g7 g8
 go_wp2_with fail
 refine (HNM.out _).mono ?_
 rintro e v2 ⟨rfl, hb⟩
 have K2 := zh (show Below W.heap.size W v2 from then' K1.out hb)
 obtain ⟨y0, y1, y2, y3, y4, y5, y6, y7, -⟩ := in_cells ((K2.out.block _ HLT.out).trans HBK.out)
 have y8 := HB9.out _ K2.out
 clear hb x0 x1 x2 x3 x4 x5 x6 x7 x8
 go_wp2_with fail
 refine (HCA.out _).mono ?_; rintro e v2 ⟨rfl, rfl⟩
 go_wp2_with fail
 refine (H97.out _).mono ?_; rintro e v2 ⟨rfl, rfl⟩
 go_wp2_with fail
 refine (HWa.out _).mono ?_; rintro e v2 ⟨rfl, rfl⟩
 go_wp2_with fail
 refine (H98.out _).mono ?_; rintro e v2 ⟨rfl, rfl⟩
 go_wp2_with fail
 refine (HWb.out _).mono ?_; rintro e v2 ⟨rfl, rfl⟩
 go_wp2_with fail
 refine (H99.out _).mono ?_; rintro e v2 ⟨rfl, rfl⟩
 go_wp2_with fail
 refine (HWc.out _).mono ?_; rintro e v2 ⟨rfl, rfl⟩
 go_wp2
 go_loopw [13] (fun v wr => v = .int .i64 0 ∧ wr = v2) (fun _ _ => 0)
 case atStart => exact ⟨rfl, rfl⟩
 case round =>
  obtain ⟨rfl, rfl⟩ := hrel
  go_wp2_with fail
  refine (H116.out _).mono ?_; rintro e v2 ⟨rfl, rfl⟩
  go_wp2_with fail
  refine (H114.out _).mono ?_; rintro e v2 ⟨rfl, rfl⟩
  go_wp2
  go_ret
  exact ⟨rfl, HAL.out.trans (K2.out.mono HAL.out.size)⟩
theorem fits_r10 (i : In) (A : Option Addr) (c : Nat) (regs code : Int) (w : World) (hsh : shapeL i.o = [97, 98, 70]) (hk : known i.o = true) (hr : Rd w A (IL i.ar)) (hz : i.ar.length ≤ 1000) (hd : i.ds.length ≤ 65536) (hcl : i.cl.length ≤ 281474976710656) (hnm : i.nm.length ≤ 281474976710656) :
  Calls Try.prog 144 #[.agg (InV i A c), .int .i64 regs, .int .i64 code] w fun e w' => e = .returned (.int .i64 (refE i [97, 98, 70] regs code)) ∧ Below w.heap.size w w' := by
 obtain ⟨W, hW⟩ : ∃ W, W = w.alloc (.cells (InV i A c) 90) := ⟨_, rfl⟩
 have hal : Below w.heap.size w W := by rw [hW]; exact (Below.refl _ w).alloc (Nat.le_refl _) _
 have HAL := zh hal
 have hblk : W.heap[w.heap.size]? = some (.cells (InV i A c) 90 (0, 0)) := by rw [hW]; exact heap_alloc_new w _
 have HBK := zh hblk; have HLT := zh (blk_lt hblk)
 obtain ⟨g0, g1, g2, g3, g4, g5, g6, g7, g8⟩ := in_cells hblk
 have hkk := of_decide_eq_true hk
 have o1 : ¬ i.o < 1 := by omega
 have o2 : ¬ 32 < i.o := by omega
 have hic : isCall i.o = false := by rw [← call_shape, hsh]; decide
 have h1f := one_of i.o
 rw [hsh] at h1f
 have HSH := zh (fun w => shape_r i.o w)
 rw [hsh] at HSH
 have HEM := zh (fun w => empty_10 i A c w (by omega))
 have HNM := zh (fun w => named_r i A c [97, 98, 70] w (by decide) hd hcl hnm h1f)
 have HCA := zh (fun w => call_r i.o w)
 rw [hic] at HCA
 have H97 := zh (fun w => has_r [97, 98, 70] 97 w (by decide))
 rw [show hasL [97, 98, 70] 97 = true by decide] at H97
 have H98 := zh (fun w => has_r [97, 98, 70] 98 w (by decide))
 rw [show hasL [97, 98, 70] 98 = true by decide] at H98
 have H99 := zh (fun w => has_r [97, 98, 70] 99 w (by decide))
 rw [show hasL [97, 98, 70] 99 = false by decide] at H99
 have H116 := zh (fun w => has_r [97, 98, 70] 116 w (by decide))
 rw [show hasL [97, 98, 70] 116 = false by decide] at H116
 have H114 := zh (fun w => has_r [97, 98, 70] 114 w (by decide))
 rw [show hasL [97, 98, 70] 114 = false by decide] at H114
 have HWa := zh (fun w => within_r i.a regs w)
 have HWb := zh (fun w => within_r i.b regs w)
 dsimp only [InV] at hW HEM HNM ⊢
 have HW := zh hW
 have HO := zh (show isCall i.o = false from hic)
 clear hal hblk hW h1f hd hcl hnm
 cases hem : emptyB i [97, 98, 70] with
 | false =>
  have hE : refE i [97, 98, 70] regs code = 1 := by simp [refE, hk, hic, hem]
  rw [hE]
  rw [hem] at HEM
  clear hE hem hsh hk hic hkk hr hz
  go_enter Try.func144, Try.ntmps144
  go_wp2_with fail
  rw [← HW.out]
  refine (HSH.out _).mono ?_; rintro e W ⟨rfl, rfl⟩
  go_wp2_with fail
  refine (HEM.out _).mono ?_
  rintro e v1 ⟨rfl, hb⟩
  obtain ⟨x0, x1, x2, x3, x4, x5, x6, x7, x8⟩ := in_cells ((hb.block _ HLT.out).trans HBK.out)
  have K1 := zh hb
  clear hb g0 g1 g2 g3 g4 g5 g6 g7 g8
  go_wp2
  go_ret
  exact ⟨rfl, HAL.out.trans (K1.out.mono HAL.out.size)⟩
 | true =>
 cases hnd : namedB i [97, 98, 70] with
 | false =>
  have hE : refE i [97, 98, 70] regs code = 1 := by simp [refE, hk, hic, hem, hnd]
  rw [hE]
  rw [hem] at HEM
  rw [hnd] at HNM
  clear hE hem hnd hsh hk hic hkk hr hz
  go_enter Try.func144, Try.ntmps144
  go_wp2_with fail
  rw [← HW.out]
  refine (HSH.out _).mono ?_; rintro e W ⟨rfl, rfl⟩
  go_wp2_with fail
  refine (HEM.out _).mono ?_
  rintro e v1 ⟨rfl, hb⟩
  obtain ⟨x0, x1, x2, x3, x4, x5, x6, x7, x8⟩ := in_cells ((hb.block _ HLT.out).trans HBK.out)
  have K1 := zh hb
  clear hb g0 g1 g2 g3 g4 g5 g6 g7 g8
  go_wp2_with fail
  refine (HNM.out _).mono ?_
  rintro e v2 ⟨rfl, hb⟩
  have K2 := zh (show Below W.heap.size W v2 from then' K1.out hb)
  obtain ⟨y0, y1, y2, y3, y4, y5, y6, y7, y8⟩ := in_cells ((K2.out.block _ HLT.out).trans HBK.out)
  clear hb x0 x1 x2 x3 x4 x5 x6 x7 x8
  go_wp2
  go_ret
  exact ⟨rfl, HAL.out.trans (K2.out.mono HAL.out.size)⟩
 | true =>
 have har : i.ar = [] := no_args hem (by decide)
 cases hwa : withB i.a regs with
 | false =>
  have hE : refE i [97, 98, 70] regs code = 12 := by simp [refE, hk, hic, hem, hnd, hwa, show hasL [97, 98, 70] 97 = true by decide]
  rw [hE]
  rw [hem] at HEM
  rw [hnd] at HNM
  rw [hwa] at HWa
  clear hE hem hnd hsh hk hic hkk hr hz har hwa
  go_enter Try.func144, Try.ntmps144
  go_wp2_with fail
  rw [← HW.out]
  refine (HSH.out _).mono ?_; rintro e W ⟨rfl, rfl⟩
  go_wp2_with fail
  refine (HEM.out _).mono ?_
  rintro e v1 ⟨rfl, hb⟩
  obtain ⟨x0, x1, x2, x3, x4, x5, x6, x7, x8⟩ := in_cells ((hb.block _ HLT.out).trans HBK.out)
  have K1 := zh hb
  clear hb g0 g1 g2 g3 g4 g5 g6 g7 g8
  go_wp2_with fail
  refine (HNM.out _).mono ?_
  rintro e v2 ⟨rfl, hb⟩
  have K2 := zh (show Below W.heap.size W v2 from then' K1.out hb)
  obtain ⟨y0, y1, y2, y3, y4, y5, y6, y7, y8⟩ := in_cells ((K2.out.block _ HLT.out).trans HBK.out)
  clear hb x0 x1 x2 x3 x4 x5 x6 x7 x8
  go_wp2_with fail
  refine (HCA.out _).mono ?_; rintro e v2 ⟨rfl, rfl⟩
  go_wp2_with fail
  refine (H97.out _).mono ?_; rintro e v2 ⟨rfl, rfl⟩
  go_wp2_with fail
  refine (HWa.out _).mono ?_; rintro e v2 ⟨rfl, rfl⟩
  go_wp2
  go_ret
  exact ⟨rfl, HAL.out.trans (K2.out.mono HAL.out.size)⟩
 | true =>
 cases hwb : withB i.b regs with
 | false =>
  have hE : refE i [97, 98, 70] regs code = 12 := by simp [refE, hk, hic, hem, hnd, hwa, hwb, show hasL [97, 98, 70] 98 = true by decide, show hasL [97, 98, 70] 97 = true by decide]
  rw [hE]
  rw [hem] at HEM
  rw [hnd] at HNM
  rw [hwa] at HWa
  rw [hwb] at HWb
  clear hE hem hnd hsh hk hic hkk hr hz har hwa hwb
  go_enter Try.func144, Try.ntmps144
  go_wp2_with fail
  rw [← HW.out]
  refine (HSH.out _).mono ?_; rintro e W ⟨rfl, rfl⟩
  go_wp2_with fail
  refine (HEM.out _).mono ?_
  rintro e v1 ⟨rfl, hb⟩
  obtain ⟨x0, x1, x2, x3, x4, x5, x6, x7, x8⟩ := in_cells ((hb.block _ HLT.out).trans HBK.out)
  have K1 := zh hb
  clear hb g0 g1 g2 g3 g4 g5 g6 g7 g8
  go_wp2_with fail
  refine (HNM.out _).mono ?_
  rintro e v2 ⟨rfl, hb⟩
  have K2 := zh (show Below W.heap.size W v2 from then' K1.out hb)
  obtain ⟨y0, y1, y2, y3, y4, y5, y6, y7, y8⟩ := in_cells ((K2.out.block _ HLT.out).trans HBK.out)
  clear hb x0 x1 x2 x3 x4 x5 x6 x7 x8
  go_wp2_with fail
  refine (HCA.out _).mono ?_; rintro e v2 ⟨rfl, rfl⟩
  go_wp2_with fail
  refine (H97.out _).mono ?_; rintro e v2 ⟨rfl, rfl⟩
  go_wp2_with fail
  refine (HWa.out _).mono ?_; rintro e v2 ⟨rfl, rfl⟩
  go_wp2_with fail
  refine (H98.out _).mono ?_; rintro e v2 ⟨rfl, rfl⟩
  go_wp2_with fail
  refine (HWb.out _).mono ?_; rintro e v2 ⟨rfl, rfl⟩
  go_wp2
  go_ret
  exact ⟨rfl, HAL.out.trans (K2.out.mono HAL.out.size)⟩
 | true =>
 have hE : refE i [97, 98, 70] regs code = 0 := by simp [refE, countedB, hsh, hk, hic, hem, hnd, hwa, hwb, har, show hasL [97, 98, 70] 97 = true by decide, show hasL [97, 98, 70] 98 = true by decide, show hasL [97, 98, 70] 99 = false by decide, show hasL [97, 98, 70] 116 = false by decide, show hasL [97, 98, 70] 114 = false by decide]
 rw [hE]
 rw [hem] at HEM
 rw [hnd] at HNM
 rw [hwa] at HWa
 rw [hwb] at HWb
 have hln : i.ar.length = 0 := by rw [har]; rfl
 rw [hln] at HEM HNM HW g8 ⊢
 have HB9 := zh (show ∀ v : World, Below W.heap.size W v → v.cell? ⟨w.heap.size, 8, none⟩ = some (.slice A 0 c) from fun v hb => by have := (in_cells ((hb.block _ HLT.out).trans HBK.out)).2.2.2.2.2.2.2.2; rwa [hln] at this)
 clear hE hem hnd hsh hk hic hkk hr hz har hln hwa hwb
 go_enter Try.func144, Try.ntmps144
 go_wp2_with fail
 rw [← HW.out]
 refine (HSH.out _).mono ?_; rintro e W ⟨rfl, rfl⟩
 go_wp2_with fail
 refine (HEM.out _).mono ?_
 rintro e v1 ⟨rfl, hb⟩
 obtain ⟨x0, x1, x2, x3, x4, x5, x6, x7, -⟩ := in_cells ((hb.block _ HLT.out).trans HBK.out)
 have x8 := HB9.out _ hb
 have K1 := zh hb
 clear hb g0 g1 g2 g3 g4 g5 g6 g7 g8
 go_wp2_with fail
 refine (HNM.out _).mono ?_
 rintro e v2 ⟨rfl, hb⟩
 have K2 := zh (show Below W.heap.size W v2 from then' K1.out hb)
 obtain ⟨y0, y1, y2, y3, y4, y5, y6, y7, -⟩ := in_cells ((K2.out.block _ HLT.out).trans HBK.out)
 have y8 := HB9.out _ K2.out
 clear hb x0 x1 x2 x3 x4 x5 x6 x7 x8
 go_wp2_with fail
 refine (HCA.out _).mono ?_; rintro e v2 ⟨rfl, rfl⟩
 go_wp2_with fail
 refine (H97.out _).mono ?_; rintro e v2 ⟨rfl, rfl⟩
 go_wp2_with fail
 refine (HWa.out _).mono ?_; rintro e v2 ⟨rfl, rfl⟩
 go_wp2_with fail
 refine (H98.out _).mono ?_; rintro e v2 ⟨rfl, rfl⟩
 go_wp2_with fail
 refine (HWb.out _).mono ?_; rintro e v2 ⟨rfl, rfl⟩
 go_wp2_with fail
 refine (H99.out _).mono ?_; rintro e v2 ⟨rfl, rfl⟩
 go_wp2
 go_loopw [13] (fun v wr => v = .int .i64 0 ∧ wr = v2) (fun _ _ => 0)
 case atStart => exact ⟨rfl, rfl⟩
 case round =>
  obtain ⟨rfl, rfl⟩ := hrel
  go_wp2_with fail
  refine (H116.out _).mono ?_; rintro e v2 ⟨rfl, rfl⟩
  go_wp2_with fail
  refine (H114.out _).mono ?_; rintro e v2 ⟨rfl, rfl⟩
  go_wp2
  go_ret
  exact ⟨rfl, HAL.out.trans (K2.out.mono HAL.out.size)⟩
theorem fits_r11 (i : In) (A : Option Addr) (c : Nat) (regs code : Int) (w : World) (hsh : shapeL i.o = [98, 99, 70]) (hk : known i.o = true) (hr : Rd w A (IL i.ar)) (hz : i.ar.length ≤ 1000) (hd : i.ds.length ≤ 65536) (hcl : i.cl.length ≤ 281474976710656) (hnm : i.nm.length ≤ 281474976710656) :
  Calls Try.prog 144 #[.agg (InV i A c), .int .i64 regs, .int .i64 code] w fun e w' => e = .returned (.int .i64 (refE i [98, 99, 70] regs code)) ∧ Below w.heap.size w w' := by
 obtain ⟨W, hW⟩ : ∃ W, W = w.alloc (.cells (InV i A c) 90) := ⟨_, rfl⟩
 have hal : Below w.heap.size w W := by rw [hW]; exact (Below.refl _ w).alloc (Nat.le_refl _) _
 have HAL := zh hal
 have hblk : W.heap[w.heap.size]? = some (.cells (InV i A c) 90 (0, 0)) := by rw [hW]; exact heap_alloc_new w _
 have HBK := zh hblk; have HLT := zh (blk_lt hblk)
 obtain ⟨g0, g1, g2, g3, g4, g5, g6, g7, g8⟩ := in_cells hblk
 have hkk := of_decide_eq_true hk
 have o1 : ¬ i.o < 1 := by omega
 have o2 : ¬ 32 < i.o := by omega
 have hic : isCall i.o = false := by rw [← call_shape, hsh]; decide
 have h1f := one_of i.o
 rw [hsh] at h1f
 have HSH := zh (fun w => shape_r i.o w)
 rw [hsh] at HSH
 have HEM := zh (fun w => empty_11 i A c w (by omega))
 have HNM := zh (fun w => named_r i A c [98, 99, 70] w (by decide) hd hcl hnm h1f)
 have HCA := zh (fun w => call_r i.o w)
 rw [hic] at HCA
 have H97 := zh (fun w => has_r [98, 99, 70] 97 w (by decide))
 rw [show hasL [98, 99, 70] 97 = false by decide] at H97
 have H98 := zh (fun w => has_r [98, 99, 70] 98 w (by decide))
 rw [show hasL [98, 99, 70] 98 = true by decide] at H98
 have H99 := zh (fun w => has_r [98, 99, 70] 99 w (by decide))
 rw [show hasL [98, 99, 70] 99 = true by decide] at H99
 have H116 := zh (fun w => has_r [98, 99, 70] 116 w (by decide))
 rw [show hasL [98, 99, 70] 116 = false by decide] at H116
 have H114 := zh (fun w => has_r [98, 99, 70] 114 w (by decide))
 rw [show hasL [98, 99, 70] 114 = false by decide] at H114
 have HWb := zh (fun w => within_r i.b regs w)
 have HWc := zh (fun w => within_r i.c regs w)
 dsimp only [InV] at hW HEM HNM ⊢
 have HW := zh hW
 have HO := zh (show isCall i.o = false from hic)
 clear hal hblk hW h1f hd hcl hnm
 cases hem : emptyB i [98, 99, 70] with
 | false =>
  have hE : refE i [98, 99, 70] regs code = 1 := by simp [refE, hk, hic, hem]
  rw [hE]
  rw [hem] at HEM
  clear hE hem hsh hk hic hkk hr hz
  go_enter Try.func144, Try.ntmps144
  go_wp2_with fail
  rw [← HW.out]
  refine (HSH.out _).mono ?_; rintro e W ⟨rfl, rfl⟩
  go_wp2_with fail
  refine (HEM.out _).mono ?_
  rintro e v1 ⟨rfl, hb⟩
  obtain ⟨x0, x1, x2, x3, x4, x5, x6, x7, x8⟩ := in_cells ((hb.block _ HLT.out).trans HBK.out)
  have K1 := zh hb
  clear hb g0 g1 g2 g3 g4 g5 g6 g7 g8
  go_wp2
  go_ret
  exact ⟨rfl, HAL.out.trans (K1.out.mono HAL.out.size)⟩
 | true =>
 cases hnd : namedB i [98, 99, 70] with
 | false =>
  have hE : refE i [98, 99, 70] regs code = 1 := by simp [refE, hk, hic, hem, hnd]
  rw [hE]
  rw [hem] at HEM
  rw [hnd] at HNM
  clear hE hem hnd hsh hk hic hkk hr hz
  go_enter Try.func144, Try.ntmps144
  go_wp2_with fail
  rw [← HW.out]
  refine (HSH.out _).mono ?_; rintro e W ⟨rfl, rfl⟩
  go_wp2_with fail
  refine (HEM.out _).mono ?_
  rintro e v1 ⟨rfl, hb⟩
  obtain ⟨x0, x1, x2, x3, x4, x5, x6, x7, x8⟩ := in_cells ((hb.block _ HLT.out).trans HBK.out)
  have K1 := zh hb
  clear hb g0 g1 g2 g3 g4 g5 g6 g7 g8
  go_wp2_with fail
  refine (HNM.out _).mono ?_
  rintro e v2 ⟨rfl, hb⟩
  have K2 := zh (show Below W.heap.size W v2 from then' K1.out hb)
  obtain ⟨y0, y1, y2, y3, y4, y5, y6, y7, y8⟩ := in_cells ((K2.out.block _ HLT.out).trans HBK.out)
  clear hb x0 x1 x2 x3 x4 x5 x6 x7 x8
  go_wp2
  go_ret
  exact ⟨rfl, HAL.out.trans (K2.out.mono HAL.out.size)⟩
 | true =>
 have har : i.ar = [] := no_args hem (by decide)
 cases hwb : withB i.b regs with
 | false =>
  have hE : refE i [98, 99, 70] regs code = 12 := by simp [refE, hk, hic, hem, hnd, hwb, show hasL [98, 99, 70] 98 = true by decide, show hasL [98, 99, 70] 97 = false by decide]
  rw [hE]
  rw [hem] at HEM
  rw [hnd] at HNM
  rw [hwb] at HWb
  clear hE hem hnd hsh hk hic hkk hr hz har hwb
  go_enter Try.func144, Try.ntmps144
  go_wp2_with fail
  rw [← HW.out]
  refine (HSH.out _).mono ?_; rintro e W ⟨rfl, rfl⟩
  go_wp2_with fail
  refine (HEM.out _).mono ?_
  rintro e v1 ⟨rfl, hb⟩
  obtain ⟨x0, x1, x2, x3, x4, x5, x6, x7, x8⟩ := in_cells ((hb.block _ HLT.out).trans HBK.out)
  have K1 := zh hb
  clear hb g0 g1 g2 g3 g4 g5 g6 g7 g8
  go_wp2_with fail
  refine (HNM.out _).mono ?_
  rintro e v2 ⟨rfl, hb⟩
  have K2 := zh (show Below W.heap.size W v2 from then' K1.out hb)
  obtain ⟨y0, y1, y2, y3, y4, y5, y6, y7, y8⟩ := in_cells ((K2.out.block _ HLT.out).trans HBK.out)
  clear hb x0 x1 x2 x3 x4 x5 x6 x7 x8
  go_wp2_with fail
  refine (HCA.out _).mono ?_; rintro e v2 ⟨rfl, rfl⟩
  go_wp2_with fail
  refine (H97.out _).mono ?_; rintro e v2 ⟨rfl, rfl⟩
  go_wp2_with fail
  refine (H98.out _).mono ?_; rintro e v2 ⟨rfl, rfl⟩
  go_wp2_with fail
  refine (HWb.out _).mono ?_; rintro e v2 ⟨rfl, rfl⟩
  go_wp2
  go_ret
  exact ⟨rfl, HAL.out.trans (K2.out.mono HAL.out.size)⟩
 | true =>
 cases hwc : withB i.c regs with
 | false =>
  have hE : refE i [98, 99, 70] regs code = 12 := by simp [refE, hk, hic, hem, hnd, hwb, hwc, show hasL [98, 99, 70] 99 = true by decide, show hasL [98, 99, 70] 97 = false by decide, show hasL [98, 99, 70] 98 = true by decide]
  rw [hE]
  rw [hem] at HEM
  rw [hnd] at HNM
  rw [hwb] at HWb
  rw [hwc] at HWc
  clear hE hem hnd hsh hk hic hkk hr hz har hwb hwc
  go_enter Try.func144, Try.ntmps144
  go_wp2_with fail
  rw [← HW.out]
  refine (HSH.out _).mono ?_; rintro e W ⟨rfl, rfl⟩
  go_wp2_with fail
  refine (HEM.out _).mono ?_
  rintro e v1 ⟨rfl, hb⟩
  obtain ⟨x0, x1, x2, x3, x4, x5, x6, x7, x8⟩ := in_cells ((hb.block _ HLT.out).trans HBK.out)
  have K1 := zh hb
  clear hb g0 g1 g2 g3 g4 g5 g6 g7 g8
  go_wp2_with fail
  refine (HNM.out _).mono ?_
  rintro e v2 ⟨rfl, hb⟩
  have K2 := zh (show Below W.heap.size W v2 from then' K1.out hb)
  obtain ⟨y0, y1, y2, y3, y4, y5, y6, y7, y8⟩ := in_cells ((K2.out.block _ HLT.out).trans HBK.out)
  clear hb x0 x1 x2 x3 x4 x5 x6 x7 x8
  go_wp2_with fail
  refine (HCA.out _).mono ?_; rintro e v2 ⟨rfl, rfl⟩
  go_wp2_with fail
  refine (H97.out _).mono ?_; rintro e v2 ⟨rfl, rfl⟩
  go_wp2_with fail
  refine (H98.out _).mono ?_; rintro e v2 ⟨rfl, rfl⟩
  go_wp2_with fail
  refine (HWb.out _).mono ?_; rintro e v2 ⟨rfl, rfl⟩
  go_wp2_with fail
  refine (H99.out _).mono ?_; rintro e v2 ⟨rfl, rfl⟩
  go_wp2_with fail
  refine (HWc.out _).mono ?_; rintro e v2 ⟨rfl, rfl⟩
  go_wp2
  go_ret
  exact ⟨rfl, HAL.out.trans (K2.out.mono HAL.out.size)⟩
 | true =>
 have hE : refE i [98, 99, 70] regs code = 0 := by simp [refE, countedB, hsh, hk, hic, hem, hnd, hwb, hwc, har, show hasL [98, 99, 70] 97 = false by decide, show hasL [98, 99, 70] 98 = true by decide, show hasL [98, 99, 70] 99 = true by decide, show hasL [98, 99, 70] 116 = false by decide, show hasL [98, 99, 70] 114 = false by decide]
 rw [hE]
 rw [hem] at HEM
 rw [hnd] at HNM
 rw [hwb] at HWb
 rw [hwc] at HWc
 have hln : i.ar.length = 0 := by rw [har]; rfl
 rw [hln] at HEM HNM HW g8 ⊢
 have HB9 := zh (show ∀ v : World, Below W.heap.size W v → v.cell? ⟨w.heap.size, 8, none⟩ = some (.slice A 0 c) from fun v hb => by have := (in_cells ((hb.block _ HLT.out).trans HBK.out)).2.2.2.2.2.2.2.2; rwa [hln] at this)
 clear hE hem hnd hsh hk hic hkk hr hz har hln hwb hwc
 go_enter Try.func144, Try.ntmps144
 go_wp2_with fail
 rw [← HW.out]
 refine (HSH.out _).mono ?_; rintro e W ⟨rfl, rfl⟩
 go_wp2_with fail
 refine (HEM.out _).mono ?_
 rintro e v1 ⟨rfl, hb⟩
 obtain ⟨x0, x1, x2, x3, x4, x5, x6, x7, -⟩ := in_cells ((hb.block _ HLT.out).trans HBK.out)
 have x8 := HB9.out _ hb
 have K1 := zh hb
 clear hb g0 g1 g2 g3 g4 g5 g6 g7 g8
 go_wp2_with fail
 refine (HNM.out _).mono ?_
 rintro e v2 ⟨rfl, hb⟩
 have K2 := zh (show Below W.heap.size W v2 from then' K1.out hb)
 obtain ⟨y0, y1, y2, y3, y4, y5, y6, y7, -⟩ := in_cells ((K2.out.block _ HLT.out).trans HBK.out)
 have y8 := HB9.out _ K2.out
 clear hb x0 x1 x2 x3 x4 x5 x6 x7 x8
 go_wp2_with fail
 refine (HCA.out _).mono ?_; rintro e v2 ⟨rfl, rfl⟩
 go_wp2_with fail
 refine (H97.out _).mono ?_; rintro e v2 ⟨rfl, rfl⟩
 go_wp2_with fail
 refine (H98.out _).mono ?_; rintro e v2 ⟨rfl, rfl⟩
 go_wp2_with fail
 refine (HWb.out _).mono ?_; rintro e v2 ⟨rfl, rfl⟩
 go_wp2_with fail
 refine (H99.out _).mono ?_; rintro e v2 ⟨rfl, rfl⟩
 go_wp2_with fail
 refine (HWc.out _).mono ?_; rintro e v2 ⟨rfl, rfl⟩
 go_wp2
 go_loopw [13] (fun v wr => v = .int .i64 0 ∧ wr = v2) (fun _ _ => 0)
 case atStart => exact ⟨rfl, rfl⟩
 case round =>
  obtain ⟨rfl, rfl⟩ := hrel
  go_wp2_with fail
  refine (H116.out _).mono ?_; rintro e v2 ⟨rfl, rfl⟩
  go_wp2_with fail
  refine (H114.out _).mono ?_; rintro e v2 ⟨rfl, rfl⟩
  go_wp2
  go_ret
  exact ⟨rfl, HAL.out.trans (K2.out.mono HAL.out.size)⟩
end Go.Proofs.Ytdifmgeicnndfaa.op

/- OpFitsW -/
import Derived.Test.YtdifmgeicnndfaaOpR
import Derived.Test.YtdifmgeicnndfaaOpK
import Derived.Deep.RegionHeld3
namespace Go.Proofs.Ytdifmgeicnndfaa.op
open Go.RowKit
open words kindp opp kind word
set_option maxRecDepth 100000
set_option maxHeartbeats 16000000
set_option linter.all false
theorem fits_r4 (i : In) (A : Option Addr) (c : Nat) (regs code : Int) (w : World) (hsh : shapeL i.o = [97, 98, 99, 114]) (hk : known i.o = true) (hr : Rd w A (IL i.ar)) (hz : i.ar.length ≤ 1000) (hd : i.ds.length ≤ 65536) (hcl : i.cl.length ≤ 281474976710656) (hnm : i.nm.length ≤ 281474976710656) :
  Calls Try.prog 144 #[.agg (InV i A c), .int .i64 regs, .int .i64 code] w fun e w' => e = .returned (.int .i64 (refE i [97, 98, 99, 114] regs code)) ∧ Below w.heap.size w w' := by
 obtain ⟨W, hW⟩ : ∃ W, W = w.alloc (.cells (InV i A c) 90) := ⟨_, rfl⟩
 have hal : Below w.heap.size w W := by rw [hW]; exact (Below.refl _ w).alloc (Nat.le_refl _) _
 have HAL := zh hal
 have hblk : W.heap[w.heap.size]? = some (.cells (InV i A c) 90 (0, 0)) := by rw [hW]; exact heap_alloc_new w _
 have HBK := zh hblk; have HLT := zh (blk_lt hblk)
 obtain ⟨g0, g1, g2, g3, g4, g5, g6, g7, g8⟩ := in_cells hblk
 have hkk := of_decide_eq_true hk
 have o1 : ¬ i.o < 1 := by omega
 have o2 : ¬ 32 < i.o := by omega
 have hic : isCall i.o = false := by rw [← call_shape, hsh]; decide
 have h1f := one_of i.o
 rw [hsh] at h1f
 have HSH := zh (fun w => shape_r i.o w)
 rw [hsh] at HSH
 have HEM := zh (fun w => empty_4 i A c w (by omega))
 have HNM := zh (fun w => named_r i A c [97, 98, 99, 114] w (by decide) hd hcl hnm h1f)
 have HCA := zh (fun w => call_r i.o w)
 rw [hic] at HCA
 have H97 := zh (fun w => has_r [97, 98, 99, 114] 97 w (by decide))
 rw [show hasL [97, 98, 99, 114] 97 = true by decide] at H97
 have H98 := zh (fun w => has_r [97, 98, 99, 114] 98 w (by decide))
 rw [show hasL [97, 98, 99, 114] 98 = true by decide] at H98
 have H99 := zh (fun w => has_r [97, 98, 99, 114] 99 w (by decide))
 rw [show hasL [97, 98, 99, 114] 99 = true by decide] at H99
 have H116 := zh (fun w => has_r [97, 98, 99, 114] 116 w (by decide))
 rw [show hasL [97, 98, 99, 114] 116 = false by decide] at H116
 have H114 := zh (fun w => has_r [97, 98, 99, 114] 114 w (by decide))
 rw [show hasL [97, 98, 99, 114] 114 = true by decide] at H114
 have HWa := zh (fun w => within_r i.a regs w)
 have HWb := zh (fun w => within_r i.b regs w)
 have HWc := zh (fun w => within_r i.c regs w)
 dsimp only [InV] at hW HEM HNM ⊢
 have HW := zh hW
 have HO := zh (show isCall i.o = false from hic)
 clear hal hblk hW h1f hd hcl hnm
 cases hem : emptyB i [97, 98, 99, 114] with
 | false =>
  have hE : refE i [97, 98, 99, 114] regs code = 1 := by simp [refE, hk, hic, hem]
  rw [hE]
  rw [hem] at HEM
  clear hE hem hsh hk hic hkk hr hz
  go_enter Try.func144, Try.ntmps144
  go_wp2_with fail
  rw [← HW.out]
  refine (HSH.out _).mono ?_; rintro e W ⟨rfl, rfl⟩
  go_wp2_with fail
  refine (HEM.out _).mono ?_
  rintro e v1 ⟨rfl, hb⟩
  obtain ⟨x0, x1, x2, x3, x4, x5, x6, x7, x8⟩ := in_cells ((hb.block _ HLT.out).trans HBK.out)
  have K1 := zh hb
  clear hb g0 g1 g2 g3 g4 g5 g6 g7 g8
  go_wp2
  go_ret
  exact ⟨rfl, HAL.out.trans (K1.out.mono HAL.out.size)⟩
 | true =>
 cases hnd : namedB i [97, 98, 99, 114] with
 | false =>
  have hE : refE i [97, 98, 99, 114] regs code = 1 := by simp [refE, hk, hic, hem, hnd]
  rw [hE]
  rw [hem] at HEM
  rw [hnd] at HNM
  clear hE hem hnd hsh hk hic hkk hr hz
  go_enter Try.func144, Try.ntmps144
  go_wp2_with fail
  rw [← HW.out]
  refine (HSH.out _).mono ?_; rintro e W ⟨rfl, rfl⟩
  go_wp2_with fail
  refine (HEM.out _).mono ?_
  rintro e v1 ⟨rfl, hb⟩
  obtain ⟨x0, x1, x2, x3, x4, x5, x6, x7, x8⟩ := in_cells ((hb.block _ HLT.out).trans HBK.out)
  have K1 := zh hb
  clear hb g0 g1 g2 g3 g4 g5 g6 g7 g8
  go_wp2_with fail
  refine (HNM.out _).mono ?_
  rintro e v2 ⟨rfl, hb⟩
  have K2 := zh (show Below W.heap.size W v2 from then' K1.out hb)
  obtain ⟨y0, y1, y2, y3, y4, y5, y6, y7, y8⟩ := in_cells ((K2.out.block _ HLT.out).trans HBK.out)
  clear hb x0 x1 x2 x3 x4 x5 x6 x7 x8
  go_wp2
  go_ret
  exact ⟨rfl, HAL.out.trans (K2.out.mono HAL.out.size)⟩
 | true =>
 have har : i.ar = [] := no_args hem (by decide)
 cases hwa : withB i.a regs with
 | false =>
  have hE : refE i [97, 98, 99, 114] regs code = 12 := by simp [refE, hk, hic, hem, hnd, hwa, show hasL [97, 98, 99, 114] 97 = true by decide]
  rw [hE]
  rw [hem] at HEM
  rw [hnd] at HNM
  rw [hwa] at HWa
  clear hE hem hnd hsh hk hic hkk hr hz har hwa
  go_enter Try.func144, Try.ntmps144
  go_wp2_with fail
  rw [← HW.out]
  refine (HSH.out _).mono ?_; rintro e W ⟨rfl, rfl⟩
  go_wp2_with fail
  refine (HEM.out _).mono ?_
  rintro e v1 ⟨rfl, hb⟩
  obtain ⟨x0, x1, x2, x3, x4, x5, x6, x7, x8⟩ := in_cells ((hb.block _ HLT.out).trans HBK.out)
  have K1 := zh hb
  clear hb g0 g1 g2 g3 g4 g5 g6 g7 g8
  go_wp2_with fail
  refine (HNM.out _).mono ?_
  rintro e v2 ⟨rfl, hb⟩
  have K2 := zh (show Below W.heap.size W v2 from then' K1.out hb)
  obtain ⟨y0, y1, y2, y3, y4, y5, y6, y7, y8⟩ := in_cells ((K2.out.block _ HLT.out).trans HBK.out)
  clear hb x0 x1 x2 x3 x4 x5 x6 x7 x8
  go_wp2_with fail
  refine (HCA.out _).mono ?_; rintro e v2 ⟨rfl, rfl⟩
  go_wp2_with fail
  refine (H97.out _).mono ?_; rintro e v2 ⟨rfl, rfl⟩
  go_wp2_with fail
  refine (HWa.out _).mono ?_; rintro e v2 ⟨rfl, rfl⟩
  go_wp2
  go_ret
  exact ⟨rfl, HAL.out.trans (K2.out.mono HAL.out.size)⟩
 | true =>
 cases hwb : withB i.b regs with
 | false =>
  have hE : refE i [97, 98, 99, 114] regs code = 12 := by simp [refE, hk, hic, hem, hnd, hwa, hwb, show hasL [97, 98, 99, 114] 98 = true by decide, show hasL [97, 98, 99, 114] 97 = true by decide]
  rw [hE]
  rw [hem] at HEM
  rw [hnd] at HNM
  rw [hwa] at HWa
  rw [hwb] at HWb
  clear hE hem hnd hsh hk hic hkk hr hz har hwa hwb
  go_enter Try.func144, Try.ntmps144
  go_wp2_with fail
  rw [← HW.out]
  refine (HSH.out _).mono ?_; rintro e W ⟨rfl, rfl⟩
  go_wp2_with fail
  refine (HEM.out _).mono ?_
  rintro e v1 ⟨rfl, hb⟩
  obtain ⟨x0, x1, x2, x3, x4, x5, x6, x7, x8⟩ := in_cells ((hb.block _ HLT.out).trans HBK.out)
  have K1 := zh hb
  clear hb g0 g1 g2 g3 g4 g5 g6 g7 g8
  go_wp2_with fail
  refine (HNM.out _).mono ?_
  rintro e v2 ⟨rfl, hb⟩
  have K2 := zh (show Below W.heap.size W v2 from then' K1.out hb)
  obtain ⟨y0, y1, y2, y3, y4, y5, y6, y7, y8⟩ := in_cells ((K2.out.block _ HLT.out).trans HBK.out)
  clear hb x0 x1 x2 x3 x4 x5 x6 x7 x8
  go_wp2_with fail
  refine (HCA.out _).mono ?_; rintro e v2 ⟨rfl, rfl⟩
  go_wp2_with fail
  refine (H97.out _).mono ?_; rintro e v2 ⟨rfl, rfl⟩
  go_wp2_with fail
  refine (HWa.out _).mono ?_; rintro e v2 ⟨rfl, rfl⟩
  go_wp2_with fail
  refine (H98.out _).mono ?_; rintro e v2 ⟨rfl, rfl⟩
  go_wp2_with fail
  refine (HWb.out _).mono ?_; rintro e v2 ⟨rfl, rfl⟩
  go_wp2
  go_ret
  exact ⟨rfl, HAL.out.trans (K2.out.mono HAL.out.size)⟩
 | true =>
 cases hwc : withB i.c regs with
 | false =>
  have hE : refE i [97, 98, 99, 114] regs code = 12 := by simp [refE, hk, hic, hem, hnd, hwa, hwb, hwc, show hasL [97, 98, 99, 114] 99 = true by decide, show hasL [97, 98, 99, 114] 97 = true by decide, show hasL [97, 98, 99, 114] 98 = true by decide]
  rw [hE]
  rw [hem] at HEM
  rw [hnd] at HNM
  rw [hwa] at HWa
  rw [hwb] at HWb
  rw [hwc] at HWc
  clear hE hem hnd hsh hk hic hkk hr hz har hwa hwb hwc
  go_enter Try.func144, Try.ntmps144
  go_wp2_with fail
  rw [← HW.out]
  refine (HSH.out _).mono ?_; rintro e W ⟨rfl, rfl⟩
  go_wp2_with fail
  refine (HEM.out _).mono ?_
  rintro e v1 ⟨rfl, hb⟩
  obtain ⟨x0, x1, x2, x3, x4, x5, x6, x7, x8⟩ := in_cells ((hb.block _ HLT.out).trans HBK.out)
  have K1 := zh hb
  clear hb g0 g1 g2 g3 g4 g5 g6 g7 g8
  go_wp2_with fail
  refine (HNM.out _).mono ?_
  rintro e v2 ⟨rfl, hb⟩
  have K2 := zh (show Below W.heap.size W v2 from then' K1.out hb)
  obtain ⟨y0, y1, y2, y3, y4, y5, y6, y7, y8⟩ := in_cells ((K2.out.block _ HLT.out).trans HBK.out)
  clear hb x0 x1 x2 x3 x4 x5 x6 x7 x8
  go_wp2_with fail
  refine (HCA.out _).mono ?_; rintro e v2 ⟨rfl, rfl⟩
  go_wp2_with fail
  refine (H97.out _).mono ?_; rintro e v2 ⟨rfl, rfl⟩
  go_wp2_with fail
  refine (HWa.out _).mono ?_; rintro e v2 ⟨rfl, rfl⟩
  go_wp2_with fail
  refine (H98.out _).mono ?_; rintro e v2 ⟨rfl, rfl⟩
  go_wp2_with fail
  refine (HWb.out _).mono ?_; rintro e v2 ⟨rfl, rfl⟩
  go_wp2_with fail
  refine (H99.out _).mono ?_; rintro e v2 ⟨rfl, rfl⟩
  go_wp2_with fail
  refine (HWc.out _).mono ?_; rintro e v2 ⟨rfl, rfl⟩
  go_wp2
  go_ret
  exact ⟨rfl, HAL.out.trans (K2.out.mono HAL.out.size)⟩
 | true =>
 by_cases k0 : i.k < 0
 ·have k0n : ¬ 0 ≤ i.k := by omega
  have hE : refE i [97, 98, 99, 114] regs code = 12 := by simp [refE, countedB, hsh, hk, hic, hem, hnd, hwa, hwb, hwc, har, show hasL [97, 98, 99, 114] 97 = true by decide, show hasL [97, 98, 99, 114] 98 = true by decide, show hasL [97, 98, 99, 114] 99 = true by decide, show hasL [97, 98, 99, 114] 116 = false by decide, show hasL [97, 98, 99, 114] 114 = true by decide, k0n]
  rw [hE]
  rw [hem] at HEM
  rw [hnd] at HNM
  rw [hwa] at HWa
  rw [hwb] at HWb
  rw [hwc] at HWc
  have hln : i.ar.length = 0 := by rw [har]; rfl
  rw [hln] at HEM HNM HW g8 ⊢
  have HB9 := zh (show ∀ v : World, Below W.heap.size W v → v.cell? ⟨w.heap.size, 8, none⟩ = some (.slice A 0 c) from fun v hb => by have := (in_cells ((hb.block _ HLT.out).trans HBK.out)).2.2.2.2.2.2.2.2; rwa [hln] at this)
  clear hE hem hnd hsh hk hic hkk hr hz har hln hwa hwb hwc
  go_enter Try.func144, Try.ntmps144
  go_wp2_with fail
  rw [← HW.out]
  refine (HSH.out _).mono ?_; rintro e W ⟨rfl, rfl⟩
  go_wp2_with fail
  refine (HEM.out _).mono ?_
  rintro e v1 ⟨rfl, hb⟩
  obtain ⟨x0, x1, x2, x3, x4, x5, x6, x7, -⟩ := in_cells ((hb.block _ HLT.out).trans HBK.out)
  have x8 := HB9.out _ hb
  have K1 := zh hb
  clear hb g0 g1 g2 g3 g4 g5 g6 g7 g8
  go_wp2_with fail
  refine (HNM.out _).mono ?_
  rintro e v2 ⟨rfl, hb⟩
  have K2 := zh (show Below W.heap.size W v2 from then' K1.out hb)
  obtain ⟨y0, y1, y2, y3, y4, y5, y6, y7, -⟩ := in_cells ((K2.out.block _ HLT.out).trans HBK.out)
  have y8 := HB9.out _ K2.out
  clear hb x0 x1 x2 x3 x4 x5 x6 x7 x8
  go_wp2_with fail
  refine (HCA.out _).mono ?_; rintro e v2 ⟨rfl, rfl⟩
  go_wp2_with fail
  refine (H97.out _).mono ?_; rintro e v2 ⟨rfl, rfl⟩
  go_wp2_with fail
  refine (HWa.out _).mono ?_; rintro e v2 ⟨rfl, rfl⟩
  go_wp2_with fail
  refine (H98.out _).mono ?_; rintro e v2 ⟨rfl, rfl⟩
  go_wp2_with fail
  refine (HWb.out _).mono ?_; rintro e v2 ⟨rfl, rfl⟩
  go_wp2_with fail
  refine (H99.out _).mono ?_; rintro e v2 ⟨rfl, rfl⟩
  go_wp2_with fail
  refine (HWc.out _).mono ?_; rintro e v2 ⟨rfl, rfl⟩
  go_wp2
  go_loopw [13] (fun v wr => v = .int .i64 0 ∧ wr = v2) (fun _ _ => 0)
  case atStart => exact ⟨rfl, rfl⟩
  case round =>
   obtain ⟨rfl, rfl⟩ := hrel
   go_wp2_with fail
   refine (H116.out _).mono ?_; rintro e v2 ⟨rfl, rfl⟩
   go_wp2_with fail
   refine (H114.out _).mono ?_; rintro e v2 ⟨rfl, rfl⟩
   go_wp2
   go_ret
   exact ⟨rfl, HAL.out.trans (K2.out.mono HAL.out.size)⟩
 ·have k0n : 0 ≤ i.k := by omega
  by_cases k1 : 9 < i.k
  ·have k1n : ¬ i.k ≤ 9 := by omega
   have hE : refE i [97, 98, 99, 114] regs code = 12 := by simp [refE, countedB, hsh, hk, hic, hem, hnd, hwa, hwb, hwc, har, show hasL [97, 98, 99, 114] 97 = true by decide, show hasL [97, 98, 99, 114] 98 = true by decide, show hasL [97, 98, 99, 114] 99 = true by decide, show hasL [97, 98, 99, 114] 116 = false by decide, show hasL [97, 98, 99, 114] 114 = true by decide, k0n, k1n]
   rw [hE]
   rw [hem] at HEM
   rw [hnd] at HNM
   rw [hwa] at HWa
   rw [hwb] at HWb
   rw [hwc] at HWc
   have hln : i.ar.length = 0 := by rw [har]; rfl
   rw [hln] at HEM HNM HW g8 ⊢
   have HB9 := zh (show ∀ v : World, Below W.heap.size W v → v.cell? ⟨w.heap.size, 8, none⟩ = some (.slice A 0 c) from fun v hb => by have := (in_cells ((hb.block _ HLT.out).trans HBK.out)).2.2.2.2.2.2.2.2; rwa [hln] at this)
   clear hE hem hnd hsh hk hic hkk hr hz har hln hwa hwb hwc
   go_enter Try.func144, Try.ntmps144
   go_wp2_with fail
   rw [← HW.out]
   refine (HSH.out _).mono ?_; rintro e W ⟨rfl, rfl⟩
   go_wp2_with fail
   refine (HEM.out _).mono ?_
   rintro e v1 ⟨rfl, hb⟩
   obtain ⟨x0, x1, x2, x3, x4, x5, x6, x7, -⟩ := in_cells ((hb.block _ HLT.out).trans HBK.out)
   have x8 := HB9.out _ hb
   have K1 := zh hb
   clear hb g0 g1 g2 g3 g4 g5 g6 g7 g8
   go_wp2_with fail
   refine (HNM.out _).mono ?_
   rintro e v2 ⟨rfl, hb⟩
   have K2 := zh (show Below W.heap.size W v2 from then' K1.out hb)
   obtain ⟨y0, y1, y2, y3, y4, y5, y6, y7, -⟩ := in_cells ((K2.out.block _ HLT.out).trans HBK.out)
   have y8 := HB9.out _ K2.out
   clear hb x0 x1 x2 x3 x4 x5 x6 x7 x8
   go_wp2_with fail
   refine (HCA.out _).mono ?_; rintro e v2 ⟨rfl, rfl⟩
   go_wp2_with fail
   refine (H97.out _).mono ?_; rintro e v2 ⟨rfl, rfl⟩
   go_wp2_with fail
   refine (HWa.out _).mono ?_; rintro e v2 ⟨rfl, rfl⟩
   go_wp2_with fail
   refine (H98.out _).mono ?_; rintro e v2 ⟨rfl, rfl⟩
   go_wp2_with fail
   refine (HWb.out _).mono ?_; rintro e v2 ⟨rfl, rfl⟩
   go_wp2_with fail
   refine (H99.out _).mono ?_; rintro e v2 ⟨rfl, rfl⟩
   go_wp2_with fail
   refine (HWc.out _).mono ?_; rintro e v2 ⟨rfl, rfl⟩
   go_wp2
   go_loopw [13] (fun v wr => v = .int .i64 0 ∧ wr = v2) (fun _ _ => 0)
   case atStart => exact ⟨rfl, rfl⟩
   case round =>
    obtain ⟨rfl, rfl⟩ := hrel
    go_wp2_with fail
    refine (H116.out _).mono ?_; rintro e v2 ⟨rfl, rfl⟩
    go_wp2_with fail
    refine (H114.out _).mono ?_; rintro e v2 ⟨rfl, rfl⟩
    go_wp2
    go_ret
    exact ⟨rfl, HAL.out.trans (K2.out.mono HAL.out.size)⟩
  ·have k1n : i.k ≤ 9 := by omega
   have hE : refE i [97, 98, 99, 114] regs code = 0 := by simp [refE, countedB, hsh, hk, hic, hem, hnd, hwa, hwb, hwc, har, show hasL [97, 98, 99, 114] 97 = true by decide, show hasL [97, 98, 99, 114] 98 = true by decide, show hasL [97, 98, 99, 114] 99 = true by decide, show hasL [97, 98, 99, 114] 116 = false by decide, show hasL [97, 98, 99, 114] 114 = true by decide, k0n, k1n]
   rw [hE]
   rw [hem] at HEM
   rw [hnd] at HNM
   rw [hwa] at HWa
   rw [hwb] at HWb
   rw [hwc] at HWc
   have hln : i.ar.length = 0 := by rw [har]; rfl
   rw [hln] at HEM HNM HW g8 ⊢
   have HB9 := zh (show ∀ v : World, Below W.heap.size W v → v.cell? ⟨w.heap.size, 8, none⟩ = some (.slice A 0 c) from fun v hb => by have := (in_cells ((hb.block _ HLT.out).trans HBK.out)).2.2.2.2.2.2.2.2; rwa [hln] at this)
   clear hE hem hnd hsh hk hic hkk hr hz har hln hwa hwb hwc
   go_enter Try.func144, Try.ntmps144
   go_wp2_with fail
   rw [← HW.out]
   refine (HSH.out _).mono ?_; rintro e W ⟨rfl, rfl⟩
   go_wp2_with fail
   refine (HEM.out _).mono ?_
   rintro e v1 ⟨rfl, hb⟩
   obtain ⟨x0, x1, x2, x3, x4, x5, x6, x7, -⟩ := in_cells ((hb.block _ HLT.out).trans HBK.out)
   have x8 := HB9.out _ hb
   have K1 := zh hb
   clear hb g0 g1 g2 g3 g4 g5 g6 g7 g8
   go_wp2_with fail
   refine (HNM.out _).mono ?_
   rintro e v2 ⟨rfl, hb⟩
   have K2 := zh (show Below W.heap.size W v2 from then' K1.out hb)
   obtain ⟨y0, y1, y2, y3, y4, y5, y6, y7, -⟩ := in_cells ((K2.out.block _ HLT.out).trans HBK.out)
   have y8 := HB9.out _ K2.out
   clear hb x0 x1 x2 x3 x4 x5 x6 x7 x8
   go_wp2_with fail
   refine (HCA.out _).mono ?_; rintro e v2 ⟨rfl, rfl⟩
   go_wp2_with fail
   refine (H97.out _).mono ?_; rintro e v2 ⟨rfl, rfl⟩
   go_wp2_with fail
   refine (HWa.out _).mono ?_; rintro e v2 ⟨rfl, rfl⟩
   go_wp2_with fail
   refine (H98.out _).mono ?_; rintro e v2 ⟨rfl, rfl⟩
   go_wp2_with fail
   refine (HWb.out _).mono ?_; rintro e v2 ⟨rfl, rfl⟩
   go_wp2_with fail
   refine (H99.out _).mono ?_; rintro e v2 ⟨rfl, rfl⟩
   go_wp2_with fail
   refine (HWc.out _).mono ?_; rintro e v2 ⟨rfl, rfl⟩
   go_wp2
   go_loopw [13] (fun v wr => v = .int .i64 0 ∧ wr = v2) (fun _ _ => 0)
   case atStart => exact ⟨rfl, rfl⟩
   case round =>
    obtain ⟨rfl, rfl⟩ := hrel
    go_wp2_with fail
    refine (H116.out _).mono ?_; rintro e v2 ⟨rfl, rfl⟩
    go_wp2_with fail
    refine (H114.out _).mono ?_; rintro e v2 ⟨rfl, rfl⟩
    go_wp2
    go_ret
    exact ⟨rfl, HAL.out.trans (K2.out.mono HAL.out.size)⟩
theorem fits_r12 (i : In) (A : Option Addr) (c : Nat) (regs code : Int) (w : World) (hsh : shapeL i.o = [97, 70]) (hk : known i.o = true) (hr : Rd w A (IL i.ar)) (hz : i.ar.length ≤ 1000) (hd : i.ds.length ≤ 65536) (hcl : i.cl.length ≤ 281474976710656) (hnm : i.nm.length ≤ 281474976710656) :
  Calls Try.prog 144 #[.agg (InV i A c), .int .i64 regs, .int .i64 code] w fun e w' => e = .returned (.int .i64 (refE i [97, 70] regs code)) ∧ Below w.heap.size w w' := by
 obtain ⟨W, hW⟩ : ∃ W, W = w.alloc (.cells (InV i A c) 90) := ⟨_, rfl⟩
 have hal : Below w.heap.size w W := by rw [hW]; exact (Below.refl _ w).alloc (Nat.le_refl _) _
 have HAL := zh hal
 have hblk : W.heap[w.heap.size]? = some (.cells (InV i A c) 90 (0, 0)) := by rw [hW]; exact heap_alloc_new w _
 have HBK := zh hblk; have HLT := zh (blk_lt hblk)
 obtain ⟨g0, g1, g2, g3, g4, g5, g6, g7, g8⟩ := in_cells hblk
 have hkk := of_decide_eq_true hk
 have o1 : ¬ i.o < 1 := by omega
 have o2 : ¬ 32 < i.o := by omega
 have hic : isCall i.o = false := by rw [← call_shape, hsh]; decide
 have h1f := one_of i.o
 rw [hsh] at h1f
 have HSH := zh (fun w => shape_r i.o w)
 rw [hsh] at HSH
 have HEM := zh (fun w => empty_12 i A c w (by omega))
 have HNM := zh (fun w => named_r i A c [97, 70] w (by decide) hd hcl hnm h1f)
 have HCA := zh (fun w => call_r i.o w)
 rw [hic] at HCA
 have H97 := zh (fun w => has_r [97, 70] 97 w (by decide))
 rw [show hasL [97, 70] 97 = true by decide] at H97
 have H98 := zh (fun w => has_r [97, 70] 98 w (by decide))
 rw [show hasL [97, 70] 98 = false by decide] at H98
 have H99 := zh (fun w => has_r [97, 70] 99 w (by decide))
 rw [show hasL [97, 70] 99 = false by decide] at H99
 have H116 := zh (fun w => has_r [97, 70] 116 w (by decide))
 rw [show hasL [97, 70] 116 = false by decide] at H116
 have H114 := zh (fun w => has_r [97, 70] 114 w (by decide))
 rw [show hasL [97, 70] 114 = false by decide] at H114
 have HWa := zh (fun w => within_r i.a regs w)
 dsimp only [InV] at hW HEM HNM ⊢
 have HW := zh hW
 have HO := zh (show isCall i.o = false from hic)
 clear hal hblk hW h1f hd hcl hnm
 cases hem : emptyB i [97, 70] with
 | false =>
  have hE : refE i [97, 70] regs code = 1 := by simp [refE, hk, hic, hem]
  rw [hE]
  rw [hem] at HEM
  clear hE hem hsh hk hic hkk hr hz
  go_enter Try.func144, Try.ntmps144
  go_wp2_with fail
  rw [← HW.out]
  refine (HSH.out _).mono ?_; rintro e W ⟨rfl, rfl⟩
  go_wp2_with fail
  refine (HEM.out _).mono ?_
  rintro e v1 ⟨rfl, hb⟩
  obtain ⟨x0, x1, x2, x3, x4, x5, x6, x7, x8⟩ := in_cells ((hb.block _ HLT.out).trans HBK.out)
  have K1 := zh hb
  clear hb g0 g1 g2 g3 g4 g5 g6 g7 g8
  go_wp2
  go_ret
  exact ⟨rfl, HAL.out.trans (K1.out.mono HAL.out.size)⟩
 | true =>
 cases hnd : namedB i [97, 70] with
 | false =>
  have hE : refE i [97, 70] regs code = 1 := by simp [refE, hk, hic, hem, hnd]
  rw [hE]
  rw [hem] at HEM
  rw [hnd] at HNM
  clear hE hem hnd hsh hk hic hkk hr hz
  go_enter Try.func144, Try.ntmps144
  go_wp2_with fail
  rw [← HW.out]
  refine (HSH.out _).mono ?_; rintro e W ⟨rfl, rfl⟩
  go_wp2_with fail
  refine (HEM.out _).mono ?_
  rintro e v1 ⟨rfl, hb⟩
  obtain ⟨x0, x1, x2, x3, x4, x5, x6, x7, x8⟩ := in_cells ((hb.block _ HLT.out).trans HBK.out)
  have K1 := zh hb
  clear hb g0 g1 g2 g3 g4 g5 g6 g7 g8
  go_wp2_with fail
  refine (HNM.out _).mono ?_
  rintro e v2 ⟨rfl, hb⟩
  have K2 := zh (show Below W.heap.size W v2 from then' K1.out hb)
  obtain ⟨y0, y1, y2, y3, y4, y5, y6, y7, y8⟩ := in_cells ((K2.out.block _ HLT.out).trans HBK.out)
  clear hb x0 x1 x2 x3 x4 x5 x6 x7 x8
  go_wp2
  go_ret
  exact ⟨rfl, HAL.out.trans (K2.out.mono HAL.out.size)⟩
 | true =>
 have har : i.ar = [] := no_args hem (by decide)
 cases hwa : withB i.a regs with
 | false =>
  have hE : refE i [97, 70] regs code = 12 := by simp [refE, hk, hic, hem, hnd, hwa, show hasL [97, 70] 97 = true by decide]
  rw [hE]
  rw [hem] at HEM
  rw [hnd] at HNM
  rw [hwa] at HWa
  clear hE hem hnd hsh hk hic hkk hr hz har hwa
  go_enter Try.func144, Try.ntmps144
  go_wp2_with fail
  rw [← HW.out]
  refine (HSH.out _).mono ?_; rintro e W ⟨rfl, rfl⟩
  go_wp2_with fail
  refine (HEM.out _).mono ?_
  rintro e v1 ⟨rfl, hb⟩
  obtain ⟨x0, x1, x2, x3, x4, x5, x6, x7, x8⟩ := in_cells ((hb.block _ HLT.out).trans HBK.out)
  have K1 := zh hb
  clear hb g0 g1 g2 g3 g4 g5 g6 g7 g8
  go_wp2_with fail
  refine (HNM.out _).mono ?_
  rintro e v2 ⟨rfl, hb⟩
  have K2 := zh (show Below W.heap.size W v2 from then' K1.out hb)
  obtain ⟨y0, y1, y2, y3, y4, y5, y6, y7, y8⟩ := in_cells ((K2.out.block _ HLT.out).trans HBK.out)
  clear hb x0 x1 x2 x3 x4 x5 x6 x7 x8
  go_wp2_with fail
  refine (HCA.out _).mono ?_; rintro e v2 ⟨rfl, rfl⟩
  go_wp2_with fail
  refine (H97.out _).mono ?_; rintro e v2 ⟨rfl, rfl⟩
  go_wp2_with fail
  refine (HWa.out _).mono ?_; rintro e v2 ⟨rfl, rfl⟩
  go_wp2
  go_ret
  exact ⟨rfl, HAL.out.trans (K2.out.mono HAL.out.size)⟩
 | true =>
 have hE : refE i [97, 70] regs code = 0 := by simp [refE, countedB, hsh, hk, hic, hem, hnd, hwa, har, show hasL [97, 70] 97 = true by decide, show hasL [97, 70] 98 = false by decide, show hasL [97, 70] 99 = false by decide, show hasL [97, 70] 116 = false by decide, show hasL [97, 70] 114 = false by decide]
 rw [hE]
 rw [hem] at HEM
 rw [hnd] at HNM
 rw [hwa] at HWa
 have hln : i.ar.length = 0 := by rw [har]; rfl
 rw [hln] at HEM HNM HW g8 ⊢
 have HB9 := zh (show ∀ v : World, Below W.heap.size W v → v.cell? ⟨w.heap.size, 8, none⟩ = some (.slice A 0 c) from fun v hb => by have := (in_cells ((hb.block _ HLT.out).trans HBK.out)).2.2.2.2.2.2.2.2; rwa [hln] at this)
 clear hE hem hnd hsh hk hic hkk hr hz har hln hwa
 go_enter Try.func144, Try.ntmps144
 go_wp2_with fail
 rw [← HW.out]
 refine (HSH.out _).mono ?_; rintro e W ⟨rfl, rfl⟩
 go_wp2_with fail
 refine (HEM.out _).mono ?_
 rintro e v1 ⟨rfl, hb⟩
 obtain ⟨x0, x1, x2, x3, x4, x5, x6, x7, -⟩ := in_cells ((hb.block _ HLT.out).trans HBK.out)
 have x8 := HB9.out _ hb
 have K1 := zh hb
 clear hb g0 g1 g2 g3 g4 g5 g6 g7 g8
 go_wp2_with fail
 refine (HNM.out _).mono ?_
 rintro e v2 ⟨rfl, hb⟩
 have K2 := zh (show Below W.heap.size W v2 from then' K1.out hb)
 obtain ⟨y0, y1, y2, y3, y4, y5, y6, y7, -⟩ := in_cells ((K2.out.block _ HLT.out).trans HBK.out)
 have y8 := HB9.out _ K2.out
 clear hb x0 x1 x2 x3 x4 x5 x6 x7 x8
 go_wp2_with fail
 refine (HCA.out _).mono ?_; rintro e v2 ⟨rfl, rfl⟩
 go_wp2_with fail
 refine (H97.out _).mono ?_; rintro e v2 ⟨rfl, rfl⟩
 go_wp2_with fail
 refine (HWa.out _).mono ?_; rintro e v2 ⟨rfl, rfl⟩
 go_wp2_with fail
 refine (H98.out _).mono ?_; rintro e v2 ⟨rfl, rfl⟩
 go_wp2_with fail
 refine (H99.out _).mono ?_; rintro e v2 ⟨rfl, rfl⟩
 go_wp2
 go_loopw [13] (fun v wr => v = .int .i64 0 ∧ wr = v2) (fun _ _ => 0)
 case atStart => exact ⟨rfl, rfl⟩
 case round =>
  obtain ⟨rfl, rfl⟩ := hrel
  go_wp2_with fail
  refine (H116.out _).mono ?_; rintro e v2 ⟨rfl, rfl⟩
  go_wp2_with fail
  refine (H114.out _).mono ?_; rintro e v2 ⟨rfl, rfl⟩
  go_wp2
  go_ret
  exact ⟨rfl, HAL.out.trans (K2.out.mono HAL.out.size)⟩
theorem fits_r13 (i : In) (A : Option Addr) (c : Nat) (regs code : Int) (w : World) (hsh : shapeL i.o = [99, 70]) (hk : known i.o = true) (hr : Rd w A (IL i.ar)) (hz : i.ar.length ≤ 1000) (hd : i.ds.length ≤ 65536) (hcl : i.cl.length ≤ 281474976710656) (hnm : i.nm.length ≤ 281474976710656) :
  Calls Try.prog 144 #[.agg (InV i A c), .int .i64 regs, .int .i64 code] w fun e w' => e = .returned (.int .i64 (refE i [99, 70] regs code)) ∧ Below w.heap.size w w' := by
 obtain ⟨W, hW⟩ : ∃ W, W = w.alloc (.cells (InV i A c) 90) := ⟨_, rfl⟩
 have hal : Below w.heap.size w W := by rw [hW]; exact (Below.refl _ w).alloc (Nat.le_refl _) _
 have HAL := zh hal
 have hblk : W.heap[w.heap.size]? = some (.cells (InV i A c) 90 (0, 0)) := by rw [hW]; exact heap_alloc_new w _
 have HBK := zh hblk; have HLT := zh (blk_lt hblk)
 obtain ⟨g0, g1, g2, g3, g4, g5, g6, g7, g8⟩ := in_cells hblk
 have hkk := of_decide_eq_true hk
 have o1 : ¬ i.o < 1 := by omega
 have o2 : ¬ 32 < i.o := by omega
 have hic : isCall i.o = false := by rw [← call_shape, hsh]; decide
 have h1f := one_of i.o
 rw [hsh] at h1f
 have HSH := zh (fun w => shape_r i.o w)
 rw [hsh] at HSH
 have HEM := zh (fun w => empty_13 i A c w (by omega))
 have HNM := zh (fun w => named_r i A c [99, 70] w (by decide) hd hcl hnm h1f)
 have HCA := zh (fun w => call_r i.o w)
 rw [hic] at HCA
 have H97 := zh (fun w => has_r [99, 70] 97 w (by decide))
 rw [show hasL [99, 70] 97 = false by decide] at H97
 have H98 := zh (fun w => has_r [99, 70] 98 w (by decide))
 rw [show hasL [99, 70] 98 = false by decide] at H98
 have H99 := zh (fun w => has_r [99, 70] 99 w (by decide))
 rw [show hasL [99, 70] 99 = true by decide] at H99
 have H116 := zh (fun w => has_r [99, 70] 116 w (by decide))
 rw [show hasL [99, 70] 116 = false by decide] at H116
 have H114 := zh (fun w => has_r [99, 70] 114 w (by decide))
 rw [show hasL [99, 70] 114 = false by decide] at H114
 have HWc := zh (fun w => within_r i.c regs w)
 dsimp only [InV] at hW HEM HNM ⊢
 have HW := zh hW
 have HO := zh (show isCall i.o = false from hic)
 clear hal hblk hW h1f hd hcl hnm
 cases hem : emptyB i [99, 70] with
 | false =>
  have hE : refE i [99, 70] regs code = 1 := by simp [refE, hk, hic, hem]
  rw [hE]
  rw [hem] at HEM
  clear hE hem hsh hk hic hkk hr hz
  go_enter Try.func144, Try.ntmps144
  go_wp2_with fail
  rw [← HW.out]
  refine (HSH.out _).mono ?_; rintro e W ⟨rfl, rfl⟩
  go_wp2_with fail
  refine (HEM.out _).mono ?_
  rintro e v1 ⟨rfl, hb⟩
  obtain ⟨x0, x1, x2, x3, x4, x5, x6, x7, x8⟩ := in_cells ((hb.block _ HLT.out).trans HBK.out)
  have K1 := zh hb
  clear hb g0 g1 g2 g3 g4 g5 g6 g7 g8
  go_wp2
  go_ret
  exact ⟨rfl, HAL.out.trans (K1.out.mono HAL.out.size)⟩
 | true =>
 cases hnd : namedB i [99, 70] with
 | false =>
  have hE : refE i [99, 70] regs code = 1 := by simp [refE, hk, hic, hem, hnd]
  rw [hE]
  rw [hem] at HEM
  rw [hnd] at HNM
  clear hE hem hnd hsh hk hic hkk hr hz
  go_enter Try.func144, Try.ntmps144
  go_wp2_with fail
  rw [← HW.out]
  refine (HSH.out _).mono ?_; rintro e W ⟨rfl, rfl⟩
  go_wp2_with fail
  refine (HEM.out _).mono ?_
  rintro e v1 ⟨rfl, hb⟩
  obtain ⟨x0, x1, x2, x3, x4, x5, x6, x7, x8⟩ := in_cells ((hb.block _ HLT.out).trans HBK.out)
  have K1 := zh hb
  clear hb g0 g1 g2 g3 g4 g5 g6 g7 g8
  go_wp2_with fail
  refine (HNM.out _).mono ?_
  rintro e v2 ⟨rfl, hb⟩
  have K2 := zh (show Below W.heap.size W v2 from then' K1.out hb)
  obtain ⟨y0, y1, y2, y3, y4, y5, y6, y7, y8⟩ := in_cells ((K2.out.block _ HLT.out).trans HBK.out)
  clear hb x0 x1 x2 x3 x4 x5 x6 x7 x8
  go_wp2
  go_ret
  exact ⟨rfl, HAL.out.trans (K2.out.mono HAL.out.size)⟩
 | true =>
 have har : i.ar = [] := no_args hem (by decide)
 cases hwc : withB i.c regs with
 | false =>
  have hE : refE i [99, 70] regs code = 12 := by simp [refE, hk, hic, hem, hnd, hwc, show hasL [99, 70] 99 = true by decide, show hasL [99, 70] 97 = false by decide, show hasL [99, 70] 98 = false by decide]
  rw [hE]
  rw [hem] at HEM
  rw [hnd] at HNM
  rw [hwc] at HWc
  clear hE hem hnd hsh hk hic hkk hr hz har hwc
  go_enter Try.func144, Try.ntmps144
  go_wp2_with fail
  rw [← HW.out]
  refine (HSH.out _).mono ?_; rintro e W ⟨rfl, rfl⟩
  go_wp2_with fail
  refine (HEM.out _).mono ?_
  rintro e v1 ⟨rfl, hb⟩
  obtain ⟨x0, x1, x2, x3, x4, x5, x6, x7, x8⟩ := in_cells ((hb.block _ HLT.out).trans HBK.out)
  have K1 := zh hb
  clear hb g0 g1 g2 g3 g4 g5 g6 g7 g8
  go_wp2_with fail
  refine (HNM.out _).mono ?_
  rintro e v2 ⟨rfl, hb⟩
  have K2 := zh (show Below W.heap.size W v2 from then' K1.out hb)
  obtain ⟨y0, y1, y2, y3, y4, y5, y6, y7, y8⟩ := in_cells ((K2.out.block _ HLT.out).trans HBK.out)
  clear hb x0 x1 x2 x3 x4 x5 x6 x7 x8
  go_wp2_with fail
  refine (HCA.out _).mono ?_; rintro e v2 ⟨rfl, rfl⟩
  go_wp2_with fail
  refine (H97.out _).mono ?_; rintro e v2 ⟨rfl, rfl⟩
  go_wp2_with fail
  refine (H98.out _).mono ?_; rintro e v2 ⟨rfl, rfl⟩
  go_wp2_with fail
  refine (H99.out _).mono ?_; rintro e v2 ⟨rfl, rfl⟩
  go_wp2_with fail
  refine (HWc.out _).mono ?_; rintro e v2 ⟨rfl, rfl⟩
  go_wp2
  go_ret
  exact ⟨rfl, HAL.out.trans (K2.out.mono HAL.out.size)⟩
 | true =>
 have hE : refE i [99, 70] regs code = 0 := by simp [refE, countedB, hsh, hk, hic, hem, hnd, hwc, har, show hasL [99, 70] 97 = false by decide, show hasL [99, 70] 98 = false by decide, show hasL [99, 70] 99 = true by decide, show hasL [99, 70] 116 = false by decide, show hasL [99, 70] 114 = false by decide]
 rw [hE]
 rw [hem] at HEM
 rw [hnd] at HNM
 rw [hwc] at HWc
 have hln : i.ar.length = 0 := by rw [har]; rfl
 rw [hln] at HEM HNM HW g8 ⊢
 have HB9 := zh (show ∀ v : World, Below W.heap.size W v → v.cell? ⟨w.heap.size, 8, none⟩ = some (.slice A 0 c) from fun v hb => by have := (in_cells ((hb.block _ HLT.out).trans HBK.out)).2.2.2.2.2.2.2.2; rwa [hln] at this)
 clear hE hem hnd hsh hk hic hkk hr hz har hln hwc
 go_enter Try.func144, Try.ntmps144
 go_wp2_with fail
 rw [← HW.out]
 refine (HSH.out _).mono ?_; rintro e W ⟨rfl, rfl⟩
 go_wp2_with fail
 refine (HEM.out _).mono ?_
 rintro e v1 ⟨rfl, hb⟩
 obtain ⟨x0, x1, x2, x3, x4, x5, x6, x7, -⟩ := in_cells ((hb.block _ HLT.out).trans HBK.out)
 have x8 := HB9.out _ hb
 have K1 := zh hb
 clear hb g0 g1 g2 g3 g4 g5 g6 g7 g8
 go_wp2_with fail
 refine (HNM.out _).mono ?_
 rintro e v2 ⟨rfl, hb⟩
 have K2 := zh (show Below W.heap.size W v2 from then' K1.out hb)
 obtain ⟨y0, y1, y2, y3, y4, y5, y6, y7, -⟩ := in_cells ((K2.out.block _ HLT.out).trans HBK.out)
 have y8 := HB9.out _ K2.out
 clear hb x0 x1 x2 x3 x4 x5 x6 x7 x8
 go_wp2_with fail
 refine (HCA.out _).mono ?_; rintro e v2 ⟨rfl, rfl⟩
 go_wp2_with fail
 refine (H97.out _).mono ?_; rintro e v2 ⟨rfl, rfl⟩
 go_wp2_with fail
 refine (H98.out _).mono ?_; rintro e v2 ⟨rfl, rfl⟩
 go_wp2_with fail
 refine (H99.out _).mono ?_; rintro e v2 ⟨rfl, rfl⟩
 go_wp2_with fail
 refine (HWc.out _).mono ?_; rintro e v2 ⟨rfl, rfl⟩
 go_wp2
 go_loopw [13] (fun v wr => v = .int .i64 0 ∧ wr = v2) (fun _ _ => 0)
 case atStart => exact ⟨rfl, rfl⟩
 case round =>
  obtain ⟨rfl, rfl⟩ := hrel
  go_wp2_with fail
  refine (H116.out _).mono ?_; rintro e v2 ⟨rfl, rfl⟩
  go_wp2_with fail
  refine (H114.out _).mono ?_; rintro e v2 ⟨rfl, rfl⟩
  go_wp2
  go_ret
  exact ⟨rfl, HAL.out.trans (K2.out.mono HAL.out.size)⟩
theorem fits_r16 (i : In) (A : Option Addr) (c : Nat) (regs code : Int) (w : World) (hsh : shapeL i.o = [107]) (hk : known i.o = true) (hr : Rd w A (IL i.ar)) (hz : i.ar.length ≤ 1000) (hd : i.ds.length ≤ 65536) (hcl : i.cl.length ≤ 281474976710656) (hnm : i.nm.length ≤ 281474976710656) :
  Calls Try.prog 144 #[.agg (InV i A c), .int .i64 regs, .int .i64 code] w fun e w' => e = .returned (.int .i64 (refE i [107] regs code)) ∧ Below w.heap.size w w' := by
 obtain ⟨W, hW⟩ : ∃ W, W = w.alloc (.cells (InV i A c) 90) := ⟨_, rfl⟩
 have hal : Below w.heap.size w W := by rw [hW]; exact (Below.refl _ w).alloc (Nat.le_refl _) _
 have HAL := zh hal
 have hblk : W.heap[w.heap.size]? = some (.cells (InV i A c) 90 (0, 0)) := by rw [hW]; exact heap_alloc_new w _
 have HBK := zh hblk; have HLT := zh (blk_lt hblk)
 obtain ⟨g0, g1, g2, g3, g4, g5, g6, g7, g8⟩ := in_cells hblk
 have hkk := of_decide_eq_true hk
 have o1 : ¬ i.o < 1 := by omega
 have o2 : ¬ 32 < i.o := by omega
 have hic : isCall i.o = false := by rw [← call_shape, hsh]; decide
 have h1f := one_of i.o
 rw [hsh] at h1f
 have HSH := zh (fun w => shape_r i.o w)
 rw [hsh] at HSH
 have HEM := zh (fun w => empty_16 i A c w (by omega))
 have HNM := zh (fun w => named_r i A c [107] w (by decide) hd hcl hnm h1f)
 have HCA := zh (fun w => call_r i.o w)
 rw [hic] at HCA
 have H97 := zh (fun w => has_r [107] 97 w (by decide))
 rw [show hasL [107] 97 = false by decide] at H97
 have H98 := zh (fun w => has_r [107] 98 w (by decide))
 rw [show hasL [107] 98 = false by decide] at H98
 have H99 := zh (fun w => has_r [107] 99 w (by decide))
 rw [show hasL [107] 99 = false by decide] at H99
 have H116 := zh (fun w => has_r [107] 116 w (by decide))
 rw [show hasL [107] 116 = false by decide] at H116
 have H114 := zh (fun w => has_r [107] 114 w (by decide))
 rw [show hasL [107] 114 = false by decide] at H114
 dsimp only [InV] at hW HEM HNM ⊢
 have HW := zh hW
 have HO := zh (show isCall i.o = false from hic)
 clear hal hblk hW h1f hd hcl hnm
 cases hem : emptyB i [107] with
 | false =>
  have hE : refE i [107] regs code = 1 := by simp [refE, hk, hic, hem]
  rw [hE]
  rw [hem] at HEM
  clear hE hem hsh hk hic hkk hr hz
  go_enter Try.func144, Try.ntmps144
  go_wp2_with fail
  rw [← HW.out]
  refine (HSH.out _).mono ?_; rintro e W ⟨rfl, rfl⟩
  go_wp2_with fail
  refine (HEM.out _).mono ?_
  rintro e v1 ⟨rfl, hb⟩
  obtain ⟨x0, x1, x2, x3, x4, x5, x6, x7, x8⟩ := in_cells ((hb.block _ HLT.out).trans HBK.out)
  have K1 := zh hb
  clear hb g0 g1 g2 g3 g4 g5 g6 g7 g8
  go_wp2
  go_ret
  exact ⟨rfl, HAL.out.trans (K1.out.mono HAL.out.size)⟩
 | true =>
 cases hnd : namedB i [107] with
 | false =>
  have hE : refE i [107] regs code = 1 := by simp [refE, hk, hic, hem, hnd]
  rw [hE]
  rw [hem] at HEM
  rw [hnd] at HNM
  clear hE hem hnd hsh hk hic hkk hr hz
  go_enter Try.func144, Try.ntmps144
  go_wp2_with fail
  rw [← HW.out]
  refine (HSH.out _).mono ?_; rintro e W ⟨rfl, rfl⟩
  go_wp2_with fail
  refine (HEM.out _).mono ?_
  rintro e v1 ⟨rfl, hb⟩
  obtain ⟨x0, x1, x2, x3, x4, x5, x6, x7, x8⟩ := in_cells ((hb.block _ HLT.out).trans HBK.out)
  have K1 := zh hb
  clear hb g0 g1 g2 g3 g4 g5 g6 g7 g8
  go_wp2_with fail
  refine (HNM.out _).mono ?_
  rintro e v2 ⟨rfl, hb⟩
  have K2 := zh (show Below W.heap.size W v2 from then' K1.out hb)
  obtain ⟨y0, y1, y2, y3, y4, y5, y6, y7, y8⟩ := in_cells ((K2.out.block _ HLT.out).trans HBK.out)
  clear hb x0 x1 x2 x3 x4 x5 x6 x7 x8
  go_wp2
  go_ret
  exact ⟨rfl, HAL.out.trans (K2.out.mono HAL.out.size)⟩
 | true =>
 have har : i.ar = [] := no_args hem (by decide)
 have hE : refE i [107] regs code = 0 := by simp [refE, countedB, hsh, hk, hic, hem, hnd, har, show hasL [107] 97 = false by decide, show hasL [107] 98 = false by decide, show hasL [107] 99 = false by decide, show hasL [107] 116 = false by decide, show hasL [107] 114 = false by decide]
 rw [hE]
 rw [hem] at HEM
 rw [hnd] at HNM
 have hln : i.ar.length = 0 := by rw [har]; rfl
 rw [hln] at HEM HNM HW g8 ⊢
 have HB9 := zh (show ∀ v : World, Below W.heap.size W v → v.cell? ⟨w.heap.size, 8, none⟩ = some (.slice A 0 c) from fun v hb => by have := (in_cells ((hb.block _ HLT.out).trans HBK.out)).2.2.2.2.2.2.2.2; rwa [hln] at this)
 clear hE hem hnd hsh hk hic hkk hr hz har hln 
 go_enter Try.func144, Try.ntmps144
 go_wp2_with fail
 rw [← HW.out]
 refine (HSH.out _).mono ?_; rintro e W ⟨rfl, rfl⟩
 go_wp2_with fail
 refine (HEM.out _).mono ?_
 rintro e v1 ⟨rfl, hb⟩
 obtain ⟨x0, x1, x2, x3, x4, x5, x6, x7, -⟩ := in_cells ((hb.block _ HLT.out).trans HBK.out)
 have x8 := HB9.out _ hb
 have K1 := zh hb
 clear hb g0 g1 g2 g3 g4 g5 g6 g7 g8
 go_wp2_with fail
 refine (HNM.out _).mono ?_
 rintro e v2 ⟨rfl, hb⟩
 have K2 := zh (show Below W.heap.size W v2 from then' K1.out hb)
 obtain ⟨y0, y1, y2, y3, y4, y5, y6, y7, -⟩ := in_cells ((K2.out.block _ HLT.out).trans HBK.out)
 have y8 := HB9.out _ K2.out
 clear hb x0 x1 x2 x3 x4 x5 x6 x7 x8
 go_wp2_with fail
 refine (HCA.out _).mono ?_; rintro e v2 ⟨rfl, rfl⟩
 go_wp2_with fail
 refine (H97.out _).mono ?_; rintro e v2 ⟨rfl, rfl⟩
 go_wp2_with fail
 refine (H98.out _).mono ?_; rintro e v2 ⟨rfl, rfl⟩
 go_wp2_with fail
 refine (H99.out _).mono ?_; rintro e v2 ⟨rfl, rfl⟩
 go_wp2
 go_loopw [13] (fun v wr => v = .int .i64 0 ∧ wr = v2) (fun _ _ => 0)
 case atStart => exact ⟨rfl, rfl⟩
 case round =>
  obtain ⟨rfl, rfl⟩ := hrel
  go_wp2_with fail
  refine (H116.out _).mono ?_; rintro e v2 ⟨rfl, rfl⟩
  go_wp2_with fail
  refine (H114.out _).mono ?_; rintro e v2 ⟨rfl, rfl⟩
  go_wp2
  go_ret
  exact ⟨rfl, HAL.out.trans (K2.out.mono HAL.out.size)⟩
theorem fits_r17 (i : In) (A : Option Addr) (c : Nat) (regs code : Int) (w : World) (hsh : shapeL i.o = [67]) (hk : known i.o = true) (hr : Rd w A (IL i.ar)) (hz : i.ar.length ≤ 1000) (hd : i.ds.length ≤ 65536) (hcl : i.cl.length ≤ 281474976710656) (hnm : i.nm.length ≤ 281474976710656) :
  Calls Try.prog 144 #[.agg (InV i A c), .int .i64 regs, .int .i64 code] w fun e w' => e = .returned (.int .i64 (refE i [67] regs code)) ∧ Below w.heap.size w w' := by
 obtain ⟨W, hW⟩ : ∃ W, W = w.alloc (.cells (InV i A c) 90) := ⟨_, rfl⟩
 have hal : Below w.heap.size w W := by rw [hW]; exact (Below.refl _ w).alloc (Nat.le_refl _) _
 have HAL := zh hal
 have hblk : W.heap[w.heap.size]? = some (.cells (InV i A c) 90 (0, 0)) := by rw [hW]; exact heap_alloc_new w _
 have HBK := zh hblk; have HLT := zh (blk_lt hblk)
 obtain ⟨g0, g1, g2, g3, g4, g5, g6, g7, g8⟩ := in_cells hblk
 have hkk := of_decide_eq_true hk
 have o1 : ¬ i.o < 1 := by omega
 have o2 : ¬ 32 < i.o := by omega
 have hic : isCall i.o = false := by rw [← call_shape, hsh]; decide
 have h1f := one_of i.o
 rw [hsh] at h1f
 have HSH := zh (fun w => shape_r i.o w)
 rw [hsh] at HSH
 have HEM := zh (fun w => empty_17 i A c w (by omega))
 have HNM := zh (fun w => named_r i A c [67] w (by decide) hd hcl hnm h1f)
 have HCA := zh (fun w => call_r i.o w)
 rw [hic] at HCA
 have H97 := zh (fun w => has_r [67] 97 w (by decide))
 rw [show hasL [67] 97 = false by decide] at H97
 have H98 := zh (fun w => has_r [67] 98 w (by decide))
 rw [show hasL [67] 98 = false by decide] at H98
 have H99 := zh (fun w => has_r [67] 99 w (by decide))
 rw [show hasL [67] 99 = false by decide] at H99
 have H116 := zh (fun w => has_r [67] 116 w (by decide))
 rw [show hasL [67] 116 = false by decide] at H116
 have H114 := zh (fun w => has_r [67] 114 w (by decide))
 rw [show hasL [67] 114 = false by decide] at H114
 dsimp only [InV] at hW HEM HNM ⊢
 have HW := zh hW
 have HO := zh (show isCall i.o = false from hic)
 clear hal hblk hW h1f hd hcl hnm
 cases hem : emptyB i [67] with
 | false =>
  have hE : refE i [67] regs code = 1 := by simp [refE, hk, hic, hem]
  rw [hE]
  rw [hem] at HEM
  clear hE hem hsh hk hic hkk hr hz
  go_enter Try.func144, Try.ntmps144
  go_wp2_with fail
  rw [← HW.out]
  refine (HSH.out _).mono ?_; rintro e W ⟨rfl, rfl⟩
  go_wp2_with fail
  refine (HEM.out _).mono ?_
  rintro e v1 ⟨rfl, hb⟩
  obtain ⟨x0, x1, x2, x3, x4, x5, x6, x7, x8⟩ := in_cells ((hb.block _ HLT.out).trans HBK.out)
  have K1 := zh hb
  clear hb g0 g1 g2 g3 g4 g5 g6 g7 g8
  go_wp2
  go_ret
  exact ⟨rfl, HAL.out.trans (K1.out.mono HAL.out.size)⟩
 | true =>
 cases hnd : namedB i [67] with
 | false =>
  have hE : refE i [67] regs code = 1 := by simp [refE, hk, hic, hem, hnd]
  rw [hE]
  rw [hem] at HEM
  rw [hnd] at HNM
  clear hE hem hnd hsh hk hic hkk hr hz
  go_enter Try.func144, Try.ntmps144
  go_wp2_with fail
  rw [← HW.out]
  refine (HSH.out _).mono ?_; rintro e W ⟨rfl, rfl⟩
  go_wp2_with fail
  refine (HEM.out _).mono ?_
  rintro e v1 ⟨rfl, hb⟩
  obtain ⟨x0, x1, x2, x3, x4, x5, x6, x7, x8⟩ := in_cells ((hb.block _ HLT.out).trans HBK.out)
  have K1 := zh hb
  clear hb g0 g1 g2 g3 g4 g5 g6 g7 g8
  go_wp2_with fail
  refine (HNM.out _).mono ?_
  rintro e v2 ⟨rfl, hb⟩
  have K2 := zh (show Below W.heap.size W v2 from then' K1.out hb)
  obtain ⟨y0, y1, y2, y3, y4, y5, y6, y7, y8⟩ := in_cells ((K2.out.block _ HLT.out).trans HBK.out)
  clear hb x0 x1 x2 x3 x4 x5 x6 x7 x8
  go_wp2
  go_ret
  exact ⟨rfl, HAL.out.trans (K2.out.mono HAL.out.size)⟩
 | true =>
 have har : i.ar = [] := no_args hem (by decide)
 have hE : refE i [67] regs code = 0 := by simp [refE, countedB, hsh, hk, hic, hem, hnd, har, show hasL [67] 97 = false by decide, show hasL [67] 98 = false by decide, show hasL [67] 99 = false by decide, show hasL [67] 116 = false by decide, show hasL [67] 114 = false by decide]
 rw [hE]
 rw [hem] at HEM
 rw [hnd] at HNM
 have hln : i.ar.length = 0 := by rw [har]; rfl
 rw [hln] at HEM HNM HW g8 ⊢
 have HB9 := zh (show ∀ v : World, Below W.heap.size W v → v.cell? ⟨w.heap.size, 8, none⟩ = some (.slice A 0 c) from fun v hb => by have := (in_cells ((hb.block _ HLT.out).trans HBK.out)).2.2.2.2.2.2.2.2; rwa [hln] at this)
 clear hE hem hnd hsh hk hic hkk hr hz har hln 
 go_enter Try.func144, Try.ntmps144
 go_wp2_with fail
 rw [← HW.out]
 refine (HSH.out _).mono ?_; rintro e W ⟨rfl, rfl⟩
 go_wp2_with fail
 refine (HEM.out _).mono ?_
 rintro e v1 ⟨rfl, hb⟩
 obtain ⟨x0, x1, x2, x3, x4, x5, x6, x7, -⟩ := in_cells ((hb.block _ HLT.out).trans HBK.out)
 have x8 := HB9.out _ hb
 have K1 := zh hb
 clear hb g0 g1 g2 g3 g4 g5 g6 g7 g8
 go_wp2_with fail
 refine (HNM.out _).mono ?_
 rintro e v2 ⟨rfl, hb⟩
 have K2 := zh (show Below W.heap.size W v2 from then' K1.out hb)
 obtain ⟨y0, y1, y2, y3, y4, y5, y6, y7, -⟩ := in_cells ((K2.out.block _ HLT.out).trans HBK.out)
 have y8 := HB9.out _ K2.out
 clear hb x0 x1 x2 x3 x4 x5 x6 x7 x8
 go_wp2_with fail
 refine (HCA.out _).mono ?_; rintro e v2 ⟨rfl, rfl⟩
 go_wp2_with fail
 refine (H97.out _).mono ?_; rintro e v2 ⟨rfl, rfl⟩
 go_wp2_with fail
 refine (H98.out _).mono ?_; rintro e v2 ⟨rfl, rfl⟩
 go_wp2_with fail
 refine (H99.out _).mono ?_; rintro e v2 ⟨rfl, rfl⟩
 go_wp2
 go_loopw [13] (fun v wr => v = .int .i64 0 ∧ wr = v2) (fun _ _ => 0)
 case atStart => exact ⟨rfl, rfl⟩
 case round =>
  obtain ⟨rfl, rfl⟩ := hrel
  go_wp2_with fail
  refine (H116.out _).mono ?_; rintro e v2 ⟨rfl, rfl⟩
  go_wp2_with fail
  refine (H114.out _).mono ?_; rintro e v2 ⟨rfl, rfl⟩
  go_wp2
  go_ret
  exact ⟨rfl, HAL.out.trans (K2.out.mono HAL.out.size)⟩
end Go.Proofs.Ytdifmgeicnndfaa.op
namespace Go.Proofs.Ytdifmgeicnndfaa.op
open Go.RowKit
open words kindp opp kind word
set_option maxRecDepth 100000
set_option maxHeartbeats 16000000
set_option linter.all false
theorem fits_r14 (i : In) (A : Option Addr) (c : Nat) (regs code : Int) (w : World) (hsh : shapeL i.o = [97, 77, 118]) (hk : known i.o = true) (hr : Rd w A (IL i.ar)) (hz : i.ar.length ≤ 1000) (hd : i.ds.length ≤ 65536) (hcl : i.cl.length ≤ 281474976710656) (hnm : i.nm.length ≤ 281474976710656) :
  Calls Try.prog 144 #[.agg (InV i A c), .int .i64 regs, .int .i64 code] w fun e w' => e = .returned (.int .i64 (refE i [97, 77, 118] regs code)) ∧ Below w.heap.size w w' := by
 obtain ⟨W, hW⟩ : ∃ W, W = w.alloc (.cells (InV i A c) 90) := ⟨_, rfl⟩
 have hal : Below w.heap.size w W := by rw [hW]; exact (Below.refl _ w).alloc (Nat.le_refl _) _
 have HAL := zh hal
 have hblk : W.heap[w.heap.size]? = some (.cells (InV i A c) 90 (0, 0)) := by rw [hW]; exact heap_alloc_new w _
 have HBK := zh hblk; have HLT := zh (blk_lt hblk)
 obtain ⟨g0, g1, g2, g3, g4, g5, g6, g7, g8⟩ := in_cells hblk
 have hkk := of_decide_eq_true hk
 have o1 : ¬ i.o < 1 := by omega
 have o2 : ¬ 32 < i.o := by omega
 have hic : isCall i.o = true := by rw [← call_shape, hsh]; decide
 have h1f := one_of i.o
 rw [hsh] at h1f
 have HSH := zh (fun w => shape_r i.o w)
 rw [hsh] at HSH
 have HEM := zh (fun w => empty_14 i A c w (by omega))
 have HNM := zh (fun w => named_r i A c [97, 77, 118] w (by decide) hd hcl hnm h1f)
 have HCA := zh (fun w => call_r i.o w)
 rw [hic] at HCA
 have HSP := zh (fun w => kind.split_r ⟨i.ds.toArray⟩ w (by show i.ds.toArray.size ≤ _; simp; omega))
 unfold SplitW at HSP
 rw [show (⟨i.ds.toArray⟩ : ByteArray).data.toList = i.ds from rfl] at HSP
 have H97 := zh (fun w => has_r [97, 77, 118] 97 w (by decide))
 rw [show hasL [97, 77, 118] 97 = true by decide] at H97
 have H98 := zh (fun w => has_r [97, 77, 118] 98 w (by decide))
 rw [show hasL [97, 77, 118] 98 = false by decide] at H98
 have H99 := zh (fun w => has_r [97, 77, 118] 99 w (by decide))
 rw [show hasL [97, 77, 118] 99 = false by decide] at H99
 have H116 := zh (fun w => has_r [97, 77, 118] 116 w (by decide))
 rw [show hasL [97, 77, 118] 116 = false by decide] at H116
 have H114 := zh (fun w => has_r [97, 77, 118] 114 w (by decide))
 rw [show hasL [97, 77, 118] 114 = false by decide] at H114
 have HWa := zh (fun w => within_r i.a regs w)
 dsimp only [InV] at hW HEM HNM ⊢
 have HW := zh hW
 have HO := zh (show isCall i.o = true from hic)
 clear hal hblk hW h1f hd hcl hnm
 cases hem : emptyB i [97, 77, 118] with
 | false =>
  have hE : refE i [97, 77, 118] regs code = 1 := by simp [refE, hk, hic, hem]
  rw [hE]
  rw [hem] at HEM
  clear hE hem hsh hk hic hkk hr hz
  go_enter Try.func144, Try.ntmps144
  go_wp2_with fail
  rw [← HW.out]
  refine (HSH.out _).mono ?_; rintro e W ⟨rfl, rfl⟩
  go_wp2_with fail
  refine (HEM.out _).mono ?_
  rintro e v1 ⟨rfl, hb⟩
  obtain ⟨x0, x1, x2, x3, x4, x5, x6, x7, x8⟩ := in_cells ((hb.block _ HLT.out).trans HBK.out)
  have K1 := zh hb
  clear hb g0 g1 g2 g3 g4 g5 g6 g7 g8
  go_wp2
  go_ret
  exact ⟨rfl, HAL.out.trans (K1.out.mono HAL.out.size)⟩
 | true =>
 cases hnd : namedB i [97, 77, 118] with
 | false =>
  have hE : refE i [97, 77, 118] regs code = 1 := by simp [refE, hk, hic, hem, hnd]
  rw [hE]
  rw [hem] at HEM
  rw [hnd] at HNM
  clear hE hem hnd hsh hk hic hkk hr hz
  go_enter Try.func144, Try.ntmps144
  go_wp2_with fail
  rw [← HW.out]
  refine (HSH.out _).mono ?_; rintro e W ⟨rfl, rfl⟩
  go_wp2_with fail
  refine (HEM.out _).mono ?_
  rintro e v1 ⟨rfl, hb⟩
  obtain ⟨x0, x1, x2, x3, x4, x5, x6, x7, x8⟩ := in_cells ((hb.block _ HLT.out).trans HBK.out)
  have K1 := zh hb
  clear hb g0 g1 g2 g3 g4 g5 g6 g7 g8
  go_wp2_with fail
  refine (HNM.out _).mono ?_
  rintro e v2 ⟨rfl, hb⟩
  have K2 := zh (show Below W.heap.size W v2 from then' K1.out hb)
  obtain ⟨y0, y1, y2, y3, y4, y5, y6, y7, y8⟩ := in_cells ((K2.out.block _ HLT.out).trans HBK.out)
  clear hb x0 x1 x2 x3 x4 x5 x6 x7 x8
  go_wp2
  go_ret
  exact ⟨rfl, HAL.out.trans (K2.out.mono HAL.out.size)⟩
 | true =>
 have hse := split_err i.ds
 obtain ⟨R, hR⟩ : ∃ R, R = refE i [97, 77, 118] regs code := ⟨_, rfl⟩
 rw [← hR]
 obtain ⟨⟨ps, ⟨rk, rc⟩, er⟩, hsp⟩ : ∃ x, x = splitT i.ds := ⟨_, rfl⟩
 have hcn : countedB i code = true := by simp [countedB, hsh, show hasL [97, 77, 118] 116 = false by decide, show hasL [97, 77, 118] 114 = false by decide]
 have hR2 : R = if i.ar.length ≠ ps.length + recv i.o then 9 else if withB i.a regs = false then 12 else if rk = 1 ∧ i.a ≠ 0 then 12 else if i.ar.all (fun z => withB z regs) = false then 12 else 0 := by
  rw [hR]; unfold refE; rw [← hsp]; simp only [hk, hem, hnd, hic, hcn, show hasL [97, 77, 118] 97 = true by decide, show hasL [97, 77, 118] 98 = false by decide, show hasL [97, 77, 118] 99 = false by decide]; simp
 rw [← hsp] at HSP hse
 dsimp only at HSP hse
 obtain ⟨np, hnp⟩ : ∃ n, n = ps.length := ⟨_, rfl⟩
 rw [← hnp] at HSP hse hR2
 obtain ⟨m, hm⟩ : ∃ m, m = i.ar.length := ⟨_, rfl⟩
 rw [← hm] at HW hR2 hz HEM HNM g8 ⊢
 have HB9 := zh (show ∀ v : World, Below W.heap.size W v → v.cell? ⟨w.heap.size, 8, none⟩ = some (.slice A m c) from fun v hb => (hb.cell (p := ⟨w.heap.size, 8, none⟩) HLT.out).trans g8)
 have HRD := zh (hr.below HAL.out)
 have HMM := zh hm
 have hmI : (m : Int) ≤ 1000 := by omega
 have hnI : (np : Int) ≤ 8 := by omega
 have hw1 : IntKind.i64.wrap ((np : Int) + 1) = (np : Int) + 1 := IntWalk.i64_in _ (by omega)
 rw [hem] at HEM
 rw [hnd] at HNM
 have HR2 := zh hR2
 clear hR hR2 hnp hsp hcn hse hem hnd hsh hk hic hkk hr hz hm
 by_cases h19 : i.o = 19
 ·have hb19 : (i.o != 19) = false := by simp [h19]
  have hrv : recv i.o = 0 := by rw [h19]; rfl
  have HR3 := HR2.out
  rw [hrv] at HR3
  by_cases hnn : m = np
  ·have hb2 : ((m : Int) != (np : Int)) = false := by rw [hnn]; simp
   rw [if_neg (by omega)] at HR3
   cases hwa : withB i.a regs with
   | false =>
    rw [if_pos hwa] at HR3
    rw [hwa] at HWa
    rw [HR3]
    clear HR3 hwa hnn hrv h19
    go_enter Try.func144, Try.ntmps144
    go_wp2_with fail
    rw [← HW.out]
    refine (HSH.out _).mono ?_; rintro e W ⟨rfl, rfl⟩
    go_wp2_with fail
    refine (HEM.out _).mono ?_
    rintro e v1 ⟨rfl, hb⟩
    obtain ⟨x0, x1, x2, x3, x4, x5, x6, x7, -⟩ := in_cells ((hb.block _ HLT.out).trans HBK.out)
    have x8 := HB9.out _ hb
    have K1 := zh hb
    clear hb g0 g1 g2 g3 g4 g5 g6 g7 g8
    go_wp2_with fail
    refine (HNM.out _).mono ?_
    rintro e v2 ⟨rfl, hb⟩
    have K2 := zh (show Below W.heap.size W v2 from then' K1.out hb)
    obtain ⟨y0, y1, y2, y3, y4, y5, y6, y7, -⟩ := in_cells ((K2.out.block _ HLT.out).trans HBK.out)
    have y8 := HB9.out _ K2.out
    clear hb x0 x1 x2 x3 x4 x5 x6 x7 x8
    go_wp2_with fail
    refine (HCA.out _).mono ?_; rintro e v2 ⟨rfl, rfl⟩
    go_wp2_with fail
    refine (HSP.out _).mono ?_
    rintro e v3 ⟨⟨A1, c1, rfl, hoo⟩, hb⟩
    have hk3 : Below W.heap.size W v3 := then' K2.out hb
    have hk4 := hk3.alloc hk3.size (.cells #[.int .i64 rk, .string ⟨rc.toArray⟩] 63)
    have z0 := cell_of_row _ _ 0 _ _ _ (heap_alloc_new v3 (.cells #[.int .i64 rk, .string ⟨rc.toArray⟩] 63))
    obtain ⟨u0, u1, u2, u3, u4, u5, u6, u7, -⟩ := in_cells ((hk4.block _ HLT.out).trans HBK.out)
    have u8 := HB9.out _ hk4
    have K3 := zh hk4
    clear hk3 hk4 hb hoo y0 y1 y2 y3 y4 y5 y6 y7 y8
    go_wp2_with fail
    refine (H97.out _).mono ?_; rintro e v4 ⟨rfl, rfl⟩
    go_wp2_with fail
    refine (HWa.out _).mono ?_; rintro e v4 ⟨rfl, rfl⟩
    go_wp2
    go_ret
    exact ⟨rfl, HAL.out.trans (K3.out.mono HAL.out.size)⟩
   | true =>
    rw [if_neg (by rw [hwa]; simp)] at HR3
    rw [hwa] at HWa
    by_cases hv : rk = 1 ∧ i.a ≠ 0
    ·rw [if_pos hv] at HR3
     obtain ⟨hrk, hia⟩ := hv
     have hb3 : (i.a != 0) = true := by simpa using hia
     rw [HR3]
     subst hrk
     clear HR3 hwa hnn hrv h19 hia
     go_enter Try.func144, Try.ntmps144
     go_wp2_with fail
     rw [← HW.out]
     refine (HSH.out _).mono ?_; rintro e W ⟨rfl, rfl⟩
     go_wp2_with fail
     refine (HEM.out _).mono ?_
     rintro e v1 ⟨rfl, hb⟩
     obtain ⟨x0, x1, x2, x3, x4, x5, x6, x7, -⟩ := in_cells ((hb.block _ HLT.out).trans HBK.out)
     have x8 := HB9.out _ hb
     have K1 := zh hb
     clear hb g0 g1 g2 g3 g4 g5 g6 g7 g8
     go_wp2_with fail
     refine (HNM.out _).mono ?_
     rintro e v2 ⟨rfl, hb⟩
     have K2 := zh (show Below W.heap.size W v2 from then' K1.out hb)
     obtain ⟨y0, y1, y2, y3, y4, y5, y6, y7, -⟩ := in_cells ((K2.out.block _ HLT.out).trans HBK.out)
     have y8 := HB9.out _ K2.out
     clear hb x0 x1 x2 x3 x4 x5 x6 x7 x8
     go_wp2_with fail
     refine (HCA.out _).mono ?_; rintro e v2 ⟨rfl, rfl⟩
     go_wp2_with fail
     refine (HSP.out _).mono ?_
     rintro e v3 ⟨⟨A1, c1, rfl, hoo⟩, hb⟩
     have hk3 : Below W.heap.size W v3 := then' K2.out hb
     have hk4 := hk3.alloc hk3.size (.cells #[.int .i64 1, .string ⟨rc.toArray⟩] 63)
     have z0 := cell_of_row _ _ 0 _ _ _ (heap_alloc_new v3 (.cells #[.int .i64 1, .string ⟨rc.toArray⟩] 63))
     obtain ⟨u0, u1, u2, u3, u4, u5, u6, u7, -⟩ := in_cells ((hk4.block _ HLT.out).trans HBK.out)
     have u8 := HB9.out _ hk4
     have K3 := zh hk4
     clear hk3 hk4 hb hoo y0 y1 y2 y3 y4 y5 y6 y7 y8
     go_wp2_with fail
     refine (H97.out _).mono ?_; rintro e v4 ⟨rfl, rfl⟩
     go_wp2_with fail
     refine (HWa.out _).mono ?_; rintro e v4 ⟨rfl, rfl⟩
     go_wp2_with fail
     refine (H98.out _).mono ?_; rintro e v4 ⟨rfl, rfl⟩
     go_wp2_with fail
     refine (H99.out _).mono ?_; rintro e v4 ⟨rfl, rfl⟩
     go_wp2
     go_ret
     exact ⟨rfl, HAL.out.trans (K3.out.mono HAL.out.size)⟩
    ·rw [if_neg hv] at HR3
     have HF := zh (show (∃ z ∈ i.ar, withB z regs = false) → R = 12 from fun ⟨z, hz, hb⟩ => by rw [HR3, if_pos (by rw [← Bool.not_eq_true, List.all_eq_true]; intro h; rw [h z hz] at hb; cases hb)])
     have HT := zh (show (∀ z ∈ i.ar, withB z regs = true) → R = 0 from fun h => by rw [HR3, if_neg (by rw [List.all_eq_true.2 h]; simp)])
     clear HR3 hwa hnn hrv h19
     by_cases hrk : rk = 1
     ·have hia : i.a = 0 := Decidable.not_not.1 fun h => hv ⟨hrk, h⟩
      have hb3 : (i.a != 0) = false := by simp [hia]
      clear hv hia
      subst hrk
      go_enter Try.func144, Try.ntmps144
      go_wp2_with fail
      rw [← HW.out]
      refine (HSH.out _).mono ?_; rintro e W ⟨rfl, rfl⟩
      go_wp2_with fail
      refine (HEM.out _).mono ?_
      rintro e v1 ⟨rfl, hb⟩
      obtain ⟨x0, x1, x2, x3, x4, x5, x6, x7, -⟩ := in_cells ((hb.block _ HLT.out).trans HBK.out)
      have x8 := HB9.out _ hb
      have K1 := zh hb
      clear hb g0 g1 g2 g3 g4 g5 g6 g7 g8
      go_wp2_with fail
      refine (HNM.out _).mono ?_
      rintro e v2 ⟨rfl, hb⟩
      have K2 := zh (show Below W.heap.size W v2 from then' K1.out hb)
      obtain ⟨y0, y1, y2, y3, y4, y5, y6, y7, -⟩ := in_cells ((K2.out.block _ HLT.out).trans HBK.out)
      have y8 := HB9.out _ K2.out
      clear hb x0 x1 x2 x3 x4 x5 x6 x7 x8
      go_wp2_with fail
      refine (HCA.out _).mono ?_; rintro e v2 ⟨rfl, rfl⟩
      go_wp2_with fail
      refine (HSP.out _).mono ?_
      rintro e v3 ⟨⟨A1, c1, rfl, hoo⟩, hb⟩
      have hk3 : Below W.heap.size W v3 := then' K2.out hb
      have hk4 := hk3.alloc hk3.size (.cells #[.int .i64 1, .string ⟨rc.toArray⟩] 63)
      have z0 := cell_of_row _ _ 0 _ _ _ (heap_alloc_new v3 (.cells #[.int .i64 1, .string ⟨rc.toArray⟩] 63))
      obtain ⟨u0, u1, u2, u3, u4, u5, u6, u7, -⟩ := in_cells ((hk4.block _ HLT.out).trans HBK.out)
      have u8 := HB9.out _ hk4
      have K3 := zh hk4
      clear hk3 hk4 hb hoo y0 y1 y2 y3 y4 y5 y6 y7 y8
      go_wp2_with fail
      refine (H97.out _).mono ?_; rintro e v4 ⟨rfl, rfl⟩
      go_wp2_with fail
      refine (HWa.out _).mono ?_; rintro e v4 ⟨rfl, rfl⟩
      go_wp2_with fail
      refine (H98.out _).mono ?_; rintro e v4 ⟨rfl, rfl⟩
      go_wp2_with fail
      refine (H99.out _).mono ?_; rintro e v4 ⟨rfl, rfl⟩
      go_wp2
      go_loopw [13] (fun v wr => ∃ k : Nat, k ≤ m ∧ v = .int .i64 (k : Int) ∧ wr = v3.alloc (.cells #[.int .i64 1, .string ⟨rc.toArray⟩] 63) ∧ ∀ z ∈ i.ar.take k, withB z regs = true) (fun v _ => m - (intOf v).toNat)
      case atStart => exact ⟨0, Nat.zero_le _, rfl, rfl, by simp⟩
      case round =>
       obtain ⟨k, hk, rfl, rfl, hall⟩ := hrel
       by_cases hlt : k < m
       ·have hltI : (k : Int) < (m : Int) := by omega
        obtain ⟨z, hzz⟩ : ∃ z, i.ar[k]? = some z := ⟨i.ar[k]'(by rw [← HMM.out]; exact hlt), List.getElem?_eq_getElem _⟩
        obtain ⟨a, rfl, _, hcz⟩ := (HRD.out.below K3.out).at_ (IL_at hzz)
        have HWZ := zh (fun w => within_r z regs w)
        have hmem := List.mem_of_getElem? hzz
        have hmt := kind.take_more (P := fun z => !withB z regs) (p := i.ar) (k := k) (x := z) (fun y hy => by simp [hall y hy]) hzz
        cases hwz : withB z regs with
        | false =>
         have hR := zh (HF.out ⟨z, hmem, hwz⟩)
         rw [hwz] at HWZ
         clear hmt hall hzz hmem hwz
         go_wp2_with fail
         refine (HWZ.out _).mono ?_; rintro e v4 ⟨rfl, rfl⟩
         go_wp2
         go_ret
         exact ⟨by rw [hR.out]; rfl, HAL.out.trans (K3.out.mono HAL.out.size)⟩
        | true =>
         rw [hwz] at HWZ
         have HN2 := zh (show ∀ y ∈ i.ar.take (k + 1), withB y regs = true from fun y hy => by have := hmt (by simp [hwz]) y hy; simpa using this)
         clear hmt hall hzz hmem hwz
         go_wp2_with fail
         refine (HWZ.out _).mono ?_; rintro e v4 ⟨rfl, rfl⟩
         go_wp2
         go_roundw
         case rel => exact ⟨k + 1, by omega, by go_num, by first | rfl | trivial, HN2.out⟩
         case measure => simp [intOf]; omega
       ·have hltI : ¬ (k : Int) < (m : Int) := by omega
        have hR := zh (HT.out (by rw [List.take_of_length_le (by rw [← HMM.out]; omega)] at hall; exact hall))
        clear hall
        go_wp2_with fail
        refine (H116.out _).mono ?_; rintro e v4 ⟨rfl, rfl⟩
        go_wp2_with fail
        refine (H114.out _).mono ?_; rintro e v4 ⟨rfl, rfl⟩
        go_wp2
        go_ret
        exact ⟨by rw [hR.out]; rfl, HAL.out.trans (K3.out.mono HAL.out.size)⟩
     ·have hb4 : (rk == 1) = false := by simpa using hrk
      clear hv hrk
      go_enter Try.func144, Try.ntmps144
      go_wp2_with fail
      rw [← HW.out]
      refine (HSH.out _).mono ?_; rintro e W ⟨rfl, rfl⟩
      go_wp2_with fail
      refine (HEM.out _).mono ?_
      rintro e v1 ⟨rfl, hb⟩
      obtain ⟨x0, x1, x2, x3, x4, x5, x6, x7, -⟩ := in_cells ((hb.block _ HLT.out).trans HBK.out)
      have x8 := HB9.out _ hb
      have K1 := zh hb
      clear hb g0 g1 g2 g3 g4 g5 g6 g7 g8
      go_wp2_with fail
      refine (HNM.out _).mono ?_
      rintro e v2 ⟨rfl, hb⟩
      have K2 := zh (show Below W.heap.size W v2 from then' K1.out hb)
      obtain ⟨y0, y1, y2, y3, y4, y5, y6, y7, -⟩ := in_cells ((K2.out.block _ HLT.out).trans HBK.out)
      have y8 := HB9.out _ K2.out
      clear hb x0 x1 x2 x3 x4 x5 x6 x7 x8
      go_wp2_with fail
      refine (HCA.out _).mono ?_; rintro e v2 ⟨rfl, rfl⟩
      go_wp2_with fail
      refine (HSP.out _).mono ?_
      rintro e v3 ⟨⟨A1, c1, rfl, hoo⟩, hb⟩
      have hk3 : Below W.heap.size W v3 := then' K2.out hb
      have hk4 := hk3.alloc hk3.size (.cells #[.int .i64 rk, .string ⟨rc.toArray⟩] 63)
      have z0 := cell_of_row _ _ 0 _ _ _ (heap_alloc_new v3 (.cells #[.int .i64 rk, .string ⟨rc.toArray⟩] 63))
      obtain ⟨u0, u1, u2, u3, u4, u5, u6, u7, -⟩ := in_cells ((hk4.block _ HLT.out).trans HBK.out)
      have u8 := HB9.out _ hk4
      have K3 := zh hk4
      clear hk3 hk4 hb hoo y0 y1 y2 y3 y4 y5 y6 y7 y8
      go_wp2_with fail
      refine (H97.out _).mono ?_; rintro e v4 ⟨rfl, rfl⟩
      go_wp2_with fail
      refine (HWa.out _).mono ?_; rintro e v4 ⟨rfl, rfl⟩
      go_wp2_with fail
      refine (H98.out _).mono ?_; rintro e v4 ⟨rfl, rfl⟩
      go_wp2_with fail
      refine (H99.out _).mono ?_; rintro e v4 ⟨rfl, rfl⟩
      go_wp2
      go_loopw [13] (fun v wr => ∃ k : Nat, k ≤ m ∧ v = .int .i64 (k : Int) ∧ wr = v3.alloc (.cells #[.int .i64 rk, .string ⟨rc.toArray⟩] 63) ∧ ∀ z ∈ i.ar.take k, withB z regs = true) (fun v _ => m - (intOf v).toNat)
      case atStart => exact ⟨0, Nat.zero_le _, rfl, rfl, by simp⟩
      case round =>
       obtain ⟨k, hk, rfl, rfl, hall⟩ := hrel
       by_cases hlt : k < m
       ·have hltI : (k : Int) < (m : Int) := by omega
        obtain ⟨z, hzz⟩ : ∃ z, i.ar[k]? = some z := ⟨i.ar[k]'(by rw [← HMM.out]; exact hlt), List.getElem?_eq_getElem _⟩
        obtain ⟨a, rfl, _, hcz⟩ := (HRD.out.below K3.out).at_ (IL_at hzz)
        have HWZ := zh (fun w => within_r z regs w)
        have hmem := List.mem_of_getElem? hzz
        have hmt := kind.take_more (P := fun z => !withB z regs) (p := i.ar) (k := k) (x := z) (fun y hy => by simp [hall y hy]) hzz
        cases hwz : withB z regs with
        | false =>
         have hR := zh (HF.out ⟨z, hmem, hwz⟩)
         rw [hwz] at HWZ
         clear hmt hall hzz hmem hwz
         go_wp2_with fail
         refine (HWZ.out _).mono ?_; rintro e v4 ⟨rfl, rfl⟩
         go_wp2
         go_ret
         exact ⟨by rw [hR.out]; rfl, HAL.out.trans (K3.out.mono HAL.out.size)⟩
        | true =>
         rw [hwz] at HWZ
         have HN2 := zh (show ∀ y ∈ i.ar.take (k + 1), withB y regs = true from fun y hy => by have := hmt (by simp [hwz]) y hy; simpa using this)
         clear hmt hall hzz hmem hwz
         go_wp2_with fail
         refine (HWZ.out _).mono ?_; rintro e v4 ⟨rfl, rfl⟩
         go_wp2
         go_roundw
         case rel => exact ⟨k + 1, by omega, by go_num, by first | rfl | trivial, HN2.out⟩
         case measure => simp [intOf]; omega
       ·have hltI : ¬ (k : Int) < (m : Int) := by omega
        have hR := zh (HT.out (by rw [List.take_of_length_le (by rw [← HMM.out]; omega)] at hall; exact hall))
        clear hall
        go_wp2_with fail
        refine (H116.out _).mono ?_; rintro e v4 ⟨rfl, rfl⟩
        go_wp2_with fail
        refine (H114.out _).mono ?_; rintro e v4 ⟨rfl, rfl⟩
        go_wp2
        go_ret
        exact ⟨by rw [hR.out]; rfl, HAL.out.trans (K3.out.mono HAL.out.size)⟩
  ·have hb2 : ((m : Int) != (np : Int)) = true := by rw [bne_iff_ne]; omega
   rw [if_pos (by omega)] at HR3
   rw [HR3]
   clear HR3 hnn hrv h19
   go_enter Try.func144, Try.ntmps144
   go_wp2_with fail
   rw [← HW.out]
   refine (HSH.out _).mono ?_; rintro e W ⟨rfl, rfl⟩
   go_wp2_with fail
   refine (HEM.out _).mono ?_
   rintro e v1 ⟨rfl, hb⟩
   obtain ⟨x0, x1, x2, x3, x4, x5, x6, x7, -⟩ := in_cells ((hb.block _ HLT.out).trans HBK.out)
   have x8 := HB9.out _ hb
   have K1 := zh hb
   clear hb g0 g1 g2 g3 g4 g5 g6 g7 g8
   go_wp2_with fail
   refine (HNM.out _).mono ?_
   rintro e v2 ⟨rfl, hb⟩
   have K2 := zh (show Below W.heap.size W v2 from then' K1.out hb)
   obtain ⟨y0, y1, y2, y3, y4, y5, y6, y7, -⟩ := in_cells ((K2.out.block _ HLT.out).trans HBK.out)
   have y8 := HB9.out _ K2.out
   clear hb x0 x1 x2 x3 x4 x5 x6 x7 x8
   go_wp2_with fail
   refine (HCA.out _).mono ?_; rintro e v2 ⟨rfl, rfl⟩
   go_wp2_with fail
   refine (HSP.out _).mono ?_
   rintro e v3 ⟨⟨A1, c1, rfl, hoo⟩, hb⟩
   have hk3 : Below W.heap.size W v3 := then' K2.out hb
   have hk4 := hk3.alloc hk3.size (.cells #[.int .i64 rk, .string ⟨rc.toArray⟩] 63)
   have z0 := cell_of_row _ _ 0 _ _ _ (heap_alloc_new v3 (.cells #[.int .i64 rk, .string ⟨rc.toArray⟩] 63))
   obtain ⟨u0, u1, u2, u3, u4, u5, u6, u7, -⟩ := in_cells ((hk4.block _ HLT.out).trans HBK.out)
   have u8 := HB9.out _ hk4
   have K3 := zh hk4
   clear hk3 hk4 hb hoo y0 y1 y2 y3 y4 y5 y6 y7 y8
   go_wp2
   go_ret
   exact ⟨rfl, HAL.out.trans (K3.out.mono HAL.out.size)⟩
 ·have hb19 : (i.o != 19) = true := by simp [h19]
  have hrv : recv i.o = 1 := by unfold recv; have := of_decide_eq_true HO.out; rw [if_pos (by omega)]
  have HR3 := HR2.out
  rw [hrv] at HR3
  by_cases hnn : m = np + 1
  ·have hb2 : ((m : Int) != ((np : Int) + 1)) = false := by rw [hnn]; simp
   rw [if_neg (by omega)] at HR3
   cases hwa : withB i.a regs with
   | false =>
    rw [if_pos hwa] at HR3
    rw [hwa] at HWa
    rw [HR3]
    clear HR3 hwa hnn hrv h19
    go_enter Try.func144, Try.ntmps144
    go_wp2_with fail
    rw [← HW.out]
    refine (HSH.out _).mono ?_; rintro e W ⟨rfl, rfl⟩
    go_wp2_with fail
    refine (HEM.out _).mono ?_
    rintro e v1 ⟨rfl, hb⟩
    obtain ⟨x0, x1, x2, x3, x4, x5, x6, x7, -⟩ := in_cells ((hb.block _ HLT.out).trans HBK.out)
    have x8 := HB9.out _ hb
    have K1 := zh hb
    clear hb g0 g1 g2 g3 g4 g5 g6 g7 g8
    go_wp2_with fail
    refine (HNM.out _).mono ?_
    rintro e v2 ⟨rfl, hb⟩
    have K2 := zh (show Below W.heap.size W v2 from then' K1.out hb)
    obtain ⟨y0, y1, y2, y3, y4, y5, y6, y7, -⟩ := in_cells ((K2.out.block _ HLT.out).trans HBK.out)
    have y8 := HB9.out _ K2.out
    clear hb x0 x1 x2 x3 x4 x5 x6 x7 x8
    go_wp2_with fail
    refine (HCA.out _).mono ?_; rintro e v2 ⟨rfl, rfl⟩
    go_wp2_with fail
    refine (HSP.out _).mono ?_
    rintro e v3 ⟨⟨A1, c1, rfl, hoo⟩, hb⟩
    have hk3 : Below W.heap.size W v3 := then' K2.out hb
    have hk4 := hk3.alloc hk3.size (.cells #[.int .i64 rk, .string ⟨rc.toArray⟩] 63)
    have z0 := cell_of_row _ _ 0 _ _ _ (heap_alloc_new v3 (.cells #[.int .i64 rk, .string ⟨rc.toArray⟩] 63))
    obtain ⟨u0, u1, u2, u3, u4, u5, u6, u7, -⟩ := in_cells ((hk4.block _ HLT.out).trans HBK.out)
    have u8 := HB9.out _ hk4
    have K3 := zh hk4
    clear hk3 hk4 hb hoo y0 y1 y2 y3 y4 y5 y6 y7 y8
    go_wp2_with fail
    refine (H97.out _).mono ?_; rintro e v4 ⟨rfl, rfl⟩
    go_wp2_with fail
    refine (HWa.out _).mono ?_; rintro e v4 ⟨rfl, rfl⟩
    go_wp2
    go_ret
    exact ⟨rfl, HAL.out.trans (K3.out.mono HAL.out.size)⟩
   | true =>
    rw [if_neg (by rw [hwa]; simp)] at HR3
    rw [hwa] at HWa
    by_cases hv : rk = 1 ∧ i.a ≠ 0
    ·rw [if_pos hv] at HR3
     obtain ⟨hrk, hia⟩ := hv
     have hb3 : (i.a != 0) = true := by simpa using hia
     rw [HR3]
     subst hrk
     clear HR3 hwa hnn hrv h19 hia
     go_enter Try.func144, Try.ntmps144
     go_wp2_with fail
     rw [← HW.out]
     refine (HSH.out _).mono ?_; rintro e W ⟨rfl, rfl⟩
     go_wp2_with fail
     refine (HEM.out _).mono ?_
     rintro e v1 ⟨rfl, hb⟩
     obtain ⟨x0, x1, x2, x3, x4, x5, x6, x7, -⟩ := in_cells ((hb.block _ HLT.out).trans HBK.out)
     have x8 := HB9.out _ hb
     have K1 := zh hb
     clear hb g0 g1 g2 g3 g4 g5 g6 g7 g8
     go_wp2_with fail
     refine (HNM.out _).mono ?_
     rintro e v2 ⟨rfl, hb⟩
     have K2 := zh (show Below W.heap.size W v2 from then' K1.out hb)
     obtain ⟨y0, y1, y2, y3, y4, y5, y6, y7, -⟩ := in_cells ((K2.out.block _ HLT.out).trans HBK.out)
     have y8 := HB9.out _ K2.out
     clear hb x0 x1 x2 x3 x4 x5 x6 x7 x8
     go_wp2_with fail
     refine (HCA.out _).mono ?_; rintro e v2 ⟨rfl, rfl⟩
     go_wp2_with fail
     refine (HSP.out _).mono ?_
     rintro e v3 ⟨⟨A1, c1, rfl, hoo⟩, hb⟩
     have hk3 : Below W.heap.size W v3 := then' K2.out hb
     have hk4 := hk3.alloc hk3.size (.cells #[.int .i64 1, .string ⟨rc.toArray⟩] 63)
     have z0 := cell_of_row _ _ 0 _ _ _ (heap_alloc_new v3 (.cells #[.int .i64 1, .string ⟨rc.toArray⟩] 63))
     obtain ⟨u0, u1, u2, u3, u4, u5, u6, u7, -⟩ := in_cells ((hk4.block _ HLT.out).trans HBK.out)
     have u8 := HB9.out _ hk4
     have K3 := zh hk4
     clear hk3 hk4 hb hoo y0 y1 y2 y3 y4 y5 y6 y7 y8
     go_wp2_with fail
     refine (H97.out _).mono ?_; rintro e v4 ⟨rfl, rfl⟩
     go_wp2_with fail
     refine (HWa.out _).mono ?_; rintro e v4 ⟨rfl, rfl⟩
     go_wp2_with fail
     refine (H98.out _).mono ?_; rintro e v4 ⟨rfl, rfl⟩
     go_wp2_with fail
     refine (H99.out _).mono ?_; rintro e v4 ⟨rfl, rfl⟩
     go_wp2
     go_ret
     exact ⟨rfl, HAL.out.trans (K3.out.mono HAL.out.size)⟩
    ·rw [if_neg hv] at HR3
     have HF := zh (show (∃ z ∈ i.ar, withB z regs = false) → R = 12 from fun ⟨z, hz, hb⟩ => by rw [HR3, if_pos (by rw [← Bool.not_eq_true, List.all_eq_true]; intro h; rw [h z hz] at hb; cases hb)])
     have HT := zh (show (∀ z ∈ i.ar, withB z regs = true) → R = 0 from fun h => by rw [HR3, if_neg (by rw [List.all_eq_true.2 h]; simp)])
     clear HR3 hwa hnn hrv h19
     by_cases hrk : rk = 1
     ·have hia : i.a = 0 := Decidable.not_not.1 fun h => hv ⟨hrk, h⟩
      have hb3 : (i.a != 0) = false := by simp [hia]
      clear hv hia
      subst hrk
      go_enter Try.func144, Try.ntmps144
      go_wp2_with fail
      rw [← HW.out]
      refine (HSH.out _).mono ?_; rintro e W ⟨rfl, rfl⟩
      go_wp2_with fail
      refine (HEM.out _).mono ?_
      rintro e v1 ⟨rfl, hb⟩
      obtain ⟨x0, x1, x2, x3, x4, x5, x6, x7, -⟩ := in_cells ((hb.block _ HLT.out).trans HBK.out)
      have x8 := HB9.out _ hb
      have K1 := zh hb
      clear hb g0 g1 g2 g3 g4 g5 g6 g7 g8
      go_wp2_with fail
      refine (HNM.out _).mono ?_
      rintro e v2 ⟨rfl, hb⟩
      have K2 := zh (show Below W.heap.size W v2 from then' K1.out hb)
      obtain ⟨y0, y1, y2, y3, y4, y5, y6, y7, -⟩ := in_cells ((K2.out.block _ HLT.out).trans HBK.out)
      have y8 := HB9.out _ K2.out
      clear hb x0 x1 x2 x3 x4 x5 x6 x7 x8
      go_wp2_with fail
      refine (HCA.out _).mono ?_; rintro e v2 ⟨rfl, rfl⟩
      go_wp2_with fail
      refine (HSP.out _).mono ?_
      rintro e v3 ⟨⟨A1, c1, rfl, hoo⟩, hb⟩
      have hk3 : Below W.heap.size W v3 := then' K2.out hb
      have hk4 := hk3.alloc hk3.size (.cells #[.int .i64 1, .string ⟨rc.toArray⟩] 63)
      have z0 := cell_of_row _ _ 0 _ _ _ (heap_alloc_new v3 (.cells #[.int .i64 1, .string ⟨rc.toArray⟩] 63))
      obtain ⟨u0, u1, u2, u3, u4, u5, u6, u7, -⟩ := in_cells ((hk4.block _ HLT.out).trans HBK.out)
      have u8 := HB9.out _ hk4
      have K3 := zh hk4
      clear hk3 hk4 hb hoo y0 y1 y2 y3 y4 y5 y6 y7 y8
      go_wp2_with fail
      refine (H97.out _).mono ?_; rintro e v4 ⟨rfl, rfl⟩
      go_wp2_with fail
      refine (HWa.out _).mono ?_; rintro e v4 ⟨rfl, rfl⟩
      go_wp2_with fail
      refine (H98.out _).mono ?_; rintro e v4 ⟨rfl, rfl⟩
      go_wp2_with fail
      refine (H99.out _).mono ?_; rintro e v4 ⟨rfl, rfl⟩
      go_wp2
      go_loopw [13] (fun v wr => ∃ k : Nat, k ≤ m ∧ v = .int .i64 (k : Int) ∧ wr = v3.alloc (.cells #[.int .i64 1, .string ⟨rc.toArray⟩] 63) ∧ ∀ z ∈ i.ar.take k, withB z regs = true) (fun v _ => m - (intOf v).toNat)
      case atStart => exact ⟨0, Nat.zero_le _, rfl, rfl, by simp⟩
      case round =>
       obtain ⟨k, hk, rfl, rfl, hall⟩ := hrel
       by_cases hlt : k < m
       ·have hltI : (k : Int) < (m : Int) := by omega
        obtain ⟨z, hzz⟩ : ∃ z, i.ar[k]? = some z := ⟨i.ar[k]'(by rw [← HMM.out]; exact hlt), List.getElem?_eq_getElem _⟩
        obtain ⟨a, rfl, _, hcz⟩ := (HRD.out.below K3.out).at_ (IL_at hzz)
        have HWZ := zh (fun w => within_r z regs w)
        have hmem := List.mem_of_getElem? hzz
        have hmt := kind.take_more (P := fun z => !withB z regs) (p := i.ar) (k := k) (x := z) (fun y hy => by simp [hall y hy]) hzz
        cases hwz : withB z regs with
        | false =>
         have hR := zh (HF.out ⟨z, hmem, hwz⟩)
         rw [hwz] at HWZ
         clear hmt hall hzz hmem hwz
         go_wp2_with fail
         refine (HWZ.out _).mono ?_; rintro e v4 ⟨rfl, rfl⟩
         go_wp2
         go_ret
         exact ⟨by rw [hR.out]; rfl, HAL.out.trans (K3.out.mono HAL.out.size)⟩
        | true =>
         rw [hwz] at HWZ
         have HN2 := zh (show ∀ y ∈ i.ar.take (k + 1), withB y regs = true from fun y hy => by have := hmt (by simp [hwz]) y hy; simpa using this)
         clear hmt hall hzz hmem hwz
         go_wp2_with fail
         refine (HWZ.out _).mono ?_; rintro e v4 ⟨rfl, rfl⟩
         go_wp2
         go_roundw
         case rel => exact ⟨k + 1, by omega, by go_num, by first | rfl | trivial, HN2.out⟩
         case measure => simp [intOf]; omega
       ·have hltI : ¬ (k : Int) < (m : Int) := by omega
        have hR := zh (HT.out (by rw [List.take_of_length_le (by rw [← HMM.out]; omega)] at hall; exact hall))
        clear hall
        go_wp2_with fail
        refine (H116.out _).mono ?_; rintro e v4 ⟨rfl, rfl⟩
        go_wp2_with fail
        refine (H114.out _).mono ?_; rintro e v4 ⟨rfl, rfl⟩
        go_wp2
        go_ret
        exact ⟨by rw [hR.out]; rfl, HAL.out.trans (K3.out.mono HAL.out.size)⟩
     ·have hb4 : (rk == 1) = false := by simpa using hrk
      clear hv hrk
      go_enter Try.func144, Try.ntmps144
      go_wp2_with fail
      rw [← HW.out]
      refine (HSH.out _).mono ?_; rintro e W ⟨rfl, rfl⟩
      go_wp2_with fail
      refine (HEM.out _).mono ?_
      rintro e v1 ⟨rfl, hb⟩
      obtain ⟨x0, x1, x2, x3, x4, x5, x6, x7, -⟩ := in_cells ((hb.block _ HLT.out).trans HBK.out)
      have x8 := HB9.out _ hb
      have K1 := zh hb
      clear hb g0 g1 g2 g3 g4 g5 g6 g7 g8
      go_wp2_with fail
      refine (HNM.out _).mono ?_
      rintro e v2 ⟨rfl, hb⟩
      have K2 := zh (show Below W.heap.size W v2 from then' K1.out hb)
      obtain ⟨y0, y1, y2, y3, y4, y5, y6, y7, -⟩ := in_cells ((K2.out.block _ HLT.out).trans HBK.out)
      have y8 := HB9.out _ K2.out
      clear hb x0 x1 x2 x3 x4 x5 x6 x7 x8
      go_wp2_with fail
      refine (HCA.out _).mono ?_; rintro e v2 ⟨rfl, rfl⟩
      go_wp2_with fail
      refine (HSP.out _).mono ?_
      rintro e v3 ⟨⟨A1, c1, rfl, hoo⟩, hb⟩
      have hk3 : Below W.heap.size W v3 := then' K2.out hb
      have hk4 := hk3.alloc hk3.size (.cells #[.int .i64 rk, .string ⟨rc.toArray⟩] 63)
      have z0 := cell_of_row _ _ 0 _ _ _ (heap_alloc_new v3 (.cells #[.int .i64 rk, .string ⟨rc.toArray⟩] 63))
      obtain ⟨u0, u1, u2, u3, u4, u5, u6, u7, -⟩ := in_cells ((hk4.block _ HLT.out).trans HBK.out)
      have u8 := HB9.out _ hk4
      have K3 := zh hk4
      clear hk3 hk4 hb hoo y0 y1 y2 y3 y4 y5 y6 y7 y8
      go_wp2_with fail
      refine (H97.out _).mono ?_; rintro e v4 ⟨rfl, rfl⟩
      go_wp2_with fail
      refine (HWa.out _).mono ?_; rintro e v4 ⟨rfl, rfl⟩
      go_wp2_with fail
      refine (H98.out _).mono ?_; rintro e v4 ⟨rfl, rfl⟩
      go_wp2_with fail
      refine (H99.out _).mono ?_; rintro e v4 ⟨rfl, rfl⟩
      go_wp2
      go_loopw [13] (fun v wr => ∃ k : Nat, k ≤ m ∧ v = .int .i64 (k : Int) ∧ wr = v3.alloc (.cells #[.int .i64 rk, .string ⟨rc.toArray⟩] 63) ∧ ∀ z ∈ i.ar.take k, withB z regs = true) (fun v _ => m - (intOf v).toNat)
      case atStart => exact ⟨0, Nat.zero_le _, rfl, rfl, by simp⟩
      case round =>
       obtain ⟨k, hk, rfl, rfl, hall⟩ := hrel
       by_cases hlt : k < m
       ·have hltI : (k : Int) < (m : Int) := by omega
        obtain ⟨z, hzz⟩ : ∃ z, i.ar[k]? = some z := ⟨i.ar[k]'(by rw [← HMM.out]; exact hlt), List.getElem?_eq_getElem _⟩
        obtain ⟨a, rfl, _, hcz⟩ := (HRD.out.below K3.out).at_ (IL_at hzz)
        have HWZ := zh (fun w => within_r z regs w)
        have hmem := List.mem_of_getElem? hzz
        have hmt := kind.take_more (P := fun z => !withB z regs) (p := i.ar) (k := k) (x := z) (fun y hy => by simp [hall y hy]) hzz
        cases hwz : withB z regs with
        | false =>
         have hR := zh (HF.out ⟨z, hmem, hwz⟩)
         rw [hwz] at HWZ
         clear hmt hall hzz hmem hwz
         go_wp2_with fail
         refine (HWZ.out _).mono ?_; rintro e v4 ⟨rfl, rfl⟩
         go_wp2
         go_ret
         exact ⟨by rw [hR.out]; rfl, HAL.out.trans (K3.out.mono HAL.out.size)⟩
        | true =>
         rw [hwz] at HWZ
         have HN2 := zh (show ∀ y ∈ i.ar.take (k + 1), withB y regs = true from fun y hy => by have := hmt (by simp [hwz]) y hy; simpa using this)
         clear hmt hall hzz hmem hwz
         go_wp2_with fail
         refine (HWZ.out _).mono ?_; rintro e v4 ⟨rfl, rfl⟩
         go_wp2
         go_roundw
         case rel => exact ⟨k + 1, by omega, by go_num, by first | rfl | trivial, HN2.out⟩
         case measure => simp [intOf]; omega
       ·have hltI : ¬ (k : Int) < (m : Int) := by omega
        have hR := zh (HT.out (by rw [List.take_of_length_le (by rw [← HMM.out]; omega)] at hall; exact hall))
        clear hall
        go_wp2_with fail
        refine (H116.out _).mono ?_; rintro e v4 ⟨rfl, rfl⟩
        go_wp2_with fail
        refine (H114.out _).mono ?_; rintro e v4 ⟨rfl, rfl⟩
        go_wp2
        go_ret
        exact ⟨by rw [hR.out]; rfl, HAL.out.trans (K3.out.mono HAL.out.size)⟩
  ·have hb2 : ((m : Int) != ((np : Int) + 1)) = true := by rw [bne_iff_ne]; omega
   rw [if_pos (by omega)] at HR3
   rw [HR3]
   clear HR3 hnn hrv h19
   go_enter Try.func144, Try.ntmps144
   go_wp2_with fail
   rw [← HW.out]
   refine (HSH.out _).mono ?_; rintro e W ⟨rfl, rfl⟩
   go_wp2_with fail
   refine (HEM.out _).mono ?_
   rintro e v1 ⟨rfl, hb⟩
   obtain ⟨x0, x1, x2, x3, x4, x5, x6, x7, -⟩ := in_cells ((hb.block _ HLT.out).trans HBK.out)
   have x8 := HB9.out _ hb
   have K1 := zh hb
   clear hb g0 g1 g2 g3 g4 g5 g6 g7 g8
   go_wp2_with fail
   refine (HNM.out _).mono ?_
   rintro e v2 ⟨rfl, hb⟩
   have K2 := zh (show Below W.heap.size W v2 from then' K1.out hb)
   obtain ⟨y0, y1, y2, y3, y4, y5, y6, y7, -⟩ := in_cells ((K2.out.block _ HLT.out).trans HBK.out)
   have y8 := HB9.out _ K2.out
   clear hb x0 x1 x2 x3 x4 x5 x6 x7 x8
   go_wp2_with fail
   refine (HCA.out _).mono ?_; rintro e v2 ⟨rfl, rfl⟩
   go_wp2_with fail
   refine (HSP.out _).mono ?_
   rintro e v3 ⟨⟨A1, c1, rfl, hoo⟩, hb⟩
   have hk3 : Below W.heap.size W v3 := then' K2.out hb
   have hk4 := hk3.alloc hk3.size (.cells #[.int .i64 rk, .string ⟨rc.toArray⟩] 63)
   have z0 := cell_of_row _ _ 0 _ _ _ (heap_alloc_new v3 (.cells #[.int .i64 rk, .string ⟨rc.toArray⟩] 63))
   obtain ⟨u0, u1, u2, u3, u4, u5, u6, u7, -⟩ := in_cells ((hk4.block _ HLT.out).trans HBK.out)
   have u8 := HB9.out _ hk4
   have K3 := zh hk4
   clear hk3 hk4 hb hoo y0 y1 y2 y3 y4 y5 y6 y7 y8
   go_wp2
   go_ret
   exact ⟨rfl, HAL.out.trans (K3.out.mono HAL.out.size)⟩
end Go.Proofs.Ytdifmgeicnndfaa.op
namespace Go.Proofs.Ytdifmgeicnndfaa.op
open Go.RowKit
open words kindp opp kind word
set_option maxRecDepth 100000
set_option maxHeartbeats 16000000
set_option linter.all false
theorem fits_r7 (i : In) (A : Option Addr) (c : Nat) (regs code : Int) (w : World) (hsh : shapeL i.o = [97, 67]) (hk : known i.o = true) (hr : Rd w A (IL i.ar)) (hz : i.ar.length ≤ 1000) (hd : i.ds.length ≤ 65536) (hcl : i.cl.length ≤ 281474976710656) (hnm : i.nm.length ≤ 281474976710656) :
  Calls Try.prog 144 #[.agg (InV i A c), .int .i64 regs, .int .i64 code] w fun e w' => e = .returned (.int .i64 (refE i [97, 67] regs code)) ∧ Below w.heap.size w w' := by
 obtain ⟨W, hW⟩ : ∃ W, W = w.alloc (.cells (InV i A c) 90) := ⟨_, rfl⟩
 have hal : Below w.heap.size w W := by rw [hW]; exact (Below.refl _ w).alloc (Nat.le_refl _) _
 have HAL := zh hal
 have hblk : W.heap[w.heap.size]? = some (.cells (InV i A c) 90 (0, 0)) := by rw [hW]; exact heap_alloc_new w _
 have HBK := zh hblk; have HLT := zh (blk_lt hblk)
 obtain ⟨g0, g1, g2, g3, g4, g5, g6, g7, g8⟩ := in_cells hblk
 have hkk := of_decide_eq_true hk
 have o1 : ¬ i.o < 1 := by omega
 have o2 : ¬ 32 < i.o := by omega
 have hic : isCall i.o = false := by rw [← call_shape, hsh]; decide
 have h1f := one_of i.o
 rw [hsh] at h1f
 have HSH := zh (fun w => shape_r i.o w)
 rw [hsh] at HSH
 have HEM := zh (fun w => empty_7 i A c w (by omega))
 have HNM := zh (fun w => named_r i A c [97, 67] w (by decide) hd hcl hnm h1f)
 have HCA := zh (fun w => call_r i.o w)
 rw [hic] at HCA
 have H97 := zh (fun w => has_r [97, 67] 97 w (by decide))
 rw [show hasL [97, 67] 97 = true by decide] at H97
 have H98 := zh (fun w => has_r [97, 67] 98 w (by decide))
 rw [show hasL [97, 67] 98 = false by decide] at H98
 have H99 := zh (fun w => has_r [97, 67] 99 w (by decide))
 rw [show hasL [97, 67] 99 = false by decide] at H99
 have H116 := zh (fun w => has_r [97, 67] 116 w (by decide))
 rw [show hasL [97, 67] 116 = false by decide] at H116
 have H114 := zh (fun w => has_r [97, 67] 114 w (by decide))
 rw [show hasL [97, 67] 114 = false by decide] at H114
 have HWa := zh (fun w => within_r i.a regs w)
 dsimp only [InV] at hW HEM HNM ⊢
 have HW := zh hW
 have HO := zh (show isCall i.o = false from hic)
 clear hal hblk hW h1f hd hcl hnm
 cases hem : emptyB i [97, 67] with
 | false =>
  have hE : refE i [97, 67] regs code = 1 := by simp [refE, hk, hic, hem]
  rw [hE]
  rw [hem] at HEM
  clear hE hem hsh hk hic hkk hr hz
  go_enter Try.func144, Try.ntmps144
  go_wp2_with fail
  rw [← HW.out]
  refine (HSH.out _).mono ?_; rintro e W ⟨rfl, rfl⟩
  go_wp2_with fail
  refine (HEM.out _).mono ?_
  rintro e v1 ⟨rfl, hb⟩
  obtain ⟨x0, x1, x2, x3, x4, x5, x6, x7, x8⟩ := in_cells ((hb.block _ HLT.out).trans HBK.out)
  have K1 := zh hb
  clear hb g0 g1 g2 g3 g4 g5 g6 g7 g8
  go_wp2
  go_ret
  exact ⟨rfl, HAL.out.trans (K1.out.mono HAL.out.size)⟩
 | true =>
 cases hnd : namedB i [97, 67] with
 | false =>
  have hE : refE i [97, 67] regs code = 1 := by simp [refE, hk, hic, hem, hnd]
  rw [hE]
  rw [hem] at HEM
  rw [hnd] at HNM
  clear hE hem hnd hsh hk hic hkk hr hz
  go_enter Try.func144, Try.ntmps144
  go_wp2_with fail
  rw [← HW.out]
  refine (HSH.out _).mono ?_; rintro e W ⟨rfl, rfl⟩
  go_wp2_with fail
  refine (HEM.out _).mono ?_
  rintro e v1 ⟨rfl, hb⟩
  obtain ⟨x0, x1, x2, x3, x4, x5, x6, x7, x8⟩ := in_cells ((hb.block _ HLT.out).trans HBK.out)
  have K1 := zh hb
  clear hb g0 g1 g2 g3 g4 g5 g6 g7 g8
  go_wp2_with fail
  refine (HNM.out _).mono ?_
  rintro e v2 ⟨rfl, hb⟩
  have K2 := zh (show Below W.heap.size W v2 from then' K1.out hb)
  obtain ⟨y0, y1, y2, y3, y4, y5, y6, y7, y8⟩ := in_cells ((K2.out.block _ HLT.out).trans HBK.out)
  clear hb x0 x1 x2 x3 x4 x5 x6 x7 x8
  go_wp2
  go_ret
  exact ⟨rfl, HAL.out.trans (K2.out.mono HAL.out.size)⟩
 | true =>
 have har : i.ar = [] := no_args hem (by decide)
 cases hwa : withB i.a regs with
 | false =>
  have hE : refE i [97, 67] regs code = 12 := by simp [refE, hk, hic, hem, hnd, hwa, show hasL [97, 67] 97 = true by decide]
  rw [hE]
  rw [hem] at HEM
  rw [hnd] at HNM
  rw [hwa] at HWa
  clear hE hem hnd hsh hk hic hkk hr hz har hwa
  go_enter Try.func144, Try.ntmps144
  go_wp2_with fail
  rw [← HW.out]
  refine (HSH.out _).mono ?_; rintro e W ⟨rfl, rfl⟩
  go_wp2_with fail
  refine (HEM.out _).mono ?_
  rintro e v1 ⟨rfl, hb⟩
  obtain ⟨x0, x1, x2, x3, x4, x5, x6, x7, x8⟩ := in_cells ((hb.block _ HLT.out).trans HBK.out)
  have K1 := zh hb
  clear hb g0 g1 g2 g3 g4 g5 g6 g7 g8
  go_wp2_with fail
  refine (HNM.out _).mono ?_
  rintro e v2 ⟨rfl, hb⟩
  have K2 := zh (show Below W.heap.size W v2 from then' K1.out hb)
  obtain ⟨y0, y1, y2, y3, y4, y5, y6, y7, y8⟩ := in_cells ((K2.out.block _ HLT.out).trans HBK.out)
  clear hb x0 x1 x2 x3 x4 x5 x6 x7 x8
  go_wp2_with fail
  refine (HCA.out _).mono ?_; rintro e v2 ⟨rfl, rfl⟩
  go_wp2_with fail
  refine (H97.out _).mono ?_; rintro e v2 ⟨rfl, rfl⟩
  go_wp2_with fail
  refine (HWa.out _).mono ?_; rintro e v2 ⟨rfl, rfl⟩
  go_wp2
  go_ret
  exact ⟨rfl, HAL.out.trans (K2.out.mono HAL.out.size)⟩
 | true =>
 have hE : refE i [97, 67] regs code = 0 := by simp [refE, countedB, hsh, hk, hic, hem, hnd, hwa, har, show hasL [97, 67] 97 = true by decide, show hasL [97, 67] 98 = false by decide, show hasL [97, 67] 99 = false by decide, show hasL [97, 67] 116 = false by decide, show hasL [97, 67] 114 = false by decide]
 rw [hE]
 rw [hem] at HEM
 rw [hnd] at HNM
 rw [hwa] at HWa
 have hln : i.ar.length = 0 := by rw [har]; rfl
 rw [hln] at HEM HNM HW g8 ⊢
 have HB9 := zh (show ∀ v : World, Below W.heap.size W v → v.cell? ⟨w.heap.size, 8, none⟩ = some (.slice A 0 c) from fun v hb => by have := (in_cells ((hb.block _ HLT.out).trans HBK.out)).2.2.2.2.2.2.2.2; rwa [hln] at this)
 clear hE hem hnd hsh hk hic hkk hr hz har hln hwa
 go_enter Try.func144, Try.ntmps144
 go_wp2_with fail
 rw [← HW.out]
 refine (HSH.out _).mono ?_; rintro e W ⟨rfl, rfl⟩
 go_wp2_with fail
 refine (HEM.out _).mono ?_
 rintro e v1 ⟨rfl, hb⟩
 obtain ⟨x0, x1, x2, x3, x4, x5, x6, x7, -⟩ := in_cells ((hb.block _ HLT.out).trans HBK.out)
 have x8 := HB9.out _ hb
 have K1 := zh hb
 clear hb g0 g1 g2 g3 g4 g5 g6 g7 g8
 go_wp2_with fail
 refine (HNM.out _).mono ?_
 rintro e v2 ⟨rfl, hb⟩
 have K2 := zh (show Below W.heap.size W v2 from then' K1.out hb)
 obtain ⟨y0, y1, y2, y3, y4, y5, y6, y7, -⟩ := in_cells ((K2.out.block _ HLT.out).trans HBK.out)
 have y8 := HB9.out _ K2.out
 clear hb x0 x1 x2 x3 x4 x5 x6 x7 x8
 go_wp2_with fail
 refine (HCA.out _).mono ?_; rintro e v2 ⟨rfl, rfl⟩
 go_wp2_with fail
 refine (H97.out _).mono ?_; rintro e v2 ⟨rfl, rfl⟩
 go_wp2_with fail
 refine (HWa.out _).mono ?_; rintro e v2 ⟨rfl, rfl⟩
 go_wp2_with fail
 refine (H98.out _).mono ?_; rintro e v2 ⟨rfl, rfl⟩
 go_wp2_with fail
 refine (H99.out _).mono ?_; rintro e v2 ⟨rfl, rfl⟩
 go_wp2
 go_loopw [13] (fun v wr => v = .int .i64 0 ∧ wr = v2) (fun _ _ => 0)
 case atStart => exact ⟨rfl, rfl⟩
 case round =>
  obtain ⟨rfl, rfl⟩ := hrel
  go_wp2_with fail
  refine (H116.out _).mono ?_; rintro e v2 ⟨rfl, rfl⟩
  go_wp2_with fail
  refine (H114.out _).mono ?_; rintro e v2 ⟨rfl, rfl⟩
  go_wp2
  go_ret
  exact ⟨rfl, HAL.out.trans (K2.out.mono HAL.out.size)⟩
theorem fits_r8 (i : In) (A : Option Addr) (c : Nat) (regs code : Int) (w : World) (hsh : shapeL i.o = [97, 98, 67]) (hk : known i.o = true) (hr : Rd w A (IL i.ar)) (hz : i.ar.length ≤ 1000) (hd : i.ds.length ≤ 65536) (hcl : i.cl.length ≤ 281474976710656) (hnm : i.nm.length ≤ 281474976710656) :
  Calls Try.prog 144 #[.agg (InV i A c), .int .i64 regs, .int .i64 code] w fun e w' => e = .returned (.int .i64 (refE i [97, 98, 67] regs code)) ∧ Below w.heap.size w w' := by
 obtain ⟨W, hW⟩ : ∃ W, W = w.alloc (.cells (InV i A c) 90) := ⟨_, rfl⟩
 have hal : Below w.heap.size w W := by rw [hW]; exact (Below.refl _ w).alloc (Nat.le_refl _) _
 have HAL := zh hal
 have hblk : W.heap[w.heap.size]? = some (.cells (InV i A c) 90 (0, 0)) := by rw [hW]; exact heap_alloc_new w _
 have HBK := zh hblk; have HLT := zh (blk_lt hblk)
 obtain ⟨g0, g1, g2, g3, g4, g5, g6, g7, g8⟩ := in_cells hblk
 have hkk := of_decide_eq_true hk
 have o1 : ¬ i.o < 1 := by omega
 have o2 : ¬ 32 < i.o := by omega
 have hic : isCall i.o = false := by rw [← call_shape, hsh]; decide
 have h1f := one_of i.o
 rw [hsh] at h1f
 have HSH := zh (fun w => shape_r i.o w)
 rw [hsh] at HSH
 have HEM := zh (fun w => empty_8 i A c w (by omega))
 have HNM := zh (fun w => named_r i A c [97, 98, 67] w (by decide) hd hcl hnm h1f)
 have HCA := zh (fun w => call_r i.o w)
 rw [hic] at HCA
 have H97 := zh (fun w => has_r [97, 98, 67] 97 w (by decide))
 rw [show hasL [97, 98, 67] 97 = true by decide] at H97
 have H98 := zh (fun w => has_r [97, 98, 67] 98 w (by decide))
 rw [show hasL [97, 98, 67] 98 = true by decide] at H98
 have H99 := zh (fun w => has_r [97, 98, 67] 99 w (by decide))
 rw [show hasL [97, 98, 67] 99 = false by decide] at H99
 have H116 := zh (fun w => has_r [97, 98, 67] 116 w (by decide))
 rw [show hasL [97, 98, 67] 116 = false by decide] at H116
 have H114 := zh (fun w => has_r [97, 98, 67] 114 w (by decide))
 rw [show hasL [97, 98, 67] 114 = false by decide] at H114
 have HWa := zh (fun w => within_r i.a regs w)
 have HWb := zh (fun w => within_r i.b regs w)
 dsimp only [InV] at hW HEM HNM ⊢
 have HW := zh hW
 have HO := zh (show isCall i.o = false from hic)
 clear hal hblk hW h1f hd hcl hnm
 cases hem : emptyB i [97, 98, 67] with
 | false =>
  have hE : refE i [97, 98, 67] regs code = 1 := by simp [refE, hk, hic, hem]
  rw [hE]
  rw [hem] at HEM
  clear hE hem hsh hk hic hkk hr hz
  go_enter Try.func144, Try.ntmps144
  go_wp2_with fail
  rw [← HW.out]
  refine (HSH.out _).mono ?_; rintro e W ⟨rfl, rfl⟩
  go_wp2_with fail
  refine (HEM.out _).mono ?_
  rintro e v1 ⟨rfl, hb⟩
  obtain ⟨x0, x1, x2, x3, x4, x5, x6, x7, x8⟩ := in_cells ((hb.block _ HLT.out).trans HBK.out)
  have K1 := zh hb
  clear hb g0 g1 g2 g3 g4 g5 g6 g7 g8
  go_wp2
  go_ret
  exact ⟨rfl, HAL.out.trans (K1.out.mono HAL.out.size)⟩
 | true =>
 cases hnd : namedB i [97, 98, 67] with
 | false =>
  have hE : refE i [97, 98, 67] regs code = 1 := by simp [refE, hk, hic, hem, hnd]
  rw [hE]
  rw [hem] at HEM
  rw [hnd] at HNM
  clear hE hem hnd hsh hk hic hkk hr hz
  go_enter Try.func144, Try.ntmps144
  go_wp2_with fail
  rw [← HW.out]
  refine (HSH.out _).mono ?_; rintro e W ⟨rfl, rfl⟩
  go_wp2_with fail
  refine (HEM.out _).mono ?_
  rintro e v1 ⟨rfl, hb⟩
  obtain ⟨x0, x1, x2, x3, x4, x5, x6, x7, x8⟩ := in_cells ((hb.block _ HLT.out).trans HBK.out)
  have K1 := zh hb
  clear hb g0 g1 g2 g3 g4 g5 g6 g7 g8
  go_wp2_with fail
  refine (HNM.out _).mono ?_
  rintro e v2 ⟨rfl, hb⟩
  have K2 := zh (show Below W.heap.size W v2 from then' K1.out hb)
  obtain ⟨y0, y1, y2, y3, y4, y5, y6, y7, y8⟩ := in_cells ((K2.out.block _ HLT.out).trans HBK.out)
  clear hb x0 x1 x2 x3 x4 x5 x6 x7 x8
  go_wp2
  go_ret
  exact ⟨rfl, HAL.out.trans (K2.out.mono HAL.out.size)⟩
 | true =>
 have har : i.ar = [] := no_args hem (by decide)
 cases hwa : withB i.a regs with
 | false =>
  have hE : refE i [97, 98, 67] regs code = 12 := by simp [refE, hk, hic, hem, hnd, hwa, show hasL [97, 98, 67] 97 = true by decide]
  rw [hE]
  rw [hem] at HEM
  rw [hnd] at HNM
  rw [hwa] at HWa
  clear hE hem hnd hsh hk hic hkk hr hz har hwa
  go_enter Try.func144, Try.ntmps144
  go_wp2_with fail
  rw [← HW.out]
  refine (HSH.out _).mono ?_; rintro e W ⟨rfl, rfl⟩
  go_wp2_with fail
  refine (HEM.out _).mono ?_
  rintro e v1 ⟨rfl, hb⟩
  obtain ⟨x0, x1, x2, x3, x4, x5, x6, x7, x8⟩ := in_cells ((hb.block _ HLT.out).trans HBK.out)
  have K1 := zh hb
  clear hb g0 g1 g2 g3 g4 g5 g6 g7 g8
  go_wp2_with fail
  refine (HNM.out _).mono ?_
  rintro e v2 ⟨rfl, hb⟩
  have K2 := zh (show Below W.heap.size W v2 from then' K1.out hb)
  obtain ⟨y0, y1, y2, y3, y4, y5, y6, y7, y8⟩ := in_cells ((K2.out.block _ HLT.out).trans HBK.out)
  clear hb x0 x1 x2 x3 x4 x5 x6 x7 x8
  go_wp2_with fail
  refine (HCA.out _).mono ?_; rintro e v2 ⟨rfl, rfl⟩
  go_wp2_with fail
  refine (H97.out _).mono ?_; rintro e v2 ⟨rfl, rfl⟩
  go_wp2_with fail
  refine (HWa.out _).mono ?_; rintro e v2 ⟨rfl, rfl⟩
  go_wp2
  go_ret
  exact ⟨rfl, HAL.out.trans (K2.out.mono HAL.out.size)⟩
 | true =>
 cases hwb : withB i.b regs with
 | false =>
  have hE : refE i [97, 98, 67] regs code = 12 := by simp [refE, hk, hic, hem, hnd, hwa, hwb, show hasL [97, 98, 67] 98 = true by decide, show hasL [97, 98, 67] 97 = true by decide]
  rw [hE]
  rw [hem] at HEM
  rw [hnd] at HNM
  rw [hwa] at HWa
  rw [hwb] at HWb
  clear hE hem hnd hsh hk hic hkk hr hz har hwa hwb
  go_enter Try.func144, Try.ntmps144
  go_wp2_with fail
  rw [← HW.out]
  refine (HSH.out _).mono ?_; rintro e W ⟨rfl, rfl⟩
  go_wp2_with fail
  refine (HEM.out _).mono ?_
  rintro e v1 ⟨rfl, hb⟩
  obtain ⟨x0, x1, x2, x3, x4, x5, x6, x7, x8⟩ := in_cells ((hb.block _ HLT.out).trans HBK.out)
  have K1 := zh hb
  clear hb g0 g1 g2 g3 g4 g5 g6 g7 g8
  go_wp2_with fail
  refine (HNM.out _).mono ?_
  rintro e v2 ⟨rfl, hb⟩
  have K2 := zh (show Below W.heap.size W v2 from then' K1.out hb)
  obtain ⟨y0, y1, y2, y3, y4, y5, y6, y7, y8⟩ := in_cells ((K2.out.block _ HLT.out).trans HBK.out)
  clear hb x0 x1 x2 x3 x4 x5 x6 x7 x8
  go_wp2_with fail
  refine (HCA.out _).mono ?_; rintro e v2 ⟨rfl, rfl⟩
  go_wp2_with fail
  refine (H97.out _).mono ?_; rintro e v2 ⟨rfl, rfl⟩
  go_wp2_with fail
  refine (HWa.out _).mono ?_; rintro e v2 ⟨rfl, rfl⟩
  go_wp2_with fail
  refine (H98.out _).mono ?_; rintro e v2 ⟨rfl, rfl⟩
  go_wp2_with fail
  refine (HWb.out _).mono ?_; rintro e v2 ⟨rfl, rfl⟩
  go_wp2
  go_ret
  exact ⟨rfl, HAL.out.trans (K2.out.mono HAL.out.size)⟩
 | true =>
 have hE : refE i [97, 98, 67] regs code = 0 := by simp [refE, countedB, hsh, hk, hic, hem, hnd, hwa, hwb, har, show hasL [97, 98, 67] 97 = true by decide, show hasL [97, 98, 67] 98 = true by decide, show hasL [97, 98, 67] 99 = false by decide, show hasL [97, 98, 67] 116 = false by decide, show hasL [97, 98, 67] 114 = false by decide]
 rw [hE]
 rw [hem] at HEM
 rw [hnd] at HNM
 rw [hwa] at HWa
 rw [hwb] at HWb
 have hln : i.ar.length = 0 := by rw [har]; rfl
 rw [hln] at HEM HNM HW g8 ⊢
 have HB9 := zh (show ∀ v : World, Below W.heap.size W v → v.cell? ⟨w.heap.size, 8, none⟩ = some (.slice A 0 c) from fun v hb => by have := (in_cells ((hb.block _ HLT.out).trans HBK.out)).2.2.2.2.2.2.2.2; rwa [hln] at this)
 clear hE hem hnd hsh hk hic hkk hr hz har hln hwa hwb
 go_enter Try.func144, Try.ntmps144
 go_wp2_with fail
 rw [← HW.out]
 refine (HSH.out _).mono ?_; rintro e W ⟨rfl, rfl⟩
 go_wp2_with fail
 refine (HEM.out _).mono ?_
 rintro e v1 ⟨rfl, hb⟩
 obtain ⟨x0, x1, x2, x3, x4, x5, x6, x7, -⟩ := in_cells ((hb.block _ HLT.out).trans HBK.out)
 have x8 := HB9.out _ hb
 have K1 := zh hb
 clear hb g0 g1 g2 g3 g4 g5 g6 g7 g8
 go_wp2_with fail
 refine (HNM.out _).mono ?_
 rintro e v2 ⟨rfl, hb⟩
 have K2 := zh (show Below W.heap.size W v2 from then' K1.out hb)
 obtain ⟨y0, y1, y2, y3, y4, y5, y6, y7, -⟩ := in_cells ((K2.out.block _ HLT.out).trans HBK.out)
 have y8 := HB9.out _ K2.out
 clear hb x0 x1 x2 x3 x4 x5 x6 x7 x8
 go_wp2_with fail
 refine (HCA.out _).mono ?_; rintro e v2 ⟨rfl, rfl⟩
 go_wp2_with fail
 refine (H97.out _).mono ?_; rintro e v2 ⟨rfl, rfl⟩
 go_wp2_with fail
 refine (HWa.out _).mono ?_; rintro e v2 ⟨rfl, rfl⟩
 go_wp2_with fail
 refine (H98.out _).mono ?_; rintro e v2 ⟨rfl, rfl⟩
 go_wp2_with fail
 refine (HWb.out _).mono ?_; rintro e v2 ⟨rfl, rfl⟩
 go_wp2_with fail
 refine (H99.out _).mono ?_; rintro e v2 ⟨rfl, rfl⟩
 go_wp2
 go_loopw [13] (fun v wr => v = .int .i64 0 ∧ wr = v2) (fun _ _ => 0)
 case atStart => exact ⟨rfl, rfl⟩
 case round =>
  obtain ⟨rfl, rfl⟩ := hrel
  go_wp2_with fail
  refine (H116.out _).mono ?_; rintro e v2 ⟨rfl, rfl⟩
  go_wp2_with fail
  refine (H114.out _).mono ?_; rintro e v2 ⟨rfl, rfl⟩
  go_wp2
  go_ret
  exact ⟨rfl, HAL.out.trans (K2.out.mono HAL.out.size)⟩
theorem fits_r15 (i : In) (A : Option Addr) (c : Nat) (regs code : Int) (w : World) (hsh : shapeL i.o = [98]) (hk : known i.o = true) (hr : Rd w A (IL i.ar)) (hz : i.ar.length ≤ 1000) (hd : i.ds.length ≤ 65536) (hcl : i.cl.length ≤ 281474976710656) (hnm : i.nm.length ≤ 281474976710656) :
  Calls Try.prog 144 #[.agg (InV i A c), .int .i64 regs, .int .i64 code] w fun e w' => e = .returned (.int .i64 (refE i [98] regs code)) ∧ Below w.heap.size w w' := by
 obtain ⟨W, hW⟩ : ∃ W, W = w.alloc (.cells (InV i A c) 90) := ⟨_, rfl⟩
 have hal : Below w.heap.size w W := by rw [hW]; exact (Below.refl _ w).alloc (Nat.le_refl _) _
 have HAL := zh hal
 have hblk : W.heap[w.heap.size]? = some (.cells (InV i A c) 90 (0, 0)) := by rw [hW]; exact heap_alloc_new w _
 have HBK := zh hblk; have HLT := zh (blk_lt hblk)
 obtain ⟨g0, g1, g2, g3, g4, g5, g6, g7, g8⟩ := in_cells hblk
 have hkk := of_decide_eq_true hk
 have o1 : ¬ i.o < 1 := by omega
 have o2 : ¬ 32 < i.o := by omega
 have hic : isCall i.o = false := by rw [← call_shape, hsh]; decide
 have h1f := one_of i.o
 rw [hsh] at h1f
 have HSH := zh (fun w => shape_r i.o w)
 rw [hsh] at HSH
 have HEM := zh (fun w => empty_15 i A c w (by omega))
 have HNM := zh (fun w => named_r i A c [98] w (by decide) hd hcl hnm h1f)
 have HCA := zh (fun w => call_r i.o w)
 rw [hic] at HCA
 have H97 := zh (fun w => has_r [98] 97 w (by decide))
 rw [show hasL [98] 97 = false by decide] at H97
 have H98 := zh (fun w => has_r [98] 98 w (by decide))
 rw [show hasL [98] 98 = true by decide] at H98
 have H99 := zh (fun w => has_r [98] 99 w (by decide))
 rw [show hasL [98] 99 = false by decide] at H99
 have H116 := zh (fun w => has_r [98] 116 w (by decide))
 rw [show hasL [98] 116 = false by decide] at H116
 have H114 := zh (fun w => has_r [98] 114 w (by decide))
 rw [show hasL [98] 114 = false by decide] at H114
 have HWb := zh (fun w => within_r i.b regs w)
 dsimp only [InV] at hW HEM HNM ⊢
 have HW := zh hW
 have HO := zh (show isCall i.o = false from hic)
 clear hal hblk hW h1f hd hcl hnm
 cases hem : emptyB i [98] with
 | false =>
  have hE : refE i [98] regs code = 1 := by simp [refE, hk, hic, hem]
  rw [hE]
  rw [hem] at HEM
  clear hE hem hsh hk hic hkk hr hz
  go_enter Try.func144, Try.ntmps144
  go_wp2_with fail
  rw [← HW.out]
  refine (HSH.out _).mono ?_; rintro e W ⟨rfl, rfl⟩
  go_wp2_with fail
  refine (HEM.out _).mono ?_
  rintro e v1 ⟨rfl, hb⟩
  obtain ⟨x0, x1, x2, x3, x4, x5, x6, x7, x8⟩ := in_cells ((hb.block _ HLT.out).trans HBK.out)
  have K1 := zh hb
  clear hb g0 g1 g2 g3 g4 g5 g6 g7 g8
  go_wp2
  go_ret
  exact ⟨rfl, HAL.out.trans (K1.out.mono HAL.out.size)⟩
 | true =>
 cases hnd : namedB i [98] with
 | false =>
  have hE : refE i [98] regs code = 1 := by simp [refE, hk, hic, hem, hnd]
  rw [hE]
  rw [hem] at HEM
  rw [hnd] at HNM
  clear hE hem hnd hsh hk hic hkk hr hz
  go_enter Try.func144, Try.ntmps144
  go_wp2_with fail
  rw [← HW.out]
  refine (HSH.out _).mono ?_; rintro e W ⟨rfl, rfl⟩
  go_wp2_with fail
  refine (HEM.out _).mono ?_
  rintro e v1 ⟨rfl, hb⟩
  obtain ⟨x0, x1, x2, x3, x4, x5, x6, x7, x8⟩ := in_cells ((hb.block _ HLT.out).trans HBK.out)
  have K1 := zh hb
  clear hb g0 g1 g2 g3 g4 g5 g6 g7 g8
  go_wp2_with fail
  refine (HNM.out _).mono ?_
  rintro e v2 ⟨rfl, hb⟩
  have K2 := zh (show Below W.heap.size W v2 from then' K1.out hb)
  obtain ⟨y0, y1, y2, y3, y4, y5, y6, y7, y8⟩ := in_cells ((K2.out.block _ HLT.out).trans HBK.out)
  clear hb x0 x1 x2 x3 x4 x5 x6 x7 x8
  go_wp2
  go_ret
  exact ⟨rfl, HAL.out.trans (K2.out.mono HAL.out.size)⟩
 | true =>
 have har : i.ar = [] := no_args hem (by decide)
 cases hwb : withB i.b regs with
 | false =>
  have hE : refE i [98] regs code = 12 := by simp [refE, hk, hic, hem, hnd, hwb, show hasL [98] 98 = true by decide, show hasL [98] 97 = false by decide]
  rw [hE]
  rw [hem] at HEM
  rw [hnd] at HNM
  rw [hwb] at HWb
  clear hE hem hnd hsh hk hic hkk hr hz har hwb
  go_enter Try.func144, Try.ntmps144
  go_wp2_with fail
  rw [← HW.out]
  refine (HSH.out _).mono ?_; rintro e W ⟨rfl, rfl⟩
  go_wp2_with fail
  refine (HEM.out _).mono ?_
  rintro e v1 ⟨rfl, hb⟩
  obtain ⟨x0, x1, x2, x3, x4, x5, x6, x7, x8⟩ := in_cells ((hb.block _ HLT.out).trans HBK.out)
  have K1 := zh hb
  clear hb g0 g1 g2 g3 g4 g5 g6 g7 g8
  go_wp2_with fail
  refine (HNM.out _).mono ?_
  rintro e v2 ⟨rfl, hb⟩
  have K2 := zh (show Below W.heap.size W v2 from then' K1.out hb)
  obtain ⟨y0, y1, y2, y3, y4, y5, y6, y7, y8⟩ := in_cells ((K2.out.block _ HLT.out).trans HBK.out)
  clear hb x0 x1 x2 x3 x4 x5 x6 x7 x8
  go_wp2_with fail
  refine (HCA.out _).mono ?_; rintro e v2 ⟨rfl, rfl⟩
  go_wp2_with fail
  refine (H97.out _).mono ?_; rintro e v2 ⟨rfl, rfl⟩
  go_wp2_with fail
  refine (H98.out _).mono ?_; rintro e v2 ⟨rfl, rfl⟩
  go_wp2_with fail
  refine (HWb.out _).mono ?_; rintro e v2 ⟨rfl, rfl⟩
  go_wp2
  go_ret
  exact ⟨rfl, HAL.out.trans (K2.out.mono HAL.out.size)⟩
 | true =>
 have hE : refE i [98] regs code = 0 := by simp [refE, countedB, hsh, hk, hic, hem, hnd, hwb, har, show hasL [98] 97 = false by decide, show hasL [98] 98 = true by decide, show hasL [98] 99 = false by decide, show hasL [98] 116 = false by decide, show hasL [98] 114 = false by decide]
 rw [hE]
 rw [hem] at HEM
 rw [hnd] at HNM
 rw [hwb] at HWb
 have hln : i.ar.length = 0 := by rw [har]; rfl
 rw [hln] at HEM HNM HW g8 ⊢
 have HB9 := zh (show ∀ v : World, Below W.heap.size W v → v.cell? ⟨w.heap.size, 8, none⟩ = some (.slice A 0 c) from fun v hb => by have := (in_cells ((hb.block _ HLT.out).trans HBK.out)).2.2.2.2.2.2.2.2; rwa [hln] at this)
 clear hE hem hnd hsh hk hic hkk hr hz har hln hwb
 go_enter Try.func144, Try.ntmps144
 go_wp2_with fail
 rw [← HW.out]
 refine (HSH.out _).mono ?_; rintro e W ⟨rfl, rfl⟩
 go_wp2_with fail
 refine (HEM.out _).mono ?_
 rintro e v1 ⟨rfl, hb⟩
 obtain ⟨x0, x1, x2, x3, x4, x5, x6, x7, -⟩ := in_cells ((hb.block _ HLT.out).trans HBK.out)
 have x8 := HB9.out _ hb
 have K1 := zh hb
 clear hb g0 g1 g2 g3 g4 g5 g6 g7 g8
 go_wp2_with fail
 refine (HNM.out _).mono ?_
 rintro e v2 ⟨rfl, hb⟩
 have K2 := zh (show Below W.heap.size W v2 from then' K1.out hb)
 obtain ⟨y0, y1, y2, y3, y4, y5, y6, y7, -⟩ := in_cells ((K2.out.block _ HLT.out).trans HBK.out)
 have y8 := HB9.out _ K2.out
 clear hb x0 x1 x2 x3 x4 x5 x6 x7 x8
 go_wp2_with fail
 refine (HCA.out _).mono ?_; rintro e v2 ⟨rfl, rfl⟩
 go_wp2_with fail
 refine (H97.out _).mono ?_; rintro e v2 ⟨rfl, rfl⟩
 go_wp2_with fail
 refine (H98.out _).mono ?_; rintro e v2 ⟨rfl, rfl⟩
 go_wp2_with fail
 refine (HWb.out _).mono ?_; rintro e v2 ⟨rfl, rfl⟩
 go_wp2_with fail
 refine (H99.out _).mono ?_; rintro e v2 ⟨rfl, rfl⟩
 go_wp2
 go_loopw [13] (fun v wr => v = .int .i64 0 ∧ wr = v2) (fun _ _ => 0)
 case atStart => exact ⟨rfl, rfl⟩
 case round =>
  obtain ⟨rfl, rfl⟩ := hrel
  go_wp2_with fail
  refine (H116.out _).mono ?_; rintro e v2 ⟨rfl, rfl⟩
  go_wp2_with fail
  refine (H114.out _).mono ?_; rintro e v2 ⟨rfl, rfl⟩
  go_wp2
  go_ret
  exact ⟨rfl, HAL.out.trans (K2.out.mono HAL.out.size)⟩
end Go.Proofs.Ytdifmgeicnndfaa.op
namespace Go.Proofs.Ytdifmgeicnndfaa.opFits
open Go.RowKit
open words kindp opp op kind
set_option maxRecDepth 100000
set_option maxHeartbeats 16000000
set_option linter.all false
theorem which (o : Int) : shapeL o ∈ ([[], [97, 107], [97], [97, 98], [97, 98, 99, 114], [116], [98, 116], [97, 67], [97, 98, 67], [97, 98, 99], [97, 98, 70], [98, 99, 70], [97, 70], [99, 70], [97, 77, 118], [98], [107], [67]] : List Tx) := by
 refine shape_cases (P := fun _ s => s ∈ ([[], [97, 107], [97], [97, 98], [97, 98, 99, 114], [116], [98, 116], [97, 67], [97, 98, 67], [97, 98, 99], [97, 98, 70], [98, 99, 70], [97, 70], [99, 70], [97, 77, 118], [98], [107], [67]] : List Tx)) ?_ ?_ ?_ ?_ ?_ ?_ ?_ ?_ ?_ ?_ ?_ ?_ ?_ ?_ ?_ ?_ ?_ ?_ ?_ ?_ ?_ ?_ ?_ ?_ ?_ ?_ ?_ ?_ ?_ ?_ ?_ ?_ ?_ ?_ o
 all_goals first | decide | (intro o _; decide)
theorem fits_ru (i : In) (A : Option Addr) (c : Nat) (regs code : Int) (w : World) (hk : known i.o = false) :
  Calls Try.prog 144 #[.agg (InV i A c), .int .i64 regs, .int .i64 code] w fun e w' => e = .returned (.int .i64 1) ∧ Below w.heap.size w w' := by
 obtain ⟨W, hW⟩ : ∃ W, W = w.alloc (.cells (InV i A c) 90) := ⟨_, rfl⟩
 have hal : Below w.heap.size w W := by rw [hW]; exact (Below.refl _ w).alloc (Nat.le_refl _) _
 have HAL := zh hal
 have hblk : W.heap[w.heap.size]? = some (.cells (InV i A c) 90 (0, 0)) := by rw [hW]; exact heap_alloc_new w _
 obtain ⟨g0, g1, g2, g3, g4, g5, g6, g7, g8⟩ := in_cells hblk
 have HSH := zh (fun w => shape_r i.o w)
 have hkk := known_not hk
 generalize shapeL i.o = S at *
 dsimp only [InV] at hW ⊢
 have HW := zh hW
 clear hal hblk hW hk
 by_cases o1 : i.o < 1
 ·clear hkk
  go_enter Try.func144, Try.ntmps144
  go_wp2_with fail
  rw [← HW.out]
  refine (HSH.out _).mono ?_; rintro e W ⟨rfl, rfl⟩
  go_wp2_with fail
  go_ret
  exact ⟨rfl, HAL.out⟩
 ·have o2 : 32 < i.o := by omega
  clear hkk
  go_enter Try.func144, Try.ntmps144
  go_wp2_with fail
  rw [← HW.out]
  refine (HSH.out _).mono ?_; rintro e W ⟨rfl, rfl⟩
  go_wp2_with fail
  go_ret
  exact ⟨rfl, HAL.out⟩
theorem fits_r (i : In) (A : Option Addr) (c : Nat) (regs code : Int) (w : World) (hr : Rd w A (IL i.ar)) (hz : i.ar.length ≤ 1000) (hd : i.ds.length ≤ 65536) (hcl : i.cl.length ≤ 281474976710656) (hnm : i.nm.length ≤ 281474976710656) :
  Calls Try.prog 144 #[.agg (InV i A c), .int .i64 regs, .int .i64 code] w fun e w' => e = .returned (.int .i64 (fitsE i regs code)) ∧ Below w.heap.size w w' := by
 rw [fits_ref]
 cases hk : known i.o with
 | false =>
  have h1 : refE i (shapeL i.o) regs code = 1 := by unfold refE; rw [if_pos hk]
  rw [h1]
  exact fits_ru i A c regs code w hk
 | true =>
  have hw := which i.o
  simp only [List.mem_cons, List.not_mem_nil, or_false] at hw
  rcases hw with h | h | h | h | h | h | h | h | h | h | h | h | h | h | h | h | h | h
  ·rw [h]; exact fits_r0 i A c regs code w h hk hr hz hd hcl hnm
  ·rw [h]; exact fits_r1 i A c regs code w h hk hr hz hd hcl hnm
  ·rw [h]; exact fits_r2 i A c regs code w h hk hr hz hd hcl hnm
  ·rw [h]; exact fits_r3 i A c regs code w h hk hr hz hd hcl hnm
  ·rw [h]; exact fits_r4 i A c regs code w h hk hr hz hd hcl hnm
  ·rw [h]; exact fits_r5 i A c regs code w h hk hr hz hd hcl hnm
  ·rw [h]; exact fits_r6 i A c regs code w h hk hr hz hd hcl hnm
  ·rw [h]; exact fits_r7 i A c regs code w h hk hr hz hd hcl hnm
  ·rw [h]; exact fits_r8 i A c regs code w h hk hr hz hd hcl hnm
  ·rw [h]; exact fits_r9 i A c regs code w h hk hr hz hd hcl hnm
  ·rw [h]; exact fits_r10 i A c regs code w h hk hr hz hd hcl hnm
  ·rw [h]; exact fits_r11 i A c regs code w h hk hr hz hd hcl hnm
  ·rw [h]; exact fits_r12 i A c regs code w h hk hr hz hd hcl hnm
  ·rw [h]; exact fits_r13 i A c regs code w h hk hr hz hd hcl hnm
  ·rw [h]; exact fits_r14 i A c regs code w h hk hr hz hd hcl hnm
  ·rw [h]; exact fits_r15 i A c regs code w h hk hr hz hd hcl hnm
  ·rw [h]; exact fits_r16 i A c regs code w h hk hr hz hd hcl hnm
  ·rw [h]; exact fits_r17 i A c regs code w h hk hr hz hd hcl hnm
theorem overD {b : Nat} {a c : World} (h : Below b a c) : Below b a c.drew := ⟨h.os, h.tape, h.output, h.size, h.block⟩
end Go.Proofs.Ytdifmgeicnndfaa.opFits

/-
  Layer 7: what is too much for the laws; and what follows where an instruction fits.
-/
import Derived.Test.YtdenpefihplnoaaDoorLive7
namespace Go.Proofs.YtdenpefihplnoaaDoor.op
open Go.RowKit
open Go.Proofs.YtdenpefihplnoaaDoor.words Go.Proofs.YtdenpefihplnoaaDoor.kindp Go.Proofs.YtdenpefihplnoaaDoor.opp Go.Proofs.YtdenpefihplnoaaDoor.kind

def longB (i : In) : Bool := decide (60 < i.ar.length) || (decide (300 < i.cl.length) || (decide (300 < i.nm.length) || decide (300 < i.ds.length)))
theorem long_not {i : In} (h : longB i = false) : i.ar.length ≤ 60 ∧ i.cl.length ≤ 300 ∧ i.nm.length ≤ 300 ∧ i.ds.length ≤ 300 := by
  unfold longB at h
  simp only [Bool.or_eq_false_iff, decide_eq_false_iff_not] at h
  omega
theorem mk_sz (c : Tx) : (⟨c.toArray⟩ : ByteArray).size = c.length := by show c.toArray.size = _; simp
set_option maxRecDepth 100000 in
set_option maxHeartbeats 2000000 in
theorem long_w (i : In) (A : Option Addr) (c : Nat) (w : World) (hz : i.ar.length ≤ 281474976710656) (h1 : i.cl.length ≤ 281474976710656) (h2 : i.nm.length ≤ 281474976710656) (h3 : i.ds.length ≤ 281474976710656) :
    Calls Tryd.prog 16 #[.agg (InV i A c)] w fun e w' => e = .returned (.bool (longB i)) ∧ Below w.heap.size w w' := by
  obtain ⟨W, hW⟩ : ∃ W, W = w.alloc (.cells (InV i A c) 28) := ⟨_, rfl⟩
  have hal : Below w.heap.size w W := by rw [hW]; exact (Below.refl _ w).alloc (Nat.le_refl _) _
  have HAL := Lib.hid hal
  have hblk : W.heap[w.heap.size]? = some (.cells (InV i A c) 28 (0, 0)) := by rw [hW]; exact heap_alloc_new w _
  obtain ⟨g0, g1, g2, g3, g4, g5, g6, g7, g8⟩ := in_cells hblk
  obtain ⟨R, hR⟩ : ∃ R, R = longB i := ⟨_, rfl⟩
  rw [← hR]
  have HR := Lib.hid (show R = (decide (60 < i.ar.length) || (decide (300 < i.cl.length) || (decide (300 < i.nm.length) || decide (300 < i.ds.length)))) from hR)
  obtain ⟨na, hna⟩ : ∃ n, n = i.ar.length := ⟨_, rfl⟩
  have hs5 := mk_sz i.cl
  have hs6 := mk_sz i.nm
  have hs7 := mk_sz i.ds
  obtain ⟨nc, hnc⟩ : ∃ n, n = i.cl.length := ⟨_, rfl⟩
  obtain ⟨nn, hnn⟩ : ∃ n, n = i.nm.length := ⟨_, rfl⟩
  obtain ⟨nd, hnd⟩ : ∃ n, n = i.ds.length := ⟨_, rfl⟩
  rw [← hna, ← hnc, ← hnn, ← hnd] at HR
  rw [← hna] at g8 hz
  rw [← hnc] at hs5 h1
  rw [← hnn] at hs6 h2
  rw [← hnd] at hs7 h3
  dsimp only [InV] at hW ⊢
  rw [← hna] at hW ⊢
  have HW := Lib.hid hW
  clear hR hna hnc hnn hnd hal hblk hW
  have b0 : (na : Int) ≤ 281474976710656 := by omega
  have b1 : (nc : Int) ≤ 281474976710656 := by omega
  have b2 : (nn : Int) ≤ 281474976710656 := by omega
  have b3 : (nd : Int) ≤ 281474976710656 := by omega
  by_cases pna : 60 < na
  · obtain rfl : R = true := by rw [HR.out]; simp only [decide_eq_true pna]; simp
    have ina : (60 : Int) < (na : Int) := by omega
    clear HR
    go_enter Tryd.func16, Tryd.ntmps16
    go_wp2_with fail
    rw [← HW.out]
    go_wp2
    go_ret
    exact ⟨rfl, HAL.out⟩
  have qna := pna
  have jna : ¬ (60 : Int) < (na : Int) := by omega
  by_cases pnc : 300 < nc
  · obtain rfl : R = true := by rw [HR.out]; simp only [decide_eq_false qna, decide_eq_true pnc]; simp
    have inc : (300 : Int) < (nc : Int) := by omega
    clear HR
    go_enter Tryd.func16, Tryd.ntmps16
    go_wp2_with fail
    rw [← HW.out]
    go_wp2
    go_ret
    exact ⟨rfl, HAL.out⟩
  have qnc := pnc
  have jnc : ¬ (300 : Int) < (nc : Int) := by omega
  by_cases pnn : 300 < nn
  · obtain rfl : R = true := by rw [HR.out]; simp only [decide_eq_false qna, decide_eq_false qnc, decide_eq_true pnn]; simp
    have inn : (300 : Int) < (nn : Int) := by omega
    clear HR
    go_enter Tryd.func16, Tryd.ntmps16
    go_wp2_with fail
    rw [← HW.out]
    go_wp2
    go_ret
    exact ⟨rfl, HAL.out⟩
  have qnn := pnn
  have jnn : ¬ (300 : Int) < (nn : Int) := by omega
  by_cases pnd : 300 < nd
  · obtain rfl : R = true := by rw [HR.out]; simp only [decide_eq_false qna, decide_eq_false qnc, decide_eq_false qnn, decide_eq_true pnd]; simp
    have ind : (300 : Int) < (nd : Int) := by omega
    clear HR
    go_enter Tryd.func16, Tryd.ntmps16
    go_wp2_with fail
    rw [← HW.out]
    go_wp2
    go_ret
    exact ⟨rfl, HAL.out⟩
  have qnd := pnd
  have jnd : ¬ (300 : Int) < (nd : Int) := by omega
  obtain rfl : R = false := by rw [HR.out]; simp only [decide_eq_false qna, decide_eq_false qnc, decide_eq_false qnn, decide_eq_false qnd]; simp
  have dj : decide ((300 : Int) < (nd : Int)) = false := decide_eq_false jnd
  clear HR
  go_enter Tryd.func16, Tryd.ntmps16
  go_wp2_with fail
  rw [← HW.out]
  go_wp2
  go_ret
  exact ⟨rfl, HAL.out⟩

/-- an instruction fits: what that says -/
theorem fits_zero {i : In} {regs code : Int} (h : fitsE i regs code = 0) : formedB i = true ∧ ¬ (isCall i.o = true ∧ descE i ≠ 0) ∧ (regsL i).all (okR regs) = true ∧ countedB i code = true := by
  unfold fitsE at h
  cases hf : formedB i with
  | false => rw [hf, if_pos rfl] at h; exact absurd h (by decide)
  | true =>
    rw [if_neg (by rw [hf]; simp)] at h
    by_cases hc : isCall i.o = true ∧ descE i ≠ 0
    · rw [if_pos hc] at h; exact absurd h hc.2
    · rw [if_neg hc] at h
      cases hr : (regsL i).all (okR regs) with
      | false => rw [hr, if_pos rfl] at h; exact absurd h (by decide)
      | true =>
        rw [if_neg (by rw [hr]; simp)] at h
        cases hn : countedB i code with
        | false => rw [hn, if_pos rfl] at h; exact absurd h (by decide)
        | true => exact ⟨rfl, hc, rfl, rfl⟩
theorem zero_fits {i : In} {regs code : Int} (h1 : formedB i = true) (h2 : ¬ (isCall i.o = true ∧ descE i ≠ 0)) (h3 : (regsL i).all (okR regs) = true) (h4 : countedB i code = true) : fitsE i regs code = 0 := by
  unfold fitsE; rw [if_neg (by rw [h1]; simp), if_neg h2, if_neg (by rw [h3]; simp), if_neg (by rw [h4]; simp)]
theorem fits_more {i : In} {regs code : Int} (h : fitsE i regs code = 0) : fitsE i (regs + 1) code = 0 ∧ fitsE i regs (code + 1) = 0 := by
  obtain ⟨h1, h2, h3, h4⟩ := fits_zero h
  refine ⟨zero_fits h1 h2 (List.all_eq_true.2 fun x hx => ?_) h4, zero_fits h1 h2 h3 ?_⟩
  · have := List.all_eq_true.1 h3 x hx
    simp only [okR, Bool.and_eq_true, decide_eq_true_eq] at this ⊢
    omega
  · unfold countedB at h4 ⊢
    simp only [Bool.and_eq_true, Bool.or_eq_true, Bool.not_eq_true', decide_eq_true_eq] at h4 ⊢
    refine ⟨h4.1.imp id (fun h => ⟨h.1, by omega⟩), h4.2⟩
theorem uses_within {i : In} {regs code : Int} (h : fitsE i regs code = 0) {z : Int} (hz : z ∈ usesL i) : 0 ≤ z ∧ z < regs := by
  obtain ⟨_, _, h3, _⟩ := fits_zero h
  unfold usesL at hz
  obtain ⟨x, hx, rfl⟩ := List.mem_map.1 hz
  have := List.all_eq_true.1 h3 x (List.mem_filter.1 hx).1
  simpa [okR] using this
theorem sets_within {i : In} {regs code : Int} (h : fitsE i regs code = 0) (hs : (setsL i).2 = true) : 0 ≤ (setsL i).1 ∧ (setsL i).1 < regs := by
  obtain ⟨_, _, h3, _⟩ := fits_zero h
  unfold setsL at hs ⊢
  split at hs
  · cases hs
  · rename_i hn
    rw [if_neg hn]
    split at hs
    · cases hs
    · rename_i hc
      rw [if_neg hc]
      have ha : hasL (shapeL i.o) 97 = true := by
        cases hh : hasL (shapeL i.o) 97 with
        | true => rfl
        | false => exact absurd (.inl hh) hn
      have hm : ((97 : UInt8), i.a) ∈ regsL i := by
        unfold regsL
        rw [List.mem_flatMap]
        exact ⟨97, List.contains_iff_mem.1 ha, by simp [lettered]⟩
      have := List.all_eq_true.1 h3 _ hm
      simpa [okR] using this
theorem jumps_within {i : In} {regs code : Int} (h : fitsE i regs code = 0) (hs : (targetL i).2 = true) : (targetL i).1 < code := by
  obtain ⟨_, _, _, h4⟩ := fits_zero h
  unfold targetL at hs ⊢
  split at hs
  · rename_i ht
    rw [if_pos ht]
    unfold countedB at h4
    rw [ht.1] at h4
    simp only [Bool.not_true, Bool.false_or, Bool.and_eq_true, decide_eq_true_eq] at h4
    exact h4.1.2
  · cases hs
end Go.Proofs.YtdenpefihplnoaaDoor.op

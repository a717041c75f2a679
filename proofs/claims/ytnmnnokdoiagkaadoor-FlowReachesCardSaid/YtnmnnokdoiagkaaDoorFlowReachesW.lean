/-
 Layer 14: by how few steps places are reached, which are not, and where rows begin: the walk.
-/
import Derived.Test.YtnmnnokdoiagkaaDoorFlowRd
namespace Go.Proofs.YtnmnnokdoiagkaaDoor.flowReaches
open Go.RowKit Go.Shelf
open words kindp opp op prg flowp kind flow

set_option maxRecDepth 100000 in
set_option maxHeartbeats 8000000 in
theorem walk (A : Option Addr) (c : Nat) (L0 : List InM) (w : World) (hz : L0.length ≤ 281474976710656) (hc : L0.length ≤ c) (hr : Rd w A (L0.flatMap inC)) (hs : Sh w) (hm : Mx w) :
  Calls Tryd.prog 4 #[.slice A L0.length c] w fun e w' => e = .returned (.bool true) ∧ Below w.heap.size w w' := by
 have HFW := Lib.hid (few_w A c L0 w hz hc hr)
 obtain ⟨L, hL⟩ : ∃ L, L = L0.take 40 := ⟨_, rfl⟩
 have hl40 : L.length ≤ 40 := by rw [hL, List.length_take]; omega
 rw [← hL] at HFW
 have HLE := Lib.hid hl40
 have HS := Lib.hid hs; have HM := Lib.hid hm
 clear hz hc hr hs hm hL
 obtain ⟨n, hn⟩ : ∃ n, n = L.length := ⟨_, rfl⟩
 have HN := Lib.hid hn
 rw [← hn] at HFW
 clear hn hl40
 go_enter Tryd.func4, Tryd.ntmps4
 go_wp2_with fail
 refine HFW.out.mono ?_
 rintro e w1 ⟨A', rfl, hr, hw1⟩; subst w1
 have HR := Lib.hid hr
 have HDW := Lib.hid (fun w h1 h2 => dist_w A' c L w (by have := HLE.out; omega) h1 h2)
 have HDR := Lib.hid (fun w h1 => dist_r A' c L w (by have := HLE.out; omega) h1)
 have HEW := Lib.hid (fun w h1 h2 => dead_w A' c L w (by have := HLE.out; omega) h1 h2)
 have HER := Lib.hid (fun w h1 => dead_r A' c L w (by have := HLE.out; omega) h1)
 have HBW := Lib.hid (fun w h1 h2 => blocks_w A' c L w (by have := HLE.out; omega) h1 h2)
 have HBR := Lib.hid (fun w h1 => blocks_r A' c L w (by have := HLE.out; omega) h1)
 unfold DistP at HDW HDR
 unfold DeadP at HEW HER
 unfold BlP at HBW HBR
 rw [← HN.out] at HDW HDR HEW HER HBW HBR
 obtain ⟨l, hl⟩ : ∃ l, l = L.map (·.i) := ⟨_, rfl⟩
 have HLL := Lib.hid (show l.length = n from by rw [hl, List.length_map, ← HN.out])
 rw [← hl] at HDW HDR HEW HER HBW HBR
 have hn40 : (n : Int) ≤ 40 := by have := HLE.out; have := HN.out; omega
 obtain ⟨Y, hY⟩ : ∃ Y, Y = blocksL l := ⟨_, rfl⟩
 have HYL := Lib.hid (show Y.length ≤ 281474976710656 from by
  rw [hY, blocks_eq]
  have h1 := selL_len l.length (beginB l)
  have := HLL.out
  omega)
 rw [← hY] at HBW HBR
 have HI := Lib.hid (fun A C c d l w h1 h2 hn => ints_same A C (List.length l) c d l w h1 h2 rfl hn)
 clear hr hl hY HFW
 go_wp2_with fail
 refine (live14 _ HS.out HM.out).mono ?_
 rintro e w1 ⟨rfl, k⟩
 have K1 := Lib.hid k
 clear k
 go_wp2_with fail
 refine (HDW.out _ (HR.out.below K1.out) (HS.out.below K1.out)).mono ?_
 rintro e w2 ⟨D, A2, c2, hD, rfl, r, k⟩
 have R2 := Lib.hid r
 have HD := Lib.hid hD
 have HDL := Lib.hid (show D.length ≤ 281474976710656 from by rw [hD.len, HLL.out]; omega)
 have hDn : l.length = D.length := hD.len.symm
 have K2 := Lib.hid (K1.out.trans (k.mono K1.out.size))
 clear r k K1 hD HDW
 go_wp2_with fail
 refine (HDR.out _ (HR.out.below K2.out)).mono ?_
 rintro e w3 ⟨E, A3, c3, hE, rfl, r, k⟩
 obtain rfl : D = E := dist_unique HD.out hE
 have R3 := Lib.hid r
 have R4 := Lib.hid (R2.out.below k)
 have K3 := Lib.hid (K2.out.trans (k.mono K2.out.size))
 clear r k K2 hE HDR
 rw [hDn]
 clear hDn
 go_wp2_with fail
 refine (HI.out _ _ _ _ _ _ R4.out R3.out HDL.out).mono ?_
 rintro e w4 ⟨rfl, q4, hq⟩
 have K4 := Lib.hid (show Below w.heap.size w w4 from by rw [hq]; exact over K3.out)
 clear hq K3 R2 R3 R4
 go_wp2_with fail
 refine (HEW.out _ (HR.out.below K4.out) (HS.out.below K4.out)).mono ?_
 rintro e w5 ⟨E, hE, A5, c5, rfl, r, k⟩
 obtain rfl : D = E := dist_unique HD.out hE
 obtain ⟨X, hX⟩ : ∃ X, X = deadL D := ⟨_, rfl⟩
 have HXL := Lib.hid (show X.length ≤ 281474976710656 from by
  rw [hX]
  unfold deadL
  have h1 := selL_len D.length fun i => decide (dl D i = -1)
  have := HDL.out
  omega)
 rw [← hX] at r ⊢
 have HX := Lib.hid hX
 have R5 := Lib.hid r
 have K5 := Lib.hid (K4.out.trans (k.mono K4.out.size))
 clear r k K4 hX hE HEW
 go_wp2_with fail
 refine (HER.out _ (HR.out.below K5.out)).mono ?_
 rintro e w6 ⟨E, hE, A6, c6, rfl, r, k⟩
 obtain rfl : D = E := dist_unique HD.out hE
 rw [← HX.out] at r ⊢
 have R6 := Lib.hid r
 have R7 := Lib.hid (R5.out.below k)
 have K6 := Lib.hid (K5.out.trans (k.mono K5.out.size))
 clear r k K5 hE HER
 go_wp2_with fail
 refine (HI.out _ _ _ _ _ _ R7.out R6.out HXL.out).mono ?_
 rintro e w7 ⟨rfl, q7, hq⟩
 have K7 := Lib.hid (show Below w.heap.size w w7 from by rw [hq]; exact over K6.out)
 clear hq K6 R5 R6 R7
 go_wp2_with fail
 refine (HBW.out _ (HR.out.below K7.out) (HS.out.below K7.out)).mono ?_
 rintro e w8 ⟨A8, c8, rfl, r, k⟩
 have R8 := Lib.hid r
 have K8 := Lib.hid (K7.out.trans (k.mono K7.out.size))
 clear r k K7 HBW
 go_wp2_with fail
 refine (HBR.out _ (HR.out.below K8.out)).mono ?_
 rintro e w9 ⟨A9, c9, rfl, r, k⟩
 have R9 := Lib.hid r
 have R10 := Lib.hid (R8.out.below k)
 have K9 := Lib.hid (K8.out.trans (k.mono K8.out.size))
 clear r k K8 HBR
 go_wp2_with fail
 refine (HI.out _ _ _ _ _ _ R10.out R9.out HYL.out).mono ?_
 rintro e w10 ⟨rfl, q10, hq⟩
 have K10 := Lib.hid (show Below w.heap.size w w10 from by rw [hq]; exact over K9.out)
 clear hq K9 R8 R9 R10
 go_wp2
 go_ret
 exact ⟨rfl, K10.out⟩
end Go.Proofs.YtnmnnokdoiagkaaDoor.flowReaches

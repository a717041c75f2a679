/-
 Layer 14: where any code goes on, and comes from; what is wrong with it first: the walk.
-/
import Derived.Test.YtnmnnokdoiagkaaDoorFlowRc
namespace Go.Proofs.YtnmnnokdoiagkaaDoor.flowGoes
open Go.RowKit Go.Shelf
open words kindp opp op prg flowp kind flow

set_option maxRecDepth 100000 in
set_option maxHeartbeats 8000000 in
theorem walk (A : Option Addr) (c : Nat) (L0 : List InM) (z : Int) (w : World) (hz : L0.length ≤ 281474976710656) (hc : L0.length ≤ c) (hr : Rd w A (L0.flatMap inC)) (_b1 : -9223372036854775808 ≤ z) (_b2 : z ≤ 9223372036854775807) (hs : Sh w) (hm : Mx w) :
  Calls Tryd.prog 3 #[.slice A L0.length c, .int .i64 z] w fun e w' => e = .returned (.bool true) ∧ Below w.heap.size w w' := by
 have HFW := Lib.hid (few_w A c L0 w hz hc hr)
 obtain ⟨L, hL⟩ : ∃ L, L = L0.take 40 := ⟨_, rfl⟩
 have hl40 : L.length ≤ 40 := by rw [hL, List.length_take]; omega
 rw [← hL] at HFW
 have HLE := Lib.hid hl40
 have HS := Lib.hid hs; have HM := Lib.hid hm
 clear hz hc hr hs hm hL
 obtain ⟨n, hn⟩ : ∃ n, n = L.length := ⟨_, rfl⟩
 have HN := Lib.hid hn
 rw [← hn] at HFW
 clear hn hl40
 go_enter Tryd.func3, Tryd.ntmps3
 go_wp2_with fail
 refine HFW.out.mono ?_
 rintro e w1 ⟨A', rfl, hr, hw1⟩; subst w1
 have HR := Lib.hid hr
 have HCK := Lib.hid (fun w h1 h2 h3 => check_w A' c L w (by have := HLE.out; omega) h1 h2 h3)
 have HCR := Lib.hid (fun w h1 => check_r A' c L w (by have := HLE.out; omega) h1)
 have HNW := Lib.hid (fun w h1 h2 => next_w A' c L z w (by have := HLE.out; omega) h1 h2)
 have HNR := Lib.hid (fun w h1 => next_r A' c L z w (by have := HLE.out; omega) h1)
 have HBW := Lib.hid (fun w h1 h2 => back_w A' c L z w (by have := HLE.out; omega) h1 h2)
 have HBR := Lib.hid (fun w h1 => back_r A' c L z w (by have := HLE.out; omega) h1)
 unfold NwI at HNR HBR
 rw [← HN.out] at HCK HCR HNW HNR HBW HBR
 obtain ⟨⟨E, y⟩, hE⟩ : ∃ E, E = checkE (L.map (·.i)) := ⟨_, rfl⟩
 rw [← hE] at HCK HCR
 dsimp only at HCK HCR
 obtain ⟨X, hX⟩ : ∃ X, X = nextL (L.map (·.i)) z := ⟨_, rfl⟩
 have HXL := Lib.hid (show X.length ≤ 281474976710656 from by
  rw [hX]
  have h1 := onL_len (L.map (·.i)) z
  have h2 := ordL_len (onL (L.map (·.i)) z)
  unfold nextL
  omega)
 obtain ⟨Y, hY⟩ : ∃ Y, Y = comeL (L.map (·.i)) z := ⟨_, rfl⟩
 have HYL := Lib.hid (show Y.length ≤ 281474976710656 from by
  rw [hY]
  unfold comeL
  have h1 := selL_len (L.map (·.i)).length fun k => (onL (L.map (·.i)) (k : Int)).contains z
  rw [List.length_map] at h1 ⊢
  have := HLE.out
  omega)
 rw [← hX] at HNW HNR
 rw [← hY] at HBW HBR
 have HI := Lib.hid (fun A C c d l w h1 h2 hn => ints_same A C (List.length l) c d l w h1 h2 rfl hn)
 clear hr hE hX hY HFW
 go_wp2_with fail
 refine (HCK.out _ HR.out HS.out HM.out).mono ?_
 rintro e w2 ⟨rfl, k⟩
 have K2 := Lib.hid k
 clear k HCK
 go_wp2_with fail
 refine (HCR.out _ (HR.out.below K2.out)).mono ?_
 rintro e w3 ⟨rfl, hw⟩; subst w3
 clear HCR
 go_wp2_with fail
 refine (live14 _ (HS.out.below K2.out) (HM.out.below K2.out)).mono ?_
 rintro e w3 ⟨rfl, k⟩
 have K3 := Lib.hid (K2.out.trans (k.mono K2.out.size))
 clear k K2
 go_wp2_with fail
 refine (HNW.out _ (HR.out.below K3.out) (HS.out.below K3.out)).mono ?_
 rintro e w4 ⟨A4, c4, rfl, r, k⟩
 have R4 := Lib.hid r
 have K4 := Lib.hid (K3.out.trans (k.mono K3.out.size))
 clear r k K3 HNW
 go_wp2_with fail
 refine (HNR.out _ (HR.out.below K4.out)).mono ?_
 rintro e w5 ⟨A5, c5, rfl, r, k⟩
 have R5 := Lib.hid r
 have R6 := Lib.hid (R4.out.below k)
 have K5 := Lib.hid (K4.out.trans (k.mono K4.out.size))
 clear r k K4 HNR
 go_wp2_with fail
 refine (HI.out _ _ _ _ _ _ R6.out R5.out HXL.out).mono ?_
 rintro e w6 ⟨rfl, q6, hq⟩
 have K6 := Lib.hid (show Below w.heap.size w w6 from by rw [hq]; exact over K5.out)
 clear hq K5 R4 R5 R6
 go_wp2_with fail
 refine (HBW.out _ (HR.out.below K6.out) (HS.out.below K6.out)).mono ?_
 rintro e w7 ⟨A7, c7, rfl, r, k⟩
 have R7 := Lib.hid r
 have K7 := Lib.hid (K6.out.trans (k.mono K6.out.size))
 clear r k K6 HBW
 go_wp2_with fail
 refine (HBR.out _ (HR.out.below K7.out)).mono ?_
 rintro e w8 ⟨A8, c8, rfl, r, k⟩
 have R8 := Lib.hid r
 have R9 := Lib.hid (R7.out.below k)
 have K8 := Lib.hid (K7.out.trans (k.mono K7.out.size))
 clear r k K7 HBR
 go_wp2_with fail
 refine (HI.out _ _ _ _ _ _ R9.out R8.out HYL.out).mono ?_
 rintro e w9 ⟨rfl, q9, hq⟩
 have K9 := Lib.hid (show Below w.heap.size w w9 from by rw [hq]; exact over K8.out)
 clear hq K8 R7 R8 R9
 have hEE : (E == E) = true := beq_self_eq_true _
 have hyy : ((y : Int) == y) = true := beq_self_eq_true _
 go_wp2
 go_ret
 exact ⟨rfl, K9.out⟩
end Go.Proofs.YtnmnnokdoiagkaaDoor.flowGoes

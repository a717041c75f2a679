/-
  Layer 6: what must be whatever is asked.
-/
import Derived.Test.YtchhibicbgimcaaDoorKindG
namespace Go.Proofs.YtchhibicbgimcaaDoor.kind
open Go.RowKit
open Go.Proofs.YtchhibicbgimcaaDoor.words Go.Proofs.YtchhibicbgimcaaDoor.kindp Go.Proofs.YtchhibicbgimcaaDoor.word Go.Proofs.YtchhibicbgimcaaDoor.rdr

theorem live_split : splitT [40, 73, 91, 76, 97, 47, 66, 59, 41, 86] = ([(2, []), (5, [97, 47, 66])], (1, []), 0) := by decide +kernel
theorem live_parse : parseT [91, 86] = ((0, []), 1) := by decide +kernel
theorem live_desc : descT (4, []) [(2, [])] = ([40, 73, 41, 91, 73], 0) := by decide +kernel
theorem live_ren : renD [40, 76, 65, 59, 41, 73] [([65], [99])] = [40, 76, 99, 59, 41, 73] := by decide +kernel

set_option maxRecDepth 100000 in
set_option maxHeartbeats 4000000 in
theorem live_any (w : World) (hm : Mx w) (hv : Vd w) : Calls Tryd.prog 8 #[] w fun e w' => e = .returned (.bool true) ∧ Below w.heap.size w w' := by
  have hS := (fun w hm hv => split_k [40, 73, 91, 76, 97, 47, 66, 59, 41, 86] w (by decide) hm hv)
  unfold SplitW at hS
  rw [live_split] at hS
  have hP := (fun w hm => parse_w [91, 86] w (by decide) hm)
  unfold parseV twoV tyV at hP
  rw [live_parse] at hP
  have hD := (fun A c w hr hv => desc_w 4 [] A c [(2, [])] w (by decide) hr (by decide) (by decide) hv)
  unfold DescW at hD
  rw [live_desc] at hD
  have hR := (fun B bc w hr hm hv => renamed_w [40, 76, 65, 59, 41, 73] B bc [([65], [99])] w (by decide) hr (by decide) (by decide) hm hv)
  rw [live_ren] at hR
  have hI := (fun w => isref_w 5 [97, 47, 66] w)
  dsimp only at hS hP hD hR
  rw [show ([((2 : Int), ([] : Tx)), (5, [97, 47, 66])] : List Ty).length = 2 from rfl] at hS
  rw [show ([((2 : Int), ([] : Tx))] : List Ty).length = 1 from rfl] at hD
  rw [show ([(([65] : Tx), ([99] : Tx))] : List Pr).length = 1 from rfl] at hR
  have HS := Lib.hid hS; have HP := Lib.hid hP; have HD := Lib.hid hD; have HR := Lib.hid hR; have HI := Lib.hid hI; have HM := Lib.hid hm; have HV := Lib.hid hv
  clear hS hP hD hR hI hm hv
  go_enter Tryd.func8, Tryd.ntmps8
  go_wp2_with fail
  refine (HS.out _ HM.out HV.out).mono ?_
  rintro e w1 ⟨⟨A, cc, rfl, hown⟩, hb1⟩
  obtain ⟨g, rfl⟩ : ∃ g, A = some ⟨g, 0, none⟩ := by
    rcases hown.2 with ⟨h1, h2⟩ | ⟨g, cap, cur, h1, _⟩
    · omega
    · cases h1; exact ⟨_, rfl⟩
  have c2 : w1.cell? ⟨g, 2, none⟩ = some (.int .i64 5) := hown.cellAt 2 (by omega)
  have c3 : w1.cell? ⟨g, 3, none⟩ = some (.string ⟨#[97, 47, 66]⟩) := hown.cellAt 3 (by omega)
  have HB1 := Lib.hid (hb1.alloc hb1.size (.cells #[.int .i64 1, .string ⟨#[]⟩] 24))
  have hx1 : Below w1.heap.size w1 (w1.alloc (.cells #[.int .i64 1, .string ⟨#[]⟩] 24)) := (Below.refl _ _).alloc (Nat.le_refl _) _
  have HX1 := Lib.hid hx1
  have hnw := heap_alloc_new w1 (.cells #[.int .i64 1, .string ⟨#[]⟩] 24)
  have HN1 := Lib.hid hnw
  have HC2 := Lib.hid ((hx1.cell (World.block_lt_of_cell? _ _ c2)).trans c2); have HC3 := Lib.hid ((hx1.cell (World.block_lt_of_cell? _ _ c3)).trans c3)
  clear hown hb1 c2 c3 hx1 hnw
  go_wp2_with fail
  refine (HP.out _ (HM.out.below HB1.out)).mono ?_
  rintro e w2 ⟨rfl, hb2⟩
  have hb2y : Below w.heap.size w (w2.alloc (.cells #[.int .i64 0, .string ⟨#[]⟩] 24)) := (HB1.out.trans (hb2.mono HB1.out.size)).alloc (Nat.le_trans HB1.out.size hb2.size) _
  have hx2 : Below (w1.alloc (.cells #[.int .i64 1, .string ⟨#[]⟩] 24)).heap.size (w1.alloc (.cells #[.int .i64 1, .string ⟨#[]⟩] 24)) ((w2.alloc (.cells #[.int .i64 0, .string ⟨#[]⟩] 24)).alloc (.cells #[.int .i64 2, .string ⟨#[]⟩] 24)) := (hb2.alloc hb2.size _).alloc (Nat.le_trans hb2.size (by simp)) _
  have HX2 := Lib.hid hx2
  have HB2 := Lib.hid (HB1.out.trans (hx2.mono HB1.out.size))
  have HRD := Lib.hid (new_rdg (W := w2.alloc (.cells #[.int .i64 0, .string ⟨#[]⟩] 24)) (w2.heap.size + 1) #[.int .i64 2, .string ⟨#[]⟩] 24 2 (by simp) (TL [(2, [])]) rfl)
  clear hb2 hb2y hx2
  go_wp2_with fail
  refine (HD.out _ 1 _ HRD.out (HV.out.below HB2.out)).mono ?_
  rintro e w3 ⟨rfl, hb3⟩
  have hx3 := HX2.out.trans (hb3.mono HX2.out.size)
  have d2 := (hx3.cell (World.block_lt_of_cell? _ _ HC2.out)).trans HC2.out
  have d3 := (hx3.cell (World.block_lt_of_cell? _ _ HC3.out)).trans HC3.out
  have hn3 := (hx3.block _ (blk_lt HN1.out)).trans HN1.out
  have r0 : w3.cell? ⟨w1.heap.size, 0, none⟩ = some (.int .i64 1) := cell_of_row _ _ _ _ _ _ hn3
  have HB3 := Lib.hid (HB2.out.trans (hb3.mono HB2.out.size))
  have HB4 := Lib.hid (HB3.out.alloc HB3.out.size (.cells #[.string ⟨#[65]⟩, .string ⟨#[99]⟩] 51))
  have HRP := Lib.hid (rd_blk (xs := PL [([65], [99])]) (heap_alloc_new w3 (.cells #[.string ⟨#[65]⟩, .string ⟨#[99]⟩] 51)) (k := 2) rfl)
  have hx4 : Below w3.heap.size w3 (w3.alloc (.cells #[.string ⟨#[65]⟩, .string ⟨#[99]⟩] 51)) := (Below.refl _ _).alloc (Nat.le_refl _) _
  have HX4 := Lib.hid hx4
  have HD2 := Lib.hid d2; have HD3 := Lib.hid d3
  clear hb3 hx3 hn3 hx4
  go_wp2_with fail
  refine (HR.out _ 1 _ HRP.out (HM.out.below HB4.out) (HV.out.below HB4.out)).mono ?_
  rintro e w5 ⟨rfl, hb5⟩
  have hx5 := HX4.out.trans (hb5.mono HX4.out.size)
  have e2 := (hx5.cell (World.block_lt_of_cell? _ _ HD2.out)).trans HD2.out
  have e3 := (hx5.cell (World.block_lt_of_cell? _ _ HD3.out)).trans HD3.out
  have HB5 := Lib.hid (HB4.out.trans (hb5.mono HB4.out.size))
  clear hb5 hx5 d2 d3
  go_wp2_with fail
  refine (HI.out _).mono ?_
  rintro e w6 ⟨rfl, hb6⟩
  have HB6 := Lib.hid (HB5.out.trans (hb6.mono HB5.out.size))
  clear hb6
  go_wp2
  go_ret
  exact ⟨rfl, HB6.out⟩
end Go.Proofs.YtchhibicbgimcaaDoor.kind

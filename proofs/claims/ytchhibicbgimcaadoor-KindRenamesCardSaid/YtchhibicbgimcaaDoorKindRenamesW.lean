/-
  The walk of KindRenames: types, and descriptors, with other classes' names, as the document's answers are.
-/
import Derived.Test.YtchhibicbgimcaaDoorLive6
import Derived.Test.YtchhibicbgimcaaDoorRef
import Derived.Deep.RegionHeld3
namespace Go.Proofs.YtchhibicbgimcaaDoor.kindRenames
open Go.RowKit
open Go.Proofs.YtchhibicbgimcaaDoor.words Go.Proofs.YtchhibicbgimcaaDoor.kindp Go.Proofs.YtchhibicbgimcaaDoor.word Go.Proofs.YtchhibicbgimcaaDoor.rdr Go.Proofs.YtchhibicbgimcaaDoor.kind

set_option maxRecDepth 100000 in
set_option maxHeartbeats 4000000 in
theorem walk0 (k : Int) (c : Tx) (s : ByteArray) (B : Option Addr) (bc : Nat) (l : List Pr) (w : World) (hs : s.size ≤ 140737488351232) (hl : l.length ≤ 281474976710656) (hz : ∀ q ∈ l, q.2.length ≤ 281474976710656) (hr : Rd w B (PL l)) (hm : Mx w) (hv : Vd w) :
    Calls Tryd.prog 6 #[.agg #[.int .i64 k, .string ⟨c.toArray⟩], .string s, .slice B l.length bc] w fun e w' => e = .returned (.bool true) ∧ Below w.heap.size w w' := by
  have hal : Below w.heap.size w (w.alloc (.cells #[.int .i64 k, .string ⟨c.toArray⟩] 24)) := (Below.refl _ _).alloc (Nat.le_refl _) _
  have HAL := Lib.hid hal
  have HNW := Lib.hid (heap_alloc_new w (.cells #[.int .i64 k, .string ⟨c.toArray⟩] 24))
  have HM := Lib.hid hm; have HV := Lib.hid hv; have HR := Lib.hid hr
  have HLV := Lib.hid (fun w hm hv => live_any w hm hv)
  have hsI : (s.size : Int) ≤ 140737488351232 := by omega
  have hlI : (l.length : Int) ≤ 281474976710656 := by omega
  by_cases h2 : 60 < l.length
  · have hI : (60 : Int) < (l.length : Int) := by omega
    clear hs hm hv hr hz hl hal h2
    go_enter Tryd.func6, Tryd.ntmps6
    go_wp2_with fail
    refine (HLV.out _ (HM.out.below HAL.out) (HV.out.below HAL.out)).mono ?_
    rintro e w1 ⟨rfl, hb1⟩
    have HB := Lib.hid (HAL.out.trans (hb1.mono (by simp)))
    clear hb1
    go_wp2
    go_ret
    exact ⟨rfl, HB.out⟩
  have hI : ¬ (60 : Int) < (l.length : Int) := by omega
  by_cases h3 : 2000 < s.size
  · have hI2 : (2000 : Int) < (s.size : Int) := by omega
    clear hs hm hv hr hz hl hal h2 h3
    go_enter Tryd.func6, Tryd.ntmps6
    go_wp2_with fail
    refine (HLV.out _ (HM.out.below HAL.out) (HV.out.below HAL.out)).mono ?_
    rintro e w1 ⟨rfl, hb1⟩
    have HB := Lib.hid (HAL.out.trans (hb1.mono (by simp)))
    clear hb1
    go_wp2
    go_ret
    exact ⟨rfl, HB.out⟩
  have hI2 : ¬ (2000 : Int) < (s.size : Int) := by omega
  have hD1 := (fun w hr hm hv => renamed_w s.data.toList B bc l w (by rw [size_data]; omega) hr hl hz hm hv)
  have hD2 := (fun w hr => renamed_r s B bc l w (by omega) hr hl hz)
  rw [data_mk] at hD1
  have hN1 := (fun w hr => ren_w k c B bc l w hr hl)
  have hN2 := (fun w hr => ren_r k c B bc l w hr hl)
  unfold RenW at hN1 hN2
  obtain ⟨⟨k4, c4⟩, h4⟩ : ∃ x, x = renT l (k, c) := ⟨_, rfl⟩
  rw [← h4] at hN1 hN2
  dsimp only at hN1 hN2
  generalize renD s.data.toList l = T at *
  have e3 : (T == T) = true := by simp
  have e4 : (k4 == k4) = true := by simp
  have e5 : (c4 == c4) = true := by simp
  have HD1 := Lib.hid hD1; have HD2 := Lib.hid hD2; have HN1 := Lib.hid hN1; have HN2 := Lib.hid hN2
  have hT3 := HNW.out
  have HMW := Lib.hid (HM.out.below HAL.out); have HVW := Lib.hid (HV.out.below HAL.out); have HRW := Lib.hid (HR.out.below HAL.out)
  have HB3 := HAL
  clear hD1 hD2 hN1 hN2 h4 hs hm hv hr hz hl hal h2 h3 HNW HAL
  obtain ⟨n, hn⟩ : ∃ n, n = l.length := ⟨_, rfl⟩
  rw [← hn] at HD1 HD2 HN1 HN2 hlI hI ⊢
  clear hn
  go_enter Tryd.func6, Tryd.ntmps6
  go_wp2_with fail
  generalize w.alloc (.cells #[.int .i64 k, .string ⟨c.toArray⟩] 24) = W at *
  have a0 : W.cell? ⟨w.heap.size, 0, none⟩ = some (.int .i64 k) := cell_of_row _ _ _ _ _ _ hT3
  have a1 : W.cell? ⟨w.heap.size, 1, none⟩ = some (.string ⟨c.toArray⟩) := cell_of_row _ _ _ _ _ _ hT3
  have A0H := Lib.hid a0; have A1H := Lib.hid a1
  have hlT := blk_lt hT3
  clear hT3
  go_region_held3 (fun w' => w'.cell? ⟨w.heap.size, 0, none⟩ = some (.int .i64 k) ∧ w'.cell? ⟨w.heap.size, 1, none⟩ = some (.string ⟨c.toArray⟩)) (go_keep)
    (first
      | (go_at_call 8; refine (HLV.out _ ?_ ?_).mono ?_; exact HMW.out; exact HVW.out; rintro e v1 ⟨rfl, hb1⟩; have k1 := under hb1; have a0x1 := (k1.cell (p := ⟨w.heap.size, 0, none⟩) hlT).trans (Hid.out A0H); have a1x1 := (k1.cell (p := ⟨w.heap.size, 1, none⟩) hlT).trans (Hid.out A1H); have K1 := Lib.hid k1; clear k1 hb1)
      | (go_at_call 27; refine (HN1.out _ ?_).mono ?_; exact (HRW.out.below K1.out); rintro e v2 ⟨rfl, hb2⟩; have k2 : Below W.heap.size W v2 := (by first | exact then' K1.out hb2 | exact then' K1.out (under hb2)); have a0x2 := (k2.cell (p := ⟨w.heap.size, 0, none⟩) hlT).trans (Hid.out A0H); have a1x2 := (k2.cell (p := ⟨w.heap.size, 1, none⟩) hlT).trans (Hid.out A1H); have K2 := Lib.hid k2; clear k2 hb2 a0x1 a1x1)
      | (go_at_call 28; refine (HN2.out _ ?_).mono ?_; exact (HRW.out.below K2.out); rintro e v3 ⟨rfl, hb3⟩; have k3 : Below W.heap.size W v3 := (by first | exact then' K2.out hb3 | exact then' K2.out (under hb3)); have a0x3 := (k3.cell (p := ⟨w.heap.size, 0, none⟩) hlT).trans (Hid.out A0H); have a1x3 := (k3.cell (p := ⟨w.heap.size, 1, none⟩) hlT).trans (Hid.out A1H); have K3 := Lib.hid k3; clear k3 hb3 a0x2 a1x2)
      | (go_at_call 29; refine (HD1.out _ ?_ ?_ ?_).mono ?_; exact (HRW.out.below K3.out); exact (HMW.out.below K3.out); exact (HVW.out.below K3.out); rintro e v4 ⟨rfl, hb4⟩; have k4 : Below W.heap.size W v4 := (by first | exact then' K3.out hb4 | exact then' K3.out (under hb4)); have a0x4 := (k4.cell (p := ⟨w.heap.size, 0, none⟩) hlT).trans (Hid.out A0H); have a1x4 := (k4.cell (p := ⟨w.heap.size, 1, none⟩) hlT).trans (Hid.out A1H); have K4 := Lib.hid k4; clear k4 hb4 a0x3 a1x3)
      | (go_at_call 30; refine (HD2.out _ ?_).mono ?_; exact (HRW.out.below K4.out); rintro e v5 ⟨rfl, hb5⟩; have k5 : Below W.heap.size W v5 := (by first | exact then' K4.out hb5 | exact then' K4.out (under hb5)); have a0x5 := (k5.cell (p := ⟨w.heap.size, 0, none⟩) hlT).trans (Hid.out A0H); have a1x5 := (k5.cell (p := ⟨w.heap.size, 1, none⟩) hlT).trans (Hid.out A1H); have K5 := Lib.hid k5; clear k5 hb5 a0x4 a1x4)
    )
  have HB9 := K5
  clear a0x5 a1x5
  go_wp2
  go_ret
  exact ⟨rfl, HB3.out.trans (HB9.out.mono HB3.out.size)⟩
theorem walk (k : Int) (c : Tx) (s : ByteArray) (B : Option Addr) (bc : Nat) (l : List Pr) (w : World) (_ : c.length ≤ 140737488351232) (hs : s.size ≤ 140737488351232) (hr : Rd w B (PL l)) (_ : l.length ≤ bc) (hl : l.length * 32 ≤ 140737488351232) (hz : ∀ q ∈ l, q.1.length ≤ 140737488351232 ∧ q.2.length ≤ 140737488351232) (hm : Mx w) (hv : Vd w) :
    Calls Tryd.prog 6 #[.agg #[.int .i64 k, .string ⟨c.toArray⟩], .string s, .slice B l.length bc] w fun e w' => e = .returned (.bool true) ∧ Below w.heap.size w w' :=
  walk0 k c s B bc l w hs (by omega) (fun q hq => by have := hz q hq; omega) hr hm hv
end Go.Proofs.YtchhibicbgimcaaDoor.kindRenames

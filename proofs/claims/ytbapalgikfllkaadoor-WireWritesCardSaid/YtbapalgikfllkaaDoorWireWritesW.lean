/-
  The walk of WireWrites: a text's bytes, and a section's, are those that the reference writes.
-/
import Derived.Test.YtbapalgikfllkaaDoorLive3
import Derived.Test.YtbapalgikfllkaaDoorSame
namespace Go.Proofs.YtbapalgikfllkaaDoor.wireWrites
open Go.RowKit
open Go.Proofs.YtbapalgikfllkaaDoor.num Go.Proofs.YtbapalgikfllkaaDoor.words Go.Proofs.YtbapalgikfllkaaDoor.rdnum Go.Proofs.YtbapalgikfllkaaDoor.rdr Go.Proofs.YtbapalgikfllkaaDoor.give Go.Proofs.YtbapalgikfllkaaDoor.meth Go.Proofs.YtbapalgikfllkaaDoor.sealing Go.Proofs.YtbapalgikfllkaaDoor.write

theorem textL_len (s : ByteArray) (hn : s.size ≤ 140737488351232) : (textL (N s)).length ≤ 140737488355328 := by
  unfold textL; rw [List.length_append, N_len]
  have := putL_len10 s.size (by omega)
  omega
theorem sectL_len (id : Nat) (l : List Nat) (hn : l.length ≤ 140737488351232) : (sectL id l).length ≤ 140737488355328 := by
  unfold sectL; rw [List.length_cons, List.length_append, sealL_len]
  have := putL_len10 l.length (by omega)
  omega

set_option maxRecDepth 100000 in
set_option maxHeartbeats 800000 in
theorem walk (s : ByteArray) (id : Int) (A : Option Addr) (n c : Nat) (l : List Nat) (w : World) (hs : s.size ≤ 140737488351232) (i0 : 0 ≤ id) (_i1 : id ≤ 255) (hr : Rd w A (B l)) (hl : l.length = n) (_hc : n ≤ c) (hby : ∀ x ∈ l, x < 256) (hreach : n * 1 ≤ 140737488351232) (tab : crc.Tab w) :
    Calls Tryd.prog 5 #[.string s, .int .u8 id, .slice A n c] w fun e w' => e = .returned (.bool true) ∧ Below w.heap.size w w' := by
  obtain ⟨id, rfl⟩ := Int.eq_ofNat_of_zero_le i0
  have HTab := Lib.hid tab; have HS := Lib.hid hs; have HL := Lib.hid hl; have HY := Lib.hid hby; have HRe := Lib.hid hreach; have HRd := Lib.hid hr
  clear tab hs hl hby hreach i0 hr
  go_enter Tryd.func5, Tryd.ntmps5
  go_wp2_with fail
  refine (live3.live_any w HTab.out).mono ?_
  rintro e w1 ⟨rfl, hb1⟩
  have HB1 := Lib.hid hb1
  clear hb1
  go_wp2_with fail
  refine (text_w s w1 HS.out).mono ?_
  rintro e w2 ⟨v2, rfl, hown2, hb2⟩
  have HB2 := Lib.hid (then_ HB1.out (Nat.le_refl _) hb2)
  obtain ⟨A2, c2, rfl, _, _, hrd2⟩ := own_rd hown2
  have HR2 := Lib.hid hrd2
  clear hown2 hb2 hrd2 HB1
  go_wp2_with fail
  refine (text_r s w2 HS.out).mono ?_
  rintro e w3 ⟨v3, rfl, hown3, hb3⟩
  have HB3 := Lib.hid (then_ HB2.out (Nat.le_refl _) hb3)
  obtain ⟨A3, c3, rfl, _, _, hrd3⟩ := own_rd hown3
  have HR3 := Lib.hid hrd3
  have HR23 := Lib.hid (HR2.out.below hb3)
  clear hown3 hb3 hrd3 HB2 HR2
  go_wp2_with fail
  refine (same.bytes_same A2 A3 (textL (N s)).length c2 c3 (textL (N s)) w3 HR23.out HR3.out rfl (by have := textL_len s HS.out; omega)).mono ?_
  rintro e w4 ⟨rfl, q4, rfl⟩
  clear HR3 HR23
  go_wp2_with fail
  refine (sect_w id A n c l (w3.drewN q4) ((HTab.out.below HB3.out).drewN q4) ((HRd.out.below HB3.out).drewN q4) HL.out (by have := HRe.out; omega) HY.out).mono ?_
  rintro e w5 ⟨v5, rfl, hown5, hb5⟩
  have HB5 := Lib.hid (then_ HB3.out (Nat.le_refl _) (under hb5))
  obtain ⟨A5, c5, rfl, _, _, hrd5⟩ := own_rd hown5
  have HR5 := Lib.hid hrd5
  clear hown5 hb5 hrd5 HB3
  go_wp2_with fail
  refine (sect_r id A n c l _ (HRd.out.below HB5.out) HL.out (by have := HRe.out; omega) HY.out).mono ?_
  rintro e w6 ⟨v6, rfl, hown6, hb6⟩
  have HB6 := Lib.hid (then_ HB5.out (Nat.le_refl _) hb6)
  obtain ⟨A6, c6, rfl, _, _, hrd6⟩ := own_rd hown6
  have HR6 := Lib.hid hrd6
  have HR56 := Lib.hid (HR5.out.below hb6)
  clear hown6 hb6 hrd6 HB5 HR5
  go_wp2_with fail
  refine (same.bytes_same A5 A6 (sectL id l).length c5 c6 (sectL id l) _ HR56.out HR6.out rfl (by have := sectL_len id l (by have := HRe.out; have := HL.out; omega); omega)).mono ?_
  rintro e w7 ⟨rfl, q7, rfl⟩
  go_wp2
  go_ret
  exact ⟨rfl, over HB6.out⟩
end Go.Proofs.YtbapalgikfllkaaDoor.wireWrites

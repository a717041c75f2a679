/-
  The walk of the law CrcSums: Sum, Add, Begin and End are the reference's.
-/
import Derived.Test.YtnadjcmfmbjnnaaDoorLive2
namespace Go.Proofs.YtnadjcmfmbjnnaaDoor.crcSums
open Go.RowKit
open Go.Proofs.YtnadjcmfmbjnnaaDoor.crcnum Go.Proofs.YtnadjcmfmbjnnaaDoor.words

set_option maxRecDepth 20000 in
set_option maxHeartbeats 800000 in
theorem walk (a : Int) (A : Option Addr) (n c : Nat) (l : List Nat) (w : World) (a1 : 0 ≤ a) (a2 : a ≤ 4294967295) (hr : Rd w A (B l)) (hl : l.length = n) (_ : n ≤ c) (hby : ∀ x ∈ l, x < 256)
    (hn : n * 1 ≤ 140737488351232) (ht : crc.Tab w) :
    Calls Tryd.prog 3 #[.int .u32 a, .slice A n c] w fun e w' => e = .returned (.bool true) ∧ Below w.heap.size w w' := by
  obtain ⟨s, rfl⟩ := Int.eq_ofNat_of_zero_le a1
  have hs : s < 4294967296 := by omega
  have S := fun w h1 h2 => crc.sum_any A n c l w h1 h2 hl (by omega) hby
  have RS := fun w h2 => crc.rsum_any A n c l w h2 hl (by omega) hby
  have D := fun w h1 h2 => crc.add_any s A n c l w h1 hs h2 hl (by omega) hby
  have RD := fun w h2 => crc.radd_any s A n c l w hs h2 hl (by omega) hby
  have D0 := fun w h1 h2 => crc.add_any 4294967295 A n c l w h1 (by omega) h2 hl (by omega) hby
  have E := fun w => crc.end_any s w hs
  have E0 := fun w => crc.end_any (addL 4294967295 l) w (addL_lt (by omega) l hby)
  have hneg := crc.unot hs
  have S := Lib.hid S; have RS := Lib.hid RS; have D := Lib.hid D; have RD := Lib.hid RD; have D0 := Lib.hid D0; have E := Lib.hid E; have E0 := Lib.hid E0
  clear hl hby hn hs
  go_enter Tryd.func3, Tryd.ntmps3
  go_wp2_with fail
  refine (live2.live_any _ ht).mono ?_
  rintro e w1 ⟨rfl, hb⟩
  have ht1 := ht.below hb
  have hr1 := hr.below hb
  clear ht hr
  go_wp2_with fail
  refine (S.out _ ht1 hr1).mono ?_
  rintro e w' ⟨rfl, rfl⟩
  go_wp2_with fail
  refine (RS.out _ hr1).mono ?_
  rintro e w' ⟨rfl, rfl⟩
  go_wp2_with fail
  refine (D.out _ ht1 hr1).mono ?_
  rintro e w' ⟨rfl, rfl⟩
  go_wp2_with fail
  refine (RD.out _ hr1).mono ?_
  rintro e w' ⟨rfl, rfl⟩
  go_wp2_with fail
  refine (E.out _).mono ?_
  rintro e w' ⟨rfl, rfl⟩
  go_wp2_with fail
  clear hneg a2
  have hbeg := crc.begin_any w1
  refine hbeg.mono ?_
  clear hbeg
  rintro e w' ⟨rfl, rfl⟩
  go_wp2_with fail
  refine (D0.out _ ht1 hr1).mono ?_
  rintro e w' ⟨rfl, rfl⟩
  go_wp2_with fail
  refine (E0.out _).mono ?_
  rintro e w' ⟨rfl, rfl⟩
  rw [show (neg (addL 4294967295 l)) = sumL l from rfl]
  go_wp2_with fail
  refine (S.out _ ht1 hr1).mono ?_
  rintro e w' ⟨rfl, rfl⟩
  go_wp2
  go_ret
  exact ⟨rfl, hb⟩
end Go.Proofs.YtnadjcmfmbjnnaaDoor.crcSums

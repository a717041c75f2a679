/-
 Layer 21: which texts a pattern matches: the program's answer.
-/
import Derived.Test.YtcaaljioennnnabDoorGlobC
namespace Go.Proofs.YtcaaljioennnnabDoor.glob
open Go.RowKit
open Go.Proofs.YtcaaljioennnnabDoor.words
set_option linter.all false
theorem int_eq {c d : UInt8} : (((c.toNat : Nat) : Int) == ((d.toNat : Nat) : Int)) = decide (c = d) := by
 rw [Bool.eq_iff_iff, beq_iff_eq, decide_eq_true_eq]
 constructor
 ·intro e; apply UInt8.toNat_inj.1; omega
 ·intro e; rw [e]
theorem ask_t {c : UInt8} (h : c = 63) : (((c.toNat : Nat) : Int) == 63) = true := by rw [h]; rfl
theorem ask_f {c : UInt8} (h : ¬ c = 63) : (((c.toNat : Nat) : Int) == 63) = false := by rw [show (63 : Int) = ((63 : Nat) : Int) from rfl, u8_eq (by omega)]; exact decide_eq_false h
set_option maxRecDepth 100000 in
set_option maxHeartbeats 8000000 in
theorem fit_w (c d : UInt8) (w : World) : Calls Tryd.prog 33 #[.int .u8 (c.toNat : Int), .int .u8 (d.toNat : Int)] w fun e w' => e = .returned (.bool (fitG c d)) ∧ w' = w := by
 by_cases h1 : c = 63
 ·have hq := ask_t h1
  have HE := Lib.hid (show fitG c d = true from by rw [h1]; rfl)
  clear h1
  go_enter Tryd.func33, Tryd.ntmps33
  go_wp2
  go_ret
  exact ⟨by rw [HE.out]; rfl, rfl⟩
 ·have hq := ask_f h1
  by_cases h2 : c = d
  ·have h3 : (((c.toNat : Nat) : Int) == ((d.toNat : Nat) : Int)) = true := by rw [int_eq]; exact decide_eq_true h2
   have HE := Lib.hid (show fitG c d = true from by rw [h2]; simp [fitG])
   obtain ⟨b, hb⟩ : ∃ b, b = (((c.toNat : Nat) : Int) == ((d.toNat : Nat) : Int)) := ⟨_, rfl⟩
   clear h1 h2 hb
   go_enter Tryd.func33, Tryd.ntmps33
   go_wp2
   go_ret
   exact ⟨by rw [HE.out]; first | rfl | (simp only [List.getD_cons_succ, List.getD_cons_zero]; rfl), rfl⟩
  ·have h3 : (((c.toNat : Nat) : Int) == ((d.toNat : Nat) : Int)) = false := by rw [int_eq]; exact decide_eq_false h2
   have HE := Lib.hid (show fitG c d = false from by simp [fitG, h1, h2])
   clear h1 h2
   go_enter Tryd.func33, Tryd.ntmps33
   go_wp2
   go_ret
   exact ⟨by rw [HE.out]; rfl, rfl⟩
set_option maxRecDepth 100000 in
set_option maxHeartbeats 8000000 in
theorem match_w (p s : ByteArray) (w : World) (hp : p.size ≤ 1000) (hs : s.size ≤ 1000) :
  Calls Tryd.prog 21 #[.string p, .string s] w fun e w' => e = .returned (.bool (mat (lb p) (lb s))) ∧ Below w.heap.size w w' := by
 have HL := Lib.hid (leads_w fitG 33 (fun _ _ => rfl) fit_w p s w hp hs)
 rw [mat_matF]
 go_enter Tryd.func21, Tryd.ntmps21
 go_wp2_with fail
 refine HL.out.mono ?_
 rintro e w1 ⟨rfl, hb⟩
 have HB := Lib.hid hb
 clear hb HL
 go_wp2
 go_ret
 exact ⟨rfl, HB.out⟩
end Go.Proofs.YtcaaljioennnnabDoor.glob

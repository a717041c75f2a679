/-
 Layer 22: rules that are the same: the document's Same.
-/
import Derived.Test.YtcaaljioennnnabDoorRulC
namespace Go.Proofs.YtcaaljioennnnabDoor.rul
open Go.RowKit
open Go.Proofs.YtcaaljioennnnabDoor.words Go.Proofs.YtcaaljioennnnabDoor.glob Go.Proofs.YtcaaljioennnnabDoor.texts Go.Proofs.YtcaaljioennnnabDoor.piece Go.Proofs.YtcaaljioennnnabDoor.word
set_option linter.all false
set_option maxRecDepth 100000 in
set_option maxHeartbeats 8000000 in
theorem same_r (A C : Option Addr) (n c d : Nat) (L : List Ru) (w : World) (h1 : Rd w A (L.flatMap ruC)) (h2 : Rd w C (L.flatMap ruC)) (hl : L.length = n) (hn : n ≤ 100000) :
  Calls Tryd.prog 17 #[.slice A n c, .slice C n d] w fun e w' => e = .returned (.bool true) ∧ Below w.heap.size w w' := by
 have hnI : (n : Int) ≤ 100000 := by omega
 have hnn : ((n : Int) != n) = false := by simp
 have H1 := Lib.hid h1; have H2 := Lib.hid h2; have HL := Lib.hid hl
 clear hn h1 h2 hl
 go_enter Tryd.func17, Tryd.ntmps17
 go_wp2
 go_loopw [5] (fun i wr => ∃ k : Nat, k ≤ n ∧ i = .int .i64 (k : Int) ∧ Below w.heap.size w wr) (fun i _ => n - (intOf i).toNat)
 case atStart => exact ⟨0, Nat.zero_le _, rfl, Below.refl _ _⟩
 case round =>
  obtain ⟨k, hk, rfl, hb⟩ := hrel
  have HB := Lib.hid hb
  by_cases hlt : k < n
  ·obtain ⟨x, hx⟩ : ∃ x, L[k]? = some x := ⟨L[k]'(by have := HL.out; omega), List.getElem?_eq_getElem _⟩
   have hltI : (k : Int) < (n : Int) := by omega
   obtain ⟨a, rfl, -, f0, f1, f2, f3, f4⟩ := ru_at (H1.out.below hb) hx
   obtain ⟨b, rfl, -, g0, g1, g2, g3, g4⟩ := ru_at (H2.out.below hb) hx
   clear hx hb
   go_wp2
   go_quiet (fail)
   go_wp2
   go_roundw
   case rel => exact ⟨k + 1, by omega, by go_num, over (q := nq) HB.out⟩
   case measure => simp [intOf]; omega
  ·have hltI : ¬ (k : Int) < (n : Int) := by omega
   go_wp2
   go_ret
   exact ⟨rfl, HB.out⟩
end Go.Proofs.YtcaaljioennnnabDoor.rul

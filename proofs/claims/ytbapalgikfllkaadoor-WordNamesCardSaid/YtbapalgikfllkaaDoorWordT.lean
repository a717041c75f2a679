/-
  Layer 4: the reference's answer to what stands on both sides of the last point is the program's.
-/
import Derived.Test.YtbapalgikfllkaaDoorWordS
namespace Go.Proofs.YtbapalgikfllkaaDoor.word
open Go.RowKit
open Go.Proofs.YtbapalgikfllkaaDoor.num Go.Proofs.YtbapalgikfllkaaDoor.words Go.Proofs.YtbapalgikfllkaaDoor.give Go.Proofs.YtbapalgikfllkaaDoor.write

set_option maxRecDepth 100000 in
set_option maxHeartbeats 1000000 in
theorem split_r (s : ByteArray) (w : World) (hs : s.size ≤ 281474976710656) :
    Calls Tryd.prog 34 #[.string s] w fun e w' => e = .returned (tripleV (splitB s)) ∧ ∃ q, w' = w.drewN q := by
  have hsI : (s.size : Int) ≤ 281474976710656 := by omega
  have HS := Lib.hid hs
  clear hs
  go_enter Tryd.func34, Tryd.ntmps34
  go_wp2
  go_loopw [5] (fun i wr => ∃ k : Nat, k ≤ s.size ∧ i = .int .i64 ((k : Int) - 1) ∧ wr = w ∧ Lib.lastIndexByte s 46 = Lib.lastIdx s 46 k) (fun i _ => (intOf i + 1).toNat)
  case atStart => exact ⟨s.size, Nat.le_refl _, rfl, rfl, rfl⟩
  case round =>
    obtain ⟨k, hk, rfl, rfl, hidx⟩ := hrel
    have HI := Lib.hid hidx
    clear hidx
    cases k with
    | zero =>
      have HB := Lib.hid (splitB_none (s := s) HI.out)
      clear HI
      go_wp2
      go_ret3
      rw [HB.out]
      exact ⟨rfl, 0, rfl⟩
    | succ k =>
      have e1 : (((k + 1 : Nat) : Int) - 1) = (k : Int) := by omega
      rw [e1]
      have hk0 : (0 : Int) ≤ (k : Int) := by omega
      have hkI : (k : Int) < (s.size : Int) := by omega
      have hkL : (k : Int) ≤ (s.size : Int) := by omega
      have hkJ : (k : Int) + 1 ≤ (s.size : Int) := by omega
      have hkn : k < s.size := by omega
      have hbb := Go.Proofs.LastIndex.byteBang s k hkn
      by_cases hc : (s[k]'hkn).toNat = 46
      · have hat : Lib.lastIndexByte s 46 = (k : Int) := HI.out.trans (Lib.lastIdx_hit s 46 k (by rw [hbb, hc]; rfl))
        have HP := Lib.hid ((splitB_at hat).trans (show partsB s k = if namedB classB (s.extract 0 k) && nameB (s.extract (k + 1) s.size) then (s.extract 0 k, s.extract (k + 1) s.size, true) else (⟨#[]⟩, ⟨#[]⟩, false) from rfl))
        have HC := Lib.hid (fun w => class_r (s.extract 0 k) w (by have := HS.out; rw [ByteArray.size_extract]; omega))
        have HN := Lib.hid (fun w => name_r (s.extract (k + 1) s.size) w (by have := HS.out; rw [ByteArray.size_extract]; omega))
        have hcI : ((s[k]'hkn).toNat : Int) = 46 := by omega
        clear hat hbb hc HI HS e1
        generalize namedB classB (s.extract 0 k) = c1 at *
        generalize nameB (s.extract (k + 1) s.size) = c2 at *
        cases c1
        · rw [Bool.false_and, if_neg (by simp)] at HP
          go_wp2_with fail
          refine (HC.out _).mono ?_
          rintro e w' ⟨rfl, rfl⟩
          clear HC HN
          go_wp2
          go_ret3
          rw [HP.out]
          exact ⟨rfl, 0, rfl⟩
        · cases c2
          · rw [Bool.and_false, if_neg (by simp)] at HP
            go_wp2_with fail
            refine (HC.out _).mono ?_
            rintro e w' ⟨rfl, rfl⟩
            go_wp2_with fail
            refine (HN.out _).mono ?_
            rintro e w' ⟨rfl, rfl⟩
            clear HC HN
            go_wp2
            go_ret3
            rw [HP.out]
            exact ⟨rfl, 0, rfl⟩
          · rw [Bool.and_true, if_pos rfl] at HP
            go_wp2_with fail
            refine (HC.out _).mono ?_
            rintro e w' ⟨rfl, rfl⟩
            go_wp2_with fail
            refine (HN.out _).mono ?_
            rintro e w' ⟨rfl, rfl⟩
            clear HC HN
            go_wp2
            go_quiet (fail)
            go_wp2
            go_ret3
            rw [HP.out]
            exact ⟨rfl, _, rfl⟩
      · have HI2 := Lib.hid (HI.out.trans (Lib.lastIdx_miss s 46 k (by rw [hbb]; omega)))
        have hcI : ¬ ((s[k]'hkn).toNat : Int) = 46 := by omega
        have hcB : (((s[k]'hkn).toNat : Int) == 46) = false := by simpa using hcI
        clear hbb hc HI HS e1
        go_wp2
        go_roundw
        case rel => exact ⟨k, by omega, by first | rfl | go_num, by first | rfl | trivial, HI2.out⟩
        case measure => simp [intOf]
end Go.Proofs.YtbapalgikfllkaaDoor.word

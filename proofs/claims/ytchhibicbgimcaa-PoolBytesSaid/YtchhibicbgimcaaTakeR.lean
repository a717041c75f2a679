/-
  What the reference's Take answers: what takeAt says, as leb.Take.
-/
import Derived.Test.YtchhibicbgimcaaTake
namespace Go.Proofs.Ytchhibicbgimcaa.take
open Go.RowKit
open Go.Proofs.Ytchhibicbgimcaa.num Go.Proofs.Ytchhibicbgimcaa.words

theorem ref_step (y d j : Nat) (hy : y < 128 ^ j) (h : y + d % 128 * 128 ^ j < 18446744073709551616) :
    bits .or .u64 (y : Int) (IntKind.u64.wrap ((d : Int) % 128 * 2 ^ (7 * j))) = ((y + d % 128 * 128 ^ j : Nat) : Int) := by
  rw [← or_step y (d % 128) j hy h]
  rfl
set_option maxRecDepth 100000 in
set_option maxHeartbeats 800000 in
theorem ref_in (A : Option Addr) (n c : Nat) (l : List Nat) (k : Nat) (w : World) (hr : Rd w A (B l)) (hl : l.length = n) (hn : n ≤ 140737488355328) (hby : ∀ x ∈ l, x < 256) (hk : k ≤ n) :
    Calls Try.prog 53 #[.slice A n c, .int .i64 (k : Int)] w fun e w' => Out l k e ∧ w = w' := by
  have hrd : Rd w (A.map (·.add k)) (B (l.drop k)) := by
    rw [← B_drop]
    exact hr.drop k
  have hk9 : (k : Int) ≤ 140737488355328 := by omega
  have b1 : decide ((k : Int) < 0) = false := by simp
  have b2 : decide (n < k) = false := by simp; omega
  clear hn
  have hlen : (l.drop k).length = n - k := by rw [List.length_drop, hl]
  go_enter Try.func53, Try.ntmps53
  go_wp2
  generalize hL : l.drop k = L at hrd hlen
  go_loop [7, 8] (fun x i => ∃ y j : Nat, j ≤ 9 ∧ j ≤ n - k ∧ y < 128 ^ j ∧ takeGo 0 0 L = takeGo j y (L.drop j) ∧ x = .int .u64 (y : Int) ∧ i = .int .i64 (j : Int)) (fun _ i => 10 - (intOf i).toNat)
  case atStart => exact ⟨0, 0, by omega, by omega, by simp, by simp, rfl, rfl⟩
  case round =>
    obtain ⟨y, j, hj, hjn, hy, ht, rfl, rfl⟩ := hrel
    have HT := Lib.hid ht; clear ht
    have HL := Lib.hid hL; clear hL
    have HY := Lib.hid hy; clear hy
    by_cases hlt : j < n - k
    · obtain ⟨d, hd, hdj⟩ := drop_at (l := L) (k := j) (by omega)
      obtain ⟨a, rfl, _, hcell⟩ := hr.at_ (B_at (l := l) (j := k + j) (c := d) (by rw [← HL.out, List.getElem?_drop] at hdj; exact hdj))
      have hdb : d < 256 := hby d (by rw [← HL.out] at hdj; exact List.mem_of_mem_drop (List.mem_of_getElem? hdj))
      have HD := Lib.hid hd; clear hd
      clear hdj
      have hlt2 : (k : Int) + j < n := by omega
      clear hrd
      by_cases h9 : j ≤ 8
      · by_cases h128 : 128 ≤ d
        · have hs := ref_step y d j HY.out (fits y d j HY.out hj (.inl h9))
          have HS := Lib.hid hs; clear hs
          go_wp2
          go_round
          case rel =>
            refine ⟨y + d % 128 * 128 ^ j, j + 1, by omega, by omega, ?_, ?_, by rw [HS.out], by go_num⟩
            · have := HY.out
              have hp : d % 128 * 128 ^ j ≤ 127 * 128 ^ j := Nat.mul_le_mul_right _ (by omega)
              rw [Nat.pow_succ]; omega
            · rw [HT.out, HD.out, go_more _ (by omega) h128]
          case measure => simp [intOf]; omega
        · by_cases h0 : d = 0
          · have h0' : d < 1 := by omega
            by_cases hj0 : 0 < j
            · clear h0
              go_wp2
              go_ret3
              exact ⟨out_of (fin (by omega) HL.out HT.out HD.out (go_nought _ (by omega) hj0)) rfl (by simp) rfl, rfl⟩
            · have hj1 : j < 1 := by omega
              have hs := ref_step y d j HY.out (fits y d j HY.out hj (.inl h9))
              rw [show ((d : Nat) : Int) = 0 by omega, Int.zero_emod, Int.zero_mul] at hs
              have HS := Lib.hid hs; clear hs
              clear h0 hj0
              go_wp2
              go_ret3
              exact ⟨out_of (fin (by omega) HL.out HT.out HD.out (go_last _ (by omega) (by omega) (by omega))) HS.out (by simp; omega) rfl, rfl⟩
          · have hs := ref_step y d j HY.out (fits y d j HY.out hj (.inl h9))
            have HS := Lib.hid hs; clear hs
            have hd0 : 0 < d := by omega
            clear h0
            go_wp2
            go_ret3
            exact ⟨out_of (fin (by omega) HL.out HT.out HD.out (go_last _ (by omega) (by omega) (by omega))) HS.out (by simp; omega) rfl, rfl⟩
      · by_cases h1 : 1 < d
        · go_wp2
          go_ret3
          exact ⟨out_of (fin (by omega) HL.out HT.out HD.out (go_big _ ⟨by omega, h1⟩)) rfl (by simp) rfl, rfl⟩
        · by_cases h0 : d = 0
          · have h0' : d < 1 := by omega
            have hj0 : 0 < j := by omega
            clear h0
            go_wp2
            go_ret3
            exact ⟨out_of (fin (by omega) HL.out HT.out HD.out (go_nought _ (by omega) hj0)) rfl (by simp) rfl, rfl⟩
          · have hs := ref_step y d j HY.out (fits y d j HY.out hj (.inr (by omega)))
            rw [pow9 (by omega), show IntKind.u64.wrap ((d : Int) % 128 * 9223372036854775808) = (d : Int) % 128 * 9223372036854775808 by rw [IntKind.wrap_u64]; omega] at hs
            have HS := Lib.hid hs; clear hs
            have hd0 : 0 < d := by omega
            clear h0
            go_wp2
            go_ret3
            exact ⟨out_of (fin (by omega) HL.out HT.out HD.out (go_last _ (by omega) (by omega) (by omega))) HS.out (by simp; omega) rfl, rfl⟩
    · have hlt2 : (n : Int) ≤ k + j := by omega
      go_wp2
      go_ret3
      exact ⟨out_of (fin_short (by omega) HL.out HT.out (List.drop_eq_nil_of_le (by omega))) rfl rfl rfl, rfl⟩

set_option maxRecDepth 100000 in
set_option maxHeartbeats 800000 in
theorem ref_any (A : Option Addr) (n c : Nat) (l : List Nat) (p : Int) (w : World) (hr : Rd w A (B l)) (hl : l.length = n) (hn : n ≤ 140737488355328) (hby : ∀ x ∈ l, x < 256) :
    Calls Try.prog 53 #[.slice A n c, .int .i64 p] w fun e w' => OutI l p e ∧ w = w' := by
  by_cases hp : p < 0
  · have ho := outside (l := l) (.inl hp)
    have HO := Lib.hid ho; clear ho hn hr hby
    go_enter Try.func53, Try.ntmps53
    go_wp2
    go_ret3
    exact ⟨HO.out, rfl⟩
  · obtain ⟨k, rfl⟩ := Int.eq_ofNat_of_zero_le (show 0 ≤ p by omega)
    by_cases hk : k ≤ n
    · exact ref_in A n c l k w hr hl hn hby hk
    · have ho := outside (l := l) (p := (k : Int)) (.inr (by omega))
      have HO := Lib.hid ho; clear ho hn hr hby
      have hk' : n < k := by omega
      clear hk
      go_enter Try.func53, Try.ntmps53
      go_wp2
      go_ret3
      exact ⟨HO.out, rfl⟩
end Go.Proofs.Ytchhibicbgimcaa.take

/-
  The walk of the law LebBytes: Put, Size and Take are the reference's.
-/
import Derived.Test.YtnadjcmfmbjnnaaLive
namespace Go.Proofs.Ytnadjcmfmbjnnaa.lebBytes
open Go.RowKit
open Go.Proofs.Ytnadjcmfmbjnnaa.num Go.Proofs.Ytnadjcmfmbjnnaa.words

set_option maxRecDepth 20000 in
set_option maxHeartbeats 800000 in
theorem walk (a : Int) (A : Option Addr) (n c : Nat) (l : List Nat) (p : Int) (w : World) (a1 : 0 ≤ a) (a2 : a ≤ 18446744073709551615) (hr : Rd w A (B l)) (hl : l.length = n) (hc : n ≤ c) (hby : ∀ x ∈ l, x < 256)
    (hn : n * 1 ≤ 140737488351232) (_ : -9223372036854775808 ≤ p) (_ : p ≤ 9223372036854775807) :
    Calls Try.prog 3 #[.int .u64 a, .slice A n c, .int .i64 p] w fun e w' => e = .returned (.bool true) ∧ Below w.heap.size w w' := by
  obtain ⟨m, rfl⟩ := Int.eq_ofNat_of_zero_le a1
  have hm : m < 18446744073709551616 := by omega
  have h1 := take.take_any A n c l p
  have h2 := take.ref_any A n c l p
  have H1 := fun w hr => h1 w hr hl hc (by omega) hby
  have H2 := fun w hr => h2 w hr hl (by omega) hby
  have h10 := putL_len10 m hm
  obtain ⟨r, hrr⟩ : ∃ r, takeAt l p = r := ⟨_, rfl⟩
  have HR := Lib.hid hrr
  have K1 := Lib.hid H1
  have K2 := Lib.hid H2
  have HM := Lib.hid hm
  clear h1 h2 H1 H2 hl hby hn hm hrr
  go_enter Try.func3, Try.ntmps3
  go_wp2_with fail
  refine (K1.out _ hr).mono ?_
  rintro e w1 ⟨he, rfl⟩
  unfold take.OutI at he
  rw [HR.out] at he
  subst he
  go_wp2_with fail
  refine (K2.out _ hr).mono ?_
  rintro e w1 ⟨he, rfl⟩
  unfold take.OutI at he
  rw [HR.out] at he
  subst he
  go_wp2_with fail
  refine (live.live_any _).mono ?_
  rintro e w1 ⟨rfl, hb1⟩
  go_wp2_with fail
  refine (put.put_any m _ HM.out).mono ?_
  rintro e w2 ⟨v2, rfl, hown2, hb2⟩
  go_wp2_with fail
  refine (small.rput_any m _ HM.out).mono ?_
  rintro e w3 ⟨v3, rfl, hown3, hb3⟩
  obtain ⟨A2, c2, rfl, _, _, hrd2⟩ := own_rd (own_below hown2 hb3)
  obtain ⟨A3, c3, rfl, _, _, hrd3⟩ := own_rd hown3
  have hb := then' (then' hb1 hb2) hb3
  clear hown2 hown3
  go_wp2_with fail
  refine (same.bytes_same A2 A3 _ c2 c3 (putL m) _ hrd2 hrd3 rfl (by omega)).mono ?_
  rintro e w4 ⟨rfl, q, rfl⟩
  clear hrd2 hrd3 hb1 hb2 hb3
  go_wp2_with fail
  refine (small.size_any m _ a1 a2).mono ?_
  rintro e w4 ⟨rfl, rfl⟩
  rw [Int.toNat_natCast]
  go_wp2_with fail
  refine (small.rput_any m _ HM.out).mono ?_
  rintro e w4 ⟨v4, rfl, hown4, hb4⟩
  obtain ⟨A4, c4, rfl, _, _, _⟩ := own_rd hown4
  have hb5 := then' hb (under hb4)
  clear hown4 hb4
  go_wp2
  go_ret
  exact ⟨rfl, hb5⟩
end Go.Proofs.Ytnadjcmfmbjnnaa.lebBytes

/-
  The walk of the law LebBack: a number's bytes between others are taken as they were put.
-/
import Derived.Test.YtnadjcmfmbjnnaaLive
import Derived.Deep.RegionWith
namespace Go.Proofs.Ytnadjcmfmbjnnaa.lebBack
open Go.RowKit
open Go.Proofs.Ytnadjcmfmbjnnaa.num Go.Proofs.Ytnadjcmfmbjnnaa.words

theorem take_mid (a b : List Nat) (n : Nat) (hn : n < 18446744073709551616) : takeAt (a ++ putL n ++ b) (a.length : Int) = (n, a.length + (putL n).length, 0) := by
  have h := fun r => take_put0 n hn r
  unfold takeAt
  rw [if_neg (by simp only [List.length_append]; omega)]
  simp only [Int.toNat_natCast, List.append_assoc, List.drop_left, h]
  rfl
theorem take_zero {l : List Nat} (hl : ∀ x ∈ l, x < 256) (h : (takeAt l 0).2.2 = 0) :
    putL (takeAt l 0).1 = l.take (takeAt l 0).2.1 ∧ (takeAt l 0).1 < 18446744073709551616 ∧ (takeAt l 0).2.1 ≤ l.length := by
  unfold takeAt at h ⊢
  rw [if_neg (by omega)] at h ⊢
  simp only [Int.toNat_zero, List.drop_zero] at h ⊢
  obtain ⟨x, k, e, he⟩ : ∃ x k e, takeGo 0 0 l = (x, k, e) := ⟨_, _, _, rfl⟩
  rw [he] at h ⊢
  simp only at h ⊢
  subst h
  obtain ⟨h1, h2, _, h3⟩ := put_take0 hl he
  simp only [if_true, Nat.zero_add]
  exact ⟨h1, h2, h3⟩

set_option maxRecDepth 20000 in
set_option maxHeartbeats 800000 in
theorem walk (a : Int) (A : Option Addr) (n c : Nat) (l : List Nat) (C : Option Addr) (m d : Nat) (k : List Nat) (w : World) (a1 : 0 ≤ a) (a2 : a ≤ 18446744073709551615)
    (hr : Rd w A (B l)) (hl : l.length = n) (_ : n ≤ c) (hby : ∀ x ∈ l, x < 256) (_ : n * 1 ≤ 140737488351232)
    (kr : Rd w C (B k)) (kl : k.length = m) (kc : m ≤ d) (kby : ∀ x ∈ k, x < 256) (_ : m * 1 ≤ 140737488351232) (hsum : n + m ≤ 1048576) :
    Calls Try.prog 5 #[.int .u64 a, .slice A n c, .slice C m d] w fun e w' => e = .returned (.bool true) ∧ Below w.heap.size w w' := by
  obtain ⟨x, rfl⟩ := Int.eq_ofNat_of_zero_le a1
  have hx : x < 18446744073709551616 := by omega
  have h10 := putL_len10 x hx
  obtain ⟨i0, hi0, hz0, hz1, hz2⟩ := info_parts put.info5
  have HX := Lib.hid hx; clear hx
  have HL := Lib.hid hl; clear hl
  have KL := Lib.hid kl; clear kl
  go_enter Try.func5, Try.ntmps5
  go_wp2_with (at_builtin; refine wpList_app _ rfl (.tmp 14) (.tmp 15) _ rfl w.heap.size 5 i0 _ 1 1 Try.underlying23 hi0 hz0 hz1 hz2 rfl (by omega) _ 0 [] rfl (World.ownsRow_nil _ _ _ _) A n c (B l) rfl (by rw [B_len, HL.out]; omega) hr (B_one l) (by simp only [maxLen]; omega) (by omega) (by omega) ?_; intro v1 w1 hown1 hg1 hb1 hat1; clear hg1 hat1)
  rw [List.nil_append, Nat.zero_add] at hown1
  refine (put.put_any x _ HX.out).mono ?_
  rintro e w2 ⟨v2, rfl, hown2, hb2⟩
  obtain ⟨A2, c2, rfl, _, _, hrd2⟩ := own_rd hown2
  have hown3 := own_below hown1 hb2
  have hb3 := then_ hb1 (Nat.le_refl _) hb2
  have hsz3 := hb3.size
  clear hown1 hown2 hb1 hb2
  go_wp2_with (first
    | (at_builtin; refine wpList_app _ rfl (.tmp 17) (.tmp 19) _ rfl w.heap.size 5 i0 _ 1 1 Try.underlying23 hi0 hz0 hz1 hz2 rfl (by omega) _ n (B l) rfl hown3 A2 _ c2 (B (putL x)) rfl (by rw [B_len]; omega) hrd2 (B_one _) (by simp only [maxLen]; omega) (by omega) hsz3 ?_; intro v4 w4 hown4 hg4 hb4 hat4; clear hg4 hat4; have hb5 := hb3.trans hb4; have hsz5 := hb5.size)
    | (at_builtin; refine wpList_app _ rfl (.tmp 21) (.tmp 22) _ rfl w.heap.size 5 i0 _ 1 1 Try.underlying23 hi0 hz0 hz1 hz2 rfl (by omega) _ _ _ rfl hown4 C m d (B k) rfl (by rw [B_len, KL.out]; omega) (kr.below hb5) (B_one _) (by simp only [maxLen]; omega) (by omega) hsz5 ?_; intro v6 w6 hown6 hg6 hb6 hat6; clear hg6 hat6))
  have hb7 := hb5.trans hb6
  obtain ⟨A6, c6, rfl, hc6, _, hrd6⟩ := own_rd hown6
  rw [← B_app, ← B_app] at hrd6
  clear hown3 hown4 hown6 hrd2 hb3 hb4 hb5 hb6
  have ht : Calls Try.prog 8 #[.slice A6 (n + (putL x).length + m) c6, .int .i64 (n : Int)] w6 fun e w' => e = .returned (.tuple #[.int .u64 (x : Int), .int .i64 ((n : Int) + ((putL x).length : Int)), .int .i64 0]) ∧ w6 = w' := by
    refine (take.take_any A6 _ c6 (l ++ putL x ++ k) (n : Int) w6 hrd6 (by simp only [List.length_append]; have := HL.out; have := KL.out; omega) hc6 (by omega) ?_).mono ?_
    · intro y hy
      rcases List.mem_append.1 hy with hy | hy
      · rcases List.mem_append.1 hy with hy | hy
        · exact hby y hy
        · exact putL_byte x y hy
      · exact kby y hy
    · rintro e w' ⟨he, hw⟩
      unfold take.OutI at he
      rw [← HL.out, take_mid l k x HX.out] at he
      rw [← HL.out]
      exact ⟨he, hw⟩
  refine ht.mono ?_
  rintro e w' ⟨rfl, rfl⟩
  clear ht hrd6 hc6
  go_wp2_with fail
  refine (live.live_any _).mono ?_
  rintro e w8 ⟨rfl, hb8⟩
  have hb9 := then_ hb7 (Nat.le_refl _) hb8
  have kr9 := kr.below hb9
  clear hb7 hb8 hr kr
  go_wp2_with fail
  refine (small.size_any x _ a1 a2).mono ?_
  rintro e w' ⟨rfl, rfl⟩
  rw [Int.toNat_natCast]
  generalize (putL x).length = z at *
  have hk2 := take.take_any C m d k 0 w8 kr9 KL.out kc (by omega) kby
  have htz := take_zero kby
  obtain ⟨y, to, f, hr⟩ : ∃ y to f, takeAt k 0 = (y, to, f) := ⟨_, _, _, rfl⟩
  rw [hr] at htz
  unfold take.OutI at hk2
  rw [hr] at hk2
  simp only at htz hk2
  have KT := Lib.hid hk2
  have KB := Lib.hid kby
  have KZ := Lib.hid htz
  clear hk2 kby htz hr hby
  by_cases hf : f = 0
  · obtain ⟨hp, hy, hto⟩ := KZ.out hf
    have hy10 := putL_len10 y hy
    have hlen : (putL y).length = to := by rw [hp, List.length_take]; omega
    have HP := Lib.hid hp
    have HY := Lib.hid hy
    have hto2 : to ≤ m := by have := KL.out; omega
    have HE := Lib.hid hlen
    have hkm : k.length ≤ m := by have := KL.out; omega
    clear hp hy hlen hto
    subst hf
    obtain ⟨C', hC, hcut⟩ := run_cut_h Try.underlying23 (by kernel_rfl) put.size5 C m d to (by omega)
    have kr' : Rd w8 C' (B (putL y)) := by rw [HP.out, ← B_take]; exact hC _ _ kr9
    clear hC kr9
    go_wp2_with fail
    refine KT.out.mono ?_
    rintro e w' ⟨rfl, rfl⟩
    go_wp2_with fail
    go_region_with (first
      | (go_at_call 12; refine (put.put_any y _ HY.out).mono ?_; rintro e w9 ⟨v9, rfl, hown9, hb10⟩; rw [HE.out] at hown9; obtain ⟨A9, c9, rfl, _, _, hrd9⟩ := own_rd hown9; clear hown9)
      | (go_at_call 11; refine (same.bytes_same A9 C' to c9 d (putL y) _ hrd9 (kr'.below ⟨hb10.os, hb10.tape, hb10.output, hb10.size, hb10.block⟩) HE.out (by omega)).mono ?_; rintro e w10 ⟨rfl, q, rfl⟩))
    all_goals go_wp2
    all_goals go_ret
    all_goals exact ⟨rfl, over (then_ hb9 (Nat.le_refl _) ⟨hb10.os, hb10.tape, hb10.output, hb10.size, hb10.block⟩)⟩
  · have hfz : ((f : Int) != 0) = true := by simp; omega
    go_wp2_with fail
    refine KT.out.mono ?_
    rintro e w' ⟨rfl, rfl⟩
    go_wp2_with fail
    go_quiet (fail)
    go_wp2
    go_ret
    exact ⟨rfl, over hb9⟩
end Go.Proofs.Ytnadjcmfmbjnnaa.lebBack

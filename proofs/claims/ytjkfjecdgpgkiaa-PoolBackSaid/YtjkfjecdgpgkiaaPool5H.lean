/-
  Layer 5, the document's answer: two pools together.
-/
import Derived.Test.YtjkfjecdgpgkiaaPool5G
namespace Go.Proofs.Ytjkfjecdgpgkiaa.pool
open Go.RowKit Go.Maps
open Go.Proofs.Ytjkfjecdgpgkiaa.num Go.Proofs.Ytjkfjecdgpgkiaa.words Go.Proofs.Ytjkfjecdgpgkiaa.poolp

set_option maxRecDepth 100000 in
set_option maxHeartbeats 800000 in
theorem merge5_w (A C : Option Addr) (c d : Nat) (a b : List Str) (w : World) (hr : Rd w A (SL a)) (kr : Rd w C (SL b)) (ha : a.length ≤ 1048576) (hb : b.length ≤ 1048576)
    (hza : ∀ x ∈ a, x.length ≤ 140737488355328) (hzb : ∀ x ∈ b, x.length ≤ 140737488355328) :
    Calls Try.prog 13 #[.slice A a.length c, .slice C b.length d] w (Merged a b w) := by
  have HRA := Lib.hid (fun q => right5_w A c a (w.drewN q) (hr.drewN q) ha hza)
  have HRB := Lib.hid (fun q => right5_w C d b (w.drewN q) (kr.drewN q) hb hzb)
  obtain ⟨n, hn⟩ : ∃ n, n = a.length := ⟨_, rfl⟩
  obtain ⟨m, hm⟩ : ∃ m, m = b.length := ⟨_, rfl⟩
  rw [← hn] at HRA; rw [← hm] at HRB
  rw [← hn, ← hm]
  have HN := Lib.hid hn; have HM := Lib.hid hm; have HR := Lib.hid hr; have KR := Lib.hid kr
  cases hra : rightB a with
  | false =>
    rw [hra] at HRA
    have HO := Lib.hid (show mergeOk a b = false by unfold mergeOk; rw [hra]; rfl)
    clear hn hm ha hb hza hzb hr kr hra
    go_enter Try.func13, Try.ntmps13
    go_wp2_with fail
    refine (HRA.out 0).mono ?_
    rintro e w' ⟨rfl, q, rfl⟩
    clear HRA HRB
    go_wp2
    go_ret2
    exact merged_no HO.out (over (Below.refl _ _))
  | true =>
    rw [hra] at HRA
    cases hrb : rightB b with
    | false =>
      rw [hrb] at HRB
      have HO := Lib.hid (show mergeOk a b = false by unfold mergeOk; rw [hra, hrb]; rfl)
      clear hn hm ha hb hza hzb hr kr hra hrb
      go_enter Try.func13, Try.ntmps13
      go_wp2_with fail
      refine (HRA.out 0).mono ?_
      rintro e w' ⟨rfl, q, rfl⟩
      clear HRA
      go_wp2_with fail
      refine (HRB.out _).mono ?_
      rintro e w' ⟨rfl, q2, rfl⟩
      clear HRB
      go_wp2
      go_ret2
      exact merged_no HO.out (over (Below.refl _ _))
    | true =>
      rw [hrb] at HRB
      have hok : mergeOk a b = true := by unfold mergeOk; rw [hra, hrb]; rfl
      have ha1 : n ≤ 1024 := by rw [hn]; exact (right_pool hra).2.1
      have hb1 : m ≤ 1024 := by rw [hm]; exact (right_pool hrb).2.1
      have HMK := Lib.hid (fun A c w hr => make5_w A c (a ++ b) w hr (by rw [List.length_append]; omega) (fun x hx => (List.mem_append.1 hx).elim (hza x) (hzb x)))
      unfold Made at HMK
      have hpost : ∀ w' e, Made (a ++ b) w e w' → Merged a b w e w' := fun w' e h => by
        unfold Merged mergeL mergeE
        rw [if_pos hok, if_pos hok]
        exact h
      obtain ⟨L, hL⟩ : ∃ L, L = a ++ b := ⟨_, rfl⟩
      rw [← hL] at HMK hpost
      obtain ⟨k, hk⟩ : ∃ k, k = L.length := ⟨_, rfl⟩
      rw [← hk] at HMK
      obtain ⟨er, her⟩ : ∃ er : Int, er = if bad L = true then 3 else 0 := ⟨_, rfl⟩
      unfold Made at hpost
      rw [← her] at HMK hpost
      have HP := Lib.hid hpost
      have HK := Lib.hid (show k = n + m by rw [hk, hL, List.length_append, hn, hm]); have HSL := Lib.hid (show SL L = SL a ++ SL b by rw [hL, SL_app])
      have HSA := Lib.hid (show (SL a).length = n by rw [SL_len, hn]); have HSB := Lib.hid (show (SL b).length = m by rw [SL_len, hm])
      obtain ⟨i0, hi0, hz0, hz1, hz2⟩ := info_parts infoS
      clear hn hm ha hb hza hzb hr kr hra hrb hok hpost hL hk her
      go_enter Try.func13, Try.ntmps13
      go_wp2_with fail
      refine (HRA.out 0).mono ?_
      rintro e w' ⟨rfl, q, rfl⟩
      clear HRA
      go_wp2_with fail
      refine (HRB.out _).mono ?_
      rintro e w' ⟨rfl, q2, rfl⟩
      clear HRB
      go_wp2_with (first
        | (at_builtin; refine wpList_app _ rfl (.tmp 15) (.tmp 16) _ rfl w.heap.size 9 i0 _ 1 16 Try.underlying22 hi0 hz0 hz1 hz2 rfl (by omega) (.slice none 0 0) 0 [] rfl (World.ownsRow_nil _ _ _ _) A n c (SL a) rfl (by rw [HSA.out, Nat.mul_one]) (HR.out.drewN _) (SL_one a) (by simp only [maxLen]; omega) (by omega) (Nat.le_refl _) ?_; intro v1 w1 hown1 hg1 hbo1 hat1; clear hg1 hat1; rw [Nat.zero_add, List.nil_append] at hown1)
        | (at_builtin; refine wpList_app _ rfl (.tmp 18) (.tmp 19) _ rfl w.heap.size 9 i0 _ 1 16 Try.underlying22 hi0 hz0 hz1 hz2 rfl (by omega) _ n (SL a) rfl hown1 C m d (SL b) rfl (by rw [HSB.out, Nat.mul_one]) ((KR.out.drewN _).below hbo1) (SL_one b) (by simp only [maxLen]; omega) (by omega) (by have := hbo1.size; simpa using this) ?_; intro v2 w2 hown2 hg2 hbo2 hat2; clear hg2 hat2; rw [← HK.out, ← HSL.out] at hown2; obtain ⟨A2, c2, rfl, hc2, -, hr2⟩ := own_rd hown2))
      have HB2 := Lib.hid ((over (Below.refl w.heap.size w)).trans (hbo1.trans hbo2))
      have HR2 := Lib.hid hr2
      clear hown1 hown2 hbo1 hbo2 hr2
      refine (HMK.out A2 c2 _ HR2.out).mono ?_
      rintro e w3 ⟨⟨A3, c3, rfl, hc3, hr3⟩, hb3⟩
      have HF := Lib.hid (HP.out w3 _ ⟨⟨A3, c3, rfl, hc3, hr3⟩, HB2.out.trans (hb3.mono HB2.out.size)⟩)
      clear hr3 hb3 HMK HP
      go_wp2
      go_ret2
      exact HF.out
end Go.Proofs.Ytjkfjecdgpgkiaa.pool

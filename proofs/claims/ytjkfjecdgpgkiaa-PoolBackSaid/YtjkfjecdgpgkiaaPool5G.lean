/-
  Layer 5: two pools together.
-/
import Derived.Test.YtjkfjecdgpgkiaaPool5C
namespace Go.Proofs.Ytjkfjecdgpgkiaa.pool
open Go.RowKit Go.Maps
open Go.Proofs.Ytjkfjecdgpgkiaa.num Go.Proofs.Ytjkfjecdgpgkiaa.words Go.Proofs.Ytjkfjecdgpgkiaa.poolp

set_option maxRecDepth 100000 in
theorem grow_zeroS (w : World) :
    Calls Try.prog 61 #[.slice none 0 0, .int .i64 0] w fun e w' => e = .returned (.slice none 0 0) ∧ w' = w := by
  go_enter Try.func61, Try.ntmps61
  go_wp2
  go_ret
  exact ⟨rfl, rfl⟩
set_option maxRecDepth 100000 in
set_option maxHeartbeats 800000 in
theorem concatS0 (g : Nat) (A C : Option Addr) (c d : Nat) (w : World) (hg : w.heap[g]? = some (.cells #[.slice A 0 c, .slice C 0 d] 22 (0, 0))) (hr : Rd w A (SL [])) (kr : Rd w C (SL [])) :
    Calls Try.prog 38 #[.slice (some ⟨g, 0, none⟩) 2 2] w (NewS w []) := by
  obtain ⟨i0, hi0, hz0, hz1, hz2⟩ := info_parts infoS
  have c0 : w.cell? ⟨g, 0, none⟩ = some (.slice A 0 c) := cell_of_row w g 0 _ _ (0, 0) hg
  have c1 : w.cell? ⟨g, 1, none⟩ = some (.slice C 0 d) := cell_of_row w g 1 _ _ (0, 0) hg
  have hgl := blk_lt hg
  have HG := Lib.hid hg
  clear hg
  go_enter Try.func38, Try.ntmps38
  go_wp2_with fail
  refine wp_loop_rounds 3 ?_
  rw [rounds_succ]
  go_wp2_with fail
  rw [rounds_succ]
  go_wp2_with fail
  rw [rounds_succ]
  go_wp2_with fail
  refine (grow_zeroS w).mono ?_
  rintro e w1 ⟨rfl, rfl⟩
  go_wp2_with fail
  refine wp_loop_rounds 3 ?_
  rw [rounds_succ]
  go_wp2_with (at_builtin; refine wpList_app _ rfl (.tmp 31) (.tmp 32) _ rfl w1.heap.size 9 i0 _ 1 16 Try.underlying22 hi0 hz0 hz1 hz2 rfl (by omega) (.slice none 0 0) 0 [] rfl (World.ownsRow_nil _ _ _ _) A 0 c (SL []) rfl rfl hr (SL_one []) (by simp [maxLen]) (by omega) (Nat.le_refl _) ?_; intro v2 w2 hown2 hg2 hb2 hat2; clear hg2 hat2)
  have d1 : w2.cell? ⟨g, 1, none⟩ = some (.slice C 0 d) := cell_of_row w2 g 1 _ _ (0, 0) ((hb2.block g hgl).trans HG.out)
  have kr2 := kr.below hb2
  have hsz2 := hb2.size
  clear c0 c1 hr kr
  rw [rounds_succ]
  go_wp2_with (at_builtin; refine wpList_app _ rfl (.tmp 31) (.tmp 32) _ rfl w1.heap.size 9 i0 _ 1 16 Try.underlying22 hi0 hz0 hz1 hz2 rfl (by omega) v2 0 (SL []) rfl hown2 C 0 d (SL []) rfl rfl kr2 (SL_one []) (by simp [maxLen]) (by omega) hsz2 ?_; intro v4 w4 hown4 hg4 hb4 hat4; clear hg4 hat4)
  rw [rounds_succ]
  go_wp2
  go_ret
  exact ⟨_, rfl, hown4, hb2.trans hb4⟩

theorem concat_w (g : Nat) (A C : Option Addr) (n c m d : Nat) (l k : List Str) (w : World) (hg : w.heap[g]? = some (.cells #[.slice A n c, .slice C m d] 22 (0, 0))) (hr : Rd w A (SL l)) (kr : Rd w C (SL k))
    (hl : l.length = n) (kl : k.length = m) (hn : n + m ≤ 4096) :
    Calls Try.prog 38 #[.slice (some ⟨g, 0, none⟩) 2 2] w (NewS w (l ++ k)) := by
  by_cases h0 : 0 < n + m
  · exact concatS g A C n c m d l k w hg hr kr hl kl h0 hn
  · have e1 : n = 0 := by omega
    have e2 : m = 0 := by omega
    subst e1 e2
    have f1 : l = [] := List.eq_nil_of_length_eq_zero hl
    have f2 : k = [] := List.eq_nil_of_length_eq_zero kl
    subst f1 f2
    exact concatS0 g A C c d w hg hr kr

/-- two pools together -/
def mergeOk (a b : List Str) : Bool := rightB a && rightB b
def mergeL (a b : List Str) : List Str := if mergeOk a b = true then makeL (a ++ b) else []
def mergeE (a b : List Str) : Int := if mergeOk a b = true then (if bad (a ++ b) = true then 3 else 0) else 5
def Merged (a b : List Str) (w : World) (e : Ending) (w' : World) : Prop :=
  (∃ A c, e = .returned (.tuple #[.slice A (mergeL a b).length c, .int .i64 (mergeE a b)]) ∧ (mergeL a b).length ≤ c ∧ Rd w' A (SL (mergeL a b))) ∧ Below w.heap.size w w'
theorem merged_no {a b : List Str} (h : mergeOk a b = false) {w w' : World} (hb : Below w.heap.size w w') : Merged a b w (.returned (.tuple #[.slice none 0 0, .int .i64 5])) w' := by
  unfold Merged mergeL mergeE
  rw [if_neg (by rw [h]; simp), if_neg (by rw [h]; simp)]
  exact ⟨⟨none, 0, rfl, Nat.le_refl _, .inl rfl⟩, hb⟩

set_option maxRecDepth 100000 in
set_option maxHeartbeats 800000 in
theorem merge_w (A C : Option Addr) (c d : Nat) (a b : List Str) (w : World) (hr : Rd w A (SL a)) (kr : Rd w C (SL b)) (ha : a.length ≤ 1048576) (hb : b.length ≤ 1048576)
    (hza : ∀ x ∈ a, x.length ≤ 140737488355328) (hzb : ∀ x ∈ b, x.length ≤ 140737488355328) :
    Calls Try.prog 12 #[.slice A a.length c, .slice C b.length d] w (Merged a b w) := by
  have HRA := Lib.hid (fun q => right_w A c a (w.drewN q) (hr.drewN q) ha hza)
  have HRB := Lib.hid (fun q => right_w C d b (w.drewN q) (kr.drewN q) hb hzb)
  obtain ⟨n, hn⟩ : ∃ n, n = a.length := ⟨_, rfl⟩
  obtain ⟨m, hm⟩ : ∃ m, m = b.length := ⟨_, rfl⟩
  rw [← hn] at HRA; rw [← hm] at HRB
  rw [← hn, ← hm]
  have HN := Lib.hid hn; have HM := Lib.hid hm; have HR := Lib.hid hr; have KR := Lib.hid kr
  cases hra : rightB a with
  | false =>
    rw [hra] at HRA
    have HO := Lib.hid (show mergeOk a b = false by unfold mergeOk; rw [hra]; rfl)
    clear hn hm ha hb hza hzb hr kr hra
    go_enter Try.func12, Try.ntmps12
    go_wp2_with fail
    refine (HRA.out 0).mono ?_
    rintro e w' ⟨rfl, q, rfl⟩
    clear HRA HRB
    go_wp2
    go_ret2
    exact merged_no HO.out (over (Below.refl _ _))
  | true =>
    rw [hra] at HRA
    cases hrb : rightB b with
    | false =>
      rw [hrb] at HRB
      have HO := Lib.hid (show mergeOk a b = false by unfold mergeOk; rw [hra, hrb]; rfl)
      clear hn hm ha hb hza hzb hr kr hra hrb
      go_enter Try.func12, Try.ntmps12
      go_wp2_with fail
      refine (HRA.out 0).mono ?_
      rintro e w' ⟨rfl, q, rfl⟩
      clear HRA
      go_wp2_with fail
      refine (HRB.out _).mono ?_
      rintro e w' ⟨rfl, q2, rfl⟩
      clear HRB
      go_wp2
      go_ret2
      exact merged_no HO.out (over (Below.refl _ _))
    | true =>
      rw [hrb] at HRB
      have hok : mergeOk a b = true := by unfold mergeOk; rw [hra, hrb]; rfl
      have ha1 : n ≤ 1024 := by rw [hn]; exact (right_pool hra).2.1
      have hb1 : m ≤ 1024 := by rw [hm]; exact (right_pool hrb).2.1
      have HMK := Lib.hid (fun A c w hr => make_w A c (a ++ b) w hr (by rw [List.length_append]; omega) (fun x hx => (List.mem_append.1 hx).elim (hza x) (hzb x)))
      unfold Made at HMK
      have hpost : ∀ w' e, Made (a ++ b) w e w' → Merged a b w e w' := fun w' e h => by
        unfold Merged mergeL mergeE
        rw [if_pos hok, if_pos hok]
        exact h
      have hcc := (fun g w (hg : w.heap[g]? = some (.cells #[.slice A n c, .slice C m d] 22 (0, 0))) hr kr => concat_w g A C n c m d a b w hg hr kr hn.symm hm.symm (by omega))
      obtain ⟨L, hL⟩ : ∃ L, L = a ++ b := ⟨_, rfl⟩
      rw [← hL] at hcc HMK hpost
      obtain ⟨k, hk⟩ : ∃ k, k = L.length := ⟨_, rfl⟩
      unfold NewS at hcc
      rw [← hk] at hcc HMK
      obtain ⟨er, her⟩ : ∃ er : Int, er = if bad L = true then 3 else 0 := ⟨_, rfl⟩
      unfold Made at hpost
      rw [← her] at HMK hpost
      have HP := Lib.hid hpost
      have HC := Lib.hid hcc
      clear hn hm ha hb hza hzb hr kr hra hrb hok hpost ha1 hb1 hcc hL hk her
      go_enter Try.func12, Try.ntmps12
      go_wp2_with fail
      refine (HRA.out 0).mono ?_
      rintro e w' ⟨rfl, q, rfl⟩
      clear HRA
      go_wp2_with fail
      refine (HRB.out _).mono ?_
      rintro e w' ⟨rfl, q2, rfl⟩
      clear HRB
      go_wp2_with fail
      refine (HC.out _ _ (heap_alloc_new _ _) (Rd.below HR.out (by exact (over (Below.refl w.heap.size w)).alloc (by simp) _)) (Rd.below KR.out (by exact (over (Below.refl w.heap.size w)).alloc (by simp) _))).mono ?_
      rintro e w2 ⟨v, rfl, hown, hb2⟩
      obtain ⟨A2, c2, rfl, hc2, -, hr2⟩ := own_rd hown
      have HB2 := Lib.hid (show Below w.heap.size w w2 from ((over (Below.refl w.heap.size w)).alloc (by simp) _).trans (hb2.mono (by simp)))
      have HR2 := Lib.hid hr2
      clear hown hb2 hr2 HC
      go_wp2_with fail
      refine (HMK.out A2 c2 _ HR2.out).mono ?_
      rintro e w3 ⟨⟨A3, c3, rfl, hc3, hr3⟩, hb3⟩
      have HF := Lib.hid (HP.out w3 _ ⟨⟨A3, c3, rfl, hc3, hr3⟩, HB2.out.trans (hb3.mono HB2.out.size)⟩)
      clear hr3 hb3 HMK HP
      go_wp2
      go_ret2
      exact HF.out
end Go.Proofs.Ytjkfjecdgpgkiaa.pool

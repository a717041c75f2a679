/-
  The walk of PoolSame: a pool's pool is the pool, and the list's order does not matter.
-/
import Derived.Test.YtjkfjecdgpgkiaaLive5
namespace Go.Proofs.Ytjkfjecdgpgkiaa.poolSame
open Go.RowKit Go.Maps
open Go.Proofs.Ytjkfjecdgpgkiaa.num Go.Proofs.Ytjkfjecdgpgkiaa.words Go.Proofs.Ytjkfjecdgpgkiaa.poolp Go.Proofs.Ytjkfjecdgpgkiaa.pool

/-- a list, turned -/
def turnL (L : List Str) (b k : Nat) : List Str := (List.range k).map fun i => L.getD ((i + b) % L.length) []
theorem turn_snoc (L : List Str) (b k : Nat) : turnL L b (k + 1) = turnL L b k ++ [L.getD ((k + b) % L.length) []] := by
  unfold turnL; rw [List.range_succ, List.map_append]; rfl
theorem turn_len (L : List Str) (b k : Nat) : (turnL L b k).length = k := by simp [turnL]
theorem rot {n b i : Nat} (h : i < n) : ∃ k, k < n ∧ (k + b) % n = i := by
  refine ⟨(i + (n - b % n)) % n, Nat.mod_lt _ (by omega), ?_⟩
  rw [Nat.mod_add_mod]
  have hb := Nat.mod_add_div b n
  have hlt := Nat.mod_lt b (show 0 < n by omega)
  have e : i + (n - b % n) + b = i + n * (1 + b / n) := by
    rw [Nat.mul_add, Nat.mul_one]
    generalize n * (b / n) = m at *
    generalize b % n = r at *
    omega
  rw [e, Nat.add_mul_mod_self_left, Nat.mod_eq_of_lt h]
theorem mem_turn (L : List Str) (b : Nat) (y : Str) : y ∈ L ↔ y ∈ turnL L b L.length := by
  unfold turnL
  rw [List.mem_map]
  constructor
  · intro h
    obtain ⟨i, hi⟩ := List.getElem?_of_mem h
    have hlt : i < L.length := by
      rcases Nat.lt_or_ge i L.length with h1 | h1
      · exact h1
      · rw [List.getElem?_eq_none h1] at hi; cases hi
    obtain ⟨k, hk, e⟩ := rot (b := b) hlt
    exact ⟨k, List.mem_range.2 hk, by rw [e, List.getD_eq_getElem?_getD, hi]; rfl⟩
  · rintro ⟨k, hk, rfl⟩
    have hk' := List.mem_range.1 hk
    have hlt : (k + b) % L.length < L.length := Nat.mod_lt _ (by omega)
    rw [List.getD_eq_getElem?_getD, List.getElem?_eq_getElem hlt]
    exact List.getElem_mem hlt

set_option maxRecDepth 100000 in
set_option maxHeartbeats 4000000 in
theorem walk (A : Option Addr) (c : Nat) (ss : List ByteArray) (b : Int) (w : World) (hr : Rd w A (texts.S ss)) (hc : ss.length ≤ c) (hn : ss.length * 16 ≤ 140737488351232) (hxs : ∀ x ∈ ss, x.size ≤ 140737488351232) (b0 : 0 ≤ b) (b1 : b ≤ 255) :
    Calls Try.prog 7 #[.slice A ss.length c, .int .u8 b] w fun e w' => e = .returned (.bool true) ∧ Below w.heap.size w w' := by
  obtain ⟨i0, hi0, hz0, hz1, hz2⟩ := info_parts infoS
  obtain ⟨b, rfl⟩ := Int.eq_ofNat_of_zero_le b0
  have hb255 : b ≤ 255 := by omega
  rw [S_SL] at hr
  obtain ⟨l, hl⟩ : ∃ l : List Str, l = ss.map (·.data.toList) := ⟨_, rfl⟩
  have hll : ss.length = l.length := by rw [hl, List.length_map]
  rw [← hl] at hr
  have hlz : ∀ x ∈ l, x.length ≤ 140737488355328 := by
    intro x hx
    rw [hl] at hx
    obtain ⟨y, hy, rfl⟩ := List.mem_map.1 hx
    have := hxs y hy
    rw [Array.length_toList]; show y.size ≤ _; omega
  rw [hll] at hc hn ⊢
  have HFW := Lib.hid (few_w A c l w hr hc (by omega))
  obtain ⟨L, hL⟩ : ∃ L, L = fewL l := ⟨_, rfl⟩
  rw [← hL] at HFW
  have hL11 : L.length ≤ 1100 := by rw [hL]; unfold fewL; rw [List.length_take]; omega
  have hLz : ∀ x ∈ L, x.length ≤ 140737488355328 := fun x hx => hlz x (by rw [hL] at hx; exact List.mem_of_mem_take hx)
  have hTz : ∀ k, k ≤ L.length → ∀ x ∈ turnL L b k, x.length ≤ 140737488355328 := by
    intro k _ x hx
    unfold turnL at hx
    obtain ⟨i, hi, rfl⟩ := List.mem_map.1 hx
    rw [List.getD_eq_getElem?_getD]
    cases h : L[(i + b) % L.length]? with
    | none => simp
    | some y => exact hLz y (List.mem_of_getElem? h)
  have HM1 := Lib.hid (fun A c w hr => make_w A c L w hr (by omega) hLz)
  have HM2 := Lib.hid (fun A c w hr => make_w A c (turnL L b L.length) w hr (by rw [turn_len]; omega) (hTz _ (Nat.le_refl _)))
  have hpz : ∀ x ∈ makeL L, x.length ≤ 140737488355328 := fun x hx => by have := (make_pool L).2.2 x hx; omega
  have HM3 := Lib.hid (fun A c w hr => make_w A c (makeL L) w hr (by have := (make_pool L).2.1; omega) hpz)
  have hsame := make_same (mem_turn L b)
  have hsameb := bad_same (mem_turn L b)
  unfold Made at HM1 HM2 HM3
  rw [← hsame, ← hsameb, turn_len] at HM2
  rw [pool_make (make_pool L), pool_bad (make_pool L), if_neg (by simp)] at HM3
  have HPL := Lib.hid (make_pool L).2.1
  have HLV := Lib.hid (fun w => live_any w)
  obtain ⟨n, hnn⟩ : ∃ n, n = L.length := ⟨_, rfl⟩
  have HNN := Lib.hid hnn
  rw [← hnn] at HFW HM1 HM2 hL11
  have hnI : (n : Int) ≤ 1100 := by omega
  clear hl hll hlz hc hn hxs hr hL hLz hTz hpz hsame hsameb b0 b1
  obtain ⟨er, her⟩ : ∃ er : Int, er = if bad L = true then 3 else 0 := ⟨_, rfl⟩
  rw [← her] at HM1 HM2
  generalize makeL L = P at *
  have e1 : (er == er) = true := by simp
  clear her hnn
  go_enter Try.func7, Try.ntmps7
  go_wp2_with fail
  refine HFW.out.mono ?_
  rintro e w ⟨⟨A1, rfl, hr1⟩, rfl⟩
  have HR1 := Lib.hid hr1
  clear hr1 HFW
  go_wp2_with fail
  refine (HM1.out A1 c _ HR1.out).mono ?_
  rintro e w2 ⟨⟨A2, c2, rfl, _, hr2⟩, hb2⟩
  have HB2 := Lib.hid hb2; have HP2 := Lib.hid hr2; have HL2 := Lib.hid (HR1.out.below hb2)
  clear hb2 hr2 HM1 HR1
  go_wp2_with fail
  refine (HLV.out _).mono ?_
  rintro e w3 ⟨rfl, hb3⟩
  have HB3 := Lib.hid (then' HB2.out hb3); have HP3 := Lib.hid (HP2.out.below hb3); have HL3 := Lib.hid (HL2.out.below hb3)
  have hsz3 := HB3.out.size
  clear hb3 HB2 HP2 HL2 HLV
  go_wp2
  go_loopw [7, 8] (fun v i wr => ∃ k : Nat, i = .int .i64 (k : Int) ∧ k ≤ n ∧ wr.ownsRow w3.heap.size 9 1 v k (SL (turnL L b k)) ∧ Below w3.heap.size w3 wr) (fun _ i _ => n - (intOf i).toNat)
  case atStart => exact ⟨0, rfl, Nat.zero_le _, World.ownsRow_nil _ _ _ _, Below.refl _ _⟩
  case round =>
    obtain ⟨k, rfl, hk, hown, hbw⟩ := hrel
    have HO := Lib.hid hown; have HB := Lib.hid hbw
    have hszw := hbw.size
    clear hown
    by_cases hlt : k < n
    · have hltI : (k : Int) < (n : Int) := by omega
      obtain ⟨j, hj⟩ : ∃ j, j = (k + b) % n := ⟨_, rfl⟩
      have hjn : j < n := by rw [hj]; exact Nat.mod_lt _ (by omega)
      have hjI : ((k : Int) + (b : Int)) % (n : Int) = (j : Int) := by rw [hj]; simp
      obtain ⟨x, hx⟩ : ∃ x, L[j]? = some x := ⟨L[j]'(by rw [← HNN.out]; exact hjn), List.getElem?_eq_getElem _⟩
      obtain ⟨a, rfl, _, hcell⟩ := sl_cell (HL3.out.below hbw) hx
      have HT := Lib.hid (show turnL L b (k + 1) = turnL L b k ++ [x] by rw [turn_snoc, ← HNN.out, ← hj, List.getD_eq_getElem?_getD, hx]; rfl)
      have hb0 : (0 : Int) ≤ (b : Int) := by omega
      have hb1 : (b : Int) ≤ 255 := by omega
      have hn0 : ¬ (n : Int) = 0 := by omega
      have hn1 : (0 : Int) < (n : Int) := by omega
      have hjnI : (j : Int) < (n : Int) := by omega
      clear hx hj hbw
      go_wp2_with (at_builtin; refine wpList_app _ rfl (.tmp 28) (.tmp 39) _ rfl w3.heap.size 9 i0 _ 1 16 Try.underlying22 hi0 hz0 hz1 hz2 rfl (by omega) _ k (SL (turnL L b k)) rfl (HO.out.alloc _) _ 1 1 [_] rfl rfl (rd_blk (heap_alloc_new wr _) (k := 1) rfl) (by simp [Value.oneCell']) (by simp only [maxLen]; omega) (by omega) (by simp; omega) ?_; intro v' w4 hown4 hg4 hb4 hat4; clear hg4 hat4)
      have hown5 : w4.ownsRow w3.heap.size 9 1 v' (k + 1) (SL (turnL L b (k + 1))) := by
        rw [HT.out, SL_app]; exact hown4
      have HB4 := Lib.hid ((HB.out.alloc hszw _).trans hb4)
      clear hown4 hb4
      go_roundw
      case rel => exact ⟨k + 1, by go_num, by omega, hown5, HB4.out⟩
      case measure => simp [intOf]; omega
    · have hltI : ¬ (k : Int) < (n : Int) := by omega
      obtain rfl : k = n := by omega
      have hown := HO.out
      obtain ⟨A4, c4, rfl, _, _, hr4⟩ := own_rd hown
      have HP4 := Lib.hid (HP3.out.below hbw)
      have HM2w := Lib.hid (HM2.out A4 c4 wr hr4)
      have HBw := Lib.hid (HB3.out.trans (HB.out.mono hsz3))
      clear hown hr4 HM2 hbw HO HB HL3
      go_wp2_with fail
      refine HM2w.out.mono ?_
      rintro e w5 ⟨⟨A5, c5, rfl, _, hr5⟩, hb5⟩
      have HB5 := Lib.hid (then' HBw.out hb5); have HP5 := Lib.hid (HP4.out.below hb5); have HQ5 := Lib.hid hr5
      clear hb5 hr5 HM2w HP4
      go_wp2_with fail
      refine (HM3.out A2 c2 _ HP5.out).mono ?_
      rintro e w6 ⟨⟨A6, c6, rfl, _, hr6⟩, hb6⟩
      have HB6 := Lib.hid (then' HB5.out hb6); have HP6 := Lib.hid (HP5.out.below hb6); have HQ6 := Lib.hid (HQ5.out.below hb6); have HX6 := Lib.hid hr6
      clear hb6 hr6 HM3 HP5 HQ5
      go_wp2_with fail
      refine (same_w A2 A5 P.length c2 c5 P _ HP6.out HQ6.out rfl (by have := HPL.out; omega)).mono ?_
      rintro e w7 ⟨rfl, q7, rfl⟩
      go_wp2_with fail
      refine (same_w A6 A2 P.length c6 c2 P _ (HX6.out.drewN _) (HP6.out.drewN _) rfl (by have := HPL.out; omega)).mono ?_
      rintro e w8 ⟨rfl, q8, rfl⟩
      go_wp2
      go_ret
      exact ⟨rfl, over HB6.out⟩
end Go.Proofs.Ytjkfjecdgpgkiaa.poolSame

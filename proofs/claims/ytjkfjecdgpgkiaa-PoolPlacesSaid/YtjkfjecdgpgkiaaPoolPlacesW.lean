/-
  The walk of PoolPlaces: each string of a list stands in its pool, once, and no other one.
-/
import Derived.Test.YtjkfjecdgpgkiaaLive5
import Derived.Test.YtjkfjecdgpgkiaaPoolF
import Derived.Deep.QuietTactic
import Derived.BigQuiet
namespace Go.Proofs.Ytjkfjecdgpgkiaa.poolPlaces
open Go.RowKit Go.Maps
open Go.Proofs.Ytjkfjecdgpgkiaa.num Go.Proofs.Ytjkfjecdgpgkiaa.words Go.Proofs.Ytjkfjecdgpgkiaa.poolp Go.Proofs.Ytjkfjecdgpgkiaa.pool

theorem pool_right {p : List Str} (h : IsPool p) : rightB p = true := decide_eq_true h
theorem here {L : List Str} (hb : bad L = false) {i : Nat} {x : Str} (hx : L[i]? = some x) : ∃ k, k < (makeL L).length ∧ (makeL L)[k]? = some x ∧ findI (makeL L) x = (k : Int) := by
  have hm : x ∈ makeL L := (mem_make hb).2 (List.mem_of_getElem? hx)
  obtain ⟨k, hk⟩ := List.getElem?_of_mem hm
  refine ⟨k, ?_, hk, find_at (pool_right (make_pool L)) hk⟩
  rcases Nat.lt_or_ge k (makeL L).length with h | h
  · exact h
  · rw [List.getElem?_eq_none h] at hk; cases hk
/-- whether a text is among the first ones -/
def had (L : List Str) (t : Str) (k : Nat) : Bool := decide (t ∈ L.take k)
theorem had_zero (L : List Str) (t : Str) : had L t 0 = false := by simp [had]
theorem had_succ {L : List Str} {t x : Str} {k : Nat} (hx : L[k]? = some x) : had L t (k + 1) = (had L t k || decide (x = t)) := by
  unfold had
  rw [List.take_add_one, hx]
  simp only [Option.toList_some, List.mem_append, List.mem_singleton, Bool.decide_or]
  congr 1
  exact decide_eq_decide.2 eq_comm
theorem had_all {L : List Str} (hb : bad L = false) (t : Str) : had L t L.length = !(findI (makeL L) t == -1) := by
  unfold had
  rw [List.take_length]
  by_cases h : t ∈ L
  · obtain ⟨i, hi⟩ := List.getElem?_of_mem h
    obtain ⟨k, _, _, e⟩ := here hb hi
    rw [e, decide_eq_true h]
    have : ((k : Int) == -1) = false := by rw [beq_eq_false_iff_ne]; omega
    rw [this]; rfl
  · rw [decide_eq_false h, find_no (fun h2 => h ((mem_make hb).1 h2.2))]; rfl

set_option maxRecDepth 100000 in
set_option maxHeartbeats 4000000 in
theorem walk (A : Option Addr) (c : Nat) (ss : List ByteArray) (s : ByteArray) (w : World) (hr : Rd w A (texts.S ss)) (hc : ss.length ≤ c) (hn : ss.length * 16 ≤ 140737488351232) (hxs : ∀ x ∈ ss, x.size ≤ 140737488351232) (hs : s.size ≤ 140737488351232) :
    Calls Try.prog 6 #[.slice A ss.length c, .string s] w fun e w' => e = .returned (.bool true) ∧ Below w.heap.size w w' := by
  obtain ⟨t, rfl⟩ : ∃ t : Str, s = ⟨t.toArray⟩ := ⟨s.data.toList, by simp⟩
  clear hs
  rw [S_SL] at hr
  obtain ⟨l, hl⟩ : ∃ l : List Str, l = ss.map (·.data.toList) := ⟨_, rfl⟩
  have hll : ss.length = l.length := by rw [hl, List.length_map]
  rw [← hl] at hr
  have hlz : ∀ x ∈ l, x.length ≤ 140737488355328 := by
    intro x hx
    rw [hl] at hx
    obtain ⟨y, hy, rfl⟩ := List.mem_map.1 hx
    have := hxs y hy
    rw [Array.length_toList]; show y.size ≤ _; omega
  rw [hll] at hc hn ⊢
  have HFW := Lib.hid (few_w A c l w hr hc (by omega))
  obtain ⟨L, hL⟩ : ∃ L, L = fewL l := ⟨_, rfl⟩
  rw [← hL] at HFW
  have hL11 : L.length ≤ 1100 := by rw [hL]; unfold fewL; rw [List.length_take]; omega
  have hLz : ∀ x ∈ L, x.length ≤ 140737488355328 := fun x hx => hlz x (by rw [hL] at hx; exact List.mem_of_mem_take hx)
  have HM1 := Lib.hid (fun A c w hr => make_w A c L w hr (by omega) hLz)
  have hpz : ∀ x ∈ makeL L, x.length ≤ 140737488355328 := fun x hx => by have := (make_pool L).2.2 x hx; omega
  have HFD := Lib.hid (fun A c x w hr => find_w A c (makeL L) x w hr (by have := (make_pool L).2.1; omega) hpz)
  have HSELF := Lib.hid (fun (k : Nat) (x : Str) (h : (makeL L)[k]? = some x) => find_at (pool_right (make_pool L)) h)
  have HLV := Lib.hid (fun w => live_any w)
  have hPL := (make_pool L).2.1
  unfold Made at HM1
  clear hl hll hlz hc hn hxs hr hL hLz hpz
  cases hb : bad L with
  | true =>
    rw [if_pos hb] at HM1
    clear HFD HSELF hb
    go_enter Try.func6, Try.ntmps6
    go_wp2_with fail
    refine HFW.out.mono ?_
    rintro e w ⟨⟨A1, rfl, hr1⟩, rfl⟩
    have HR1 := Lib.hid hr1
    clear hr1 HFW
    go_wp2_with fail
    refine (HM1.out A1 c _ HR1.out).mono ?_
    rintro e w2 ⟨⟨A2, c2, rfl, _, hr2⟩, hb2⟩
    have HB2 := Lib.hid hb2
    clear hb2 hr2 HM1 HR1
    go_wp2_with fail
    refine (HLV.out _).mono ?_
    rintro e w3 ⟨rfl, hb3⟩
    have HB3 := Lib.hid (then' HB2.out hb3)
    clear hb3 HB2
    go_wp2_with fail
    refine (HLV.out _).mono ?_
    rintro e w4 ⟨rfl, hb4⟩
    have HB4 := Lib.hid (then' HB3.out hb4)
    clear hb4 HB3
    go_wp2
    go_ret
    exact ⟨rfl, HB4.out⟩
  | false =>
    rw [if_neg (by rw [hb]; simp)] at HM1
    have HHERE := Lib.hid (fun (i : Nat) (x : Str) (hx : L[i]? = some x) => here hb hx)
    have HALL := Lib.hid (had_all hb t)
    obtain ⟨n, hnn⟩ : ∃ n, n = L.length := ⟨_, rfl⟩
    obtain ⟨P, hP⟩ : ∃ P, P = makeL L := ⟨_, rfl⟩
    rw [← hP] at HHERE HSELF HFD HM1 HALL hPL
    obtain ⟨m, hm⟩ : ∃ m, m = P.length := ⟨_, rfl⟩
    have HN := Lib.hid hnn
    have HM := Lib.hid hm
    have HHAD := Lib.hid (fun (k : Nat) (x : Str) (hx : L[k]? = some x) => had_succ (t := t) hx)
    rw [← hnn] at HFW HM1 hL11 HALL
    rw [← hm] at HM1 HFD hPL
    have hnI : (n : Int) ≤ 1100 := by omega
    have hmI : (m : Int) ≤ 1024 := by omega
    clear hb hnn hP hm
    have hz := had_zero L t
    go_enter Try.func6, Try.ntmps6
    go_wp2_with fail
    refine HFW.out.mono ?_
    rintro e w ⟨⟨A1, rfl, hr1⟩, rfl⟩
    have HR1 := Lib.hid hr1
    clear hr1 HFW
    go_wp2_with fail
    refine (HM1.out A1 c _ HR1.out).mono ?_
    rintro e w2 ⟨⟨A2, c2, rfl, _, hr2⟩, hb2⟩
    have HB2 := Lib.hid hb2; have HP2 := Lib.hid hr2; have HL2 := Lib.hid (HR1.out.below hb2)
    clear hb2 hr2 HM1 HR1
    go_wp2_with fail
    refine (HLV.out _).mono ?_
    rintro e w3 ⟨rfl, hb3⟩
    have HB3 := Lib.hid (then' HB2.out hb3); have HP3 := Lib.hid (HP2.out.below hb3); have HL3 := Lib.hid (HL2.out.below hb3)
    clear hb3 HB2 HP2 HL2 HLV
    go_wp2
    go_loopw [7, 8] (fun v i wr => ∃ (k q : Nat), v = .bool (had L t k) ∧ i = .int .i64 (k : Int) ∧ k ≤ n ∧ wr = w3.drewN q) (fun _ i _ => n - (intOf i).toNat)
    case atStart => exact ⟨0, 0, by rw [hz], rfl, Nat.zero_le _, rfl⟩
    case round =>
      obtain ⟨k, q, rfl, rfl, hk, rfl⟩ := hrel
      by_cases hlt : k < n
      · have hltI : (k : Int) < (n : Int) := by omega
        obtain ⟨x, hx⟩ : ∃ x, L[k]? = some x := ⟨L[k]'(by rw [← HN.out]; exact hlt), List.getElem?_eq_getElem _⟩
        obtain ⟨j, hj, hpj, hfj⟩ := HHERE.out k x hx
        rw [← HM.out] at hj
        have HSC := Lib.hid (HHAD.out k x hx)
        have HFX := Lib.hid (fun A c w hr => HFD.out A c x w hr)
        rw [hfj] at HFX
        obtain ⟨a1, rfl, _, hc1⟩ := sl_cell HL3.out hx
        have hjI : (j : Int) < (m : Int) := by omega
        have hj0 : (0 : Int) ≤ (j : Int) := by omega
        have hjn : ¬ (j : Int) < 0 := by omega
        have hjm : ¬ (m : Int) ≤ (j : Int) := by omega
        obtain ⟨a2, e2, _, hc2⟩ := sl_cell HP3.out hpj
        have HE2 := Lib.hid e2
        clear e2 hx hpj hfj hj
        go_wp2_with fail
        refine (HFX.out A2 c2 _ (HP3.out.drewN q)).mono ?_
        rintro e w4 ⟨rfl, q4, rfl⟩
        obtain rfl := HE2.out
        clear HFX HE2
        go_wp2
        have hd1 : decide ((j : Int) < 0) = false := decide_eq_false (by omega)
        have hd2 : decide (m ≤ j) = false := decide_eq_false (by omega)
        have hxx : (x == x) = true := by simp
        go_quiet (fail)
        go_wp2
        all_goals go_roundw
        all_goals rename_i hh
        · refine ⟨k + 1, _, ?_, by go_num, by omega, rfl⟩
          rw [HSC.out, hh]; rfl
        · simp [intOf]; omega
        · refine ⟨k + 1, _, ?_, by go_num, by omega, rfl⟩
          rw [HSC.out, Bool.eq_false_iff.2 hh, eq_mk]; rfl
        · simp [intOf]; omega
      · obtain rfl : k = n := by omega
        have hltI : ¬ (k : Int) < (k : Int) := by omega
        have HFT := Lib.hid (fun A c w hr => HFD.out A c t w hr)
        cases hf : (findI P t == -1) with
        | true =>
          have hfi : findI P t = -1 := eq_of_beq hf
          rw [hfi] at HFT
          have ha : had L t k = false := by rw [HALL.out, hf]; rfl
          rw [ha]
          clear hf hfi ha
          go_wp2_with fail
          refine (HFT.out A2 c2 _ (HP3.out.drewN q)).mono ?_
          rintro e w4 ⟨rfl, q4, rfl⟩
          clear HFT
          go_wp2
          go_loopw [10] (fun v wr => ∃ (k q : Nat), v = .int .i64 (k : Int) ∧ k ≤ m ∧ wr = w3.drewN q) (fun v _ => m - (intOf v).toNat)
          case atStart => exact ⟨0, _, rfl, Nat.zero_le _, rfl⟩
          case round =>
            obtain ⟨i, q5, rfl, hi, rfl⟩ := hrel
            by_cases hlt : i < m
            · have hltI : (i : Int) < (m : Int) := by omega
              obtain ⟨x, hx⟩ : ∃ x, P[i]? = some x := ⟨P[i]'(by rw [← HM.out]; exact hlt), List.getElem?_eq_getElem _⟩
              have hse := HSELF.out i x hx
              have HFX := Lib.hid (fun A c w hr => HFD.out A c x w hr)
              rw [hse] at HFX
              obtain ⟨a2, rfl, _, hc2⟩ := sl_cell HP3.out hx
              have hii : ((i : Int) == (i : Int)) = true := by simp
              clear hx hse
              go_wp2_with fail
              refine (HFX.out (some a2) c2 _ (HP3.out.drewN q5)).mono ?_
              rintro e w6 ⟨rfl, q6, rfl⟩
              clear HFX
              go_wp2
              go_roundw
              case rel => exact ⟨i + 1, _, by go_num, by omega, rfl⟩
              case measure => simp [intOf]; omega
            · have hltI : ¬ (i : Int) < (m : Int) := by omega
              go_wp2
              go_ret
              exact ⟨rfl, over HB3.out⟩
        | false =>
          have hfi : ¬ findI P t = -1 := by intro h; rw [h] at hf; cases hf
          have ha : had L t k = true := by rw [HALL.out, hf]; rfl
          rw [ha]
          generalize findI P t = f at *
          have hne : (!(f != -1)) = false := by simp [hfi]
          clear ha
          go_wp2_with fail
          refine (HFT.out A2 c2 _ (HP3.out.drewN q)).mono ?_
          rintro e w4 ⟨rfl, q4, rfl⟩
          clear HFT
          go_wp2
          go_loopw [10] (fun v wr => ∃ (k q : Nat), v = .int .i64 (k : Int) ∧ k ≤ m ∧ wr = w3.drewN q) (fun v _ => m - (intOf v).toNat)
          case atStart => exact ⟨0, _, rfl, Nat.zero_le _, rfl⟩
          case round =>
            obtain ⟨i, q5, rfl, hi, rfl⟩ := hrel
            by_cases hlt : i < m
            · have hltI : (i : Int) < (m : Int) := by omega
              obtain ⟨x, hx⟩ : ∃ x, P[i]? = some x := ⟨P[i]'(by rw [← HM.out]; exact hlt), List.getElem?_eq_getElem _⟩
              have hse := HSELF.out i x hx
              have HFX := Lib.hid (fun A c w hr => HFD.out A c x w hr)
              rw [hse] at HFX
              obtain ⟨a2, rfl, _, hc2⟩ := sl_cell HP3.out hx
              have hii : ((i : Int) == (i : Int)) = true := by simp
              clear hx hse
              go_wp2_with fail
              refine (HFX.out (some a2) c2 _ (HP3.out.drewN q5)).mono ?_
              rintro e w6 ⟨rfl, q6, rfl⟩
              clear HFX
              go_wp2
              go_roundw
              case rel => exact ⟨i + 1, _, by go_num, by omega, rfl⟩
              case measure => simp [intOf]; omega
            · have hltI : ¬ (i : Int) < (m : Int) := by omega
              go_wp2
              go_ret
              exact ⟨rfl, over HB3.out⟩
end Go.Proofs.Ytjkfjecdgpgkiaa.poolPlaces

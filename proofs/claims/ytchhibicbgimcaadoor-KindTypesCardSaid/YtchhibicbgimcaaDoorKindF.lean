/-
  Layer 6: a descriptor of any types: the program's answer.
-/
import Derived.Test.YtchhibicbgimcaaDoorKindD
namespace Go.Proofs.YtchhibicbgimcaaDoor.kind
open Go.RowKit
open Go.Proofs.YtchhibicbgimcaaDoor.words Go.Proofs.YtchhibicbgimcaaDoor.kindp Go.Proofs.YtchhibicbgimcaaDoor.word Go.Proofs.YtchhibicbgimcaaDoor.rdr

theorem body_le : ∀ p : List Ty, (bodyT p).length ≤ 35 * p.length
  | [] => Nat.le_refl _
  | t :: p => by
    have := body_le p; have := text_le t
    show (textT t ++ bodyT p).length ≤ 35 * (p.length + 1)
    rw [List.length_append]; omega
theorem body_take {p : List Ty} {k : Nat} {t : Ty} (h : p[k]? = some t) : bodyT (p.take (k + 1)) = bodyT (p.take k) ++ textT t := by
  unfold bodyT; rw [List.take_add_one, h]; simp
/-- what Desc answers -/
def DescW (x : Tx × Nat) (w : World) (e : Ending) (w' : World) : Prop := e = .returned (.tuple #[.string ⟨x.1.toArray⟩, .int .i64 (x.2 : Int)]) ∧ Below w.heap.size w w'

set_option maxRecDepth 100000 in
set_option maxHeartbeats 2000000 in
theorem desc_w (k : Int) (c : Tx) (A : Option Addr) (cc : Nat) (p : List Ty) (w : World) (hc : c.length ≤ 281474976710656) (hr : Rd w A (TL p)) (hl : p.length ≤ 281474976710656) (hz : ∀ t ∈ p, t.2.length ≤ 281474976710656) (hv : Vd w) :
    Calls Tryd.prog 19 #[.agg #[.int .i64 k, .string ⟨c.toArray⟩], .slice A p.length cc] w (DescW (descT (k, c) p) w) := by
  have hal : Below w.heap.size w (w.alloc (.cells #[.int .i64 k, .string ⟨c.toArray⟩] 24)) := (Below.refl _ _).alloc (Nat.le_refl _) _
  have HAL := Lib.hid hal
  have HNW := Lib.hid (heap_alloc_new w (.cells #[.int .i64 k, .string ⟨c.toArray⟩] 24))
  have HRT := (fun w => right_w k c w hc)
  have HTX := Lib.hid (fun w => text_w k c w hc)
  have HC := (fun w hr hv => contains_w A cc p w hr hl hz hv)
  obtain ⟨n, hn⟩ : ∃ n, n = p.length := ⟨_, rfl⟩
  rw [← hn] at hl HC ⊢
  have hnI : (n : Int) ≤ 281474976710656 := by omega
  have HN := Lib.hid hn; have HR := Lib.hid hr; have HZ := Lib.hid hz; have HV := Lib.hid hv
  cases hrt : rightT (k, c) with
  | false =>
    rw [hrt] at HRT
    have HRR := Lib.hid HRT
    have HD := Lib.hid (show descT (k, c) p = ([], 1) by unfold descT; rw [hrt]; rfl)
    clear HRT hc hr hl hz hv hal hn hrt HC
    go_enter Tryd.func19, Tryd.ntmps19
    go_wp2_with fail
    refine (HRR.out _).mono ?_
    rintro e w1 ⟨rfl, hb1⟩
    have HB := Lib.hid (HAL.out.trans (hb1.mono (by simp)))
    clear hb1
    go_wp2
    go_ret2
    rw [HD.out]
    exact ⟨rfl, HB.out⟩
  | true =>
    rw [hrt] at HRT
    have HRR := Lib.hid HRT
    cases hany : p.any wrongT with
    | true =>
      rw [hany] at HC
      have HCC := Lib.hid HC
      have HD := Lib.hid (show descT (k, c) p = ([], 1) by unfold descT; rw [hrt, hany]; rfl)
      clear HRT hc hr hl hz hv hal hn hrt HC hany
      go_enter Tryd.func19, Tryd.ntmps19
      go_wp2_with fail
      refine (HRR.out _).mono ?_
      rintro e w1 ⟨rfl, hb1⟩
      have hb2 := HAL.out.trans (hb1.mono (by simp))
      have HB := Lib.hid hb2
      have HR1 := Lib.hid (HR.out.below hb2); have HV1 := Lib.hid (HV.out.below hb2)
      clear hb1 hb2
      go_wp2_with fail
      refine (HCC.out _ HR1.out HV1.out).mono ?_
      rintro e w2 ⟨rfl, hb2⟩
      have HB2 := Lib.hid (then' HB.out hb2)
      clear hb2
      go_wp2
      go_ret2
      rw [HD.out]
      exact ⟨rfl, HB2.out⟩
    | false =>
      rw [hany] at HC
      have HCC := Lib.hid HC
      by_cases h8 : 8 < n
      · have h8I : (8 : Int) < (n : Int) := by omega
        have HD := Lib.hid (show descT (k, c) p = ([], 3) by unfold descT; rw [hrt, hany, if_neg (by simp), if_pos (.inl (by omega))])
        clear HRT hc hr hl hz hv hal hn hrt HC hany h8
        go_enter Tryd.func19, Tryd.ntmps19
        go_wp2_with fail
        refine (HRR.out _).mono ?_
        rintro e w1 ⟨rfl, hb1⟩
        have hb2 := HAL.out.trans (hb1.mono (by simp))
        have HB := Lib.hid hb2
        have HR1 := Lib.hid (HR.out.below hb2); have HV1 := Lib.hid (HV.out.below hb2)
        clear hb1 hb2
        go_wp2_with fail
        refine (HCC.out _ HR1.out HV1.out).mono ?_
        rintro e w2 ⟨rfl, hb2⟩
        have HB2 := Lib.hid (then' HB.out hb2)
        clear hb2
        go_wp2
        go_ret2
        rw [HD.out]
        exact ⟨rfl, HB2.out⟩
      · have h8I : ¬ (8 : Int) < (n : Int) := by omega
        have hD : descT (k, c) p = if 64 < (wholeT (k, c) p).length then ([], 3) else (wholeT (k, c) p, 0) := by
          unfold descT; rw [hrt, hany, if_neg (by simp)]
          by_cases h64 : 64 < (wholeT (k, c) p).length
          · rw [if_pos (.inr h64), if_pos h64]
          · rw [if_neg (by rintro (h | h) <;> omega), if_neg h64]
        have HD := Lib.hid hD
        have hn8 : n ≤ 8 := by omega
        clear HRT hc hr hl hz hv hal hn hrt HC hany h8 hD
        go_enter Tryd.func19, Tryd.ntmps19
        go_wp2_with fail
        refine (HRR.out _).mono ?_
        rintro e w1 ⟨rfl, hb1⟩
        have hb2 := HAL.out.trans (hb1.mono (by simp))
        have HB := Lib.hid hb2
        have HR1 := Lib.hid (HR.out.below hb2); have HV1 := Lib.hid (HV.out.below hb2)
        have HN1 := Lib.hid ((hb1.block _ (by simp)).trans HNW.out)
        clear hb1 hb2
        go_wp2_with fail
        refine (HCC.out _ HR1.out HV1.out).mono ?_
        rintro e w2 ⟨rfl, hb2⟩
        have HB2 := Lib.hid (then' HB.out hb2); have HR2 := Lib.hid (HR1.out.below hb2)
        have HN2 := Lib.hid ((hb2.block _ (blk_lt HN1.out)).trans HN1.out)
        clear hb2
        go_wp2
        go_loopw [7, 23] (fun s i wr => ∃ k : Nat, s = .string ⟨([40] ++ bodyT (p.take k)).toArray⟩ ∧ i = .int .i64 (k : Int) ∧ k ≤ n ∧ Below w2.heap.size w2 wr) (fun _ i _ => n - (intOf i).toNat)
        case atStart => exact ⟨0, rfl, rfl, Nat.zero_le _, Below.refl _ _⟩
        case round =>
          obtain ⟨j, rfl, rfl, hj, hbw⟩ := hrel
          have HB3 := Lib.hid hbw
          have hsz := hbw.size
          have hbl := body_le (p.take j)
          rw [List.length_take] at hbl
          by_cases hlt : j < n
          · have hltI : (j : Int) < (n : Int) := by omega
            obtain ⟨⟨kd, cl⟩, hx⟩ : ∃ x, p[j]? = some x := ⟨p[j]'(by rw [← HN.out]; exact hlt), List.getElem?_eq_getElem _⟩
            obtain ⟨a, rfl, ha, c0, c1⟩ := tl_cell (HR2.out.below hbw) hx
            dsimp only at c0 c1
            have htl := text_le (kd, cl)
            have HT := Lib.hid (fun w => text_w kd cl w (HZ.out _ (List.mem_of_getElem? hx)))
            have HE := Lib.hid (body_take hx)
            obtain ⟨T, hT⟩ : ∃ T, T = textT (kd, cl) := ⟨_, rfl⟩
            obtain ⟨S, hS⟩ : ∃ S, S = [40] ++ bodyT (p.take j) := ⟨_, rfl⟩
            rw [← hT] at HT HE htl
            have HSE := Lib.hid (show (⟨S.toArray⟩ : ByteArray) ++ ⟨T.toArray⟩ = ⟨([40] ++ bodyT (p.take (j + 1))).toArray⟩ by rw [app_mk, HE.out, hS, List.append_assoc])
            have hSl : S.length ≤ 400 := by rw [hS, List.length_append]; show 1 + _ ≤ _; omega
            rw [← hS]
            have hz1 : ¬ 9223372036854775807 < S.length + T.length := by omega
            clear hx hT hS ha hbl
            go_wp2_with fail
            refine (HT.out _).mono ?_
            rintro e w4 ⟨rfl, hb4⟩
            have HB5 := Lib.hid ((HB3.out.alloc hsz (.cells #[.int .i64 kd, .string ⟨cl.toArray⟩] 24)).trans (hb4.mono (by simp; omega)))
            clear hb4
            go_wp2
            go_roundw
            case rel => exact ⟨j + 1, congrArg Value.string HSE.out, by go_num, by omega, HB5.out⟩
            case measure => simp [intOf]; omega
          · have hltI : ¬ (j : Int) < (n : Int) := by omega
            obtain rfl : j = n := by omega
            have htk : p.take j = p := List.take_of_length_le (by rw [← HN.out]; omega)
            rw [htk] at hbl ⊢
            have hce := (hbw.block _ (blk_lt HN2.out)).trans HN2.out
            have c0 : wr.cell? ⟨w.heap.size, 0, none⟩ = some (.int .i64 k) := cell_of_row _ _ _ _ _ _ hce
            have c1 : wr.cell? ⟨w.heap.size, 1, none⟩ = some (.string ⟨c.toArray⟩) := cell_of_row _ _ _ _ _ _ hce
            obtain ⟨S, hS⟩ : ∃ S, S = [40] ++ bodyT p := ⟨_, rfl⟩
            obtain ⟨T, hT⟩ : ∃ T, T = textT (k, c) := ⟨_, rfl⟩
            have htl := text_le (k, c)
            have hSl : S.length ≤ 400 := by rw [hS, List.length_append]; show 1 + _ ≤ _; omega
            rw [← hT] at HTX htl
            rw [← hS]
            have hwh : wholeT (k, c) p = S ++ ([41] ++ T) := by unfold wholeT; rw [hS, hT]; simp
            have hwl : (wholeT (k, c) p).length = S.length + (1 + T.length) := by rw [hwh, List.length_append, List.length_append]; rfl
            have HWH := Lib.hid (show (⟨S.toArray⟩ : ByteArray) ++ (⟨#[41]⟩ ++ ⟨T.toArray⟩) = ⟨(wholeT (k, c) p).toArray⟩ by rw [show (⟨#[41]⟩ : ByteArray) = ⟨([41] : Tx).toArray⟩ from rfl, app_mk, app_mk, hwh])
            have hz1 : ¬ 9223372036854775807 < 1 + T.length := by omega
            have hz2 : ¬ 9223372036854775807 < S.length + (1 + T.length) := by omega
            have hd := HD.out
            rw [hwl] at hd
            clear hbw htk hbl hce hS hT hwh hwl
            by_cases h64 : 64 < S.length + (1 + T.length)
            · rw [if_pos h64] at hd
              have HDD := Lib.hid hd
              have h64I : (64 : Int) < (S.length : Int) + (1 + (T.length : Int)) := by omega
              clear hd
              go_wp2_with fail
              refine (HTX.out _).mono ?_
              rintro e w4 ⟨rfl, hb4⟩
              have HB5 := Lib.hid (then' HB2.out (HB3.out.trans (hb4.mono HB3.out.size)))
              clear hb4
              go_wp2
              go_ret2
              rw [HDD.out]
              exact ⟨rfl, HB5.out⟩
            · rw [if_neg h64] at hd
              have HDD := Lib.hid hd
              have h64I : ¬ (64 : Int) < (S.length : Int) + (1 + (T.length : Int)) := by omega
              clear hd
              go_wp2_with fail
              refine (HTX.out _).mono ?_
              rintro e w4 ⟨rfl, hb4⟩
              have HB5 := Lib.hid (then' HB2.out (HB3.out.trans (hb4.mono HB3.out.size)))
              clear hb4
              go_wp2
              go_ret2
              rw [HDD.out]
              exact ⟨congrArg (fun z => Ending.returned (.tuple #[Value.string z, .int .i64 0])) HWH.out, HB5.out⟩
end Go.Proofs.YtchhibicbgimcaaDoor.kind

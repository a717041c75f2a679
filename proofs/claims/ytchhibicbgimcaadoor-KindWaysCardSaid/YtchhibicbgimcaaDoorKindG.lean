/-
  Layer 6: descriptors of any types, their renamings, and the classes they name: the program.
-/
import Derived.Test.YtchhibicbgimcaaDoorKindV
import Derived.Laws.OwnMore
/- Layer 6: which of some types is the first wrong one, and a descriptor: the program's answers. -/
namespace Go.Proofs.YtchhibicbgimcaaDoor.kind
open Go.RowKit
open Go.Proofs.YtchhibicbgimcaaDoor.words Go.Proofs.YtchhibicbgimcaaDoor.kindp Go.Proofs.YtchhibicbgimcaaDoor.word Go.Proofs.YtchhibicbgimcaaDoor.rdr

set_option maxRecDepth 100000 in
set_option maxHeartbeats 1600000 in
theorem wrong_w (k : Int) (c : Tx) (w : World) (hc : c.length ≤ 281474976710656) (hv : Vd w) :
    Calls Tryd.prog 40 #[.agg #[.int .i64 k, .string ⟨c.toArray⟩]] w fun e w' => e = .returned (.bool (wrongT (k, c))) ∧ Below w.heap.size w w' := by
  have hal : Below w.heap.size w (w.alloc (.cells #[.int .i64 k, .string ⟨c.toArray⟩] 24)) := (Below.refl _ _).alloc (Nat.le_refl _) _
  obtain ⟨v0, v1⟩ := hv.below hal
  have HR := Lib.hid (fun w => right_w k c w hc)
  have HAL := Lib.hid hal
  by_cases h1 : k = 1
  · subst h1
    by_cases h0 : c = []
    · subst h0
      rw [show wrongT (1, []) = true from rfl]
      clear hc hv hal
      go_enter Tryd.func40, Tryd.ntmps40
      go_wp2
      go_ret
      exact ⟨rfl, HAL.out⟩
    · rw [show wrongT (1, c) = !rightT (1, c) by unfold wrongT; simp [h0]]
      generalize rightT (1, c) = b at *
      clear hc hv hal
      go_enter Tryd.func40, Tryd.ntmps40
      go_wp2_with fail
      refine (HR.out _).mono ?_
      rintro e w1 ⟨rfl, hb1⟩
      have HB := Lib.hid (HAL.out.trans (hb1.mono (by simp)))
      clear hb1
      go_wp2
      go_ret
      exact ⟨rfl, HB.out⟩
  · rw [show wrongT (k, c) = !rightT (k, c) by unfold wrongT; simp [h1]]
    have e1 : (k == 1) = false := by simpa using h1
    generalize rightT (k, c) = b at *
    clear hc hv hal h1
    go_enter Tryd.func40, Tryd.ntmps40
    go_wp2_with fail
    refine (HR.out _).mono ?_
    rintro e w1 ⟨rfl, hb1⟩
    have HB := Lib.hid (HAL.out.trans (hb1.mono (by simp)))
    clear hb1
    go_wp2
    go_ret
    exact ⟨rfl, HB.out⟩

/-- the first of a list that is so -/
def Idx {α : Type} (P : α → Bool) (p : List α) (r : Int) : Prop := (r = -1 ∧ ∀ x ∈ p, P x = false) ∨ ∃ (i : Nat) (x : α), r = (i : Int) ∧ p[i]? = some x ∧ P x = true ∧ ∀ y ∈ p.take i, P y = false
theorem idx_any {α : Type} {P : α → Bool} {p : List α} {r : Int} (h : Idx P p r) : p.any P = decide (0 ≤ r) := by
  rcases h with ⟨rfl, h⟩ | ⟨i, x, rfl, hx, hp, -⟩
  · rw [show decide ((0 : Int) ≤ -1) = false from rfl, List.any_eq_false]
    intro y hy; rw [h y hy]; simp
  · rw [decide_eq_true (by omega), List.any_eq_true]
    exact ⟨x, List.mem_of_getElem? hx, hp⟩
theorem take_more {α : Type} {P : α → Bool} {p : List α} {k : Nat} {x : α} (h : ∀ y ∈ p.take k, P y = false) (hx : p[k]? = some x) (hp : P x = false) : ∀ y ∈ p.take (k + 1), P y = false := by
  intro y hy
  rw [List.take_add_one, hx] at hy
  rcases List.mem_append.1 hy with h1 | h1
  · exact h y h1
  · simp at h1; rw [h1]; exact hp

set_option maxRecDepth 100000 in
set_option maxHeartbeats 1600000 in
theorem index_w (A : Option Addr) (c : Nat) (p : List Ty) (w : World) (hr : Rd w A (TL p)) (hl : p.length ≤ 281474976710656) (hz : ∀ t ∈ p, t.2.length ≤ 281474976710656) (hv : Vd w) :
    Calls Tryd.prog 53 #[.slice A p.length c, .func (.func 40) #[] #[]] w fun e w' => ∃ r, e = .returned (.int .i64 r) ∧ Idx wrongT p r ∧ Below w.heap.size w w' := by
  obtain ⟨n, hn⟩ : ∃ n, n = p.length := ⟨_, rfl⟩
  rw [← hn] at hl ⊢
  have hnI : (n : Int) ≤ 281474976710656 := by omega
  have HN := Lib.hid hn; have HR := Lib.hid hr; have HZ := Lib.hid hz; have HV := Lib.hid hv
  clear hr hz hv hn hl
  go_enter Tryd.func53, Tryd.ntmps53
  go_wp2
  go_loopw [8] (fun i wr => ∃ k : Nat, i = .int .i64 (k : Int) ∧ k ≤ n ∧ (∀ t ∈ p.take k, wrongT t = false) ∧ Below w.heap.size w wr) (fun i _ => n - (intOf i).toNat)
  case atStart => exact ⟨0, rfl, Nat.zero_le _, by simp, Below.refl _ _⟩
  case round =>
    obtain ⟨k, rfl, hk, hall, hbw⟩ := hrel
    have HA := Lib.hid hall; have HB := Lib.hid hbw
    clear hall
    by_cases hlt : k < n
    · have hltI : (k : Int) < (n : Int) := by omega
      obtain ⟨⟨kd, cl⟩, hx⟩ : ∃ x, p[k]? = some x := ⟨p[k]'(by rw [← HN.out]; exact hlt), List.getElem?_eq_getElem _⟩
      obtain ⟨a, rfl, ha, c0, c1⟩ := tl_cell (HR.out.below hbw) hx
      dsimp only at c0 c1
      have HW := Lib.hid (fun w hv => wrong_w kd cl w (HZ.out _ (List.mem_of_getElem? hx)) hv)
      have HVR := Lib.hid (HV.out.below hbw)
      have HX := Lib.hid hx
      have hmt := take_more HA.out hx
      cases hwr : wrongT (kd, cl) with
      | true =>
        rw [hwr] at HW
        have HI := Lib.hid (show Idx wrongT p (k : Int) from .inr ⟨k, _, rfl, hx, hwr, HA.out⟩)
        clear hx hmt hwr hbw ha
        go_wp2_with fail
        refine (HW.out _ HVR.out).mono ?_
        rintro e w1 ⟨rfl, hb1⟩
        have HB1 := Lib.hid (HB.out.trans (hb1.mono HB.out.size))
        clear hb1
        go_wp2
        go_ret
        exact ⟨_, rfl, HI.out, HB1.out⟩
      | false =>
        rw [hwr] at HW
        have HM := Lib.hid (hmt hwr)
        clear hx hmt hwr hbw ha
        go_wp2_with fail
        refine (HW.out _ HVR.out).mono ?_
        rintro e w1 ⟨rfl, hb1⟩
        have HB1 := Lib.hid (HB.out.trans (hb1.mono HB.out.size))
        clear hb1
        go_wp2
        go_roundw
        case rel => exact ⟨k + 1, by go_num, by omega, HM.out, HB1.out⟩
        case measure => simp [intOf]; omega
    · have hltI : ¬ (k : Int) < (n : Int) := by omega
      have hall := HA.out
      rw [List.take_of_length_le (by rw [← HN.out]; omega)] at hall
      have HI := Lib.hid (show Idx wrongT p (-1) from .inl ⟨rfl, hall⟩)
      clear hall hbw
      go_wp2
      go_ret
      exact ⟨_, rfl, HI.out, HB.out⟩

set_option maxRecDepth 100000 in
theorem contains_w (A : Option Addr) (c : Nat) (p : List Ty) (w : World) (hr : Rd w A (TL p)) (hl : p.length ≤ 281474976710656) (hz : ∀ t ∈ p, t.2.length ≤ 281474976710656) (hv : Vd w) :
    Calls Tryd.prog 41 #[.slice A p.length c, .func (.func 40) #[] #[]] w fun e w' => e = .returned (.bool (p.any wrongT)) ∧ Below w.heap.size w w' := by
  have HI := Lib.hid (index_w A c p w hr hl hz hv)
  generalize p.length = n at *
  clear hr hl hz hv
  go_enter Tryd.func41, Tryd.ntmps41
  go_wp2_with fail
  refine HI.out.mono ?_
  rintro e w1 ⟨r, rfl, hi, hb⟩
  have HX := Lib.hid (idx_any hi)
  have HB := Lib.hid hb
  clear hi hb
  go_wp2
  go_ret
  exact ⟨by rw [HX.out]; rfl, HB.out⟩
end Go.Proofs.YtchhibicbgimcaaDoor.kind

/- Layer 6: a descriptor of any types: the program's answer. -/
namespace Go.Proofs.YtchhibicbgimcaaDoor.kind
open Go.RowKit
open Go.Proofs.YtchhibicbgimcaaDoor.words Go.Proofs.YtchhibicbgimcaaDoor.kindp Go.Proofs.YtchhibicbgimcaaDoor.word Go.Proofs.YtchhibicbgimcaaDoor.rdr

theorem body_le : ∀ p : List Ty, (bodyT p).length ≤ 35 * p.length
  | [] => Nat.le_refl _
  | t :: p => by
    have := body_le p; have := text_le t
    show (textT t ++ bodyT p).length ≤ 35 * (p.length + 1)
    rw [List.length_append]; omega
theorem body_take {p : List Ty} {k : Nat} {t : Ty} (h : p[k]? = some t) : bodyT (p.take (k + 1)) = bodyT (p.take k) ++ textT t := by
  unfold bodyT; rw [List.take_add_one, h]; simp
/-- what Desc answers -/
def DescW (x : Tx × Nat) (w : World) (e : Ending) (w' : World) : Prop := e = .returned (.tuple #[.string ⟨x.1.toArray⟩, .int .i64 (x.2 : Int)]) ∧ Below w.heap.size w w'

set_option maxRecDepth 100000 in
set_option maxHeartbeats 2000000 in
theorem desc_w (k : Int) (c : Tx) (A : Option Addr) (cc : Nat) (p : List Ty) (w : World) (hc : c.length ≤ 281474976710656) (hr : Rd w A (TL p)) (hl : p.length ≤ 281474976710656) (hz : ∀ t ∈ p, t.2.length ≤ 281474976710656) (hv : Vd w) :
    Calls Tryd.prog 19 #[.agg #[.int .i64 k, .string ⟨c.toArray⟩], .slice A p.length cc] w (DescW (descT (k, c) p) w) := by
  have hal : Below w.heap.size w (w.alloc (.cells #[.int .i64 k, .string ⟨c.toArray⟩] 24)) := (Below.refl _ _).alloc (Nat.le_refl _) _
  have HAL := Lib.hid hal
  have HNW := Lib.hid (heap_alloc_new w (.cells #[.int .i64 k, .string ⟨c.toArray⟩] 24))
  have HRT := (fun w => right_w k c w hc)
  have HTX := Lib.hid (fun w => text_w k c w hc)
  have HC := (fun w hr hv => contains_w A cc p w hr hl hz hv)
  obtain ⟨n, hn⟩ : ∃ n, n = p.length := ⟨_, rfl⟩
  rw [← hn] at hl HC ⊢
  have hnI : (n : Int) ≤ 281474976710656 := by omega
  have HN := Lib.hid hn; have HR := Lib.hid hr; have HZ := Lib.hid hz; have HV := Lib.hid hv
  cases hrt : rightT (k, c) with
  | false =>
    rw [hrt] at HRT
    have HRR := Lib.hid HRT
    have HD := Lib.hid (show descT (k, c) p = ([], 1) by unfold descT; rw [hrt]; rfl)
    clear HRT hc hr hl hz hv hal hn hrt HC
    go_enter Tryd.func19, Tryd.ntmps19
    go_wp2_with fail
    refine (HRR.out _).mono ?_
    rintro e w1 ⟨rfl, hb1⟩
    have HB := Lib.hid (HAL.out.trans (hb1.mono (by simp)))
    clear hb1
    go_wp2
    go_ret2
    rw [HD.out]
    exact ⟨rfl, HB.out⟩
  | true =>
    rw [hrt] at HRT
    have HRR := Lib.hid HRT
    cases hany : p.any wrongT with
    | true =>
      rw [hany] at HC
      have HCC := Lib.hid HC
      have HD := Lib.hid (show descT (k, c) p = ([], 1) by unfold descT; rw [hrt, hany]; rfl)
      clear HRT hc hr hl hz hv hal hn hrt HC hany
      go_enter Tryd.func19, Tryd.ntmps19
      go_wp2_with fail
      refine (HRR.out _).mono ?_
      rintro e w1 ⟨rfl, hb1⟩
      have hb2 := HAL.out.trans (hb1.mono (by simp))
      have HB := Lib.hid hb2
      have HR1 := Lib.hid (HR.out.below hb2); have HV1 := Lib.hid (HV.out.below hb2)
      clear hb1 hb2
      go_wp2_with fail
      refine (HCC.out _ HR1.out HV1.out).mono ?_
      rintro e w2 ⟨rfl, hb2⟩
      have HB2 := Lib.hid (then' HB.out hb2)
      clear hb2
      go_wp2
      go_ret2
      rw [HD.out]
      exact ⟨rfl, HB2.out⟩
    | false =>
      rw [hany] at HC
      have HCC := Lib.hid HC
      by_cases h8 : 8 < n
      · have h8I : (8 : Int) < (n : Int) := by omega
        have HD := Lib.hid (show descT (k, c) p = ([], 3) by unfold descT; rw [hrt, hany, if_neg (by simp), if_pos (.inl (by omega))])
        clear HRT hc hr hl hz hv hal hn hrt HC hany h8
        go_enter Tryd.func19, Tryd.ntmps19
        go_wp2_with fail
        refine (HRR.out _).mono ?_
        rintro e w1 ⟨rfl, hb1⟩
        have hb2 := HAL.out.trans (hb1.mono (by simp))
        have HB := Lib.hid hb2
        have HR1 := Lib.hid (HR.out.below hb2); have HV1 := Lib.hid (HV.out.below hb2)
        clear hb1 hb2
        go_wp2_with fail
        refine (HCC.out _ HR1.out HV1.out).mono ?_
        rintro e w2 ⟨rfl, hb2⟩
        have HB2 := Lib.hid (then' HB.out hb2)
        clear hb2
        go_wp2
        go_ret2
        rw [HD.out]
        exact ⟨rfl, HB2.out⟩
      · have h8I : ¬ (8 : Int) < (n : Int) := by omega
        have hD : descT (k, c) p = if 64 < (wholeT (k, c) p).length then ([], 3) else (wholeT (k, c) p, 0) := by
          unfold descT; rw [hrt, hany, if_neg (by simp)]
          by_cases h64 : 64 < (wholeT (k, c) p).length
          · rw [if_pos (.inr h64), if_pos h64]
          · rw [if_neg (by rintro (h | h) <;> omega), if_neg h64]
        have HD := Lib.hid hD
        have hn8 : n ≤ 8 := by omega
        clear HRT hc hr hl hz hv hal hn hrt HC hany h8 hD
        go_enter Tryd.func19, Tryd.ntmps19
        go_wp2_with fail
        refine (HRR.out _).mono ?_
        rintro e w1 ⟨rfl, hb1⟩
        have hb2 := HAL.out.trans (hb1.mono (by simp))
        have HB := Lib.hid hb2
        have HR1 := Lib.hid (HR.out.below hb2); have HV1 := Lib.hid (HV.out.below hb2)
        have HN1 := Lib.hid ((hb1.block _ (by simp)).trans HNW.out)
        clear hb1 hb2
        go_wp2_with fail
        refine (HCC.out _ HR1.out HV1.out).mono ?_
        rintro e w2 ⟨rfl, hb2⟩
        have HB2 := Lib.hid (then' HB.out hb2); have HR2 := Lib.hid (HR1.out.below hb2)
        have HN2 := Lib.hid ((hb2.block _ (blk_lt HN1.out)).trans HN1.out)
        clear hb2
        go_wp2
        go_loopw [7, 23] (fun s i wr => ∃ k : Nat, s = .string ⟨([40] ++ bodyT (p.take k)).toArray⟩ ∧ i = .int .i64 (k : Int) ∧ k ≤ n ∧ Below w2.heap.size w2 wr) (fun _ i _ => n - (intOf i).toNat)
        case atStart => exact ⟨0, rfl, rfl, Nat.zero_le _, Below.refl _ _⟩
        case round =>
          obtain ⟨j, rfl, rfl, hj, hbw⟩ := hrel
          have HB3 := Lib.hid hbw
          have hsz := hbw.size
          have hbl := body_le (p.take j)
          rw [List.length_take] at hbl
          by_cases hlt : j < n
          · have hltI : (j : Int) < (n : Int) := by omega
            obtain ⟨⟨kd, cl⟩, hx⟩ : ∃ x, p[j]? = some x := ⟨p[j]'(by rw [← HN.out]; exact hlt), List.getElem?_eq_getElem _⟩
            obtain ⟨a, rfl, ha, c0, c1⟩ := tl_cell (HR2.out.below hbw) hx
            dsimp only at c0 c1
            have htl := text_le (kd, cl)
            have HT := Lib.hid (fun w => text_w kd cl w (HZ.out _ (List.mem_of_getElem? hx)))
            have HE := Lib.hid (body_take hx)
            obtain ⟨T, hT⟩ : ∃ T, T = textT (kd, cl) := ⟨_, rfl⟩
            obtain ⟨S, hS⟩ : ∃ S, S = [40] ++ bodyT (p.take j) := ⟨_, rfl⟩
            rw [← hT] at HT HE htl
            have HSE := Lib.hid (show (⟨S.toArray⟩ : ByteArray) ++ ⟨T.toArray⟩ = ⟨([40] ++ bodyT (p.take (j + 1))).toArray⟩ by rw [app_mk, HE.out, hS, List.append_assoc])
            have hSl : S.length ≤ 400 := by rw [hS, List.length_append]; show 1 + _ ≤ _; omega
            rw [← hS]
            have hz1 : ¬ 9223372036854775807 < S.length + T.length := by omega
            clear hx hT hS ha hbl
            go_wp2_with fail
            refine (HT.out _).mono ?_
            rintro e w4 ⟨rfl, hb4⟩
            have HB5 := Lib.hid ((HB3.out.alloc hsz (.cells #[.int .i64 kd, .string ⟨cl.toArray⟩] 24)).trans (hb4.mono (by simp; omega)))
            clear hb4
            go_wp2
            go_roundw
            case rel => exact ⟨j + 1, congrArg Value.string HSE.out, by go_num, by omega, HB5.out⟩
            case measure => simp [intOf]; omega
          · have hltI : ¬ (j : Int) < (n : Int) := by omega
            obtain rfl : j = n := by omega
            have htk : p.take j = p := List.take_of_length_le (by rw [← HN.out]; omega)
            rw [htk] at hbl ⊢
            have hce := (hbw.block _ (blk_lt HN2.out)).trans HN2.out
            have c0 : wr.cell? ⟨w.heap.size, 0, none⟩ = some (.int .i64 k) := cell_of_row _ _ _ _ _ _ hce
            have c1 : wr.cell? ⟨w.heap.size, 1, none⟩ = some (.string ⟨c.toArray⟩) := cell_of_row _ _ _ _ _ _ hce
            obtain ⟨S, hS⟩ : ∃ S, S = [40] ++ bodyT p := ⟨_, rfl⟩
            obtain ⟨T, hT⟩ : ∃ T, T = textT (k, c) := ⟨_, rfl⟩
            have htl := text_le (k, c)
            have hSl : S.length ≤ 400 := by rw [hS, List.length_append]; show 1 + _ ≤ _; omega
            rw [← hT] at HTX htl
            rw [← hS]
            have hwh : wholeT (k, c) p = S ++ ([41] ++ T) := by unfold wholeT; rw [hS, hT]; simp
            have hwl : (wholeT (k, c) p).length = S.length + (1 + T.length) := by rw [hwh, List.length_append, List.length_append]; rfl
            have HWH := Lib.hid (show (⟨S.toArray⟩ : ByteArray) ++ (⟨#[41]⟩ ++ ⟨T.toArray⟩) = ⟨(wholeT (k, c) p).toArray⟩ by rw [show (⟨#[41]⟩ : ByteArray) = ⟨([41] : Tx).toArray⟩ from rfl, app_mk, app_mk, hwh])
            have hz1 : ¬ 9223372036854775807 < 1 + T.length := by omega
            have hz2 : ¬ 9223372036854775807 < S.length + (1 + T.length) := by omega
            have hd := HD.out
            rw [hwl] at hd
            clear hbw htk hbl hce hS hT hwh hwl
            by_cases h64 : 64 < S.length + (1 + T.length)
            · rw [if_pos h64] at hd
              have HDD := Lib.hid hd
              have h64I : (64 : Int) < (S.length : Int) + (1 + (T.length : Int)) := by omega
              clear hd
              go_wp2_with fail
              refine (HTX.out _).mono ?_
              rintro e w4 ⟨rfl, hb4⟩
              have HB5 := Lib.hid (then' HB2.out (HB3.out.trans (hb4.mono HB3.out.size)))
              clear hb4
              go_wp2
              go_ret2
              rw [HDD.out]
              exact ⟨rfl, HB5.out⟩
            · rw [if_neg h64] at hd
              have HDD := Lib.hid hd
              have h64I : ¬ (64 : Int) < (S.length : Int) + (1 + (T.length : Int)) := by omega
              clear hd
              go_wp2_with fail
              refine (HTX.out _).mono ?_
              rintro e w4 ⟨rfl, hb4⟩
              have HB5 := Lib.hid (then' HB2.out (HB3.out.trans (hb4.mono HB3.out.size)))
              clear hb4
              go_wp2
              go_ret2
              rw [HDD.out]
              exact ⟨congrArg (fun z => Ending.returned (.tuple #[Value.string z, .int .i64 0])) HWH.out, HB5.out⟩
end Go.Proofs.YtchhibicbgimcaaDoor.kind

/- Layer 6: types with other classes' names: the program's answer. -/
namespace Go.Proofs.YtchhibicbgimcaaDoor.kind
open Go.RowKit
open Go.Proofs.YtchhibicbgimcaaDoor.words Go.Proofs.YtchhibicbgimcaaDoor.kindp Go.Proofs.YtchhibicbgimcaaDoor.word Go.Proofs.YtchhibicbgimcaaDoor.rdr

/-- pairs, cell by cell -/
def PL (l : List Pr) : List Value := l.flatMap fun q => [.string ⟨q.1.toArray⟩, .string ⟨q.2.toArray⟩]
theorem PL_app (a b : List Pr) : PL (a ++ b) = PL a ++ PL b := by simp [PL]
theorem PL_len : ∀ l : List Pr, (PL l).length = l.length * 2
  | [] => rfl
  | t :: l => by
    have := PL_len l
    show (PL ([t] ++ l)).length = _
    rw [PL_app, List.length_append, this]
    show 2 + l.length * 2 = (l.length + 1) * 2
    omega
theorem PL_at : ∀ {l : List Pr} {i : Nat} {t : Pr}, l[i]? = some t → (PL l)[i * 2]? = some (.string ⟨t.1.toArray⟩) ∧ (PL l)[i * 2 + 1]? = some (.string ⟨t.2.toArray⟩)
  | [], _, _, h => by simp at h
  | x :: l, 0, t, h => by simp at h; subst h; exact ⟨rfl, rfl⟩
  | x :: l, i + 1, t, h => by
    have h2 : l[i]? = some t := by simpa using h
    have ih := PL_at h2
    have e : PL (x :: l) = [.string ⟨x.1.toArray⟩, .string ⟨x.2.toArray⟩] ++ PL l := rfl
    rw [e, show (i + 1) * 2 = i * 2 + 2 by omega, show i * 2 + 2 + 1 = (i * 2 + 1) + 2 by omega]
    simpa using ih
theorem pl_cell {w : World} {A : Option Addr} {l : List Pr} (h : Rd w A (PL l)) {i : Nat} {t : Pr} (hi : l[i]? = some t) :
    ∃ a, A = some a ∧ a.block < w.heap.size ∧ w.cell? (a.add (i * 2)) = some (.string ⟨t.1.toArray⟩) ∧ w.cell? ⟨(a.add (i * 2)).block, (a.add (i * 2)).off + 1, none⟩ = some (.string ⟨t.2.toArray⟩) := by
  obtain ⟨h0, h1⟩ := PL_at hi
  obtain ⟨a, rfl, hb, hc⟩ := h.at_ h0
  obtain ⟨a', e, _, hc1⟩ := h.at_ h1
  cases e
  exact ⟨a, rfl, hb, hc, by rw [← add_add] at hc1; exact hc1⟩
/-- a pair of that name -/
def olds (c : Tx) (q : Pr) : Bool := decide (q.1 = c)
theorem beq_tx (a b : Tx) : (a == b) = decide (a = b) := by
  by_cases h : a = b
  · subst h; simp
  · rw [decide_eq_false h]; simpa using h
theorem find_idx {α : Type} {P : α → Bool} : ∀ {l : List α} {i : Nat} {x : α}, l[i]? = some x → P x = true → (∀ y ∈ l.take i, P y = false) → l.find? P = some x
  | [], _, _, h, _, _ => by simp at h
  | y :: l, 0, x, h, hp, _ => by simp at h; subst h; simp [hp]
  | y :: l, i + 1, x, h, hp, ha => by
    have h2 : l[i]? = some x := by simpa using h
    have hy := ha y (by simp)
    rw [List.find?_cons_of_neg (by rw [hy]; simp)]
    exact find_idx h2 hp (fun z hz => ha z (by simp [hz]))
theorem look_idx {l : List Pr} {c : Tx} {r : Int} (h : Idx (olds c) l r) : (r = -1 ∧ lookT l c = none) ∨ ∃ (i : Nat) (q : Pr), r = (i : Int) ∧ l[i]? = some q ∧ lookT l c = some q.2 := by
  rcases h with ⟨rfl, h⟩ | ⟨i, q, rfl, hq, hp, hall⟩
  · refine .inl ⟨rfl, ?_⟩
    unfold lookT
    rw [List.find?_eq_none.2 (fun x hx => by have := h x hx; unfold olds at this; rw [this]; simp)]; rfl
  · refine .inr ⟨i, q, rfl, hq, ?_⟩
    unfold lookT
    rw [show (fun q : Pr => decide (q.1 = c)) = olds c from rfl, find_idx hq hp hall]; rfl

set_option maxRecDepth 100000 in
set_option maxHeartbeats 1600000 in
theorem old_w (o n : Tx) (g : Nat) (c : Tx) (w : World) (hg : w.cell? ⟨g, 1, none⟩ = some (.string ⟨c.toArray⟩)) :
    Calls Tryd.prog 46 #[.agg #[.string ⟨o.toArray⟩, .string ⟨n.toArray⟩], .pointer (some ⟨g, 0, none⟩)] w fun e w' => e = .returned (.bool (olds c (o, n))) ∧ Below w.heap.size w w' := by
  have hal : Below w.heap.size w (w.alloc (.cells #[.string ⟨o.toArray⟩, .string ⟨n.toArray⟩] 51)) := (Below.refl _ _).alloc (Nat.le_refl _) _
  have hg2 := (hal.cell (World.block_lt_of_cell? _ _ hg)).trans hg
  have HAL := Lib.hid hal
  have HE := Lib.hid (show (o == c) = olds c (o, n) from beq_tx o c)
  obtain ⟨b, hb⟩ : ∃ b, (o == c) = b := ⟨_, rfl⟩
  have HB := Lib.hid hb
  clear hal hg
  go_enter Tryd.func46, Tryd.ntmps46
  go_wp2
  go_ret
  exact ⟨by rw [← HE.out, HB.out]; rfl, HAL.out⟩

set_option maxRecDepth 100000 in
set_option maxHeartbeats 1600000 in
theorem index_p (A : Option Addr) (c : Nat) (p : List Pr) (g : Nat) (x0 : Tx) (w : World) (hr : Rd w A (PL p)) (hl : p.length ≤ 281474976710656) (hv : w.cell? ⟨g, 1, none⟩ = some (.string ⟨x0.toArray⟩)) :
    Calls Tryd.prog 45 #[.slice A p.length c, .func (.func 46) #[] #[.pointer (some ⟨g, 0, none⟩)]] w fun e w' => ∃ r, e = .returned (.int .i64 r) ∧ Idx (olds x0) p r ∧ Below w.heap.size w w' := by
  obtain ⟨n, hn⟩ : ∃ n, n = p.length := ⟨_, rfl⟩
  rw [← hn] at hl ⊢
  have hnI : (n : Int) ≤ 281474976710656 := by omega
  have HN := Lib.hid hn; have HR := Lib.hid hr; have HV := Lib.hid hv
  clear hr hv hn hl
  go_enter Tryd.func45, Tryd.ntmps45
  go_wp2
  go_loopw [8] (fun i wr => ∃ k : Nat, i = .int .i64 (k : Int) ∧ k ≤ n ∧ (∀ t ∈ p.take k, (olds x0) t = false) ∧ Below w.heap.size w wr) (fun i _ => n - (intOf i).toNat)
  case atStart => exact ⟨0, rfl, Nat.zero_le _, by simp, Below.refl _ _⟩
  case round =>
    obtain ⟨k, rfl, hk, hall, hbw⟩ := hrel
    have HA := Lib.hid hall; have HB := Lib.hid hbw
    clear hall
    by_cases hlt : k < n
    · have hltI : (k : Int) < (n : Int) := by omega
      obtain ⟨⟨kd, cl⟩, hx⟩ : ∃ x, p[k]? = some x := ⟨p[k]'(by rw [← HN.out]; exact hlt), List.getElem?_eq_getElem _⟩
      obtain ⟨a, rfl, ha, c0, c1⟩ := pl_cell (HR.out.below hbw) hx
      dsimp only at c0 c1
      have HW := Lib.hid (fun w hv => old_w kd cl g x0 w hv)
      have HVR := Lib.hid ((hbw.cell (World.block_lt_of_cell? _ _ HV.out)).trans HV.out)
      have HX := Lib.hid hx
      have hmt := take_more HA.out hx
      cases hwr : (olds x0) (kd, cl) with
      | true =>
        rw [hwr] at HW
        have HI := Lib.hid (show Idx (olds x0) p (k : Int) from .inr ⟨k, _, rfl, hx, hwr, HA.out⟩)
        clear hx hmt hwr hbw ha
        go_wp2_with fail
        refine (HW.out _ HVR.out).mono ?_
        rintro e w1 ⟨rfl, hb1⟩
        have HB1 := Lib.hid (HB.out.trans (hb1.mono HB.out.size))
        clear hb1
        go_wp2
        go_ret
        exact ⟨_, rfl, HI.out, HB1.out⟩
      | false =>
        rw [hwr] at HW
        have HM := Lib.hid (hmt hwr)
        clear hx hmt hwr hbw ha
        go_wp2_with fail
        refine (HW.out _ HVR.out).mono ?_
        rintro e w1 ⟨rfl, hb1⟩
        have HB1 := Lib.hid (HB.out.trans (hb1.mono HB.out.size))
        clear hb1
        go_wp2
        go_roundw
        case rel => exact ⟨k + 1, by go_num, by omega, HM.out, HB1.out⟩
        case measure => simp [intOf]; omega
    · have hltI : ¬ (k : Int) < (n : Int) := by omega
      have hall := HA.out
      rw [List.take_of_length_le (by rw [← HN.out]; omega)] at hall
      have HI := Lib.hid (show Idx (olds x0) p (-1) from .inl ⟨rfl, hall⟩)
      clear hall hbw
      go_wp2
      go_ret
      exact ⟨_, rfl, HI.out, HB.out⟩


/-- THE PROGRAM's TYPE WITH ANOTHER CLASS's NAME. -/
def RenW (x : Ty) (w : World) (e : Ending) (w' : World) : Prop := e = .returned (.agg #[.int .i64 x.1, .string ⟨x.2.toArray⟩]) ∧ Below w.heap.size w w'

set_option maxRecDepth 100000 in
set_option maxHeartbeats 1600000 in
theorem ren_w (k : Int) (c : Tx) (A : Option Addr) (cc : Nat) (l : List Pr) (w : World) (hr : Rd w A (PL l)) (hl : l.length ≤ 281474976710656) :
    Calls Tryd.prog 27 #[.agg #[.int .i64 k, .string ⟨c.toArray⟩], .slice A l.length cc] w (RenW (renT l (k, c)) w) := by
  have hmf : ∀ (fn : Fn) (first cap : Array Value) (w : World), (Instr.makeFunc fn first cap).run Tryd.prog w = .ok (.func fn first cap) w := fun _ _ _ _ => rfl
  have hal : Below w.heap.size w ((w.alloc (.cells #[.int .i64 k, .string ⟨c.toArray⟩] 24)).alloc (.cells #[.int .i64 0, .string ⟨#[]⟩] 24)) := ((Below.refl _ _).alloc (Nat.le_refl _) _).alloc (by simp) _
  have HAL := Lib.hid hal
  have hnw := two_new w (.cells #[.int .i64 k, .string ⟨c.toArray⟩] 24) (.cells #[.int .i64 0, .string ⟨#[]⟩] 24)
  have HNW := Lib.hid hnw
  have HI := Lib.hid (index_p A cc l w.heap.size c _ (hr.below hal) hl (by rw [cell_of_row _ _ _ _ _ _ hnw.1]; rfl))
  have HH := (fun w => has_w k c w)
  obtain ⟨n, hn⟩ : ∃ n, n = l.length := ⟨_, rfl⟩
  rw [← hn] at hl HI ⊢
  have HN := Lib.hid hn; have HR := Lib.hid (hr.below hal)
  have hnI : (n : Int) ≤ 281474976710656 := by omega
  clear hnw hal hr hn hl
  go_enter Tryd.func27, Tryd.ntmps27
  go_wp2_with fail
  refine HI.out.mono ?_
  rintro e w1 ⟨r, rfl, hidx, hb1⟩
  have hli := look_idx hidx
  have hg0 := (hb1.block _ (by simp; omega)).trans HNW.out.1
  have hg1 := (hb1.block _ (by simp)).trans HNW.out.2
  have hr1 := HR.out.below hb1
  have HB := Lib.hid (HAL.out.trans (hb1.mono (by simp; omega)))
  clear hidx hb1 HI HNW HR
  have c00 : w1.cell? ⟨w.heap.size, 0, none⟩ = some (.int .i64 k) := cell_of_row _ _ _ _ _ _ hg0
  have c01 : w1.cell? ⟨w.heap.size, 1, none⟩ = some (.string ⟨c.toArray⟩) := cell_of_row _ _ _ _ _ _ hg0
  have HG0 := Lib.hid hg0; have HG1 := Lib.hid hg1; have HR1 := Lib.hid hr1
  clear hg0 hg1 hr1
  cases hb : hasB k with
  | false =>
    rw [hb] at HH
    have HHH := Lib.hid HH
    have HD := Lib.hid (show renT l (k, c) = (k, c) by unfold renT; rw [if_neg (by rw [hb]; simp)])
    clear HH hb hli
    go_wp2_with fail
    refine (HHH.out _).mono ?_
    rintro e w2 ⟨rfl, hb2⟩
    have hg02 := (hb2.block _ (blk_lt HG0.out)).trans HG0.out
    have hg12 := (hb2.block _ (blk_lt HG1.out)).trans HG1.out
    have d00 : w2.cell? ⟨w.heap.size, 0, none⟩ = some (.int .i64 k) := cell_of_row _ _ _ _ _ _ hg02
    have d01 : w2.cell? ⟨w.heap.size, 1, none⟩ = some (.string ⟨c.toArray⟩) := cell_of_row _ _ _ _ _ _ hg02
    have d10 : w2.cell? ⟨w.heap.size + 1, 0, none⟩ = some (.int .i64 0) := cell_of_row _ _ _ _ _ _ hg12
    have d11 : w2.cell? ⟨w.heap.size + 1, 1, none⟩ = some (.string ⟨#[]⟩) := cell_of_row _ _ _ _ _ _ hg12
    have f10 := frozen_of_row w2 _ 0 _ _ hg12
    have f11 := frozen_of_row w2 _ 1 _ _ hg12
    have HB2 := Lib.hid (then' HB.out hb2)
    obtain ⟨z0, z1, -⟩ := two_set hg12 (.int .i64 k) (.string ⟨c.toArray⟩)
    clear hb2 hg02 hg12 c00 c01
    go_wp2
    exact bodyPost_ret (v := .agg #[.int .i64 k, .string ⟨c.toArray⟩]) (by simp [results, Tryd.results27, go_sem, z0, z1]) rfl ⟨by rw [HD.out], (HB2.out.setCell (by simp) _).setCell (by simp) _⟩
  | true =>
    rw [hb] at HH
    have HHH := Lib.hid HH
    rcases hli with ⟨rfl, hlk⟩ | ⟨i, q, rfl, hq, hlk⟩
    · have HD := Lib.hid (show renT l (k, c) = (k, c) by unfold renT; rw [if_pos hb, hlk])
      clear HH hb hlk
      go_wp2_with fail
      refine (HHH.out _).mono ?_
      rintro e w2 ⟨rfl, hb2⟩
      have hg02 := (hb2.block _ (blk_lt HG0.out)).trans HG0.out
      have hg12 := (hb2.block _ (blk_lt HG1.out)).trans HG1.out
      have d00 : w2.cell? ⟨w.heap.size, 0, none⟩ = some (.int .i64 k) := cell_of_row _ _ _ _ _ _ hg02
      have d01 : w2.cell? ⟨w.heap.size, 1, none⟩ = some (.string ⟨c.toArray⟩) := cell_of_row _ _ _ _ _ _ hg02
      have d10 : w2.cell? ⟨w.heap.size + 1, 0, none⟩ = some (.int .i64 0) := cell_of_row _ _ _ _ _ _ hg12
      have d11 : w2.cell? ⟨w.heap.size + 1, 1, none⟩ = some (.string ⟨#[]⟩) := cell_of_row _ _ _ _ _ _ hg12
      have f10 := frozen_of_row w2 _ 0 _ _ hg12
      have f11 := frozen_of_row w2 _ 1 _ _ hg12
      have HB2 := Lib.hid (then' HB.out hb2)
      obtain ⟨z0, z1, -⟩ := two_set hg12 (.int .i64 k) (.string ⟨c.toArray⟩)
      clear hb2 hg02 hg12 c00 c01
      go_wp2
      exact bodyPost_ret (v := .agg #[.int .i64 k, .string ⟨c.toArray⟩]) (by simp [results, Tryd.results27, go_sem, z0, z1]) rfl ⟨by rw [HD.out], (HB2.out.setCell (by simp) _).setCell (by simp) _⟩
    · have HD := Lib.hid (show renT l (k, c) = (k, q.2) by unfold renT; rw [if_pos hb, hlk])
      have HQ := Lib.hid hq
      clear HH hb hlk hq
      go_wp2_with fail
      refine (HHH.out _).mono ?_
      rintro e w2 ⟨rfl, hb2⟩
      have hg02 := (hb2.block _ (blk_lt HG0.out)).trans HG0.out
      have hg12 := (hb2.block _ (blk_lt HG1.out)).trans HG1.out
      have d00 : w2.cell? ⟨w.heap.size, 0, none⟩ = some (.int .i64 k) := cell_of_row _ _ _ _ _ _ hg02
      have d01 : w2.cell? ⟨w.heap.size, 1, none⟩ = some (.string ⟨c.toArray⟩) := cell_of_row _ _ _ _ _ _ hg02
      have d10 : w2.cell? ⟨w.heap.size + 1, 0, none⟩ = some (.int .i64 0) := cell_of_row _ _ _ _ _ _ hg12
      have d11 : w2.cell? ⟨w.heap.size + 1, 1, none⟩ = some (.string ⟨#[]⟩) := cell_of_row _ _ _ _ _ _ hg12
      have f10 := frozen_of_row w2 _ 0 _ _ hg12
      have f11 := frozen_of_row w2 _ 1 _ _ hg12
      have HB2 := Lib.hid (then' HB.out hb2)
      have f01 := frozen_of_row w2 _ 1 _ _ hg02
      obtain ⟨qo, qn⟩ := q
      obtain ⟨a, rfl, ha, p0, p1⟩ := pl_cell (HR1.out.below hb2) HQ.out
      dsimp only at p0 p1 HD
      have hg13 := but_ne ((But.refl w.heap.size w2).set 1 (.string ⟨qn.toArray⟩)) hg12 (by omega)
      obtain ⟨z0, z1, -⟩ := two_set hg13 (.int .i64 k) (.string ⟨qn.toArray⟩)
      have HZ0 := Lib.hid z0; have HZ1 := Lib.hid z1
      have hin : i < n := by
        rcases Nat.lt_or_ge i l.length with h | h
        · rw [HN.out]; exact h
        · have := HQ.out; rw [List.getElem?_eq_none h] at this; cases this
      have hiI : (i : Int) < (n : Int) := by omega
      clear hb2 hg02 hg12 hg13 c00 c01 ha z0 z1
      go_wp2
      exact bodyPost_ret (v := .agg #[.int .i64 k, .string ⟨qn.toArray⟩]) (by simp [results, Tryd.results27, go_sem, HZ0.out, HZ1.out]) rfl ⟨by rw [HD.out], ((HB2.out.setCell (by simp) _).setCell (by simp) _).setCell (by simp) _⟩
end Go.Proofs.YtchhibicbgimcaaDoor.kind

/- Layer 6: a descriptor with other classes' names: the program's answer. -/
namespace Go.Proofs.YtchhibicbgimcaaDoor.kind
open Go.RowKit
open Go.Proofs.YtchhibicbgimcaaDoor.words Go.Proofs.YtchhibicbgimcaaDoor.kindp Go.Proofs.YtchhibicbgimcaaDoor.word Go.Proofs.YtchhibicbgimcaaDoor.rdr

theorem TL_set : ∀ {l : List Ty} {j : Nat} (y : Ty), j < l.length → ((TL l).set (j * 2) (.int .i64 y.1)).set (j * 2 + 1) (.string ⟨y.2.toArray⟩) = TL (l.set j y)
  | [], _, _, h => by simp at h
  | x :: l, 0, y, _ => rfl
  | x :: l, j + 1, y, h => by
    have ih := TL_set (l := l) (j := j) y (by simpa using h)
    rw [show (j + 1) * 2 = (j * 2) + 1 + 1 by omega]
    have e : TL (x :: l) = .int .i64 x.1 :: .string ⟨x.2.toArray⟩ :: TL l := rfl
    have e2 : TL ((x :: l).set (j + 1) y) = .int .i64 x.1 :: .string ⟨x.2.toArray⟩ :: TL (l.set j y) := rfl
    rw [e, e2, ← ih]
    rfl
/-- the first of them are renamed -/
def mixT (l : List Pr) (p : List Ty) (j : Nat) : List Ty := (p.take j).map (renT l) ++ p.drop j
theorem mix_len (l : List Pr) (p : List Ty) (j : Nat) : (mixT l p j).length = p.length := by
  unfold mixT; rw [List.length_append, List.length_map, List.length_take, List.length_drop]; omega
theorem mix_at {l : List Pr} {p : List Ty} {j : Nat} {x : Ty} (h : p[j]? = some x) : (mixT l p j)[j]? = some x := by
  have hj : j < p.length := by
    rcases Nat.lt_or_ge j p.length with h1 | h1
    · exact h1
    · rw [List.getElem?_eq_none h1] at h; cases h
  unfold mixT
  rw [List.getElem?_append_right (by rw [List.length_map, List.length_take]; omega), List.length_map, List.length_take, List.getElem?_drop, show j + (j - min j p.length) = j by omega]
  exact h
theorem mix_next {l : List Pr} {p : List Ty} {j : Nat} {x : Ty} (h : p[j]? = some x) : (mixT l p j).set j (renT l x) = mixT l p (j + 1) := by
  have hj : j < p.length := by
    rcases Nat.lt_or_ge j p.length with h1 | h1
    · exact h1
    · rw [List.getElem?_eq_none h1] at h; cases h
  unfold mixT
  have e : p.drop j = x :: p.drop (j + 1) := by
    rw [List.getElem?_eq_some_iff] at h
    obtain ⟨h1, h2⟩ := h
    rw [List.drop_eq_getElem_cons h1, h2]
  rw [e, List.take_add_one, h, List.set_append_right _ _ (by rw [List.length_map, List.length_take]; omega), List.length_map, List.length_take, show j - min j p.length = 0 by omega]
  simp
theorem mix_zero (l : List Pr) (p : List Ty) : mixT l p 0 = p := by simp [mixT]
theorem mix_all (l : List Pr) (p : List Ty) : mixT l p p.length = p.map (renT l) := by simp [mixT]
theorem split_small {d : Tx} (he : (splitT d).2.2 = 0) : (splitT d).2.1.2.length ≤ 32 ∧ ∀ x ∈ (splitT d).1, x.2.length ≤ 32 := by
  have h := desc_split (d := d) (t := (splitT d).2.1) (p := (splitT d).1) (Prod.ext rfl (Prod.ext rfl he))
  have hr : ∀ t : Ty, rightT t = true → t.2.length ≤ 32 := by
    intro t ht
    rcases right_cases ht with rfl | rfl | rfl | ⟨c, rfl, hc⟩ | ⟨c, rfl, hc⟩
    · simp
    · simp
    · simp
    · exact (cls_no hc).2.2
    · exact (cls_no hc).2.2
  refine ⟨hr _ h.2.1, fun x hx => hr _ ?_⟩
  have := h.2.2 x hx
  unfold wrongT at this
  rw [Bool.or_eq_false_iff, Bool.not_eq_false'] at this
  exact this.2
theorem ren_small {l : List Pr} (hz : ∀ q ∈ l, q.2.length ≤ 281474976710656) {t : Ty} (ht : t.2.length ≤ 281474976710656) : (renT l t).2.length ≤ 281474976710656 := by
  unfold renT
  split
  · cases hk : lookT l t.2 with
    | none => exact ht
    | some n => exact hz _ (look_mem hk)
  · exact ht

set_option maxRecDepth 100000 in
set_option maxHeartbeats 4000000 in
theorem renamed_w (s : Tx) (B : Option Addr) (bc : Nat) (l : List Pr) (w : World) (hs : s.length ≤ 65536) (hr : Rd w B (PL l)) (hl : l.length ≤ 281474976710656) (hz : ∀ q ∈ l, q.2.length ≤ 281474976710656) (hm : Mx w) (hv : Vd w) :
    Calls Tryd.prog 29 #[.string ⟨s.toArray⟩, .slice B l.length bc] w fun e w' => e = .returned (.string ⟨(renD s l).toArray⟩) ∧ Below w.heap.size w w' := by
  have hS := split_k s w hs hm hv
  have hrD : renD s l = if (splitT s).2.2 = 0 then (descT (renT l (splitT s).2.1) ((splitT s).1.map (renT l))).1 else [] := rfl
  have hsm := split_small (d := s)
  have h8 := split_len s
  unfold SplitW at hS
  obtain ⟨x, hx⟩ : ∃ x, x = splitT s := ⟨_, rfl⟩
  rw [← hx] at hS hrD hsm h8
  obtain ⟨p, ⟨k, c⟩, er⟩ := x
  dsimp only at hS hrD hsm h8
  have HS := Lib.hid hS; have HRD := Lib.hid hrD
  have HR := Lib.hid hr; have HV := Lib.hid hv
  obtain ⟨L, hL⟩ : ∃ L, L = l.length := ⟨_, rfl⟩
  have HRN := Lib.hid (fun (k : Int) (c : Tx) w hr => ren_w k c B bc l w hr hl)
  rw [← hL] at HRN ⊢
  by_cases he : er = 0
  · subst he
    obtain ⟨hs1, hs2⟩ := hsm rfl
    rw [if_pos rfl] at HRD
    have hzp : ∀ t ∈ p.map (renT l), t.2.length ≤ 281474976710656 := by
      intro t ht
      obtain ⟨y, hy, rfl⟩ := List.mem_map.1 ht
      exact ren_small hz (by have := hs2 y hy; omega)
    have hzt : (renT l (k, c)).2.length ≤ 281474976710656 := ren_small hz (by dsimp only; omega)
    obtain ⟨n, hn⟩ : ∃ n, n = p.length := ⟨_, rfl⟩
    have HDS := Lib.hid (fun A cc w hr hv => desc_w (renT l (k, c)).1 (renT l (k, c)).2 A cc (p.map (renT l)) w hzt hr (by rw [List.length_map]; omega) hzp hv)
    rw [List.length_map, ← hn] at HDS
    rw [← hn] at HS h8
    have hnI : (n : Int) ≤ 8 := by omega
    have HN := Lib.hid hn
    obtain ⟨D, hD⟩ : ∃ D, D = descT (renT l (k, c)) (p.map (renT l)) := ⟨_, rfl⟩
    rw [show ((renT l (k, c)).1, (renT l (k, c)).2) = renT l (k, c) from rfl, ← hD] at HDS
    rw [← hD] at HRD
    unfold DescW at HDS
    obtain ⟨⟨k2, c2⟩, hkc⟩ : ∃ y, y = renT l (k, c) := ⟨_, rfl⟩
    have HK := Lib.hid hkc
    rw [← hkc] at HDS
    dsimp only at HDS
    clear hS hrD hsm hr hz hm hv hs hx hL hs1 hs2 hzp hzt hn hD hkc hl
    go_enter Tryd.func29, Tryd.ntmps29
    go_wp2_with fail
    refine HS.out.mono ?_
    rintro e w1 ⟨⟨A, cc, rfl, hown⟩, hb1⟩
    have hAlt : ∀ a, A = some a → a.block < w1.heap.size := fun a ha => (hown.lt a.block (by rw [ha]; rfl)).2
    have HO := Lib.hid hown; have HB := Lib.hid hb1; have HA := Lib.hid hAlt
    have hal6 : Below w1.heap.size w1 (w1.alloc (.cells #[.int .i64 k, .string ⟨c.toArray⟩] 24)) := (Below.refl _ _).alloc (Nat.le_refl _) _
    have HAL6 := Lib.hid hal6
    have hsz1 := hb1.size
    clear hown hb1 hAlt hal6
    go_wp2
    go_loopw [22] (fun i wr => ∃ j : Nat, i = .int .i64 (j : Int) ∧ j ≤ n ∧ wr.ownsRow w.heap.size 24 2 (.slice A n cc) n (TL (mixT l p j)) ∧ wr.heap[w1.heap.size]? = some (.cells #[.int .i64 k, .string ⟨c.toArray⟩] 24 (0, 0)) ∧ Below w.heap.size w wr) (fun i _ => n - (intOf i).toNat)
    case atStart => exact ⟨0, rfl, Nat.zero_le _, by rw [mix_zero]; exact HO.out.alloc _, heap_alloc_new w1 _, HB.out.alloc hsz1 _⟩
    case round =>
      obtain ⟨j, rfl, hj, hown, hg6, hbw⟩ := hrel
      have HOW := Lib.hid hown; have HG6 := Lib.hid hg6; have HBW := Lib.hid hbw
      by_cases hlt : j < n
      · have hltI : (j : Int) < (n : Int) := by omega
        obtain ⟨⟨kd, cl⟩, hx⟩ : ∃ x, p[j]? = some x := ⟨p[j]'(by rw [← HN.out]; exact hlt), List.getElem?_eq_getElem _⟩
        have hmx := mix_at (l := l) hx
        have hnx := mix_next (l := l) hx
        obtain ⟨g, rfl⟩ : ∃ g, A = some ⟨g, 0, none⟩ := by
          rcases hown.2 with ⟨h1, h2⟩ | ⟨g, cap, cur, h1, _⟩
          · omega
          · cases h1; exact ⟨_, rfl⟩
        have hgl := HA.out _ rfl
        have hgb := (hown.lt g rfl).1
        dsimp only at hgl
        obtain ⟨t0, t1⟩ := TL_at hmx
        have c0 : wr.cell? ⟨g, j * 2, none⟩ = some (.int .i64 kd) := (hown.cellAt (j * 2) (by omega)).trans t0
        have c1 : wr.cell? ⟨g, j * 2 + 1, none⟩ = some (.string ⟨cl.toArray⟩) := (hown.cellAt (j * 2 + 1) (by omega)).trans t1
        have hal9 : Below wr.heap.size wr (wr.alloc (.cells #[.int .i64 kd, .string ⟨cl.toArray⟩] 24)) := (Below.refl _ _).alloc (Nat.le_refl _) _
        have HAL9 := Lib.hid hal9
        have HRR := Lib.hid (HR.out.below (hbw.trans (hal9.mono hbw.size)))
        obtain ⟨⟨k9, c9⟩, h9⟩ : ∃ y, y = renT l (kd, cl) := ⟨_, rfl⟩
        have HRK := Lib.hid (HRN.out kd cl)
        rw [← h9] at HRK hnx
        unfold RenW at HRK
        dsimp only at HRK
        have htl := TL_set (l := mixT l p j) (k9, c9) (j := j) (by rw [mix_len, ← HN.out]; exact hlt)
        rw [hnx] at htl
        have HTL := Lib.hid htl
        have HT0 := Lib.hid t0; have HT1 := Lib.hid t1
        clear hown hg6 hal9 hx hmx hnx h9 htl t0 t1
        go_wp2_with fail
        refine (HRK.out _ HRR.out).mono ?_
        rintro e w4 ⟨rfl, hb4⟩
        have hb49 := HAL9.out.trans (hb4.mono (by simp))
        have ho4 := own_below HOW.out hb49
        have d0 : w4.cell? ⟨g, j * 2, none⟩ = some (.int .i64 kd) := (ho4.cellAt (j * 2) (by omega)).trans HT0.out
        have d1 : w4.cell? ⟨g, j * 2 + 1, none⟩ = some (.string ⟨cl.toArray⟩) := (ho4.cellAt (j * 2 + 1) (by omega)).trans HT1.out
        have f0 := ho4.frozenAt (j * 2)
        have f1 := ho4.frozenAt (j * 2 + 1)
        obtain ⟨ho5, hg5⟩ := ho4.stored (j * 2) (.int .i64 k9)
        obtain ⟨ho6, hg65⟩ := ho5.stored (j * 2 + 1) (.string ⟨c9.toArray⟩)
        rw [show ((TL (mixT l p j)).set (j * 2) (.int .i64 k9)).set (j * 2 + 1) (.string ⟨c9.toArray⟩) = TL (mixT l p (j + 1)) from HTL.out] at ho6
        have hq6 := but_ne hg65 (but_ne hg5 ((hb49.block _ (blk_lt HG6.out)).trans HG6.out) (by omega)) (by omega)
        have HO6 := Lib.hid ho6; have HQ6 := Lib.hid hq6
        have HB6 := Lib.hid (((HBW.out.trans (hb49.mono HBW.out.size)).setCell (p := ⟨g, j * 2, none⟩) hgb (.int .i64 k9)).setCell (p := ⟨g, j * 2 + 1, none⟩) hgb (.string ⟨c9.toArray⟩))
        clear hb4 hb49 ho4 ho5 ho6 hg5 hg65 hq6 c0 c1
        go_wp2
        go_roundw
        case rel => exact ⟨j + 1, by go_num, by omega, HO6.out, HQ6.out, HB6.out⟩
        case measure => simp [intOf]; omega
      · have hltI : ¬ (j : Int) < (n : Int) := by omega
        obtain rfl : j = n := by omega
        have ho := HOW.out
        rw [HN.out, mix_all, ← HN.out] at ho
        obtain ⟨A', c', e1, _, _, hrd⟩ := own_rd ho
        cases e1
        have HRD2 := Lib.hid hrd
        have c0 : wr.cell? ⟨w1.heap.size, 0, none⟩ = some (.int .i64 k) := cell_of_row _ _ _ _ _ _ hg6
        have c1 : wr.cell? ⟨w1.heap.size, 1, none⟩ = some (.string ⟨c.toArray⟩) := cell_of_row _ _ _ _ _ _ hg6
        have HRK := Lib.hid (HRN.out k c)
        rw [← HK.out] at HRK
        unfold RenW at HRK
        dsimp only at HRK
        have HRR := Lib.hid (HR.out.below hbw); have HVR := Lib.hid (HV.out.below hbw)
        clear hown hg6 ho hrd hbw
        go_wp2_with fail
        refine (HRK.out _ HRR.out).mono ?_
        rintro e w4 ⟨rfl, hb4⟩
        have HRD4 := Lib.hid (HRD2.out.below hb4); have HV4 := Lib.hid (HVR.out.below hb4)
        have HB4 := Lib.hid (HBW.out.trans (hb4.mono HBW.out.size))
        clear hb4
        go_wp2_with fail
        refine (HDS.out A cc _ HRD4.out HV4.out).mono ?_
        rintro e w5 ⟨rfl, hb5⟩
        have HB5 := Lib.hid (HB4.out.trans (hb5.mono HB4.out.size))
        clear hb5
        go_wp2
        go_ret
        rw [HRD.out]
        exact ⟨rfl, HB5.out⟩
  · rw [if_neg he] at HRD
    have heI : ((er : Int) != 0) = true := by simp; omega
    clear hS hrD hsm hr hz hm hv hs hx hL he h8 hl
    go_enter Tryd.func29, Tryd.ntmps29
    go_wp2_with fail
    refine HS.out.mono ?_
    rintro e w1 ⟨⟨A, cc, rfl, hown⟩, hb1⟩
    have HB := Lib.hid (hb1.alloc hb1.size (.cells #[.int .i64 k, .string ⟨c.toArray⟩] 24))
    clear hown hb1
    go_wp2
    go_ret
    rw [HRD.out]
    exact ⟨rfl, HB.out⟩
end Go.Proofs.YtchhibicbgimcaaDoor.kind

/- Layer 6: the classes that a descriptor names: the program's answer. -/
namespace Go.Proofs.YtchhibicbgimcaaDoor.kind
open Go.RowKit
open Go.Proofs.YtchhibicbgimcaaDoor.words Go.Proofs.YtchhibicbgimcaaDoor.kindp Go.Proofs.YtchhibicbgimcaaDoor.word Go.Proofs.YtchhibicbgimcaaDoor.rdr

/-- texts, cell by cell -/
def SX (l : List Tx) : List Value := l.map fun x => .string ⟨x.toArray⟩
theorem SX_app (a b : List Tx) : SX (a ++ b) = SX a ++ SX b := by simp [SX]
theorem SX_len (l : List Tx) : (SX l).length = l.length := by simp [SX]
theorem new_rdg {W : World} (g : Nat) (cs : Array Value) (t : TypeId) (k : Nat) (hW : W.heap.size = g) (xs : List Value) (hx : cs.toList.take k = xs) : Rd (W.alloc (.cells cs t)) (some ⟨g, 0, none⟩) xs := by
  rw [← hW]; exact rd_blk (heap_alloc_new W _) hx
/-- some texts, anywhere -/
def ClsW (l : List Tx) (w : World) (e : Ending) (w' : World) : Prop := (∃ A c, e = .returned (.slice A l.length c) ∧ Rd w' A (SX l)) ∧ Below w.heap.size w w'
/-- the classes of some types -/
def clsL (l : List Ty) : List Tx := (l.filter fun t => hasB t.1).map (·.2)
theorem cls_take {l : List Ty} {j : Nat} {t : Ty} (h : l[j]? = some t) : clsL (l.take (j + 1)) = clsL (l.take j) ++ (if hasB t.1 = true then [t.2] else []) := by
  unfold clsL
  rw [List.take_add_one, h]
  simp only [Option.toList, List.filter_append, List.map_append]
  by_cases hb : hasB t.1 = true
  · rw [if_pos hb]; simp [hb]
  · rw [if_neg hb]; simp [hb]
theorem cls_len (l : List Ty) : (clsL l).length ≤ l.length := by unfold clsL; rw [List.length_map]; exact List.length_filter_le _ _
set_option maxRecDepth 100000 in
theorem infoX : (Tryd.prog.info? 9).map (fun i => (i.zero, i.size, i.bytes)) = some (some (.string ⟨#[]⟩), 1, 16) := by kernel_rfl

set_option maxRecDepth 100000 in
set_option maxHeartbeats 4000000 in
theorem classes_w (s : Tx) (w : World) (hs : s.length ≤ 65536) (hm : Mx w) (hv : Vd w) :
    Calls Tryd.prog 25 #[.string ⟨s.toArray⟩] w (ClsW (classesT s) w) := by
  have hS := split_k s w hs hm hv
  have hC : classesT s = clsL ((splitT s).1 ++ [(splitT s).2.1]) := rfl
  have h8 := split_len s
  unfold SplitW at hS
  obtain ⟨x, hx⟩ : ∃ x, x = splitT s := ⟨_, rfl⟩
  rw [← hx] at hS hC h8
  obtain ⟨p, ⟨k, c⟩, er⟩ := x
  dsimp only at hS hC h8
  obtain ⟨i0, hi0, hz0, hz1, hz2⟩ := info_parts infoT
  obtain ⟨i1, hj0, hy0, hy1, hy2⟩ := info_parts infoX
  have HS := Lib.hid hS; have HC := Lib.hid hC
  obtain ⟨all, hall⟩ : ∃ all, all = p ++ [((k, c) : Ty)] := ⟨_, rfl⟩
  rw [← hall] at HC
  obtain ⟨n, hn⟩ : ∃ n, n = p.length := ⟨_, rfl⟩
  rw [← hn] at HS h8
  have hal : all.length = n + 1 := by rw [hall, List.length_append, hn]; rfl
  have HAL := Lib.hid hal; have HLL := Lib.hid hall
  have hnI : (n : Int) ≤ 8 := by omega
  clear hS hC hx hall hn hal hs hm hv
  go_enter Tryd.func25, Tryd.ntmps25
  go_wp2_with fail
  refine HS.out.mono ?_
  rintro e w1 ⟨⟨A, cc, rfl, hown⟩, hb1⟩
  have hbx := hb1.alloc hb1.size (.cells #[.int .i64 k, .string ⟨c.toArray⟩] 24)
  have hby := hbx.alloc hbx.size (.cells #[.int .i64 k, .string ⟨c.toArray⟩] 24)
  have HBY := Lib.hid hby
  have HO := Lib.hid ((hown.alloc (.cells #[.int .i64 k, .string ⟨c.toArray⟩] 24)).alloc (.cells #[.int .i64 k, .string ⟨c.toArray⟩] 24))
  have HRD := Lib.hid (new_rdg (W := w1.alloc (.cells #[.int .i64 k, .string ⟨c.toArray⟩] 24)) (w1.heap.size + 1) #[.int .i64 k, .string ⟨c.toArray⟩] 24 2 (by simp) [.int .i64 k, .string ⟨c.toArray⟩] rfl)
  have hsz := hby.size
  clear hown hb1 hbx hby
  go_wp2_with (at_builtin; refine wpList_app _ rfl (.tmp 15) (.tmp 17) _ rfl w.heap.size 24 i0 _ 2 24 Tryd.underlying33 hi0 hz0 hz1 hz2 rfl (by omega) _ n (TL p) rfl HO.out _ 1 1 [.int .i64 k, .string ⟨c.toArray⟩] rfl rfl HRD.out (by simp [Value.oneCell']) (by simp only [maxLen]; omega) (by omega) hsz ?_; intro v7 w7 hown7 hg7 hb7 hat7; clear hg7 hat7; obtain ⟨A7, cc7, rfl, _, _, hrd7⟩ := own_rd hown7; clear hown7)
  have hrd8 : Rd w7 A7 (TL all) := by rw [HLL.out, TL_app]; exact hrd7
  have HR7 := Lib.hid hrd8
  have HB7 := Lib.hid (HBY.out.trans hb7)
  clear hrd7 hrd8 hb7
  go_loopw [6, 20] (fun v i wr => ∃ j : Nat, i = .int .i64 (j : Int) ∧ j ≤ n + 1 ∧ wr.ownsRow w7.heap.size 9 1 v (clsL (all.take j)).length (SX (clsL (all.take j))) ∧ Below w7.heap.size w7 wr) (fun _ i _ => n + 1 - (intOf i).toNat)
  case atStart => exact ⟨0, rfl, Nat.zero_le _, World.ownsRow_nil _ _ _ _, Below.refl _ _⟩
  case round =>
    obtain ⟨j, rfl, hj, hown, hbw⟩ := hrel
    have HOW := Lib.hid hown; have HBW := Lib.hid hbw
    have hsz2 := hbw.size
    by_cases hlt : j < n + 1
    · have hltI : (j : Int) < (n : Int) + 1 := by omega
      obtain ⟨⟨kd, cl⟩, hx⟩ : ∃ x, all[j]? = some x := ⟨all[j]'(by rw [HAL.out]; exact hlt), List.getElem?_eq_getElem _⟩
      obtain ⟨a, rfl, ha, c0, c1⟩ := tl_cell (HR7.out.below hbw) hx
      dsimp only at c0 c1
      have hct := cls_take hx
      have hcl := cls_len (all.take j)
      rw [List.length_take] at hcl
      have HH := (fun w => has_w kd cl w)
      have hal8 : Below wr.heap.size wr (wr.alloc (.cells #[.int .i64 kd, .string ⟨cl.toArray⟩] 24)) := (Below.refl _ _).alloc (Nat.le_refl _) _
      have HAL8 := Lib.hid hal8
      have HNW := Lib.hid (heap_alloc_new wr (.cells #[.int .i64 kd, .string ⟨cl.toArray⟩] 24))
      cases hb : hasB kd with
      | false =>
        rw [hb] at HH hct
        rw [if_neg (by simp), List.append_nil] at hct
        have HHH := Lib.hid HH; have HCT := Lib.hid hct
        clear hown hbw hx ha hct hcl HH hb hal8
        go_wp2_with fail
        refine (HHH.out _).mono ?_
        rintro e w4 ⟨rfl, hb4⟩
        have hb49 := HAL8.out.trans (hb4.mono (by simp))
        have HO4 := Lib.hid (own_below HOW.out hb49)
        have HB4 := Lib.hid (HBW.out.trans (hb49.mono HBW.out.size))
        clear hb4 hb49
        go_wp2
        go_roundw
        case rel => exact ⟨j + 1, by go_num, by omega, by rw [HCT.out]; exact HO4.out, HB4.out⟩
        case measure => simp [intOf]; omega
      | true =>
        rw [hb] at HH hct
        rw [if_pos rfl] at hct
        have HHH := Lib.hid HH; have HCT := Lib.hid hct
        obtain ⟨acc, hacc⟩ : ∃ acc, acc = clsL (all.take j) := ⟨_, rfl⟩
        rw [← hacc] at HOW HCT hcl
        clear hown hbw hx ha hct HH hb hal8 hacc
        go_wp2_with fail
        refine (HHH.out _).mono ?_
        rintro e w4 ⟨rfl, hb4⟩
        have hb49 := HAL8.out.trans (hb4.mono (by simp))
        have hce := (hb4.block wr.heap.size (by simp)).trans HNW.out
        have d1 : w4.cell? ⟨wr.heap.size, 1, none⟩ = some (.string ⟨cl.toArray⟩) := cell_of_row _ _ _ _ _ _ hce
        have HO4 := Lib.hid (own_below HOW.out hb49)
        have HB4 := Lib.hid (HBW.out.trans (hb49.mono HBW.out.size))
        have hsz4 := HB4.out.size
        clear hb4 hb49 hce
        go_wp2_with (at_builtin; refine wpList_app _ rfl (.tmp 26) (.tmp 29) _ rfl w7.heap.size 9 i1 _ 1 16 Tryd.underlying42 hj0 hy0 hy1 hy2 rfl (by omega) _ acc.length (SX acc) rfl (HO4.out.alloc _) _ 1 1 [.string ⟨cl.toArray⟩] rfl rfl (rd_blk (heap_alloc_new w4 _) (k := 1) rfl) (by simp [Value.oneCell']) (by simp only [maxLen]; omega) (by omega) (by simp; omega) ?_; intro v5 w5 hown5 hg5 hb5 hat5; clear hat5)
        have hown6 : w5.ownsRow w7.heap.size 9 1 v5 (acc ++ [cl]).length (SX (acc ++ [cl])) := by rw [List.length_append, SX_app]; exact hown5
        have HO6 := Lib.hid hown6
        have HB6 := Lib.hid ((HB4.out.alloc hsz4 (.cells #[.string ⟨cl.toArray⟩] 9)).trans hb5)
        clear hown5 hg5 hb5 hown6
        go_roundw
        case rel => exact ⟨j + 1, by go_num, by omega, by rw [HCT.out]; exact HO6.out, HB6.out⟩
        case measure => simp [intOf]; omega
    · have hltI : ¬ (j : Int) < (n : Int) + 1 := by omega
      have htk : all.take j = all := List.take_of_length_le (by rw [HAL.out]; omega)
      have ho := HOW.out
      rw [htk, ← HC.out] at ho
      obtain ⟨A9, c9, rfl, _, _, hrd9⟩ := own_rd ho
      have HRD9 := Lib.hid hrd9
      clear hown hbw htk ho hrd9
      go_wp2
      go_ret
      exact ⟨⟨A9, c9, rfl, HRD9.out⟩, HB7.out.trans (HBW.out.mono HB7.out.size)⟩
end Go.Proofs.YtchhibicbgimcaaDoor.kind

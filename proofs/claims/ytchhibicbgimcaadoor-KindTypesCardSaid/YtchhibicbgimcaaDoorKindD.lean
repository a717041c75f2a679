/-
  Layer 6: which of some types is the first wrong one, and a descriptor: the program's answers.
-/
import Derived.Test.YtchhibicbgimcaaDoorKindV
namespace Go.Proofs.YtchhibicbgimcaaDoor.kind
open Go.RowKit
open Go.Proofs.YtchhibicbgimcaaDoor.words Go.Proofs.YtchhibicbgimcaaDoor.kindp Go.Proofs.YtchhibicbgimcaaDoor.word Go.Proofs.YtchhibicbgimcaaDoor.rdr

set_option maxRecDepth 100000 in
set_option maxHeartbeats 1600000 in
theorem wrong_w (k : Int) (c : Tx) (w : World) (hc : c.length ≤ 281474976710656) (hv : Vd w) :
    Calls Tryd.prog 40 #[.agg #[.int .i64 k, .string ⟨c.toArray⟩]] w fun e w' => e = .returned (.bool (wrongT (k, c))) ∧ Below w.heap.size w w' := by
  have hal : Below w.heap.size w (w.alloc (.cells #[.int .i64 k, .string ⟨c.toArray⟩] 24)) := (Below.refl _ _).alloc (Nat.le_refl _) _
  obtain ⟨v0, v1⟩ := hv.below hal
  have HR := Lib.hid (fun w => right_w k c w hc)
  have HAL := Lib.hid hal
  by_cases h1 : k = 1
  · subst h1
    by_cases h0 : c = []
    · subst h0
      rw [show wrongT (1, []) = true from rfl]
      clear hc hv hal
      go_enter Tryd.func40, Tryd.ntmps40
      go_wp2
      go_ret
      exact ⟨rfl, HAL.out⟩
    · rw [show wrongT (1, c) = !rightT (1, c) by unfold wrongT; simp [h0]]
      generalize rightT (1, c) = b at *
      clear hc hv hal
      go_enter Tryd.func40, Tryd.ntmps40
      go_wp2_with fail
      refine (HR.out _).mono ?_
      rintro e w1 ⟨rfl, hb1⟩
      have HB := Lib.hid (HAL.out.trans (hb1.mono (by simp)))
      clear hb1
      go_wp2
      go_ret
      exact ⟨rfl, HB.out⟩
  · rw [show wrongT (k, c) = !rightT (k, c) by unfold wrongT; simp [h1]]
    have e1 : (k == 1) = false := by simpa using h1
    generalize rightT (k, c) = b at *
    clear hc hv hal h1
    go_enter Tryd.func40, Tryd.ntmps40
    go_wp2_with fail
    refine (HR.out _).mono ?_
    rintro e w1 ⟨rfl, hb1⟩
    have HB := Lib.hid (HAL.out.trans (hb1.mono (by simp)))
    clear hb1
    go_wp2
    go_ret
    exact ⟨rfl, HB.out⟩

/-- the first of a list that is so -/
def Idx {α : Type} (P : α → Bool) (p : List α) (r : Int) : Prop := (r = -1 ∧ ∀ x ∈ p, P x = false) ∨ ∃ (i : Nat) (x : α), r = (i : Int) ∧ p[i]? = some x ∧ P x = true ∧ ∀ y ∈ p.take i, P y = false
theorem idx_any {α : Type} {P : α → Bool} {p : List α} {r : Int} (h : Idx P p r) : p.any P = decide (0 ≤ r) := by
  rcases h with ⟨rfl, h⟩ | ⟨i, x, rfl, hx, hp, -⟩
  · rw [show decide ((0 : Int) ≤ -1) = false from rfl, List.any_eq_false]
    intro y hy; rw [h y hy]; simp
  · rw [decide_eq_true (by omega), List.any_eq_true]
    exact ⟨x, List.mem_of_getElem? hx, hp⟩
theorem take_more {α : Type} {P : α → Bool} {p : List α} {k : Nat} {x : α} (h : ∀ y ∈ p.take k, P y = false) (hx : p[k]? = some x) (hp : P x = false) : ∀ y ∈ p.take (k + 1), P y = false := by
  intro y hy
  rw [List.take_add_one, hx] at hy
  rcases List.mem_append.1 hy with h1 | h1
  · exact h y h1
  · simp at h1; rw [h1]; exact hp

set_option maxRecDepth 100000 in
set_option maxHeartbeats 1600000 in
theorem index_w (A : Option Addr) (c : Nat) (p : List Ty) (w : World) (hr : Rd w A (TL p)) (hl : p.length ≤ 281474976710656) (hz : ∀ t ∈ p, t.2.length ≤ 281474976710656) (hv : Vd w) :
    Calls Tryd.prog 53 #[.slice A p.length c, .func (.func 40) #[] #[]] w fun e w' => ∃ r, e = .returned (.int .i64 r) ∧ Idx wrongT p r ∧ Below w.heap.size w w' := by
  obtain ⟨n, hn⟩ : ∃ n, n = p.length := ⟨_, rfl⟩
  rw [← hn] at hl ⊢
  have hnI : (n : Int) ≤ 281474976710656 := by omega
  have HN := Lib.hid hn; have HR := Lib.hid hr; have HZ := Lib.hid hz; have HV := Lib.hid hv
  clear hr hz hv hn hl
  go_enter Tryd.func53, Tryd.ntmps53
  go_wp2
  go_loopw [8] (fun i wr => ∃ k : Nat, i = .int .i64 (k : Int) ∧ k ≤ n ∧ (∀ t ∈ p.take k, wrongT t = false) ∧ Below w.heap.size w wr) (fun i _ => n - (intOf i).toNat)
  case atStart => exact ⟨0, rfl, Nat.zero_le _, by simp, Below.refl _ _⟩
  case round =>
    obtain ⟨k, rfl, hk, hall, hbw⟩ := hrel
    have HA := Lib.hid hall; have HB := Lib.hid hbw
    clear hall
    by_cases hlt : k < n
    · have hltI : (k : Int) < (n : Int) := by omega
      obtain ⟨⟨kd, cl⟩, hx⟩ : ∃ x, p[k]? = some x := ⟨p[k]'(by rw [← HN.out]; exact hlt), List.getElem?_eq_getElem _⟩
      obtain ⟨a, rfl, ha, c0, c1⟩ := tl_cell (HR.out.below hbw) hx
      dsimp only at c0 c1
      have HW := Lib.hid (fun w hv => wrong_w kd cl w (HZ.out _ (List.mem_of_getElem? hx)) hv)
      have HVR := Lib.hid (HV.out.below hbw)
      have HX := Lib.hid hx
      have hmt := take_more HA.out hx
      cases hwr : wrongT (kd, cl) with
      | true =>
        rw [hwr] at HW
        have HI := Lib.hid (show Idx wrongT p (k : Int) from .inr ⟨k, _, rfl, hx, hwr, HA.out⟩)
        clear hx hmt hwr hbw ha
        go_wp2_with fail
        refine (HW.out _ HVR.out).mono ?_
        rintro e w1 ⟨rfl, hb1⟩
        have HB1 := Lib.hid (HB.out.trans (hb1.mono HB.out.size))
        clear hb1
        go_wp2
        go_ret
        exact ⟨_, rfl, HI.out, HB1.out⟩
      | false =>
        rw [hwr] at HW
        have HM := Lib.hid (hmt hwr)
        clear hx hmt hwr hbw ha
        go_wp2_with fail
        refine (HW.out _ HVR.out).mono ?_
        rintro e w1 ⟨rfl, hb1⟩
        have HB1 := Lib.hid (HB.out.trans (hb1.mono HB.out.size))
        clear hb1
        go_wp2
        go_roundw
        case rel => exact ⟨k + 1, by go_num, by omega, HM.out, HB1.out⟩
        case measure => simp [intOf]; omega
    · have hltI : ¬ (k : Int) < (n : Int) := by omega
      have hall := HA.out
      rw [List.take_of_length_le (by rw [← HN.out]; omega)] at hall
      have HI := Lib.hid (show Idx wrongT p (-1) from .inl ⟨rfl, hall⟩)
      clear hall hbw
      go_wp2
      go_ret
      exact ⟨_, rfl, HI.out, HB.out⟩

set_option maxRecDepth 100000 in
theorem contains_w (A : Option Addr) (c : Nat) (p : List Ty) (w : World) (hr : Rd w A (TL p)) (hl : p.length ≤ 281474976710656) (hz : ∀ t ∈ p, t.2.length ≤ 281474976710656) (hv : Vd w) :
    Calls Tryd.prog 41 #[.slice A p.length c, .func (.func 40) #[] #[]] w fun e w' => e = .returned (.bool (p.any wrongT)) ∧ Below w.heap.size w w' := by
  have HI := Lib.hid (index_w A c p w hr hl hz hv)
  generalize p.length = n at *
  clear hr hl hz hv
  go_enter Tryd.func41, Tryd.ntmps41
  go_wp2_with fail
  refine HI.out.mono ?_
  rintro e w1 ⟨r, rfl, hi, hb⟩
  have HX := Lib.hid (idx_any hi)
  have HB := Lib.hid hb
  clear hi hb
  go_wp2
  go_ret
  exact ⟨by rw [HX.out]; rfl, HB.out⟩
end Go.Proofs.YtchhibicbgimcaaDoor.kind

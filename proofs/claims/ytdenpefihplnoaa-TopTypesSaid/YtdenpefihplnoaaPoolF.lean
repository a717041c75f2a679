/-
  Layer 5: where a string stands in a pool: the program's answer.
-/
import Derived.Test.YtdenpefihplnoaaPoolR
import Derived.WalkMore
namespace Go.Proofs.Ytdenpefihplnoaa.pool
open Go.RowKit Go.Maps
open Go.Proofs.Ytdenpefihplnoaa.words Go.Proofs.Ytdenpefihplnoaa.poolp

/-- where a string stands; -1: nowhere -/
def findI (p : List Str) (s : Str) : Int := if rightB p = true ∧ s ∈ p then (p.idxOf s : Int) else -1
theorem right_pool {p : List Str} (h : rightB p = true) : IsPool p := of_decide_eq_true h
theorem find_at {p : List Str} (h : rightB p = true) {k : Nat} {s : Str} (hk : p[k]? = some s) : findI p s = (k : Int) := by
  unfold findI
  have hm : s ∈ p := List.mem_of_getElem? hk
  rw [if_pos ⟨h, hm⟩]
  have hlt : p.idxOf s < p.length := List.idxOf_lt_length_iff.2 hm
  have hi : p[p.idxOf s]? = some s := by rw [List.getElem?_eq_getElem hlt, List.getElem_idxOf]
  rw [(up_at (right_pool h).1 hi hk).2 rfl]
theorem find_no {p : List Str} {s : Str} (h : ¬ (rightB p = true ∧ s ∈ p)) : findI p s = -1 := by unfold findI; rw [if_neg h]
/-- where it may still stand -/
def Halves (p : List Str) (s : Str) (f t : Nat) : Prop := f ≤ t ∧ t ≤ p.length ∧ (∀ i y, p[i]? = some y → i < f → y < s) ∧ ∀ i y, p[i]? = some y → t ≤ i → s < y
theorem halves_start (p : List Str) (s : Str) : Halves p s 0 p.length :=
  ⟨Nat.zero_le _, Nat.le_refl _, fun i y _ h => absurd h (Nat.not_lt_zero _), fun i y h hi => by rw [List.getElem?_eq_none hi] at h; cases h⟩
theorem halves_none {p : List Str} {s : Str} {f t : Nat} (h : Halves p s f t) (hft : ¬ f < t) : s ∉ p := by
  intro hm
  obtain ⟨i, hi⟩ := List.getElem?_of_mem hm
  rcases Nat.lt_or_ge i f with h1 | h1
  · exact List.lt_irrefl _ (h.2.2.1 i s hi h1)
  · exact List.lt_irrefl _ (h.2.2.2 i s hi (by have := h.1; omega))
theorem halves_down {p : List Str} {s y : Str} {f t k : Nat} (h : Halves p s f t) (hup : Up p) (hk : p[k]? = some y) (hfk : f ≤ k) (hkt : k < t) (hlt : s < y) : Halves p s f k := by
  refine ⟨hfk, by have := h.2.1; omega, h.2.2.1, fun i z hz hi => ?_⟩
  rcases Nat.lt_or_ge k i with h1 | h1
  · exact List.lt_trans hlt ((up_at hup hk hz).1 h1)
  · obtain rfl : i = k := by omega
    rw [hk] at hz; cases hz; exact hlt
theorem halves_up {p : List Str} {s y : Str} {f t k : Nat} (h : Halves p s f t) (hup : Up p) (hk : p[k]? = some y) (hfk : f ≤ k) (hkt : k < t) (hlt : y < s) : Halves p s (k + 1) t := by
  refine ⟨hkt, h.2.1, fun i z hz hi => ?_, h.2.2.2⟩
  rcases Nat.lt_or_ge i k with h1 | h1
  · exact List.lt_trans ((up_at hup hz hk).1 h1) hlt
  · obtain rfl : i = k := by omega
    rw [hk] at hz; cases hz; exact hlt

set_option maxRecDepth 100000 in
set_option maxHeartbeats 2000000 in
theorem find_w (A : Option Addr) (c : Nat) (p : List Str) (s : Str) (w : World) (hr : Rd w A (SL p)) (hl : p.length ≤ 1048576) (hsz : ∀ x ∈ p, x.length ≤ 140737488355328) :
    Calls Try.prog 11 #[.slice A p.length c, .string ⟨s.toArray⟩] w fun e w' => e = .returned (.int .i64 (findI p s)) ∧ ∃ q, w' = w.drewN q := by
  have HRT := Lib.hid (right_w A c p w hr hl hsz)
  have HC := Lib.hid (fun y w => cmp_w s y w)
  obtain ⟨n, hn⟩ : ∃ n, n = p.length := ⟨_, rfl⟩
  obtain ⟨r, hrr⟩ : ∃ r, r = findI p s := ⟨_, rfl⟩
  rw [← hn] at HRT ⊢
  rw [← hrr]
  have HN := Lib.hid hn
  have HRR := Lib.hid hrr
  have hnI : (n : Int) ≤ 1048576 := by omega
  cases hb : rightB p with
  | false =>
    rw [hb] at HRT
    have HV := Lib.hid (hrr.trans (find_no (s := s) (fun h => by rw [hb] at h; cases h.1)))
    clear hn hrr hb hr hl hsz
    go_enter Try.func11, Try.ntmps11
    go_wp2
    go_step3
    go_wp2_with fail
    refine HRT.out.mono ?_
    rintro e w' ⟨rfl, q, rfl⟩
    clear HRT
    go_wp2
    (try rw [Exit.noGoto_ret])
    (try rw [Exit.noGoto_ret])
    go_ret
    rw [HV.out]
    exact ⟨rfl, _, rfl⟩
  | true =>
    rw [hb] at HRT
    have HPP := Lib.hid hb
    clear hn hrr hb hl hsz
    go_enter Try.func11, Try.ntmps11
    go_wp2
    go_step3
    go_wp2_with fail
    refine HRT.out.mono ?_
    rintro e w' ⟨rfl, q0, rfl⟩
    clear HRT
    go_wp2
    go_step3
    go_wp2
    go_loopw [5, 6, 7] (fun a f t wr => ∃ (fn tn q : Nat), a = .int .i64 (-1) ∧ f = .int .i64 (fn : Int) ∧ t = .int .i64 (tn : Int) ∧ wr = w.drewN q ∧ Halves p s fn tn) (fun _ f t _ => (intOf t - intOf f).toNat)
    case atStart => exact ⟨0, n, q0, rfl, rfl, rfl, rfl, by rw [HN.out]; exact halves_start p s⟩
    case round =>
      obtain ⟨f, t, q, rfl, rfl, rfl, rfl, hh⟩ := hrel
      have HH := Lib.hid hh
      have htn : t ≤ n := by rw [HN.out]; exact hh.2.1
      clear hh
      by_cases hlt : f < t
      · have hltI : (f : Int) < (t : Int) := by omega
        obtain ⟨k, hk⟩ : ∃ k, k = (f + t) / 2 := ⟨_, rfl⟩
        have hkI : ((f : Int) + (t : Int)) / 2 = (k : Int) := by omega
        have hfk : f ≤ k := by omega
        have hkt : k < t := by omega
        have hknI : (k : Int) < (n : Int) := by omega
        have hk0 : (0 : Int) ≤ (k : Int) := by omega
        obtain ⟨y, hy⟩ : ∃ y, p[k]? = some y := ⟨p[k]'(by rw [← HN.out]; omega), List.getElem?_eq_getElem _⟩
        obtain ⟨a, rfl, _, hcell⟩ := sl_cell hr hy
        have HY := Lib.hid hy
        have HCY := Lib.hid (fun w => HC.out y w)
        have hup := (right_pool HPP.out).1
        have hcm : cmpI s y = if s < y then -1 else if s = y then 0 else 1 := rfl
        rcases tri s y with h | ⟨h, he⟩ | ⟨h, he, h2⟩
        · rw [if_pos h] at hcm
          have HX := Lib.hid (halves_down HH.out hup hy hfk hkt h)
          rw [hcm] at HCY
          clear hk hy hr hup hcm h HH htn
          go_wp2_with fail
          refine (HCY.out _).mono ?_
          rintro e w' ⟨rfl, rfl⟩
          clear HCY HC
          go_wp2
          go_roundw
          case rel => exact ⟨f, k, _, rfl, rfl, rfl, rfl, HX.out⟩
          case measure => simp [intOf]; omega
        · rw [if_neg h, if_pos he] at hcm
          subst he
          have HX := Lib.hid (HRR.out.trans (find_at HPP.out hy))
          rw [hcm] at HCY
          clear hk hy hr hup hcm h HH htn
          go_wp2_with fail
          refine (HCY.out _).mono ?_
          rintro e w' ⟨rfl, rfl⟩
          clear HCY HC
          go_wp2
          (try rw [Exit.noGoto_ret])
          go_ret
          rw [HX.out]
          exact ⟨rfl, _, rfl⟩
        · rw [if_neg h, if_neg he] at hcm
          have HX := Lib.hid (halves_up HH.out hup hy hfk hkt h2)
          rw [hcm] at HCY
          clear hk hy hr hup hcm h he h2 HH
          go_wp2_with fail
          refine (HCY.out _).mono ?_
          rintro e w' ⟨rfl, rfl⟩
          clear HCY HC
          go_wp2
          go_roundw
          case rel => exact ⟨k + 1, t, _, rfl, by go_num, rfl, rfl, HX.out⟩
          case measure => simp [intOf]; omega
      · have hltI : ¬ (f : Int) < (t : Int) := by omega
        have HX := Lib.hid (HRR.out.trans (find_no (fun h => halves_none HH.out hlt h.2)))
        clear hr HH
        go_wp2
        (try rw [Exit.noGoto_ret])
        go_ret
        rw [HX.out]
        exact ⟨rfl, _, rfl⟩
end Go.Proofs.Ytdenpefihplnoaa.pool

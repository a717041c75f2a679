/-
  Layer 5, the document's answer: whether strings are a pool.
-/
import Derived.Test.YtchhibicbgimcaaLive5
import Derived.Deep.QuietTactic
import Derived.BigQuiet
namespace Go.Proofs.Ytchhibicbgimcaa.pool
open Go.RowKit Go.Maps
open Go.Proofs.Ytchhibicbgimcaa.num Go.Proofs.Ytchhibicbgimcaa.words Go.Proofs.Ytchhibicbgimcaa.poolp

set_option maxRecDepth 100000 in
set_option maxHeartbeats 400000 in
theorem right5_w (A : Option Addr) (c : Nat) (l : List Str) (w : World) (hr : Rd w A (SL l)) (hl : l.length ≤ 1048576) (hsz : ∀ x ∈ l, x.length ≤ 140737488355328) :
    Calls Try.prog 23 #[.slice A l.length c] w fun e w' => e = .returned (.bool (rightB l)) ∧ ∃ q, w' = w.drewN q := by
  have HSZ := Lib.hid hsz
  by_cases hlong : 1024 < l.length
  · have hI : (1024 : Int) < (l.length : Int) := by omega
    rw [not_right_long hlong]
    clear hr hsz hlong hl HSZ
    go_enter Try.func23, Try.ntmps23
    go_wp2
    go_ret
    exact ⟨rfl, 0, rfl⟩
  have hI : ¬ (1024 : Int) < (l.length : Int) := by omega
  obtain ⟨n, hn⟩ : ∃ n, n = l.length := ⟨_, rfl⟩
  rw [← hn] at hI ⊢
  have hnI : (n : Int) ≤ 1024 := by omega
  have HN := Lib.hid hn
  obtain ⟨b, hb⟩ : ∃ b, b = rightB l := ⟨_, rfl⟩
  rw [← hb]
  have HB := Lib.hid hb
  clear hl hsz hlong hn hb
  go_enter Try.func23, Try.ntmps23
  go_wp2
  go_loopw [3] (fun i wr => ∃ (k q : Nat), i = .int .i64 (k : Int) ∧ k ≤ n ∧ wr = w.drewN q ∧ Fit l k) (fun i _ => n - (intOf i).toNat)
  case atStart => exact ⟨0, 0, rfl, Nat.zero_le _, rfl, fit_zero l⟩
  case round =>
    obtain ⟨k, q, rfl, hk, rfl, hfit⟩ := hrel
    have HF := Lib.hid hfit
    clear hfit
    by_cases hlt : k < n
    · have hltI : (k : Int) < (n : Int) := by omega
      obtain ⟨x, hx⟩ : ∃ x, l[k]? = some x := ⟨l[k]'(by rw [← HN.out]; exact hlt), List.getElem?_eq_getElem _⟩
      obtain ⟨a, rfl, _, hcell⟩ := sl_cell hr hx
      have hxz := HSZ.out x (List.mem_of_getElem? hx)
      have hms := mk_size x
      have hxI : (x.length : Int) ≤ 140737488355328 := by omega
      have HX := Lib.hid hx
      by_cases h64 : 64 < x.length
      · have h64I : (64 : Int) < (x.length : Int) := by omega
        have HR := Lib.hid (HB.out.trans (not_right_wide hx h64))
        clear hx hr hxz
        go_wp2
        have hd1 : decide ((64 : Int) < (x.length : Int)) = true := decide_eq_true (by omega)
        clear h64
        go_quiet (fail)
        go_wp2
        go_ret
        rw [HR.out]
        exact ⟨rfl, q + nq, by simp⟩
      · have h64I : ¬ (64 : Int) < (x.length : Int) := by omega
        by_cases hk0 : k = 0
        · have HF1 := Lib.hid (show Fit l (k + 1) by have := fit_one (l := l) (x := x) (by rw [← hk0]; exact hx) (by omega); rw [hk0]; exact this)
          have HK := Lib.hid hk0
          clear hx hr hxz hk0
          go_wp2
          have hd1 : decide ((64 : Int) < (x.length : Int)) = false := decide_eq_false (by omega)
          have hd2 : decide (0 < k) = false := decide_eq_false (by have := HK.out; omega)
          clear h64
          go_quiet (fail)
          go_wp2
          go_roundw
          case rel => exact ⟨k + 1, q + nq, by go_num, by omega, by simp, HF1.out⟩
          case measure => simp [intOf]; omega
        · obtain ⟨j, hj⟩ : ∃ j, j + 1 = k := ⟨k - 1, by omega⟩
          obtain ⟨y, hy⟩ : ∃ y, l[j]? = some y := ⟨l[j]'(by rw [← HN.out]; omega), List.getElem?_eq_getElem _⟩
          obtain ⟨a', ha', _, hcelly⟩ := sl_cell hr hy
          cases ha'
          have hj0 : (0 : Int) ≤ (j : Int) := by omega
          have hj1 : (j : Int) < (n : Int) := by omega
          rcases tri x y with h | ⟨h, he⟩ | ⟨h, he, h2⟩
          · have hl1 : Op.bytesLess y x = false := by rw [less_mk]; exact decide_eq_false (fun h3 => List.lt_irrefl _ (List.lt_trans h h3))
            have HR := Lib.hid (HB.out.trans (not_right_up hy (by rw [hj]; exact hx) (fun h3 => List.lt_irrefl _ (List.lt_trans h h3))))
            clear hx hy hr hxz h
            go_wp2
            have hd1 : decide ((64 : Int) < (x.length : Int)) = false := decide_eq_false (by omega)
            have hd2 : decide (0 < k) = true := decide_eq_true (by omega)
            have hw : IntKind.i64.wrap ((k : Int) - 1) = (j : Int) := by rw [show (k : Int) - 1 = (j : Int) by omega]; exact IntWalk.i64_in _ (by omega)
            clear h64 hk0 hj
            go_quiet (fail)
            go_wp2
            go_ret
            rw [HR.out]
            exact ⟨rfl, q + nq, by simp⟩
          · have hl1 : Op.bytesLess y x = false := by rw [less_mk]; exact decide_eq_false (fun h3 => by rw [he] at h3; exact List.lt_irrefl _ h3)
            have HR := Lib.hid (HB.out.trans (not_right_up hy (by rw [hj]; exact hx) (fun h3 => by rw [he] at h3; exact List.lt_irrefl _ h3)))
            clear hx hy hr hxz h he
            go_wp2
            have hd1 : decide ((64 : Int) < (x.length : Int)) = false := decide_eq_false (by omega)
            have hd2 : decide (0 < k) = true := decide_eq_true (by omega)
            have hw : IntKind.i64.wrap ((k : Int) - 1) = (j : Int) := by rw [show (k : Int) - 1 = (j : Int) by omega]; exact IntWalk.i64_in _ (by omega)
            clear h64 hk0 hj
            go_quiet (fail)
            go_wp2
            go_ret
            rw [HR.out]
            exact ⟨rfl, q + nq, by simp⟩
          · have hl1 : Op.bytesLess y x = true := by rw [less_mk]; exact decide_eq_true h2
            have HF1 := Lib.hid (show Fit l (k + 1) by have := fit_next (l := l) (j := j) (x := x) (y := y) (by rw [hj]; exact HF.out) hy (by rw [hj]; exact hx) h2 (by omega); rw [hj] at this; exact this)
            clear hx hy hr hxz h he h2
            go_wp2
            have hd1 : decide ((64 : Int) < (x.length : Int)) = false := decide_eq_false (by omega)
            have hd2 : decide (0 < k) = true := decide_eq_true (by omega)
            have hw : IntKind.i64.wrap ((k : Int) - 1) = (j : Int) := by rw [show (k : Int) - 1 = (j : Int) by omega]; exact IntWalk.i64_in _ (by omega)
            clear h64 hk0 hj
            go_quiet (fail)
            go_wp2
            go_roundw
            case rel => exact ⟨k + 1, q + nq, by go_num, by omega, by simp, HF1.out⟩
            case measure => simp [intOf]; omega
    · have hltI : ¬ (k : Int) < (n : Int) := by omega
      have hk2 : k = l.length := by rw [← HN.out]; omega
      have hfit := HF.out
      rw [hk2] at hfit
      have HR := Lib.hid (HB.out.trans (fit_all hfit (by rw [← HN.out]; omega)))
      clear hr hk2 hfit HF
      go_wp2
      go_ret
      rw [HR.out]
      exact ⟨rfl, _, rfl⟩

end Go.Proofs.Ytchhibicbgimcaa.pool

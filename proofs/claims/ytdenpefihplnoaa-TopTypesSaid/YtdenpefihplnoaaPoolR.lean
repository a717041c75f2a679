/-
  Layer 5: whether strings are a pool, and where a string stands: the program's answers.
-/
import Derived.Test.YtdenpefihplnoaaPoolM
import Derived.Sort.Walk0
namespace Go.Proofs.Ytdenpefihplnoaa.pool
open Go.RowKit Go.Maps
open Go.Proofs.Ytdenpefihplnoaa.words Go.Proofs.Ytdenpefihplnoaa.poolp

instance decPool (p : List Str) : Decidable (IsPool p) := by unfold IsPool Up; infer_instance
def rightB (p : List Str) : Bool := decide (IsPool p)
theorem less_mk (x y : Str) : Op.bytesLess x y = decide (x < y) := bytesLess_eq x y
theorem eq_mk (x y : Str) : (x == y) = decide (x = y) := by
  rw [Bool.eq_iff_iff]; simp
theorem tri (x y : Str) : x < y ∨ (¬ x < y ∧ x = y) ∨ (¬ x < y ∧ ¬ x = y ∧ y < x) := by
  rcases Decidable.em (x < y) with h | h
  · exact .inl h
  · rcases Decidable.em (x = y) with h1 | h1
    · exact .inr (.inl ⟨h, h1⟩)
    · refine .inr (.inr ⟨h, h1, ?_⟩)
      rcases Decidable.em (y < x) with h2 | h2
      · exact h2
      · exact absurd (List.le_antisymm (List.not_lt.1 h2) (List.not_lt.1 h)) h1
theorem up_next {l : List Str} {j : Nat} {x y : Str} (h : Up (l.take (j + 1))) (hy : l[j]? = some y) (hx : l[j + 1]? = some x) (hyx : y < x) : Up (l.take (j + 1 + 1)) := by
  rw [List.take_add_one, hx]
  unfold Up at h ⊢
  refine List.pairwise_append.2 ⟨h, by simp, ?_⟩
  intro a ha b hb
  simp at hb
  subst hb
  rw [List.take_add_one, hy] at ha h
  rcases List.mem_append.1 ha with h1 | h1
  · have := (List.pairwise_append.1 h).2.2 a h1 y (by simp)
    exact List.lt_trans this hyx
  · simp at h1; subst h1; exact hyx
/-- what holds between two rounds -/
def Fit (l : List Str) (k : Nat) : Prop := Up (l.take k) ∧ ∀ x ∈ l.take k, x.length ≤ 64
theorem fit_zero (l : List Str) : Fit l 0 := ⟨List.Pairwise.nil, by simp⟩
theorem fit_wide {l : List Str} {k : Nat} {x : Str} (h : ∀ y ∈ l.take k, y.length ≤ 64) (hx : l[k]? = some x) (h64 : x.length ≤ 64) : ∀ y ∈ l.take (k + 1), y.length ≤ 64 := by
  intro y hy
  rw [List.take_add_one, hx] at hy
  rcases List.mem_append.1 hy with h1 | h1
  · exact h y h1
  · simp at h1; subst h1; exact h64
theorem fit_one {l : List Str} {x : Str} (hx : l[0]? = some x) (h64 : x.length ≤ 64) : Fit l 1 := by
  refine ⟨?_, fit_wide (fit_zero l).2 hx h64⟩
  unfold Up
  rw [show (1 : Nat) = 0 + 1 from rfl, List.take_add_one, hx]; simp
theorem fit_next {l : List Str} {j : Nat} {x y : Str} (h : Fit l (j + 1)) (hy : l[j]? = some y) (hx : l[j + 1]? = some x) (hyx : y < x) (h64 : x.length ≤ 64) : Fit l (j + 1 + 1) := ⟨up_next h.1 hy hx hyx, fit_wide h.2 hx h64⟩
theorem fit_all {l : List Str} (h : Fit l l.length) (hl : l.length ≤ 1024) : rightB l = true := by
  unfold Fit at h
  rw [List.take_length] at h
  exact decide_eq_true ⟨h.1, hl, h.2⟩
theorem not_right_wide {l : List Str} {k : Nat} {x : Str} (hx : l[k]? = some x) (h : 64 < x.length) : rightB l = false := by
  refine decide_eq_false fun hp => ?_
  have := hp.2.2 x (List.mem_of_getElem? hx)
  omega
theorem not_right_up {l : List Str} {j : Nat} {x y : Str} (hy : l[j]? = some y) (hx : l[j + 1]? = some x) (h : ¬ y < x) : rightB l = false :=
  decide_eq_false fun hp => h ((up_at hp.1 hy hx).1 (Nat.lt_succ_self _))
theorem not_right_long {l : List Str} (h : 1024 < l.length) : rightB l = false := decide_eq_false fun hp => by have := hp.2.1; omega

set_option maxRecDepth 100000 in
set_option maxHeartbeats 2000000 in
theorem right_w (A : Option Addr) (c : Nat) (l : List Str) (w : World) (hr : Rd w A (SL l)) (hl : l.length ≤ 1048576) (hsz : ∀ x ∈ l, x.length ≤ 140737488355328) :
    Calls Try.prog 13 #[.slice A l.length c] w fun e w' => e = .returned (.bool (rightB l)) ∧ ∃ q, w' = w.drewN q := by
  have HSZ := Lib.hid hsz
  by_cases hlong : 1024 < l.length
  · have hI : (1024 : Int) < (l.length : Int) := by omega
    rw [not_right_long hlong]
    clear hr hsz hlong hl HSZ
    go_enter Try.func13, Try.ntmps13
    go_wp2
    go_ret
    exact ⟨rfl, 0, rfl⟩
  have hI : ¬ (1024 : Int) < (l.length : Int) := by omega
  obtain ⟨n, hn⟩ : ∃ n, n = l.length := ⟨_, rfl⟩
  rw [← hn] at hI ⊢
  have hnI : (n : Int) ≤ 1024 := by omega
  have HN := Lib.hid hn
  obtain ⟨b, hb⟩ : ∃ b, b = rightB l := ⟨_, rfl⟩
  rw [← hb]
  have HB := Lib.hid hb
  clear hl hsz hlong hn hb
  go_enter Try.func13, Try.ntmps13
  go_wp2
  go_loopw [10] (fun i wr => ∃ (k q : Nat), i = .int .i64 (k : Int) ∧ k ≤ n ∧ wr = w.drewN q ∧ Fit l k) (fun i _ => n - (intOf i).toNat)
  case atStart => exact ⟨0, 0, rfl, Nat.zero_le _, rfl, fit_zero l⟩
  case round =>
    obtain ⟨k, q, rfl, hk, rfl, hfit⟩ := hrel
    have HF := Lib.hid hfit
    clear hfit
    by_cases hlt : k < n
    · have hltI : (k : Int) < (n : Int) := by omega
      obtain ⟨x, hx⟩ : ∃ x, l[k]? = some x := ⟨l[k]'(by rw [← HN.out]; exact hlt), List.getElem?_eq_getElem _⟩
      obtain ⟨a, rfl, _, hcell⟩ := sl_cell hr hx
      have hxz := HSZ.out x (List.mem_of_getElem? hx)
      have hms := mk_size x
      have hxI : (x.length : Int) ≤ 140737488355328 := by omega
      have HX := Lib.hid hx
      by_cases h64 : 64 < x.length
      · have h64I : (64 : Int) < (x.length : Int) := by omega
        have HR := Lib.hid (HB.out.trans (not_right_wide hx h64))
        clear hx hr h64 hxz
        go_wp2
        go_ret
        rw [HR.out]
        exact ⟨rfl, _, rfl⟩
      · have h64I : ¬ (64 : Int) < (x.length : Int) := by omega
        cases k with
        | zero =>
          have HF1 := Lib.hid (fit_one hx (by omega))
          have ec : ((0 : Nat) : Int) = 0 := rfl
          rw [show a.add 0 = a by unfold Addr.add; simp] at hcell
          rw [ec] at hltI ⊢
          clear hx hr hxz ec h64
          go_wp2
          go_roundw
          case rel => exact ⟨0 + 1, _, by go_num, by omega, rfl, HF1.out⟩
          case measure => simp [intOf]; omega
        | succ j =>
          obtain ⟨y, hy⟩ : ∃ y, l[j]? = some y := ⟨l[j]'(by rw [← HN.out]; omega), List.getElem?_eq_getElem _⟩
          obtain ⟨a', ha', _, hcelly⟩ := sl_cell hr hy
          cases ha'
          have e1 : ((j + 1 : Nat) : Int) = (j : Int) + 1 := by omega
          rw [e1] at hltI ⊢
          rw [show a.add (j + 1) = ⟨a.block, a.off + (j + 1), none⟩ by unfold Addr.add; rw [if_neg (by omega)]] at hcell
          have hj0 : (0 : Int) ≤ (j : Int) := by omega
          have hj1 : (j : Int) < (n : Int) := by omega
          have hjp : (0 : Int) < (j : Int) + 1 := by omega
          rcases tri x y with h | ⟨h, he⟩ | ⟨h, he, h2⟩
          · have hl1 : Op.bytesLess x y = true := by rw [less_mk]; exact decide_eq_true h
            have HR := Lib.hid (HB.out.trans (not_right_up hy hx (fun h3 => List.lt_irrefl _ (List.lt_trans h h3))))
            clear hx hy hr hxz h64 h e1
            go_wp2
            go_ret
            rw [HR.out]
            exact ⟨rfl, _, rfl⟩
          · have hl1 : Op.bytesLess x y = false := by rw [less_mk]; exact decide_eq_false h
            have hl2 : (x == y) = true := by rw [eq_mk]; exact decide_eq_true he
            have HR := Lib.hid (HB.out.trans (not_right_up hy hx (fun h3 => by rw [he] at h3; exact List.lt_irrefl _ h3)))
            clear hx hy hr hxz h64 h he e1
            go_wp2
            go_ret
            rw [HR.out]
            exact ⟨rfl, _, rfl⟩
          · have hl1 : Op.bytesLess x y = false := by rw [less_mk]; exact decide_eq_false h
            have hl2 : (x == y) = false := by rw [eq_mk]; exact decide_eq_false he
            have HF1 := Lib.hid (fit_next HF.out hy hx h2 (by omega))
            clear hx hy hr hxz h64 h he h2 e1
            go_wp2
            go_roundw
            case rel => exact ⟨j + 1 + 1, _, by go_num, by omega, rfl, HF1.out⟩
            case measure => simp [intOf]; omega
    · have hltI : ¬ (k : Int) < (n : Int) := by omega
      have hk2 : k = l.length := by rw [← HN.out]; omega
      have hfit := HF.out
      rw [hk2] at hfit
      have HR := Lib.hid (HB.out.trans (fit_all hfit (by rw [← HN.out]; omega)))
      clear hr hk2 hfit HF
      go_wp2
      go_ret
      rw [HR.out]
      exact ⟨rfl, _, rfl⟩

/-- which of two strings is greater -/
def cmpI (x y : Str) : Int := if x < y then -1 else if x = y then 0 else 1
set_option maxRecDepth 100000 in
theorem nan_w (x : Str) (w : World) : Calls Try.prog 41 #[.string ⟨x.toArray⟩] w fun e w' => e = .returned (.bool false) ∧ w' = w := by
  have h1 : (x != x) = false := by simp
  go_enter Try.func41, Try.ntmps41
  go_wp2
  go_ret
  exact ⟨rfl, rfl⟩
set_option maxRecDepth 100000 in
theorem cmp_w (x y : Str) (w : World) : Calls Try.prog 25 #[.string ⟨x.toArray⟩, .string ⟨y.toArray⟩] w fun e w' => e = .returned (.int .i64 (cmpI x y)) ∧ w' = w := by
  have HN := Lib.hid (fun x w => nan_w x w)
  have HC := Lib.hid (show cmpI x y = if x < y then -1 else if x = y then 0 else 1 from rfl)
  rcases tri x y with h | ⟨h, he⟩ | ⟨h, he, h2⟩
  · have hl1 : Op.bytesLess x y = true := by rw [less_mk]; exact decide_eq_true h
    rw [HC.out, if_pos h]
    clear HC h
    go_enter Try.func25, Try.ntmps25
    go_wp2_with fail
    refine (HN.out _ _).mono ?_
    rintro e w ⟨rfl, rfl⟩
    go_wp2_with fail
    refine (HN.out _ _).mono ?_
    rintro e w ⟨rfl, rfl⟩
    clear HN
    go_wp2
    go_ret
    exact ⟨rfl, rfl⟩
  · have hl1 : Op.bytesLess x y = false := by rw [less_mk]; exact decide_eq_false h
    have hl2 : (x == y) = true := by rw [eq_mk]; exact decide_eq_true he
    rw [HC.out, if_neg h, if_pos he]
    clear HC h he
    go_enter Try.func25, Try.ntmps25
    go_wp2_with fail
    refine (HN.out _ _).mono ?_
    rintro e w ⟨rfl, rfl⟩
    go_wp2_with fail
    refine (HN.out _ _).mono ?_
    rintro e w ⟨rfl, rfl⟩
    clear HN
    go_wp2
    go_ret
    exact ⟨rfl, rfl⟩
  · have hl1 : Op.bytesLess x y = false := by rw [less_mk]; exact decide_eq_false h
    have hl2 : (x == y) = false := by rw [eq_mk]; exact decide_eq_false he
    rw [HC.out, if_neg h, if_neg he]
    clear HC h he h2
    go_enter Try.func25, Try.ntmps25
    go_wp2_with fail
    refine (HN.out _ _).mono ?_
    rintro e w ⟨rfl, rfl⟩
    go_wp2_with fail
    refine (HN.out _ _).mono ?_
    rintro e w ⟨rfl, rfl⟩
    clear HN
    go_wp2
    go_ret
    exact ⟨rfl, rfl⟩
end Go.Proofs.Ytdenpefihplnoaa.pool

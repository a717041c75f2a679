/-
  Layer 7: the document's answers: shapes, letters of them, which are calls, and which fall through.
-/
import Derived.Test.YtdenpefihplnoaaDoorOp
namespace Go.Proofs.YtdenpefihplnoaaDoor.op
open Go.RowKit
open Go.Proofs.YtdenpefihplnoaaDoor.words Go.Proofs.YtdenpefihplnoaaDoor.kindp Go.Proofs.YtdenpefihplnoaaDoor.opp

set_option maxRecDepth 100000 in
set_option maxHeartbeats 1000000 in
theorem has_r (s : Tx) (c : UInt8) (w : World) (hs : s.length ≤ 4) :
    Calls Tryd.prog 28 #[.string ⟨s.toArray⟩, .int .u8 ((c.toNat : Nat) : Int)] w fun e w' => e = .returned (.bool (hasL s c)) ∧ w' = w := by
  obtain ⟨R, hR⟩ : ∃ R, R = hasL s c := ⟨_, rfl⟩
  rw [← hR]
  have HR := Lib.hid hR
  obtain ⟨n, hn⟩ : ∃ n, n = s.length := ⟨_, rfl⟩
  have HN := Lib.hid hn
  have hsz : (⟨s.toArray⟩ : ByteArray).size = n := by rw [hn]; show s.toArray.size = _; simp
  have hnI : (n : Int) ≤ 4 := by omega
  have HAT := Lib.hid (fun (k : Nat) (x : UInt8) (hx : s[k]? = some x) => (show ∃ h : k < (⟨s.toArray⟩ : ByteArray).size, (⟨s.toArray⟩ : ByteArray)[k]'h = x from by
    obtain ⟨h0, h1⟩ := List.getElem?_eq_some_iff.1 hx
    exact ⟨by rw [hsz, hn]; exact h0, by rw [← h1]; rfl⟩))
  clear hs hR hn
  go_enter Tryd.func28, Tryd.ntmps28
  go_wp2
  go_loop [5] (fun i => ∃ k : Nat, k ≤ n ∧ i = .int .i64 (k : Int) ∧ ∀ x ∈ s.take k, x ≠ c) (fun i => n - (intOf i).toNat)
  case atStart => exact ⟨0, Nat.zero_le _, rfl, by simp⟩
  case round =>
    obtain ⟨k, hk, rfl, hno⟩ := hrel
    by_cases hlt : k < n
    · obtain ⟨x, hx⟩ : ∃ x, s[k]? = some x := ⟨s[k]'(by rw [← HN.out]; exact hlt), List.getElem?_eq_getElem _⟩
      obtain ⟨hk2, hxe⟩ := HAT.out k x hx
      have hltI : (k : Int) < (n : Int) := by omega
      by_cases hxc : x = c
      · have hb : (((x.toNat : Nat) : Int) == ((c.toNat : Nat) : Int)) = true := by rw [hxc]; simp
        have hT : R = true := by rw [HR.out, ← hxc]; exact List.contains_iff_mem.2 (List.mem_of_getElem? hx)
        subst hT
        clear hno hx hxc
        go_wp2
        go_ret
        exact ⟨rfl, rfl⟩
      · have hb : (((x.toNat : Nat) : Int) == ((c.toNat : Nat) : Int)) = false := by
          rw [beq_eq_false_iff_ne]; intro e; exact hxc (UInt8.toNat_inj.1 (by omega))
        have HNO := Lib.hid (show ∀ y ∈ s.take (k + 1), y ≠ c from by
          intro y hy
          rw [List.take_add_one, hx] at hy
          rcases List.mem_append.1 hy with h | h
          · exact hno y h
          · simp at h; rw [h]; exact hxc)
        clear hno hx hxc
        go_wp2
        go_round
        case rel => exact ⟨k + 1, by omega, by go_num, HNO.out⟩
        case measure => simp [intOf]; omega
    · have hT : R = false := by
        rw [HR.out]
        cases hh : hasL s c with
        | false => rfl
        | true =>
          have := List.contains_iff_mem.1 hh
          exact absurd rfl (hno c (by rw [List.take_of_length_le (by rw [← HN.out]; omega)]; exact this))
      subst hT
      have hltI : ¬ (k : Int) < (n : Int) := by omega
      clear hno
      go_wp2
      go_ret
      exact ⟨rfl, rfl⟩

theorem ne_of_unknown {o : Int} (h : known o = false) (k : Int) (h1 : 0 < k) (h2 : k ≤ 32) : (o == k) = false := by
  have := known_not h
  rw [beq_eq_false_iff_ne]; omega
set_option maxRecDepth 100000 in
set_option maxHeartbeats 8000000 in
theorem shape_r (o : Int) (w : World) :
    Calls Tryd.prog 11 #[.int .i64 o] w fun e w' => e = .returned (.string ⟨(shapeL o).toArray⟩) ∧ w' = w := by
  refine shape_cases (P := fun o s => Calls Tryd.prog 11 #[.int .i64 o] w fun e w' => e = .returned (.string ⟨s.toArray⟩) ∧ w' = w) ?_ ?_ ?_ ?_ ?_ ?_ ?_ ?_ ?_ ?_ ?_ ?_ ?_ ?_ ?_ ?_ ?_ ?_ ?_ ?_ ?_ ?_ ?_ ?_ ?_ ?_ ?_ ?_ ?_ ?_ ?_ ?_ ?_ ?_ o
  case refine_34 =>
    intro o hk
    have e2 := ne_of_unknown hk 2 (by decide) (by decide)
    have e3 := ne_of_unknown hk 3 (by decide) (by decide)
    have e26 := ne_of_unknown hk 26 (by decide) (by decide)
    have e4 := ne_of_unknown hk 4 (by decide) (by decide)
    have e10 := ne_of_unknown hk 10 (by decide) (by decide)
    have e12 := ne_of_unknown hk 12 (by decide) (by decide)
    have e28 := ne_of_unknown hk 28 (by decide) (by decide)
    have e29 := ne_of_unknown hk 29 (by decide) (by decide)
    have e5 := ne_of_unknown hk 5 (by decide) (by decide)
    have e6 := ne_of_unknown hk 6 (by decide) (by decide)
    have e7 := ne_of_unknown hk 7 (by decide) (by decide)
    have e8 := ne_of_unknown hk 8 (by decide) (by decide)
    have e9 := ne_of_unknown hk 9 (by decide) (by decide)
    have e11 := ne_of_unknown hk 11 (by decide) (by decide)
    have e24 := ne_of_unknown hk 24 (by decide) (by decide)
    have e25 := ne_of_unknown hk 25 (by decide) (by decide)
    have e13 := ne_of_unknown hk 13 (by decide) (by decide)
    have e14 := ne_of_unknown hk 14 (by decide) (by decide)
    have e15 := ne_of_unknown hk 15 (by decide) (by decide)
    have e16 := ne_of_unknown hk 16 (by decide) (by decide)
    have e17 := ne_of_unknown hk 17 (by decide) (by decide)
    have e18 := ne_of_unknown hk 18 (by decide) (by decide)
    have e19 := ne_of_unknown hk 19 (by decide) (by decide)
    have e20 := ne_of_unknown hk 20 (by decide) (by decide)
    have e21 := ne_of_unknown hk 21 (by decide) (by decide)
    have e22 := ne_of_unknown hk 22 (by decide) (by decide)
    have e27 := ne_of_unknown hk 27 (by decide) (by decide)
    have e31 := ne_of_unknown hk 31 (by decide) (by decide)
    have e30 := ne_of_unknown hk 30 (by decide) (by decide)
    have e32 := ne_of_unknown hk 32 (by decide) (by decide)
    clear hk
    go_enter Tryd.func11, Tryd.ntmps11
    go_wp2
    go_ret
    exact ⟨rfl, rfl⟩
  all_goals
    go_enter Tryd.func11, Tryd.ntmps11
    go_wp2
    go_ret
    exact ⟨rfl, rfl⟩

set_option maxRecDepth 100000 in
set_option maxHeartbeats 400000 in
theorem call_r (o : Int) (w : World) :
    Calls Tryd.prog 13 #[.int .i64 o] w fun e w' => e = .returned (.bool (isCall o)) ∧ w' = w := by
  refine kinds4 o (fun o => Calls Tryd.prog 13 #[.int .i64 o] w fun e w' => e = .returned (.bool (isCall o)) ∧ w' = w) 19 20 21 21 ?_ ?_ ?_ ?_ ?_
  case refine_5 =>
    intro h1 h2 h3 _
    rw [show isCall o = false by unfold isCall; rw [decide_eq_false (by simp only [beq_eq_false_iff_ne] at h1 h2 h3; omega)]]
    go_enter Tryd.func13, Tryd.ntmps13
    go_wp2
    go_ret
    exact ⟨rfl, rfl⟩
  all_goals
    go_enter Tryd.func13, Tryd.ntmps13
    go_wp2
    go_ret
    exact ⟨rfl, rfl⟩

set_option maxRecDepth 100000 in
set_option maxHeartbeats 400000 in
theorem falls_r (o : Int) (w : World) :
    Calls Tryd.prog 15 #[.int .i64 o] w fun e w' => e = .returned (.bool (fallsB o)) ∧ w' = w := by
  refine kinds4 o (fun o => Calls Tryd.prog 15 #[.int .i64 o] w fun e w' => e = .returned (.bool (fallsB o)) ∧ w' = w) 6 22 23 30 ?_ ?_ ?_ ?_ ?_
  case refine_5 =>
    intro h1 h2 h3 h4
    have n1 : (o != 6) = true := by simpa using h1
    have n2 : (o != 22) = true := by simpa using h2
    have n3 : (o != 23) = true := by simpa using h3
    have n4 : (o != 30) = true := by simpa using h4
    have e : fallsB o = known o := by
      unfold fallsB
      rw [decide_eq_false (by simp only [beq_eq_false_iff_ne] at h1 h2 h3 h4; omega)]; simp
    rw [e]
    clear e h1 h2 h3 h4
    by_cases h1 : 1 ≤ o
    · by_cases h2 : o ≤ 32
      · rw [show known o = true from decide_eq_true ⟨by omega, h2⟩]
        go_enter Tryd.func15, Tryd.ntmps15
        go_wp2
        go_ret
        exact ⟨rfl, rfl⟩
      · rw [show known o = false from decide_eq_false (fun h => h2 h.2)]
        go_enter Tryd.func15, Tryd.ntmps15
        go_wp2
        go_ret
        exact ⟨rfl, rfl⟩
    · rw [show known o = false from decide_eq_false (fun h => by omega)]
      go_enter Tryd.func15, Tryd.ntmps15
      go_wp2
      go_ret
      exact ⟨rfl, rfl⟩
  all_goals
    go_enter Tryd.func15, Tryd.ntmps15
    go_wp2
    go_ret
    exact ⟨rfl, rfl⟩

def withB (n m : Int) : Bool := decide (0 ≤ n) && decide (n < m)
set_option maxRecDepth 100000 in
set_option maxHeartbeats 400000 in
theorem within_r (n m : Int) (w : World) :
    Calls Tryd.prog 42 #[.int .i64 n, .int .i64 m] w fun e w' => e = .returned (.bool (withB n m)) ∧ w' = w := by
  by_cases h0 : 0 ≤ n
  · by_cases h1 : n < m
    · rw [show withB n m = true by unfold withB; rw [decide_eq_true h0, decide_eq_true h1]; rfl]
      go_enter Tryd.func42, Tryd.ntmps42
      go_wp2
      go_ret
      exact ⟨rfl, rfl⟩
    · rw [show withB n m = false by unfold withB; rw [decide_eq_false h1]; simp]
      have hd : decide (n < m) = false := decide_eq_false h1
      go_enter Tryd.func42, Tryd.ntmps42
      go_wp2
      go_ret
      exact ⟨rfl, rfl⟩
  · rw [show withB n m = false by unfold withB; rw [decide_eq_false h0]; rfl]
    go_enter Tryd.func42, Tryd.ntmps42
    go_wp2
    go_ret
    exact ⟨rfl, rfl⟩
end Go.Proofs.YtdenpefihplnoaaDoor.op

/-
  Layer 4: fields' line: the program's answer, and the reference's.
-/
import Derived.Test.YtcpjllkfgoaamaaDoorText
namespace Go.Proofs.YtcpjllkfgoaamaaDoor.word
open Go.RowKit Go.Shelf
open Go.Proofs.YtcpjllkfgoaamaaDoor.num Go.Proofs.YtcpjllkfgoaamaaDoor.words Go.Proofs.YtcpjllkfgoaamaaDoor.give Go.Proofs.YtcpjllkfgoaamaaDoor.write Go.Proofs.YtcpjllkfgoaamaaDoor.piece Go.Proofs.YtcpjllkfgoaamaaDoor.texts

/-- fields' line -/
def joinB (xs : List ByteArray) : List UInt8 := Lib.join (D xs) [32]
theorem join_snoc {l : List (List UInt8)} (h : l ≠ []) (y sep : List UInt8) : Lib.join (l ++ [y]) sep = Lib.join l sep ++ sep ++ y := by
  obtain ⟨x, r, rfl⟩ : ∃ x r, l = x :: r := by
    cases l with
    | nil => exact absurd rfl h
    | cons x r => exact ⟨x, r, rfl⟩
  rw [List.cons_append, Lib.join_cons, Lib.join_cons]
  simp [Lib.joinTail]
theorem join_take_le (l : List (List UInt8)) (k : Nat) (sep : List UInt8) : (Lib.join (l.take k) sep).length ≤ (Lib.join l sep).length := by
  cases l with
  | nil => simp
  | cons x r =>
    cases k with
    | zero => exact Nat.zero_le _
    | succ k =>
      rw [List.take_succ_cons, Lib.join_cons, Lib.join_cons, List.length_append, List.length_append]
      have := Lib.joinTail_take_le sep r k
      omega
theorem joinB_take {xs : List ByteArray} {k : Nat} {x : ByteArray} (h : xs[k]? = some x) : joinB (xs.take (k + 1)) = if k = 0 then x.data.toList else joinB (xs.take k) ++ [32] ++ x.data.toList := by
  unfold joinB
  rw [List.take_add_one, h, D_app]
  by_cases h0 : k = 0
  · subst h0; rw [if_pos rfl]; exact Lib.join_one _ _
  · rw [if_neg h0]
    have hlt : k < xs.length := by
      rcases Nat.lt_or_ge k xs.length with h1 | h1
      · exact h1
      · rw [List.getElem?_eq_none h1] at h; cases h
    exact join_snoc (by intro e; have := congrArg List.length e; rw [D_len, List.length_take, List.length_nil] at this; omega) _ _
theorem joinB_le (xs : List ByteArray) (k : Nat) : (joinB (xs.take k)).length ≤ (joinB xs).length := by
  unfold joinB; rw [D_take]; exact join_take_le _ _ _

set_option maxRecDepth 100000 in
set_option maxHeartbeats 800000 in
theorem line_w (A : Option Addr) (c : Nat) (xs : List ByteArray) (w : World) (hr : Rd w A (S xs)) (hA : xs = [] ∨ ∃ bk o, A = some ⟨bk, o, none⟩) (hc : xs.length ≤ c) (hl : (joinB xs).length ≤ 1048576) (hx : xs.length ≤ 1048576) :
    Calls Tryd.prog 15 #[.slice A xs.length c] w fun e w' => e = .returned (.string ⟨(joinB xs).toArray⟩) ∧ Below w.heap.size w w' := by
  have HJ : Hid (Calls Tryd.prog 32 #[.slice A xs.length c, .string ⟨#[32]⟩] w fun e w' => e = .returned (.string ⟨(joinB xs).toArray⟩) ∧ Below w.heap.size w w') := Lib.hid (by
    rcases hA with rfl | ⟨bk, o, rfl⟩
    · refine (Tryd.strings_Join_none A c ⟨#[32]⟩ w).mono ?_
      rintro e w' ⟨rfl, rfl⟩
      exact ⟨rfl, Below.refl _ _⟩
    · rcases hr with h0 | ⟨a, ha, hb, hcell⟩
      · have hx0 : xs = [] := by
          cases xs with
          | nil => rfl
          | cons x r => simp [texts.S] at h0
        subst hx0
        refine (Tryd.strings_Join_none (some ⟨bk, o, none⟩) c ⟨#[32]⟩ w).mono ?_
        rintro e w' ⟨rfl, rfl⟩
        exact ⟨rfl, Below.refl _ _⟩
      · cases ha
        refine (Tryd.strings_Join bk o c xs ⟨#[32]⟩ w ?_ hb (by omega) hc (by show (joinB xs).length ≤ _; omega)).mono fun e w' h => h
        intro j x hj
        have h := hcell j _ (S_at hj)
        rw [← h]
        congr 1
        unfold Addr.add
        rcases Nat.eq_zero_or_pos j with rfl | hj0
        · simp
        · rw [if_neg (by omega)])
  clear hr hA hc hl hx
  go_enter Tryd.func15, Tryd.ntmps15
  go_wp2_with fail
  refine HJ.out.mono ?_
  rintro e w1 ⟨rfl, hb⟩
  have HB := Lib.hid hb
  clear hb HJ
  go_wp2
  go_ret
  exact ⟨rfl, HB.out⟩

set_option maxRecDepth 100000 in
set_option maxHeartbeats 800000 in
theorem line_r (A : Option Addr) (c : Nat) (xs : List ByteArray) (w : World) (hr : Rd w A (S xs)) (hl : (joinB xs).length ≤ 1048576) (hx : xs.length ≤ 1048576) :
    Calls Tryd.prog 17 #[.slice A xs.length c] w fun e w' => e = .returned (.string ⟨(joinB xs).toArray⟩) ∧ ∃ q, w' = w.drewN q := by
  have HL := Lib.hid hl
  have hxI : (xs.length : Int) ≤ 1048576 := by omega
  obtain ⟨n, hn⟩ : ∃ n, n = xs.length := ⟨_, rfl⟩
  rw [← hn] at hxI ⊢
  have HN := Lib.hid hn
  clear hl hx hn
  go_enter Tryd.func17, Tryd.ntmps17
  go_wp2
  go_loopw [3, 4] (fun v i wr => ∃ k : Nat, i = .int .i64 (k : Int) ∧ k ≤ n ∧ v = .string ⟨(joinB (xs.take k)).toArray⟩ ∧ ∃ q, wr = w.drewN q) (fun _ i _ => n - (intOf i).toNat)
  case atStart => exact ⟨0, rfl, Nat.zero_le _, rfl, 0, rfl⟩
  case round =>
    obtain ⟨k, rfl, hk, rfl, q, rfl⟩ := hrel
    by_cases hlt : k < n
    · have hltI : (k : Int) < (n : Int) := by omega
      obtain ⟨x, hx⟩ : ∃ x, xs[k]? = some x := ⟨xs[k]'(by rw [← HN.out]; exact hlt), List.getElem?_eq_getElem _⟩
      obtain ⟨a, rfl, _, hcell⟩ := rd_cell hr hx
      have ht := joinB_take hx
      have hlen := joinB_le xs (k + 1)
      rw [ht] at hlen
      have hxs : x.data.toList.length = x.size := size_list x
      have hL := HL.out
      by_cases h0 : k = 0
      · subst h0
        rw [if_pos rfl] at ht hlen
        have HT := Lib.hid (show (⟨#[]⟩ : ByteArray) ++ x = ⟨(joinB (xs.take (0 + 1))).toArray⟩ by
          rw [ht]
          apply ByteArray.ext
          rw [ByteArray.data_append, ← Array.toList_inj]
          simp)
        have hz1 : ¬ 9223372036854775807 < x.size := by omega
        rw [show a.add 0 = a by unfold Addr.add; simp] at hcell
        have e0 : (⟨(joinB (xs.take 0)).toArray⟩ : ByteArray) = ⟨#[]⟩ := rfl
        have ec : ((0 : Nat) : Int) = 0 := rfl
        rw [e0, ec]
        clear ht hlen hx hr hxs hL e0 ec
        go_wp2
        go_roundw
        case rel => exact ⟨0 + 1, by go_num, by omega, by rw [← HT.out], _, rfl⟩
        case measure => simp [intOf]; omega
      · rw [if_neg h0] at ht hlen
        have h0I : (0 : Int) < (k : Int) := by omega
        simp only [List.length_append, List.length_cons, List.length_nil] at hlen
        obtain ⟨T, hT⟩ : ∃ T : ByteArray, T = ⟨(joinB (xs.take k)).toArray⟩ := ⟨_, rfl⟩
        have hTs : T.size = (joinB (xs.take k)).length := by rw [hT]; exact size_of _
        have HT := Lib.hid (show T ++ ⟨#[32]⟩ ++ x = ⟨(joinB (xs.take (k + 1))).toArray⟩ by
          rw [hT, ht]
          apply ByteArray.ext
          rw [ByteArray.data_append, ByteArray.data_append, ← Array.toList_inj]
          simp)
        rw [← hT]
        have hz1 : ¬ 9223372036854775807 < T.size + 1 := by omega
        have hz2 : ¬ 9223372036854775807 < T.size + 1 + x.size := by omega
        clear ht hlen hx hr hT hTs hxs hL h0
        go_wp2
        go_roundw
        case rel => exact ⟨k + 1, by go_num, by omega, by rw [← HT.out], _, rfl⟩
        case measure => simp [intOf]; omega
    · have hltI : ¬ (k : Int) < (n : Int) := by omega
      have HT := Lib.hid (show joinB (xs.take k) = joinB xs by rw [List.take_of_length_le (by rw [← HN.out]; omega)])
      clear hr
      go_wp2
      go_ret
      rw [HT.out]
      exact ⟨rfl, _, rfl⟩
end Go.Proofs.YtcpjllkfgoaamaaDoor.word

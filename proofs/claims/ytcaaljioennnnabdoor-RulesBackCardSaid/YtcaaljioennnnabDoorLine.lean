/-
  Layer 4: fields' line: the program's answer, and the reference's.
-/
import Derived.Test.YtcaaljioennnnabDoorText
namespace Go.Proofs.YtcaaljioennnnabDoor.word
open Go.RowKit Go.Shelf
open Go.Proofs.YtcaaljioennnnabDoor.num Go.Proofs.YtcaaljioennnnabDoor.words Go.Proofs.YtcaaljioennnnabDoor.give Go.Proofs.YtcaaljioennnnabDoor.write Go.Proofs.YtcaaljioennnnabDoor.piece Go.Proofs.YtcaaljioennnnabDoor.texts

/-- fields' line -/
def joinB (xs : List ByteArray) : List UInt8 := Lib.join (D xs) [32]
theorem join_snoc {l : List (List UInt8)} (h : l ≠ []) (y sep : List UInt8) : Lib.join (l ++ [y]) sep = Lib.join l sep ++ sep ++ y := by
  obtain ⟨x, r, rfl⟩ : ∃ x r, l = x :: r := by
    cases l with
    | nil => exact absurd rfl h
    | cons x r => exact ⟨x, r, rfl⟩
  rw [List.cons_append, Lib.join_cons, Lib.join_cons]
  simp [Lib.joinTail]
theorem join_take_le (l : List (List UInt8)) (k : Nat) (sep : List UInt8) : (Lib.join (l.take k) sep).length ≤ (Lib.join l sep).length := by
  cases l with
  | nil => simp
  | cons x r =>
    cases k with
    | zero => exact Nat.zero_le _
    | succ k =>
      rw [List.take_succ_cons, Lib.join_cons, Lib.join_cons, List.length_append, List.length_append]
      have := Lib.joinTail_take_le sep r k
      omega
theorem joinB_take {xs : List ByteArray} {k : Nat} {x : ByteArray} (h : xs[k]? = some x) : joinB (xs.take (k + 1)) = if k = 0 then x.data.toList else joinB (xs.take k) ++ [32] ++ x.data.toList := by
  unfold joinB
  rw [List.take_add_one, h, D_app]
  by_cases h0 : k = 0
  · subst h0; rw [if_pos rfl]; exact Lib.join_one _ _
  · rw [if_neg h0]
    have hlt : k < xs.length := by
      rcases Nat.lt_or_ge k xs.length with h1 | h1
      · exact h1
      · rw [List.getElem?_eq_none h1] at h; cases h
    exact join_snoc (by intro e; have := congrArg List.length e; rw [D_len, List.length_take, List.length_nil] at this; omega) _ _
theorem joinB_le (xs : List ByteArray) (k : Nat) : (joinB (xs.take k)).length ≤ (joinB xs).length := by
  unfold joinB; rw [D_take]; exact join_take_le _ _ _

set_option maxRecDepth 100000 in
set_option maxHeartbeats 800000 in
theorem line_w (A : Option Addr) (c : Nat) (xs : List ByteArray) (w : World) (hr : Rd w A (S xs)) (hA : xs = [] ∨ ∃ bk o, A = some ⟨bk, o, none⟩) (hc : xs.length ≤ c) (hl : (joinB xs).length ≤ 1048576) (hx : xs.length ≤ 1048576) :
    Calls Tryd.prog 35 #[.slice A xs.length c] w fun e w' => e = .returned (.string ⟨(joinB xs).toArray⟩) ∧ Below w.heap.size w w' := by
  have HJ : Hid (Calls Tryd.prog 45 #[.slice A xs.length c, .string ⟨#[32]⟩] w fun e w' => e = .returned (.string ⟨(joinB xs).toArray⟩) ∧ Below w.heap.size w w') := Lib.hid (by
    rcases hA with rfl | ⟨bk, o, rfl⟩
    · refine (Tryd.strings_Join_none A c ⟨#[32]⟩ w).mono ?_
      rintro e w' ⟨rfl, rfl⟩
      exact ⟨rfl, Below.refl _ _⟩
    · rcases hr with h0 | ⟨a, ha, hb, hcell⟩
      · have hx0 : xs = [] := by
          cases xs with
          | nil => rfl
          | cons x r => simp [texts.S] at h0
        subst hx0
        refine (Tryd.strings_Join_none (some ⟨bk, o, none⟩) c ⟨#[32]⟩ w).mono ?_
        rintro e w' ⟨rfl, rfl⟩
        exact ⟨rfl, Below.refl _ _⟩
      · cases ha
        refine (Tryd.strings_Join bk o c xs ⟨#[32]⟩ w ?_ hb (by omega) hc (by show (joinB xs).length ≤ _; omega)).mono fun e w' h => h
        intro j x hj
        have h := hcell j _ (S_at hj)
        rw [← h]
        congr 1
        unfold Addr.add
        rcases Nat.eq_zero_or_pos j with rfl | hj0
        · simp
        · rw [if_neg (by omega)])
  clear hr hA hc hl hx
  go_enter Tryd.func35, Tryd.ntmps35
  go_wp2_with fail
  refine HJ.out.mono ?_
  rintro e w1 ⟨rfl, hb⟩
  have HB := Lib.hid hb
  clear hb HJ
  go_wp2
  go_ret
  exact ⟨rfl, HB.out⟩

end Go.Proofs.YtcaaljioennnnabDoor.word

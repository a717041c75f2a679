/-
  Layer 4: a text's lines, by its bytes; and which is the first one that is none.
-/
import Derived.Test.YtcaaljioennnnabDoorLinesW
import Derived.Test.YtcaaljioennnnabDoorPiece
namespace Go.Proofs.YtcaaljioennnnabDoor.word
open Go.RowKit Go.Shelf
open Go.Proofs.YtcaaljioennnnabDoor.num Go.Proofs.YtcaaljioennnnabDoor.words Go.Proofs.YtcaaljioennnnabDoor.give Go.Proofs.YtcaaljioennnnabDoor.write Go.Proofs.YtcaaljioennnnabDoor.piece

theorem back_data (s : ByteArray) : (⟨s.data.toList.toArray⟩ : ByteArray) = s := rfl
theorem linesOf_congr {s t : ByteArray} (e : s = t) (h : s.size ≤ 65536) : linesOf s h = linesOf t (e ▸ h) := by subst e; rfl
theorem linesOf_hit {s : ByteArray} (h : s.size ≤ 65536) {a b : List UInt8} (e : s.data.toList = a ++ 10 :: b) (hn : (10 : UInt8) ∉ a) (h1 : (⟨a.toArray⟩ : ByteArray).size ≤ 65536) (h2 : (⟨b.toArray⟩ : ByteArray).size ≤ 65536) :
    linesOf s h = ⟨(⟨a.toArray⟩, true), h1⟩ :: linesOf ⟨b.toArray⟩ h2 := by
  have hne : ¬ s.size = 0 := by
    rw [← size_list, e]; simp
  have hc : Lib.cut s.data.toList [10] = (a, b, true) := by rw [e]; exact cut_hit hn
  have e1 : lineB s = ⟨a.toArray⟩ := by unfold lineB; rw [hc]
  have e2 : restB s = ⟨b.toArray⟩ := by unfold restB; rw [hc]
  have e3 : endB s = true := by unfold endB; rw [hc]
  rw [linesOf_cons hne]
  exact List.cons_eq_cons.2 ⟨Subtype.ext (by show (lineB s, endB s) = _; rw [e1, e3]), linesOf_congr e2 _⟩
theorem linesOf_miss {s : ByteArray} (h : s.size ≤ 65536) (hne : ¬ s.size = 0) (hn : (10 : UInt8) ∉ s.data.toList) : linesOf s h = [⟨(s, false), h⟩] := by
  have hc : Lib.cut s.data.toList [10] = (s.data.toList, [], false) := cut_miss hn
  have e1 : lineB s = s := by unfold lineB; rw [hc]
  have e2 : restB s = ⟨#[]⟩ := by unfold restB; rw [hc]
  have e3 : endB s = false := by unfold endB; rw [hc]
  rw [linesOf_cons hne]
  exact List.cons_eq_cons.2 ⟨Subtype.ext (by show (lineB s, endB s) = _; rw [e1, e3]), linesOf_nil (by rw [e2]; rfl)⟩
/-- the first one that is none is one place's -/
theorem first_bad {L p p' : List Ln} {x x' : Ln} (h1 : p ++ [x] <+: L) (h2 : p' ++ [x'] <+: L) (g1 : ∀ y ∈ p, goodB y = true) (g2 : ∀ y ∈ p', goodB y = true) (b1 : goodB x = false) (b2 : goodB x' = false) : p.length = p'.length := by
  rcases Nat.lt_trichotomy p.length p'.length with h | h | h
  · exfalso
    have h3 : p ++ [x] <+: p' ++ [x'] := List.prefix_of_prefix_length_le h1 h2 (by simp; omega)
    have h4 : p ++ [x] <+: p' := List.prefix_of_prefix_length_le h3 (List.prefix_append p' [x']) (by simp; omega)
    have := g2 x (h4.subset (by simp))
    rw [b1] at this; cases this
  · exact h
  · exfalso
    have h3 : p' ++ [x'] <+: p ++ [x] := List.prefix_of_prefix_length_le h2 h1 (by simp; omega)
    have h4 : p' ++ [x'] <+: p := List.prefix_of_prefix_length_le h3 (List.prefix_append p [x]) (by simp; omega)
    have := g1 x' (h4.subset (by simp))
    rw [b2] at this; cases this
theorem no_bad {L p : List Ln} {x : Ln} (h1 : p ++ [x] <+: L) (g : ∀ y ∈ L, goodB y = true) (b1 : goodB x = false) : False := by
  have := g x (h1.subset (by simp))
  rw [b1] at this; cases this
/-- lines' texts -/
def txs (l : List Ln) : List ByteArray := l.map fun x => x.1.1
theorem txs_strV (l : List Ln) : l.map strV = (txs l).map Value.string := by simp [txs, strV, Function.comp_def]
/-- all lines are ones: their text is the text -/
theorem text_of_lines : ∀ (n : Nat) (s : ByteArray) (h : s.size ≤ 65536), s.size ≤ n → (∀ y ∈ linesOf s h, goodB y = true) → textL (D (txs (linesOf s h))) = s.data.toList
  | 0, s, h, hn, _ => by
    have h0 : s.size = 0 := by omega
    rw [linesOf_nil h0]
    have : s.data.toList = [] := List.eq_nil_of_length_eq_zero (by rw [size_list]; exact h0)
    rw [this]; rfl
  | n + 1, s, h, hn, hg => by
    by_cases h0 : s.size = 0
    · rw [linesOf_nil h0]
      have : s.data.toList = [] := List.eq_nil_of_length_eq_zero (by rw [size_list]; exact h0)
      rw [this]; rfl
    · rcases piece.parts 10 s.data.toList with hm | ⟨a, b, e, hm⟩
      · exfalso
        rw [linesOf_miss h h0 hm] at hg
        have := hg _ (List.mem_singleton_self _)
        simp [goodB] at this
      · have hl : s.data.toList.length = a.length + (b.length + 1) := by rw [e]; simp
        rw [size_list] at hl
        have h1 : (⟨a.toArray⟩ : ByteArray).size ≤ 65536 := by rw [size_of]; omega
        have h2 : (⟨b.toArray⟩ : ByteArray).size ≤ 65536 := by rw [size_of]; omega
        rw [linesOf_hit h e hm h1 h2] at hg ⊢
        have ih := text_of_lines n ⟨b.toArray⟩ h2 (by rw [size_of]; omega) (fun y hy => hg y (List.mem_cons_of_mem _ hy))
        show textL (a :: D (txs (linesOf ⟨b.toArray⟩ h2))) = _
        rw [textL_cons, ih, e]
/-- what may stand in a line -/
def okL (l : List UInt8) : Bool := l.all fun c => decide (32 ≤ c.toNat ∧ c.toNat ≤ 126)
theorem okL_good (a : List UInt8) (h1 : (⟨a.toArray⟩ : ByteArray).size ≤ 65536) : goodB ⟨(⟨a.toArray⟩, true), h1⟩ = okL a := by
  show (true && (N ⟨a.toArray⟩).all plainB) = _
  rw [Bool.true_and]
  unfold N okL
  rw [List.all_map]
  rfl
theorem ok_no10 {a : List UInt8} (h : okL a = true) : (10 : UInt8) ∉ a := by
  intro hm
  have := List.all_eq_true.1 h 10 hm
  revert this; decide
/-- lines that are written are read as they were -/
theorem lines_of_text : ∀ (xs : List (List UInt8)) (s : ByteArray) (h : s.size ≤ 65536), s.data.toList = textL xs → (∀ x ∈ xs, okL x = true) → D (txs (linesOf s h)) = xs ∧ ∀ y ∈ linesOf s h, goodB y = true
  | [], s, h, e, _ => by
    have h0 : s.size = 0 := by rw [← size_list, e]; rfl
    rw [linesOf_nil h0]
    exact ⟨rfl, by simp⟩
  | x :: xs, s, h, e, hg => by
    rw [textL_cons] at e
    have hx := hg x List.mem_cons_self
    have hl : s.data.toList.length = x.length + ((textL xs).length + 1) := by rw [e]; simp
    rw [size_list] at hl
    have h1 : (⟨x.toArray⟩ : ByteArray).size ≤ 65536 := by rw [size_of]; omega
    have h2 : (⟨(textL xs).toArray⟩ : ByteArray).size ≤ 65536 := by rw [size_of]; omega
    obtain ⟨i1, i2⟩ := lines_of_text xs ⟨(textL xs).toArray⟩ h2 rfl (fun y hy => hg y (List.mem_cons_of_mem _ hy))
    rw [linesOf_hit h e (ok_no10 hx) h1 h2]
    refine ⟨?_, fun y hy => ?_⟩
    · show x :: D (txs (linesOf _ h2)) = _
      rw [i1]
    · rcases List.mem_cons.1 hy with rfl | hy
      · rw [okL_good]; exact hx
      · exact i2 y hy
end Go.Proofs.YtcaaljioennnnabDoor.word

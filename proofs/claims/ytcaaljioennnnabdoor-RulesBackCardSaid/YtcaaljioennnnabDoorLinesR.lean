/-
  Layer 4: a text's lines, or the first one that is none: the reference's answer is the program's.
-/
import Derived.Test.YtcaaljioennnnabDoorLinesP
import Derived.Test.YtcaaljioennnnabDoorFrameT
namespace Go.Proofs.YtcaaljioennnnabDoor.word
open Go.RowKit Go.Shelf
open Go.Proofs.YtcaaljioennnnabDoor.num Go.Proofs.YtcaaljioennnnabDoor.words Go.Proofs.YtcaaljioennnnabDoor.give Go.Proofs.YtcaaljioennnnabDoor.write Go.Proofs.YtcaaljioennnnabDoor.piece Go.Proofs.YtcaaljioennnnabDoor.texts

theorem ext_le {s : ByteArray} (h : s.size ≤ 65536) (f k : Nat) : (s.extract f k).size ≤ 65536 := by
  rw [ByteArray.size_extract]; omega
def linesFrom (s : ByteArray) (h : s.size ≤ 65536) (f : Nat) : List Ln := linesOf (s.extract f s.size) (ext_le h f s.size)
theorem from_data (s : ByteArray) (f : Nat) : (s.extract f s.size).data.toList = s.data.toList.drop f := by
  rw [ext_data]; exact List.take_of_length_le (by rw [List.length_drop, size_list]; omega)
theorem from_zero (s : ByteArray) (h : s.size ≤ 65536) : linesFrom s h 0 = linesOf s h := by
  have e : s.extract 0 s.size = s := by
    apply ByteArray.ext; rw [← Array.toList_inj, from_data]; rfl
  unfold linesFrom
  exact linesOf_congr e _
theorem mk_data {s : ByteArray} {f k : Nat} : (⟨((s.data.toList.drop f).take (k - f)).toArray⟩ : ByteArray) = s.extract f k := by
  apply ByteArray.ext; rw [← Array.toList_inj, ext_data]
theorem mk_from {s : ByteArray} {f : Nat} : (⟨(s.data.toList.drop f).toArray⟩ : ByteArray) = s.extract f s.size := by
  apply ByteArray.ext; rw [← Array.toList_inj, from_data]
section
variable {s : ByteArray} {h : s.size ≤ 65536} {f k : Nat}
theorem from_hit (hat : s.data.toList[k]? = some 10) (hf : f ≤ k) (hn : (10 : UInt8) ∉ (s.data.toList.drop f).take (k - f)) :
    linesFrom s h f = ⟨(s.extract f k, true), ext_le h f k⟩ :: linesFrom s h (k + 1) := by
  have hcut := cutAt hat hf
  rw [← from_data] at hcut
  unfold linesFrom
  have e1 : (⟨((s.data.toList.drop f).take (k - f)).toArray⟩ : ByteArray).size ≤ 65536 := by rw [mk_data]; exact ext_le h f k
  have e2 : (⟨(s.data.toList.drop (k + 1)).toArray⟩ : ByteArray).size ≤ 65536 := by rw [mk_from]; exact ext_le h _ _
  rw [linesOf_hit (ext_le h f s.size) (a := (s.data.toList.drop f).take (k - f)) (b := s.data.toList.drop (k + 1)) (by rw [hcut, from_data]) hn e1 e2]
  refine List.cons_eq_cons.2 ⟨Subtype.ext ?_, linesOf_congr mk_from _⟩
  show ((⟨((s.data.toList.drop f).take (k - f)).toArray⟩ : ByteArray), true) = _
  rw [mk_data]
theorem good_hit (hok : okL ((s.data.toList.drop f).take (k - f)) = true) : goodB ⟨(s.extract f k, true), ext_le h f k⟩ = true := by
  have e1 : (⟨((s.data.toList.drop f).take (k - f)).toArray⟩ : ByteArray).size ≤ 65536 := by rw [mk_data]; exact ext_le h f k
  have e : (⟨(s.extract f k, true), ext_le h f k⟩ : Ln) = ⟨(⟨((s.data.toList.drop f).take (k - f)).toArray⟩, true), e1⟩ :=
    Subtype.ext (by show (s.extract f k, true) = ((⟨((s.data.toList.drop f).take (k - f)).toArray⟩ : ByteArray), true); rw [mk_data])
  rw [e, okL_good]
  exact hok
theorem from_bad {c : UInt8} (hat : s.data.toList[k]? = some c) (hf : f ≤ k) (hn : (10 : UInt8) ∉ (s.data.toList.drop f).take (k - f)) (hc : c ≠ 10) (hbad : ¬ (32 ≤ c.toNat ∧ c.toNat ≤ 126)) :
    ∃ x t, linesFrom s h f = x :: t ∧ goodB x = false := by
  have hcut := cutAt hat hf
  have hd := from_data s f
  have hne : ¬ (s.extract f s.size).size = 0 := by
    rw [← size_list, hd, hcut]; simp
  unfold linesFrom
  rcases piece.parts 10 (s.extract f s.size).data.toList with hm | ⟨a, b, e, hm⟩
  · rw [linesOf_miss _ hne hm]
    exact ⟨_, _, rfl, rfl⟩
  · have hl : (s.extract f s.size).data.toList.length = a.length + (b.length + 1) := by rw [e]; simp
    rw [size_list] at hl
    have h0 := ext_le h f s.size
    have h1 : (⟨a.toArray⟩ : ByteArray).size ≤ 65536 := by rw [size_of]; omega
    have h2 : (⟨b.toArray⟩ : ByteArray).size ≤ 65536 := by rw [size_of]; omega
    rw [linesOf_hit _ e hm h1 h2]
    refine ⟨_, _, rfl, ?_⟩
    rw [okL_good]
    have hmem : c ∈ a := by
      rw [hd, hcut] at e
      -- the first byte that is 10 stands behind c
      rcases Nat.lt_or_ge ((s.data.toList.drop f).take (k - f)).length a.length with hlt | hge
      · have h3 : (((s.data.toList.drop f).take (k - f)) ++ c :: s.data.toList.drop (k + 1))[((s.data.toList.drop f).take (k - f)).length]? = some c := by
          rw [List.getElem?_append_right (Nat.le_refl _)]; simp
        rw [e, List.getElem?_append_left hlt] at h3
        exact List.mem_of_getElem? h3
      · exfalso
        have h3 : (a ++ 10 :: b)[a.length]? = some 10 := by
          rw [List.getElem?_append_right (Nat.le_refl _)]; simp
        rw [← e] at h3
        rcases Nat.lt_or_ge a.length ((s.data.toList.drop f).take (k - f)).length with h4 | h4
        · rw [List.getElem?_append_left h4] at h3
          exact hn (List.mem_of_getElem? h3)
        · have h5 : a.length = ((s.data.toList.drop f).take (k - f)).length := by omega
          rw [h5, List.getElem?_append_right (Nat.le_refl _)] at h3
          simp at h3
          exact hc h3
    unfold okL
    rw [List.all_eq_false]
    exact ⟨c, hmem, by simp only [decide_eq_true_eq]; exact hbad⟩
theorem from_end (hf : f < s.size) (hn : (10 : UInt8) ∉ s.data.toList.drop f) : ∃ x t, linesFrom s h f = x :: t ∧ goodB x = false := by
  unfold linesFrom
  rw [linesOf_miss (ext_le h f s.size) (by rw [ByteArray.size_extract]; omega) (by rw [from_data]; exact hn)]
  exact ⟨_, _, rfl, rfl⟩
theorem from_done (hf : f = s.size) : linesFrom s h f = [] := by
  unfold linesFrom
  exact linesOf_nil (by rw [ByteArray.size_extract]; omega)
theorem okL_next {c : UInt8} (hat : s.data.toList[k]? = some c) (hf : f ≤ k) (hok : okL ((s.data.toList.drop f).take (k - f)) = true) (h0 : 32 ≤ c.toNat) (h1 : c.toNat ≤ 126) : okL ((s.data.toList.drop f).take (k + 1 - f)) = true := by
  rw [takeNext hat hf]
  unfold okL at hok ⊢
  rw [List.all_append, hok]; simp [h0, h1]
end
theorem bad_post {s : ByteArray} {h : s.size ≤ 65536} {w W' : World} {ls : List Ln} {f : Nat} (hE : linesOf s h = ls ++ linesFrom s h f) (hg : ∀ y ∈ ls, goodB y = true) (hx : ∃ x t, linesFrom s h f = x :: t ∧ goodB x = false) (hb : Below w.heap.size w W') :
    LinesPost s h w (.returned (.tuple #[.slice none 0 0, .agg #[.int .i64 1, .int .i64 ((ls.length : Int) + 1)]])) W' := by
  obtain ⟨x, t, e, hx⟩ := hx
  exact ⟨.inr ⟨ls, x, rfl, ⟨t, by rw [hE, e]; simp⟩, hg, hx⟩, hb⟩

end Go.Proofs.YtcaaljioennnnabDoor.word

/-
  Layer 4: facts on lists of texts for the law WordBack: of no program's run.
-/
import Derived.Test.YtcaaljioennnnabDoorLinesA
import Derived.Test.YtcaaljioennnnabDoorLine
namespace Go.Proofs.YtcaaljioennnnabDoor.backL
open Go.RowKit Go.Shelf
open Go.Proofs.YtcaaljioennnnabDoor.word Go.Proofs.YtcaaljioennnnabDoor.piece Go.Proofs.YtcaaljioennnnabDoor.texts

def okAll (xs : List ByteArray) : Bool := xs.all fun x => okL x.data.toList
def blankIn (l : List UInt8) : Bool := l.any fun c => c == 32
def blankAny (xs : List ByteArray) : Bool := xs.any fun x => blankIn x.data.toList
def tot (xs : List ByteArray) : Nat := (xs.map fun x => x.size).sum
section
variable {xs : List ByteArray} {i : Nat} {x : ByteArray}
theorem ok_take (h : xs[i]? = some x) : okAll (xs.take (i + 1)) = (okAll (xs.take i) && okL x.data.toList) := by
  unfold okAll; rw [List.take_add_one, h, List.all_append]; simp
theorem blank_take (h : xs[i]? = some x) : blankAny (xs.take (i + 1)) = (blankAny (xs.take i) || blankIn x.data.toList) := by
  unfold blankAny; rw [List.take_add_one, h, List.any_append]; simp
theorem tot_take (h : xs[i]? = some x) : tot (xs.take (i + 1)) = tot (xs.take i) + x.size := by
  unfold tot; rw [List.take_add_one, h]; simp
end
section
variable {l : List UInt8} {k : Nat} {c : UInt8}
theorem okL_take (h : l[k]? = some c) : okL (l.take (k + 1)) = (okL (l.take k) && decide (32 ≤ c.toNat ∧ c.toNat ≤ 126)) := by
  unfold okL; rw [List.take_add_one, h, List.all_append]; simp
theorem blankIn_take (h : l[k]? = some c) : blankIn (l.take (k + 1)) = (blankIn (l.take k) || c == 32) := by
  unfold blankIn; rw [List.take_add_one, h, List.any_append]; simp
end
theorem text_len : ∀ xs : List ByteArray, (piece.textL (D xs)).length = tot xs + xs.length
  | [] => rfl
  | x :: r => by
    have h := text_len r
    show (piece.textL (x.data.toList :: D r)).length = _
    rw [textL_cons, List.length_append, List.length_cons, h]
    have := size_list x
    simp only [tot, List.map_cons, List.sum_cons, List.length_cons]
    omega
theorem join_le : ∀ xs : List ByteArray, (joinB xs).length ≤ tot xs + xs.length
  | [] => Nat.le_refl _
  | x :: r => by
    unfold joinB
    show (Lib.join (x.data.toList :: D r) [32]).length ≤ _
    rw [Lib.join_length]
    have h1 : Lib.lens (x.data.toList :: D r) = tot (x :: r) := by
      simp [Lib.lens, D, tot, List.map_map, Function.comp_def]
    have h2 : (D r).length = r.length := D_len r
    rw [h1, h2]
    simp only [List.length_cons, List.length_nil]
    omega
/-- a text whose lines are ones comes of them -/
theorem text_back {s : ByteArray} (h : lineErr s = 0) : (⟨(piece.textL (D (lineTx s))).toArray⟩ : ByteArray) = s := by
  unfold lineErr at h
  split at h
  · rename_i hs
    split at h
    · rename_i hall
      have e3 : lineTx s = txs (linesOf s hs) := by unfold lineTx; rw [dif_pos hs, if_pos hall]
      rw [e3, text_of_lines s.size s hs (Nat.le_refl _) (List.all_eq_true.1 hall)]
    · cases h
  · cases h
theorem text_tx_le (s : ByteArray) : (piece.textL (D (lineTx s))).length ≤ 65536 := by
  by_cases h : lineErr s = 0
  · have := congrArg ByteArray.size (text_back h)
    rw [size_of] at this
    unfold lineErr at h
    split at h
    · omega
    · cases h
  · have : lineTx s = [] := by
      unfold lineErr at h
      unfold lineTx
      split
      · rename_i hs
        rw [dif_pos hs] at h
        split
        · rename_i hall
          rw [if_pos hall] at h; exact absurd rfl h
        · rfl
      · rfl
    rw [this]; exact Nat.zero_le _
theorem line_back (s : ByteArray) : (⟨(joinB (fieldsB s)).toArray⟩ : ByteArray) = s := by
  unfold joinB
  rw [fieldsB_data, F_join 32 _ _ (Nat.le_refl _)]
theorem line_f_le (s : ByteArray) : (joinB (fieldsB s)).length = s.size := by
  have := congrArg ByteArray.size (line_back s)
  rw [size_of] at this; exact this
/-- lines that are written are read -/
theorem lines_back {xs : List ByteArray} (hok : okAll xs = true) (hl : tot xs + xs.length ≤ 65536) : lineErr ⟨(piece.textL (D xs)).toArray⟩ = 0 ∧ lineTx ⟨(piece.textL (D xs)).toArray⟩ = xs := by
  have hs : (⟨(piece.textL (D xs)).toArray⟩ : ByteArray).size ≤ 65536 := by rw [size_of, text_len]; exact hl
  obtain ⟨h1, h2⟩ := lines_of_text (D xs) ⟨(piece.textL (D xs)).toArray⟩ hs rfl (fun y hy => by
    obtain ⟨x, hx, rfl⟩ := List.mem_map.1 hy
    exact List.all_eq_true.1 hok x hx)
  have hall : (linesOf _ hs).all goodB = true := List.all_eq_true.2 h2
  refine ⟨by unfold lineErr; rw [dif_pos hs, if_pos hall], ?_⟩
  unfold lineTx
  rw [dif_pos hs, if_pos hall]
  exact D_inj h1
/-- fields that have no blank are read -/
theorem fields_back {xs : List ByteArray} (hb : blankAny xs = false) (hne : xs ≠ []) : fieldsB ⟨(joinB xs).toArray⟩ = xs := by
  apply D_inj
  rw [fieldsB_data]
  show F 32 (joinB xs) = D xs
  obtain ⟨x, r, rfl⟩ : ∃ x r, xs = x :: r := by
    cases xs with
    | nil => exact absurd rfl hne
    | cons x r => exact ⟨x, r, rfl⟩
  unfold joinB
  refine F_of_join 32 x.data.toList (D r) fun y hy => ?_
  have : y ∈ D (x :: r) := hy
  obtain ⟨z, hz, rfl⟩ := List.mem_map.1 this
  have h1 := List.any_eq_false.1 hb z hz
  intro hm
  exact h1 (List.any_eq_true.2 ⟨32, hm, by simp⟩)
theorem rd_plain {w : World} {A : Option Addr} {xs : List ByteArray} (h : Go.Proofs.YtcaaljioennnnabDoor.words.Rd w A (texts.S xs)) : xs = [] ∨ ∃ bk o, A = some ⟨bk, o, none⟩ := by
  cases xs with
  | nil => exact .inl rfl
  | cons x r =>
    obtain ⟨a, rfl, _, hc⟩ := rd_cell h (k := 0) (x := x) rfl
    refine .inr ⟨a.block, a.off, ?_⟩
    rw [show a.add 0 = a by unfold Addr.add; simp] at hc
    obtain ⟨b, o, sp⟩ := a
    cases sp with
    | none => rfl
    | some z =>
      unfold World.cell? at hc
      split at hc
      · simp at hc
      · cases hc
end Go.Proofs.YtcaaljioennnnabDoor.backL

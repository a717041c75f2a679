/-
 A text cut at each byte of one kind: of no program.
-/
import Derived.Lib.Split
import Derived.Lib.Join
namespace Go.Proofs.YtcaaljioennnnabDoor.piece
open Go.Lib

theorem idx_miss {c : UInt8} : ∀ {a : List UInt8}, c ∉ a → index a [c] = -1
 | [], _ => rfl
 | x :: l, h => by
  have h1 : c ≠ x := fun e => h (by rw [e]; exact List.mem_cons_self)
  have h2 : c ∉ l := fun e => h (List.mem_cons_of_mem _ e)
  have hp : ([c] : List UInt8).isPrefixOf (x :: l) = false := by simp [List.isPrefixOf, h1]
  unfold index
  rw [hp, idx_miss h2]; rfl
theorem idx_hit {c : UInt8} {b : List UInt8} : ∀ {a : List UInt8}, c ∉ a → index (a ++ c :: b) [c] = (a.length : Int)
 | [], _ => by
  have hp : ([c] : List UInt8).isPrefixOf (c :: b) = true := by simp [List.isPrefixOf]
  show index (c :: b) [c] = _
  unfold index
  rw [if_pos hp]; rfl
 | x :: l, h => by
  have h1 : c ≠ x := fun e => h (by rw [e]; exact List.mem_cons_self)
  have h2 : c ∉ l := fun e => h (List.mem_cons_of_mem _ e)
  have hp : ([c] : List UInt8).isPrefixOf (x :: (l ++ c :: b)) = false := by simp [List.isPrefixOf, h1]
  show index (x :: (l ++ c :: b)) [c] = _
  unfold index
  rw [hp, idx_hit h2]
  have : ((l.length : Int) == -1) = false := by rw [beq_eq_false_iff_ne]; omega
  simp [this]
theorem cut_miss {c : UInt8} {a : List UInt8} (h : c ∉ a) : cut a [c] = (a, [], false) := by
 unfold cut; rw [idx_miss h, if_neg (by decide)]
theorem cut_hit {c : UInt8} {a b : List UInt8} (h : c ∉ a) : cut (a ++ c :: b) [c] = (a, b, true) := by
 unfold cut
 rw [idx_hit h, if_pos (by omega)]
 have e1 : ((a.length : Int)).toNat = a.length := by omega
 rw [e1]
 simp [List.drop_append]
/-- each list has no c, or a first one -/
theorem parts (c : UInt8) : ∀ l : List UInt8, c ∉ l ∨ ∃ a b, l = a ++ c :: b ∧ c ∉ a
 | [] => .inl (by simp)
 | x :: l => by
  by_cases h : c = x
  ·exact .inr ⟨[], l, by rw [h]; rfl, by simp⟩
  ·rcases parts c l with h1 | ⟨a, b, e, h1⟩
   ·exact .inl (by simp [h, h1])
   ·exact .inr ⟨x :: a, b, by rw [e]; rfl, by simp [h, h1]⟩
def F (c : UInt8) (l : List UInt8) : List (List UInt8) := split l [c]
theorem F_miss {c : UInt8} {a : List UInt8} (h : c ∉ a) : F c a = [a] := by
 unfold F split
 rw [count_miss (idx_miss h)]; rfl
theorem F_hit {c : UInt8} {a b : List UInt8} (h : c ∉ a) : F c (a ++ c :: b) = a :: F c b := by
 have hi := idx_hit (b := b) h
 have hd : (a ++ c :: b).drop (a.length + ([c] : List UInt8).length) = b := by simp [List.drop_append]
 unfold F split
 rw [count_hit (by simp) hi, hd, Nat.add_comm]
 conv => lhs; unfold splitK
 have hn : ¬ (index (a ++ c :: b) [c] == -1) = true := by rw [hi]; intro e; have := beq_iff_eq.1 e; omega
 rw [if_neg hn, hi]
 have e1 : ((a.length : Int)).toNat = a.length := by omega
 rw [e1, hd]
 simp
theorem F_ne (c : UInt8) (l : List UInt8) : F c l ≠ [] := by
 rcases parts c l with h | ⟨a, b, rfl, h⟩
 ·rw [F_miss h]; simp
 ·rw [F_hit h]; simp
theorem F_len (c : UInt8) : ∀ (n : Nat) (l : List UInt8), l.length ≤ n → (F c l).length = count l [c] + 1 ∧ (F c l).length ≤ l.length + 1
 | 0, l, hl => by
  have : l = [] := List.eq_nil_of_length_eq_zero (by omega)
  subst this
  rw [F_miss (by simp), count_miss (idx_miss (by simp))]; exact ⟨rfl, by simp⟩
 | n + 1, l, hl => by
  rcases parts c l with h | ⟨a, b, rfl, h⟩
  ·rw [F_miss h, count_miss (idx_miss h)]; exact ⟨rfl, by simp⟩
  ·rw [F_hit h, count_hit (by simp) (idx_hit h)]
   have hd : (a ++ c :: b).drop (a.length + ([c] : List UInt8).length) = b := by simp [List.drop_append]
   have hb : b.length ≤ n := by simp at hl; omega
   have := F_len c n b hb
   rw [hd, List.length_cons]
   constructor
   ·omega
   ·simp; omega
/-- a list cut is put together again -/
theorem F_join (c : UInt8) : ∀ (n : Nat) (l : List UInt8), l.length ≤ n → join (F c l) [c] = l
 | 0, l, hl => by
  have : l = [] := List.eq_nil_of_length_eq_zero (by omega)
  subst this
  rw [F_miss (by simp), join_one]
 | n + 1, l, hl => by
  rcases parts c l with h | ⟨a, b, rfl, h⟩
  ·rw [F_miss h, join_one]
  ·have hb : b.length ≤ n := by simp at hl; omega
   have ih := F_join c n b hb
   obtain ⟨x, r, e⟩ : ∃ x r, F c b = x :: r := by
    cases h : F c b with
    | nil => exact absurd h (F_ne c b)
    | cons x r => exact ⟨x, r, rfl⟩
   rw [F_hit h, e, join_cons]
   rw [e, join_cons] at ih
   simp only [joinTail, List.map_cons, List.flatten_cons] at ih ⊢
   rw [← ih]
   simp
/-- what is put together of lists that have no c is cut as it was -/
theorem F_of_join (c : UInt8) : ∀ (x : List UInt8) (r : List (List UInt8)), (∀ y ∈ x :: r, c ∉ y) → F c (join (x :: r) [c]) = x :: r
 | x, [], h => by rw [join_one, F_miss (h x (by simp))]
 | x, y :: r, h => by
  have e : join (x :: y :: r) [c] = x ++ c :: join (y :: r) [c] := by
   rw [join_cons, join_cons]; simp [joinTail]
  rw [e, F_hit (h x (by simp)), F_of_join c y r (fun z hz => h z (List.mem_cons_of_mem _ hz))]

section
variable {l : List UInt8} {i f : Nat} {c x : UInt8}
theorem cutAt (h : l[i]? = some c) (hf : f ≤ i) : l.drop f = (l.drop f).take (i - f) ++ c :: l.drop (i + 1) := by
 have hlt : i < l.length := by
  rcases Nat.lt_or_ge i l.length with h1 | h1
  ·exact h1
  ·rw [List.getElem?_eq_none h1] at h; cases h
 conv => lhs; rw [← List.take_append_drop (i - f) (l.drop f)]
 rw [List.drop_drop, show f + (i - f) = i by omega, List.drop_eq_getElem_cons hlt]
 rw [List.getElem?_eq_getElem hlt] at h
 cases h; rfl
theorem takeNext (h : l[i]? = some x) (hf : f ≤ i) : (l.drop f).take (i + 1 - f) = (l.drop f).take (i - f) ++ [x] := by
 have : (l.drop f)[i - f]? = some x := by rw [List.getElem?_drop, show f + (i - f) = i by omega]; exact h
 rw [show i + 1 - f = i - f + 1 by omega, List.take_add_one, this]; rfl
theorem notNext (h : l[i]? = some x) (hf : f ≤ i) (hx : c ≠ x) (hn : c ∉ (l.drop f).take (i - f)) : c ∉ (l.drop f).take (i + 1 - f) := by
 rw [takeNext h hf]; simp [hn, hx]
end
/-- strings, as lists of bytes -/
def D (xs : List ByteArray) : List (List UInt8) := xs.map (·.data.toList)
theorem D_inj : ∀ {xs ys : List ByteArray}, D xs = D ys → xs = ys
 | [], [], _ => rfl
 | [], _ :: _, h => by cases h
 | _ :: _, [], h => by cases h
 | x :: xs, y :: ys, h => by
  simp only [D, List.map_cons, List.cons.injEq] at h
  rw [D_inj (xs := xs) (ys := ys) h.2, ByteArray.ext (Array.toList_inj.1 h.1)]
theorem D_app (xs ys : List ByteArray) : D (xs ++ ys) = D xs ++ D ys := by simp [D]
theorem D_len (xs : List ByteArray) : (D xs).length = xs.length := by simp [D]
theorem ext_data (s : ByteArray) (f i : Nat) : (s.extract f i).data.toList = (s.data.toList.drop f).take (i - f) := by
 rw [ByteArray.data_extract, Array.toList_extract]
def fieldsB (s : ByteArray) : List ByteArray := splitB ⟨#[32]⟩ 0 (countB s ⟨#[32]⟩) s
theorem fieldsB_data (s : ByteArray) : D (fieldsB s) = F 32 s.data.toList := by
 unfold D fieldsB F
 rw [splitB_data]; rfl
theorem fieldsB_len (s : ByteArray) : (fieldsB s).length = countB s ⟨#[32]⟩ + 1 := by
 rw [← D_len, fieldsB_data]; exact (F_len 32 _ _ (Nat.le_refl _)).1
theorem fieldsB_le (s : ByteArray) : (fieldsB s).length ≤ s.size + 1 := by
 rw [← D_len, fieldsB_data]
 have := (F_len 32 _ s.data.toList (Nat.le_refl _)).2
 rw [Array.length_toList] at this; exact this
/-- lines' text -/
def textL (xs : List (List UInt8)) : List UInt8 := (xs.map (· ++ [10])).flatten
theorem textL_snoc (xs : List (List UInt8)) (y : List UInt8) : textL (xs ++ [y]) = textL xs ++ y ++ [10] := by simp [textL]
theorem textL_cons (xs : List (List UInt8)) (y : List UInt8) : textL (y :: xs) = y ++ 10 :: textL xs := by simp [textL]
end Go.Proofs.YtcaaljioennnnabDoor.piece

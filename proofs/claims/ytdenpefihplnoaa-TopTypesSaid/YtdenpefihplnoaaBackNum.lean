/-
  What is written is read as it was, as plain mathematics: a number, a text, a section; and a section of which a byte within is another one is refused.
-/
import Derived.Test.YtdenpefihplnoaaRdNum
import Derived.Test.YtdenpefihplnoaaFourNum
namespace Go.Proofs.Ytdenpefihplnoaa.rdnum
open Go.Proofs.Ytdenpefihplnoaa.num Go.Proofs.Ytdenpefihplnoaa.sealing Go.Proofs.Ytdenpefihplnoaa.crcnum

theorem lebT_put (pre post : List Nat) (m : Nat) (hm : m < 18446744073709551616) : lebT (pre ++ (putL m ++ post)) pre.length = ⟨m, pre.length + (putL m).length, 0, 0⟩ := by
  have h := takeAt_in (l := pre ++ (putL m ++ post)) (p := pre.length) (by simp)
  rw [List.drop_left, take_put0 m hm post] at h
  unfold lebT
  rw [h]
  rfl
theorem numT_put (pre post : List Nat) (m : Nat) (most : Int) (hm : m < 18446744073709551616) (h : (m : Int) ≤ most) : numT (pre ++ (putL m ++ post)) pre.length most = ⟨m, pre.length + (putL m).length, 0, 0⟩ := by
  unfold numT
  rw [lebT_put pre post m hm]
  simp only [ne_eq, not_true_eq_false, if_false]
  rw [if_neg (by omega)]
theorem textT_put (pre post l : List Nat) (h : l.length ≤ 64) : textT (pre ++ (putL l.length ++ (l ++ post))) pre.length = ⟨l, pre.length + (putL l.length).length + l.length, 0, 0⟩ := by
  unfold textT
  rw [numT_put pre (l ++ post) l.length 64 (by omega) (by omega)]
  simp only [ne_eq, not_true_eq_false, if_false]
  unfold bytesT
  have e : (pre ++ (putL l.length ++ (l ++ post))).length - (pre.length + (putL l.length).length) = l.length + post.length := by simp; omega
  rw [e, if_neg (by omega)]
  have e2 : (pre ++ (putL l.length ++ (l ++ post))).drop (pre.length + (putL l.length).length) = l ++ post := by
    rw [← List.append_assoc, List.drop_left' (by simp)]
  rw [e2, List.take_left]

/-- a section's bytes: what is read of them -/
theorem sectT_at (id : Nat) (l sum : List Nat) (n : Nat) (hs : sum.length = 4) (hl : l.length = n) (hn : n ≤ 65536) :
    sectT (id :: (putL n ++ (l ++ sum))) 0 id = if (openL (l ++ sum)).2 ≠ 0 then ⟨(0, 0), 0, (openL (l ++ sum)).2, 1 + (putL n).length⟩ else ⟨(1 + (putL n).length, n), 1 + (putL n).length + n + 4, 0, 0⟩ := by
  have hb : byteT (id :: (putL n ++ (l ++ sum))) 0 = ⟨id, 1, 0, 0⟩ := by unfold byteT; rw [if_pos (by simp)]; rfl
  have hnum : numT (id :: (putL n ++ (l ++ sum))) 1 65536 = ⟨n, 1 + (putL n).length, 0, 0⟩ := numT_put [id] (l ++ sum) n 65536 (by omega) (by omega)
  have hd : (id :: (putL n ++ (l ++ sum))).drop (1 + (putL n).length) = l ++ sum := by
    rw [Nat.add_comm, List.drop_succ_cons, List.drop_left]
  unfold sectT
  simp only [hb, hnum, Nat.zero_add, ne_eq, not_true_eq_false, if_false]
  rw [hd, if_neg (by simp; omega)]
  have ht : (l ++ sum).take (n + 4) = l ++ sum := List.take_of_length_le (by simp; omega)
  rw [ht]
theorem sectT_put (id : Nat) (l : List Nat) (hn : l.length ≤ 65536) :
    sectT (id :: (putL l.length ++ sealL l)) 0 id = ⟨(1 + (putL l.length).length, l.length), 1 + (putL l.length).length + l.length + 4, 0, 0⟩ := by
  have h := sectT_at id l (fourL (sumL l)) l.length rfl rfl hn
  have ho := open_seal l
  unfold sealL at ho ⊢
  rw [h, ho]
  rfl
/-- what a section's reader has -/
theorem sect_take (id : Nat) (l sum : List Nat) (n : Nat) (hl : l.length = n) : (id :: (putL n ++ (l ++ sum))).take (1 + (putL n).length + n) = id :: (putL n ++ l) := by
  rw [show 1 + (putL n).length + n = ((putL n).length + n) + 1 by omega, List.take_succ_cons, ← List.append_assoc, List.take_left' (by simp [hl])]

/-- a byte is another one -/
theorem flip_sum (l : List Nat) (k x d : Nat) (hk : l[k]? = some x) (hl : ∀ c ∈ l, c < 256) (hd : d < 256) (h0 : d ≠ 0) : sumL (l.set k (x ^^^ d)) ≠ sumL l := by
  have h1 := (fournum.Cur.start l (fournum.four d 0 0 0) k).turn (y := x) (by simpa using hk)
  have h2 := ((h1.skip (.inr rfl)).skip (.inr rfl)).skip (.inr rfl)
  have h3 := (h2.sums hl (fournum.four_lt ⟨hd, by omega, by omega, by omega⟩)).2 ⟨0, by omega, by simpa using (List.getElem?_eq_some_iff.1 hk).1, h0⟩
  simpa [fournum.four] using h3
theorem flip_open (l : List Nat) (k x d : Nat) (hk : l[k]? = some x) (hl : ∀ c ∈ l, c < 256) (hd : d < 256) (h0 : d ≠ 0) : openL (l.set k (x ^^^ d) ++ fourL (sumL l)) = ([], 4) := by
  have hne := flip_sum l k x d hk hl hd h0
  have a1 := sumL_lt l
  have a2 := sumL_lt (l.set k (x ^^^ d))
  unfold openL
  have e1 : (l.set k (x ^^^ d) ++ fourL (sumL l)).length = l.length + 4 := by simp [fourL]
  rw [e1, if_neg (by omega), show l.length + 4 - 4 = l.length by omega]
  rw [List.drop_left' (by simp), List.take_left' (by simp)]
  rw [if_neg]
  intro e
  apply hne
  simp only [fourL, List.cons.injEq, and_true] at e
  omega
theorem sectT_flip (id : Nat) (l : List Nat) (k x d : Nat) (hn : l.length ≤ 65536) (hk : l[k]? = some x) (hl : ∀ c ∈ l, c < 256) (hd : d < 256) (h0 : d ≠ 0) :
    sectT (id :: (putL l.length ++ (l.set k (x ^^^ d) ++ fourL (sumL l)))) 0 id = ⟨(0, 0), 0, 4, 1 + (putL l.length).length⟩ := by
  rw [sectT_at id _ _ l.length rfl (by simp) hn, flip_open l k x d hk hl hd h0]
  rfl
end Go.Proofs.Ytdenpefihplnoaa.rdnum

/-
  A text's lines, written one behind the other into a section: what is read of it.
-/
import Derived.Test.YtcpjllkfgoaamaaDoorBackL
import Derived.Test.YtcpjllkfgoaamaaDoorBackNum
import Derived.Test.YtcpjllkfgoaamaaDoorWriteR
namespace Go.Proofs.YtcpjllkfgoaamaaDoor.topLines
open Go.RowKit
open Go.Proofs.YtcpjllkfgoaamaaDoor.num Go.Proofs.YtcpjllkfgoaamaaDoor.words Go.Proofs.YtcpjllkfgoaamaaDoor.rdnum Go.Proofs.YtcpjllkfgoaamaaDoor.rdr Go.Proofs.YtcpjllkfgoaamaaDoor.give Go.Proofs.YtcpjllkfgoaamaaDoor.meth Go.Proofs.YtcpjllkfgoaamaaDoor.sealing Go.Proofs.YtcpjllkfgoaamaaDoor.write Go.Proofs.YtcpjllkfgoaamaaDoor.word Go.Proofs.YtcpjllkfgoaamaaDoor.backL Go.Proofs.YtcpjllkfgoaamaaDoor.piece

theorem endT_end (l : List Nat) (p : Nat) (h : p = l.length) : endT l p = ⟨1, p, 0, 0⟩ := by unfold endT; rw [if_neg (by omega)]
/-- lines, as they are written -/
def wireL (xs : List ByteArray) : List Nat := (xs.map fun x => write.textL (N x)).flatten
theorem wireL_take {xs : List ByteArray} {i : Nat} {x : ByteArray} (h : xs[i]? = some x) : wireL (xs.take (i + 1)) = wireL (xs.take i) ++ write.textL (N x) := by
  unfold wireL; rw [List.take_add_one, h]; simp
theorem putL_one {n : Nat} (h : n < 128) : putL n = [n] := by unfold putL; rw [if_pos h]
theorem textL_len {x : ByteArray} (h : x.size ≤ 64) : (write.textL (N x)).length = x.size + 1 := by
  unfold write.textL
  rw [List.length_append, N_len, putL_one (by omega)]; simp; omega
theorem wireL_len : ∀ xs : List ByteArray, (∀ x ∈ xs, x.size ≤ 64) → (wireL xs).length = tot xs + xs.length
  | [], _ => rfl
  | x :: r, h => by
    have ih := wireL_len r (fun y hy => h y (List.mem_cons_of_mem _ hy))
    show (write.textL (N x) ++ wireL r).length = _
    rw [List.length_append, textL_len (h x List.mem_cons_self), ih]
    simp only [tot, List.map_cons, List.sum_cons, List.length_cons]; omega
theorem wireL_byte (xs : List ByteArray) : ∀ c ∈ wireL xs, c < 256 := by
  intro c hc
  unfold wireL at hc
  obtain ⟨l, hl, hcl⟩ := List.mem_flatten.1 hc
  obtain ⟨x, _, rfl⟩ := List.mem_map.1 hl
  unfold write.textL at hcl
  rcases List.mem_append.1 hcl with h | h
  · exact putL_byte _ c h
  · exact N_byte x c h
theorem wireL_split {xs : List ByteArray} {i : Nat} {x : ByteArray} (h : xs[i]? = some x) : wireL xs = wireL (xs.take i) ++ (write.textL (N x) ++ wireL (xs.drop (i + 1))) := by
  have hlt : i < xs.length := by
    rcases Nat.lt_or_ge i xs.length with h1 | h1
    · exact h1
    · rw [List.getElem?_eq_none h1] at h; cases h
  have e : xs = xs.take i ++ x :: xs.drop (i + 1) := by
    conv => lhs; rw [← List.take_append_drop i xs, List.drop_eq_getElem_cons hlt]
    rw [List.getElem?_eq_getElem hlt] at h
    cases h; rfl
  conv => lhs; rw [e]
  simp [wireL]
/-- the bytes that the section's reader goes through -/
def inner (b : List Nat) : List Nat := 3 :: (putL b.length ++ b)
def startP (b : List Nat) : Nat := 1 + (putL b.length).length
/-- how far it is behind i lines -/
def posP (xs : List ByteArray) (i : Nat) : Nat := startP (wireL xs) + (wireL (xs.take i)).length
theorem posP_zero (xs : List ByteArray) : posP xs 0 = startP (wireL xs) := by unfold posP; simp [wireL]
theorem inner_len (b : List Nat) : (inner b).length = startP b + b.length := by unfold inner startP; simp; omega
theorem text_at {xs : List ByteArray} {i : Nat} {x : ByteArray} (h : xs[i]? = some x) (h64 : x.size ≤ 64) : textT (inner (wireL xs)) (posP xs i) = ⟨N x, posP xs (i + 1), 0, 0⟩ := by
  have hs := wireL_split h
  have e : inner (wireL xs) = (3 :: (putL (wireL xs).length ++ wireL (xs.take i))) ++ (putL (N x).length ++ (N x ++ wireL (xs.drop (i + 1)))) := by
    unfold inner
    have h2 : wireL xs = wireL (xs.take i) ++ (putL (N x).length ++ (N x ++ wireL (xs.drop (i + 1)))) := by
      conv => lhs; rw [hs]
      unfold write.textL
      simp
    conv => lhs; rhs; rhs; rw [h2]
    simp
  have hp : posP xs i = (3 :: (putL (wireL xs).length ++ wireL (xs.take i))).length := by unfold posP startP; simp; omega
  rw [e, hp, textT_put _ _ (N x) (by rw [N_len]; exact h64)]
  congr 1
  rw [← hp]
  unfold posP
  rw [wireL_take h, List.length_append]
  unfold write.textL
  rw [List.length_append]; omega
theorem end_at (xs : List ByteArray) : endT (inner (wireL xs)) (posP xs xs.length) = ⟨1, posP xs xs.length, 0, 0⟩ :=
  endT_end _ _ (by rw [inner_len]; unfold posP; rw [List.take_length])
theorem sect_at (b : List Nat) (hb : b.length ≤ 65536) : ∃ (p0 m t : Nat), sectT (sectL 3 b) 0 3 = ⟨(p0, m), t, 0, 0⟩ ∧ (sectL 3 b).take (p0 + m) = inner b ∧ p0 = startP b :=
  ⟨1 + (putL b.length).length, b.length, _, sectT_put 3 b hb, sect_take 3 b (fourL (crcnum.sumL b)) b.length rfl, rfl⟩
theorem sect_len (b : List Nat) (hb : b.length ≤ 65536) : (sectL 3 b).length ≤ 140737488355328 := by
  unfold sectL; rw [List.length_cons, List.length_append, sealL_len]; have := putL_len10 b.length (by omega); omega
theorem sect_byte {b : List Nat} (hby : ∀ x ∈ b, x < 256) : ∀ x ∈ sectL 3 b, x < 256 := by
  intro x hx
  unfold sectL at hx
  simp only [List.mem_cons, List.mem_append] at hx
  rcases hx with rfl | hx | hx
  · omega
  · exact putL_byte _ x hx
  · exact sealL_byte hby x hx
/-- a reader behind an append to a row of texts -/
theorem RW.app {w w' : World} {b base n : Nat} {s : Rs} {v : Value} {xs : List Value} {o : Obj} (h : RW w b s) (hown : w.ownsRow base 9 1 v n xs) (hg : (w.alloc o).grownBy w' v.ownBlock) : RW w' b s := by
  have ha : RW (w.alloc o) b s := h.below ((Below.refl _ _).alloc (Nat.le_refl _) o)
  have hk : ∀ g, v.ownBlock = some g → ∃ cs f, (w.alloc o).heap[g]? = some (.cells cs 9 f) := by
    intro g hv
    rcases hown.2 with ⟨rfl, _⟩ | ⟨g', cap, cur, rfl, _, hh, _⟩
    · cases hv
    · cases hv
      exact ⟨_, _, (Below.heap_alloc _ _ _ (blk_lt hh)).trans hh⟩
  obtain ⟨ok, A, d, hh, hle, hb⟩ := ha
  refine ⟨ok, A, d, (hg.block b (blk_lt hh) (fun e => ?_)).trans hh, hle, hb.kept hg (fun g cs f e hx => ?_)⟩
  · obtain ⟨cs, f, hx⟩ := hk b e.symm
    rw [hh] at hx; simp at hx
  · obtain ⟨cs', f', hy⟩ := hk g e
    rw [hx] at hy; simp at hy
/-- a row of texts behind a read -/
theorem own_but {w w' : World} {b base n : Nat} {s : Rs} {v : Value} {xs : List Value} (h : w.ownsRow base 9 1 v n xs) (hr : RW w b s) (hg : But b w w') : w'.ownsRow base 9 1 v n xs := by
  refine ⟨h.1, ?_⟩
  rcases h.2 with h0 | ⟨g, cap, cur, rfl, hbg, hh, rest⟩
  · exact .inl h0
  · refine .inr ⟨g, cap, cur, rfl, hbg, hg.heap hh (fun e => ?_), rest⟩
    obtain ⟨_, A, d, hx, _⟩ := hr
    rw [e, hx] at hh; simp at hh
/-- a text's bytes are its lines' -/
theorem bytes_of {s : ByteArray} (h : lineErr s = 0) : tot (lineTx s) + (lineTx s).length = s.size := by
  have := congrArg ByteArray.size (text_back h)
  rw [size_of, text_len] at this; exact this
end Go.Proofs.YtcpjllkfgoaamaaDoor.topLines

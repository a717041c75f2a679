/-
  How a reader of bytes lies in memory: the program's, in a block of four cells, the reference's, in one of five; and what a call that writes to one block alone leaves.
-/
import Derived.Test.YtodnfahffkggiaaDoorProg
import Derived.Test.YtodnfahffkggiaaDoorRdNum
import Derived.Test.YtodnfahffkggiaaDoorWords
import Derived.Lib.Hide
import Derived.Lib.BufferWrite
namespace Go.Proofs.YtodnfahffkggiaaDoor.rdr
open Go.RowKit
open Go.Proofs.YtodnfahffkggiaaDoor.num Go.Proofs.YtodnfahffkggiaaDoor.words Go.Proofs.YtodnfahffkggiaaDoor.rdnum

/-- A slice of bytes, in a block of bytes; of no bytes nothing is said. -/
def Bs (w : World) (A : Option Addr) (l : List Nat) : Prop :=
  l = [] ∨ ∃ a, A = some a ∧ (∃ cs f, w.heap[a.block]? = some (.cells cs 5 f)) ∧ ∀ j u, (B l)[j]? = some u → w.cell? (a.add j) = some u
theorem Bs.rd {w : World} {A : Option Addr} {l : List Nat} (h : Bs w A l) : Rd w A (B l) := by
  rcases h with rfl | ⟨a, rfl, ⟨cs, f, hh⟩, hc⟩
  · exact .inl rfl
  · exact .inr ⟨a, rfl, blk_lt hh, hc⟩
theorem Bs.nil (w : World) (A : Option Addr) : Bs w A [] := .inl rfl
theorem Bs.kept {w w' : World} {A : Option Addr} {l : List Nat} (h : Bs w A l) {r : Option Nat} (hg : w.grownBy w' r) (hr : ∀ b cs f, r = some b → w.heap[b]? ≠ some (.cells cs 5 f)) : Bs w' A l := by
  rcases h with rfl | ⟨a, rfl, ⟨cs, f, hh⟩, hc⟩
  · exact .inl rfl
  · have hb : w'.heap[a.block]? = w.heap[a.block]? := hg.block _ (blk_lt hh) (fun e => hr _ cs f e.symm hh)
    refine .inr ⟨a, rfl, ⟨cs, f, hb.trans hh⟩, fun j u hu => ?_⟩
    rw [← hc j u hu]
    exact World.cell?_of_block (by rw [add_block]; exact hb)
theorem Bs.take {w : World} {A : Option Addr} {l : List Nat} (h : Bs w A l) (k : Nat) : Bs w A (l.take k) := by
  rcases h with rfl | ⟨a, rfl, hh, hc⟩
  · exact .inl (by simp)
  · refine .inr ⟨a, rfl, hh, fun j u hu => hc j u ?_⟩
    rw [← B_take, List.getElem?_take] at hu
    split at hu
    · exact hu
    · cases hu
theorem Bs.below {w w' : World} {A : Option Addr} {l : List Nat} (h : Bs w A l) (hb : Below w.heap.size w w') : Bs w' A l :=
  h.kept (r := none) ⟨hb.os, hb.tape, hb.output, hb.size, fun k hk _ => hb.block k hk⟩ (fun _ _ _ h => by cases h)
theorem own_bs {w : World} {base n : Nat} {v : Value} {l : List Nat} (h : w.ownsRow base 5 1 v n (B l)) : ∃ A c, v = .slice A n c ∧ n ≤ c ∧ c ≤ maxLen ∧ l.length = n ∧ Bs w A l := by
  have hlen : l.length = n := by have := h.1; rw [B_len] at this; omega
  rcases h.2 with ⟨rfl, rfl⟩ | ⟨g, cap, cur, rfl, _, hg, hnc, hcm, _, _⟩
  · exact ⟨none, 0, rfl, Nat.le_refl _, Nat.zero_le _, hlen, .inl (List.eq_nil_of_length_eq_zero hlen)⟩
  · exact ⟨_, cap, rfl, hnc, hcm, hlen, .inr ⟨_, rfl, ⟨_, _, hg⟩, h.cells (g := g) rfl⟩⟩

/-- writes to one block alone -/
abbrev But (b : Nat) (w w' : World) : Prop := w.grownBy w' (some b)
theorem But.refl (b : Nat) (w : World) : But b w w := ⟨rfl, rfl, rfl, Nat.le_refl _, fun _ _ _ => rfl⟩
theorem But.trans {b : Nat} {w w1 w2 : World} (h : But b w w1) (k : But b w1 w2) : But b w w2 :=
  ⟨k.os.trans h.os, k.tape.trans h.tape, k.output.trans h.output, Nat.le_trans h.size k.size, fun i hi hr => (k.block i (Nat.lt_of_lt_of_le hi h.size) hr).trans (h.block i hi hr)⟩
theorem But.alloc {b : Nat} {w w1 : World} (h : But b w w1) (o : Obj) : But b w (w1.alloc o) := h.trans (World.grownBy_alloc w1 o _)
theorem But.set {b : Nat} {w w1 : World} (h : But b w w1) (i : Nat) (v : Value) : But b w (w1.setCell ⟨b, i, none⟩ v) := h.trans (Lib.grownBy_setCell w1 b i v)
theorem But.drewN {b n : Nat} {w w1 : World} (h : But b w w1) : But b w (w1.drewN n) := ⟨h.os, h.tape, h.output, h.size, h.block⟩
theorem But.undrew {b n : Nat} {w w1 : World} (h : But b (w.drewN n) w1) : But b w w1 := ⟨h.os, h.tape, h.output, h.size, h.block⟩
theorem But.of {b : Nat} {w w1 : World} (h : Below w.heap.size w w1) : But b w w1 := ⟨h.os, h.tape, h.output, h.size, fun k hk _ => h.block k hk⟩
/-- a store into a block that is new -/
theorem But.fresh {b : Nat} {w w1 : World} (h : But b w w1) {p : Addr} (hp : w.heap.size ≤ p.block) (v : Value) : But b w (w1.setCell p v) := by
  refine ⟨h.os, h.tape, h.output, by simp [World.setCell]; exact h.size, fun k hk hr => ?_⟩
  rw [Below.heap_setCell _ _ _ _ (by omega)]
  exact h.block k hk hr
theorem But.below {b B : Nat} {w w1 : World} (h : But b w w1) (h1 : B ≤ b) (h2 : B ≤ w.heap.size) : Below B w w1 :=
  ⟨h.os, h.tape, h.output, h.size, fun k hk => h.block k (by omega) (fun e => by cases e; omega)⟩
theorem But.heap {b c : Nat} {w w1 : World} (h : But b w w1) {o : Obj} (hc : w.heap[c]? = some o) (hne : c ≠ b) : w1.heap[c]? = some o :=
  (h.block c (blk_lt hc) (fun e => hne (by cases e; rfl))).trans hc

end Go.Proofs.YtodnfahffkggiaaDoor.rdr

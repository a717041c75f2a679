/-
  Layer 3: bytes that are read and written: the program’s answers.
-/
import Derived.Test.YtjcdgpfffmnneaaGreatDoorOpen
import Derived.Test.YtjcdgpfffmnneaaGreatDoorProg
import Derived.Test.YtjcdgpfffmnneaaGreatDoorWords
import Derived.Lib.Hide
import Derived.Lib.BufferWrite
import Derived.Deep.QuietTactic
import Derived.BigQuiet
import Derived.IntWalk
import Derived.Deep.RegionHeld3
import Derived.Defers
import Derived.Recover
import Derived.Lib.AppendStr
/- What a reader of bytes does, as plain mathematics: a read answers a value and the place behind it, or an error and the place at which what failed begins. -/
namespace Go.Proofs.YtjcdgpfffmnneaaGreatDoor.rdnum
open num sealing

/-- a reader: its bytes from the beginning of all bytes up to its end, its place, what failed first, and where -/
structure Rs where
  l : List Nat
  p : Nat
  e : Int
  f : Nat

/-- what a read gives: a value and the place behind it with error 0, or an error and its place -/
structure Rr (α : Type) where
  v : α
  q : Nat
  e : Nat
  f : Nat

def lebT (l : List Nat) (p : Nat) : Rr Nat := if (takeAt l p).2.2 = 0 then ⟨(takeAt l p).1, (takeAt l p).2.1, 0, 0⟩ else ⟨0, 0, (takeAt l p).2.2, p⟩
def numT (l : List Nat) (p : Nat) (m : Int) : Rr Nat :=
  if (lebT l p).e ≠ 0 then lebT l p else if m < (lebT l p).v then ⟨0, 0, 3, p⟩ else lebT l p
def bytesT (l : List Nat) (p n : Nat) : Rr (List Nat) := if l.length - p < n then ⟨[], 0, 2, p⟩ else ⟨(l.drop p).take n, p + n, 0, 0⟩
def textT (l : List Nat) (p : Nat) : Rr (List Nat) :=
  if (numT l p 64).e ≠ 0 then ⟨[], 0, (numT l p 64).e, (numT l p 64).f⟩ else bytesT l (numT l p 64).q (numT l p 64).v
def Rs.fail (s : Rs) (e : Int) : Rs := if s.e ≠ 0 ∨ e = 0 then s else { s with e := e, f := s.p }

/-- a reader that can be -/
structure Rs.Ok (s : Rs) : Prop where
  le : s.p ≤ s.l.length
  len : s.l.length ≤ 140737488355328
  byte : ∀ x ∈ s.l, x < 256
  fe : s.e = 0 → s.f = 0

end Go.Proofs.YtjcdgpfffmnneaaGreatDoor.rdnum

/- How a reader of bytes lies in memory: the program's, in a block of four cells, the reference's, in one of five; and what a call that writes to one block alone leaves. -/
namespace Go.Proofs.YtjcdgpfffmnneaaGreatDoor.rdr
open Go.RowKit
open num words rdnum

/-- A slice of bytes, in a block of bytes; of no bytes nothing is said. -/
def Bs (w : World) (A : Option Addr) (l : List Nat) : Prop :=
  l = [] ∨ ∃ a, A = some a ∧ (∃ cs f, w.heap[a.block]? = some (.cells cs 5 f)) ∧ ∀ j u, (B l)[j]? = some u → w.cell? (a.add j) = some u
theorem Bs.nil (w : World) (A : Option Addr) : Bs w A [] := .inl rfl
theorem Bs.kept {w w' : World} {A : Option Addr} {l : List Nat} (h : Bs w A l) {r : Option Nat} (hg : w.grownBy w' r) (hr : ∀ b cs f, r = some b → w.heap[b]? ≠ some (.cells cs 5 f)) : Bs w' A l := by
  rcases h with rfl | ⟨a, rfl, ⟨cs, f, hh⟩, hc⟩
  · exact .inl rfl
  · have hb : w'.heap[a.block]? = w.heap[a.block]? := hg.block _ (blk_lt hh) (fun e => hr _ cs f e.symm hh)
    refine .inr ⟨a, rfl, ⟨cs, f, hb.trans hh⟩, fun j u hu => ?_⟩
    rw [← hc j u hu]
    exact World.cell?_of_block (by rw [add_block]; exact hb)
theorem Bs.take {w : World} {A : Option Addr} {l : List Nat} (h : Bs w A l) (k : Nat) : Bs w A (l.take k) := by
  rcases h with rfl | ⟨a, rfl, hh, hc⟩
  · exact .inl (by simp)
  · refine .inr ⟨a, rfl, hh, fun j u hu => hc j u ?_⟩
    rw [← B_take, List.getElem?_take] at hu
    split at hu
    · exact hu
    · cases hu
theorem Bs.below {w w' : World} {A : Option Addr} {l : List Nat} (h : Bs w A l) (hb : Below w.heap.size w w') : Bs w' A l :=
  h.kept (r := none) ⟨hb.os, hb.tape, hb.output, hb.size, fun k hk _ => hb.block k hk⟩ (fun _ _ _ h => by cases h)
/-- writes to one block alone -/
abbrev But (b : Nat) (w w' : World) : Prop := w.grownBy w' (some b)
theorem But.refl (b : Nat) (w : World) : But b w w := ⟨rfl, rfl, rfl, Nat.le_refl _, fun _ _ _ => rfl⟩
theorem But.trans {b : Nat} {w w1 w2 : World} (h : But b w w1) (k : But b w1 w2) : But b w w2 :=
  ⟨k.os.trans h.os, k.tape.trans h.tape, k.output.trans h.output, Nat.le_trans h.size k.size, fun i hi hr => (k.block i (Nat.lt_of_lt_of_le hi h.size) hr).trans (h.block i hi hr)⟩
theorem But.alloc {b : Nat} {w w1 : World} (h : But b w w1) (o : Obj) : But b w (w1.alloc o) := h.trans (World.grownBy_alloc w1 o _)
theorem But.set {b : Nat} {w w1 : World} (h : But b w w1) (i : Nat) (v : Value) : But b w (w1.setCell ⟨b, i, none⟩ v) := h.trans (Lib.grownBy_setCell w1 b i v)
theorem But.drewN {b n : Nat} {w w1 : World} (h : But b w w1) : But b w (w1.drewN n) := ⟨h.os, h.tape, h.output, h.size, h.block⟩
theorem But.of {b : Nat} {w w1 : World} (h : Below w.heap.size w w1) : But b w w1 := ⟨h.os, h.tape, h.output, h.size, fun k hk _ => h.block k hk⟩
theorem But.below {b B : Nat} {w w1 : World} (h : But b w w1) (h1 : B ≤ b) (h2 : B ≤ w.heap.size) : Below B w w1 :=
  ⟨h.os, h.tape, h.output, h.size, fun k hk => h.block k (by omega) (fun e => by cases e; omega)⟩
theorem But.heap {b c : Nat} {w w1 : World} (h : But b w w1) {o : Obj} (hc : w.heap[c]? = some o) (hne : c ≠ b) : w1.heap[c]? = some o :=
  (h.block c (blk_lt hc) (fun e => hne (by cases e; rfl))).trans hc

end Go.Proofs.YtjcdgpfffmnneaaGreatDoor.rdr

/- What the program's inner reads do: each answers, or gives up with a panic that bears the error and its place. -/
namespace Go.Proofs.YtjcdgpfffmnneaaGreatDoor.give
open Go.RowKit
open num words rdnum rdr
end Go.Proofs.YtjcdgpfffmnneaaGreatDoor.give

/- What the program's inner reads do, on: the next n bytes, a text, a section. -/
namespace Go.Proofs.YtjcdgpfffmnneaaGreatDoor.give
open Go.RowKit
open num words rdnum rdr sealing

set_option maxRecDepth 100000 in
/-- bytes as a text -/
def S (l : List Nat) : Value := .string ⟨(l.map UInt8.ofNat).toArray⟩
end Go.Proofs.YtjcdgpfffmnneaaGreatDoor.give

/- What the program's inner read of a section does. -/
namespace Go.Proofs.YtjcdgpfffmnneaaGreatDoor.give
open Go.RowKit
open num words rdnum rdr sealing
end Go.Proofs.YtjcdgpfffmnneaaGreatDoor.give

/- What the deferred function of a read does: it catches a failure, and sets the reader to where that lies; without a failure it does nothing. -/
namespace Go.Proofs.YtjcdgpfffmnneaaGreatDoor.catching
open Go.RowKit
open num words rdnum rdr give

end Go.Proofs.YtjcdgpfffmnneaaGreatDoor.catching

/- What a read does: nothing, if something had failed; else what its inner read answers, or its zero value, and the failure is kept. -/
namespace Go.Proofs.YtjcdgpfffmnneaaGreatDoor.reading
open Go.RowKit
open num words rdnum rdr give catching

end Go.Proofs.YtjcdgpfffmnneaaGreatDoor.reading

/- What the reader's methods answer, and how they leave it. -/
namespace Go.Proofs.YtjcdgpfffmnneaaGreatDoor.meth
open Go.RowKit
open num words rdnum rdr give reading
end Go.Proofs.YtjcdgpfffmnneaaGreatDoor.meth

/- What the reader's other methods answer: Section, Fail, Fault, At, Left. -/
namespace Go.Proofs.YtjcdgpfffmnneaaGreatDoor.meth
open Go.RowKit
open num words rdnum rdr give reading

/-- how many are left -/
def left (s : Rs) : Int := if s.e ≠ 0 then 0 else (s.l.length : Int) - s.p
end Go.Proofs.YtjcdgpfffmnneaaGreatDoor.meth

/- What the program and the reference write: a text's bytes, a section's; and a reader that is opened; what is cloned. -/
namespace Go.Proofs.YtjcdgpfffmnneaaGreatDoor.write
open Go.RowKit
open num words rdnum rdr give reading meth sealing crcnum

/-- a text's bytes, as numbers -/
def N (s : ByteArray) : List Nat := s.data.toList.map (·.toNat)
theorem N_len (s : ByteArray) : (N s).length = s.size := by unfold N; rw [List.length_map, Array.length_toList]; rfl
end Go.Proofs.YtjcdgpfffmnneaaGreatDoor.write

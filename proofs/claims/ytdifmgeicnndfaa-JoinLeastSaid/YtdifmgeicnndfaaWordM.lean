/- WordM -/
import Derived.Test.YtdifmgeicnndfaaOp
import Derived.Deep.QuietTactic
import Derived.BigQuiet
import Derived.Defers
import Derived.Recover
import Derived.Laws.OwnMore
import Derived.RangeFuncNested
import Derived.RangeFuncBound
import Derived.RangeFuncCalls
import Derived.RangeFuncLeaves
import Derived.RangeFuncBox
import Derived.Shelf.Abstract
import Derived.Shelf.RegionOpen
import Derived.WalkKit
import Derived.OwnWalkIn
import Derived.TacticsInMore
import Derived.LoopNIn
import Derived.LoopIn
import Derived.Maps.AppendAt
import Derived.Deep.RegionHeld3
import Derived.IntWalk
namespace Go.Proofs.Ytdifmgeicnndfaa.op
open Go.RowKit
open words kindp opp
def IL (l : List Int) : List Value := l.map fun z => Value.int .i64 z
theorem IL_at {l : List Int} {j : Nat} {c : Int} (h : l[j]? = some c) : (IL l)[j]? = some (.int .i64 c) := by simp [IL, h]
def InV (i : In) (A : Option Addr) (c : Nat) : Array Value := #[.int .i64 i.o, .int .i64 i.a, .int .i64 i.b, .int .i64 i.c, .int .i64 i.k, .string ⟨i.cl.toArray⟩, .string ⟨i.nm.toArray⟩, .string ⟨i.ds.toArray⟩, .slice A i.ar.length c]
theorem next_none {P : Program} (w : World) (b : Nat) (l : Tx) (pos : Nat) (hb : w.heap[b]? = some (.stringIter ⟨l.toArray⟩ pos)) (h : l.length ≤ pos) (ty : TypeId) :
  (Instr.next (.pointer (some ⟨b, 0, none⟩)) true ty).run P w = .ok (.tuple #[.bool false]) w := by
 have hsz : (⟨l.toArray⟩ : ByteArray).size = l.length := by show l.toArray.size = _; simp
 have h2 : ¬ pos < (⟨l.toArray⟩ : ByteArray).size := by rw [hsz]; omega
 simp [Instr.next, getObj, Sem.run, hb, h2]
section
variable {w : World} {b t : Nat} {j : In} {A : Option Addr} {c : Nat}
end
theorem in_cells {w : World} {b t : Nat} {j : In} {A : Option Addr} {c : Nat} {fz : Nat × Nat} (h : w.heap[b]? = some (.cells (InV j A c) t fz)) :
  w.cell? ⟨b, 0, none⟩ = some (.int .i64 j.o) ∧ w.cell? ⟨b, 1, none⟩ = some (.int .i64 j.a) ∧ w.cell? ⟨b, 2, none⟩ = some (.int .i64 j.b) ∧ w.cell? ⟨b, 3, none⟩ = some (.int .i64 j.c) ∧ w.cell? ⟨b, 4, none⟩ = some (.int .i64 j.k) ∧
  w.cell? ⟨b, 5, none⟩ = some (.string ⟨j.cl.toArray⟩) ∧ w.cell? ⟨b, 6, none⟩ = some (.string ⟨j.nm.toArray⟩) ∧ w.cell? ⟨b, 7, none⟩ = some (.string ⟨j.ds.toArray⟩) ∧ w.cell? ⟨b, 8, none⟩ = some (.slice A j.ar.length c) :=
 ⟨cell_of_row _ _ 0 _ _ _ h, cell_of_row _ _ 1 _ _ _ h, cell_of_row _ _ 2 _ _ _ h, cell_of_row _ _ 3 _ _ _ h, cell_of_row _ _ 4 _ _ _ h, cell_of_row _ _ 5 _ _ _ h, cell_of_row _ _ 6 _ _ _ h, cell_of_row _ _ 7 _ _ _ h, cell_of_row _ _ 8 _ _ _ h⟩
theorem letters (c : UInt8) : c = 97 ∨ c = 98 ∨ c = 99 ∨ c = 107 ∨ c = 116 ∨ c = 114 ∨ c = 67 ∨ c = 70 ∨ c = 77 ∨ c = 118 ∨ (c ≠ 97 ∧ c ≠ 98 ∧ c ≠ 99 ∧ c ≠ 107 ∧ c ≠ 116 ∧ c ≠ 114 ∧ c ≠ 67 ∧ c ≠ 70 ∧ c ≠ 77 ∧ c ≠ 118) := by
 by_cases e1 : c = 97
 ·exact .inl e1
 by_cases e2 : c = 98
 ·exact .inr (.inl e2)
 by_cases e3 : c = 99
 ·exact .inr (.inr (.inl e3))
 by_cases e4 : c = 107
 ·exact .inr (.inr (.inr (.inl e4)))
 by_cases e5 : c = 116
 ·exact .inr (.inr (.inr (.inr (.inl e5))))
 by_cases e6 : c = 114
 ·exact .inr (.inr (.inr (.inr (.inr (.inl e6)))))
 by_cases e7 : c = 67
 ·exact .inr (.inr (.inr (.inr (.inr (.inr (.inl e7))))))
 by_cases e8 : c = 70
 ·exact .inr (.inr (.inr (.inr (.inr (.inr (.inr (.inl e8)))))))
 by_cases e9 : c = 77
 ·exact .inr (.inr (.inr (.inr (.inr (.inr (.inr (.inr (.inl e9))))))))
 by_cases e10 : c = 118
 ·exact .inr (.inr (.inr (.inr (.inr (.inr (.inr (.inr (.inr (.inl e10)))))))))
 exact .inr (.inr (.inr (.inr (.inr (.inr (.inr (.inr (.inr (.inr ⟨e1, e2, e3, e4, e5, e6, e7, e8, e9, e10⟩)))))))))
end Go.Proofs.Ytdifmgeicnndfaa.op
namespace Go.Proofs.Ytdifmgeicnndfaa.kind
open Go.RowKit
open words kindp word
theorem two_set {w : World} {g : Nat} {a b : Value} {t : TypeId} (h : w.heap[g]? = some (.cells #[a, b] t (0, 0))) (x y : Value) :
  (w.setCell ⟨g, 0, none⟩ x).cell? ⟨g, 0, none⟩ = some x ∧ ((w.setCell ⟨g, 0, none⟩ x).setCell ⟨g, 1, none⟩ y).cell? ⟨g, 1, none⟩ = some y ∧ ((w.setCell ⟨g, 0, none⟩ x).setCell ⟨g, 1, none⟩ y).heap[g]? = some (.cells #[x, y] t (0, 0)) := by
 have h1 := heap_setCell_same w g 0 _ _ x h
 have h2 := heap_setCell_same _ g 1 _ _ y h1
 refine ⟨?_, ?_, h2⟩
 ·rw [cell_of_row _ _ _ _ _ _ h1]; rfl
 ·rw [cell_of_row _ _ _ _ _ _ h2]; rfl
end Go.Proofs.Ytdifmgeicnndfaa.kind
namespace Go.Proofs.Ytdifmgeicnndfaa.kind
open Go.RowKit
open words kindp word
theorem two_alloc {w : World} {g : Nat} {a b : Value} {t : TypeId} (h : w.heap[g]? = some (.cells #[a, b] t (0, 0))) (x y : Value) (o : Obj) :
  (((w.setCell ⟨g, 0, none⟩ x).setCell ⟨g, 1, none⟩ y).alloc o).cell? ⟨g, 0, none⟩ = some x ∧ (((w.setCell ⟨g, 0, none⟩ x).setCell ⟨g, 1, none⟩ y).alloc o).cell? ⟨g, 1, none⟩ = some y := by
 have h2 := (two_set h x y).2.2
 have h3 := (((Below.refl _ ((w.setCell ⟨g, 0, none⟩ x).setCell ⟨g, 1, none⟩ y)).alloc (Nat.le_refl _) o).block g (blk_lt h2)).trans h2
 exact ⟨by rw [cell_of_row _ _ _ _ _ _ h3]; rfl, by rw [cell_of_row _ _ _ _ _ _ h3]; rfl⟩
end Go.Proofs.Ytdifmgeicnndfaa.kind
namespace Go.Proofs.Ytdifmgeicnndfaa.kind
open Go.RowKit
open words kindp word rdr
set_option maxRecDepth 100000
theorem two_new (w : World) (A B : Obj) : ((w.alloc A).alloc B).heap[w.heap.size]? = some A ∧ ((w.alloc A).alloc B).heap[w.heap.size + 1]? = some B := by
 have h1 := heap_alloc_new w A
 have h2 := heap_alloc_new (w.alloc A) B
 rw [show (w.alloc A).heap.size = w.heap.size + 1 by simp] at h2
 exact ⟨(((Below.refl _ (w.alloc A)).alloc (Nat.le_refl _) B).block _ (blk_lt h1)).trans h1, h2⟩
def twoV (x : Ty × Nat) : Value := .tuple #[tyV x.1, .int .i64 (x.2 : Int)]
def parseV (s : Tx) : Value := twoV (parseT s)
end Go.Proofs.Ytdifmgeicnndfaa.kind
namespace Go.Proofs.Ytdifmgeicnndfaa.kind
open Go.RowKit
open words kindp
set_option maxRecDepth 100000
def TL (l : List Ty) : List Value := l.flatMap fun t => [.int .i64 t.1, .string ⟨t.2.toArray⟩]
theorem TL_app (a b : List Ty) : TL (a ++ b) = TL a ++ TL b := by simp [TL]
theorem infoT : (Try.prog.info? 63).map (fun i => (i.zero, i.size, i.bytes)) = some (some (.agg #[.int .i64 0, .string ⟨#[]⟩]), 2, 24) := by kernel_rfl
end Go.Proofs.Ytdifmgeicnndfaa.kind
namespace Go.Proofs.Ytdifmgeicnndfaa.kind
open Go.RowKit
open words kindp word piece rdr
theorem own_ne {w : World} {base : Nat} {e : TypeId} {size : Nat} {v : Value} {n : Nat} {xs : List Value} (h : w.ownsRow base e size v n xs) {b : Nat} (hb : b < base) : some b ≠ v.ownBlock := fun e1 => by
 have := (h.lt b e1.symm).1; omega
theorem own_but {w w' : World} {base : Nat} {e : TypeId} {size : Nat} {v : Value} {n : Nat} {xs : List Value} (h : w.ownsRow base e size v n xs) {b : Nat} (hb : b < base) (hg : But b w w') : w'.ownsRow base e size v n xs :=
 h.kept hg (.inr (own_ne h hb).symm)
end Go.Proofs.Ytdifmgeicnndfaa.kind
namespace Go.Proofs.Ytdifmgeicnndfaa.kind
open Go.RowKit
open words kindp word rdr
def SplitW (d : Tx) (w : World) (e : Ending) (w' : World) : Prop :=
 (∃ A c, e = .returned (.tuple #[.slice A (splitT d).1.length c, .agg #[.int .i64 (splitT d).2.1.1, .string ⟨(splitT d).2.1.2.toArray⟩], .int .i64 ((splitT d).2.2 : Int)]) ∧ w'.ownsRow w.heap.size 63 2 (.slice A (splitT d).1.length c) (splitT d).1.length (TL (splitT d).1)) ∧ Below w.heap.size w w'
theorem splitW_of {d : Tx} {p : List Ty} {t : Ty} {n : Nat} {w w' : World} {e : Ending} (h : splitT d = (p, t, n)) (A : Option Addr) (c : Nat) (he : e = .returned (.tuple #[.slice A p.length c, .agg #[.int .i64 t.1, .string ⟨t.2.toArray⟩], .int .i64 (n : Int)])) (ho : w'.ownsRow w.heap.size 63 2 (.slice A p.length c) p.length (TL p)) (hb : Below w.heap.size w w') : SplitW d w e w' := by
 unfold SplitW; rw [h]; exact ⟨⟨A, c, he, ho⟩, hb⟩
end Go.Proofs.Ytdifmgeicnndfaa.kind
namespace Go.Proofs.Ytdifmgeicnndfaa.kind
open Go.RowKit
open words kindp word rdr
def Idx {α : Type} (P : α → Bool) (p : List α) (r : Int) : Prop := (r = -1 ∧ ∀ x ∈ p, P x = false) ∨ ∃ (i : Nat) (x : α), r = (i : Int) ∧ p[i]? = some x ∧ P x = true ∧ ∀ y ∈ p.take i, P y = false
theorem take_more {α : Type} {P : α → Bool} {p : List α} {k : Nat} {x : α} (h : ∀ y ∈ p.take k, P y = false) (hx : p[k]? = some x) (hp : P x = false) : ∀ y ∈ p.take (k + 1), P y = false := by
 intro y hy
 rw [List.take_add_one, hx] at hy
 rcases List.mem_append.1 hy with h1 | h1
 ·exact h y h1
 ·simp at h1; rw [h1]; exact hp
end Go.Proofs.Ytdifmgeicnndfaa.kind
namespace Go.Proofs.Ytdifmgeicnndfaa.kind
open Go.RowKit
open words kindp word rdr
end Go.Proofs.Ytdifmgeicnndfaa.kind
namespace Go.Proofs.Ytdifmgeicnndfaa.kind
open Go.RowKit
open words kindp word rdr
end Go.Proofs.Ytdifmgeicnndfaa.kind
namespace Go.Proofs.Ytdifmgeicnndfaa.kind
open Go.RowKit
open words kindp word rdr
end Go.Proofs.Ytdifmgeicnndfaa.kind
namespace Go.Proofs.Ytdifmgeicnndfaa.kind
open Go.RowKit
open words kindp word rdr
def SX (l : List Tx) : List Value := l.map fun x => .string ⟨x.toArray⟩
theorem SX_app (a b : List Tx) : SX (a ++ b) = SX a ++ SX b := by simp [SX]
end Go.Proofs.Ytdifmgeicnndfaa.kind
namespace Go.Proofs.Ytdifmgeicnndfaa.prg
open Go.RowKit
open words kindp opp op kind
structure InM where
 i : In
 A : Option Addr
 c : Nat
structure FiM where
 nm : Tx
 k : Int
 cl : Tx
 st : Bool
structure MeM where
 nm : Tx
 ds : Tx
 st : Bool
 ab : Bool
 rg : Int
 co : List InM
 A : Option Addr
 c : Nat
structure ClM where
 nm : Tx
 su : Tx
 fc : Bool
 ab : Bool
 is : List Tx
 A1 : Option Addr
 c1 : Nat
 fs : List FiM
 A2 : Option Addr
 c2 : Nat
 ms : List MeM
 A3 : Option Addr
 c3 : Nat
structure PrM where
 cs : List ClM
 A1 : Option Addr
 c1 : Nat
 ns : List Tx
 A2 : Option Addr
 c2 : Nat
 ec : Tx
 en : Tx
 ed : Tx
def inC (x : InM) : List Value := [.int .i64 x.i.o, .int .i64 x.i.a, .int .i64 x.i.b, .int .i64 x.i.c, .int .i64 x.i.k, .string ⟨x.i.cl.toArray⟩, .string ⟨x.i.nm.toArray⟩, .string ⟨x.i.ds.toArray⟩, .slice x.A x.i.ar.length x.c]
def fiC (x : FiM) : List Value := [.string ⟨x.nm.toArray⟩, .int .i64 x.k, .string ⟨x.cl.toArray⟩, .bool x.st]
def meC (x : MeM) : List Value := [.string ⟨x.nm.toArray⟩, .string ⟨x.ds.toArray⟩, .bool x.st, .bool x.ab, .int .i64 x.rg, .slice x.A x.co.length x.c]
def clC (x : ClM) : List Value := [.string ⟨x.nm.toArray⟩, .string ⟨x.su.toArray⟩, .bool x.fc, .bool x.ab, .slice x.A1 x.is.length x.c1, .slice x.A2 x.fs.length x.c2, .slice x.A3 x.ms.length x.c3]
def prC (x : PrM) : List Value := [.slice x.A1 x.cs.length x.c1, .slice x.A2 x.ns.length x.c2, .string ⟨x.ec.toArray⟩, .string ⟨x.en.toArray⟩, .string ⟨x.ed.toArray⟩]
def InOk (w : World) (x : InM) : Prop := x.i.ar.length ≤ x.c ∧ Rd w x.A (IL x.i.ar)
def MeOk (w : World) (x : MeM) : Prop := x.co.length ≤ x.c ∧ Rd w x.A (x.co.flatMap inC) ∧ ∀ y ∈ x.co, InOk w y
def ClOk (w : World) (x : ClM) : Prop := (x.is.length ≤ x.c1 ∧ Rd w x.A1 (SX x.is)) ∧ (x.fs.length ≤ x.c2 ∧ Rd w x.A2 (x.fs.flatMap fiC)) ∧ (x.ms.length ≤ x.c3 ∧ Rd w x.A3 (x.ms.flatMap meC)) ∧ ∀ y ∈ x.ms, MeOk w y
def PrOk (w : World) (x : PrM) : Prop := (x.cs.length ≤ x.c1 ∧ Rd w x.A1 (x.cs.flatMap clC)) ∧ (x.ns.length ≤ x.c2 ∧ Rd w x.A2 (SX x.ns)) ∧ ∀ y ∈ x.cs, ClOk w y
theorem InOk.below {w w' : World} {x : InM} (h : InOk w x) (hb : Below w.heap.size w w') : InOk w' x := ⟨h.1, h.2.below hb⟩
theorem MeOk.below {w w' : World} {x : MeM} (h : MeOk w x) (hb : Below w.heap.size w w') : MeOk w' x := ⟨h.1, h.2.1.below hb, fun y hy => (h.2.2 y hy).below hb⟩
theorem ClOk.below {w w' : World} {x : ClM} (h : ClOk w x) (hb : Below w.heap.size w w') : ClOk w' x := ⟨⟨h.1.1, h.1.2.below hb⟩, ⟨h.2.1.1, h.2.1.2.below hb⟩, ⟨h.2.2.1.1, h.2.2.1.2.below hb⟩, fun y hy => (h.2.2.2 y hy).below hb⟩
theorem PrOk.below {w w' : World} {x : PrM} (h : PrOk w x) (hb : Below w.heap.size w w') : PrOk w' x := ⟨⟨h.1.1, h.1.2.below hb⟩, ⟨h.2.1.1, h.2.1.2.below hb⟩, fun y hy => (h.2.2 y hy).below hb⟩
def InBd (x : InM) : Prop := x.i.ar.length ≤ 140737488351232 ∧ x.i.cl.length ≤ 140737488351232 ∧ x.i.nm.length ≤ 140737488351232 ∧ x.i.ds.length ≤ 140737488351232
def FiBd (x : FiM) : Prop := x.nm.length ≤ 140737488351232 ∧ x.cl.length ≤ 140737488351232
def MeBd (x : MeM) : Prop := x.nm.length ≤ 140737488351232 ∧ x.ds.length ≤ 140737488351232 ∧ x.co.length ≤ 140737488351232 ∧ ∀ y ∈ x.co, InBd y
def ClBd (x : ClM) : Prop := x.nm.length ≤ 140737488351232 ∧ x.su.length ≤ 140737488351232 ∧ (x.is.length ≤ 140737488351232 ∧ ∀ y ∈ x.is, y.length ≤ 140737488351232) ∧ (x.fs.length ≤ 140737488351232 ∧ ∀ y ∈ x.fs, FiBd y) ∧ (x.ms.length ≤ 140737488351232 ∧ ∀ y ∈ x.ms, MeBd y)
def PrBd (x : PrM) : Prop := (x.cs.length ≤ 140737488351232 ∧ ∀ y ∈ x.cs, ClBd y) ∧ (x.ns.length ≤ 140737488351232 ∧ ∀ y ∈ x.ns, y.length ≤ 140737488351232) ∧ x.ec.length ≤ 140737488351232 ∧ x.en.length ≤ 140737488351232 ∧ x.ed.length ≤ 140737488351232
theorem flat_len {α : Type} {f : α → List Value} {k : Nat} (hf : ∀ x, (f x).length = k) : ∀ l : List α, (l.flatMap f).length = l.length * k
 | [] => by simp
 | x :: l => by rw [List.flatMap_cons, List.length_append, hf, flat_len hf l, List.length_cons, Nat.succ_mul, Nat.add_comm]
theorem flat_at {α : Type} {f : α → List Value} {k : Nat} (hf : ∀ x, (f x).length = k) : ∀ {l : List α} {i : Nat} {x : α} {t : Nat} {u : Value}, l[i]? = some x → (f x)[t]? = some u → (l.flatMap f)[i * k + t]? = some u
 | [], _, _, _, _, h, _ => by simp at h
 | y :: l, 0, x, t, u, h, hu => by
  simp at h; subst h
  rw [List.flatMap_cons, Nat.zero_mul, Nat.zero_add, List.getElem?_append_left (List.getElem?_eq_some_iff.1 hu).1]
  exact hu
 | y :: l, i + 1, x, t, u, h, hu => by
  rw [List.flatMap_cons, List.getElem?_append_right (by rw [hf, Nat.succ_mul]; omega), hf, show (i + 1) * k + t - k = i * k + t by rw [Nat.succ_mul]; omega]
  exact flat_at hf (by simpa using h) hu
theorem flat_cell {α : Type} {f : α → List Value} {k : Nat} (hf : ∀ x, (f x).length = k) (hk : 0 < k) {w : World} {A : Option Addr} {l : List α} (h : Rd w A (l.flatMap f)) {i : Nat} {x : α} (hi : l[i]? = some x) :
  ∃ a, A = some a ∧ a.block < w.heap.size ∧ (∀ u, (f x)[0]? = some u → w.cell? (a.add (i * k)) = some u) ∧ ∀ t u, 0 < t → (f x)[t]? = some u → w.cell? ⟨(a.add (i * k)).block, (a.add (i * k)).off + t, none⟩ = some u := by
 obtain ⟨u0, hu0⟩ : ∃ u, (f x)[0]? = some u := ⟨_, List.getElem?_eq_getElem (by rw [hf]; exact hk)⟩
 obtain ⟨a, rfl, hb, -⟩ := h.at_ (flat_at hf hi hu0)
 refine ⟨a, rfl, hb, fun u hu => ?_, fun t u ht hu => ?_⟩
 ·obtain ⟨a', e, _, hc⟩ := h.at_ (flat_at hf hi hu)
  cases e
  simpa using hc
 ·obtain ⟨a', e, _, hc⟩ := h.at_ (flat_at hf hi hu)
  cases e
  rw [← add_add] at hc
  have e2 : (a.add (i * k)).add t = ⟨(a.add (i * k)).block, (a.add (i * k)).off + t, none⟩ := by
   rw [Addr.add, if_neg (by omega)]
  rw [e2] at hc
  exact hc
section
variable {w : World} {A : Option Addr} {i : Nat}
theorem in_at {l : List InM} (h : Rd w A (l.flatMap inC)) {x : InM} (hi : l[i]? = some x) : ∃ a, A = some a ∧ a.block < w.heap.size ∧ w.cell? (a.add (i * 9)) = some (.int .i64 x.i.o) ∧
  w.cell? ⟨(a.add (i * 9)).block, (a.add (i * 9)).off + 1, none⟩ = some (.int .i64 x.i.a) ∧ w.cell? ⟨(a.add (i * 9)).block, (a.add (i * 9)).off + 2, none⟩ = some (.int .i64 x.i.b) ∧ w.cell? ⟨(a.add (i * 9)).block, (a.add (i * 9)).off + 3, none⟩ = some (.int .i64 x.i.c) ∧
  w.cell? ⟨(a.add (i * 9)).block, (a.add (i * 9)).off + 4, none⟩ = some (.int .i64 x.i.k) ∧ w.cell? ⟨(a.add (i * 9)).block, (a.add (i * 9)).off + 5, none⟩ = some (.string ⟨x.i.cl.toArray⟩) ∧ w.cell? ⟨(a.add (i * 9)).block, (a.add (i * 9)).off + 6, none⟩ = some (.string ⟨x.i.nm.toArray⟩) ∧
  w.cell? ⟨(a.add (i * 9)).block, (a.add (i * 9)).off + 7, none⟩ = some (.string ⟨x.i.ds.toArray⟩) ∧ w.cell? ⟨(a.add (i * 9)).block, (a.add (i * 9)).off + 8, none⟩ = some (.slice x.A x.i.ar.length x.c) := by
 obtain ⟨a, rfl, hb, h0, h1⟩ := flat_cell (k := 9) (fun x => rfl) (by omega) h hi
 exact ⟨a, rfl, hb, h0 _ rfl, h1 1 _ (by omega) rfl, h1 2 _ (by omega) rfl, h1 3 _ (by omega) rfl, h1 4 _ (by omega) rfl, h1 5 _ (by omega) rfl, h1 6 _ (by omega) rfl, h1 7 _ (by omega) rfl, h1 8 _ (by omega) rfl⟩
theorem fi_at {l : List FiM} (h : Rd w A (l.flatMap fiC)) {x : FiM} (hi : l[i]? = some x) : ∃ a, A = some a ∧ a.block < w.heap.size ∧ w.cell? (a.add (i * 4)) = some (.string ⟨x.nm.toArray⟩) ∧
  w.cell? ⟨(a.add (i * 4)).block, (a.add (i * 4)).off + 1, none⟩ = some (.int .i64 x.k) ∧ w.cell? ⟨(a.add (i * 4)).block, (a.add (i * 4)).off + 2, none⟩ = some (.string ⟨x.cl.toArray⟩) ∧ w.cell? ⟨(a.add (i * 4)).block, (a.add (i * 4)).off + 3, none⟩ = some (.bool x.st) := by
 obtain ⟨a, rfl, hb, h0, h1⟩ := flat_cell (k := 4) (fun x => rfl) (by omega) h hi
 exact ⟨a, rfl, hb, h0 _ rfl, h1 1 _ (by omega) rfl, h1 2 _ (by omega) rfl, h1 3 _ (by omega) rfl⟩
theorem me_at {l : List MeM} (h : Rd w A (l.flatMap meC)) {x : MeM} (hi : l[i]? = some x) : ∃ a, A = some a ∧ a.block < w.heap.size ∧ w.cell? (a.add (i * 6)) = some (.string ⟨x.nm.toArray⟩) ∧
  w.cell? ⟨(a.add (i * 6)).block, (a.add (i * 6)).off + 1, none⟩ = some (.string ⟨x.ds.toArray⟩) ∧ w.cell? ⟨(a.add (i * 6)).block, (a.add (i * 6)).off + 2, none⟩ = some (.bool x.st) ∧ w.cell? ⟨(a.add (i * 6)).block, (a.add (i * 6)).off + 3, none⟩ = some (.bool x.ab) ∧
  w.cell? ⟨(a.add (i * 6)).block, (a.add (i * 6)).off + 4, none⟩ = some (.int .i64 x.rg) ∧ w.cell? ⟨(a.add (i * 6)).block, (a.add (i * 6)).off + 5, none⟩ = some (.slice x.A x.co.length x.c) := by
 obtain ⟨a, rfl, hb, h0, h1⟩ := flat_cell (k := 6) (fun x => rfl) (by omega) h hi
 exact ⟨a, rfl, hb, h0 _ rfl, h1 1 _ (by omega) rfl, h1 2 _ (by omega) rfl, h1 3 _ (by omega) rfl, h1 4 _ (by omega) rfl, h1 5 _ (by omega) rfl⟩
theorem cl_at {l : List ClM} (h : Rd w A (l.flatMap clC)) {x : ClM} (hi : l[i]? = some x) : ∃ a, A = some a ∧ a.block < w.heap.size ∧ w.cell? (a.add (i * 7)) = some (.string ⟨x.nm.toArray⟩) ∧
  w.cell? ⟨(a.add (i * 7)).block, (a.add (i * 7)).off + 1, none⟩ = some (.string ⟨x.su.toArray⟩) ∧ w.cell? ⟨(a.add (i * 7)).block, (a.add (i * 7)).off + 2, none⟩ = some (.bool x.fc) ∧ w.cell? ⟨(a.add (i * 7)).block, (a.add (i * 7)).off + 3, none⟩ = some (.bool x.ab) ∧
  w.cell? ⟨(a.add (i * 7)).block, (a.add (i * 7)).off + 4, none⟩ = some (.slice x.A1 x.is.length x.c1) ∧ w.cell? ⟨(a.add (i * 7)).block, (a.add (i * 7)).off + 5, none⟩ = some (.slice x.A2 x.fs.length x.c2) ∧ w.cell? ⟨(a.add (i * 7)).block, (a.add (i * 7)).off + 6, none⟩ = some (.slice x.A3 x.ms.length x.c3) := by
 obtain ⟨a, rfl, hb, h0, h1⟩ := flat_cell (k := 7) (fun x => rfl) (by omega) h hi
 exact ⟨a, rfl, hb, h0 _ rfl, h1 1 _ (by omega) rfl, h1 2 _ (by omega) rfl, h1 3 _ (by omega) rfl, h1 4 _ (by omega) rfl, h1 5 _ (by omega) rfl, h1 6 _ (by omega) rfl⟩
end
section
variable {w : World} {b t : Nat} {fz : Nat × Nat}
theorem fi_cells {x : FiM} (h : w.heap[b]? = some (.cells (fiC x).toArray t fz)) : w.cell? ⟨b, 0, none⟩ = some (.string ⟨x.nm.toArray⟩) ∧ w.cell? ⟨b, 1, none⟩ = some (.int .i64 x.k) ∧ w.cell? ⟨b, 2, none⟩ = some (.string ⟨x.cl.toArray⟩) ∧ w.cell? ⟨b, 3, none⟩ = some (.bool x.st) :=
 ⟨cell_of_row _ _ 0 _ _ _ h, cell_of_row _ _ 1 _ _ _ h, cell_of_row _ _ 2 _ _ _ h, cell_of_row _ _ 3 _ _ _ h⟩
theorem me_cells {x : MeM} (h : w.heap[b]? = some (.cells (meC x).toArray t fz)) : w.cell? ⟨b, 0, none⟩ = some (.string ⟨x.nm.toArray⟩) ∧ w.cell? ⟨b, 1, none⟩ = some (.string ⟨x.ds.toArray⟩) ∧ w.cell? ⟨b, 2, none⟩ = some (.bool x.st) ∧ w.cell? ⟨b, 3, none⟩ = some (.bool x.ab) ∧ w.cell? ⟨b, 4, none⟩ = some (.int .i64 x.rg) ∧ w.cell? ⟨b, 5, none⟩ = some (.slice x.A x.co.length x.c) :=
 ⟨cell_of_row _ _ 0 _ _ _ h, cell_of_row _ _ 1 _ _ _ h, cell_of_row _ _ 2 _ _ _ h, cell_of_row _ _ 3 _ _ _ h, cell_of_row _ _ 4 _ _ _ h, cell_of_row _ _ 5 _ _ _ h⟩
theorem cl_cells {x : ClM} (h : w.heap[b]? = some (.cells (clC x).toArray t fz)) : w.cell? ⟨b, 0, none⟩ = some (.string ⟨x.nm.toArray⟩) ∧ w.cell? ⟨b, 1, none⟩ = some (.string ⟨x.su.toArray⟩) ∧ w.cell? ⟨b, 2, none⟩ = some (.bool x.fc) ∧ w.cell? ⟨b, 3, none⟩ = some (.bool x.ab) ∧ w.cell? ⟨b, 4, none⟩ = some (.slice x.A1 x.is.length x.c1) ∧ w.cell? ⟨b, 5, none⟩ = some (.slice x.A2 x.fs.length x.c2) ∧ w.cell? ⟨b, 6, none⟩ = some (.slice x.A3 x.ms.length x.c3) :=
 ⟨cell_of_row _ _ 0 _ _ _ h, cell_of_row _ _ 1 _ _ _ h, cell_of_row _ _ 2 _ _ _ h, cell_of_row _ _ 3 _ _ _ h, cell_of_row _ _ 4 _ _ _ h, cell_of_row _ _ 5 _ _ _ h, cell_of_row _ _ 6 _ _ _ h⟩
theorem pr_cells {x : PrM} (h : w.heap[b]? = some (.cells (prC x).toArray t fz)) : w.cell? ⟨b, 0, none⟩ = some (.slice x.A1 x.cs.length x.c1) ∧ w.cell? ⟨b, 1, none⟩ = some (.slice x.A2 x.ns.length x.c2) ∧ w.cell? ⟨b, 2, none⟩ = some (.string ⟨x.ec.toArray⟩) ∧ w.cell? ⟨b, 3, none⟩ = some (.string ⟨x.en.toArray⟩) ∧ w.cell? ⟨b, 4, none⟩ = some (.string ⟨x.ed.toArray⟩) :=
 ⟨cell_of_row _ _ 0 _ _ _ h, cell_of_row _ _ 1 _ _ _ h, cell_of_row _ _ 2 _ _ _ h, cell_of_row _ _ 3 _ _ _ h, cell_of_row _ _ 4 _ _ _ h⟩
end
end Go.Proofs.Ytdifmgeicnndfaa.prg
namespace Go.Proofs.Ytdifmgeicnndfaa.op
open Go.RowKit
open words kindp opp
end Go.Proofs.Ytdifmgeicnndfaa.op
namespace Go.Proofs.Ytdifmgeicnndfaa.op
open Go.RowKit Go.Shelf
open words kindp opp
attribute [local go_sem] Oper.semAt_some
end Go.Proofs.Ytdifmgeicnndfaa.op
namespace Go.Proofs.Ytdifmgeicnndfaa.op
open Go.RowKit Go.Shelf
open words kindp opp
attribute [local go_sem] Oper.semAt_some
end Go.Proofs.Ytdifmgeicnndfaa.op
namespace Go.Proofs.Ytdifmgeicnndfaa.op
open Go.RowKit
open words kindp opp kind
def nmL (c : Tx) : Bool := word.nameB ⟨c.toArray⟩
def formedB (i : In) : Bool := known i.o && (emptyB i (shapeL i.o) && ((!anyL (shapeL i.o) [67, 70, 77] || clsB i.cl) && (!anyL (shapeL i.o) [70, 77] || nmL i.nm)))
end Go.Proofs.Ytdifmgeicnndfaa.op
namespace Go.Proofs.Ytdifmgeicnndfaa.op
open Go.RowKit
open words kindp opp kind
def recv (o : Int) : Nat := if o = 20 ∨ o = 21 then 1 else 0
def descE (i : In) : Int :=
 if (splitT i.ds).2.2 ≠ 0 then 1 else if i.ar.length ≠ (splitT i.ds).1.length + recv i.o then 9 else if (splitT i.ds).2.1.1 = 1 ∧ i.a ≠ 0 then 12 else 0
theorem split_err (d : Tx) : (splitT d).2.2 ≤ 3 ∧ (splitT d).1.length ≤ 8 := by
 unfold splitT
 split
 ·exact ⟨Nat.le_refl _, Nat.zero_le _⟩
 ·cases sigD d with
  | none => exact ⟨by show 1 ≤ 3; omega, Nat.zero_le _⟩
  | some q =>
   dsimp only
   split
   ·exact ⟨Nat.le_refl _, Nat.zero_le _⟩
   ·exact ⟨Nat.zero_le _, by dsimp only; omega⟩
end Go.Proofs.Ytdifmgeicnndfaa.op
namespace Go.Proofs.Ytdifmgeicnndfaa.op
open Go.RowKit
open words kindp opp kind
def countedB (i : In) (code : Int) : Bool := (!hasL (shapeL i.o) 116 || (decide (0 ≤ i.k) && decide (i.k < code))) && (!hasL (shapeL i.o) 114 || (decide (0 ≤ i.k) && decide (i.k ≤ 9)))
end Go.Proofs.Ytdifmgeicnndfaa.op
namespace Go.Proofs.Ytdifmgeicnndfaa.op
open Go.RowKit
open words kindp opp kind
end Go.Proofs.Ytdifmgeicnndfaa.op
namespace Go.Proofs.Ytdifmgeicnndfaa.op
open Go.RowKit Go.Shelf
open words kindp opp kind
set_option maxRecDepth 100000
set_option maxHeartbeats 8000000
attribute [local go_sem] Oper.semAt_some
def okR (regs : Int) (x : UInt8 × Int) : Bool := decide (0 ≤ x.2) && decide (x.2 < regs)
def fitsE (i : In) (regs code : Int) : Int :=
 if formedB i = false then 1 else if isCall i.o = true ∧ descE i ≠ 0 then descE i else if (regsL i).all (okR regs) = false then 12 else if countedB i code = false then 12 else 0
end Go.Proofs.Ytdifmgeicnndfaa.op
namespace Go.Proofs.Ytdifmgeicnndfaa.op
open Go.RowKit
open words kindp opp kind
set_option maxRecDepth 100000
set_option maxHeartbeats 8000000
end Go.Proofs.Ytdifmgeicnndfaa.op
namespace Go.Proofs.Ytdifmgeicnndfaa.op
open Go.RowKit
open words kindp opp
set_option maxRecDepth 100000
set_option maxHeartbeats 8000000
theorem has_r (s : Tx) (c : UInt8) (w : World) (hs : s.length ≤ 4) :
  Calls Try.prog 171 #[.string ⟨s.toArray⟩, .int .u8 ((c.toNat : Nat) : Int)] w fun e w' => e = .returned (.bool (hasL s c)) ∧ w' = w := by
 obtain ⟨R, hR⟩ : ∃ R, R = hasL s c := ⟨_, rfl⟩
 rw [← hR]
 have HR := zh hR
 obtain ⟨n, hn⟩ : ∃ n, n = s.length := ⟨_, rfl⟩
 have HN := zh hn
 have hsz : (⟨s.toArray⟩ : ByteArray).size = n := by rw [hn]; show s.toArray.size = _; simp
 have hnI : (n : Int) ≤ 4 := by omega
 have HAT := zh (fun (k : Nat) (x : UInt8) (hx : s[k]? = some x) => (show ∃ h : k < (⟨s.toArray⟩ : ByteArray).size, (⟨s.toArray⟩ : ByteArray)[k]'h = x from by
  obtain ⟨h0, h1⟩ := List.getElem?_eq_some_iff.1 hx
  exact ⟨by rw [hsz, hn]; exact h0, by rw [← h1]; rfl⟩))
 clear hs hR hn
 go_enter Try.func171, Try.ntmps171
 go_wp2
 go_loop [5] (fun i => ∃ k : Nat, k ≤ n ∧ i = .int .i64 (k : Int) ∧ ∀ x ∈ s.take k, x ≠ c) (fun i => n - (intOf i).toNat)
 case atStart => exact ⟨0, Nat.zero_le _, rfl, by simp⟩
 case round =>
  obtain ⟨k, hk, rfl, hno⟩ := hrel
  by_cases hlt : k < n
  ·obtain ⟨x, hx⟩ : ∃ x, s[k]? = some x := ⟨s[k]'(by rw [← HN.out]; exact hlt), List.getElem?_eq_getElem _⟩
   obtain ⟨hk2, hxe⟩ := HAT.out k x hx
   have hltI : (k : Int) < (n : Int) := by omega
   by_cases hxc : x = c
   ·have hb : (((x.toNat : Nat) : Int) == ((c.toNat : Nat) : Int)) = true := by rw [hxc]; simp
    have hT : R = true := by rw [HR.out, ← hxc]; exact List.contains_iff_mem.2 (List.mem_of_getElem? hx)
    subst hT
    clear hno hx hxc
    go_wp2
    go_ret
    exact ⟨rfl, rfl⟩
   ·have hb : (((x.toNat : Nat) : Int) == ((c.toNat : Nat) : Int)) = false := by
     rw [beq_eq_false_iff_ne]; intro e; exact hxc (UInt8.toNat_inj.1 (by omega))
    have HNO := zh (show ∀ y ∈ s.take (k + 1), y ≠ c from by
     intro y hy
     rw [List.take_add_one, hx] at hy
     rcases List.mem_append.1 hy with h | h
     ·exact hno y h
     ·simp at h; rw [h]; exact hxc)
    clear hno hx hxc
    go_wp2
    go_round
    case rel => exact ⟨k + 1, by omega, by go_num, HNO.out⟩
    case measure => simp [intOf]; omega
  ·have hT : R = false := by
    rw [HR.out]
    cases hh : hasL s c with
    | false => rfl
    | true =>
     have := List.contains_iff_mem.1 hh
     exact absurd rfl (hno c (by rw [List.take_of_length_le (by rw [← HN.out]; omega)]; exact this))
   subst hT
   have hltI : ¬ (k : Int) < (n : Int) := by omega
   clear hno
   go_wp2
   go_ret
   exact ⟨rfl, rfl⟩
theorem ne_of_unknown {o : Int} (h : known o = false) (k : Int) (h1 : 0 < k) (h2 : k ≤ 32) : (o == k) = false := by
 have := known_not h
 rw [beq_eq_false_iff_ne]; omega
theorem shape_r (o : Int) (w : World) :
  Calls Try.prog 167 #[.int .i64 o] w fun e w' => e = .returned (.string ⟨(shapeL o).toArray⟩) ∧ w' = w := by
 refine shape_cases (P := fun o s => Calls Try.prog 167 #[.int .i64 o] w fun e w' => e = .returned (.string ⟨s.toArray⟩) ∧ w' = w) ?_ ?_ ?_ ?_ ?_ ?_ ?_ ?_ ?_ ?_ ?_ ?_ ?_ ?_ ?_ ?_ ?_ ?_ ?_ ?_ ?_ ?_ ?_ ?_ ?_ ?_ ?_ ?_ ?_ ?_ ?_ ?_ ?_ ?_ o
 case refine_34 =>
  intro o hk
  have e2 := ne_of_unknown hk 2 (by decide) (by decide)
  have e3 := ne_of_unknown hk 3 (by decide) (by decide)
  have e26 := ne_of_unknown hk 26 (by decide) (by decide)
  have e4 := ne_of_unknown hk 4 (by decide) (by decide)
  have e10 := ne_of_unknown hk 10 (by decide) (by decide)
  have e12 := ne_of_unknown hk 12 (by decide) (by decide)
  have e28 := ne_of_unknown hk 28 (by decide) (by decide)
  have e29 := ne_of_unknown hk 29 (by decide) (by decide)
  have e5 := ne_of_unknown hk 5 (by decide) (by decide)
  have e6 := ne_of_unknown hk 6 (by decide) (by decide)
  have e7 := ne_of_unknown hk 7 (by decide) (by decide)
  have e8 := ne_of_unknown hk 8 (by decide) (by decide)
  have e9 := ne_of_unknown hk 9 (by decide) (by decide)
  have e11 := ne_of_unknown hk 11 (by decide) (by decide)
  have e24 := ne_of_unknown hk 24 (by decide) (by decide)
  have e25 := ne_of_unknown hk 25 (by decide) (by decide)
  have e13 := ne_of_unknown hk 13 (by decide) (by decide)
  have e14 := ne_of_unknown hk 14 (by decide) (by decide)
  have e15 := ne_of_unknown hk 15 (by decide) (by decide)
  have e16 := ne_of_unknown hk 16 (by decide) (by decide)
  have e17 := ne_of_unknown hk 17 (by decide) (by decide)
  have e18 := ne_of_unknown hk 18 (by decide) (by decide)
  have e19 := ne_of_unknown hk 19 (by decide) (by decide)
  have e20 := ne_of_unknown hk 20 (by decide) (by decide)
  have e21 := ne_of_unknown hk 21 (by decide) (by decide)
  have e22 := ne_of_unknown hk 22 (by decide) (by decide)
  have e27 := ne_of_unknown hk 27 (by decide) (by decide)
  have e31 := ne_of_unknown hk 31 (by decide) (by decide)
  have e30 := ne_of_unknown hk 30 (by decide) (by decide)
  have e32 := ne_of_unknown hk 32 (by decide) (by decide)
  clear hk
  go_enter Try.func167, Try.ntmps167
  go_wp2
  go_ret
  exact ⟨rfl, rfl⟩
 all_goals
  go_enter Try.func167, Try.ntmps167
  go_wp2
  go_ret
  exact ⟨rfl, rfl⟩
theorem call_r (o : Int) (w : World) :
  Calls Try.prog 170 #[.int .i64 o] w fun e w' => e = .returned (.bool (isCall o)) ∧ w' = w := by
 refine kinds4 o (fun o => Calls Try.prog 170 #[.int .i64 o] w fun e w' => e = .returned (.bool (isCall o)) ∧ w' = w) 19 20 21 21 ?_ ?_ ?_ ?_ ?_
 case refine_5 =>
  intro h1 h2 h3 _
  rw [show isCall o = false by unfold isCall; rw [decide_eq_false (by simp only [beq_eq_false_iff_ne] at h1 h2 h3; omega)]]
  go_enter Try.func170, Try.ntmps170
  go_wp2
  go_ret
  exact ⟨rfl, rfl⟩
 all_goals
  go_enter Try.func170, Try.ntmps170
  go_wp2
  go_ret
  exact ⟨rfl, rfl⟩
def withB (n m : Int) : Bool := decide (0 ≤ n) && decide (n < m)
theorem within_r (n m : Int) (w : World) :
  Calls Try.prog 172 #[.int .i64 n, .int .i64 m] w fun e w' => e = .returned (.bool (withB n m)) ∧ w' = w := by
 by_cases h0 : 0 ≤ n
 ·by_cases h1 : n < m
  ·rw [show withB n m = true by unfold withB; rw [decide_eq_true h0, decide_eq_true h1]; rfl]
   go_enter Try.func172, Try.ntmps172
   go_wp2
   go_ret
   exact ⟨rfl, rfl⟩
  ·rw [show withB n m = false by unfold withB; rw [decide_eq_false h1]; simp]
   have hd : decide (n < m) = false := decide_eq_false h1
   go_enter Try.func172, Try.ntmps172
   go_wp2
   go_ret
   exact ⟨rfl, rfl⟩
 ·rw [show withB n m = false by unfold withB; rw [decide_eq_false h0]; rfl]
  go_enter Try.func172, Try.ntmps172
  go_wp2
  go_ret
  exact ⟨rfl, rfl⟩
end Go.Proofs.Ytdifmgeicnndfaa.op
namespace Go.Proofs.Ytdifmgeicnndfaa.op
open Go.RowKit
open words kindp opp kind
set_option maxRecDepth 100000
set_option maxHeartbeats 8000000
def longB (i : In) : Bool := decide (60 < i.ar.length) || (decide (300 < i.cl.length) || (decide (300 < i.nm.length) || decide (300 < i.ds.length)))
theorem long_not {i : In} (h : longB i = false) : i.ar.length ≤ 60 ∧ i.cl.length ≤ 300 ∧ i.nm.length ≤ 300 ∧ i.ds.length ≤ 300 := by
 unfold longB at h
 simp only [Bool.or_eq_false_iff, decide_eq_false_iff_not] at h
 omega
theorem mk_sz (c : Tx) : (⟨c.toArray⟩ : ByteArray).size = c.length := by show c.toArray.size = _; simp
end Go.Proofs.Ytdifmgeicnndfaa.op
namespace Go.Proofs.Ytdifmgeicnndfaa.prg
open Go.RowKit
open words kindp opp op kind
def ltT (a b : Tx) : Bool := decide (a < b)
def initT : Tx := [60, 99, 108, 105, 110, 105, 116, 62]
def risesB {α : Type} (lt : α → α → Bool) (l : List α) : Bool := (List.range l.length).all fun j => match l[j]?, l[j + 1]? with | some x, some y => lt x y | _, _ => true
theorem rises_yes {α : Type} {lt : α → α → Bool} {l : List α} (h : ∀ j x y, l[j]? = some x → l[j + 1]? = some y → lt x y = true) : risesB lt l = true := by
 unfold risesB
 rw [List.all_eq_true]
 intro j _
 cases h1 : l[j]? with
 | none => rfl
 | some x =>
  cases h2 : l[j + 1]? with
  | none => rfl
  | some y => exact h j x y h1 h2
theorem rises_no {α : Type} {lt : α → α → Bool} {l : List α} {j : Nat} {x y : α} (h1 : l[j]? = some x) (h2 : l[j + 1]? = some y) (h : lt x y = false) : risesB lt l = false := by
 cases hr : risesB lt l with
 | false => rfl
 | true =>
  unfold risesB at hr
  rw [List.all_eq_true] at hr
  have hj : j < l.length := (List.getElem?_eq_some_iff.1 h1).1
  have := hr j (List.mem_range.2 hj)
  rw [h1, h2] at this
  dsimp only at this
  rw [h] at this; cases this
def memberB (s : Tx) : Bool := nmL s && !(s == initT)
def fieldB (f : FiM) : Bool := memberB f.nm && (rightT (f.k, f.cl) && !(f.k == 1))
def handedN (m : MeM) (n : Nat) : Nat := if m.st then n else n + 1
def codeB (m : MeM) : Bool := decide (0 < m.co.length) && (decide (m.co.length ≤ 256) && m.co.all fun x => fitsE x.i m.rg (m.co.length : Int) == 0)
def abstractB (m : MeM) : Bool := !m.st && (!(m.nm == initT) && (decide (m.co.length = 0) && m.rg == 0))
def concreteB (m : MeM) : Bool := decide ((handedN m (splitT m.ds).1.length : Int) ≤ m.rg) && (codeB m && (!(m.nm == initT) || (m.st && m.ds == [40, 41, 86])))
def headB (m : MeM) : Bool := decide ((splitT m.ds).2.2 = 0) && (nmL m.nm && (decide (0 ≤ m.rg) && decide (m.rg ≤ 32)))
def methodB (m : MeM) : Bool := headB m && (if m.ab = true then abstractB m else concreteB m)
def superB (c : ClM) : Bool := (c.su == []) || (!(c.su == c.nm) && clsB c.su)
def bareIfaceB (c : ClM) : Bool := c.ab && ((c.su == []) && (decide (c.fs.length = 0) && c.ms.all (·.ab)))
def classB (c : ClM) : Bool := clsB c.nm && (superB c && (c.is.all clsB && ((!c.fc || bareIfaceB c) && (c.fs.all fieldB && (c.ms.all methodB && (c.ab || !c.ms.any (·.ab)))))))
def entryB (p : PrM) : Bool := ((p.ec == []) && ((p.en == []) && (p.ed == []))) || (clsB p.ec && (memberB p.en && ((p.ed == [40, 41, 73]) || (p.ed == [40, 41, 86]))))
def fewNamesB (l : List Tx) : Bool := decide (l.length ≤ 64) && l.all fun s => decide (s.length ≤ 64)
def fewB (c : ClM) : Bool := decide (c.is.length ≤ 8) && (decide (c.fs.length ≤ 32) && decide (c.ms.length ≤ 32))
def ltF (a b : FiM) : Bool := ltT a.nm b.nm
def ltM (a b : MeM) : Bool := ltT a.nm b.nm || ((a.nm == b.nm) && ltT a.ds b.ds)
def ltC (a b : ClM) : Bool := ltT a.nm b.nm
def orderC (c : ClM) : Bool := risesB ltT c.is && (risesB ltF c.fs && risesB ltM c.ms)
def orderB (p : PrM) : Bool := risesB ltC p.cs && p.cs.all orderC
def longP (p : PrM) : Bool := !fewNamesB p.ns || (decide (64 < p.cs.length) || !p.cs.all fewB)
def rightE (p : PrM) : Int := if longP p = true then 3 else if (!p.cs.all classB || !entryB p) = true then 1 else if orderB p = false then 5 else 0
end Go.Proofs.Ytdifmgeicnndfaa.prg
namespace Go.Proofs.Ytdifmgeicnndfaa.prg
open Go.RowKit
open words kindp opp op kind
theorem right_zero {p : PrM} (h : rightE p = 0) : longP p = false ∧ p.cs.all classB = true ∧ entryB p = true ∧ orderB p = true := by
 unfold rightE at h
 split at h
 ·exact absurd h (by omega)
 ·rename_i h1
  split at h
  ·exact absurd h (by omega)
  ·rename_i h2
   split at h
   ·exact absurd h (by omega)
   ·rename_i h3
    simp only [Bool.or_eq_true, Bool.not_eq_true', not_or, Bool.not_eq_false] at h2
    exact ⟨by simpa using h1, h2.1, h2.2, by simpa using h3⟩
end Go.Proofs.Ytdifmgeicnndfaa.prg
namespace Go.Proofs.Ytdifmgeicnndfaa.word
open Go.RowKit
open num words give write
set_option maxRecDepth 100000
set_option maxHeartbeats 800000
theorem all_r (s : ByteArray) (m : Nat) (p : Nat → Bool) (w : World) (hs : s.size ≤ 281474976710656) (hm : p m = true) (hp : ∀ c, c ≠ m → p c = letterB c) (hl : ∀ c, letterB c = true → p c = true) :
  Calls Try.prog 142 #[.string s, .int .u8 (m : Int)] w fun e w' => e = .returned (.bool (namedB p s)) ∧ w' = w := by
 have hnI : (s.size : Int) ≤ 281474976710656 := by omega
 have HS := zh (show namedB p s = (fits s && (N s).all p) from rfl)
 have HP := zh hp; have HM := zh hm; have HL := zh hl
 clear hs hp hm hl
 by_cases h0 : s.size < 1
 ·have h0I : (s.size : Int) < 1 := by omega
  rw [HS.out, show fits s = false by simp [fits]; omega, Bool.false_and]
  clear HS h0 HP HM HL
  go_enter Try.func142, Try.ntmps142
  go_wp2
  go_ret
  exact ⟨rfl, rfl⟩
 by_cases h1 : 32 < s.size
 ·have h0I : ¬ (s.size : Int) < 1 := by omega
  have h1I : (32 : Int) < (s.size : Int) := by omega
  rw [HS.out, show fits s = false by simp [fits]; omega, Bool.false_and]
  clear HS h0 h1 HP HM HL
  go_enter Try.func142, Try.ntmps142
  go_wp2
  go_ret
  exact ⟨rfl, rfl⟩
 have h0I : ¬ (s.size : Int) < 1 := by omega
 have h1I : ¬ (32 : Int) < (s.size : Int) := by omega
 rw [HS.out, show fits s = true by simp [fits]; omega, Bool.true_and]
 have HT := zh (fun (c : Nat) (w : World) => letter_r c w)
 clear HS h0 h1
 go_enter Try.func142, Try.ntmps142
 go_wp2
 go_loopw [5] (fun i wr => ∃ k : Nat, k ≤ s.size ∧ i = .int .i64 (k : Int) ∧ wr = w ∧ ((N s).take k).all p = true) (fun i _ => s.size - (intOf i).toNat)
 case atStart => exact ⟨0, Nat.zero_le _, rfl, rfl, by simp⟩
 case round =>
  obtain ⟨k, hk, rfl, rfl, hall⟩ := hrel
  have HA := zh hall
  clear hall
  by_cases hlt : k < s.size
  ·have hltI : (k : Int) < (s.size : Int) := by omega
   have hk1 := take_all s p k hlt HA.out
   have hkn := not_all s p k hlt
   have hpl := HL.out (s[k]'hlt).toNat
   have hpm := HP.out (s[k]'hlt).toNat
   have hmm := HM.out
   have HX := zh (HT.out (s[k]'hlt).toNat)
   cases hlt2 : letterB (s[k]'hlt).toNat
   ·by_cases hxm : (s[k]'hlt).toNat = m
    ·subst hxm
     have HK := zh (hk1 hmm)
     have hx1 : (((s[k]'hlt).toNat : Int) != ((s[k]'hlt).toNat : Int)) = false := by simp
     rw [hlt2] at HX
     clear hpl hpm hmm hk1 hkn HT HA HL HP HM hlt2
     go_wp2_with fail
     refine (HX.out _).mono ?_
     rintro e w' ⟨rfl, rfl⟩
     go_wp2
     go_roundw
     case rel => exact ⟨k + 1, by omega, by go_num, by first | rfl | trivial, HK.out⟩
     case measure => simp [intOf]; omega
    ·have HK := zh (hkn ((hpm hxm).trans hlt2))
     have hx2 : ¬ ((s[k]'hlt).toNat : Int) = (m : Int) := by omega
     have hx1 : (((s[k]'hlt).toNat : Int) != (m : Int)) = true := by simpa using hx2
     rw [hlt2] at HX
     clear hpl hpm hmm hk1 hkn HT HA HL HP HM hxm hlt2
     go_wp2_with fail
     refine (HX.out _).mono ?_
     rintro e w' ⟨rfl, rfl⟩
     go_wp2
     go_ret
     rw [HK.out]
     exact ⟨rfl, rfl⟩
   ·have HK := zh (hk1 (hpl hlt2))
    rw [hlt2] at HX
    clear hpl hpm hmm hk1 hkn HT HA HL HP HM hlt2
    go_wp2_with fail
    refine (HX.out _).mono ?_
    rintro e w' ⟨rfl, rfl⟩
    go_wp2
    go_roundw
    case rel => exact ⟨k + 1, by omega, by go_num, by first | rfl | trivial, HK.out⟩
    case measure => simp [intOf]; omega
  ·have hltI : ¬ (k : Int) < (s.size : Int) := by omega
   have hks : k = s.size := by omega
   subst hks
   have ha := HA.out
   rw [← N_len, List.take_length] at ha
   have HA2 := zh ha
   clear ha HA HT
   go_wp2
   go_ret
   rw [HA2.out]
   exact ⟨rfl, rfl⟩
theorem letter95 : letterB 95 = true := by decide
theorem class47 : classB 47 = true := by decide
theorem class_r (s : ByteArray) (w : World) (hs : s.size ≤ 281474976710656) :
  Calls Try.prog 120 #[.string s] w fun e w' => e = .returned (.bool (namedB classB s)) ∧ w' = w := by
 have HA := zh (fun w => all_r s 47 classB w hs class47 (fun c hc => by unfold classB; rw [show (c == 47) = false by simpa using hc, Bool.false_or]) (fun c hc => by unfold classB; rw [hc, Bool.or_true]))
 clear hs
 go_enter Try.func120, Try.ntmps120
 go_wp2_with (go_at_call 142; refine (HA.out _).mono ?_; rintro e w' ⟨rfl, rfl⟩)
 go_ret
 exact ⟨rfl, rfl⟩
theorem name_r (s : ByteArray) (w : World) (hs : s.size ≤ 281474976710656) :
  Calls Try.prog 121 #[.string s] w fun e w' => e = .returned (.bool (nameB s)) ∧ w' = w := by
 have HA := zh (fun w => all_r s 95 letterB w hs letter95 (fun c _ => rfl) (fun c hc => hc))
 have HS := zh (show nameB s = (decide (s = initName) || namedB letterB s) from rfl)
 generalize namedB letterB s = b at HA HS
 clear hs
 by_cases h : s = initName
 ·rw [HS.out, decide_eq_true h, Bool.true_or]
  subst h
  clear HS HA
  unfold initName
  go_enter Try.func121, Try.ntmps121
  go_wp2
  go_ret
  exact ⟨rfl, rfl⟩
 ·rw [HS.out, decide_eq_false h, Bool.false_or]
  have hne3 : ¬ s.toList = [60, 99, 108, 105, 110, 105, 116, 62] := fun e => h (ext_list (e.trans (by rw [Lib.toList_data]; rfl)))
  have hne : (s.toList == [60, 99, 108, 105, 110, 105, 116, 62]) = false := by rw [beq_eq_false_iff_ne]; exact hne3
  clear HS h
  go_enter Try.func121, Try.ntmps121
  go_wp2_with (go_at_call 142; refine (HA.out _).mono ?_; rintro e w' ⟨rfl, rfl⟩)
  go_ret
  exact ⟨rfl, rfl⟩
end Go.Proofs.Ytdifmgeicnndfaa.word

/- OpU -/
import Derived.Test.YtgociheckcpjkaaGreatDoorKindV
import Derived.Laws.OwnMore
import Derived.Test.YtgociheckcpjkaaGreatDoorOpB
import Derived.RangeFuncNested
import Derived.RangeFuncBound
import Derived.RangeFuncCalls
import Derived.RangeFuncLeaves
import Derived.RangeFuncBox
import Derived.Shelf.Abstract
import Derived.Shelf.RegionOpen
import Derived.WalkKit
import Derived.OwnWalkIn
import Derived.TacticsInMore
import Derived.LoopNIn
import Derived.LoopIn
import Derived.Maps.AppendAt
namespace Go.Proofs.YtgociheckcpjkaaGreatDoor.kind
open Go.RowKit
open words kindp word rdr
set_option maxRecDepth 100000
def Idx {α : Type} (P : α → Bool) (p : List α) (r : Int) : Prop := (r = -1 ∧ ∀ x ∈ p, P x = false) ∨ ∃ (i : Nat) (x : α), r = (i : Int) ∧ p[i]? = some x ∧ P x = true ∧ ∀ y ∈ p.take i, P y = false
theorem idx_any {α : Type} {P : α → Bool} {p : List α} {r : Int} (h : Idx P p r) : p.any P = decide (0 ≤ r) := by
 rcases h with ⟨rfl, h⟩ | ⟨i, x, rfl, hx, hp, -⟩
 ·rw [show decide ((0 : Int) ≤ -1) = false from rfl, List.any_eq_false]
  intro y hy; rw [h y hy]; simp
 ·rw [decide_eq_true (by omega), List.any_eq_true]
  exact ⟨x, List.mem_of_getElem? hx, hp⟩
theorem take_more {α : Type} {P : α → Bool} {p : List α} {k : Nat} {x : α} (h : ∀ y ∈ p.take k, P y = false) (hx : p[k]? = some x) (hp : P x = false) : ∀ y ∈ p.take (k + 1), P y = false := by
 intro y hy
 rw [List.take_add_one, hx] at hy
 rcases List.mem_append.1 hy with h1 | h1
 ·exact h y h1
 ·simp at h1; rw [h1]; exact hp
end Go.Proofs.YtgociheckcpjkaaGreatDoor.kind
namespace Go.Proofs.YtgociheckcpjkaaGreatDoor.kind
open Go.RowKit
open words kindp word rdr
set_option maxRecDepth 100000
end Go.Proofs.YtgociheckcpjkaaGreatDoor.kind
namespace Go.Proofs.YtgociheckcpjkaaGreatDoor.kind
open Go.RowKit
open words kindp word rdr
set_option maxRecDepth 100000
end Go.Proofs.YtgociheckcpjkaaGreatDoor.kind
namespace Go.Proofs.YtgociheckcpjkaaGreatDoor.kind
open Go.RowKit
open words kindp word rdr
set_option maxRecDepth 100000
end Go.Proofs.YtgociheckcpjkaaGreatDoor.kind
namespace Go.Proofs.YtgociheckcpjkaaGreatDoor.kind
open Go.RowKit
open words kindp word rdr
set_option maxRecDepth 100000
def SX (l : List Tx) : List Value := l.map fun x => .string ⟨x.toArray⟩
theorem SX_app (a b : List Tx) : SX (a ++ b) = SX a ++ SX b := by simp [SX]
theorem SX_len (l : List Tx) : (SX l).length = l.length := by simp [SX]
theorem new_rdg {W : World} (g : Nat) (cs : Array Value) (t : TypeId) (k : Nat) (hW : W.heap.size = g) (xs : List Value) (hx : cs.toList.take k = xs) : Rd (W.alloc (.cells cs t)) (some ⟨g, 0, none⟩) xs := by
 rw [← hW]; exact rd_blk (heap_alloc_new W _) hx
theorem infoX : (Tryz.prog.info? 9).map (fun i => (i.zero, i.size, i.bytes)) = some (some (.string ⟨#[]⟩), 1, 16) := by kernel_rfl
end Go.Proofs.YtgociheckcpjkaaGreatDoor.kind
namespace Go.Proofs.YtgociheckcpjkaaGreatDoor.prg
open Go.RowKit
open words kindp opp op kind
structure InM where
 i : In
 A : Option Addr
 c : Nat
structure FiM where
 nm : Tx
 k : Int
 cl : Tx
 st : Bool
structure MeM where
 nm : Tx
 ds : Tx
 st : Bool
 ab : Bool
 rg : Int
 co : List InM
 A : Option Addr
 c : Nat
structure ClM where
 nm : Tx
 su : Tx
 fc : Bool
 ab : Bool
 is : List Tx
 A1 : Option Addr
 c1 : Nat
 fs : List FiM
 A2 : Option Addr
 c2 : Nat
 ms : List MeM
 A3 : Option Addr
 c3 : Nat
structure PrM where
 cs : List ClM
 A1 : Option Addr
 c1 : Nat
 ns : List Tx
 A2 : Option Addr
 c2 : Nat
 ec : Tx
 en : Tx
 ed : Tx
def inC (x : InM) : List Value := [.int .i64 x.i.o, .int .i64 x.i.a, .int .i64 x.i.b, .int .i64 x.i.c, .int .i64 x.i.k, .string ⟨x.i.cl.toArray⟩, .string ⟨x.i.nm.toArray⟩, .string ⟨x.i.ds.toArray⟩, .slice x.A x.i.ar.length x.c]
def fiC (x : FiM) : List Value := [.string ⟨x.nm.toArray⟩, .int .i64 x.k, .string ⟨x.cl.toArray⟩, .bool x.st]
def meC (x : MeM) : List Value := [.string ⟨x.nm.toArray⟩, .string ⟨x.ds.toArray⟩, .bool x.st, .bool x.ab, .int .i64 x.rg, .slice x.A x.co.length x.c]
def clC (x : ClM) : List Value := [.string ⟨x.nm.toArray⟩, .string ⟨x.su.toArray⟩, .bool x.fc, .bool x.ab, .slice x.A1 x.is.length x.c1, .slice x.A2 x.fs.length x.c2, .slice x.A3 x.ms.length x.c3]
def prC (x : PrM) : List Value := [.slice x.A1 x.cs.length x.c1, .slice x.A2 x.ns.length x.c2, .string ⟨x.ec.toArray⟩, .string ⟨x.en.toArray⟩, .string ⟨x.ed.toArray⟩]
def InOk (w : World) (x : InM) : Prop := x.i.ar.length ≤ x.c ∧ Rd w x.A (IL x.i.ar)
def MeOk (w : World) (x : MeM) : Prop := x.co.length ≤ x.c ∧ Rd w x.A (x.co.flatMap inC) ∧ ∀ y ∈ x.co, InOk w y
def ClOk (w : World) (x : ClM) : Prop := (x.is.length ≤ x.c1 ∧ Rd w x.A1 (SX x.is)) ∧ (x.fs.length ≤ x.c2 ∧ Rd w x.A2 (x.fs.flatMap fiC)) ∧ (x.ms.length ≤ x.c3 ∧ Rd w x.A3 (x.ms.flatMap meC)) ∧ ∀ y ∈ x.ms, MeOk w y
def PrOk (w : World) (x : PrM) : Prop := (x.cs.length ≤ x.c1 ∧ Rd w x.A1 (x.cs.flatMap clC)) ∧ (x.ns.length ≤ x.c2 ∧ Rd w x.A2 (SX x.ns)) ∧ ∀ y ∈ x.cs, ClOk w y
theorem InOk.below {w w' : World} {x : InM} (h : InOk w x) (hb : Below w.heap.size w w') : InOk w' x := ⟨h.1, h.2.below hb⟩
theorem MeOk.below {w w' : World} {x : MeM} (h : MeOk w x) (hb : Below w.heap.size w w') : MeOk w' x := ⟨h.1, h.2.1.below hb, fun y hy => (h.2.2 y hy).below hb⟩
theorem ClOk.below {w w' : World} {x : ClM} (h : ClOk w x) (hb : Below w.heap.size w w') : ClOk w' x := ⟨⟨h.1.1, h.1.2.below hb⟩, ⟨h.2.1.1, h.2.1.2.below hb⟩, ⟨h.2.2.1.1, h.2.2.1.2.below hb⟩, fun y hy => (h.2.2.2 y hy).below hb⟩
theorem PrOk.below {w w' : World} {x : PrM} (h : PrOk w x) (hb : Below w.heap.size w w') : PrOk w' x := ⟨⟨h.1.1, h.1.2.below hb⟩, ⟨h.2.1.1, h.2.1.2.below hb⟩, fun y hy => (h.2.2 y hy).below hb⟩
def InBd (x : InM) : Prop := x.i.ar.length ≤ 140737488351232 ∧ x.i.cl.length ≤ 140737488351232 ∧ x.i.nm.length ≤ 140737488351232 ∧ x.i.ds.length ≤ 140737488351232
def FiBd (x : FiM) : Prop := x.nm.length ≤ 140737488351232 ∧ x.cl.length ≤ 140737488351232
def MeBd (x : MeM) : Prop := x.nm.length ≤ 140737488351232 ∧ x.ds.length ≤ 140737488351232 ∧ x.co.length ≤ 140737488351232 ∧ ∀ y ∈ x.co, InBd y
def ClBd (x : ClM) : Prop := x.nm.length ≤ 140737488351232 ∧ x.su.length ≤ 140737488351232 ∧ (x.is.length ≤ 140737488351232 ∧ ∀ y ∈ x.is, y.length ≤ 140737488351232) ∧ (x.fs.length ≤ 140737488351232 ∧ ∀ y ∈ x.fs, FiBd y) ∧ (x.ms.length ≤ 140737488351232 ∧ ∀ y ∈ x.ms, MeBd y)
def PrBd (x : PrM) : Prop := (x.cs.length ≤ 140737488351232 ∧ ∀ y ∈ x.cs, ClBd y) ∧ (x.ns.length ≤ 140737488351232 ∧ ∀ y ∈ x.ns, y.length ≤ 140737488351232) ∧ x.ec.length ≤ 140737488351232 ∧ x.en.length ≤ 140737488351232 ∧ x.ed.length ≤ 140737488351232
theorem flat_len {α : Type} {f : α → List Value} {k : Nat} (hf : ∀ x, (f x).length = k) : ∀ l : List α, (l.flatMap f).length = l.length * k
 | [] => by simp
 | x :: l => by rw [List.flatMap_cons, List.length_append, hf, flat_len hf l, List.length_cons, Nat.succ_mul, Nat.add_comm]
theorem flat_at {α : Type} {f : α → List Value} {k : Nat} (hf : ∀ x, (f x).length = k) : ∀ {l : List α} {i : Nat} {x : α} {t : Nat} {u : Value}, l[i]? = some x → (f x)[t]? = some u → (l.flatMap f)[i * k + t]? = some u
 | [], _, _, _, _, h, _ => by simp at h
 | y :: l, 0, x, t, u, h, hu => by
  simp at h; subst h
  rw [List.flatMap_cons, Nat.zero_mul, Nat.zero_add, List.getElem?_append_left (List.getElem?_eq_some_iff.1 hu).1]
  exact hu
 | y :: l, i + 1, x, t, u, h, hu => by
  rw [List.flatMap_cons, List.getElem?_append_right (by rw [hf, Nat.succ_mul]; omega), hf, show (i + 1) * k + t - k = i * k + t by rw [Nat.succ_mul]; omega]
  exact flat_at hf (by simpa using h) hu
theorem flat_cell {α : Type} {f : α → List Value} {k : Nat} (hf : ∀ x, (f x).length = k) (hk : 0 < k) {w : World} {A : Option Addr} {l : List α} (h : Rd w A (l.flatMap f)) {i : Nat} {x : α} (hi : l[i]? = some x) :
  ∃ a, A = some a ∧ a.block < w.heap.size ∧ (∀ u, (f x)[0]? = some u → w.cell? (a.add (i * k)) = some u) ∧ ∀ t u, 0 < t → (f x)[t]? = some u → w.cell? ⟨(a.add (i * k)).block, (a.add (i * k)).off + t, none⟩ = some u := by
 obtain ⟨u0, hu0⟩ : ∃ u, (f x)[0]? = some u := ⟨_, List.getElem?_eq_getElem (by rw [hf]; exact hk)⟩
 obtain ⟨a, rfl, hb, -⟩ := h.at_ (flat_at hf hi hu0)
 refine ⟨a, rfl, hb, fun u hu => ?_, fun t u ht hu => ?_⟩
 ·obtain ⟨a', e, _, hc⟩ := h.at_ (flat_at hf hi hu)
  cases e
  simpa using hc
 ·obtain ⟨a', e, _, hc⟩ := h.at_ (flat_at hf hi hu)
  cases e
  rw [← add_add] at hc
  have e2 : (a.add (i * k)).add t = ⟨(a.add (i * k)).block, (a.add (i * k)).off + t, none⟩ := by
   rw [Addr.add, if_neg (by omega)]
  rw [e2] at hc
  exact hc
section
variable {w : World} {A : Option Addr} {i : Nat}
theorem in_at {l : List InM} (h : Rd w A (l.flatMap inC)) {x : InM} (hi : l[i]? = some x) : ∃ a, A = some a ∧ a.block < w.heap.size ∧ w.cell? (a.add (i * 9)) = some (.int .i64 x.i.o) ∧
  w.cell? ⟨(a.add (i * 9)).block, (a.add (i * 9)).off + 1, none⟩ = some (.int .i64 x.i.a) ∧ w.cell? ⟨(a.add (i * 9)).block, (a.add (i * 9)).off + 2, none⟩ = some (.int .i64 x.i.b) ∧ w.cell? ⟨(a.add (i * 9)).block, (a.add (i * 9)).off + 3, none⟩ = some (.int .i64 x.i.c) ∧
  w.cell? ⟨(a.add (i * 9)).block, (a.add (i * 9)).off + 4, none⟩ = some (.int .i64 x.i.k) ∧ w.cell? ⟨(a.add (i * 9)).block, (a.add (i * 9)).off + 5, none⟩ = some (.string ⟨x.i.cl.toArray⟩) ∧ w.cell? ⟨(a.add (i * 9)).block, (a.add (i * 9)).off + 6, none⟩ = some (.string ⟨x.i.nm.toArray⟩) ∧
  w.cell? ⟨(a.add (i * 9)).block, (a.add (i * 9)).off + 7, none⟩ = some (.string ⟨x.i.ds.toArray⟩) ∧ w.cell? ⟨(a.add (i * 9)).block, (a.add (i * 9)).off + 8, none⟩ = some (.slice x.A x.i.ar.length x.c) := by
 obtain ⟨a, rfl, hb, h0, h1⟩ := flat_cell (k := 9) (fun x => rfl) (by omega) h hi
 exact ⟨a, rfl, hb, h0 _ rfl, h1 1 _ (by omega) rfl, h1 2 _ (by omega) rfl, h1 3 _ (by omega) rfl, h1 4 _ (by omega) rfl, h1 5 _ (by omega) rfl, h1 6 _ (by omega) rfl, h1 7 _ (by omega) rfl, h1 8 _ (by omega) rfl⟩
theorem fi_at {l : List FiM} (h : Rd w A (l.flatMap fiC)) {x : FiM} (hi : l[i]? = some x) : ∃ a, A = some a ∧ a.block < w.heap.size ∧ w.cell? (a.add (i * 4)) = some (.string ⟨x.nm.toArray⟩) ∧
  w.cell? ⟨(a.add (i * 4)).block, (a.add (i * 4)).off + 1, none⟩ = some (.int .i64 x.k) ∧ w.cell? ⟨(a.add (i * 4)).block, (a.add (i * 4)).off + 2, none⟩ = some (.string ⟨x.cl.toArray⟩) ∧ w.cell? ⟨(a.add (i * 4)).block, (a.add (i * 4)).off + 3, none⟩ = some (.bool x.st) := by
 obtain ⟨a, rfl, hb, h0, h1⟩ := flat_cell (k := 4) (fun x => rfl) (by omega) h hi
 exact ⟨a, rfl, hb, h0 _ rfl, h1 1 _ (by omega) rfl, h1 2 _ (by omega) rfl, h1 3 _ (by omega) rfl⟩
theorem me_at {l : List MeM} (h : Rd w A (l.flatMap meC)) {x : MeM} (hi : l[i]? = some x) : ∃ a, A = some a ∧ a.block < w.heap.size ∧ w.cell? (a.add (i * 6)) = some (.string ⟨x.nm.toArray⟩) ∧
  w.cell? ⟨(a.add (i * 6)).block, (a.add (i * 6)).off + 1, none⟩ = some (.string ⟨x.ds.toArray⟩) ∧ w.cell? ⟨(a.add (i * 6)).block, (a.add (i * 6)).off + 2, none⟩ = some (.bool x.st) ∧ w.cell? ⟨(a.add (i * 6)).block, (a.add (i * 6)).off + 3, none⟩ = some (.bool x.ab) ∧
  w.cell? ⟨(a.add (i * 6)).block, (a.add (i * 6)).off + 4, none⟩ = some (.int .i64 x.rg) ∧ w.cell? ⟨(a.add (i * 6)).block, (a.add (i * 6)).off + 5, none⟩ = some (.slice x.A x.co.length x.c) := by
 obtain ⟨a, rfl, hb, h0, h1⟩ := flat_cell (k := 6) (fun x => rfl) (by omega) h hi
 exact ⟨a, rfl, hb, h0 _ rfl, h1 1 _ (by omega) rfl, h1 2 _ (by omega) rfl, h1 3 _ (by omega) rfl, h1 4 _ (by omega) rfl, h1 5 _ (by omega) rfl⟩
theorem cl_at {l : List ClM} (h : Rd w A (l.flatMap clC)) {x : ClM} (hi : l[i]? = some x) : ∃ a, A = some a ∧ a.block < w.heap.size ∧ w.cell? (a.add (i * 7)) = some (.string ⟨x.nm.toArray⟩) ∧
  w.cell? ⟨(a.add (i * 7)).block, (a.add (i * 7)).off + 1, none⟩ = some (.string ⟨x.su.toArray⟩) ∧ w.cell? ⟨(a.add (i * 7)).block, (a.add (i * 7)).off + 2, none⟩ = some (.bool x.fc) ∧ w.cell? ⟨(a.add (i * 7)).block, (a.add (i * 7)).off + 3, none⟩ = some (.bool x.ab) ∧
  w.cell? ⟨(a.add (i * 7)).block, (a.add (i * 7)).off + 4, none⟩ = some (.slice x.A1 x.is.length x.c1) ∧ w.cell? ⟨(a.add (i * 7)).block, (a.add (i * 7)).off + 5, none⟩ = some (.slice x.A2 x.fs.length x.c2) ∧ w.cell? ⟨(a.add (i * 7)).block, (a.add (i * 7)).off + 6, none⟩ = some (.slice x.A3 x.ms.length x.c3) := by
 obtain ⟨a, rfl, hb, h0, h1⟩ := flat_cell (k := 7) (fun x => rfl) (by omega) h hi
 exact ⟨a, rfl, hb, h0 _ rfl, h1 1 _ (by omega) rfl, h1 2 _ (by omega) rfl, h1 3 _ (by omega) rfl, h1 4 _ (by omega) rfl, h1 5 _ (by omega) rfl, h1 6 _ (by omega) rfl⟩
end
section
variable {w : World} {b t : Nat} {fz : Nat × Nat}
theorem fi_cells {x : FiM} (h : w.heap[b]? = some (.cells (fiC x).toArray t fz)) : w.cell? ⟨b, 0, none⟩ = some (.string ⟨x.nm.toArray⟩) ∧ w.cell? ⟨b, 1, none⟩ = some (.int .i64 x.k) ∧ w.cell? ⟨b, 2, none⟩ = some (.string ⟨x.cl.toArray⟩) ∧ w.cell? ⟨b, 3, none⟩ = some (.bool x.st) :=
 ⟨cell_of_row _ _ 0 _ _ _ h, cell_of_row _ _ 1 _ _ _ h, cell_of_row _ _ 2 _ _ _ h, cell_of_row _ _ 3 _ _ _ h⟩
theorem me_cells {x : MeM} (h : w.heap[b]? = some (.cells (meC x).toArray t fz)) : w.cell? ⟨b, 0, none⟩ = some (.string ⟨x.nm.toArray⟩) ∧ w.cell? ⟨b, 1, none⟩ = some (.string ⟨x.ds.toArray⟩) ∧ w.cell? ⟨b, 2, none⟩ = some (.bool x.st) ∧ w.cell? ⟨b, 3, none⟩ = some (.bool x.ab) ∧ w.cell? ⟨b, 4, none⟩ = some (.int .i64 x.rg) ∧ w.cell? ⟨b, 5, none⟩ = some (.slice x.A x.co.length x.c) :=
 ⟨cell_of_row _ _ 0 _ _ _ h, cell_of_row _ _ 1 _ _ _ h, cell_of_row _ _ 2 _ _ _ h, cell_of_row _ _ 3 _ _ _ h, cell_of_row _ _ 4 _ _ _ h, cell_of_row _ _ 5 _ _ _ h⟩
theorem cl_cells {x : ClM} (h : w.heap[b]? = some (.cells (clC x).toArray t fz)) : w.cell? ⟨b, 0, none⟩ = some (.string ⟨x.nm.toArray⟩) ∧ w.cell? ⟨b, 1, none⟩ = some (.string ⟨x.su.toArray⟩) ∧ w.cell? ⟨b, 2, none⟩ = some (.bool x.fc) ∧ w.cell? ⟨b, 3, none⟩ = some (.bool x.ab) ∧ w.cell? ⟨b, 4, none⟩ = some (.slice x.A1 x.is.length x.c1) ∧ w.cell? ⟨b, 5, none⟩ = some (.slice x.A2 x.fs.length x.c2) ∧ w.cell? ⟨b, 6, none⟩ = some (.slice x.A3 x.ms.length x.c3) :=
 ⟨cell_of_row _ _ 0 _ _ _ h, cell_of_row _ _ 1 _ _ _ h, cell_of_row _ _ 2 _ _ _ h, cell_of_row _ _ 3 _ _ _ h, cell_of_row _ _ 4 _ _ _ h, cell_of_row _ _ 5 _ _ _ h, cell_of_row _ _ 6 _ _ _ h⟩
theorem pr_cells {x : PrM} (h : w.heap[b]? = some (.cells (prC x).toArray t fz)) : w.cell? ⟨b, 0, none⟩ = some (.slice x.A1 x.cs.length x.c1) ∧ w.cell? ⟨b, 1, none⟩ = some (.slice x.A2 x.ns.length x.c2) ∧ w.cell? ⟨b, 2, none⟩ = some (.string ⟨x.ec.toArray⟩) ∧ w.cell? ⟨b, 3, none⟩ = some (.string ⟨x.en.toArray⟩) ∧ w.cell? ⟨b, 4, none⟩ = some (.string ⟨x.ed.toArray⟩) :=
 ⟨cell_of_row _ _ 0 _ _ _ h, cell_of_row _ _ 1 _ _ _ h, cell_of_row _ _ 2 _ _ _ h, cell_of_row _ _ 3 _ _ _ h, cell_of_row _ _ 4 _ _ _ h⟩
end
end Go.Proofs.YtgociheckcpjkaaGreatDoor.prg
namespace Go.Proofs.YtgociheckcpjkaaGreatDoor.op
open Go.RowKit
open words kindp opp
set_option maxRecDepth 100000
set_option maxHeartbeats 4000000
theorem in_ne {i j : In} {b : Bool} (h : i = j → b = true) (hb : b = false) : decide (i = j) = false := decide_eq_false fun e => by rw [h e] at hb; cases hb
theorem same_w (i j : In) (A C : Option Addr) (c d : Nat) (w : World) (hr : Rd w A (IL i.ar)) (kr : Rd w C (IL j.ar)) (hl : i.ar.length ≤ 281474976710656) (hk : j.ar.length ≤ 281474976710656) :
  Calls Tryz.prog 105 #[.agg (InV i A c), .agg (InV j C d)] w fun e w' => e = .returned (.bool (decide (i = j))) ∧ Below w.heap.size w w' := by
 have hal : Below w.heap.size w ((w.alloc (.cells (InV i A c) 42)).alloc (.cells (InV j C d) 42)) := ((Below.refl _ w).alloc (Nat.le_refl _) _).alloc (by simp) _
 have HAL := hh hal
 have HEQ := hh (fun w' (h : Below w.heap.size w w') => equal_w A C c d i.ar j.ar w' (hr.below h) (kr.below h) hl hk)
 unfold InV at HAL ⊢
 clear hal hr kr hl hk
 cases e0 : (i.o == j.o) with
 | false =>
  rw [in_ne (b := (i.o == j.o)) (fun h => by rw [h]; simp) e0]
  clear HEQ
  go_enter Tryz.func105, Tryz.ntmps105
  go_wp2
  go_ret
  exact ⟨rfl, HAL.out⟩
 | true =>
  cases e1 : (i.a == j.a) with
  | false =>
   rw [in_ne (b := (i.a == j.a)) (fun h => by rw [h]; simp) e1]
   clear HEQ
   go_enter Tryz.func105, Tryz.ntmps105
   go_wp2
   go_ret
   exact ⟨rfl, HAL.out⟩
  | true =>
   cases e2 : (i.b == j.b) with
   | false =>
    rw [in_ne (b := (i.b == j.b)) (fun h => by rw [h]; simp) e2]
    clear HEQ
    go_enter Tryz.func105, Tryz.ntmps105
    go_wp2
    go_ret
    exact ⟨rfl, HAL.out⟩
   | true =>
    cases e3 : (i.c == j.c) with
    | false =>
     rw [in_ne (b := (i.c == j.c)) (fun h => by rw [h]; simp) e3]
     clear HEQ
     go_enter Tryz.func105, Tryz.ntmps105
     go_wp2
     go_ret
     exact ⟨rfl, HAL.out⟩
    | true =>
     cases e4 : (i.k == j.k) with
     | false =>
      rw [in_ne (b := (i.k == j.k)) (fun h => by rw [h]; simp) e4]
      clear HEQ
      go_enter Tryz.func105, Tryz.ntmps105
      go_wp2
      go_ret
      exact ⟨rfl, HAL.out⟩
     | true =>
      cases e5 : (i.cl == j.cl) with
      | false =>
       rw [in_ne (b := (i.cl == j.cl)) (fun h => by rw [h]; simp) e5]
       clear HEQ
       go_enter Tryz.func105, Tryz.ntmps105
       go_wp2
       go_ret
       exact ⟨rfl, HAL.out⟩
      | true =>
       cases e6 : (i.nm == j.nm) with
       | false =>
        rw [in_ne (b := (i.nm == j.nm)) (fun h => by rw [h]; simp) e6]
        clear HEQ
        go_enter Tryz.func105, Tryz.ntmps105
        go_wp2
        go_ret
        exact ⟨rfl, HAL.out⟩
       | true =>
        cases e7 : (i.ds == j.ds) with
        | false =>
         rw [in_ne (b := (i.ds == j.ds)) (fun h => by rw [h]; simp) e7]
         clear HEQ
         go_enter Tryz.func105, Tryz.ntmps105
         go_wp2
         go_ret
         exact ⟨rfl, HAL.out⟩
        | true =>
         have hd : decide (i = j) = decide (i.ar = j.ar) := by
          obtain ⟨o, a, b, c, k, cl, nm, ds, ar⟩ := i
          obtain ⟨o', a', b', c', k', cl', nm', ds', ar'⟩ := j
          simp only [beq_iff_eq] at e0 e1 e2 e3 e4 e5 e6 e7
          subst e0 e1 e2 e3 e4 e5 e6 e7
          simp
         rw [hd]
         obtain ⟨R, hR⟩ : ∃ R, R = decide (i.ar = j.ar) := ⟨_, rfl⟩
         rw [← hR] at HEQ ⊢
         clear hR hd
         go_enter Tryz.func105, Tryz.ntmps105
         go_wp2_with fail
         refine (HEQ.out _ HAL.out).mono ?_
         rintro e w1 ⟨rfl, q, rfl⟩
         go_wp2
         go_ret
         exact ⟨rfl, over HAL.out⟩
def LetP (i : In) (A0 : Option Addr) (x : UInt8) (w : World) (e : Ending) (w' : World) : Prop :=
 (∃ A c, e = .returned (.slice A (lettered i x).length c) ∧ (lettered i x).length ≤ c ∧ Rd w' A (IL (lettered i x)) ∧ (x = 118 → A = A0)) ∧ Below w.heap.size w w'
theorem lettered_w (i : In) (A : Option Addr) (c : Nat) (x : UInt8) (w : World) (hr : Rd w A (IL i.ar)) (hc : i.ar.length ≤ c) :
  Calls Tryz.prog 155 #[.agg (InV i A c), .int .i32 ((x.toNat : Nat) : Int)] w (LetP i A x w) := by
 have hal : Below w.heap.size w (w.alloc (.cells (InV i A c) 42)) := (Below.refl _ w).alloc (Nat.le_refl _) _
 have HAL := hh hal
 have HR := hh (hr.below hal)
 have hone : ∀ z, x ≠ 118 → lettered i x = [z] → ∀ W : World, Below w.heap.size w W → LetP i A x w (.returned (.slice (some ⟨W.heap.size, 0, none⟩) 1 1)) (W.alloc (.cells #[.int .i64 z] 3)) := by
  intro z hx hz W hW
  unfold LetP
  rw [hz]
  exact ⟨⟨some ⟨W.heap.size, 0, none⟩, 1, rfl, Nat.le_refl _, rd_blk (heap_alloc_new W _) (k := 1) rfl, fun e => absurd e hx⟩, hW.alloc hW.size _⟩
 have HO := hh hone
 unfold InV at HAL HR ⊢
 clear hal hone hr
 rcases letters x with rfl | rfl | rfl | rfl | rfl | rfl | rfl | rfl | rfl | rfl | ⟨e1, e2, e3, e4, e5, e6, e7, e8, e9, e10⟩
 ·have HZ := hh (HO.out i.a (by decide) rfl _ HAL.out)
  simp only [World.size_alloc] at HZ
  clear HO
  go_enter Tryz.func155, Tryz.ntmps155
  go_wp2
  go_ret
  exact HZ.out
 ·have HZ := hh (HO.out i.b (by decide) rfl _ HAL.out)
  simp only [World.size_alloc] at HZ
  clear HO
  go_enter Tryz.func155, Tryz.ntmps155
  go_wp2
  go_ret
  exact HZ.out
 ·have HZ := hh (HO.out i.c (by decide) rfl _ HAL.out)
  simp only [World.size_alloc] at HZ
  clear HO
  go_enter Tryz.func155, Tryz.ntmps155
  go_wp2
  go_ret
  exact HZ.out
 ·have HZ := hh (show LetP i A 107 w (.returned (.slice none 0 0)) _ from ⟨⟨none, 0, rfl, Nat.le_refl _, Rd.nil _ _, fun e => absurd e (by decide)⟩, HAL.out⟩)
  clear HO
  go_enter Tryz.func155, Tryz.ntmps155
  go_wp2
  go_ret
  exact HZ.out
 ·have HZ := hh (show LetP i A 116 w (.returned (.slice none 0 0)) _ from ⟨⟨none, 0, rfl, Nat.le_refl _, Rd.nil _ _, fun e => absurd e (by decide)⟩, HAL.out⟩)
  clear HO
  go_enter Tryz.func155, Tryz.ntmps155
  go_wp2
  go_ret
  exact HZ.out
 ·have HZ := hh (show LetP i A 114 w (.returned (.slice none 0 0)) _ from ⟨⟨none, 0, rfl, Nat.le_refl _, Rd.nil _ _, fun e => absurd e (by decide)⟩, HAL.out⟩)
  clear HO
  go_enter Tryz.func155, Tryz.ntmps155
  go_wp2
  go_ret
  exact HZ.out
 ·have HZ := hh (show LetP i A 67 w (.returned (.slice none 0 0)) _ from ⟨⟨none, 0, rfl, Nat.le_refl _, Rd.nil _ _, fun e => absurd e (by decide)⟩, HAL.out⟩)
  clear HO
  go_enter Tryz.func155, Tryz.ntmps155
  go_wp2
  go_ret
  exact HZ.out
 ·have HZ := hh (show LetP i A 70 w (.returned (.slice none 0 0)) _ from ⟨⟨none, 0, rfl, Nat.le_refl _, Rd.nil _ _, fun e => absurd e (by decide)⟩, HAL.out⟩)
  clear HO
  go_enter Tryz.func155, Tryz.ntmps155
  go_wp2
  go_ret
  exact HZ.out
 ·have HZ := hh (show LetP i A 77 w (.returned (.slice none 0 0)) _ from ⟨⟨none, 0, rfl, Nat.le_refl _, Rd.nil _ _, fun e => absurd e (by decide)⟩, HAL.out⟩)
  clear HO
  go_enter Tryz.func155, Tryz.ntmps155
  go_wp2
  go_ret
  exact HZ.out
 ·have HZ := hh (show LetP i A 118 w (.returned (.slice A i.ar.length c)) _ from ⟨⟨A, c, rfl, hc, HR.out, fun _ => rfl⟩, HAL.out⟩)
  clear HO
  go_enter Tryz.func155, Tryz.ntmps155
  go_wp2
  go_ret
  exact HZ.out
 ·have n1 := ne_nat (n := 97) e1
  have n2 := ne_nat (n := 98) e2
  have n3 := ne_nat (n := 99) e3
  have n10 := ne_nat (n := 118) e10
  have hnil : lettered i x = [] := by unfold lettered; rw [if_neg e1, if_neg e2, if_neg e3, if_neg e10]
  have HZ := hh (show LetP i A x w (.returned (.slice none 0 0)) _ from ⟨⟨none, 0, by rw [hnil]; rfl, by rw [hnil]; exact Nat.le_refl _, by rw [hnil]; exact Rd.nil _ _, fun e => absurd e e10⟩, HAL.out⟩)
  clear HO e1 e2 e3 e4 e5 e6 e7 e8 e9 e10 hnil
  go_enter Tryz.func155, Tryz.ntmps155
  go_wp2
  go_ret
  exact HZ.out
end Go.Proofs.YtgociheckcpjkaaGreatDoor.op
namespace Go.Proofs.YtgociheckcpjkaaGreatDoor.op
open Go.RowKit Go.Shelf
open words kindp opp
set_option maxRecDepth 100000
set_option maxHeartbeats 2000000
attribute [local go_sem] Oper.semAt_some
def encR (x : UInt8 × Int) : Array Value := #[.int .i32 ((x.1.toNat : Nat) : Int), .int .i64 x.2]
def RK (n₀ b : Nat) (W W' : World) : Prop := Below n₀ W W' ∧ KeepsWalks W W' ∧ W'.heap[b]? = W.heap[b]?
theorem rk_t {n₀ b : Nat} {A B C : World} (h : RK n₀ b A B) (k : RK n₀ b B C) : RK n₀ b A C := ⟨h.1.trans k.1, h.2.1.trans k.2.1, k.2.2.trans h.2.2⟩
theorem rk_b {n₀ b : Nat} {w : World} (hn : n₀ ≤ w.heap.size) (hb : b < w.heap.size) (W : World) (l : Nat) (o o' : Obj) (hl : w.heap.size ≤ l) (h : W.heap[l]? = some o) (hc : o.isCells = false) (hw : o.isWalk = false) : RK n₀ b W (W.putObj l o') :=
 ⟨belowK_b hn W l o o' hl h hc hw, walksK_b (w := w) W l o o' hl h hc hw, (grownBy_putObj' W l o').block b (by have := (Array.getElem?_eq_some_iff.1 h).1; omega) (by intro e; cases e; omega)⟩
theorem grown_below {W W' : World} (h : Below W.heap.size W W') : W.grownBy W' none := ⟨h.os, h.tape, h.output, h.size, fun k hk _ => h.block k hk⟩
def flat (i : In) (s : Tx) : List (UInt8 × Int) := s.flatMap fun c => (lettered i c).map fun r => (c, r)
theorem flat_snoc (i : In) {s : Tx} {k : Nat} {x : UInt8} (h : s[k]? = some x) : flat i (s.take (k + 1)) = flat i (s.take k) ++ (lettered i x).map fun r => (x, r) := by
 unfold flat; rw [List.take_add_one, h]; simp
theorem flat_pre (i : In) (s : Tx) (k : Nat) : flat i (s.take k) <+: flat i s := by
 unfold flat
 conv => rhs; rw [← List.take_append_drop k s, List.flatMap_append]
 exact List.prefix_append _ _
theorem short_let {i : In} {x : UInt8} (h : x ≠ 118) : (lettered i x).length ≤ 1 := by
 unfold lettered
 split
 ·exact Nat.le_refl _
 split
 ·exact Nat.le_refl _
 split
 ·exact Nat.le_refl _
 exact Nat.zero_le _
theorem let_v (i : In) : lettered i 118 = i.ar := rfl
theorem regs_in (n : Nat) (hn : 1 ≤ n) (l Bn : Nat) (i : In) (A : Option Addr) (c : Nat) (w : World) (hs : Sh w) (hr : Rd w A (IL i.ar)) (hc : i.ar.length ≤ c) (hz : i.ar.length ≤ 281474976710656) (J Jx : List (UInt8 × Int) → World → Prop) (W : World) (hJ : AbidesFrom W.heap.size J)
  (hY : ∀ pre x W1, J pre W1 → pre.length < (regsL i).length → YieldAt Fence.wide (n - 1) Tryz.prog l (encR x) W1 fun e W' =>
   (e = .returned (.bool true) ∧ J (pre ++ [x]) W' ∧ RK w.heap.size Bn W1 W') ∨ (e = .returned (.bool false) ∧ Jx (pre ++ [x]) W'))
  (hBn : W.heap[Bn]? = some (.cells (InV i A c) 42 (0, 0))) (hbl : Below w.heap.size w W) (h0 : J [] W) :
  CallsIn Fence.wide n Tryz.prog 153 #[.func (.yield l) #[] #[], .pointer (some ⟨Bn, 0, none⟩)] W fun e W' => (∃ v, e = .returned v) ∧
   ((∃ ys, ys = regsL i ∧ J ys W') ∨ (∃ pre, pre <+: regsL i ∧ Jx pre W')) := by
 have HS := hh (fun w hs => shape_w i.o w hs)
 have HSW := hh (hs.below hbl)
 obtain ⟨L, hL⟩ : ∃ L, L = shapeL i.o := ⟨_, rfl⟩
 have HRG := hh (show flat i L = regsL i by rw [hL]; rfl)
 rw [← hL] at HS
 have HL := hh (show ∀ c ∈ L, c.toNat < 128 from by rw [hL]; exact (shape_letters i.o).2)
 have HJ := hh hJ; have HR := hh hr; have HY := hh hY
 obtain ⟨m, hm⟩ : ∃ m, m = L.length := ⟨_, rfl⟩
 have HM := hh hm
 obtain ⟨g0, g1, g2, g3, g4, g5, g6, g7, g8⟩ := in_cells hBn
 have HBn := hh hBn; have HBL := hh hbl; have HLT := hh (blk_lt hBn)
 clear hL hs hJ hr hY hm hBn hbl
 refine callsIn_of_wp Tryz.func153 rfl trivial ?_ rfl
 simp only [Tryz.ntmps153, List.size_toArray, List.length_cons, List.length_nil, Nat.reduceAdd, Nat.reduceSub, Array.replicate_succ, Array.replicate_zero, List.push_toArray, List.append_toArray, List.nil_append, List.cons_append]
 gi_wp2_with fail
 refine ⟨trivial, callsIn_wide.2 ((HS.out _ HSW.out).mono ?_)⟩
 rintro e W ⟨rfl, rfl⟩
 clear g1 g2 g3 g4 g5 g6 g7 g8 HS HSW
 gi_wp2_with fail
 obtain ⟨X, hX⟩ : ∃ X, X = W.heap.size := ⟨_, rfl⟩
 have hbs : Bn < X := by rw [hX]; exact HLT.out
 have hw0 : w.heap.size ≤ X := by rw [hX]; exact HBL.out.size
 rw [← hX] at HJ
 have HST : Hid ((W.iter ⟨L.toArray⟩ 0).heap[X]? = some (.stringIter ⟨L.toArray⟩ 0)) := hh (by rw [hX]; exact World.iter_heap W _ 0)
 have HSB : Hid ((W.iter ⟨L.toArray⟩ 0).heap[Bn]? = some (.cells (InV i A c) 42 (0, 0))) := hh ((Below.heap_alloc _ _ _ HLT.out).trans HBn.out)
 have HSL : Hid (Below w.heap.size w (W.iter ⟨L.toArray⟩ 0)) := hh (HBL.out.alloc HBL.out.size _)
 have HSJ : Hid (J [] (W.iter ⟨L.toArray⟩ 0)) := hh (HJ.out [] _ _ none h0 (grown_below ((Below.refl _ W).alloc (Nat.le_refl _) _)) (fun r e => by cases e))
 have HX := hh hX
 clear h0 HBn HBL HLT
 rw [← hX]
 clear hX
 gi_loopw [4] (fun _ wr => ∃ pos, pos ≤ m ∧ wr.heap[X]? = some (.stringIter ⟨L.toArray⟩ pos) ∧ wr.heap[Bn]? = some (.cells (InV i A c) 42 (0, 0)) ∧ Below w.heap.size w wr ∧ J (flat i (L.take pos)) wr) (fun _ wr => m - wr.iterPos X)
 case atStart => exact ⟨0, Nat.zero_le _, HST.out, HSB.out, HSL.out, HSJ.out⟩
 case round =>
  obtain ⟨pos, hpm, hit, hBn, hbl, hJp⟩ := hrel
  by_cases hp : pos < m
  ·obtain ⟨x, hx⟩ : ∃ x, L[pos]? = some x := ⟨L[pos]'(by rw [← HM.out]; exact hp), List.getElem?_eq_getElem _⟩
   obtain ⟨w1, hnx, hit1, hsz1, hoth, hbw⟩ := next_at (P := Tryz.prog) wr X L pos x hit hx (HL.out x (List.mem_of_getElem? hx))
   have hb1 := (hoth Bn (by omega)).trans hBn
   have hbl1 := hbl.trans (hbw w.heap.size hw0)
   have hg1 : wr.grownBy w1 (some X) := ⟨(hbw 0 (Nat.zero_le _)).os, (hbw 0 (Nat.zero_le _)).tape, (hbw 0 (Nat.zero_le _)).output, (by rw [hsz1]; exact Nat.le_refl _), fun k hk hne => hoth k (fun e => hne (by rw [e]))⟩
   have hJ1 := HJ.out _ _ _ (some X) hJp hg1 (fun r e => by cases e; exact ⟨Nat.le_refl _, _, hit, rfl⟩)
   obtain ⟨g0, g1, g2, g3, g4, g5, g6, g7, g8⟩ := in_cells hb1
   have hlet := lettered_w i A c x w1 (HR.out.below hbl1) hc
   have hpos : wr.iterPos X = pos := by simp [World.iterPos, hit]
   have HLE := hh hlet; have HI1 := hh hit1; have HB1 := hh hb1; have HL1 := hh hbl1; have HJ1 := hh hJ1; have HPO := hh hpos; have HXX := hh hx
   clear hlet hit hBn hbl hJp hit1 hb1 hbl1 hJ1 hoth hbw hg1 hpos hsz1 hx
   gi_wp2_with fail
   refine ⟨trivial, callsIn_wide.2 (HLE.out.mono ?_)⟩
   rintro e w2 ⟨⟨A2, c2, rfl, hlc, hr2, hv2⟩, hb2⟩
   have HI2 := hh ((hb2.block X (blk_lt HI1.out)).trans HI1.out); have HB2 := hh ((hb2.block Bn (blk_lt HB1.out)).trans HB1.out); have HL2 := hh (HL1.out.trans (hb2.mono HL1.out.size))
   have HJ2 := hh (HJ.out _ _ _ none HJ1.out (grown_below hb2) (fun r e => by cases e))
   have HR2 := hh hr2; have HV2 := hh hv2
   obtain ⟨k2, hk2⟩ : ∃ k2, k2 = (lettered i x).length := ⟨_, rfl⟩
   have HK2 := hh hk2
   rw [← hk2] at hlc ⊢
   have hkz : (k2 : Int) ≤ 281474976710656 := by
    by_cases hx8 : x = 118
    ·have : k2 = i.ar.length := by rw [HK2.out, hx8]; rfl
     omega
    ·have := short_let (i := i) hx8
     omega
   clear hb2 hr2 hv2 hk2 g0 g1 g2 g3 g4 g5 g6 g7 g8 HLE HI1 HB1 HL1 HJ1 hnx
   gi_wp2_with fail
   gi_loopw [6, 18] (fun _ v wr2 => ∃ k : Nat, v = .int .i64 (k : Int) ∧ k ≤ k2 ∧ wr2.heap[X]? = some (.stringIter ⟨L.toArray⟩ (pos + 1)) ∧ wr2.heap[Bn]? = some (.cells (InV i A c) 42 (0, 0)) ∧ Below w.heap.size w wr2 ∧ J (flat i (L.take pos) ++ ((lettered i x).take k).map fun r => (x, r)) wr2 ∧
    (∀ z, (lettered i x)[k]? = some z → ∃ a, A2 = some a ∧ wr2.cell? (a.add k) = some (.int .i64 z))) (fun _ v _ => k2 - (intOf v).toNat)
   case atStart =>
    refine ⟨0, rfl, Nat.zero_le _, HI2.out, HB2.out, HL2.out, ?_, fun z hz => ?_⟩
    ·rw [List.take_zero, List.map_nil, List.append_nil]; exact HJ2.out
    ·obtain ⟨a, e, _, h⟩ := HR2.out.at_ (IL_at hz)
     exact ⟨a, e, h⟩
   case round =>
    obtain ⟨k, rfl, hk, hit, hBn, hbl, hJk, hcell⟩ := hrel
    have hfl := flat_snoc i HXX.out
    have hfp := flat_pre i L (pos + 1)
    rw [hfl, HRG.out] at hfp
    by_cases hlt : k < k2
    ·have hltI : (k : Int) < (k2 : Int) := by omega
     obtain ⟨z, hzz⟩ : ∃ z, (lettered i x)[k]? = some z := ⟨(lettered i x)[k]'(by rw [← HK2.out]; exact hlt), List.getElem?_eq_getElem _⟩
     obtain ⟨a, rfl, hc1⟩ := hcell z hzz
     have htk : ((lettered i x).take (k + 1)).map (fun r => (x, r)) = ((lettered i x).take k).map (fun r => (x, r)) ++ [(x, z)] := by rw [List.take_add_one, hzz]; simp
     have hpre : flat i (L.take pos) ++ ((lettered i x).take k).map (fun r => (x, r)) ++ [(x, z)] <+: regsL i := by
      rw [List.append_assoc, ← htk]
      refine List.IsPrefix.trans ?_ hfp
      rw [List.prefix_append_right_inj]
      exact List.IsPrefix.map _ (List.take_prefix _ _)
     have hlen := hpre.length_le
     rw [List.length_append, List.length_singleton] at hlen
     obtain ⟨fn, tmps, assign, body, hy, hR⟩ := HY.out _ (x, z) wr hJk (by omega)
     have HT := hh htk; have HP := hh hpre; have HF := hh hfl; have HZ := hh hzz
     have HIT := hh hit; have HBB := hh hBn; have HBE := hh hbl
     clear htk hpre hfl hfp hlen hzz hJk hcell hit hBn hbl
     dsimp only [encR] at hy
     gi_wp2
     refine hR.mono ?_
     rintro e W3 (⟨rfl, hJ3, hk3⟩ | ⟨rfl, hJx3⟩)
     ·have hnext : ∀ z', (lettered i x)[k + 1]? = some z' → ∃ a', some a = some a' ∧ W3.cell? (a'.add (k + 1)) = some (.int .i64 z') := by
       intro z' hz'
       by_cases hx8 : x = 118
       ·have hA := HV2.out hx8
        rw [hx8, let_v] at hz'
        obtain ⟨a', e, _, h⟩ := (HR.out.below (HBE.out.trans hk3.1)).at_ (IL_at hz')
        exact ⟨a', hA.trans e, h⟩
       ·have := short_let (i := i) hx8
        rw [List.getElem?_eq_none (by omega)] at hz'; cases hz'
      have HNX := hh hnext
      clear hnext
      gi_wp2
      go_roundw
      case rel => exact ⟨k + 1, by go_num, by omega, hk3.2.1.same X _ HIT.out rfl, hk3.2.2.trans HBB.out, HBE.out.trans hk3.1, by rw [HT.out, ← List.append_assoc]; exact hJ3, HNX.out⟩
      case measure => simp [intOf]; omega
     ·gi_wp2
      refine bodyPost_ret (results_none rfl _ _ _) rfl ?_
      exact ⟨⟨_, rfl⟩, .inr ⟨_, HP.out, hJx3⟩⟩
    ·obtain rfl : k = k2 := by omega
     have hltI : ¬ (k : Int) < (k : Int) := by omega
     have HIT := hh hit; have HBB := hh hBn; have HBE := hh hbl; have HF := hh hfl; have HJK := hh hJk
     clear hfl hfp hJk hcell hit hBn hbl hlt
     gi_wp2
     go_roundw
     case rel => exact ⟨pos + 1, by omega, HIT.out, HBB.out, HBE.out, by have := HJK.out; rw [HK2.out, List.take_length] at this; rw [HF.out]; exact this⟩
     case measure =>
      rw [HPO.out, show wr.iterPos X = pos + 1 by simp [World.iterPos, HIT.out]]; omega
  ·obtain rfl : pos = m := by omega
   have hnx := next_none (P := Tryz.prog) wr X L pos hit (by rw [← HM.out]; exact Nat.le_refl _)
   have HJP := hh hJp
   clear hit hBn hbl hJp
   gi_wp2
   go_end0
   exact ⟨⟨_, rfl⟩, .inl ⟨_, by rw [← HRG.out, HM.out, List.take_length], HJP.out⟩⟩
theorem maker_in (n : Nat) (i : In) (A : Option Addr) (c : Nat) (w : World) :
  CallsIn Fence.wide n Tryz.prog 144 #[.agg (InV i A c)] w fun e w' => e = .returned (.func (.func 153) #[] #[.pointer (some ⟨w.heap.size, 0, none⟩)]) ∧ w' = w.alloc (.cells (InV i A c) 42) := by
 unfold InV
 refine callsIn_of_wp Tryz.func144 rfl trivial ?_ rfl
 simp only [Tryz.ntmps144, List.size_toArray, List.length_cons, List.length_nil, Nat.reduceAdd, Nat.reduceSub, Array.replicate_succ, Array.replicate_zero, List.push_toArray, List.append_toArray, List.nil_append, List.cons_append]
 gi_wp2
 go_ret
 exact ⟨rfl, rfl⟩
theorem regs_stops (n : Nat) (hn : 1 ≤ n) (Bn : Nat) (i : In) (A : Option Addr) (c : Nat) (w ws : World) (hs : Sh w) (hr : Rd w A (IL i.ar)) (hc : i.ar.length ≤ c) (hz : i.ar.length ≤ 281474976710656)
  (hBn : ws.heap[Bn]? = some (.cells (InV i A c) 42 (0, 0))) (hbl : Below w.heap.size w ws) :
  SeqStopsK Fence.wide n Tryz.prog 153 #[.pointer (some ⟨Bn, 0, none⟩)] encR (RK w.heap.size Bn) (fun ys => ys = regsL i) (fun pre => pre <+: regsL i) (regsL i).length ws := fun l J Jx W hW hJ _ hY h0 =>
 regs_in n hn l Bn i A c w hs hr hc hz J Jx W hJ hY ((hW.block Bn (blk_lt hBn)).trans hBn) (hbl.trans (hW.mono hbl.size)) h0
end Go.Proofs.YtgociheckcpjkaaGreatDoor.op
namespace Go.Proofs.YtgociheckcpjkaaGreatDoor.op
open Go.RowKit Go.Shelf
open words kindp opp
set_option maxRecDepth 100000
set_option maxHeartbeats 2000000
attribute [local go_sem] Oper.semAt_some
theorem row_own2 {β : Type} (B : Nat) (cs : Array Value) (t : TypeId) (fz : Nat × Nat) : Own (fun (_ : β) W => W.heap[B]? = some (.cells cs t fz)) := by
 intro s A A' row h hg hr
 refine (hg.block B (Array.getElem?_eq_some_iff.1 h).1 (fun e => ?_)).trans h
 obtain ⟨o, ho, hc⟩ := hr B e.symm
 rw [h] at ho; cases ho; cases hc
end Go.Proofs.YtgociheckcpjkaaGreatDoor.op

/- Hier -/
import Derived.Test.YtdifmgeicnndfaaOp
import Derived.Deep.QuietTactic
import Derived.BigQuiet
import Derived.Defers
import Derived.Recover
import Derived.Laws.OwnMore
import Derived.Maps.RangeRun
import Derived.Maps.Own
import Derived.RangeFuncNested
import Derived.RangeFuncBound
import Derived.RangeFuncCalls
import Derived.RangeFuncLeaves
import Derived.RangeFuncBox
import Derived.Shelf.Abstract
import Derived.Shelf.RegionOpen
import Derived.WalkKit
import Derived.OwnWalkIn
import Derived.TacticsInMore
import Derived.LoopNIn
import Derived.LoopIn
import Derived.Maps.AppendAt
import Derived.Deep.RegionHeld3
import Derived.IntWalk
import Derived.Test.YtdifmgeicnndfaaKind
import Derived.Sort.Walk0
import Derived.WalkLawsBesides
namespace Go.Proofs.Ytdifmgeicnndfaa.op
open Go.RowKit
open words kindp opp
def IL (l : List Int) : List Value := l.map fun z => Value.int .i64 z
def InV (i : In) (A : Option Addr) (c : Nat) : Array Value := #[.int .i64 i.o, .int .i64 i.a, .int .i64 i.b, .int .i64 i.c, .int .i64 i.k, .string ⟨i.cl.toArray⟩, .string ⟨i.nm.toArray⟩, .string ⟨i.ds.toArray⟩, .slice A i.ar.length c]
theorem next_none {P : Program} (w : World) (b : Nat) (l : Tx) (pos : Nat) (hb : w.heap[b]? = some (.stringIter ⟨l.toArray⟩ pos)) (h : l.length ≤ pos) (ty : TypeId) :
  (Instr.next (.pointer (some ⟨b, 0, none⟩)) true ty).run P w = .ok (.tuple #[.bool false]) w := by
 have hsz : (⟨l.toArray⟩ : ByteArray).size = l.length := by show l.toArray.size = _; simp
 have h2 : ¬ pos < (⟨l.toArray⟩ : ByteArray).size := by rw [hsz]; omega
 simp [Instr.next, getObj, Sem.run, hb, h2]
section
variable {w : World} {b t : Nat} {j : In} {A : Option Addr} {c : Nat}
end
theorem letters (c : UInt8) : c = 97 ∨ c = 98 ∨ c = 99 ∨ c = 107 ∨ c = 116 ∨ c = 114 ∨ c = 67 ∨ c = 70 ∨ c = 77 ∨ c = 118 ∨ (c ≠ 97 ∧ c ≠ 98 ∧ c ≠ 99 ∧ c ≠ 107 ∧ c ≠ 116 ∧ c ≠ 114 ∧ c ≠ 67 ∧ c ≠ 70 ∧ c ≠ 77 ∧ c ≠ 118) := by
 by_cases e1 : c = 97
 ·exact .inl e1
 by_cases e2 : c = 98
 ·exact .inr (.inl e2)
 by_cases e3 : c = 99
 ·exact .inr (.inr (.inl e3))
 by_cases e4 : c = 107
 ·exact .inr (.inr (.inr (.inl e4)))
 by_cases e5 : c = 116
 ·exact .inr (.inr (.inr (.inr (.inl e5))))
 by_cases e6 : c = 114
 ·exact .inr (.inr (.inr (.inr (.inr (.inl e6)))))
 by_cases e7 : c = 67
 ·exact .inr (.inr (.inr (.inr (.inr (.inr (.inl e7))))))
 by_cases e8 : c = 70
 ·exact .inr (.inr (.inr (.inr (.inr (.inr (.inr (.inl e8)))))))
 by_cases e9 : c = 77
 ·exact .inr (.inr (.inr (.inr (.inr (.inr (.inr (.inr (.inl e9))))))))
 by_cases e10 : c = 118
 ·exact .inr (.inr (.inr (.inr (.inr (.inr (.inr (.inr (.inr (.inl e10)))))))))
 exact .inr (.inr (.inr (.inr (.inr (.inr (.inr (.inr (.inr (.inr ⟨e1, e2, e3, e4, e5, e6, e7, e8, e9, e10⟩)))))))))
end Go.Proofs.Ytdifmgeicnndfaa.op
namespace Go.Proofs.Ytdifmgeicnndfaa.kind
open Go.RowKit
open words kindp word
end Go.Proofs.Ytdifmgeicnndfaa.kind
namespace Go.Proofs.Ytdifmgeicnndfaa.kind
open Go.RowKit
open words kindp word
end Go.Proofs.Ytdifmgeicnndfaa.kind
namespace Go.Proofs.Ytdifmgeicnndfaa.kind
open Go.RowKit
open words kindp word rdr
end Go.Proofs.Ytdifmgeicnndfaa.kind
namespace Go.Proofs.Ytdifmgeicnndfaa.kind
open Go.RowKit
open words kindp
end Go.Proofs.Ytdifmgeicnndfaa.kind
namespace Go.Proofs.Ytdifmgeicnndfaa.kind
open Go.RowKit
open words kindp word piece rdr
end Go.Proofs.Ytdifmgeicnndfaa.kind
namespace Go.Proofs.Ytdifmgeicnndfaa.kind
open Go.RowKit
open words kindp word rdr
end Go.Proofs.Ytdifmgeicnndfaa.kind
namespace Go.Proofs.Ytdifmgeicnndfaa.kind
open Go.RowKit
open words kindp word rdr
def Idx {α : Type} (P : α → Bool) (p : List α) (r : Int) : Prop := (r = -1 ∧ ∀ x ∈ p, P x = false) ∨ ∃ (i : Nat) (x : α), r = (i : Int) ∧ p[i]? = some x ∧ P x = true ∧ ∀ y ∈ p.take i, P y = false
theorem take_more {α : Type} {P : α → Bool} {p : List α} {k : Nat} {x : α} (h : ∀ y ∈ p.take k, P y = false) (hx : p[k]? = some x) (hp : P x = false) : ∀ y ∈ p.take (k + 1), P y = false := by
 intro y hy
 rw [List.take_add_one, hx] at hy
 rcases List.mem_append.1 hy with h1 | h1
 ·exact h y h1
 ·simp at h1; rw [h1]; exact hp
end Go.Proofs.Ytdifmgeicnndfaa.kind
namespace Go.Proofs.Ytdifmgeicnndfaa.kind
open Go.RowKit
open words kindp word rdr
end Go.Proofs.Ytdifmgeicnndfaa.kind
namespace Go.Proofs.Ytdifmgeicnndfaa.kind
open Go.RowKit
open words kindp word rdr
end Go.Proofs.Ytdifmgeicnndfaa.kind
namespace Go.Proofs.Ytdifmgeicnndfaa.kind
open Go.RowKit
open words kindp word rdr
end Go.Proofs.Ytdifmgeicnndfaa.kind
namespace Go.Proofs.Ytdifmgeicnndfaa.kind
open Go.RowKit
open words kindp word rdr
def SX (l : List Tx) : List Value := l.map fun x => .string ⟨x.toArray⟩
theorem SX_app (a b : List Tx) : SX (a ++ b) = SX a ++ SX b := by simp [SX]
end Go.Proofs.Ytdifmgeicnndfaa.kind
namespace Go.Proofs.Ytdifmgeicnndfaa.prg
open Go.RowKit
open words kindp opp op kind
structure InM where
 i : In
 A : Option Addr
 c : Nat
structure FiM where
 nm : Tx
 k : Int
 cl : Tx
 st : Bool
structure MeM where
 nm : Tx
 ds : Tx
 st : Bool
 ab : Bool
 rg : Int
 co : List InM
 A : Option Addr
 c : Nat
structure ClM where
 nm : Tx
 su : Tx
 fc : Bool
 ab : Bool
 is : List Tx
 A1 : Option Addr
 c1 : Nat
 fs : List FiM
 A2 : Option Addr
 c2 : Nat
 ms : List MeM
 A3 : Option Addr
 c3 : Nat
structure PrM where
 cs : List ClM
 A1 : Option Addr
 c1 : Nat
 ns : List Tx
 A2 : Option Addr
 c2 : Nat
 ec : Tx
 en : Tx
 ed : Tx
def inC (x : InM) : List Value := [.int .i64 x.i.o, .int .i64 x.i.a, .int .i64 x.i.b, .int .i64 x.i.c, .int .i64 x.i.k, .string ⟨x.i.cl.toArray⟩, .string ⟨x.i.nm.toArray⟩, .string ⟨x.i.ds.toArray⟩, .slice x.A x.i.ar.length x.c]
def fiC (x : FiM) : List Value := [.string ⟨x.nm.toArray⟩, .int .i64 x.k, .string ⟨x.cl.toArray⟩, .bool x.st]
def meC (x : MeM) : List Value := [.string ⟨x.nm.toArray⟩, .string ⟨x.ds.toArray⟩, .bool x.st, .bool x.ab, .int .i64 x.rg, .slice x.A x.co.length x.c]
def clC (x : ClM) : List Value := [.string ⟨x.nm.toArray⟩, .string ⟨x.su.toArray⟩, .bool x.fc, .bool x.ab, .slice x.A1 x.is.length x.c1, .slice x.A2 x.fs.length x.c2, .slice x.A3 x.ms.length x.c3]
def prC (x : PrM) : List Value := [.slice x.A1 x.cs.length x.c1, .slice x.A2 x.ns.length x.c2, .string ⟨x.ec.toArray⟩, .string ⟨x.en.toArray⟩, .string ⟨x.ed.toArray⟩]
def InOk (w : World) (x : InM) : Prop := x.i.ar.length ≤ x.c ∧ Rd w x.A (IL x.i.ar)
def MeOk (w : World) (x : MeM) : Prop := x.co.length ≤ x.c ∧ Rd w x.A (x.co.flatMap inC) ∧ ∀ y ∈ x.co, InOk w y
def ClOk (w : World) (x : ClM) : Prop := (x.is.length ≤ x.c1 ∧ Rd w x.A1 (SX x.is)) ∧ (x.fs.length ≤ x.c2 ∧ Rd w x.A2 (x.fs.flatMap fiC)) ∧ (x.ms.length ≤ x.c3 ∧ Rd w x.A3 (x.ms.flatMap meC)) ∧ ∀ y ∈ x.ms, MeOk w y
def PrOk (w : World) (x : PrM) : Prop := (x.cs.length ≤ x.c1 ∧ Rd w x.A1 (x.cs.flatMap clC)) ∧ (x.ns.length ≤ x.c2 ∧ Rd w x.A2 (SX x.ns)) ∧ ∀ y ∈ x.cs, ClOk w y
theorem InOk.below {w w' : World} {x : InM} (h : InOk w x) (hb : Below w.heap.size w w') : InOk w' x := ⟨h.1, h.2.below hb⟩
theorem MeOk.below {w w' : World} {x : MeM} (h : MeOk w x) (hb : Below w.heap.size w w') : MeOk w' x := ⟨h.1, h.2.1.below hb, fun y hy => (h.2.2 y hy).below hb⟩
theorem ClOk.below {w w' : World} {x : ClM} (h : ClOk w x) (hb : Below w.heap.size w w') : ClOk w' x := ⟨⟨h.1.1, h.1.2.below hb⟩, ⟨h.2.1.1, h.2.1.2.below hb⟩, ⟨h.2.2.1.1, h.2.2.1.2.below hb⟩, fun y hy => (h.2.2.2 y hy).below hb⟩
theorem PrOk.below {w w' : World} {x : PrM} (h : PrOk w x) (hb : Below w.heap.size w w') : PrOk w' x := ⟨⟨h.1.1, h.1.2.below hb⟩, ⟨h.2.1.1, h.2.1.2.below hb⟩, fun y hy => (h.2.2 y hy).below hb⟩
theorem flat_at {α : Type} {f : α → List Value} {k : Nat} (hf : ∀ x, (f x).length = k) : ∀ {l : List α} {i : Nat} {x : α} {t : Nat} {u : Value}, l[i]? = some x → (f x)[t]? = some u → (l.flatMap f)[i * k + t]? = some u
 | [], _, _, _, _, h, _ => by simp at h
 | y :: l, 0, x, t, u, h, hu => by
  simp at h; subst h
  rw [List.flatMap_cons, Nat.zero_mul, Nat.zero_add, List.getElem?_append_left (List.getElem?_eq_some_iff.1 hu).1]
  exact hu
 | y :: l, i + 1, x, t, u, h, hu => by
  rw [List.flatMap_cons, List.getElem?_append_right (by rw [hf, Nat.succ_mul]; omega), hf, show (i + 1) * k + t - k = i * k + t by rw [Nat.succ_mul]; omega]
  exact flat_at hf (by simpa using h) hu
theorem flat_cell {α : Type} {f : α → List Value} {k : Nat} (hf : ∀ x, (f x).length = k) (hk : 0 < k) {w : World} {A : Option Addr} {l : List α} (h : Rd w A (l.flatMap f)) {i : Nat} {x : α} (hi : l[i]? = some x) :
  ∃ a, A = some a ∧ a.block < w.heap.size ∧ (∀ u, (f x)[0]? = some u → w.cell? (a.add (i * k)) = some u) ∧ ∀ t u, 0 < t → (f x)[t]? = some u → w.cell? ⟨(a.add (i * k)).block, (a.add (i * k)).off + t, none⟩ = some u := by
 obtain ⟨u0, hu0⟩ : ∃ u, (f x)[0]? = some u := ⟨_, List.getElem?_eq_getElem (by rw [hf]; exact hk)⟩
 obtain ⟨a, rfl, hb, -⟩ := h.at_ (flat_at hf hi hu0)
 refine ⟨a, rfl, hb, fun u hu => ?_, fun t u ht hu => ?_⟩
 ·obtain ⟨a', e, _, hc⟩ := h.at_ (flat_at hf hi hu)
  cases e
  simpa using hc
 ·obtain ⟨a', e, _, hc⟩ := h.at_ (flat_at hf hi hu)
  cases e
  rw [← add_add] at hc
  have e2 : (a.add (i * k)).add t = ⟨(a.add (i * k)).block, (a.add (i * k)).off + t, none⟩ := by
   rw [Addr.add, if_neg (by omega)]
  rw [e2] at hc
  exact hc
section
variable {w : World} {A : Option Addr} {i : Nat}
theorem cl_at {l : List ClM} (h : Rd w A (l.flatMap clC)) {x : ClM} (hi : l[i]? = some x) : ∃ a, A = some a ∧ a.block < w.heap.size ∧ w.cell? (a.add (i * 7)) = some (.string ⟨x.nm.toArray⟩) ∧
  w.cell? ⟨(a.add (i * 7)).block, (a.add (i * 7)).off + 1, none⟩ = some (.string ⟨x.su.toArray⟩) ∧ w.cell? ⟨(a.add (i * 7)).block, (a.add (i * 7)).off + 2, none⟩ = some (.bool x.fc) ∧ w.cell? ⟨(a.add (i * 7)).block, (a.add (i * 7)).off + 3, none⟩ = some (.bool x.ab) ∧
  w.cell? ⟨(a.add (i * 7)).block, (a.add (i * 7)).off + 4, none⟩ = some (.slice x.A1 x.is.length x.c1) ∧ w.cell? ⟨(a.add (i * 7)).block, (a.add (i * 7)).off + 5, none⟩ = some (.slice x.A2 x.fs.length x.c2) ∧ w.cell? ⟨(a.add (i * 7)).block, (a.add (i * 7)).off + 6, none⟩ = some (.slice x.A3 x.ms.length x.c3) := by
 obtain ⟨a, rfl, hb, h0, h1⟩ := flat_cell (k := 7) (fun x => rfl) (by omega) h hi
 exact ⟨a, rfl, hb, h0 _ rfl, h1 1 _ (by omega) rfl, h1 2 _ (by omega) rfl, h1 3 _ (by omega) rfl, h1 4 _ (by omega) rfl, h1 5 _ (by omega) rfl, h1 6 _ (by omega) rfl⟩
end
section
variable {w : World} {b t : Nat} {fz : Nat × Nat}
theorem fi_cells {x : FiM} (h : w.heap[b]? = some (.cells (fiC x).toArray t fz)) : w.cell? ⟨b, 0, none⟩ = some (.string ⟨x.nm.toArray⟩) ∧ w.cell? ⟨b, 1, none⟩ = some (.int .i64 x.k) ∧ w.cell? ⟨b, 2, none⟩ = some (.string ⟨x.cl.toArray⟩) ∧ w.cell? ⟨b, 3, none⟩ = some (.bool x.st) :=
 ⟨cell_of_row _ _ 0 _ _ _ h, cell_of_row _ _ 1 _ _ _ h, cell_of_row _ _ 2 _ _ _ h, cell_of_row _ _ 3 _ _ _ h⟩
theorem cl_cells {x : ClM} (h : w.heap[b]? = some (.cells (clC x).toArray t fz)) : w.cell? ⟨b, 0, none⟩ = some (.string ⟨x.nm.toArray⟩) ∧ w.cell? ⟨b, 1, none⟩ = some (.string ⟨x.su.toArray⟩) ∧ w.cell? ⟨b, 2, none⟩ = some (.bool x.fc) ∧ w.cell? ⟨b, 3, none⟩ = some (.bool x.ab) ∧ w.cell? ⟨b, 4, none⟩ = some (.slice x.A1 x.is.length x.c1) ∧ w.cell? ⟨b, 5, none⟩ = some (.slice x.A2 x.fs.length x.c2) ∧ w.cell? ⟨b, 6, none⟩ = some (.slice x.A3 x.ms.length x.c3) :=
 ⟨cell_of_row _ _ 0 _ _ _ h, cell_of_row _ _ 1 _ _ _ h, cell_of_row _ _ 2 _ _ _ h, cell_of_row _ _ 3 _ _ _ h, cell_of_row _ _ 4 _ _ _ h, cell_of_row _ _ 5 _ _ _ h, cell_of_row _ _ 6 _ _ _ h⟩
theorem pr_cells {x : PrM} (h : w.heap[b]? = some (.cells (prC x).toArray t fz)) : w.cell? ⟨b, 0, none⟩ = some (.slice x.A1 x.cs.length x.c1) ∧ w.cell? ⟨b, 1, none⟩ = some (.slice x.A2 x.ns.length x.c2) ∧ w.cell? ⟨b, 2, none⟩ = some (.string ⟨x.ec.toArray⟩) ∧ w.cell? ⟨b, 3, none⟩ = some (.string ⟨x.en.toArray⟩) ∧ w.cell? ⟨b, 4, none⟩ = some (.string ⟨x.ed.toArray⟩) :=
 ⟨cell_of_row _ _ 0 _ _ _ h, cell_of_row _ _ 1 _ _ _ h, cell_of_row _ _ 2 _ _ _ h, cell_of_row _ _ 3 _ _ _ h, cell_of_row _ _ 4 _ _ _ h⟩
end
end Go.Proofs.Ytdifmgeicnndfaa.prg
namespace Go.Proofs.Ytdifmgeicnndfaa.sto
open Go.RowKit
open words kindp kind prg
set_option maxRecDepth 100000
set_option maxHeartbeats 8000000
set_option linter.all false
theorem ob_at {w : World} {A : Option Addr} {l : List ObM} (h : Rd w A (l.flatMap obC)) {i : Nat} {x : ObM} (hi : l[i]? = some x) : ∃ a, A = some a ∧ a.block < w.heap.size ∧ w.cell? (a.add (i * 4)) = some (.string ⟨x.cl.toArray⟩) ∧
  w.cell? ⟨(a.add (i * 4)).block, (a.add (i * 4)).off + 1, none⟩ = some (.map x.mp) ∧ w.cell? ⟨(a.add (i * 4)).block, (a.add (i * 4)).off + 2, none⟩ = some (.bool x.ar) ∧ w.cell? ⟨(a.add (i * 4)).block, (a.add (i * 4)).off + 3, none⟩ = some (.slice x.A x.n x.c) := by
 obtain ⟨a, rfl, hb, h0, h1⟩ := flat_cell (k := 4) (fun x => rfl) (by omega) h hi
 exact ⟨a, rfl, hb, h0 _ rfl, h1 1 _ (by omega) rfl, h1 2 _ (by omega) rfl, h1 3 _ (by omega) rfl⟩
theorem at_ok (sb : Nat) (os : List ObM) (rb : Option Nat) (i : Nat) (o : ObM) (ho : os[i]? = some o) (hl : os.length ≤ 256) (x : Int) (hx : x = (i : Int) + 1) (w : World) (H : StoM sb os rb w) :
  Calls Try.prog 63 #[.pointer (some ⟨sb, 0, none⟩), .int .i64 x] w fun e w' => e = .returned (.tuple #[.agg (obC o).toArray, .int .i64 0]) ∧ Below w.heap.size w w' := by
 obtain ⟨v, hv, hvb, hown⟩ := H
 obtain ⟨A, c, rfl, hnc, hcm, hrd⟩ := own_rd hown
 have hil := (List.getElem?_eq_some_iff.1 ho).1
 obtain ⟨n, hn⟩ : ∃ n, n = os.length := ⟨_, rfl⟩
 rw [← hn] at hv hl hil
 have hal := (Below.refl _ w).alloc (Nat.le_refl _) (.cells (obC obZ).toArray 130)
 obtain ⟨a, rfl, hab, p0, p1, p2, p3⟩ := ob_at hrd ho
 have c0 : (w.alloc (.cells (obC obZ).toArray 130)).cell? ⟨sb, 0, none⟩ = some (.slice (some a) n c) := cell_of_row _ _ 0 _ _ _ ((hal.block _ (blk_lt hv)).trans hv)
 obtain ⟨a', ea, _, q0, q1, q2, q3⟩ := ob_at (hrd.below hal) ho
 injection ea with ea
 subst ea
 have x0 : (x == 0) = false := by simp; omega
 have x1 : ¬ x < 0 := by omega
 have x2 : ¬ (n : Int) < x := by omega
 have x3 : IntKind.i64.wrap (x - 1) = (i : Int) := by rw [IntKind.wrap_i64]; omega
 have i0 : (i : Int) < (n : Int) := by omega
 have HAL := zh hal; have HX := zh hx
 unfold obC at c0 q0 q1 q2 q3 HAL ⊢
 dsimp only [obZ] at c0 q0 q1 q2 q3 HAL ⊢
 clear hown hrd hnc hcm hn hvb hv hal p0 p1 p2 p3 hx hl ho
 go_enter Try.func63, Try.ntmps63
 go_wp2
 exact bodyPost_ret (v := .tuple #[.agg #[.string ⟨o.cl.toArray⟩, .map o.mp, .bool o.ar, .slice o.A o.n o.c], .int .i64 0]) (by simp [results, Try.results63, go_sem]) rfl ⟨rfl, (Below.refl _ _).alloc (Nat.le_refl _) _⟩
theorem at_zero (sb : Nat) (w : World) :
  Calls Try.prog 63 #[.pointer (some ⟨sb, 0, none⟩), .int .i64 0] w fun e w' => e = .returned (.tuple #[.agg (obC obZ).toArray, .int .i64 2]) ∧ Below w.heap.size w w' := by
 unfold obC
 dsimp only [obZ]
 go_enter Try.func63, Try.ntmps63
 go_wp2
 exact bodyPost_ret (v := .tuple #[.agg #[.string ⟨#[]⟩, .map none, .bool false, .slice none 0 0], .int .i64 2]) (by simp [results, Try.results63, go_sem]) rfl ⟨rfl, by repeat (first | exact Below.refl _ _ | refine Below.setCell ?_ (by simp; try omega) _ | refine Below.alloc ?_ (by simp; try omega) _)⟩
theorem at_nil (x : Int) (w : World) :
  Calls Try.prog 63 #[.pointer none, .int .i64 x] w fun e w' => e = .returned (.tuple #[.agg (obC obZ).toArray, .int .i64 9]) ∧ Below w.heap.size w w' := by
 unfold obC
 dsimp only [obZ]
 go_enter Try.func63, Try.ntmps63
 go_wp2
 exact bodyPost_ret (v := .tuple #[.agg #[.string ⟨#[]⟩, .map none, .bool false, .slice none 0 0], .int .i64 9]) (by simp [results, Try.results63, go_sem]) rfl ⟨rfl, by repeat (first | exact Below.refl _ _ | refine Below.setCell ?_ (by simp; try omega) _ | refine Below.alloc ?_ (by simp; try omega) _)⟩
end Go.Proofs.Ytdifmgeicnndfaa.sto
namespace Go.Proofs.Ytdifmgeicnndfaa.sto
open Go.RowKit Go.MapKept Go.ChangeMaps
open words kindp kind prg
set_option maxRecDepth 100000
def kA : Value := .agg #[.string ⟨#[65]⟩, .string ⟨#[102]⟩]
def vA (x : Int) : Value := .agg #[.int .i64 1, .int .i64 x]
def mp0 : Obj := .map #[] 0
def mp1 (x : Int) : Obj := .map #[{ key := kA, val := vA x, born := 0 }] 1
theorem key_t (w : World) : (Instr.checkKey true 10000 67 kA).run Try.prog w = .ok () w := by kernel_rfl
theorem key_f (w : World) : (Instr.checkKey false 10000 67 kA).run Try.prog w = .ok () w := by kernel_rfl
theorem find_none (w : World) : (Instr.findKey 67 kA []).run Try.prog w = .ok none w := by kernel_rfl
theorem find_one (w : World) (v : Value) : (Instr.findKey 67 kA [{ key := kA, val := v, born := 0 }]).run Try.prog w = .ok (some (0, v)) w := by kernel_rfl
theorem stays (w : World) : (Instr.keyThatStays kA kA).run Try.prog w = .ok kA w := by kernel_rfl
variable {w : World} {b : Nat}
theorem look_none (h : w.heap[b]? = some mp0) : (Instr.lookup 128 (.map (some b)) kA true).run Try.prog w = .ok (.tuple #[.agg #[.int .i64 0, .int .i64 0], .bool false]) w := by
 simp [Instr.lookup, run_underlying Try.underlying128, MapKept.run_getObj_map h, key_t, find_none, Result.andThen]
theorem look_one {x : Int} (h : w.heap[b]? = some (mp1 x)) : (Instr.lookup 128 (.map (some b)) kA true).run Try.prog w = .ok (.tuple #[vA x, .bool true]) w := by
 simp [Instr.lookup, run_underlying Try.underlying128, MapKept.run_getObj_map h, key_f, find_one, Result.andThen]
theorem put_none {x : Int} (h : w.heap[b]? = some mp0) : (Instr.mapUpdate 128 (.map (some b)) kA (vA x)).run Try.prog w = .ok () (setBlock w b (mp1 x)) := by
 simp [Instr.mapUpdate, run_underlying Try.underlying128, MapKept.run_getObj_map h, MapKept.run_setObj_map _ h, key_f, find_none, Result.andThen, setBlock, mp1]
theorem put_one {x y : Int} (h : w.heap[b]? = some (mp1 x)) : (Instr.mapUpdate 128 (.map (some b)) kA (vA y)).run Try.prog w = .ok () (setBlock w b (mp1 y)) := by
 simp [Instr.mapUpdate, run_underlying Try.underlying128, MapKept.run_getObj_map h, MapKept.run_setObj_map _ h, key_f, find_one, stays, Result.andThen, setBlock, mp1]
theorem set_at {o : Obj} (h : b < w.heap.size) : (setBlock w b o).heap[b]? = some o := by simp [setBlock, h]
theorem set_off {o : Obj} {k : Nat} (h : k ≠ b) : (setBlock w b o).heap[k]? = w.heap[k]? := by simp [setBlock, Ne.symm h]
theorem set_size {o : Obj} : (setBlock w b o).heap.size = w.heap.size := by simp [setBlock]
end Go.Proofs.Ytdifmgeicnndfaa.sto
namespace Go.Proofs.Ytdifmgeicnndfaa.op
open Go.RowKit
open words kindp opp
end Go.Proofs.Ytdifmgeicnndfaa.op
namespace Go.Proofs.Ytdifmgeicnndfaa.op
open Go.RowKit Go.Shelf
open words kindp opp
attribute [local go_sem] Oper.semAt_some
end Go.Proofs.Ytdifmgeicnndfaa.op
namespace Go.Proofs.Ytdifmgeicnndfaa.op
open Go.RowKit Go.Shelf
open words kindp opp
attribute [local go_sem] Oper.semAt_some
theorem row_own2 {β : Type} (B : Nat) (cs : Array Value) (t : TypeId) (fz : Nat × Nat) : Own (fun (_ : β) W => W.heap[B]? = some (.cells cs t fz)) := by
 intro s A A' row h hg hr
 refine (hg.block B (Array.getElem?_eq_some_iff.1 h).1 (fun e => ?_)).trans h
 obtain ⟨o, ho, hc⟩ := hr B e.symm
 rw [h] at ho; cases ho; cases hc
end Go.Proofs.Ytdifmgeicnndfaa.op
namespace Go.Proofs.Ytdifmgeicnndfaa.op
open Go.RowKit
open words kindp opp kind
def nmL (c : Tx) : Bool := word.nameB ⟨c.toArray⟩
def formedB (i : In) : Bool := known i.o && (emptyB i (shapeL i.o) && ((!anyL (shapeL i.o) [67, 70, 77] || clsB i.cl) && (!anyL (shapeL i.o) [70, 77] || nmL i.nm)))
end Go.Proofs.Ytdifmgeicnndfaa.op
namespace Go.Proofs.Ytdifmgeicnndfaa.op
open Go.RowKit
open words kindp opp kind
def recv (o : Int) : Nat := if o = 20 ∨ o = 21 then 1 else 0
def descE (i : In) : Int :=
 if (splitT i.ds).2.2 ≠ 0 then 1 else if i.ar.length ≠ (splitT i.ds).1.length + recv i.o then 9 else if (splitT i.ds).2.1.1 = 1 ∧ i.a ≠ 0 then 12 else 0
end Go.Proofs.Ytdifmgeicnndfaa.op
namespace Go.Proofs.Ytdifmgeicnndfaa.op
open Go.RowKit
open words kindp opp kind
def countedB (i : In) (code : Int) : Bool := (!hasL (shapeL i.o) 116 || (decide (0 ≤ i.k) && decide (i.k < code))) && (!hasL (shapeL i.o) 114 || (decide (0 ≤ i.k) && decide (i.k ≤ 9)))
end Go.Proofs.Ytdifmgeicnndfaa.op
namespace Go.Proofs.Ytdifmgeicnndfaa.op
open Go.RowKit
open words kindp opp kind
end Go.Proofs.Ytdifmgeicnndfaa.op
namespace Go.Proofs.Ytdifmgeicnndfaa.op
open Go.RowKit Go.Shelf
open words kindp opp kind
attribute [local go_sem] Oper.semAt_some
def okR (regs : Int) (x : UInt8 × Int) : Bool := decide (0 ≤ x.2) && decide (x.2 < regs)
def fitsE (i : In) (regs code : Int) : Int :=
 if formedB i = false then 1 else if isCall i.o = true ∧ descE i ≠ 0 then descE i else if (regsL i).all (okR regs) = false then 12 else if countedB i code = false then 12 else 0
def FHeld (i : In) (A : Option Addr) (c : Nat) (regs : Int) (w : World) (N : Nat) (pre : List (UInt8 × Int)) (W : World) : Prop :=
 (W.heap[w.heap.size]? = some (.cells (InV i A c) 90 (0, 0)) ∧ W.heap[w.heap.size + 1]? = some (.cells #[.int .i64 regs] 3 (0, 0)) ∧ W.heap[w.heap.size + 1 + 1]? = some (.cells #[.int .i64 0] 44 (0, 0)) ∧
  W.heap[N]? = some (.cells (InV i A c) 90 (0, 0))) ∧ (∀ x ∈ pre, okR regs x = true) ∧ Below w.heap.size w W
theorem fheld_own (i : In) (A : Option Addr) (c : Nat) (regs : Int) (w : World) (N B : Nat) (hB : w.heap.size ≤ B) : OwnFrom B (FHeld i A c regs w N) :=
 OwnFrom.and (OwnFrom.and (Own.from (row_own2 _ _ _ _) _) (OwnFrom.and (Own.from (row_own2 _ _ _ _) _) (OwnFrom.and (Own.from (row_own2 _ _ _ _) _) (Own.from (row_own2 _ _ _ _) _)))) (OwnFrom.and (fun _ _ _ _ h _ _ => h) (ownFrom_below (Nat.le_refl _) hB))
end Go.Proofs.Ytdifmgeicnndfaa.op
namespace Go.Proofs.Ytdifmgeicnndfaa.op
open Go.RowKit
open words kindp opp kind
end Go.Proofs.Ytdifmgeicnndfaa.op
namespace Go.Proofs.Ytdifmgeicnndfaa.op
open Go.RowKit
open words kindp opp
end Go.Proofs.Ytdifmgeicnndfaa.op
namespace Go.Proofs.Ytdifmgeicnndfaa.op
open Go.RowKit
open words kindp opp kind
end Go.Proofs.Ytdifmgeicnndfaa.op
namespace Go.Proofs.Ytdifmgeicnndfaa.prg
open Go.RowKit
open words kindp opp op kind
def initT : Tx := [60, 99, 108, 105, 110, 105, 116, 62]
def memberB (s : Tx) : Bool := nmL s && !(s == initT)
def fieldB (f : FiM) : Bool := memberB f.nm && (rightT (f.k, f.cl) && !(f.k == 1))
def handedN (m : MeM) (n : Nat) : Nat := if m.st then n else n + 1
def codeB (m : MeM) : Bool := decide (0 < m.co.length) && (decide (m.co.length ≤ 256) && m.co.all fun x => fitsE x.i m.rg (m.co.length : Int) == 0)
def abstractB (m : MeM) : Bool := !m.st && (!(m.nm == initT) && (decide (m.co.length = 0) && m.rg == 0))
def concreteB (m : MeM) : Bool := decide ((handedN m (splitT m.ds).1.length : Int) ≤ m.rg) && (codeB m && (!(m.nm == initT) || (m.st && m.ds == [40, 41, 86])))
def headB (m : MeM) : Bool := decide ((splitT m.ds).2.2 = 0) && (nmL m.nm && (decide (0 ≤ m.rg) && decide (m.rg ≤ 32)))
def methodB (m : MeM) : Bool := headB m && (if m.ab = true then abstractB m else concreteB m)
def superB (c : ClM) : Bool := (c.su == []) || (!(c.su == c.nm) && clsB c.su)
def bareIfaceB (c : ClM) : Bool := c.ab && ((c.su == []) && (decide (c.fs.length = 0) && c.ms.all (·.ab)))
def classB (c : ClM) : Bool := clsB c.nm && (superB c && (c.is.all clsB && ((!c.fc || bareIfaceB c) && (c.fs.all fieldB && (c.ms.all methodB && (c.ab || !c.ms.any (·.ab)))))))
end Go.Proofs.Ytdifmgeicnndfaa.prg
namespace Go.Proofs.Ytdifmgeicnndfaa.prg
open Go.RowKit
open words kindp opp op kind
end Go.Proofs.Ytdifmgeicnndfaa.prg
namespace Go.Proofs.Ytdifmgeicnndfaa.word
open Go.RowKit
open num words give write
end Go.Proofs.Ytdifmgeicnndfaa.word
namespace Go.Proofs.Ytdifmgeicnndfaa.kind
open Go.RowKit
open words kindp word piece write
set_option maxRecDepth 100000
set_option maxHeartbeats 1600000
theorem size_data (s : ByteArray) : s.data.toList.length = s.size := by rw [Array.length_toList]; rfl
theorem at_data {s : ByteArray} {k : Nat} (h : k < s.size) : s.data.toList[k]? = some (s[k]'h) := by
 rw [List.getElem?_eq_getElem (by rw [size_data]; exact h)]; rfl
theorem drop_data {s : ByteArray} {k : Nat} (h : k < s.size) : s.data.toList.drop k = (s[k]'h) :: s.data.toList.drop (k + 1) := by
 have := at_data h
 rw [List.getElem?_eq_some_iff] at this
 obtain ⟨h1, h2⟩ := this
 rw [List.drop_eq_getElem_cons h1, h2]
theorem byte_nat {a : UInt8} {n : Nat} (h : a.toNat = n) : a = UInt8.ofNat n := by
 rw [← h]; simp
def Next (L : Tx) (at_ : Nat) (w : World) (e : Ending) (w' : World) : Prop :=
 (match typeT (L.drop at_) with
  | some (t, r) => ∃ to : Nat, to ≤ L.length ∧ at_ < to ∧ r = L.drop to ∧ e = .returned (.tuple #[tyV t, .int .i64 (to : Int), .bool true])
  | none => ∃ (t : Ty) (m : Nat), e = .returned (.tuple #[tyV t, .int .i64 (m : Int), .bool false])) ∧ Below w.heap.size w w'
theorem next_some {L r : Tx} {t : Ty} {at_ to : Nat} {w w' : World} {e : Ending} (h : typeT (L.drop at_) = some (t, r)) (h1 : to ≤ L.length) (h2 : at_ < to) (h3 : r = L.drop to) (he : e = .returned (.tuple #[tyV t, .int .i64 (to : Int), .bool true])) (hb : Below w.heap.size w w') : Next L at_ w e w' := by
 unfold Next; rw [h]; exact ⟨⟨to, h1, h2, h3, he⟩, hb⟩
theorem next_none {L : Tx} (t : Ty) {at_ : Nat} (m : Nat) {w w' : World} {e : Ending} (h : typeT (L.drop at_) = none) (he : e = .returned (.tuple #[tyV t, .int .i64 (m : Int), .bool false])) (hb : Below w.heap.size w w') : Next L at_ w e w' := by
 unfold Next; rw [h]; exact ⟨⟨t, m, he⟩, hb⟩
theorem next_one (s : ByteArray) (at_ : Nat) (w : World) (hs : s.size ≤ 281474976710656) (hat : at_ < s.size) (h91 : (s[at_]'hat).toNat ≠ 91) (h76 : (s[at_]'hat).toNat ≠ 76) :
  Calls Try.prog 165 #[.string s, .int .i64 (at_ : Int)] w (Next s.data.toList at_ w) := by
 have hI : (at_ : Int) < (s.size : Int) := by omega
 have hI2 : ¬ (s.size : Int) ≤ (at_ : Int) := by omega
 have hsI : (s.size : Int) ≤ 281474976710656 := by omega
 have b91 : (((s[at_]'hat).toNat : Int) == 91) = false := by simp; omega
 have b76 : (((s[at_]'hat).toNat : Int) == 76) = false := by simp; omega
 have hdr := drop_data hat
 have hlen := size_data s
 by_cases h86 : (s[at_]'hat).toNat = 86
 ·have b86 : (((s[at_]'hat).toNat : Int) == 86) = true := by rw [h86]; rfl
  have HT := zh (show typeT (s.data.toList.drop at_) = some ((1, []), s.data.toList.drop (at_ + 1)) by rw [hdr, byte_nat h86]; rfl)
  have HL := zh hlen; have HA := zh hat
  clear h86 hdr hlen h91 h76 hs
  go_enter Try.func165, Try.ntmps165
  go_wp2
  exact bodyPost_ret (v := .tuple #[.agg #[.int .i64 1, .string ⟨#[]⟩], .int .i64 ((at_ : Int) + 1), .bool true]) (by simp [results, Try.results165, go_sem]) rfl (next_some (to := at_ + 1) HT.out (by rw [HL.out]; have := HA.out; omega) (by omega) rfl rfl (by repeat (first | exact Below.refl _ _ | refine Below.setCell ?_ (by simp) _ | refine Below.alloc ?_ (by simp) _)))
 have b86 : (((s[at_]'hat).toNat : Int) == 86) = false := by simp; omega
 by_cases h73 : (s[at_]'hat).toNat = 73
 ·have b73 : (((s[at_]'hat).toNat : Int) == 73) = true := by rw [h73]; rfl
  have HT := zh (show typeT (s.data.toList.drop at_) = some ((2, []), s.data.toList.drop (at_ + 1)) by rw [hdr, byte_nat h73]; rfl)
  have HL := zh hlen; have HA := zh hat
  clear h86 h73 hdr hlen h91 h76 hs
  go_enter Try.func165, Try.ntmps165
  go_wp2
  exact bodyPost_ret (v := .tuple #[.agg #[.int .i64 2, .string ⟨#[]⟩], .int .i64 ((at_ : Int) + 1), .bool true]) (by simp [results, Try.results165, go_sem]) rfl (next_some (to := at_ + 1) HT.out (by rw [HL.out]; have := HA.out; omega) (by omega) rfl rfl (by repeat (first | exact Below.refl _ _ | refine Below.setCell ?_ (by simp) _ | refine Below.alloc ?_ (by simp) _)))
 have b73 : (((s[at_]'hat).toNat : Int) == 73) = false := by simp; omega
 have HT := zh (show typeT (s.data.toList.drop at_) = none by
  rw [hdr]; dsimp only [typeT]
  rw [if_neg (by intro e; rw [e] at h86; exact h86 rfl), if_neg (by intro e; rw [e] at h73; exact h73 rfl), if_neg (by intro e; rw [e] at h76; exact h76 rfl), if_neg (by intro e; rw [e] at h91; exact h91 rfl)])
 clear h86 h73 hdr hlen h91 h76 hs
 go_enter Try.func165, Try.ntmps165
 go_wp2
 exact bodyPost_ret (v := .tuple #[.agg #[.int .i64 0, .string ⟨#[]⟩], .int .i64 0, .bool false]) (by simp [results, Try.results165, go_sem]) rfl (next_none (0, []) 0 HT.out rfl (by repeat (first | exact Below.refl _ _ | refine Below.setCell ?_ (by simp) _ | refine Below.alloc ?_ (by simp) _)))
end Go.Proofs.Ytdifmgeicnndfaa.kind
namespace Go.Proofs.Ytdifmgeicnndfaa.kind
open Go.RowKit
open words kindp word
end Go.Proofs.Ytdifmgeicnndfaa.kind
namespace Go.Proofs.Ytdifmgeicnndfaa.kind
open Go.RowKit
open words kindp word rdr
end Go.Proofs.Ytdifmgeicnndfaa.kind
namespace Go.Proofs.Ytdifmgeicnndfaa.kind
open Go.RowKit
open words kindp word rdr
end Go.Proofs.Ytdifmgeicnndfaa.kind
namespace Go.Proofs.Ytdifmgeicnndfaa.kind
open Go.RowKit
open words kindp word rdr
end Go.Proofs.Ytdifmgeicnndfaa.kind
namespace Go.Proofs.Ytdifmgeicnndfaa.kind
open Go.RowKit
open words kindp word rdr piece
end Go.Proofs.Ytdifmgeicnndfaa.kind
namespace Go.Proofs.Ytdifmgeicnndfaa.kind
open Go.RowKit
open words kindp word rdr piece
end Go.Proofs.Ytdifmgeicnndfaa.kind
namespace Go.Proofs.Ytdifmgeicnndfaa.prg
open Go.RowKit
open words kindp opp op kind word
end Go.Proofs.Ytdifmgeicnndfaa.prg
namespace Go.Proofs.Ytdifmgeicnndfaa.prg
open Go.RowKit
open words kindp opp op kind word
end Go.Proofs.Ytdifmgeicnndfaa.prg
namespace Go.Proofs.Ytdifmgeicnndfaa.prg
open Go.RowKit
open words kindp opp op kind word
theorem sx_get {l : List Tx} {i : Nat} {x : Tx} (h : l[i]? = some x) : (SX l)[i]? = some (.string ⟨x.toArray⟩) := by simp [SX, h]
end Go.Proofs.Ytdifmgeicnndfaa.prg
namespace Go.Proofs.Ytdifmgeicnndfaa.prg
open Go.RowKit
open words kindp opp op kind word
end Go.Proofs.Ytdifmgeicnndfaa.prg
namespace Go.Proofs.Ytdifmgeicnndfaa.prg
open Go.RowKit
open words kindp opp op kind word
end Go.Proofs.Ytdifmgeicnndfaa.prg
namespace Go.Proofs.Ytdifmgeicnndfaa.prg
open Go.RowKit
open words kindp opp op kind word
end Go.Proofs.Ytdifmgeicnndfaa.prg
namespace Go.Proofs.Ytdifmgeicnndfaa.prg
open Go.RowKit
open words kindp opp op kind word
set_option maxRecDepth 100000
set_option maxHeartbeats 4000000
set_option linter.all false
theorem at_cl (x : ClM) (g : Nat) (s : Tx) (w : World) (hg : w.cell? ⟨g, 0, none⟩ = some (.string ⟨s.toArray⟩)) : Calls Try.prog 107 #[.agg (clC x).toArray, .pointer (some ⟨g, 0, none⟩)] w fun e w' => e = .returned (.bool (x.nm == s)) ∧ Below w.heap.size w w' := by
 obtain ⟨W, hW⟩ : ∃ W, W = w.alloc (.cells (clC x).toArray 43) := ⟨_, rfl⟩
 have hal : Below w.heap.size w W := by rw [hW]; exact (Below.refl _ w).alloc (Nat.le_refl _) _
 have HAL := zh hal
 have hblk : W.heap[w.heap.size]? = some (.cells (clC x).toArray 43 (0, 0)) := by rw [hW]; exact heap_alloc_new w _
 have HBK := zh hblk; have HLT := zh (blk_lt hblk)
 obtain ⟨x0_0, x0_1, x0_2, x0_3, x0_4, x0_5, x0_6⟩ := cl_cells hblk
 have K0 := zh (Below.refl W.heap.size W)
 have kg := (hal.cell (World.block_lt_of_cell? _ _ hg)).trans hg
 unfold clC at hW ⊢
 try dsimp only at hW ⊢
 have ke := kg
 rw [hW] at ke
 have HW := zh hW
 clear hal hblk hW
 cases h0 : (x.nm == s) with
 | false =>
  (try simp only [h0] at HW)
  go_enter Try.func107, Try.ntmps107
  go_wp2_with fail
  rw [← HW.out]
  (try go_wp2_with fail)
  go_ret
  exact ⟨by first | rfl | (simp only [h0, bls]; done) | (simp only [h0, bls]; rfl), HAL.out.trans (K0.out.mono HAL.out.size)⟩
 | true =>
  (try simp only [h0] at HW)
  go_enter Try.func107, Try.ntmps107
  go_wp2_with fail
  rw [← HW.out]
  (try go_wp2_with fail)
  go_ret
  exact ⟨by first | rfl | (simp only [h0, bls]; done) | (simp only [h0, bls]; rfl), HAL.out.trans (K0.out.mono HAL.out.size)⟩
theorem find_cl (g : Nat) (s : Tx) (A : Option Addr) (c : Nat) (l : List ClM) (w : World) (hr : Rd w A (l.flatMap clC)) (hl : l.length ≤ 281474976710656) (hg : w.cell? ⟨g, 0, none⟩ = some (.string ⟨s.toArray⟩)) :
  Calls Try.prog 106 #[.slice A l.length c, .func (.func 107) #[] #[.pointer (some ⟨g, 0, none⟩)]] w fun e w' => ∃ r, e = .returned (.int .i64 r) ∧ Idx (fun x : ClM => (x.nm == s)) l r ∧ Below w.heap.size w w' := by
 obtain ⟨n, hn⟩ : ∃ n, n = l.length := ⟨_, rfl⟩
 rw [← hn] at hl ⊢
 have hnI : (n : Int) ≤ 281474976710656 := by omega
 have HN := zh hn; have HRD := zh hr
 have HGG := zh hg
 clear hr hn hl
 go_enter Try.func106, Try.ntmps106
 go_wp2
 go_loopw [8] (fun i wr => ∃ k : Nat, i = .int .i64 (k : Int) ∧ k ≤ n ∧ (∀ t ∈ l.take k, (fun x : ClM => (x.nm == s)) t = false) ∧ Below w.heap.size w wr) (fun i _ => n - (intOf i).toNat)
 case atStart => exact ⟨0, rfl, Nat.zero_le _, by simp, Below.refl _ _⟩
 case round =>
  obtain ⟨k, rfl, hk, hall, hbw⟩ := hrel
  have HA := zh hall; have HB := zh hbw
  clear hall
  by_cases hlt : k < n
  ·have hltI : (k : Int) < (n : Int) := by omega
   obtain ⟨x, hx⟩ : ∃ x, l[k]? = some x := ⟨l[k]'(by rw [← HN.out]; exact hlt), List.getElem?_eq_getElem _⟩
   obtain ⟨a, rfl, ha, c0, c1, c2, c3, c4, c5, c6⟩ := cl_at (HRD.out.below hbw) hx
   have hgw := (hbw.cell (World.block_lt_of_cell? _ _ HGG.out)).trans HGG.out
   have HW := zh (at_cl x g s wr hgw)
   have HX := zh hx
   have hmt := take_more (P := (fun x : ClM => (x.nm == s))) HA.out hx
   dsimp only [clC] at HW
   cases hwr : (x.nm == s) with
   | true =>
    rw [hwr] at HW
    have HI := zh (show Idx (fun x : ClM => (x.nm == s)) l (k : Int) from .inr ⟨k, _, rfl, hx, hwr, HA.out⟩)
    clear hx hmt hwr hbw ha hgw
    go_wp2_with fail
    refine HW.out.mono ?_
    rintro e w1 ⟨rfl, hb1⟩
    have HB1 := zh (HB.out.trans (hb1.mono HB.out.size))
    clear hb1
    go_wp2
    go_ret
    exact ⟨_, rfl, HI.out, HB1.out⟩
   | false =>
    rw [hwr] at HW
    have HM := zh (hmt hwr)
    clear hx hmt hwr hbw ha hgw
    go_wp2_with fail
    refine HW.out.mono ?_
    rintro e w1 ⟨rfl, hb1⟩
    have HB1 := zh (HB.out.trans (hb1.mono HB.out.size))
    clear hb1
    go_wp2
    go_roundw
    case rel => exact ⟨k + 1, by go_num, by omega, HM.out, HB1.out⟩
    case measure => simp [intOf]; omega
  ·have hltI : ¬ (k : Int) < (n : Int) := by omega
   have hall := HA.out
   rw [List.take_of_length_le (by rw [← HN.out]; omega)] at hall
   have HI := zh (show Idx (fun x : ClM => (x.nm == s)) l (-1) from .inl ⟨rfl, hall⟩)
   clear hall hbw
   go_wp2
   go_ret
   exact ⟨_, rfl, HI.out, HB.out⟩
theorem place_cl (x : PrM) (s : Tx) (w : World) (hr : Rd w x.A1 (x.cs.flatMap clC)) (hl : x.cs.length ≤ 281474976710656) : Calls Try.prog 76 #[.agg (prC x).toArray, .string ⟨s.toArray⟩] w fun e w' => ∃ r, e = .returned (.int .i64 r) ∧ Idx (fun y : ClM => (y.nm == s)) x.cs r ∧ Below w.heap.size w w' := by
 have hmf : ∀ (fn : Fn) (first cap : Array Value) (w : World), (Instr.makeFunc fn first cap).run Try.prog w = .ok (.func fn first cap) w := fun _ _ _ _ => rfl
 obtain ⟨W, hW⟩ : ∃ W, W = ((w.alloc (.cells (prC x).toArray 27)).alloc (.cells #[.string ⟨s.toArray⟩] 9)) := ⟨_, rfl⟩
 have hal : Below w.heap.size w W := by rw [hW]; exact (((Below.refl _ w).alloc (Nat.le_refl _) (.cells (prC x).toArray 27)).alloc (by simp; try omega) (.cells #[.string ⟨s.toArray⟩] 9))
 have HAL := zh hal
 have hblk : W.heap[w.heap.size]? = some (.cells (prC x).toArray 27 (0, 0)) := by rw [hW]; exact (Below.heap_alloc _ _ _ (by simp; try omega)).trans (heap_alloc_new w _)
 have hg : W.cell? ⟨w.heap.size + 1, 0, none⟩ = some (.string ⟨s.toArray⟩) := by
  have h := heap_alloc_new (w.alloc (.cells (prC x).toArray 27)) (.cells #[.string ⟨s.toArray⟩] 9)
  rw [World.size_alloc] at h
  have h2 : W.heap[w.heap.size + 1]? = some (.cells #[.string ⟨s.toArray⟩] 9 (0, 0)) := by rw [hW]; exact h
  exact cell_of_row _ _ 0 _ _ _ h2
 obtain ⟨x0_0, x0_1, x0_2, x0_3, x0_4⟩ := pr_cells hblk
 have HF := zh (find_cl (w.heap.size + 1) s x.A1 x.c1 x.cs W (hr.below hal) hl hg)
 unfold prC at hW ⊢
 try dsimp only at hW ⊢
 have HW := zh hW
 clear hal hblk hW hr hl hg
 go_enter Try.func76, Try.ntmps76
 go_wp2_with fail
 try simp only [World.size_alloc, Nat.add_assoc, Nat.reduceAdd]
 rw [← HW.out]
 (try go_wp2_with fail)
 refine HF.out.mono ?_
 rintro e v ⟨r, rfl, hi, hb⟩
 have HI := zh hi; have HB := zh hb
 clear hi hb
 (try go_wp2_with fail)
 go_ret
 exact ⟨r, rfl, HI.out, HAL.out.trans (HB.out.mono HAL.out.size)⟩
end Go.Proofs.Ytdifmgeicnndfaa.prg
namespace Go.Proofs.Ytdifmgeicnndfaa.prg
open Go.RowKit
open words kindp opp op kind word
end Go.Proofs.Ytdifmgeicnndfaa.prg
namespace Go.Proofs.Ytdifmgeicnndfaa.prg
open Go.RowKit
open words kindp opp op kind word
end Go.Proofs.Ytdifmgeicnndfaa.prg
namespace Go.Proofs.Ytdifmgeicnndfaa.prg
open Go.RowKit
open words kindp opp op kind word
end Go.Proofs.Ytdifmgeicnndfaa.prg
namespace Go.Proofs.Ytdifmgeicnndfaa.prg
open Go.RowKit
open words kindp opp op kind word
end Go.Proofs.Ytdifmgeicnndfaa.prg
namespace Go.Proofs.Ytdifmgeicnndfaa.prg
open Go.RowKit
open words kindp opp op kind word
end Go.Proofs.Ytdifmgeicnndfaa.prg
namespace Go.Proofs.Ytdifmgeicnndfaa.prg
open Go.RowKit
open words kindp opp op kind word
def GrI (x : InM) : Prop := x.i.ar.length ≤ 60 ∧ x.i.cl.length ≤ 300 ∧ x.i.nm.length ≤ 300 ∧ x.i.ds.length ≤ 300
def GrM (m : MeM) : Prop := (m.co.length ≤ 300 ∧ m.nm.length ≤ 300 ∧ m.ds.length ≤ 300) ∧ ∀ x ∈ m.co, GrI x
def GrC (c : ClM) : Prop := (c.is.length ≤ 40 ∧ c.fs.length ≤ 40 ∧ c.ms.length ≤ 40 ∧ c.nm.length ≤ 300 ∧ c.su.length ≤ 300) ∧ ∀ m ∈ c.ms, GrM m
def GrP (p : PrM) : Prop := (p.cs.length ≤ 70 ∧ p.ns.length ≤ 70) ∧ ∀ c ∈ p.cs, GrC c
end Go.Proofs.Ytdifmgeicnndfaa.prg
namespace Go.Proofs.Ytdifmgeicnndfaa.prg
open Go.RowKit
open words kindp opp op kind word
end Go.Proofs.Ytdifmgeicnndfaa.prg
namespace Go.Proofs.Ytdifmgeicnndfaa.prg
open Go.RowKit
open words kindp opp op kind word
end Go.Proofs.Ytdifmgeicnndfaa.prg
namespace Go.Proofs.Ytdifmgeicnndfaa.prg
open Go.RowKit
open words kindp opp op kind word
set_option maxRecDepth 100000
set_option maxHeartbeats 8000000
set_option linter.all false
def findC (cs : List ClM) (s : Tx) : Option ClM := cs.find? fun y => y.nm == s
theorem idx_at {α : Type} {P : α → Bool} : ∀ {l : List α} {k : Nat} {x : α}, l[k]? = some x → P x = true → (∀ t ∈ l.take k, P t = false) → l.findIdx? P = some k ∧ l.find? P = some x
 | [], _, _, h, _, _ => by simp at h
 | y :: l, 0, x, h, hp, _ => by
  simp at h; subst h
  exact ⟨by simp [List.findIdx?_cons, hp], by simp [hp]⟩
 | y :: l, k + 1, x, h, hp, ha => by
  have hy : P y = false := ha y (by simp)
  obtain ⟨h1, h2⟩ := idx_at (l := l) (k := k) (x := x) (by simpa using h) hp (fun t ht => ha t (by simp [ht]))
  exact ⟨by simp [List.findIdx?_cons, hy, h1], by simp [hy, h2]⟩
theorem idx_no {α : Type} {P : α → Bool} {l : List α} (h : ∀ t ∈ l, P t = false) : l.findIdx? P = none ∧ l.find? P = none := by
 induction l with
 | nil => exact ⟨rfl, rfl⟩
 | cons y l ih =>
  have hy : P y = false := h y (by simp)
  obtain ⟨h1, h2⟩ := ih fun t ht => h t (by simp [ht])
  exact ⟨by simp [List.findIdx?_cons, hy, h1], by simp [hy, h2]⟩
theorem idx_two {α : Type} {P : α → Bool} {l : List α} {r : Int} (h : Idx P l r) : (r = -1 ∧ l.findIdx? P = none ∧ l.find? P = none) ∨ ∃ k x, r = ((k : Nat) : Int) ∧ l[k]? = some x ∧ P x = true ∧ l.findIdx? P = some k ∧ l.find? P = some x := by
 rcases h with ⟨rfl, h⟩ | ⟨k, x, rfl, hx, hp, ha⟩
 ·exact .inl ⟨rfl, idx_no h⟩
 ·exact .inr ⟨k, x, rfl, hx, hp, idx_at hx hp ha⟩
def supS (cs : List ClM) : Nat → Tx → List Tx → List Tx
 | 0, _, l => l
 | f + 1, s, l => match findC cs s with
  | none => l
  | some c => if l.contains s then l else supS cs f c.su (l ++ [s])
def supersL (cs : List ClM) (s : Tx) : List Tx := supS cs (cs.length + 1) s []
theorem len_sub {α : Type} [BEq α] [LawfulBEq α] : ∀ {l m : List α}, l.Nodup → (∀ x ∈ l, x ∈ m) → l.length ≤ m.length
 | [], _, _, _ => Nat.zero_le _
 | x :: l, m, hn, hs => by
  rw [List.nodup_cons] at hn
  have hx : x ∈ m := hs x (by simp)
  have h1 := len_sub (l := l) (m := m.erase x) hn.2 fun y hy => (List.mem_erase_of_ne (fun e => hn.1 (by rw [← e]; exact hy))).2 (hs y (by simp [hy]))
  rw [List.length_erase_of_mem hx] at h1
  have := List.length_pos_of_mem hx
  simp only [List.length_cons]; omega
theorem findC_nm {cs : List ClM} {s : Tx} {c : ClM} (h : findC cs s = some c) : c.nm = s ∧ c ∈ cs := by
 have h1 := List.find?_some h
 exact ⟨by simpa using h1, List.mem_of_find?_eq_some h⟩
def SupI (cs : List ClM) (L : List Tx) (s : Tx) (out : List Tx) (f : Nat) : Prop := supS cs f s out = L ∧ out.length + f = cs.length + 1 ∧ out.Nodup ∧ ∀ o ∈ out, (findC cs o).isSome = true
theorem SupI.start (cs : List ClM) (s : Tx) : SupI cs (supersL cs s) s [] (cs.length + 1) := ⟨rfl, by simp, List.nodup_nil, by simp⟩
theorem SupI.len {cs : List ClM} {L : List Tx} {s : Tx} {out : List Tx} {f : Nat} (h : SupI cs L s out f) : out.length ≤ cs.length := by
 have := len_sub (m := cs.map (·.nm)) h.2.2.1 fun o ho => by
  obtain ⟨c, hc⟩ := Option.isSome_iff_exists.1 (h.2.2.2 o ho)
  obtain ⟨e, hm⟩ := findC_nm hc
  exact List.mem_map.2 ⟨c, hm, e⟩
 simpa using this
theorem SupI.pos {cs : List ClM} {L : List Tx} {s : Tx} {out : List Tx} {f : Nat} (h : SupI cs L s out f) : ∃ g, f = g + 1 := by
 have := h.len; have := h.2.1
 exact ⟨f - 1, by omega⟩
theorem SupI.none {cs : List ClM} {L : List Tx} {s : Tx} {out : List Tx} {f : Nat} (h : SupI cs L s out f) (hn : findC cs s = none) : out = L := by
 obtain ⟨g, rfl⟩ := h.pos
 have := h.1; unfold supS at this; rw [hn] at this; exact this
theorem SupI.had {cs : List ClM} {L : List Tx} {s : Tx} {out : List Tx} {f : Nat} (h : SupI cs L s out f) (hn : out.contains s = true) : out = L := by
 obtain ⟨g, rfl⟩ := h.pos
 have := h.1; unfold supS at this; rw [hn] at this
 cases hf : findC cs s with
 | none => rw [hf] at this; exact this
 | some c => rw [hf] at this; simpa using this
theorem SupI.next {cs : List ClM} {L : List Tx} {s : Tx} {out : List Tx} {f : Nat} {c : ClM} (h : SupI cs L s out f) (hc : findC cs s = some c) (hn : out.contains s = false) : SupI cs L c.su (out ++ [s]) (f - 1) := by
 obtain ⟨g, rfl⟩ := h.pos
 have h1 := h.1; unfold supS at h1; rw [hc, hn] at h1
 have hm : s ∉ out := fun hm => by rw [List.contains_iff_mem.2 hm] at hn; cases hn
 refine ⟨by simpa using h1, by have := h.2.1; simp; omega, ?_, fun o ho => ?_⟩
 ·rw [List.nodup_append]; exact ⟨h.2.2.1, by simp, fun a ha b hb e => by simp at hb; subst hb; subst e; exact hm ha⟩
 ·rcases List.mem_append.1 ho with h2 | h2
  ·exact h.2.2.2 o h2
  ·simp at h2; subst h2; rw [hc]; rfl
theorem index_s (A : Option Addr) (c : Nat) (l : List Tx) (s : Tx) (w : World) (hr : Rd w A (SX l)) (hl : l.length ≤ 281474976710656) :
  Calls Try.prog 131 #[.slice A l.length c, .string ⟨s.toArray⟩] w fun e w' => ∃ r, e = .returned (.int .i64 r) ∧ Idx (fun y : Tx => s == y) l r ∧ Below w.heap.size w w' := by
 obtain ⟨n, hn⟩ : ∃ n, n = l.length := ⟨_, rfl⟩
 rw [← hn] at hl ⊢
 have hnI : (n : Int) ≤ 281474976710656 := by omega
 have HN := zh hn; have HRD := zh hr
 clear hr hn hl
 go_enter Try.func131, Try.ntmps131
 go_wp2
 go_loopw [8] (fun i wr => ∃ k : Nat, i = .int .i64 (k : Int) ∧ k ≤ n ∧ (∀ t ∈ l.take k, (fun y : Tx => s == y) t = false) ∧ Below w.heap.size w wr) (fun i _ => n - (intOf i).toNat)
 case atStart => exact ⟨0, rfl, Nat.zero_le _, by simp, Below.refl _ _⟩
 case round =>
  obtain ⟨k, rfl, hk, hall, hbw⟩ := hrel
  have HA := zh hall; have HB := zh hbw
  clear hall
  by_cases hlt : k < n
  ·have hltI : (k : Int) < (n : Int) := by omega
   obtain ⟨y, hy⟩ : ∃ y, l[k]? = some y := ⟨l[k]'(by rw [← HN.out]; exact hlt), List.getElem?_eq_getElem _⟩
   obtain ⟨a, rfl, _, hcell⟩ := (HRD.out.below hbw).at_ (sx_get hy)
   have hmt := take_more (P := (fun y : Tx => s == y)) HA.out hy
   cases hsy : (s == y) with
   | true =>
    have HI := zh (show Idx (fun y : Tx => s == y) l (k : Int) from .inr ⟨k, _, rfl, hy, hsy, HA.out⟩)
    clear hy hmt hbw
    go_wp2
    go_ret
    exact ⟨_, rfl, HI.out, HB.out⟩
   | false =>
    have HM := zh (hmt hsy)
    clear hy hmt hbw
    go_wp2
    go_roundw
    case rel => exact ⟨k + 1, by go_num, by omega, HM.out, HB.out⟩
    case measure => simp [intOf]; omega
  ·have hltI : ¬ (k : Int) < (n : Int) := by omega
   have hall := HA.out
   rw [List.take_of_length_le (by rw [← HN.out]; omega)] at hall
   have HI := zh (show Idx (fun y : Tx => s == y) l (-1) from .inl ⟨rfl, hall⟩)
   clear hall hbw
   go_wp2
   go_ret
   exact ⟨_, rfl, HI.out, HB.out⟩
theorem has_two {l : List Tx} {s : Tx} {r : Int} (h : Idx (fun y : Tx => s == y) l r) : (r = -1 ∧ l.contains s = false) ∨ ∃ k : Nat, r = (k : Int) ∧ l.contains s = true := by
 rcases h with ⟨rfl, h⟩ | ⟨k, x, rfl, hx, hp, -⟩
 ·refine .inl ⟨rfl, ?_⟩
  cases hc : l.contains s with
  | false => rfl
  | true => have := h s (List.contains_iff_mem.1 hc); simp at this
 ·refine .inr ⟨k, rfl, List.contains_iff_mem.2 ?_⟩
  have e : s = x := by simpa using hp
  rw [e]; exact List.mem_of_getElem? hx
theorem has_s (A : Option Addr) (c : Nat) (l : List Tx) (s : Tx) (w : World) (hr : Rd w A (SX l)) (hl : l.length ≤ 281474976710656) :
  Calls Try.prog 93 #[.slice A l.length c, .string ⟨s.toArray⟩] w fun e w' => e = .returned (.bool (l.contains s)) ∧ Below w.heap.size w w' := by
 have HIX := zh (index_s A c l s w hr hl)
 clear hr hl
 go_enter Try.func93, Try.ntmps93
 go_wp2_with fail
 refine HIX.out.mono ?_
 rintro e w' ⟨r, rfl, hi, hb⟩
 have HB := zh hb
 clear hb
 rcases has_two hi with ⟨rfl, h⟩ | ⟨k, rfl, h⟩
 ·clear hi
  go_wp2
  go_ret
  exact ⟨by rw [h]; first | rfl | simp, HB.out⟩
 ·have hk : (0 : Int) ≤ (k : Int) := by omega
  clear hi
  go_wp2
  go_ret
  exact ⟨by rw [h]; first | rfl | simp, HB.out⟩
def lenV : Value → Nat
 | .slice _ n _ => n
 | _ => 0
theorem infoSt : (Try.prog.info? 9).map (fun i => (i.zero, i.size, i.bytes)) = some (some (.string ⟨#[]⟩), 1, 16) := by kernel_rfl
def SupP (cs : List ClM) (s : Tx) (w : World) (e : Ending) (w' : World) : Prop := (∃ A c, e = .returned (.slice A (supersL cs s).length c) ∧ (supersL cs s).length ≤ c ∧ Rd w' A (SX (supersL cs s))) ∧ Below w.heap.size w w'
theorem supers_w (x : PrM) (s0 : Tx) (w : World) (hk : PrOk w x) (hg : GrP x) : Calls Try.prog 75 #[.agg (prC x).toArray, .string ⟨s0.toArray⟩] w (SupP x.cs s0 w) := by
 obtain ⟨i0, hi0, hz0, hz1, hz2⟩ := info_parts infoSt
 obtain ⟨cs, A1, c1, ns, A2, c2, ec, en, ed⟩ := x
 obtain ⟨L, hL⟩ : ∃ L, L = supersL cs s0 := ⟨_, rfl⟩
 have HS0 := zh (show SupI cs L s0 [] (cs.length + 1) from by rw [hL]; exact SupI.start _ _)
 unfold SupP
 dsimp only
 rw [← hL]
 clear hL
 obtain ⟨W, hW⟩ : ∃ W, W = w.alloc (.cells (prC ⟨cs, A1, c1, ns, A2, c2, ec, en, ed⟩).toArray 27) := ⟨_, rfl⟩
 have hal : Below w.heap.size w W := by rw [hW]; exact (Below.refl _ w).alloc (Nat.le_refl _) _
 have hblk : W.heap[w.heap.size]? = some (.cells (prC ⟨cs, A1, c1, ns, A2, c2, ec, en, ed⟩).toArray 27 (0, 0)) := by rw [hW]; exact heap_alloc_new w _
 have HAL := zh hal; have HBK := zh hblk; have HLT := zh (blk_lt hblk)
 have HPL := zh (fun (s : Tx) (v : World) (hv : Below W.heap.size W v) => place_cl ⟨cs, A1, c1, ns, A2, c2, ec, en, ed⟩ s v ((hk.1.2.below hal).below hv) (by have := hg.1.1; omega))
 have HRD := zh (fun (v : World) (hv : Below W.heap.size W v) => show Rd v A1 (cs.flatMap clC) from (hk.1.2.below hal).below hv)
 obtain ⟨n, hn⟩ : ∃ n, n = cs.length := ⟨_, rfl⟩
 have HN := zh hn
 have nI : (n : Int) ≤ 70 := by have : cs.length ≤ 70 := hg.1.1; omega
 have HCE := zh (show ∀ v : World, Below W.heap.size W v → v.cell? ⟨w.heap.size, 0, none⟩ = some (.slice A1 n c1) ∧ v.cell? ⟨w.heap.size, 1, none⟩ = some (.slice A2 ns.length c2) ∧ v.cell? ⟨w.heap.size, 2, none⟩ = some (.string ⟨ec.toArray⟩) ∧ v.cell? ⟨w.heap.size, 3, none⟩ = some (.string ⟨en.toArray⟩) ∧ v.cell? ⟨w.heap.size, 4, none⟩ = some (.string ⟨ed.toArray⟩) from fun v hv => by rw [hn]; exact pr_cells ((hv.block _ HLT.out).trans HBK.out))
 have HLE := zh (fun s out f (h : SupI cs L s out f) => show out.length ≤ n from by rw [hn]; exact h.len)
 unfold prC at hW HPL ⊢
 try dsimp only at hW HPL ⊢
 rw [← hn] at hW HPL ⊢
 have HW := zh hW
 obtain ⟨x0, x1, x2, x3, x4⟩ := HCE.out _ (Below.refl _ _)
 clear hal hblk hW hk hg hn
 go_enter Try.func75, Try.ntmps75
 go_wp2_with fail
 rw [← HW.out]
 (try go_wp2_with fail)
 clear x0 x1 x2 x3 x4
 refine (HPL.out s0 W (Below.refl _ _)).mono ?_
 rintro e w1 ⟨r, rfl, hix, hb1⟩
 have HX1 := zh hix; have HB1 := zh hb1
 clear hix hb1
 go_wp2_with fail
 go_loopw [1, 5, 6] (fun nm v a wr => ∃ (s : Tx) (out : List Tx) (f : Nat) (r : Int), nm = .string ⟨s.toArray⟩ ∧ a = .int .i64 r ∧ Idx (fun y : ClM => y.nm == s) cs r ∧ SupI cs L s out f ∧ wr.ownsRow W.heap.size 9 1 v out.length (SX out) ∧ Below W.heap.size W wr) (fun _ v _ _ => n + 1 - lenV v)
 case atStart => exact ⟨s0, [], _, r, rfl, rfl, HX1.out, HS0.out, World.ownsRow_nil _ _ _ _, HB1.out⟩
 case round =>
  obtain ⟨s, out, f, r, rfl, rfl, hix, hsi, hown, hbw⟩ := hrel
  obtain ⟨wa, hwa⟩ : ∃ u, u = wr := ⟨_, rfl⟩
  subst hwa
  obtain ⟨B, d, rfl, hnd, -, hrd⟩ := own_rd hown
  have HO := zh hown; have HB := zh hbw; have HSI := zh hsi
  have hol := HLE.out _ _ _ hsi
  have hsz := hbw.size
  have hoI : (out.length : Int) ≤ 70 := by omega
  have HHS := zh (has_s B d out s wa hrd (by omega))
  obtain ⟨m, hm⟩ : ∃ m, m = out.length := ⟨_, rfl⟩
  rw [← hm] at HO HHS hol hoI hnd ⊢
  have HM := zh hm
  have HRT := zh (fun (u : World) (hu : Below wa.heap.size wa u) (e : out = L) => show (∃ A c, Ending.returned (.slice B m d) = .returned (.slice A L.length c) ∧ L.length ≤ c ∧ Rd u A (SX L)) ∧ Below w.heap.size w u from ⟨⟨B, d, by rw [← e, hm], by rw [← e, ← hm]; exact hnd, by rw [← e]; exact hrd.below hu⟩, HAL.out.trans ((hbw.mono HAL.out.size).trans (hu.mono (Nat.le_trans HAL.out.size hsz)))⟩)
  rcases idx_two hix with ⟨rfl, -, hf⟩ | ⟨k, y, rfl, hy, -, -, hf⟩
  ·have HRE := zh (HRT.out wa (Below.refl _ _) (hsi.none hf))
   clear hix hsi hown hbw hrd hm hf
   go_wp2
   go_ret
   exact HRE.out
  ·cases hh : out.contains s with
   | true =>
    rw [hh] at HHS
    have HRE := zh (fun u hu => HRT.out u hu (hsi.had hh))
    have hkI : ((k : Int) != -1) = true := by simp
    clear hix hsi hown hbw hrd hm hf hh hy
    go_wp2_with fail
    refine HHS.out.mono ?_
    rintro e w2 ⟨rfl, hb2⟩
    have HB2 := zh hb2
    clear hb2
    go_wp2
    go_ret
    exact HRE.out _ HB2.out
   | false =>
    rw [hh] at HHS
    have HNX := zh (hsi.next hf hh)
    have hkI : ((k : Int) != -1) = true := by simp
    have hkn : k < n := by rw [HN.out]; exact (List.getElem?_eq_some_iff.1 hy).1
    have hknI : (k : Int) < (n : Int) := by omega
    have HY := zh hy
    obtain ⟨a, rfl, -⟩ := cl_at (HRD.out _ hbw) hy
    clear hix hsi hown hbw hrd hm hf hh hy HRT
    go_wp2_with fail
    refine HHS.out.mono ?_
    rintro e w2 ⟨rfl, hb2⟩
    have HB2 := zh (HB.out.trans (hb2.mono hsz))
    have HO2 := zh (own_below HO.out hb2)
    have hs2 := HB2.out.size
    clear hb2
    go_wp2_with (at_builtin; refine wpList_app _ rfl (.tmp 21) (.tmp 23) _ rfl W.heap.size 9 i0 _ 1 16 Try.underlying23 hi0 hz0 hz1 hz2 rfl (by omega) _ m (SX out) rfl (HO2.out.alloc _) _ 1 1 [_] rfl rfl (rd_blk (heap_alloc_new w2 _) (k := 1) rfl) (by simp [Value.oneCell']) (by simp only [maxLen]; omega) (by omega) (by first | (simp; omega) | omega) ?_; intro v3 w3 hown3 hg3 hb3 hat3; clear hg3 hat3; have HB3 := zh ((HB2.out.alloc hs2 _).trans hb3); obtain ⟨y0, y1, y2, y3, y4⟩ := HCE.out _ HB3.out; obtain ⟨a', ea, ha, q0, q1, q2, q3, q4, q5, q6⟩ := cl_at (HRD.out _ HB3.out) HY.out; cases ea)
    have hown4 : w3.ownsRow W.heap.size 9 1 v3 (out ++ [s]).length (SX (out ++ [s])) := by rw [SX_app, List.length_append, ← HM.out]; exact hown3
    have HO4 := zh hown4
    have hl3 : lenV v3 = m + 1 := by
     obtain ⟨B', d', rfl, -, -, -⟩ := own_rd hown3
     rfl
    have HL3 := zh hl3
    obtain ⟨z0, z1, z2, z3, z4⟩ := HCE.out _ HB3.out
    clear y0 y1 y2 y3 y4 q0 q1 q2 q3 q4 q5 q6 hown3 hown4 hb3 hl3
    try go_wp2_with fail
    refine (HPL.out y.su w3 HB3.out).mono ?_
    rintro e w4 ⟨r4, rfl, hix4, hb4⟩
    have HX4 := zh hix4
    have HB4 := zh (HB3.out.trans (hb4.mono HB3.out.size))
    have HO5 := zh (own_below HO4.out hb4)
    clear hb4 hix4 z0 z1 z2 z3 z4
    go_wp2
    go_roundw
    case rel => exact ⟨y.su, out ++ [s], _, r4, rfl, rfl, HX4.out, HNX.out, HO5.out, HB4.out⟩
    case measure => first | (rw [HL3.out]; simp only [lenV]; omega) | (simp [lenV] at HL3 ⊢; omega)
end Go.Proofs.Ytdifmgeicnndfaa.prg

/-
 Layer 8: programs in memory: their cells, what is said of them, and that it stays.
-/
import Derived.Test.YtgpfohpmgbnimaaOpB
import Derived.Test.YtgpfohpmgbnimaaKindG
namespace Go.Proofs.Ytgpfohpmgbnimaa.prg
open Go.RowKit
open words kindp opp op kind

/-- an instruction, and where its Args lie -/
structure InM where
 i : In
 A : Option Addr
 c : Nat
/-- a field -/
structure FiM where
 nm : Tx
 k : Int
 cl : Tx
 st : Bool
/-- a method, and where its code lies -/
structure MeM where
 nm : Tx
 ds : Tx
 st : Bool
 ab : Bool
 rg : Int
 co : List InM
 A : Option Addr
 c : Nat
/-- a class, and where its lists lie -/
structure ClM where
 nm : Tx
 su : Tx
 fc : Bool
 ab : Bool
 is : List Tx
 A1 : Option Addr
 c1 : Nat
 fs : List FiM
 A2 : Option Addr
 c2 : Nat
 ms : List MeM
 A3 : Option Addr
 c3 : Nat
/-- a program, and where its lists lie -/
structure PrM where
 cs : List ClM
 A1 : Option Addr
 c1 : Nat
 ns : List Tx
 A2 : Option Addr
 c2 : Nat
 ec : Tx
 en : Tx
 ed : Tx
/-- their cells -/
def inC (x : InM) : List Value := [.int .i64 x.i.o, .int .i64 x.i.a, .int .i64 x.i.b, .int .i64 x.i.c, .int .i64 x.i.k, .string ⟨x.i.cl.toArray⟩, .string ⟨x.i.nm.toArray⟩, .string ⟨x.i.ds.toArray⟩, .slice x.A x.i.ar.length x.c]
def fiC (x : FiM) : List Value := [.string ⟨x.nm.toArray⟩, .int .i64 x.k, .string ⟨x.cl.toArray⟩, .bool x.st]
def meC (x : MeM) : List Value := [.string ⟨x.nm.toArray⟩, .string ⟨x.ds.toArray⟩, .bool x.st, .bool x.ab, .int .i64 x.rg, .slice x.A x.co.length x.c]
def clC (x : ClM) : List Value := [.string ⟨x.nm.toArray⟩, .string ⟨x.su.toArray⟩, .bool x.fc, .bool x.ab, .slice x.A1 x.is.length x.c1, .slice x.A2 x.fs.length x.c2, .slice x.A3 x.ms.length x.c3]
def prC (x : PrM) : List Value := [.slice x.A1 x.cs.length x.c1, .slice x.A2 x.ns.length x.c2, .string ⟨x.ec.toArray⟩, .string ⟨x.en.toArray⟩, .string ⟨x.ed.toArray⟩]
/-- what lies behind them -/
def InOk (w : World) (x : InM) : Prop := x.i.ar.length ≤ x.c ∧ Rd w x.A (IL x.i.ar)
def MeOk (w : World) (x : MeM) : Prop := x.co.length ≤ x.c ∧ Rd w x.A (x.co.flatMap inC) ∧ ∀ y ∈ x.co, InOk w y
def ClOk (w : World) (x : ClM) : Prop := (x.is.length ≤ x.c1 ∧ Rd w x.A1 (SX x.is)) ∧ (x.fs.length ≤ x.c2 ∧ Rd w x.A2 (x.fs.flatMap fiC)) ∧ (x.ms.length ≤ x.c3 ∧ Rd w x.A3 (x.ms.flatMap meC)) ∧ ∀ y ∈ x.ms, MeOk w y
def PrOk (w : World) (x : PrM) : Prop := (x.cs.length ≤ x.c1 ∧ Rd w x.A1 (x.cs.flatMap clC)) ∧ (x.ns.length ≤ x.c2 ∧ Rd w x.A2 (SX x.ns)) ∧ ∀ y ∈ x.cs, ClOk w y
theorem InOk.below {w w' : World} {x : InM} (h : InOk w x) (hb : Below w.heap.size w w') : InOk w' x := ⟨h.1, h.2.below hb⟩
theorem MeOk.below {w w' : World} {x : MeM} (h : MeOk w x) (hb : Below w.heap.size w w') : MeOk w' x := ⟨h.1, h.2.1.below hb, fun y hy => (h.2.2 y hy).below hb⟩
theorem ClOk.below {w w' : World} {x : ClM} (h : ClOk w x) (hb : Below w.heap.size w w') : ClOk w' x := ⟨⟨h.1.1, h.1.2.below hb⟩, ⟨h.2.1.1, h.2.1.2.below hb⟩, ⟨h.2.2.1.1, h.2.2.1.2.below hb⟩, fun y hy => (h.2.2.2 y hy).below hb⟩
theorem PrOk.below {w w' : World} {x : PrM} (h : PrOk w x) (hb : Below w.heap.size w w') : PrOk w' x := ⟨⟨h.1.1, h.1.2.below hb⟩, ⟨h.2.1.1, h.2.1.2.below hb⟩, fun y hy => (h.2.2 y hy).below hb⟩
/-- how they are bounded -/
def InBd (x : InM) : Prop := x.i.ar.length ≤ 140737488351232 ∧ x.i.cl.length ≤ 140737488351232 ∧ x.i.nm.length ≤ 140737488351232 ∧ x.i.ds.length ≤ 140737488351232
def FiBd (x : FiM) : Prop := x.nm.length ≤ 140737488351232 ∧ x.cl.length ≤ 140737488351232
def MeBd (x : MeM) : Prop := x.nm.length ≤ 140737488351232 ∧ x.ds.length ≤ 140737488351232 ∧ x.co.length ≤ 140737488351232 ∧ ∀ y ∈ x.co, InBd y
def ClBd (x : ClM) : Prop := x.nm.length ≤ 140737488351232 ∧ x.su.length ≤ 140737488351232 ∧ (x.is.length ≤ 140737488351232 ∧ ∀ y ∈ x.is, y.length ≤ 140737488351232) ∧ (x.fs.length ≤ 140737488351232 ∧ ∀ y ∈ x.fs, FiBd y) ∧ (x.ms.length ≤ 140737488351232 ∧ ∀ y ∈ x.ms, MeBd y)
def PrBd (x : PrM) : Prop := (x.cs.length ≤ 140737488351232 ∧ ∀ y ∈ x.cs, ClBd y) ∧ (x.ns.length ≤ 140737488351232 ∧ ∀ y ∈ x.ns, y.length ≤ 140737488351232) ∧ x.ec.length ≤ 140737488351232 ∧ x.en.length ≤ 140737488351232 ∧ x.ed.length ≤ 140737488351232

/-! Rows of such cells. -/
theorem flat_len {α : Type} {f : α → List Value} {k : Nat} (hf : ∀ x, (f x).length = k) : ∀ l : List α, (l.flatMap f).length = l.length * k
 | [] => by simp
 | x :: l => by rw [List.flatMap_cons, List.length_append, hf, flat_len hf l, List.length_cons, Nat.succ_mul, Nat.add_comm]
theorem flat_at {α : Type} {f : α → List Value} {k : Nat} (hf : ∀ x, (f x).length = k) : ∀ {l : List α} {i : Nat} {x : α} {t : Nat} {u : Value}, l[i]? = some x → (f x)[t]? = some u → (l.flatMap f)[i * k + t]? = some u
 | [], _, _, _, _, h, _ => by simp at h
 | y :: l, 0, x, t, u, h, hu => by
  simp at h; subst h
  rw [List.flatMap_cons, Nat.zero_mul, Nat.zero_add, List.getElem?_append_left (List.getElem?_eq_some_iff.1 hu).1]
  exact hu
 | y :: l, i + 1, x, t, u, h, hu => by
  rw [List.flatMap_cons, List.getElem?_append_right (by rw [hf, Nat.succ_mul]; omega), hf, show (i + 1) * k + t - k = i * k + t by rw [Nat.succ_mul]; omega]
  exact flat_at hf (by simpa using h) hu
theorem flat_cell {α : Type} {f : α → List Value} {k : Nat} (hf : ∀ x, (f x).length = k) (hk : 0 < k) {w : World} {A : Option Addr} {l : List α} (h : Rd w A (l.flatMap f)) {i : Nat} {x : α} (hi : l[i]? = some x) :
  ∃ a, A = some a ∧ a.block < w.heap.size ∧ (∀ u, (f x)[0]? = some u → w.cell? (a.add (i * k)) = some u) ∧ ∀ t u, 0 < t → (f x)[t]? = some u → w.cell? ⟨(a.add (i * k)).block, (a.add (i * k)).off + t, none⟩ = some u := by
 obtain ⟨u0, hu0⟩ : ∃ u, (f x)[0]? = some u := ⟨_, List.getElem?_eq_getElem (by rw [hf]; exact hk)⟩
 obtain ⟨a, rfl, hb, -⟩ := h.at_ (flat_at hf hi hu0)
 refine ⟨a, rfl, hb, fun u hu => ?_, fun t u ht hu => ?_⟩
 ·obtain ⟨a', e, _, hc⟩ := h.at_ (flat_at hf hi hu)
  cases e
  simpa using hc
 ·obtain ⟨a', e, _, hc⟩ := h.at_ (flat_at hf hi hu)
  cases e
  rw [← add_add] at hc
  have e2 : (a.add (i * k)).add t = ⟨(a.add (i * k)).block, (a.add (i * k)).off + t, none⟩ := by
   rw [Addr.add, if_neg (by omega)]
  rw [e2] at hc
  exact hc
section
variable {w : World} {A : Option Addr} {i : Nat}
theorem in_at {l : List InM} (h : Rd w A (l.flatMap inC)) {x : InM} (hi : l[i]? = some x) : ∃ a, A = some a ∧ a.block < w.heap.size ∧ w.cell? (a.add (i * 9)) = some (.int .i64 x.i.o) ∧
  w.cell? ⟨(a.add (i * 9)).block, (a.add (i * 9)).off + 1, none⟩ = some (.int .i64 x.i.a) ∧ w.cell? ⟨(a.add (i * 9)).block, (a.add (i * 9)).off + 2, none⟩ = some (.int .i64 x.i.b) ∧ w.cell? ⟨(a.add (i * 9)).block, (a.add (i * 9)).off + 3, none⟩ = some (.int .i64 x.i.c) ∧
  w.cell? ⟨(a.add (i * 9)).block, (a.add (i * 9)).off + 4, none⟩ = some (.int .i64 x.i.k) ∧ w.cell? ⟨(a.add (i * 9)).block, (a.add (i * 9)).off + 5, none⟩ = some (.string ⟨x.i.cl.toArray⟩) ∧ w.cell? ⟨(a.add (i * 9)).block, (a.add (i * 9)).off + 6, none⟩ = some (.string ⟨x.i.nm.toArray⟩) ∧
  w.cell? ⟨(a.add (i * 9)).block, (a.add (i * 9)).off + 7, none⟩ = some (.string ⟨x.i.ds.toArray⟩) ∧ w.cell? ⟨(a.add (i * 9)).block, (a.add (i * 9)).off + 8, none⟩ = some (.slice x.A x.i.ar.length x.c) := by
 obtain ⟨a, rfl, hb, h0, h1⟩ := flat_cell (k := 9) (fun x => rfl) (by omega) h hi
 exact ⟨a, rfl, hb, h0 _ rfl, h1 1 _ (by omega) rfl, h1 2 _ (by omega) rfl, h1 3 _ (by omega) rfl, h1 4 _ (by omega) rfl, h1 5 _ (by omega) rfl, h1 6 _ (by omega) rfl, h1 7 _ (by omega) rfl, h1 8 _ (by omega) rfl⟩
theorem fi_at {l : List FiM} (h : Rd w A (l.flatMap fiC)) {x : FiM} (hi : l[i]? = some x) : ∃ a, A = some a ∧ a.block < w.heap.size ∧ w.cell? (a.add (i * 4)) = some (.string ⟨x.nm.toArray⟩) ∧
  w.cell? ⟨(a.add (i * 4)).block, (a.add (i * 4)).off + 1, none⟩ = some (.int .i64 x.k) ∧ w.cell? ⟨(a.add (i * 4)).block, (a.add (i * 4)).off + 2, none⟩ = some (.string ⟨x.cl.toArray⟩) ∧ w.cell? ⟨(a.add (i * 4)).block, (a.add (i * 4)).off + 3, none⟩ = some (.bool x.st) := by
 obtain ⟨a, rfl, hb, h0, h1⟩ := flat_cell (k := 4) (fun x => rfl) (by omega) h hi
 exact ⟨a, rfl, hb, h0 _ rfl, h1 1 _ (by omega) rfl, h1 2 _ (by omega) rfl, h1 3 _ (by omega) rfl⟩
theorem me_at {l : List MeM} (h : Rd w A (l.flatMap meC)) {x : MeM} (hi : l[i]? = some x) : ∃ a, A = some a ∧ a.block < w.heap.size ∧ w.cell? (a.add (i * 6)) = some (.string ⟨x.nm.toArray⟩) ∧
  w.cell? ⟨(a.add (i * 6)).block, (a.add (i * 6)).off + 1, none⟩ = some (.string ⟨x.ds.toArray⟩) ∧ w.cell? ⟨(a.add (i * 6)).block, (a.add (i * 6)).off + 2, none⟩ = some (.bool x.st) ∧ w.cell? ⟨(a.add (i * 6)).block, (a.add (i * 6)).off + 3, none⟩ = some (.bool x.ab) ∧
  w.cell? ⟨(a.add (i * 6)).block, (a.add (i * 6)).off + 4, none⟩ = some (.int .i64 x.rg) ∧ w.cell? ⟨(a.add (i * 6)).block, (a.add (i * 6)).off + 5, none⟩ = some (.slice x.A x.co.length x.c) := by
 obtain ⟨a, rfl, hb, h0, h1⟩ := flat_cell (k := 6) (fun x => rfl) (by omega) h hi
 exact ⟨a, rfl, hb, h0 _ rfl, h1 1 _ (by omega) rfl, h1 2 _ (by omega) rfl, h1 3 _ (by omega) rfl, h1 4 _ (by omega) rfl, h1 5 _ (by omega) rfl⟩
theorem cl_at {l : List ClM} (h : Rd w A (l.flatMap clC)) {x : ClM} (hi : l[i]? = some x) : ∃ a, A = some a ∧ a.block < w.heap.size ∧ w.cell? (a.add (i * 7)) = some (.string ⟨x.nm.toArray⟩) ∧
  w.cell? ⟨(a.add (i * 7)).block, (a.add (i * 7)).off + 1, none⟩ = some (.string ⟨x.su.toArray⟩) ∧ w.cell? ⟨(a.add (i * 7)).block, (a.add (i * 7)).off + 2, none⟩ = some (.bool x.fc) ∧ w.cell? ⟨(a.add (i * 7)).block, (a.add (i * 7)).off + 3, none⟩ = some (.bool x.ab) ∧
  w.cell? ⟨(a.add (i * 7)).block, (a.add (i * 7)).off + 4, none⟩ = some (.slice x.A1 x.is.length x.c1) ∧ w.cell? ⟨(a.add (i * 7)).block, (a.add (i * 7)).off + 5, none⟩ = some (.slice x.A2 x.fs.length x.c2) ∧ w.cell? ⟨(a.add (i * 7)).block, (a.add (i * 7)).off + 6, none⟩ = some (.slice x.A3 x.ms.length x.c3) := by
 obtain ⟨a, rfl, hb, h0, h1⟩ := flat_cell (k := 7) (fun x => rfl) (by omega) h hi
 exact ⟨a, rfl, hb, h0 _ rfl, h1 1 _ (by omega) rfl, h1 2 _ (by omega) rfl, h1 3 _ (by omega) rfl, h1 4 _ (by omega) rfl, h1 5 _ (by omega) rfl, h1 6 _ (by omega) rfl⟩
end
section
variable {w : World} {b t : Nat} {fz : Nat × Nat}
theorem fi_cells {x : FiM} (h : w.heap[b]? = some (.cells (fiC x).toArray t fz)) : w.cell? ⟨b, 0, none⟩ = some (.string ⟨x.nm.toArray⟩) ∧ w.cell? ⟨b, 1, none⟩ = some (.int .i64 x.k) ∧ w.cell? ⟨b, 2, none⟩ = some (.string ⟨x.cl.toArray⟩) ∧ w.cell? ⟨b, 3, none⟩ = some (.bool x.st) :=
 ⟨cell_of_row _ _ 0 _ _ _ h, cell_of_row _ _ 1 _ _ _ h, cell_of_row _ _ 2 _ _ _ h, cell_of_row _ _ 3 _ _ _ h⟩
theorem me_cells {x : MeM} (h : w.heap[b]? = some (.cells (meC x).toArray t fz)) : w.cell? ⟨b, 0, none⟩ = some (.string ⟨x.nm.toArray⟩) ∧ w.cell? ⟨b, 1, none⟩ = some (.string ⟨x.ds.toArray⟩) ∧ w.cell? ⟨b, 2, none⟩ = some (.bool x.st) ∧ w.cell? ⟨b, 3, none⟩ = some (.bool x.ab) ∧ w.cell? ⟨b, 4, none⟩ = some (.int .i64 x.rg) ∧ w.cell? ⟨b, 5, none⟩ = some (.slice x.A x.co.length x.c) :=
 ⟨cell_of_row _ _ 0 _ _ _ h, cell_of_row _ _ 1 _ _ _ h, cell_of_row _ _ 2 _ _ _ h, cell_of_row _ _ 3 _ _ _ h, cell_of_row _ _ 4 _ _ _ h, cell_of_row _ _ 5 _ _ _ h⟩
theorem cl_cells {x : ClM} (h : w.heap[b]? = some (.cells (clC x).toArray t fz)) : w.cell? ⟨b, 0, none⟩ = some (.string ⟨x.nm.toArray⟩) ∧ w.cell? ⟨b, 1, none⟩ = some (.string ⟨x.su.toArray⟩) ∧ w.cell? ⟨b, 2, none⟩ = some (.bool x.fc) ∧ w.cell? ⟨b, 3, none⟩ = some (.bool x.ab) ∧ w.cell? ⟨b, 4, none⟩ = some (.slice x.A1 x.is.length x.c1) ∧ w.cell? ⟨b, 5, none⟩ = some (.slice x.A2 x.fs.length x.c2) ∧ w.cell? ⟨b, 6, none⟩ = some (.slice x.A3 x.ms.length x.c3) :=
 ⟨cell_of_row _ _ 0 _ _ _ h, cell_of_row _ _ 1 _ _ _ h, cell_of_row _ _ 2 _ _ _ h, cell_of_row _ _ 3 _ _ _ h, cell_of_row _ _ 4 _ _ _ h, cell_of_row _ _ 5 _ _ _ h, cell_of_row _ _ 6 _ _ _ h⟩
theorem pr_cells {x : PrM} (h : w.heap[b]? = some (.cells (prC x).toArray t fz)) : w.cell? ⟨b, 0, none⟩ = some (.slice x.A1 x.cs.length x.c1) ∧ w.cell? ⟨b, 1, none⟩ = some (.slice x.A2 x.ns.length x.c2) ∧ w.cell? ⟨b, 2, none⟩ = some (.string ⟨x.ec.toArray⟩) ∧ w.cell? ⟨b, 3, none⟩ = some (.string ⟨x.en.toArray⟩) ∧ w.cell? ⟨b, 4, none⟩ = some (.string ⟨x.ed.toArray⟩) :=
 ⟨cell_of_row _ _ 0 _ _ _ h, cell_of_row _ _ 1 _ _ _ h, cell_of_row _ _ 2 _ _ _ h, cell_of_row _ _ 3 _ _ _ h, cell_of_row _ _ 4 _ _ _ h⟩
end
end Go.Proofs.Ytgpfohpmgbnimaa.prg

/-
 Layer 7: the registers that an instruction names, letter by letter; the registers that it reads: the program's answers.
-/
import Derived.RangeFuncNested
import Derived.RangeFuncBound
import Derived.RangeFuncCalls
import Derived.RangeFuncLeaves
import Derived.RangeFuncBox
import Derived.Shelf.Abstract
import Derived.Shelf.RegionOpen
import Derived.WalkKit
import Derived.OwnWalkIn
import Derived.TacticsInMore
import Derived.LoopNIn
import Derived.LoopIn
import Derived.Maps.AppendAt
import Derived.Test.YtgpfohpmgbnimaaOpS
/- Layer 7: the registers that an instruction has, in the order of its shape, yielded one by one: the program's iterator. -/
namespace Go.Proofs.Ytgpfohpmgbnimaa.op
open Go.RowKit Go.Shelf
open words kindp opp
attribute [local go_sem] Oper.semAt_some

def encR (x : UInt8 × Int) : Array Value := #[.int .i32 ((x.1.toNat : Nat) : Int), .int .i64 x.2]
/-- what a round that goes on keeps -/
def RK (n₀ b : Nat) (W W' : World) : Prop := Below n₀ W W' ∧ KeepsWalks W W' ∧ W'.heap[b]? = W.heap[b]?
theorem rk_t {n₀ b : Nat} {A B C : World} (h : RK n₀ b A B) (k : RK n₀ b B C) : RK n₀ b A C := ⟨h.1.trans k.1, h.2.1.trans k.2.1, k.2.2.trans h.2.2⟩
theorem rk_b {n₀ b : Nat} {w : World} (hn : n₀ ≤ w.heap.size) (hb : b < w.heap.size) (W : World) (l : Nat) (o o' : Obj) (hl : w.heap.size ≤ l) (h : W.heap[l]? = some o) (hc : o.isCells = false) (hw : o.isWalk = false) : RK n₀ b W (W.putObj l o') :=
 ⟨belowK_b hn W l o o' hl h hc hw, walksK_b (w := w) W l o o' hl h hc hw, (grownBy_putObj' W l o').block b (by have := (Array.getElem?_eq_some_iff.1 h).1; omega) (by intro e; cases e; omega)⟩
theorem grown_below {W W' : World} (h : Below W.heap.size W W') : W.grownBy W' none := ⟨h.os, h.tape, h.output, h.size, fun k hk _ => h.block k hk⟩
/-- what has come when so many letters are over -/
def flat (i : In) (s : Tx) : List (UInt8 × Int) := s.flatMap fun c => (lettered i c).map fun r => (c, r)
theorem flat_snoc (i : In) {s : Tx} {k : Nat} {x : UInt8} (h : s[k]? = some x) : flat i (s.take (k + 1)) = flat i (s.take k) ++ (lettered i x).map fun r => (x, r) := by
 unfold flat; rw [List.take_add_one, h]; simp
theorem flat_pre (i : In) (s : Tx) (k : Nat) : flat i (s.take k) <+: flat i s := by
 unfold flat
 conv => rhs; rw [← List.take_append_drop k s, List.flatMap_append]
 exact List.prefix_append _ _
theorem short_let {i : In} {x : UInt8} (h : x ≠ 118) : (lettered i x).length ≤ 1 := by
 unfold lettered
 split
 ·exact Nat.le_refl _
 split
 ·exact Nat.le_refl _
 split
 ·exact Nat.le_refl _
 exact Nat.zero_le _
theorem let_v (i : In) : lettered i 118 = i.ar := rfl

end Go.Proofs.Ytgpfohpmgbnimaa.op

/- Layer 7: the registers that an instruction reads: the program's answer. -/
namespace Go.Proofs.Ytgpfohpmgbnimaa.op
open Go.RowKit Go.Shelf
open words kindp opp
attribute [local go_sem] Oper.semAt_some

def useF (i : In) (pre : List (UInt8 × Int)) : List Int := (pre.filter fun x => decide (x.1 ≠ 97) || decide (i.o = 14)).map (·.2)
theorem useF_in {i : In} {pre : List (UInt8 × Int)} {x : UInt8 × Int} (h : (decide (x.1 ≠ 97) || decide (i.o = 14)) = true) : useF i (pre ++ [x]) = useF i pre ++ [x.2] := by
 unfold useF; rw [List.filter_append, List.filter_cons, if_pos h]; simp
theorem useF_out {i : In} {pre : List (UInt8 × Int)} {x : UInt8 × Int} (h : (decide (x.1 ≠ 97) || decide (i.o = 14)) = false) : useF i (pre ++ [x]) = useF i pre := by
 unfold useF; rw [List.filter_append, List.filter_cons, if_neg (by rw [h]; simp)]; simp
theorem useF_len (i : In) (pre : List (UInt8 × Int)) : (useF i pre).length ≤ pre.length := by
 unfold useF; rw [List.length_map]; exact List.length_filter_le _ _
theorem let_len (i : In) (x : UInt8) : (lettered i x).length ≤ 1 + i.ar.length := by
 by_cases h : x = 118
 ·rw [h, let_v]; omega
 ·have := short_let (i := i) h; omega
theorem regs_len (i : In) : (regsL i).length ≤ 4 * (1 + i.ar.length) := by
 have h4 := (shape_letters i.o).1
 have hh : ∀ s : Tx, (flat i s).length ≤ s.length * (1 + i.ar.length) := by
  intro s
  induction s with
  | nil => simp [flat]
  | cons c s ih =>
   have e : flat i (c :: s) = ((lettered i c).map fun r => (c, r)) ++ flat i s := by simp [flat]
   have := let_len i c
   rw [e, List.length_append, List.length_map, List.length_cons, Nat.succ_mul]
   omega
 have h5 := hh (shapeL i.o)
 have h6 := Nat.mul_le_mul_right (1 + i.ar.length) h4
 show (flat i (shapeL i.o)).length ≤ _
 omega
set_option maxRecDepth 100000 in
theorem infoI : (Try.prog.info? 3).map (fun i => (i.zero, i.size, i.bytes)) = some (some (.int .i64 0), 1, 8) := by kernel_rfl
/-- what holds between two rounds -/
def UHeld (i : In) (A : Option Addr) (c : Nat) (w : World) (pre : List (UInt8 × Int)) (W : World) : Prop :=
 ((∃ v, Boxed W (w.heap.size + 1) 53 v ∧ W.ownsRow w.heap.size 3 1 v (useF i pre).length (IL (useF i pre)) ∧ True) ∧
  (W.heap[w.heap.size]? = some (.cells (InV i A c) 55 (0, 0)) ∧ W.heap[w.heap.size + 1 + 1]? = some (.cells (InV i A c) 55 (0, 0)))) ∧ Below w.heap.size w W
theorem row_own2 {β : Type} (B : Nat) (cs : Array Value) (t : TypeId) (fz : Nat × Nat) : Own (fun (_ : β) W => W.heap[B]? = some (.cells cs t fz)) := by
 intro s A A' row h hg hr
 refine (hg.block B (Array.getElem?_eq_some_iff.1 h).1 (fun e => ?_)).trans h
 obtain ⟨o, ho, hc⟩ := hr B e.symm
 rw [h] at ho; cases ho; cases hc
theorem uheld_own (i : In) (A : Option Addr) (c : Nat) (w : World) (B : Nat) (hB : w.heap.size ≤ B) : OwnFrom B (UHeld i A c w) :=
 OwnFrom.and (OwnFrom.and (Own.from (holdsRow_own w.heap.size (w.heap.size + 1) 53 3 1 (fun pre => (useF i pre).length) (fun pre => IL (useF i pre)) (fun _ _ => True)) _)
  (OwnFrom.and (Own.from (row_own2 _ _ _ _) _) (Own.from (row_own2 _ _ _ _) _))) (ownFrom_below (Nat.le_refl _) hB)
/-- a block of another sort stays behind an append to one's own row -/
theorem row_kept2 {W w1 : World} {tmp : Obj} {base B C k size : Nat} {t e : TypeId} {v : Value} {xs : List Value} {cs : Array Value} {fz : Nat × Nat} (h : W.heap[B]? = some (.cells cs t fz)) (hte : t ≠ e)
  (hrow : W.ownsRow base e size v k xs) (hgrow : (W.alloc tmp).grownBy w1 v.ownBlock) (hne : B ≠ C) (v' : Value) : (w1.setCell ⟨C, 0, none⟩ v').heap[B]? = some (.cells cs t fz) := by
 have hlt := (Array.getElem?_eq_some_iff.1 h).1
 have ha : (W.alloc tmp).heap[B]? = some (.cells cs t fz) := (Below.heap_alloc W tmp B hlt).trans h
 have hnr : some B ≠ v.ownBlock := by
  rcases hrow.2 with ⟨rfl, _⟩ | ⟨g, cap, cur, rfl, _, hgb, _⟩
  ·simp [Value.ownBlock]
  ·intro e'
   obtain rfl : B = g := by simpa [Value.ownBlock] using e'
   rw [h] at hgb
   simp only [Option.some.injEq, Obj.cells.injEq] at hgb
   exact hte hgb.2.1
 have h1 : w1.heap[B]? = some (.cells cs t fz) := (hgrow.block B (Array.getElem?_eq_some_iff.1 ha).1 hnr).trans ha
 exact ((grownBy_setCell' w1 C v').block B (Array.getElem?_eq_some_iff.1 h1).1 (fun e => hne (by cases e; rfl))).trans h1
theorem walks_of {W W' : World} (h : KeepsOthers W W') : KeepsWalks W W' := ⟨h.size, fun k o hk ho => h.same k o hk (Obj.not_cells_of_walk ho)⟩
/-- what Uses answers -/
def UseP (i : In) (w : World) (e : Ending) (w' : World) : Prop :=
 (∃ A c, e = .returned (.slice A (usesL i).length c) ∧ Rd w' A (IL (usesL i))) ∧ Below w.heap.size w w'

end Go.Proofs.Ytgpfohpmgbnimaa.op

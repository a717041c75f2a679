/-
 Layer 7, of no program: instructions, their shapes, what they read and set, and where they fit.
-/
import Derived.Test.YtgpfohpmgbnimaaKindP
namespace Go.Proofs.Ytgpfohpmgbnimaa.opp
open kindp

/-- an instruction -/
structure In where
 o : Int
 a : Int
 b : Int
 c : Int
 k : Int
 cl : Tx
 nm : Tx
 ds : Tx
 ar : List Int
deriving DecidableEq
/-- the letters of each instruction's operands -/
def shapes : List Tx := [[], [], [97, 107], [97], [97, 98], [97, 98, 99, 114], [116], [98, 116], [98, 116], [97, 67], [97, 98], [97, 98, 67], [97, 98], [97, 98, 99], [97, 98, 99], [97, 98, 70], [98, 99, 70], [97, 70], [99, 70], [97, 77, 118], [97, 77, 118], [97, 77, 118], [98], [], [97, 98, 67], [97, 98, 67], [97], [98], [97, 98], [97, 98], [107], [98], [67]]
def known (o : Int) : Bool := decide (0 < o ∧ o ≤ 32)
def shapeL (o : Int) : Tx := if known o = true then shapes.getD o.toNat [] else []
def isCall (o : Int) : Bool := decide (o = 19 ∨ o = 20 ∨ o = 21)
/-- does a shape have a letter -/
def hasL (s : Tx) (c : UInt8) : Bool := s.contains c
def fallsB (o : Int) : Bool := known o && !decide (o = 6 ∨ o = 22 ∨ o = 23 ∨ o = 30)
/-- the instruction without what its shape has -/
def bareL (i : In) (s : Tx) : In where
 o := i.o
 a := if hasL s 97 then 0 else i.a
 b := if hasL s 98 then 0 else i.b
 c := if hasL s 99 then 0 else i.c
 k := if hasL s 107 || hasL s 116 || hasL s 114 then 0 else i.k
 cl := if hasL s 67 || hasL s 70 || hasL s 77 then [] else i.cl
 nm := if hasL s 70 || hasL s 77 then [] else i.nm
 ds := if hasL s 77 then [] else i.ds
 ar := if hasL s 118 then [] else i.ar
/-- a step of a letter -/
def bareS (i : In) (c : UInt8) : In :=
 if c = 97 then { i with a := 0 } else if c = 98 then { i with b := 0 } else if c = 99 then { i with c := 0 }
 else if c = 107 ∨ c = 116 ∨ c = 114 then { i with k := 0 } else if c = 67 then { i with cl := [] } else if c = 70 then { i with cl := [], nm := [] }
 else if c = 77 then { i with cl := [], nm := [], ds := [] } else if c = 118 then { i with ar := [] } else i
def emptyI (o : Int) : In := ⟨o, 0, 0, 0, 0, [], [], [], []⟩
theorem shape_cases {P : Int → Tx → Prop} (h0 : P 0 []) (h1 : P 1 []) (h2 : P 2 [97, 107]) (h3 : P 3 [97]) (h4 : P 4 [97, 98]) (h5 : P 5 [97, 98, 99, 114]) (h6 : P 6 [116]) (h7 : P 7 [98, 116]) (h8 : P 8 [98, 116]) (h9 : P 9 [97, 67]) (h10 : P 10 [97, 98]) (h11 : P 11 [97, 98, 67]) (h12 : P 12 [97, 98]) (h13 : P 13 [97, 98, 99]) (h14 : P 14 [97, 98, 99]) (h15 : P 15 [97, 98, 70]) (h16 : P 16 [98, 99, 70]) (h17 : P 17 [97, 70]) (h18 : P 18 [99, 70]) (h19 : P 19 [97, 77, 118]) (h20 : P 20 [97, 77, 118]) (h21 : P 21 [97, 77, 118]) (h22 : P 22 [98]) (h23 : P 23 []) (h24 : P 24 [97, 98, 67]) (h25 : P 25 [97, 98, 67]) (h26 : P 26 [97]) (h27 : P 27 [98]) (h28 : P 28 [97, 98]) (h29 : P 29 [97, 98]) (h30 : P 30 [107]) (h31 : P 31 [98]) (h32 : P 32 [67]) (hn : ∀ o : Int, known o = false → P o []) (o : Int) : P o (shapeL o) := by
 by_cases hk : known o = true
 ·have h1' := of_decide_eq_true hk
  obtain ⟨n, rfl⟩ : ∃ n : Nat, o = (n : Int) := ⟨o.toNat, by omega⟩
  have hn33 : n < 33 := by omega
  match n, hn33 with
  | 0, _ => exact h0
  | 1, _ => exact h1
  | 2, _ => exact h2
  | 3, _ => exact h3
  | 4, _ => exact h4
  | 5, _ => exact h5
  | 6, _ => exact h6
  | 7, _ => exact h7
  | 8, _ => exact h8
  | 9, _ => exact h9
  | 10, _ => exact h10
  | 11, _ => exact h11
  | 12, _ => exact h12
  | 13, _ => exact h13
  | 14, _ => exact h14
  | 15, _ => exact h15
  | 16, _ => exact h16
  | 17, _ => exact h17
  | 18, _ => exact h18
  | 19, _ => exact h19
  | 20, _ => exact h20
  | 21, _ => exact h21
  | 22, _ => exact h22
  | 23, _ => exact h23
  | 24, _ => exact h24
  | 25, _ => exact h25
  | 26, _ => exact h26
  | 27, _ => exact h27
  | 28, _ => exact h28
  | 29, _ => exact h29
  | 30, _ => exact h30
  | 31, _ => exact h31
  | 32, _ => exact h32
  | n + 33, h => exact absurd h (by omega)
 ·rw [Bool.not_eq_true] at hk
  unfold shapeL
  rw [hk]
  exact hn o hk
theorem fold_bare (i : In) : (shapeL i.o).foldl bareS i = bareL i (shapeL i.o) := by
 obtain ⟨o, a, b, c, k, cl, nm, ds, ar⟩ := i
 refine shape_cases (P := fun o s => s.foldl bareS ⟨o, a, b, c, k, cl, nm, ds, ar⟩ = bareL ⟨o, a, b, c, k, cl, nm, ds, ar⟩ s) ?_ ?_ ?_ ?_ ?_ ?_ ?_ ?_ ?_ ?_ ?_ ?_ ?_ ?_ ?_ ?_ ?_ ?_ ?_ ?_ ?_ ?_ ?_ ?_ ?_ ?_ ?_ ?_ ?_ ?_ ?_ ?_ ?_ ?_ o
 all_goals first | rfl | (intro o _; rfl)
def emptyB (i : In) (s : Tx) : Bool := decide (bareL i s = emptyI i.o)
/-- the registers that a letter tells -/
def lettered (i : In) (c : UInt8) : List Int := if c = 97 then [i.a] else if c = 98 then [i.b] else if c = 99 then [i.c] else if c = 118 then i.ar else []
def regsL (i : In) : List (UInt8 × Int) := (shapeL i.o).flatMap fun c => (lettered i c).map fun r => (c, r)
def usesL (i : In) : List Int := ((regsL i).filter fun x => decide (x.1 ≠ 97) || decide (i.o = 14)).map (·.2)
def nmB (s : Tx) (cls : Tx → Bool) : Bool := cls s
def setsL (i : In) : Int × Bool :=
 if hasL (shapeL i.o) 97 = false ∨ i.o = 14 then (0, false)
 else if isCall i.o = true ∧ ¬ ((splitT i.ds).2.2 = 0 ∧ (splitT i.ds).2.1.1 ≠ 1) then (0, false) else (i.a, true)
def targetL (i : In) : Int × Bool := if hasL (shapeL i.o) 116 = true ∧ 0 ≤ i.k ∧ i.k ≤ 256 then (i.k, true) else (0, false)
/-- the document's way to what it reads -/
def usesR (i : In) : List Int :=
 (if i.o = 14 then [i.a] else []) ++ ((if hasL (shapeL i.o) 98 then [i.b] else []) ++ ((if hasL (shapeL i.o) 99 then [i.c] else []) ++ (if hasL (shapeL i.o) 118 then i.ar else [])))
theorem uses_v (ar : List Int) (p : Bool) : ((ar.map fun r => ((118 : UInt8), r)).filter fun x => decide (x.1 ≠ 97) || p).map (·.2) = ar := by
 rw [List.filter_eq_self.2 (by intro x hx; obtain ⟨y, _, rfl⟩ := List.mem_map.1 hx; rfl), List.map_map]
 exact List.map_id'' (fun _ => rfl) _
theorem uses_same (i : In) : usesL i = usesR i := by
 obtain ⟨o, a, b, c, k, cl, nm, ds, ar⟩ := i
 unfold usesL usesR regsL
 have hv := uses_v ar
 refine shape_cases (P := fun o s => ((s.flatMap fun c_1 => (lettered ⟨o, a, b, c, k, cl, nm, ds, ar⟩ c_1).map fun r => (c_1, r)).filter fun x => decide (x.1 ≠ 97) || decide (o = 14)).map (·.2) = (if o = 14 then [a] else []) ++ ((if hasL s 98 then [b] else []) ++ ((if hasL s 99 then [c] else []) ++ (if hasL s 118 then ar else [])))) ?_ ?_ ?_ ?_ ?_ ?_ ?_ ?_ ?_ ?_ ?_ ?_ ?_ ?_ ?_ ?_ ?_ ?_ ?_ ?_ ?_ ?_ ?_ ?_ ?_ ?_ ?_ ?_ ?_ ?_ ?_ ?_ ?_ ?_ o
 case refine_34 =>
  intro o hk
  have : o ≠ 14 := by rintro rfl; cases hk
  simp [this, hasL]
 all_goals first | rfl | (simpa [lettered, hasL] using hv false)
theorem call_shape (o : Int) : hasL (shapeL o) 77 = isCall o := by
 refine shape_cases (P := fun o s => hasL s 77 = isCall o) ?_ ?_ ?_ ?_ ?_ ?_ ?_ ?_ ?_ ?_ ?_ ?_ ?_ ?_ ?_ ?_ ?_ ?_ ?_ ?_ ?_ ?_ ?_ ?_ ?_ ?_ ?_ ?_ ?_ ?_ ?_ ?_ ?_ ?_ o
 case refine_34 =>
  intro o hk
  unfold known at hk; rw [decide_eq_false_iff_not] at hk
  unfold isCall; rw [decide_eq_false (by omega)]; rfl
 all_goals rfl
theorem jump_shape (o : Int) : hasL (shapeL o) 116 = decide (o = 6 ∨ o = 7 ∨ o = 8) := by
 refine shape_cases (P := fun o s => hasL s 116 = decide (o = 6 ∨ o = 7 ∨ o = 8)) ?_ ?_ ?_ ?_ ?_ ?_ ?_ ?_ ?_ ?_ ?_ ?_ ?_ ?_ ?_ ?_ ?_ ?_ ?_ ?_ ?_ ?_ ?_ ?_ ?_ ?_ ?_ ?_ ?_ ?_ ?_ ?_ ?_ ?_ o
 case refine_34 =>
  intro o hk
  unfold known at hk; rw [decide_eq_false_iff_not] at hk
  rw [decide_eq_false (by omega)]; rfl
 all_goals rfl
theorem shape_letters (o : Int) : (shapeL o).length ≤ 4 ∧ ∀ c ∈ shapeL o, c.toNat < 128 := by
 refine shape_cases (P := fun _ s => s.length ≤ 4 ∧ ∀ c ∈ s, c.toNat < 128) ?_ ?_ ?_ ?_ ?_ ?_ ?_ ?_ ?_ ?_ ?_ ?_ ?_ ?_ ?_ ?_ ?_ ?_ ?_ ?_ ?_ ?_ ?_ ?_ ?_ ?_ ?_ ?_ ?_ ?_ ?_ ?_ ?_ ?_ o
 case refine_34 => intro o _; simp
 all_goals decide
end Go.Proofs.Ytgpfohpmgbnimaa.opp

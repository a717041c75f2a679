/-
 Layer 7: an instruction in memory; whether two are the same; and one without what its shape has: the program's answers.
-/
import Derived.Test.YtgpfohpmgbnimaaOp
import Derived.Deep.QuietTactic
import Derived.BigQuiet
namespace Go.Proofs.Ytgpfohpmgbnimaa.op
open Go.RowKit
open words kindp opp

/-- integers as cells -/
def IL (l : List Int) : List Value := l.map fun z => Value.int .i64 z
theorem IL_len (l : List Int) : (IL l).length = l.length := by simp [IL]
theorem IL_app (l r : List Int) : IL (l ++ r) = IL l ++ IL r := by simp [IL]
theorem IL_at {l : List Int} {j : Nat} {c : Int} (h : l[j]? = some c) : (IL l)[j]? = some (.int .i64 c) := by simp [IL, h]
theorem IL_one (l : List Int) : ∀ u ∈ IL l, u.oneCell' = true := by
 intro u hu
 obtain ⟨x, _, rfl⟩ := List.mem_map.1 hu
 rfl
/-- an instruction's cells -/
def InV (i : In) (A : Option Addr) (c : Nat) : Array Value := #[.int .i64 i.o, .int .i64 i.a, .int .i64 i.b, .int .i64 i.c, .int .i64 i.k, .string ⟨i.cl.toArray⟩, .string ⟨i.nm.toArray⟩, .string ⟨i.ds.toArray⟩, .slice A i.ar.length c]

/-- a step of a range over a string, wherever its place lies -/
theorem next_at {P : Program} (w : World) (b : Nat) (l : Tx) (pos : Nat) (x : UInt8) (hb : w.heap[b]? = some (.stringIter ⟨l.toArray⟩ pos)) (hx : l[pos]? = some x) (ha : x.toNat < 128) :
  ∃ w1, (∀ ty, (Instr.next (.pointer (some ⟨b, 0, none⟩)) true ty).run P w = .ok (.tuple #[.bool true, .int .i64 (pos : Int), .int .i32 ((x.toNat : Nat) : Int)]) w1) ∧ w1.heap[b]? = some (.stringIter ⟨l.toArray⟩ (pos + 1)) ∧ w1.heap.size = w.heap.size ∧
   (∀ g, g ≠ b → w1.heap[g]? = w.heap[g]?) ∧ (∀ B, B ≤ b → Below B w w1) := by
 have hlt := blk_lt hb
 obtain ⟨h0, h1⟩ := List.getElem?_eq_some_iff.1 hx
 have hsz : (⟨l.toArray⟩ : ByteArray).size = l.length := by show l.toArray.size = _; simp
 have h : pos < (⟨l.toArray⟩ : ByteArray).size := by rw [hsz]; exact h0
 have he : (⟨l.toArray⟩ : ByteArray)[pos]'h = x := by rw [← h1]; rfl
 refine ⟨{ w with heap := w.heap.setIfInBounds b (.stringIter ⟨l.toArray⟩ (pos + 1)) }, fun ty => ?_, ?_, ?_, ?_, ?_⟩
 ·simp only [Instr.next, getObj, setObj, Sem.run_bind, Sem.run, hb, Result.andThen, h, if_true, decode_ascii _ pos h (by rw [he]; exact ha), he]
  simp [goInt]
 ·simp [hlt]
 ·simp
 ·intro g hg; simp [Ne.symm hg]
 ·intro B hB
  exact ⟨rfl, rfl, rfl, by simp, fun k hk => by show (w.heap.setIfInBounds b _)[k]? = _; simp [show b ≠ k by omega]⟩
theorem next_none {P : Program} (w : World) (b : Nat) (l : Tx) (pos : Nat) (hb : w.heap[b]? = some (.stringIter ⟨l.toArray⟩ pos)) (h : l.length ≤ pos) (ty : TypeId) :
  (Instr.next (.pointer (some ⟨b, 0, none⟩)) true ty).run P w = .ok (.tuple #[.bool false]) w := by
 have hsz : (⟨l.toArray⟩ : ByteArray).size = l.length := by show l.toArray.size = _; simp
 have h2 : ¬ pos < (⟨l.toArray⟩ : ByteArray).size := by rw [hsz]; omega
 simp [Instr.next, getObj, Sem.run, hb, h2]
section
variable {w : World} {b t : Nat} {j : In} {A : Option Addr} {c : Nat}
theorem set_a (h : w.heap[b]? = some (.cells (InV j A c) t (0, 0))) : (w.setCell ⟨b, 1, none⟩ (.int .i64 0)).heap[b]? = some (.cells (InV { j with a := 0 } A c) t (0, 0)) := heap_setCell_same _ _ 1 _ _ _ h
theorem set_b (h : w.heap[b]? = some (.cells (InV j A c) t (0, 0))) : (w.setCell ⟨b, 2, none⟩ (.int .i64 0)).heap[b]? = some (.cells (InV { j with b := 0 } A c) t (0, 0)) := heap_setCell_same _ _ 2 _ _ _ h
theorem set_c (h : w.heap[b]? = some (.cells (InV j A c) t (0, 0))) : (w.setCell ⟨b, 3, none⟩ (.int .i64 0)).heap[b]? = some (.cells (InV { j with c := 0 } A c) t (0, 0)) := heap_setCell_same _ _ 3 _ _ _ h
theorem set_k (h : w.heap[b]? = some (.cells (InV j A c) t (0, 0))) : (w.setCell ⟨b, 4, none⟩ (.int .i64 0)).heap[b]? = some (.cells (InV { j with k := 0 } A c) t (0, 0)) := heap_setCell_same _ _ 4 _ _ _ h
theorem set_cl (h : w.heap[b]? = some (.cells (InV j A c) t (0, 0))) : (w.setCell ⟨b, 5, none⟩ (.string ⟨#[]⟩)).heap[b]? = some (.cells (InV { j with cl := [] } A c) t (0, 0)) := heap_setCell_same _ _ 5 _ _ _ h
theorem set_nm (h : w.heap[b]? = some (.cells (InV j A c) t (0, 0))) : (w.setCell ⟨b, 6, none⟩ (.string ⟨#[]⟩)).heap[b]? = some (.cells (InV { j with nm := [] } A c) t (0, 0)) := heap_setCell_same _ _ 6 _ _ _ h
theorem set_ds (h : w.heap[b]? = some (.cells (InV j A c) t (0, 0))) : (w.setCell ⟨b, 7, none⟩ (.string ⟨#[]⟩)).heap[b]? = some (.cells (InV { j with ds := [] } A c) t (0, 0)) := heap_setCell_same _ _ 7 _ _ _ h
theorem set_as (h : w.heap[b]? = some (.cells (InV j A c) t (0, 0))) : (w.setCell ⟨b, 8, none⟩ (.slice none 0 0)).heap[b]? = some (.cells (InV { j with ar := [] } none 0) t (0, 0)) := heap_setCell_same _ _ 8 _ _ _ h
end
/-- an instruction stored into its own block -/
def put9 (w : World) (b : Nat) (j : In) (A : Option Addr) (c : Nat) : World :=
 ((((((((w.setCell ⟨b, 0, none⟩ (.int .i64 j.o)).setCell ⟨b, 1, none⟩ (.int .i64 j.a)).setCell ⟨b, 2, none⟩ (.int .i64 j.b)).setCell ⟨b, 3, none⟩ (.int .i64 j.c)).setCell ⟨b, 4, none⟩ (.int .i64 j.k)).setCell
  ⟨b, 5, none⟩ (.string ⟨j.cl.toArray⟩)).setCell ⟨b, 6, none⟩ (.string ⟨j.nm.toArray⟩)).setCell ⟨b, 7, none⟩ (.string ⟨j.ds.toArray⟩)).setCell ⟨b, 8, none⟩ (.slice A j.ar.length c)
theorem put9_heap {w : World} {b t : Nat} {i j : In} {A C : Option Addr} {c d : Nat} (h : w.heap[b]? = some (.cells (InV i C d) t (0, 0))) : (put9 w b j A c).heap[b]? = some (.cells (InV j A c) t (0, 0)) := by
 have h0 := heap_setCell_same _ _ 0 _ _ (.int .i64 j.o) h
 have h1 := heap_setCell_same _ _ 1 _ _ (.int .i64 j.a) h0
 have h2 := heap_setCell_same _ _ 2 _ _ (.int .i64 j.b) h1
 have h3 := heap_setCell_same _ _ 3 _ _ (.int .i64 j.c) h2
 have h4 := heap_setCell_same _ _ 4 _ _ (.int .i64 j.k) h3
 have h5 := heap_setCell_same _ _ 5 _ _ (.string ⟨j.cl.toArray⟩) h4
 have h6 := heap_setCell_same _ _ 6 _ _ (.string ⟨j.nm.toArray⟩) h5
 have h7 := heap_setCell_same _ _ 7 _ _ (.string ⟨j.ds.toArray⟩) h6
 have h8 := heap_setCell_same _ _ 8 _ _ (.slice A j.ar.length c) h7
 unfold put9
 rw [h8]
 simp [InV]
theorem put9_below {w : World} {b B : Nat} {j : In} {A : Option Addr} {c : Nat} (hB : B ≤ b) : Below B w (put9 w b j A c) :=
 (((((((((Below.refl B w).setCell (p := ⟨b, 0, none⟩) hB _).setCell (p := ⟨b, 1, none⟩) hB _).setCell (p := ⟨b, 2, none⟩) hB _).setCell (p := ⟨b, 3, none⟩) hB _).setCell (p := ⟨b, 4, none⟩) hB _).setCell (p := ⟨b, 5, none⟩) hB _).setCell (p := ⟨b, 6, none⟩) hB _).setCell (p := ⟨b, 7, none⟩) hB _).setCell (p := ⟨b, 8, none⟩) hB _
/-- what holds between two rounds of bare -/
def BInv (i : In) (L : Tx) (w : World) (pos : Nat) (wr : World) : Prop :=
 ∃ j A' c', (L.take pos).foldl bareS i = j ∧ wr.heap[w.heap.size]? = some (.cells (InV j A' c') 55 (0, 0)) ∧ Rd w A' (IL j.ar) ∧ j.ar.length ≤ c' ∧
  wr.heap[w.heap.size + 1]? = some (.cells (InV (emptyI 0) none 0) 55 (0, 0)) ∧ wr.heap[w.heap.size + 1 + 1]? = some (.stringIter ⟨L.toArray⟩ pos) ∧ Below w.heap.size w wr
theorem in_cells {w : World} {b t : Nat} {j : In} {A : Option Addr} {c : Nat} {fz : Nat × Nat} (h : w.heap[b]? = some (.cells (InV j A c) t fz)) :
  w.cell? ⟨b, 0, none⟩ = some (.int .i64 j.o) ∧ w.cell? ⟨b, 1, none⟩ = some (.int .i64 j.a) ∧ w.cell? ⟨b, 2, none⟩ = some (.int .i64 j.b) ∧ w.cell? ⟨b, 3, none⟩ = some (.int .i64 j.c) ∧ w.cell? ⟨b, 4, none⟩ = some (.int .i64 j.k) ∧
  w.cell? ⟨b, 5, none⟩ = some (.string ⟨j.cl.toArray⟩) ∧ w.cell? ⟨b, 6, none⟩ = some (.string ⟨j.nm.toArray⟩) ∧ w.cell? ⟨b, 7, none⟩ = some (.string ⟨j.ds.toArray⟩) ∧ w.cell? ⟨b, 8, none⟩ = some (.slice A j.ar.length c) :=
 ⟨cell_of_row _ _ 0 _ _ _ h, cell_of_row _ _ 1 _ _ _ h, cell_of_row _ _ 2 _ _ _ h, cell_of_row _ _ 3 _ _ _ h, cell_of_row _ _ 4 _ _ _ h, cell_of_row _ _ 5 _ _ _ h, cell_of_row _ _ 6 _ _ _ h, cell_of_row _ _ 7 _ _ _ h, cell_of_row _ _ 8 _ _ _ h⟩
theorem bare_end {i : In} {L : Tx} {w w1 wE wr : World} {pos n : Nat} {j' : In} {A1 : Option Addr} {c1 : Nat} (hp : pos < n) (hnext : (L.take (pos + 1)).foldl bareS i = j') (hb : wE.heap[w.heap.size]? = some (.cells (InV j' A1 c1) 55 (0, 0))) (hrd : Rd w A1 (IL j'.ar)) (hlen : j'.ar.length ≤ c1)
  (hE : ∀ g, g ≠ w.heap.size → wE.heap[g]? = w1.heap[g]?) (hbE : Below w.heap.size w1 wE) (hz : w1.heap[w.heap.size + 1]? = some (.cells (InV (emptyI 0) none 0) 55 (0, 0))) (hit : w1.heap[w.heap.size + 1 + 1]? = some (.stringIter ⟨L.toArray⟩ (pos + 1)))
  (hbel : Below w.heap.size w w1) (hwr : wr.iterPos (w.heap.size + 1 + 1) = pos) :
  (∃ pos, pos ≤ n ∧ BInv i L w pos wE) ∧ n - wE.iterPos (w.heap.size + 1 + 1) < n - wr.iterPos (w.heap.size + 1 + 1) := by
 have hi := (hE _ (by omega)).trans hit
 refine ⟨⟨pos + 1, hp, j', A1, c1, hnext, hb, hrd, hlen, (hE _ (by omega)).trans hz, hi, hbel.trans hbE⟩, ?_⟩
 rw [hwr, show wE.iterPos (w.heap.size + 1 + 1) = pos + 1 by simp [World.iterPos, hi]]
 omega
theorem bare_none {c : UInt8} {j : In} (e1 : c ≠ 97) (e2 : c ≠ 98) (e3 : c ≠ 99) (e4 : c ≠ 107) (e5 : c ≠ 116) (e6 : c ≠ 114) (e7 : c ≠ 67) (e8 : c ≠ 70) (e9 : c ≠ 77) (e10 : c ≠ 118) : bareS j c = j := by
 unfold bareS; rw [if_neg e1, if_neg e2, if_neg e3, if_neg (by rintro (h | h | h); exact e4 h; exact e5 h; exact e6 h), if_neg e7, if_neg e8, if_neg e9, if_neg e10]
theorem letters (c : UInt8) : c = 97 ∨ c = 98 ∨ c = 99 ∨ c = 107 ∨ c = 116 ∨ c = 114 ∨ c = 67 ∨ c = 70 ∨ c = 77 ∨ c = 118 ∨ (c ≠ 97 ∧ c ≠ 98 ∧ c ≠ 99 ∧ c ≠ 107 ∧ c ≠ 116 ∧ c ≠ 114 ∧ c ≠ 67 ∧ c ≠ 70 ∧ c ≠ 77 ∧ c ≠ 118) := by
 by_cases e1 : c = 97
 ·exact .inl e1
 by_cases e2 : c = 98
 ·exact .inr (.inl e2)
 by_cases e3 : c = 99
 ·exact .inr (.inr (.inl e3))
 by_cases e4 : c = 107
 ·exact .inr (.inr (.inr (.inl e4)))
 by_cases e5 : c = 116
 ·exact .inr (.inr (.inr (.inr (.inl e5))))
 by_cases e6 : c = 114
 ·exact .inr (.inr (.inr (.inr (.inr (.inl e6)))))
 by_cases e7 : c = 67
 ·exact .inr (.inr (.inr (.inr (.inr (.inr (.inl e7))))))
 by_cases e8 : c = 70
 ·exact .inr (.inr (.inr (.inr (.inr (.inr (.inr (.inl e8)))))))
 by_cases e9 : c = 77
 ·exact .inr (.inr (.inr (.inr (.inr (.inr (.inr (.inr (.inl e9))))))))
 by_cases e10 : c = 118
 ·exact .inr (.inr (.inr (.inr (.inr (.inr (.inr (.inr (.inr (.inl e10)))))))))
 exact .inr (.inr (.inr (.inr (.inr (.inr (.inr (.inr (.inr (.inr ⟨e1, e2, e3, e4, e5, e6, e7, e8, e9, e10⟩)))))))))
theorem ne_nat {c : UInt8} {n : Nat} (h : c ≠ UInt8.ofNat n) : (((c.toNat : Nat) : Int) == (n : Int)) = false := by
 rw [beq_eq_false_iff_ne]
 intro e
 refine h ?_
 have : c.toNat = n := by omega
 rw [← this]; simp

/-- what bare answers -/
def BareP (i : In) (w : World) (e : Ending) (w' : World) : Prop :=
 (∃ A' c', e = .returned (.agg (InV (bareL i (shapeL i.o)) A' c')) ∧ Rd w' A' (IL (bareL i (shapeL i.o)).ar) ∧ (bareL i (shapeL i.o)).ar.length ≤ c') ∧ Below w.heap.size w w'
theorem bareP_mk {i : In} {w w' : World} {j : In} {A' : Option Addr} {c' : Nat} (h : (shapeL i.o).foldl bareS i = j) (hr : Rd w A' (IL j.ar)) (hc : j.ar.length ≤ c') (hb : Below w.heap.size w w') : BareP i w (.returned (.agg (InV j A' c'))) w' := by
 rw [fold_bare] at h
 subst h
 exact ⟨⟨A', c', rfl, hr.below hb, hc⟩, hb⟩

end Go.Proofs.Ytgpfohpmgbnimaa.op

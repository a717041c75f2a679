/-
 Layer 7: an instruction in memory; whether two are the same; and one without what its shape has: the program's answers.
-/
import Derived.Test.YtjcdgpfffmnneaaGreatDoorOp
import Derived.Deep.QuietTactic
import Derived.BigQuiet
namespace Go.Proofs.YtjcdgpfffmnneaaGreatDoor.op
open Go.RowKit
open words kindp opp

/-- integers as cells -/
def IL (l : List Int) : List Value := l.map fun z => Value.int .i64 z
theorem IL_at {l : List Int} {j : Nat} {c : Int} (h : l[j]? = some c) : (IL l)[j]? = some (.int .i64 c) := by simp [IL, h]
/-- an instruction's cells -/
def InV (i : In) (A : Option Addr) (c : Nat) : Array Value := #[.int .i64 i.o, .int .i64 i.a, .int .i64 i.b, .int .i64 i.c, .int .i64 i.k, .string ⟨i.cl.toArray⟩, .string ⟨i.nm.toArray⟩, .string ⟨i.ds.toArray⟩, .slice A i.ar.length c]

/-- a step of a range over a string, wherever its place lies -/
theorem next_at {P : Program} (w : World) (b : Nat) (l : Tx) (pos : Nat) (x : UInt8) (hb : w.heap[b]? = some (.stringIter ⟨l.toArray⟩ pos)) (hx : l[pos]? = some x) (ha : x.toNat < 128) :
  ∃ w1, (∀ ty, (Instr.next (.pointer (some ⟨b, 0, none⟩)) true ty).run P w = .ok (.tuple #[.bool true, .int .i64 (pos : Int), .int .i32 ((x.toNat : Nat) : Int)]) w1) ∧ w1.heap[b]? = some (.stringIter ⟨l.toArray⟩ (pos + 1)) ∧ w1.heap.size = w.heap.size ∧
   (∀ g, g ≠ b → w1.heap[g]? = w.heap[g]?) ∧ (∀ B, B ≤ b → Below B w w1) := by
 have hlt := blk_lt hb
 obtain ⟨h0, h1⟩ := List.getElem?_eq_some_iff.1 hx
 have hsz : (⟨l.toArray⟩ : ByteArray).size = l.length := by show l.toArray.size = _; simp
 have h : pos < (⟨l.toArray⟩ : ByteArray).size := by rw [hsz]; exact h0
 have he : (⟨l.toArray⟩ : ByteArray)[pos]'h = x := by rw [← h1]; rfl
 refine ⟨{ w with heap := w.heap.setIfInBounds b (.stringIter ⟨l.toArray⟩ (pos + 1)) }, fun ty => ?_, ?_, ?_, ?_, ?_⟩
 ·simp only [Instr.next, getObj, setObj, Sem.run_bind, Sem.run, hb, Result.andThen, h, if_true, decode_ascii _ pos h (by rw [he]; exact ha), he]
  simp [goInt]
 ·simp [hlt]
 ·simp
 ·intro g hg; simp [Ne.symm hg]
 ·intro B hB
  exact ⟨rfl, rfl, rfl, by simp, fun k hk => by show (w.heap.setIfInBounds b _)[k]? = _; simp [show b ≠ k by omega]⟩
theorem next_none {P : Program} (w : World) (b : Nat) (l : Tx) (pos : Nat) (hb : w.heap[b]? = some (.stringIter ⟨l.toArray⟩ pos)) (h : l.length ≤ pos) (ty : TypeId) :
  (Instr.next (.pointer (some ⟨b, 0, none⟩)) true ty).run P w = .ok (.tuple #[.bool false]) w := by
 have hsz : (⟨l.toArray⟩ : ByteArray).size = l.length := by show l.toArray.size = _; simp
 have h2 : ¬ pos < (⟨l.toArray⟩ : ByteArray).size := by rw [hsz]; omega
 simp [Instr.next, getObj, Sem.run, hb, h2]
section
variable {w : World} {b t : Nat} {j : In} {A : Option Addr} {c : Nat}
theorem set_a (h : w.heap[b]? = some (.cells (InV j A c) t (0, 0))) : (w.setCell ⟨b, 1, none⟩ (.int .i64 0)).heap[b]? = some (.cells (InV { j with a := 0 } A c) t (0, 0)) := heap_setCell_same _ _ 1 _ _ _ h
theorem set_b (h : w.heap[b]? = some (.cells (InV j A c) t (0, 0))) : (w.setCell ⟨b, 2, none⟩ (.int .i64 0)).heap[b]? = some (.cells (InV { j with b := 0 } A c) t (0, 0)) := heap_setCell_same _ _ 2 _ _ _ h
theorem set_c (h : w.heap[b]? = some (.cells (InV j A c) t (0, 0))) : (w.setCell ⟨b, 3, none⟩ (.int .i64 0)).heap[b]? = some (.cells (InV { j with c := 0 } A c) t (0, 0)) := heap_setCell_same _ _ 3 _ _ _ h
theorem set_k (h : w.heap[b]? = some (.cells (InV j A c) t (0, 0))) : (w.setCell ⟨b, 4, none⟩ (.int .i64 0)).heap[b]? = some (.cells (InV { j with k := 0 } A c) t (0, 0)) := heap_setCell_same _ _ 4 _ _ _ h
theorem set_cl (h : w.heap[b]? = some (.cells (InV j A c) t (0, 0))) : (w.setCell ⟨b, 5, none⟩ (.string ⟨#[]⟩)).heap[b]? = some (.cells (InV { j with cl := [] } A c) t (0, 0)) := heap_setCell_same _ _ 5 _ _ _ h
theorem set_nm (h : w.heap[b]? = some (.cells (InV j A c) t (0, 0))) : (w.setCell ⟨b, 6, none⟩ (.string ⟨#[]⟩)).heap[b]? = some (.cells (InV { j with nm := [] } A c) t (0, 0)) := heap_setCell_same _ _ 6 _ _ _ h
theorem set_ds (h : w.heap[b]? = some (.cells (InV j A c) t (0, 0))) : (w.setCell ⟨b, 7, none⟩ (.string ⟨#[]⟩)).heap[b]? = some (.cells (InV { j with ds := [] } A c) t (0, 0)) := heap_setCell_same _ _ 7 _ _ _ h
theorem set_as (h : w.heap[b]? = some (.cells (InV j A c) t (0, 0))) : (w.setCell ⟨b, 8, none⟩ (.slice none 0 0)).heap[b]? = some (.cells (InV { j with ar := [] } none 0) t (0, 0)) := heap_setCell_same _ _ 8 _ _ _ h
end
/-- an instruction stored into its own block -/
def put9 (w : World) (b : Nat) (j : In) (A : Option Addr) (c : Nat) : World :=
 ((((((((w.setCell ⟨b, 0, none⟩ (.int .i64 j.o)).setCell ⟨b, 1, none⟩ (.int .i64 j.a)).setCell ⟨b, 2, none⟩ (.int .i64 j.b)).setCell ⟨b, 3, none⟩ (.int .i64 j.c)).setCell ⟨b, 4, none⟩ (.int .i64 j.k)).setCell
  ⟨b, 5, none⟩ (.string ⟨j.cl.toArray⟩)).setCell ⟨b, 6, none⟩ (.string ⟨j.nm.toArray⟩)).setCell ⟨b, 7, none⟩ (.string ⟨j.ds.toArray⟩)).setCell ⟨b, 8, none⟩ (.slice A j.ar.length c)
theorem put9_heap {w : World} {b t : Nat} {i j : In} {A C : Option Addr} {c d : Nat} (h : w.heap[b]? = some (.cells (InV i C d) t (0, 0))) : (put9 w b j A c).heap[b]? = some (.cells (InV j A c) t (0, 0)) := by
 have h0 := heap_setCell_same _ _ 0 _ _ (.int .i64 j.o) h
 have h1 := heap_setCell_same _ _ 1 _ _ (.int .i64 j.a) h0
 have h2 := heap_setCell_same _ _ 2 _ _ (.int .i64 j.b) h1
 have h3 := heap_setCell_same _ _ 3 _ _ (.int .i64 j.c) h2
 have h4 := heap_setCell_same _ _ 4 _ _ (.int .i64 j.k) h3
 have h5 := heap_setCell_same _ _ 5 _ _ (.string ⟨j.cl.toArray⟩) h4
 have h6 := heap_setCell_same _ _ 6 _ _ (.string ⟨j.nm.toArray⟩) h5
 have h7 := heap_setCell_same _ _ 7 _ _ (.string ⟨j.ds.toArray⟩) h6
 have h8 := heap_setCell_same _ _ 8 _ _ (.slice A j.ar.length c) h7
 unfold put9
 rw [h8]
 simp [InV]
theorem put9_below {w : World} {b B : Nat} {j : In} {A : Option Addr} {c : Nat} (hB : B ≤ b) : Below B w (put9 w b j A c) :=
 (((((((((Below.refl B w).setCell (p := ⟨b, 0, none⟩) hB _).setCell (p := ⟨b, 1, none⟩) hB _).setCell (p := ⟨b, 2, none⟩) hB _).setCell (p := ⟨b, 3, none⟩) hB _).setCell (p := ⟨b, 4, none⟩) hB _).setCell (p := ⟨b, 5, none⟩) hB _).setCell (p := ⟨b, 6, none⟩) hB _).setCell (p := ⟨b, 7, none⟩) hB _).setCell (p := ⟨b, 8, none⟩) hB _
/-- what holds between two rounds of bare -/
def BInv (i : In) (L : Tx) (w : World) (pos : Nat) (wr : World) : Prop :=
 ∃ j A' c', (L.take pos).foldl bareS i = j ∧ wr.heap[w.heap.size]? = some (.cells (InV j A' c') 49 (0, 0)) ∧ Rd w A' (IL j.ar) ∧ j.ar.length ≤ c' ∧
  wr.heap[w.heap.size + 1]? = some (.cells (InV (emptyI 0) none 0) 49 (0, 0)) ∧ wr.heap[w.heap.size + 1 + 1]? = some (.stringIter ⟨L.toArray⟩ pos) ∧ Below w.heap.size w wr
theorem in_cells {w : World} {b t : Nat} {j : In} {A : Option Addr} {c : Nat} {fz : Nat × Nat} (h : w.heap[b]? = some (.cells (InV j A c) t fz)) :
  w.cell? ⟨b, 0, none⟩ = some (.int .i64 j.o) ∧ w.cell? ⟨b, 1, none⟩ = some (.int .i64 j.a) ∧ w.cell? ⟨b, 2, none⟩ = some (.int .i64 j.b) ∧ w.cell? ⟨b, 3, none⟩ = some (.int .i64 j.c) ∧ w.cell? ⟨b, 4, none⟩ = some (.int .i64 j.k) ∧
  w.cell? ⟨b, 5, none⟩ = some (.string ⟨j.cl.toArray⟩) ∧ w.cell? ⟨b, 6, none⟩ = some (.string ⟨j.nm.toArray⟩) ∧ w.cell? ⟨b, 7, none⟩ = some (.string ⟨j.ds.toArray⟩) ∧ w.cell? ⟨b, 8, none⟩ = some (.slice A j.ar.length c) :=
 ⟨cell_of_row _ _ 0 _ _ _ h, cell_of_row _ _ 1 _ _ _ h, cell_of_row _ _ 2 _ _ _ h, cell_of_row _ _ 3 _ _ _ h, cell_of_row _ _ 4 _ _ _ h, cell_of_row _ _ 5 _ _ _ h, cell_of_row _ _ 6 _ _ _ h, cell_of_row _ _ 7 _ _ _ h, cell_of_row _ _ 8 _ _ _ h⟩
theorem bare_end {i : In} {L : Tx} {w w1 wE wr : World} {pos n : Nat} {j' : In} {A1 : Option Addr} {c1 : Nat} (hp : pos < n) (hnext : (L.take (pos + 1)).foldl bareS i = j') (hb : wE.heap[w.heap.size]? = some (.cells (InV j' A1 c1) 49 (0, 0))) (hrd : Rd w A1 (IL j'.ar)) (hlen : j'.ar.length ≤ c1)
  (hE : ∀ g, g ≠ w.heap.size → wE.heap[g]? = w1.heap[g]?) (hbE : Below w.heap.size w1 wE) (hz : w1.heap[w.heap.size + 1]? = some (.cells (InV (emptyI 0) none 0) 49 (0, 0))) (hit : w1.heap[w.heap.size + 1 + 1]? = some (.stringIter ⟨L.toArray⟩ (pos + 1)))
  (hbel : Below w.heap.size w w1) (hwr : wr.iterPos (w.heap.size + 1 + 1) = pos) :
  (∃ pos, pos ≤ n ∧ BInv i L w pos wE) ∧ n - wE.iterPos (w.heap.size + 1 + 1) < n - wr.iterPos (w.heap.size + 1 + 1) := by
 have hi := (hE _ (by omega)).trans hit
 refine ⟨⟨pos + 1, hp, j', A1, c1, hnext, hb, hrd, hlen, (hE _ (by omega)).trans hz, hi, hbel.trans hbE⟩, ?_⟩
 rw [hwr, show wE.iterPos (w.heap.size + 1 + 1) = pos + 1 by simp [World.iterPos, hi]]
 omega
theorem bare_none {c : UInt8} {j : In} (e1 : c ≠ 97) (e2 : c ≠ 98) (e3 : c ≠ 99) (e4 : c ≠ 107) (e5 : c ≠ 116) (e6 : c ≠ 114) (e7 : c ≠ 67) (e8 : c ≠ 70) (e9 : c ≠ 77) (e10 : c ≠ 118) : bareS j c = j := by
 unfold bareS; rw [if_neg e1, if_neg e2, if_neg e3, if_neg (by rintro (h | h | h); exact e4 h; exact e5 h; exact e6 h), if_neg e7, if_neg e8, if_neg e9, if_neg e10]
theorem letters (c : UInt8) : c = 97 ∨ c = 98 ∨ c = 99 ∨ c = 107 ∨ c = 116 ∨ c = 114 ∨ c = 67 ∨ c = 70 ∨ c = 77 ∨ c = 118 ∨ (c ≠ 97 ∧ c ≠ 98 ∧ c ≠ 99 ∧ c ≠ 107 ∧ c ≠ 116 ∧ c ≠ 114 ∧ c ≠ 67 ∧ c ≠ 70 ∧ c ≠ 77 ∧ c ≠ 118) := by
 by_cases e1 : c = 97
 ·exact .inl e1
 by_cases e2 : c = 98
 ·exact .inr (.inl e2)
 by_cases e3 : c = 99
 ·exact .inr (.inr (.inl e3))
 by_cases e4 : c = 107
 ·exact .inr (.inr (.inr (.inl e4)))
 by_cases e5 : c = 116
 ·exact .inr (.inr (.inr (.inr (.inl e5))))
 by_cases e6 : c = 114
 ·exact .inr (.inr (.inr (.inr (.inr (.inl e6)))))
 by_cases e7 : c = 67
 ·exact .inr (.inr (.inr (.inr (.inr (.inr (.inl e7))))))
 by_cases e8 : c = 70
 ·exact .inr (.inr (.inr (.inr (.inr (.inr (.inr (.inl e8)))))))
 by_cases e9 : c = 77
 ·exact .inr (.inr (.inr (.inr (.inr (.inr (.inr (.inr (.inl e9))))))))
 by_cases e10 : c = 118
 ·exact .inr (.inr (.inr (.inr (.inr (.inr (.inr (.inr (.inr (.inl e10)))))))))
 exact .inr (.inr (.inr (.inr (.inr (.inr (.inr (.inr (.inr (.inr ⟨e1, e2, e3, e4, e5, e6, e7, e8, e9, e10⟩)))))))))
theorem ne_nat {c : UInt8} {n : Nat} (h : c ≠ UInt8.ofNat n) : (((c.toNat : Nat) : Int) == (n : Int)) = false := by
 rw [beq_eq_false_iff_ne]
 intro e
 refine h ?_
 have : c.toNat = n := by omega
 rw [← this]; simp

set_option maxRecDepth 100000 in
set_option maxHeartbeats 400000 in
theorem equal_w (A C : Option Addr) (c d : Nat) (l k : List Int) (w : World) (hr : Rd w A (IL l)) (kr : Rd w C (IL k)) (hl : l.length ≤ 281474976710656) (hk : k.length ≤ 281474976710656) :
  Calls Tryz.prog 136 #[.slice A l.length c, .slice C k.length d] w fun e w' => e = .returned (.bool (decide (l = k))) ∧ ∃ q, w' = w.drewN q := by
 obtain ⟨n, hn⟩ : ∃ n, n = l.length := ⟨_, rfl⟩
 obtain ⟨m, hm⟩ : ∃ m, m = k.length := ⟨_, rfl⟩
 rw [← hn, ← hm]
 have hnI : (n : Int) ≤ 281474976710656 := by omega
 have hmI : (m : Int) ≤ 281474976710656 := by omega
 by_cases hnm : n = m
 ·subst hnm
  have hnn : ((n : Int) != n) = false := by simp
  obtain ⟨R, hR⟩ : ∃ R : Bool, R = decide (l = k) := ⟨_, rfl⟩
  rw [← hR]
  have HR := Lib.hid hR; have HN := Lib.hid hn; have HM := Lib.hid hm
  clear hl hk hR hn hm
  go_enter Tryz.func136, Tryz.ntmps136
  go_wp2
  go_loopw [13] (fun i wr => ∃ j : Nat, j ≤ n ∧ i = .int .i64 (j : Int) ∧ (∃ q, wr = w.drewN q) ∧ l.take j = k.take j) (fun i _ => n - (intOf i).toNat)
  case atStart => exact ⟨0, Nat.zero_le _, rfl, ⟨0, rfl⟩, rfl⟩
  case round =>
   obtain ⟨j, hj, rfl, ⟨q, rfl⟩, ht⟩ := hrel
   have HT := Lib.hid ht
   clear ht
   by_cases hlt : j < n
   ·obtain ⟨x, hx⟩ : ∃ x, l[j]? = some x := ⟨l[j]'(by have := HN.out; omega), List.getElem?_eq_getElem _⟩
    obtain ⟨y, hy⟩ : ∃ y, k[j]? = some y := ⟨k[j]'(by have := HM.out; omega), List.getElem?_eq_getElem _⟩
    have HX := Lib.hid hx; have HY := Lib.hid hy
    obtain ⟨a, rfl, _, ha⟩ := hr.at_ (IL_at hx)
    obtain ⟨b, rfl, _, hb⟩ := kr.at_ (IL_at hy)
    by_cases hxy : x = y
    ·subst hxy
     have hxx : (x != x) = false := by simp
     clear hr kr hx hy
     go_wp2
     go_quiet (fail)
     go_wp2
     go_roundw
     case rel => exact ⟨j + 1, by omega, by go_num, ⟨_, rfl⟩, by rw [List.take_add_one, List.take_add_one, HT.out, HX.out, HY.out]⟩
     case measure => simp [intOf]; omega
    ·have hxx : (x != y) = true := by simpa using hxy
     have hf : R = false := by
      rw [HR.out]
      refine decide_eq_false fun e => hxy ?_
      have h1 := HX.out
      rw [e, HY.out] at h1
      exact (Option.some.inj h1).symm
     subst hf
     clear hr kr hx hy hxy
     go_wp2
     go_quiet (fail)
     go_wp2
     go_ret
     exact ⟨rfl, _, World.drewN_drewN _ _ _⟩
   ·have hf : R = true := by
     rw [HR.out]
     refine decide_eq_true ?_
     have h1 := HT.out
     rwa [List.take_of_length_le (by have := HN.out; omega), List.take_of_length_le (by have := HM.out; omega)] at h1
    subst hf
    go_wp2
    go_ret
    exact ⟨rfl, q, rfl⟩
 ·have hne : ((n : Int) != (m : Int)) = true := by simp; omega
  rw [show decide (l = k) = false from decide_eq_false (fun e => hnm (by rw [hn, hm, e]))]
  clear hn hm hnm hr kr
  go_enter Tryz.func136, Tryz.ntmps136
  go_wp2
  go_ret
  exact ⟨rfl, 0, rfl⟩

/-- what bare answers -/
def BareP (i : In) (w : World) (e : Ending) (w' : World) : Prop :=
 (∃ A' c', e = .returned (.agg (InV (bareL i (shapeL i.o)) A' c')) ∧ Rd w' A' (IL (bareL i (shapeL i.o)).ar) ∧ (bareL i (shapeL i.o)).ar.length ≤ c') ∧ Below w.heap.size w w'
theorem bareP_mk {i : In} {w w' : World} {j : In} {A' : Option Addr} {c' : Nat} (h : (shapeL i.o).foldl bareS i = j) (hr : Rd w A' (IL j.ar)) (hc : j.ar.length ≤ c') (hb : Below w.heap.size w w') : BareP i w (.returned (.agg (InV j A' c'))) w' := by
 rw [fold_bare] at h
 subst h
 exact ⟨⟨A', c', rfl, hr.below hb, hc⟩, hb⟩

set_option maxRecDepth 100000 in
set_option maxHeartbeats 2000000 in
theorem bare_w (i : In) (A : Option Addr) (c : Nat) (w : World) (hs : Sh w) (hr : Rd w A (IL i.ar)) (hc : i.ar.length ≤ c) :
  Calls Tryz.prog 163 #[.agg (InV i A c)] w (BareP i w) := by
 have HPO := Lib.hid (fun (j : In) (A' : Option Addr) (c' : Nat) (w' : World) (h : (shapeL i.o).foldl bareS i = j) (hr : Rd w A' (IL j.ar)) (hc : j.ar.length ≤ c') (hb : Below w.heap.size w w') => bareP_mk h hr hc hb)
 have HS := Lib.hid (fun w hs => shape_w i.o w hs)
 have h0 := hs.below ((((Below.refl _ w).alloc (Nat.le_refl _) (.cells (InV i A c) 49)).alloc (by simp) (.cells (InV (emptyI 0) none 0) 49)))
 have HT := Lib.hid h0
 unfold InV emptyI at HT
 dsimp only [List.length_nil] at HT
 obtain ⟨L, hL⟩ : ∃ L, L = shapeL i.o := ⟨_, rfl⟩
 rw [← hL] at HS HPO
 have HL := Lib.hid (show ∀ c ∈ L, c.toNat < 128 from by rw [hL]; exact (shape_letters i.o).2)
 have hstart : BInv i L w 0 (((w.alloc (.cells (InV i A c) 49)).alloc (.cells (InV (emptyI 0) none 0) 49)).iter ⟨L.toArray⟩ 0) := by
  refine ⟨i, A, c, rfl, ?_, hr, hc, ?_, ?_, ?_⟩
  ·exact (Below.heap_alloc _ _ _ (by simp; omega)).trans ((Below.heap_alloc _ _ _ (by simp)).trans (heap_alloc_new w _))
  ·have := heap_alloc_new (w.alloc (.cells (InV i A c) 49)) (.cells (InV (emptyI 0) none 0) 49)
   rw [World.size_alloc] at this
   exact (Below.heap_alloc _ _ _ (by simp)).trans this
  ·have := World.iter_heap ((w.alloc (.cells (InV i A c) 49)).alloc (.cells (InV (emptyI 0) none 0) 49)) ⟨L.toArray⟩ 0
   rwa [World.size_alloc, World.size_alloc] at this
  ·exact ((((Below.refl _ w).alloc (Nat.le_refl _) _).alloc (by simp) _).alloc (by simp; omega) _)
 have HST := Lib.hid hstart
 unfold InV emptyI at HST
 dsimp only [List.length_nil] at HST
 unfold InV at HPO ⊢
 obtain ⟨n, hn⟩ : ∃ n, n = L.length := ⟨_, rfl⟩
 have HN := Lib.hid hn
 clear hL hs hr hc h0 hstart hn
 go_enter Tryz.func163, Tryz.ntmps163
 go_wp2_with fail
 refine (HS.out _ HT.out).mono ?_
 rintro e w1 ⟨rfl, rfl⟩
 go_wp2_with fail
 go_loopw [4] (fun _ wr => ∃ pos, pos ≤ n ∧ BInv i L w pos wr) (fun _ wr => n - wr.iterPos (w.heap.size + 1 + 1))
 case atStart => exact ⟨0, Nat.zero_le _, HST.out⟩
 case round =>
  obtain ⟨pos, hpn, j, A', c', hf, hb, hrd, hlen, hz, hit, hbel⟩ := hrel
  by_cases hp : pos < n
  ·obtain ⟨x, hx⟩ : ∃ x, L[pos]? = some x := ⟨L[pos]'(by rw [← HN.out]; exact hp), List.getElem?_eq_getElem _⟩
   obtain ⟨w1, hnx, hit1, hsz1, hoth, hbw⟩ := next_at (P := Tryz.prog) wr _ L pos x hit hx (HL.out x (List.mem_of_getElem? hx))
   have hb1 := (hoth w.heap.size (by omega)).trans hb
   have hz1 := (hoth (w.heap.size + 1) (by omega)).trans hz
   have hbel1 := hbel.trans (hbw w.heap.size (by omega))
   have hpos : wr.iterPos (w.heap.size + 1 + 1) = pos := by simp [World.iterPos, hit]
   have hnext : (L.take (pos + 1)).foldl bareS i = bareS j x := by rw [List.take_add_one, hx, ← hf, List.foldl_append]; rfl
   have f1 := frozen_of_row _ _ 1 _ _ hb1
   have f2 := frozen_of_row _ _ 2 _ _ hb1
   have f3 := frozen_of_row _ _ 3 _ _ hb1
   have f4 := frozen_of_row _ _ 4 _ _ hb1
   have f5 := frozen_of_row _ _ 5 _ _ hb1
   have f6 := frozen_of_row _ _ 6 _ _ hb1
   have f7 := frozen_of_row _ _ 7 _ _ hb1
   have f8 := frozen_of_row _ _ 8 _ _ hb1
   have g1 : w1.cell? ⟨w.heap.size, 1, none⟩ = some _ := cell_of_row _ _ 1 _ _ _ hb1
   have g2 : w1.cell? ⟨w.heap.size, 2, none⟩ = some _ := cell_of_row _ _ 2 _ _ _ hb1
   have g3 : w1.cell? ⟨w.heap.size, 3, none⟩ = some _ := cell_of_row _ _ 3 _ _ _ hb1
   have g4 : w1.cell? ⟨w.heap.size, 4, none⟩ = some _ := cell_of_row _ _ 4 _ _ _ hb1
   have g5 : w1.cell? ⟨w.heap.size, 5, none⟩ = some _ := cell_of_row _ _ 5 _ _ _ hb1
   have g6 : w1.cell? ⟨w.heap.size, 6, none⟩ = some _ := cell_of_row _ _ 6 _ _ _ hb1
   have g7 : w1.cell? ⟨w.heap.size, 7, none⟩ = some _ := cell_of_row _ _ 7 _ _ _ hb1
   have g8 : w1.cell? ⟨w.heap.size, 8, none⟩ = some _ := cell_of_row _ _ 8 _ _ _ hb1
   have HB := Lib.hid hb1; have HZ := Lib.hid hz1; have HI := Lib.hid hit1; have HBL := Lib.hid hbel1; have HNX := Lib.hid hnext; have HP := Lib.hid hpos
   clear hb hz hit hbel hf hoth hbw hb1 hz1 hit1 hbel1 hnext hpos hx hsz1
   have hbl : ∀ k, w.heap.size ≤ (⟨w.heap.size, k, none⟩ : Addr).block := fun _ => Nat.le_refl _
   have HBK := Lib.hid hbl
   clear hbl
   rcases letters x with rfl | rfl | rfl | rfl | rfl | rfl | rfl | rfl | rfl | rfl | ⟨e1, e2, e3, e4, e5, e6, e7, e8, e9, e10⟩
   ·go_wp2
    go_roundw
    case rel => exact (bare_end hp HNX.out (set_a HB.out) hrd hlen (fun g hg => Below.heap_setCell _ _ _ g hg) ((Below.refl _ _).setCell (HBK.out 1) _) HZ.out HI.out HBL.out HP.out).1
    case measure => exact (bare_end hp HNX.out (set_a HB.out) hrd hlen (fun g hg => Below.heap_setCell _ _ _ g hg) ((Below.refl _ _).setCell (HBK.out 1) _) HZ.out HI.out HBL.out HP.out).2
   ·go_wp2
    go_roundw
    case rel => exact (bare_end hp HNX.out (set_b HB.out) hrd hlen (fun g hg => Below.heap_setCell _ _ _ g hg) ((Below.refl _ _).setCell (HBK.out 2) _) HZ.out HI.out HBL.out HP.out).1
    case measure => exact (bare_end hp HNX.out (set_b HB.out) hrd hlen (fun g hg => Below.heap_setCell _ _ _ g hg) ((Below.refl _ _).setCell (HBK.out 2) _) HZ.out HI.out HBL.out HP.out).2
   ·go_wp2
    go_roundw
    case rel => exact (bare_end hp HNX.out (set_c HB.out) hrd hlen (fun g hg => Below.heap_setCell _ _ _ g hg) ((Below.refl _ _).setCell (HBK.out 3) _) HZ.out HI.out HBL.out HP.out).1
    case measure => exact (bare_end hp HNX.out (set_c HB.out) hrd hlen (fun g hg => Below.heap_setCell _ _ _ g hg) ((Below.refl _ _).setCell (HBK.out 3) _) HZ.out HI.out HBL.out HP.out).2
   ·go_wp2
    go_roundw
    case rel => exact (bare_end hp HNX.out (set_k HB.out) hrd hlen (fun g hg => Below.heap_setCell _ _ _ g hg) ((Below.refl _ _).setCell (HBK.out 4) _) HZ.out HI.out HBL.out HP.out).1
    case measure => exact (bare_end hp HNX.out (set_k HB.out) hrd hlen (fun g hg => Below.heap_setCell _ _ _ g hg) ((Below.refl _ _).setCell (HBK.out 4) _) HZ.out HI.out HBL.out HP.out).2
   ·go_wp2
    go_roundw
    case rel => exact (bare_end hp HNX.out (set_k HB.out) hrd hlen (fun g hg => Below.heap_setCell _ _ _ g hg) ((Below.refl _ _).setCell (HBK.out 4) _) HZ.out HI.out HBL.out HP.out).1
    case measure => exact (bare_end hp HNX.out (set_k HB.out) hrd hlen (fun g hg => Below.heap_setCell _ _ _ g hg) ((Below.refl _ _).setCell (HBK.out 4) _) HZ.out HI.out HBL.out HP.out).2
   ·go_wp2
    go_roundw
    case rel => exact (bare_end hp HNX.out (set_k HB.out) hrd hlen (fun g hg => Below.heap_setCell _ _ _ g hg) ((Below.refl _ _).setCell (HBK.out 4) _) HZ.out HI.out HBL.out HP.out).1
    case measure => exact (bare_end hp HNX.out (set_k HB.out) hrd hlen (fun g hg => Below.heap_setCell _ _ _ g hg) ((Below.refl _ _).setCell (HBK.out 4) _) HZ.out HI.out HBL.out HP.out).2
   ·go_wp2
    go_roundw
    case rel => exact (bare_end hp HNX.out (set_cl HB.out) hrd hlen (fun g hg => Below.heap_setCell _ _ _ g hg) ((Below.refl _ _).setCell (HBK.out 5) _) HZ.out HI.out HBL.out HP.out).1
    case measure => exact (bare_end hp HNX.out (set_cl HB.out) hrd hlen (fun g hg => Below.heap_setCell _ _ _ g hg) ((Below.refl _ _).setCell (HBK.out 5) _) HZ.out HI.out HBL.out HP.out).2
   ·go_wp2
    go_roundw
    case rel => exact (bare_end hp HNX.out (set_nm (set_cl HB.out)) hrd hlen (fun g hg => (Below.heap_setCell _ _ _ g hg).trans (Below.heap_setCell _ _ _ g hg)) (((Below.refl _ _).setCell (HBK.out 5) _).setCell (HBK.out 6) _) HZ.out HI.out HBL.out HP.out).1
    case measure => exact (bare_end hp HNX.out (set_nm (set_cl HB.out)) hrd hlen (fun g hg => (Below.heap_setCell _ _ _ g hg).trans (Below.heap_setCell _ _ _ g hg)) (((Below.refl _ _).setCell (HBK.out 5) _).setCell (HBK.out 6) _) HZ.out HI.out HBL.out HP.out).2
   ·go_wp2
    go_roundw
    case rel => exact (bare_end hp HNX.out (set_ds (set_nm (set_cl HB.out))) hrd hlen (fun g hg => (Below.heap_setCell _ _ _ g hg).trans ((Below.heap_setCell _ _ _ g hg).trans (Below.heap_setCell _ _ _ g hg))) ((((Below.refl _ _).setCell (HBK.out 5) _).setCell (HBK.out 6) _).setCell (HBK.out 7) _) HZ.out HI.out HBL.out HP.out).1
    case measure => exact (bare_end hp HNX.out (set_ds (set_nm (set_cl HB.out))) hrd hlen (fun g hg => (Below.heap_setCell _ _ _ g hg).trans ((Below.heap_setCell _ _ _ g hg).trans (Below.heap_setCell _ _ _ g hg))) ((((Below.refl _ _).setCell (HBK.out 5) _).setCell (HBK.out 6) _).setCell (HBK.out 7) _) HZ.out HI.out HBL.out HP.out).2
   ·go_wp2
    go_roundw
    case rel => exact (bare_end hp HNX.out (set_as HB.out) (Rd.nil _ _) (Nat.le_refl _) (fun g hg => Below.heap_setCell _ _ _ g hg) ((Below.refl _ _).setCell (HBK.out 8) _) HZ.out HI.out HBL.out HP.out).1
    case measure => exact (bare_end hp HNX.out (set_as HB.out) (Rd.nil _ _) (Nat.le_refl _) (fun g hg => Below.heap_setCell _ _ _ g hg) ((Below.refl _ _).setCell (HBK.out 8) _) HZ.out HI.out HBL.out HP.out).2
   ·have n1 := ne_nat (n := 97) e1
    have n2 := ne_nat (n := 98) e2
    have n3 := ne_nat (n := 99) e3
    have n4 := ne_nat (n := 107) e4
    have n5 := ne_nat (n := 116) e5
    have n6 := ne_nat (n := 114) e6
    have n7 := ne_nat (n := 67) e7
    have n8 := ne_nat (n := 70) e8
    have n9 := ne_nat (n := 77) e9
    have n10 := ne_nat (n := 118) e10
    have HNB := Lib.hid (HNX.out.trans (bare_none e1 e2 e3 e4 e5 e6 e7 e8 e9 e10))
    clear e1 e2 e3 e4 e5 e6 e7 e8 e9 e10
    go_wp2
    go_roundw
    case rel => exact (bare_end hp HNB.out HB.out hrd hlen (fun g hg => rfl) (Below.refl _ _) HZ.out HI.out HBL.out HP.out).1
    case measure => exact (bare_end hp HNB.out HB.out hrd hlen (fun g hg => rfl) (Below.refl _ _) HZ.out HI.out HBL.out HP.out).2
  ·obtain rfl : pos = n := by omega
   have hnx := next_none (P := Tryz.prog) wr _ L pos hit (by rw [← HN.out]; exact Nat.le_refl _)
   have hfin : L.foldl bareS i = j := by rw [← hf, HN.out, List.take_length]
   have hW : ∃ WF, WF = put9 wr (w.heap.size + 1) j A' c' := ⟨_, rfl⟩
   obtain ⟨WF, hWF⟩ := hW
   have hbF : Below w.heap.size w WF := by rw [hWF]; exact hbel.trans (put9_below (by omega))
   have hF := HPO.out j A' c' WF hfin hrd hlen hbF
   have hcF := in_cells (by rw [hWF]; exact put9_heap hz : WF.heap[w.heap.size + 1]? = some (.cells (InV j A' c') 49 (0, 0)))
   unfold put9 at hWF
   have HF := Lib.hid hF; have HC := Lib.hid hcF; have HW := Lib.hid hWF
   obtain ⟨g0, g1, g2, g3, g4, g5, g6, g7, g8⟩ := in_cells hb
   have q0 := in_cells hz
   have z0 := frozen_of_row _ _ 0 _ _ hz
   have z1 := frozen_of_row _ _ 1 _ _ hz
   have z2 := frozen_of_row _ _ 2 _ _ hz
   have z3 := frozen_of_row _ _ 3 _ _ hz
   have z4 := frozen_of_row _ _ 4 _ _ hz
   have z5 := frozen_of_row _ _ 5 _ _ hz
   have z6 := frozen_of_row _ _ 6 _ _ hz
   have z7 := frozen_of_row _ _ 7 _ _ hz
   have z8 := frozen_of_row _ _ 8 _ _ hz
   dsimp only [emptyI, List.length_nil] at q0
   obtain ⟨y0, y1, y2, y3, y4, y5, y6, y7, y8⟩ := q0
   have HB := Lib.hid hbel; have HR := Lib.hid hrd
   clear hf hfin hb hz hit hbel hrd hWF hbF hF hcF
   go_wp2
   rw [← HW.out]
   obtain ⟨x0, x1, x2, x3, x4, x5, x6, x7, x8⟩ := HC.out
   refine bodyPost_ret (v := .agg (InV j A' c')) ?_ rfl HF.out
   simp [results, Tryz.results163, go_sem, x0, x1, x2, x3, x4, x5, x6, x7, x8, InV]
end Go.Proofs.YtjcdgpfffmnneaaGreatDoor.op

/-
  What the deferred function of a read does: it catches a failure, and sets the reader to where that lies; without a failure it does nothing.
-/
import Derived.Test.YtdenpefihplnoaaGive3
import Derived.Defers
import Derived.Recover
namespace Go.Proofs.Ytdenpefihplnoaa.catching
open Go.RowKit
open Go.Proofs.Ytdenpefihplnoaa.num Go.Proofs.Ytdenpefihplnoaa.words Go.Proofs.Ytdenpefihplnoaa.rdnum Go.Proofs.Ytdenpefihplnoaa.rdr Go.Proofs.Ytdenpefihplnoaa.give

/-- the place, the error and its place are set -/
theorem fail3 {w : World} {b : Nat} {s : Rs} (h : RW w b s) {er f : Nat} (hf : f ≤ s.l.length) (he : er ≠ 0) :
    RW (((w.setCell ⟨b, 1, none⟩ (.int .i64 (f : Int))).setCell ⟨b, 2, none⟩ (.int .i64 (er : Int))).setCell ⟨b, 3, none⟩ (.int .i64 (f : Int))) b { s with p := f, e := er, f := f } := by
  have hno := h.no
  obtain ⟨ok, A, c, hh, hc, hb⟩ := h
  have h1 := heap_setCell_same w b 1 _ _ (.int .i64 (f : Int)) hh
  have h2 := heap_setCell_same _ b 2 _ _ (.int .i64 (er : Int)) h1
  have h3 := heap_setCell_same _ b 3 _ _ (.int .i64 (f : Int)) h2
  refine ⟨⟨hf, ok.len, ok.byte, fun e => ?_⟩, A, c, h3, hc, hb.kept (((But.refl b w).set 1 _).set 2 _ |>.set 3 _) (fun i cs f e => by cases e; exact hno cs f)⟩
  dsimp only at e
  omega

set_option maxRecDepth 100000 in
set_option maxHeartbeats 400000 in
theorem idle_int (q : Nat) (w : World) :
    CallsD Try.prog 57 #[.pointer (some ⟨q, 0, none⟩)] .returning w fun e u' w' => e = .returned (.tuple #[]) ∧ u' = .returning ∧ Below w.heap.size w w' := by
  refine callsD_of_wpS Try.func57 rfl fun c₀ cs hu => ?_
  simp only [Try.ntmps57, List.size_toArray, List.length_cons, List.length_nil, Nat.reduceAdd, Nat.reduceSub, Array.replicate_succ,
     Array.replicate_zero, List.push_toArray, List.append_toArray, List.nil_append, List.cons_append]
  apply wpS_seq
  apply wpS_region
  simp [wpOpsS, go_sem, recoverD, hu, Exit.thenS]
  refine wpS_of_wp ?_
  have hta : ∀ w : World, (Instr.typeAssert .nilIface 20 91 true).run Try.prog w = .ok (.tuple #[.agg #[.int .i64 0, .int .i64 0], .bool false]) w := fun _ => by kernel_rfl
  have hnn : ∀ w : World, (binOp .neq 20 .nilIface .nilIface).run Try.prog w = .ok (.bool false) w := fun _ => by kernel_rfl
  go_wp2
  cases c₀
  simp only at hu
  subst hu
  exact ⟨rfl, _, rfl, _, results_none rfl _ _ _, rfl, rfl, (Below.refl _ _).alloc (Nat.le_refl _) _⟩

set_option maxRecDepth 100000 in
set_option maxHeartbeats 400000 in
theorem catch_int (q b : Nat) (s : Rs) (er f : Nat) (w : World) (hq : w.cell? ⟨q, 0, none⟩ = some (.pointer (some ⟨b, 0, none⟩))) (h : RW w b s) (hf : f ≤ s.l.length) (he : er ≠ 0) :
    CallsD Try.prog 57 #[.pointer (some ⟨q, 0, none⟩)] (.panicking [{ v := bang er f, recovered := false }]) w fun e u' w' =>
      e = .returned (.tuple #[]) ∧ u' = .panicking [{ v := bang er f, recovered := true }] ∧ RW w' b { s with p := f, e := er, f := f } ∧ But b w w' := by
  refine callsD_of_wpS Try.func57 rfl fun c₀ cs hu => ?_
  simp only [Try.ntmps57, List.size_toArray, List.length_cons, List.length_nil, Nat.reduceAdd, Nat.reduceSub, Array.replicate_succ,
     Array.replicate_zero, List.push_toArray, List.append_toArray, List.nil_append, List.cons_append]
  apply wpS_seq
  apply wpS_region
  simp [wpOpsS, go_sem, recoverD, hu, Exit.thenS]
  refine wpS_of_wp ?_
  unfold bang
  have hta : ∀ (v : Value) (w : World), (Instr.typeAssert (.iface 91 v) 20 91 true).run Try.prog w = .ok (.tuple #[v, .bool true]) w := fun _ _ => by kernel_rfl
  go_wp2
  obtain ⟨A, c, c0, c1, c2, c3, fz, hh, hc, hb, hp, hl⟩ := parts h
  have hbw : Below w.heap.size w (w.alloc (Obj.cells #[Value.int IntKind.i64 (er : Int), Value.int IntKind.i64 (f : Int)] 91)) := (Below.refl _ _).alloc (Nat.le_refl _) _
  have q1 := (hbw.cell (p := ⟨q, 0, none⟩) (World.block_lt_of_cell? _ _ hq)).trans hq
  have k1 := (hbw.cell (p := ⟨b, 1, none⟩) h.lt).trans c1
  have k2 := (hbw.cell (p := ⟨b, 2, none⟩) h.lt).trans c2
  have k3 := (hbw.cell (p := ⟨b, 3, none⟩) h.lt).trans c3
  have z1 := (hbw.frozen (p := ⟨b, 1, none⟩) h.lt).trans (fz 1)
  have z2 := (hbw.frozen (p := ⟨b, 2, none⟩) h.lt).trans (fz 2)
  have z3 := (hbw.frozen (p := ⟨b, 3, none⟩) h.lt).trans (fz 3)
  have g0 : (w.alloc (Obj.cells #[Value.int IntKind.i64 (er : Int), Value.int IntKind.i64 (f : Int)] 91)).cell? ⟨w.heap.size, 0, none⟩ = some (.int .i64 (er : Int)) := by rw [cell_of_row _ _ _ _ _ _ (heap_alloc_new w _)]; rfl
  have g1 : (w.alloc (Obj.cells #[Value.int IntKind.i64 (er : Int), Value.int IntKind.i64 (f : Int)] 91)).cell? ⟨w.heap.size, 1, none⟩ = some (.int .i64 (f : Int)) := by rw [cell_of_row _ _ _ _ _ _ (heap_alloc_new w _)]; rfl
  have hr1 := h.below hbw
  have hbt : But b w _ := But.of hbw
  have HR := Lib.hid hr1
  have HT := Lib.hid hbt
  have hlt := h.lt
  have hne : ¬ w.heap.size = b := by omega
  have hne' : ¬ b = w.heap.size := by omega
  clear c0 c1 c2 c3 fz hh hc hb hp hl h hr1 hbt hq hlt hbw
  generalize w.alloc (Obj.cells #[Value.int IntKind.i64 (er : Int), Value.int IntKind.i64 (f : Int)] 91) = w1 at *
  generalize w.heap.size = g at *
  go_region
  cases c₀
  exact ⟨rfl, _, rfl, _, results_none rfl _ _ _, rfl, rfl, (fail3 HR.out hf he), (((HT.out.set 1 _).set 2 _).set 3 _).drewN (n := 1)⟩
-- THE OTHERS
set_option maxRecDepth 100000 in
set_option maxHeartbeats 400000 in
theorem idle_string (q : Nat) (w : World) :
    CallsD Try.prog 60 #[.pointer (some ⟨q, 0, none⟩)] .returning w fun e u' w' => e = .returned (.tuple #[]) ∧ u' = .returning ∧ Below w.heap.size w w' := by
  refine callsD_of_wpS Try.func60 rfl fun c₀ cs hu => ?_
  simp only [Try.ntmps60, List.size_toArray, List.length_cons, List.length_nil, Nat.reduceAdd, Nat.reduceSub, Array.replicate_succ,
     Array.replicate_zero, List.push_toArray, List.append_toArray, List.nil_append, List.cons_append]
  apply wpS_seq
  apply wpS_region
  simp [wpOpsS, go_sem, recoverD, hu, Exit.thenS]
  refine wpS_of_wp ?_
  have hta : ∀ w : World, (Instr.typeAssert .nilIface 20 91 true).run Try.prog w = .ok (.tuple #[.agg #[.int .i64 0, .int .i64 0], .bool false]) w := fun _ => by kernel_rfl
  have hnn : ∀ w : World, (binOp .neq 20 .nilIface .nilIface).run Try.prog w = .ok (.bool false) w := fun _ => by kernel_rfl
  go_wp2
  cases c₀
  simp only at hu
  subst hu
  exact ⟨rfl, _, rfl, _, results_none rfl _ _ _, rfl, rfl, (Below.refl _ _).alloc (Nat.le_refl _) _⟩

set_option maxRecDepth 100000 in
set_option maxHeartbeats 400000 in
theorem catch_string (q b : Nat) (s : Rs) (er f : Nat) (w : World) (hq : w.cell? ⟨q, 0, none⟩ = some (.pointer (some ⟨b, 0, none⟩))) (h : RW w b s) (hf : f ≤ s.l.length) (he : er ≠ 0) :
    CallsD Try.prog 60 #[.pointer (some ⟨q, 0, none⟩)] (.panicking [{ v := bang er f, recovered := false }]) w fun e u' w' =>
      e = .returned (.tuple #[]) ∧ u' = .panicking [{ v := bang er f, recovered := true }] ∧ RW w' b { s with p := f, e := er, f := f } ∧ But b w w' := by
  refine callsD_of_wpS Try.func60 rfl fun c₀ cs hu => ?_
  simp only [Try.ntmps60, List.size_toArray, List.length_cons, List.length_nil, Nat.reduceAdd, Nat.reduceSub, Array.replicate_succ,
     Array.replicate_zero, List.push_toArray, List.append_toArray, List.nil_append, List.cons_append]
  apply wpS_seq
  apply wpS_region
  simp [wpOpsS, go_sem, recoverD, hu, Exit.thenS]
  refine wpS_of_wp ?_
  unfold bang
  have hta : ∀ (v : Value) (w : World), (Instr.typeAssert (.iface 91 v) 20 91 true).run Try.prog w = .ok (.tuple #[v, .bool true]) w := fun _ _ => by kernel_rfl
  go_wp2
  obtain ⟨A, c, c0, c1, c2, c3, fz, hh, hc, hb, hp, hl⟩ := parts h
  have hbw : Below w.heap.size w (w.alloc (Obj.cells #[Value.int IntKind.i64 (er : Int), Value.int IntKind.i64 (f : Int)] 91)) := (Below.refl _ _).alloc (Nat.le_refl _) _
  have q1 := (hbw.cell (p := ⟨q, 0, none⟩) (World.block_lt_of_cell? _ _ hq)).trans hq
  have k1 := (hbw.cell (p := ⟨b, 1, none⟩) h.lt).trans c1
  have k2 := (hbw.cell (p := ⟨b, 2, none⟩) h.lt).trans c2
  have k3 := (hbw.cell (p := ⟨b, 3, none⟩) h.lt).trans c3
  have z1 := (hbw.frozen (p := ⟨b, 1, none⟩) h.lt).trans (fz 1)
  have z2 := (hbw.frozen (p := ⟨b, 2, none⟩) h.lt).trans (fz 2)
  have z3 := (hbw.frozen (p := ⟨b, 3, none⟩) h.lt).trans (fz 3)
  have g0 : (w.alloc (Obj.cells #[Value.int IntKind.i64 (er : Int), Value.int IntKind.i64 (f : Int)] 91)).cell? ⟨w.heap.size, 0, none⟩ = some (.int .i64 (er : Int)) := by rw [cell_of_row _ _ _ _ _ _ (heap_alloc_new w _)]; rfl
  have g1 : (w.alloc (Obj.cells #[Value.int IntKind.i64 (er : Int), Value.int IntKind.i64 (f : Int)] 91)).cell? ⟨w.heap.size, 1, none⟩ = some (.int .i64 (f : Int)) := by rw [cell_of_row _ _ _ _ _ _ (heap_alloc_new w _)]; rfl
  have hr1 := h.below hbw
  have hbt : But b w _ := But.of hbw
  have HR := Lib.hid hr1
  have HT := Lib.hid hbt
  have hlt := h.lt
  have hne : ¬ w.heap.size = b := by omega
  have hne' : ¬ b = w.heap.size := by omega
  clear c0 c1 c2 c3 fz hh hc hb hp hl h hr1 hbt hq hlt hbw
  generalize w.alloc (Obj.cells #[Value.int IntKind.i64 (er : Int), Value.int IntKind.i64 (f : Int)] 91) = w1 at *
  generalize w.heap.size = g at *
  go_region
  cases c₀
  exact ⟨rfl, _, rfl, _, results_none rfl _ _ _, rfl, rfl, (fail3 HR.out hf he), (((HT.out.set 1 _).set 2 _).set 3 _).drewN (n := 1)⟩
end Go.Proofs.Ytdenpefihplnoaa.catching

/-
  Layer 6: a descriptor's parameters, and its answer: the program's.
-/
import Derived.Test.YtjcdgpfffmnneaaGreatDoorKindS
namespace Go.Proofs.YtjcdgpfffmnneaaGreatDoor.kind
open Go.RowKit
open words kindp word rdr

set_option maxRecDepth 100000 in
set_option maxHeartbeats 400000 in
theorem idle_s (g : Nat) (w : World) :
    CallsD Tryz.prog 145 #[.pointer (some ⟨g, 0, none⟩)] .returning w fun e u' w' => e = .returned (.tuple #[]) ∧ u' = .returning ∧ w' = w := by
  refine callsD_of_wpS Tryz.func145 rfl fun c₀ cs hu => ?_
  simp only [Tryz.ntmps145, List.size_toArray, List.length_cons, List.length_nil, Nat.reduceAdd, Nat.reduceSub, Array.replicate_succ,
     Array.replicate_zero, List.push_toArray, List.append_toArray, List.nil_append, List.cons_append]
  apply wpS_seq
  apply wpS_region
  simp [wpOpsS, go_sem, recoverD, hu, Exit.thenS]
  refine wpS_of_wp ?_
  have hnn : ∀ w : World, (binOp .eql 20 .nilIface .nilIface).run Tryz.prog w = .ok (.bool true) w := fun _ => by kernel_rfl
  go_wp2
  cases c₀
  simp only at hu
  subst hu
  exact ⟨rfl, _, rfl, _, results_none rfl _ _ _, rfl, rfl, rfl⟩

set_option maxRecDepth 100000 in
set_option maxHeartbeats 400000 in
theorem catch_s (g : Nat) (w : World) (t : TypeId) (hg : w.heap[g]? = some (.cells #[.int .i64 0] t (0, 0))) :
    CallsD Tryz.prog 145 #[.pointer (some ⟨g, 0, none⟩)] (.panicking [{ v := noV, recovered := false }]) w (Caught g t w) := by
  refine callsD_of_wpS Tryz.func145 rfl fun c₀ cs hu => ?_
  simp only [Tryz.ntmps145, List.size_toArray, List.length_cons, List.length_nil, Nat.reduceAdd, Nat.reduceSub, Array.replicate_succ,
     Array.replicate_zero, List.push_toArray, List.append_toArray, List.nil_append, List.cons_append]
  apply wpS_seq
  apply wpS_region
  simp [wpOpsS, go_sem, recoverD, hu, Exit.thenS]
  refine wpS_of_wp ?_
  unfold noV
  have hta : ∀ (v : Value) (w : World), (Instr.typeAssert (.iface 159 v) 20 159 true).run Tryz.prog w = .ok (.tuple #[v, .bool true]) w := fun _ _ => by kernel_rfl
  have hnn : ∀ (v : Value) (w : World), (binOp .eql 20 (.iface 159 v) .nilIface).run Tryz.prog w = .ok (.bool false) w := fun _ _ => by kernel_rfl
  have c0 : w.cell? ⟨g, 0, none⟩ = some (.int .i64 0) := cell_of_row w g 0 _ _ _ hg
  have f0 := frozen_of_row w g 0 _ _ hg
  have hlt := blk_lt hg
  have HA := Lib.hid (caught_at (u := 159) hg)
  have HA2 := Lib.hid (caught_at2 (u := 159) hg)
  clear hg
  go_wp2
  cases c₀
  exact ⟨rfl, _, rfl, _, results_none rfl _ _ _, rfl, rfl, by first | exact HA.out.1 | exact HA2.out.1, by first | exact HA.out.2 | exact HA2.out.2⟩


/-- what a reading of a signature comes to -/
def outS (q : Option (List Ty × Ty)) : List Ty × Ty × Nat := match q with | some (p, t) => (p, t, 0) | none => ([], (0, []), 1)
def ReadS (x : List Ty × Ty × Nat) (w : World) (e : Ending) (w' : World) : Prop :=
  (∃ A c, e = .returned (.tuple #[.agg #[.slice A x.1.length c, .int .i64 x.2.1.1, .string ⟨x.2.1.2.toArray⟩], .int .i64 (x.2.2 : Int)]) ∧ w'.ownsRow w.heap.size 61 2 (.slice A x.1.length c) x.1.length (TL x.1)) ∧ Below w.heap.size w w'

set_option maxRecDepth 100000 in
set_option maxHeartbeats 1600000 in
theorem read_s (q : Option (List Ty × Ty)) (K : Nat) (fi ca : Array Value) (w : World)
    (hcf : ∀ (args : Array Value) (w : World), (callFunc K args).run Tryz.prog w = .ok (.enter K args) w) (hk : ∀ w1, Below w.heap.size w w1 → Calls Tryz.prog K (fi ++ ca) w1 (GaveS q w1)) :
    Calls Tryz.prog 121 #[.func (.func K) fi ca] w (ReadS (outS q) w) := by
  have hmf : ∀ (fn : Fn) (first cap : Array Value) (w : World), (Instr.makeFunc fn first cap).run Tryz.prog w = .ok (.func fn first cap) w := fun _ _ _ _ => rfl
  have hal : Below w.heap.size w ((w.alloc (.cells #[.slice none 0 0, .int .i64 0, .string ⟨#[]⟩] 136)).alloc (.cells #[.int .i64 0] 30)) := ((Below.refl _ _).alloc (Nat.le_refl _) _).alloc (by simp) _
  have HK := Lib.hid (hk _ hal)
  have HAL := Lib.hid hal
  clear hk hal
  cases q with
  | none =>
    go_enter_defers Tryz.func121, Tryz.ntmps121
    go_wp2_with fail
    refine HK.out.mono ?_
    rintro e w1 ⟨rfl, hb1⟩
    have hg0 := (hb1.block (w.heap.size) (by simp; omega)).trans (two_new w _ _).1
    have hg := (hb1.block (w.heap.size + 1) (by simp)).trans (two_new w _ _).2
    have HB := Lib.hid (HAL.out.trans (hb1.mono (by simp; omega)))
    have HG0 := Lib.hid hg0; have HG := Lib.hid hg
    clear hg hg0 hb1
    show Leaves _ _ _ _ _ _ _
    refine leaves_cons (f := 145) (args := #[.pointer (some ⟨w.heap.size + 1, 0, none⟩)]) (by simp) (by simp [go_sem]) ?_
    refine (catch_s (w.heap.size + 1) _ _ HG.out).mono ?_
    rintro e u' w2 ⟨rfl, rfl, hg2, hbt⟩
    have hg3 := (hbt.block _ (blk_lt HG0.out) (fun e => absurd (Option.some.inj e) (by omega))).trans HG0.out
    have c0 : w2.cell? ⟨w.heap.size, 0, none⟩ = some (.slice none 0 0) := cell_of_row _ _ _ _ _ _ hg3
    have c1 : w2.cell? ⟨w.heap.size, 1, none⟩ = some (.int .i64 0) := cell_of_row _ _ _ _ _ _ hg3
    have c3 : w2.cell? ⟨w.heap.size, 2, none⟩ = some (.string ⟨#[]⟩) := cell_of_row _ _ _ _ _ _ hg3
    have c2 : w2.cell? ⟨w.heap.size + 1, 0, none⟩ = some (.int .i64 1) := cell_of_row _ _ _ _ _ _ hg2
    exact ⟨.tuple #[.agg #[.slice none 0 0, .int .i64 0, .string ⟨#[]⟩], .int .i64 1], by simp [results, Tryz.results121, go_sem, c0, c1, c2, c3], ⟨none, 0, rfl, World.ownsRow_nil _ _ _ _⟩, HB.out.trans (hbt.below (by omega) HB.out.size)⟩
  | some pt =>
    obtain ⟨p, ⟨k, c⟩⟩ := pt
    go_enter_defers Tryz.func121, Tryz.ntmps121
    go_wp2_with fail
    refine HK.out.mono ?_
    rintro e w1 ⟨⟨v, rfl, hown⟩, hb1⟩
    obtain ⟨A, cc, rfl, _, _, _⟩ := own_rd hown
    dsimp only
    have hg0 := (hb1.block (w.heap.size) (by simp; omega)).trans (two_new w _ _).1
    have hg := (hb1.block (w.heap.size + 1) (by simp)).trans (two_new w _ _).2
    have c0 : w1.cell? ⟨w.heap.size, 0, none⟩ = some (.slice none 0 0) := cell_of_row _ _ _ _ _ _ hg0
    have c1 : w1.cell? ⟨w.heap.size, 1, none⟩ = some (.int .i64 0) := cell_of_row _ _ _ _ _ _ hg0
    have c3 : w1.cell? ⟨w.heap.size, 2, none⟩ = some (.string ⟨#[]⟩) := cell_of_row _ _ _ _ _ _ hg0
    have c2 : w1.cell? ⟨w.heap.size + 1, 0, none⟩ = some (.int .i64 0) := cell_of_row _ _ _ _ _ _ hg
    have f0 := frozen_of_row w1 _ 0 _ _ hg0
    have f1 := frozen_of_row w1 _ 1 _ _ hg0
    have f3 := frozen_of_row w1 _ 2 _ _ hg0
    have f2 := frozen_of_row w1 _ 0 _ _ hg
    have HB := Lib.hid (HAL.out.trans (hb1.mono (by simp; omega)))
    have HG0 := Lib.hid hg0; have HG := Lib.hid hg
    obtain ⟨z0, z1, z3⟩ := three_set HG0.out (.slice A p.length cc) (.int .i64 k) (.string ⟨c.toArray⟩)
    rw [show ((w.alloc (.cells #[.slice none 0 0, .int .i64 0, .string ⟨#[]⟩] 136)).alloc (.cells #[.int .i64 0] 30)).heap.size = w.heap.size + 2 by simp] at hown
    have HO := Lib.hid (own_base (own_but (own_but hown (b := w.heap.size) (by omega) ((((But.refl w.heap.size w1).set 0 (.slice A p.length cc)).set 1 (.int .i64 k)).set 2 (.string ⟨c.toArray⟩))) (b := w.heap.size + 1) (by omega) ((But.refl (w.heap.size + 1) _).set 0 (.int .i64 0))) (base' := w.heap.size) (by omega))
    clear hg hg0 hb1 hown
    go_wp2
    refine leaves_cons (f := 145) (args := #[.pointer (some ⟨w.heap.size + 1, 0, none⟩)]) (by simp) (by simp [go_sem]) ?_
    refine (idle_s _ _).mono ?_
    rintro e u' w2 ⟨rfl, rfl, rfl⟩
    exact ⟨.tuple #[.agg #[.slice A p.length cc, .int .i64 k, .string ⟨c.toArray⟩], .int .i64 0], by simp [results, Tryz.results121, go_sem, c2, z0, z1, z3], ⟨A, cc, rfl, HO.out⟩, (((HB.out.setCell (by simp) _).setCell (by simp) _).setCell (by simp) _).setCell (by simp) _⟩

set_option maxRecDepth 100000 in
set_option maxHeartbeats 1600000 in
theorem clo_s (g : Nat) (s : Tx) (w : World) (hs : s.length ≤ 65536) (hm : Mx w) (hv : Vd w) (hg : w.cell? ⟨g, 0, none⟩ = some (.string ⟨s.toArray⟩)) :
    Calls Tryz.prog 122 #[.pointer (some ⟨g, 0, none⟩)] w (GaveS (sigD s) w) := by
  have hal : Below w.heap.size w (w.alloc (.cells #[.slice none 0 0, .int .i64 0, .string ⟨#[]⟩] 136)) := (Below.refl _ _).alloc (Nat.le_refl _) _
  have hg2 := (hal.cell (World.block_lt_of_cell? _ _ hg)).trans hg
  have HK := Lib.hid (sig_w s _ hs (hm.below hal) (hv.below hal))
  have HAL := Lib.hid hal
  cases h : sigD s with
  | none =>
    rw [h] at HK
    clear h hs hm hv hal
    go_enter Tryz.func122, Tryz.ntmps122
    go_wp2_with fail
    refine HK.out.mono ?_
    rintro e w1 ⟨rfl, hb1⟩
    exact ⟨rfl, gaveS_none rfl rfl (HAL.out.trans (hb1.mono (by simp)))⟩
  | some pt =>
    obtain ⟨p, ⟨k, c⟩⟩ := pt
    rw [h] at HK
    clear h hs hm hv hal
    go_enter Tryz.func122, Tryz.ntmps122
    go_wp2_with fail
    refine HK.out.mono ?_
    rintro e w1 ⟨⟨v, rfl, hown⟩, hb1⟩
    obtain ⟨A, cc, rfl, _, _, _⟩ := own_rd hown
    dsimp only
    have hce := (hb1.block w.heap.size (by simp)).trans (heap_alloc_new w _)
    obtain ⟨z0, z1, z2⟩ := three_set hce (.slice A p.length cc) (.int .i64 k) (.string ⟨c.toArray⟩)
    have c0 : w1.cell? ⟨w.heap.size, 0, none⟩ = some (.slice none 0 0) := cell_of_row _ _ _ _ _ _ hce
    have c1 : w1.cell? ⟨w.heap.size, 1, none⟩ = some (.int .i64 0) := cell_of_row _ _ _ _ _ _ hce
    have c2 : w1.cell? ⟨w.heap.size, 2, none⟩ = some (.string ⟨#[]⟩) := cell_of_row _ _ _ _ _ _ hce
    have f0 := frozen_of_row w1 _ 0 _ _ hce
    have f1 := frozen_of_row w1 _ 1 _ _ hce
    have f2 := frozen_of_row w1 _ 2 _ _ hce
    have HB := Lib.hid (HAL.out.trans (hb1.mono (by simp)))
    rw [show (w.alloc (.cells #[.slice none 0 0, .int .i64 0, .string ⟨#[]⟩] 136)).heap.size = w.heap.size + 1 by simp] at hown
    have HO := Lib.hid (own_base (own_but hown (b := w.heap.size) (by omega) ((((But.refl w.heap.size w1).set 0 (.slice A p.length cc)).set 1 (.int .i64 k)).set 2 (.string ⟨c.toArray⟩))) (base' := w.heap.size) (by omega))
    clear hb1 hce hown
    go_wp2
    exact bodyPost_ret (v := .agg #[.slice A p.length cc, .int .i64 k, .string ⟨c.toArray⟩]) (by simp [results, Tryz.results122, go_sem, z0, z1, z2]) rfl (gaveS_some rfl _ rfl HO.out (((HB.out.setCell (by simp) _).setCell (by simp) _).setCell (by simp) _))

/-- A DESCRIPTOR'S TYPES: parameters, answer, error. -/
def SplitW (d : Tx) (w : World) (e : Ending) (w' : World) : Prop :=
  (∃ A c, e = .returned (.tuple #[.slice A (splitT d).1.length c, .agg #[.int .i64 (splitT d).2.1.1, .string ⟨(splitT d).2.1.2.toArray⟩], .int .i64 ((splitT d).2.2 : Int)]) ∧ w'.ownsRow w.heap.size 61 2 (.slice A (splitT d).1.length c) (splitT d).1.length (TL (splitT d).1)) ∧ Below w.heap.size w w'
theorem splitW_of {d : Tx} {p : List Ty} {t : Ty} {n : Nat} {w w' : World} {e : Ending} (h : splitT d = (p, t, n)) (A : Option Addr) (c : Nat) (he : e = .returned (.tuple #[.slice A p.length c, .agg #[.int .i64 t.1, .string ⟨t.2.toArray⟩], .int .i64 (n : Int)])) (ho : w'.ownsRow w.heap.size 61 2 (.slice A p.length c) p.length (TL p)) (hb : Below w.heap.size w w') : SplitW d w e w' := by
  unfold SplitW; rw [h]; exact ⟨⟨A, c, he, ho⟩, hb⟩

theorem split_out {d : Tx} (h : ¬ 64 < d.length) : splitT d = if 8 < (outS (sigD d)).1.length then ([], (0, []), 3) else outS (sigD d) := by
  unfold splitT
  rw [if_neg h]
  cases sigD d with
  | none => rfl
  | some q => rfl

set_option maxRecDepth 100000 in
set_option maxHeartbeats 1600000 in
theorem split_k (s : Tx) (w : World) (hs : s.length ≤ 65536) (hm : Mx w) (hv : Vd w) :
    Calls Tryz.prog 93 #[.string ⟨s.toArray⟩] w (SplitW s w) := by
  have hmf : ∀ (fn : Fn) (first cap : Array Value) (w : World), (Instr.makeFunc fn first cap).run Tryz.prog w = .ok (.func fn first cap) w := fun _ _ _ _ => rfl
  have hal : Below w.heap.size w ((w.alloc (.cells #[.string ⟨s.toArray⟩] 9)).alloc (.cells #[.int .i64 0, .string ⟨#[]⟩] 61)) := ((Below.refl _ _).alloc (Nat.le_refl _) _).alloc (by simp) _
  have HAL := Lib.hid hal
  by_cases h64 : 64 < s.length
  · have hI : (64 : Int) < (s.length : Int) := by omega
    have HS := Lib.hid (show splitT s = ([], (0, []), 3) by unfold splitT; rw [if_pos h64])
    clear hal hs hm hv h64
    go_enter Tryz.func93, Tryz.ntmps93
    go_wp2
    exact bodyPost_ret (v := .tuple #[.slice none 0 0, .agg #[.int .i64 0, .string ⟨#[]⟩], .int .i64 3]) (by simp [results, Tryz.results93, go_sem]) rfl (splitW_of HS.out none 0 rfl (World.ownsRow_nil _ _ _ _) HAL.out)
  · have hI : ¬ (64 : Int) < (s.length : Int) := by omega
    have hg : ((w.alloc (.cells #[.string ⟨s.toArray⟩] 9)).alloc (.cells #[.int .i64 0, .string ⟨#[]⟩] 61)).cell? ⟨w.heap.size, 0, none⟩ = some (.string ⟨s.toArray⟩) := cell_of_row _ _ _ _ _ _ (two_new w _ _).1
    have hr := read_s (sigD s) 122 #[] #[.pointer (some ⟨w.heap.size, 0, none⟩)] _ (fun _ _ => rfl) (fun w1 hb => clo_s w.heap.size s w1 hs ((hm.below hal).below hb) ((hv.below hal).below hb) ((hb.cell (World.block_lt_of_cell? _ _ hg)).trans hg))
    have HG := Lib.hid (two_new w (.cells #[.string ⟨s.toArray⟩] 9) (.cells #[.int .i64 0, .string ⟨#[]⟩] 61)).2
    have hsp := split_out h64
    obtain ⟨x, hx⟩ : ∃ x, x = outS (sigD s) := ⟨_, rfl⟩
    rw [← hx] at hr hsp
    obtain ⟨p, ⟨k, c⟩, n⟩ := x
    unfold ReadS at hr
    dsimp only at hr hsp
    have HR := Lib.hid hr
    clear hr hg hal hs hm hv hx h64
    by_cases h8 : 8 < p.length
    · have h8I : (8 : Int) < (p.length : Int) := by omega
      rw [if_pos h8] at hsp
      have HS := Lib.hid hsp
      clear hsp h8
      go_enter Tryz.func93, Tryz.ntmps93
      go_wp2_with fail
      refine HR.out.mono ?_
      rintro e w1 ⟨⟨A, cc, rfl, hown⟩, hb1⟩
      have hce := (hb1.block (w.heap.size + 1) (by simp)).trans HG.out
      have c0 : w1.cell? ⟨w.heap.size + 1, 0, none⟩ = some (.int .i64 0) := cell_of_row _ _ _ _ _ _ hce
      have c1 : w1.cell? ⟨w.heap.size + 1, 1, none⟩ = some (.string ⟨#[]⟩) := cell_of_row _ _ _ _ _ _ hce
      have f0 := frozen_of_row w1 _ 0 _ _ hce
      have f1 := frozen_of_row w1 _ 1 _ _ hce
      have hlt := blk_lt hce
      have HB := Lib.hid (HAL.out.trans (hb1.mono (by simp; omega)))
      obtain ⟨z0, z1⟩ := two_alloc hce (.int .i64 0) (.string ⟨#[]⟩) (.cells #[.slice A p.length cc, .int .i64 k, .string ⟨c.toArray⟩] 136)
      clear hb1 hce hown
      go_wp2
      exact bodyPost_ret (v := .tuple #[.slice none 0 0, .agg #[.int .i64 0, .string ⟨#[]⟩], .int .i64 3]) (by simp [results, Tryz.results93, go_sem, z0, z1]) rfl (splitW_of HS.out none 0 rfl (World.ownsRow_nil _ _ _ _) (((HB.out.setCell (by simp) _).setCell (by simp) _).alloc (by simp; omega) _))
    · have h8I : ¬ (8 : Int) < (p.length : Int) := by omega
      rw [if_neg h8] at hsp
      have HS := Lib.hid hsp
      clear hsp h8
      go_enter Tryz.func93, Tryz.ntmps93
      go_wp2_with fail
      refine HR.out.mono ?_
      rintro e w1 ⟨⟨A, cc, rfl, hown⟩, hb1⟩
      have hce := (hb1.block (w.heap.size + 1) (by simp)).trans HG.out
      have c0 : w1.cell? ⟨w.heap.size + 1, 0, none⟩ = some (.int .i64 0) := cell_of_row _ _ _ _ _ _ hce
      have c1 : w1.cell? ⟨w.heap.size + 1, 1, none⟩ = some (.string ⟨#[]⟩) := cell_of_row _ _ _ _ _ _ hce
      have f0 := frozen_of_row w1 _ 0 _ _ hce
      have f1 := frozen_of_row w1 _ 1 _ _ hce
      have hlt := blk_lt hce
      have HB := Lib.hid (HAL.out.trans (hb1.mono (by simp; omega)))
      have HO := Lib.hid hown
      have HCE := Lib.hid hce
      clear hb1 hce hown c0 c1 f0 f1
      go_wp2
      have hW := Lib.hid ((Below.refl w1.heap.size w1).alloc (Nat.le_refl _) (.cells #[.slice A p.length cc, .int .i64 k, .string ⟨c.toArray⟩] 136))
      have hn5 := heap_alloc_new w1 (.cells #[.slice A p.length cc, .int .i64 k, .string ⟨c.toArray⟩] 136)
      have hce := (hW.out.block _ hlt).trans HCE.out
      have HOW := Lib.hid (own_below HO.out hW.out)
      have HBW := Lib.hid (HB.out.trans (hW.out.mono HB.out.size))
      generalize hgW : w1.alloc (.cells #[.slice A p.length cc, .int .i64 k, .string ⟨c.toArray⟩] 136) = W at *
      have d0 : W.cell? ⟨w1.heap.size, 0, none⟩ = some (.slice A p.length cc) := cell_of_row _ _ _ _ _ _ hn5
      have d1 : W.cell? ⟨w1.heap.size, 1, none⟩ = some (.int .i64 k) := cell_of_row _ _ _ _ _ _ hn5
      have d2 : W.cell? ⟨w1.heap.size, 2, none⟩ = some (.string ⟨c.toArray⟩) := cell_of_row _ _ _ _ _ _ hn5
      have c0 : W.cell? ⟨w.heap.size + 1, 0, none⟩ = some (.int .i64 0) := cell_of_row _ _ _ _ _ _ hce
      have c1 : W.cell? ⟨w.heap.size + 1, 1, none⟩ = some (.string ⟨#[]⟩) := cell_of_row _ _ _ _ _ _ hce
      have f0 := frozen_of_row W _ 0 _ _ hce
      have f1 := frozen_of_row W _ 1 _ _ hce
      have hne : ¬ w1.heap.size = w.heap.size + 1 := by omega
      have hne' : ¬ w.heap.size + 1 = w1.heap.size := by omega
      obtain ⟨z0, z1, -⟩ := two_set hce (.int .i64 k) (.string ⟨c.toArray⟩)
      have HZ0 := Lib.hid z0; have HZ1 := Lib.hid z1
      clear hgW hn5 hce hlt hW z0 z1
      generalize w1.heap.size = g at *
      rw [show ((w.alloc (.cells #[.string ⟨s.toArray⟩] 9)).alloc (.cells #[.int .i64 0, .string ⟨#[]⟩] 61)).heap.size = w.heap.size + 2 by simp] at HOW
      have HO3 := Lib.hid (own_base (own_but HOW.out (b := w.heap.size + 1) (by omega) (((But.refl (w.heap.size + 1) W).set 0 (.int .i64 k)).set 1 (.string ⟨c.toArray⟩))) (base' := w.heap.size) (by omega))
      have HB3 := Lib.hid ((HBW.out.setCell (p := ⟨w.heap.size + 1, 0, none⟩) (by simp) (.int .i64 k)).setCell (p := ⟨w.heap.size + 1, 1, none⟩) (by simp) (.string ⟨c.toArray⟩))
      go_region
      have z0 := HZ0.out; have z1 := HZ1.out
      go_wp2
      exact bodyPost_ret (v := .tuple #[.slice A p.length cc, .agg #[.int .i64 k, .string ⟨c.toArray⟩], .int .i64 (n : Int)]) (by simp [results, Tryz.results93, go_sem, z0, z1]) rfl (splitW_of HS.out A cc rfl HO3.out (over (q := 1) HB3.out))
end Go.Proofs.YtjcdgpfffmnneaaGreatDoor.kind

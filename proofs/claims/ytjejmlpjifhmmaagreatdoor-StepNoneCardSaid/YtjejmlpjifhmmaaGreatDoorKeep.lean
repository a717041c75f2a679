/- Keep -/
import Derived.Test.YtjejmlpjifhmmaaGreatDoorKindS
import Derived.Laws.OwnMore
import Derived.RangeFuncNested
import Derived.RangeFuncBound
import Derived.RangeFuncCalls
import Derived.RangeFuncLeaves
import Derived.RangeFuncBox
import Derived.Shelf.Abstract
import Derived.Shelf.RegionOpen
import Derived.WalkKit
import Derived.OwnWalkIn
import Derived.TacticsInMore
import Derived.LoopNIn
import Derived.LoopIn
import Derived.Maps.AppendAt
import Derived.Deep.RegionHeld3
import Derived.IntWalk
import Derived.Deep.QuietTactic
import Derived.BigQuiet
import Derived.Sort.Walk0
import Derived.WalkLawsBesides
import Derived.Laws.MakeOwn
import Derived.Test.YtjejmlpjifhmmaaGreatDoorWordA
import Derived.RegionTactic
namespace Go.Proofs.YtjejmlpjifhmmaaGreatDoor.kind
open Go.RowKit
open words kindp word rdr
set_option maxRecDepth 100000
set_option maxHeartbeats 1600000
theorem idle_s (g : Nat) (w : World) :
    CallsD Tryz.prog 214 #[.pointer (some ⟨g, 0, none⟩)] .returning w fun e u' w' => e = .returned (.tuple #[]) ∧ u' = .returning ∧ w' = w := by
  refine callsD_of_wpS Tryz.func214 rfl fun c₀ cs hu => ?_
  simp only [Tryz.ntmps214, List.size_toArray, List.length_cons, List.length_nil, Nat.reduceAdd, Nat.reduceSub, Array.replicate_succ,
     Array.replicate_zero, List.push_toArray, List.append_toArray, List.nil_append, List.cons_append]
  apply wpS_seq
  apply wpS_region
  simp [wpOpsS, go_sem, recoverD, hu, Exit.thenS]
  refine wpS_of_wp ?_
  have hnn : ∀ w : World, (binOp .eql 20 .nilIface .nilIface).run Tryz.prog w = .ok (.bool true) w := fun _ => by kernel_rfl
  go_wp2
  cases c₀
  simp only at hu
  subst hu
  exact ⟨rfl, _, rfl, _, results_none rfl _ _ _, rfl, rfl, rfl⟩
theorem catch_s (g : Nat) (w : World) (t : TypeId) (hg : w.heap[g]? = some (.cells #[.int .i64 0] t (0, 0))) :
    CallsD Tryz.prog 214 #[.pointer (some ⟨g, 0, none⟩)] (.panicking [{ v := noV, recovered := false }]) w (Caught g t w) := by
  refine callsD_of_wpS Tryz.func214 rfl fun c₀ cs hu => ?_
  simp only [Tryz.ntmps214, List.size_toArray, List.length_cons, List.length_nil, Nat.reduceAdd, Nat.reduceSub, Array.replicate_succ,
     Array.replicate_zero, List.push_toArray, List.append_toArray, List.nil_append, List.cons_append]
  apply wpS_seq
  apply wpS_region
  simp [wpOpsS, go_sem, recoverD, hu, Exit.thenS]
  refine wpS_of_wp ?_
  unfold noV
  have hta : ∀ (v : Value) (w : World), (Instr.typeAssert (.iface 347 v) 20 347 true).run Tryz.prog w = .ok (.tuple #[v, .bool true]) w := fun _ _ => by kernel_rfl
  have hnn : ∀ (v : Value) (w : World), (binOp .eql 20 (.iface 347 v) .nilIface).run Tryz.prog w = .ok (.bool false) w := fun _ _ => by kernel_rfl
  have c0 : w.cell? ⟨g, 0, none⟩ = some (.int .i64 0) := cell_of_row w g 0 _ _ _ hg
  have f0 := frozen_of_row w g 0 _ _ hg
  have hlt := blk_lt hg
  have HA := zh (caught_at (u := 347) hg)
  have HA2 := zh (caught_at2 (u := 347) hg)
  clear hg
  go_wp2
  cases c₀
  exact ⟨rfl, _, rfl, _, results_none rfl _ _ _, rfl, rfl, by first | exact HA.out.1 | exact HA2.out.1, by first | exact HA.out.2 | exact HA2.out.2⟩
def outS (q : Option (List Ty × Ty)) : List Ty × Ty × Nat := match q with | some (p, t) => (p, t, 0) | none => ([], (0, []), 1)
def ReadS (x : List Ty × Ty × Nat) (w : World) (e : Ending) (w' : World) : Prop :=
  (∃ A c, e = .returned (.tuple #[.agg #[.slice A x.1.length c, .int .i64 x.2.1.1, .string ⟨x.2.1.2.toArray⟩], .int .i64 (x.2.2 : Int)]) ∧ w'.ownsRow w.heap.size 165 2 (.slice A x.1.length c) x.1.length (TL x.1)) ∧ Below w.heap.size w w'
theorem read_s (q : Option (List Ty × Ty)) (K : Nat) (fi ca : Array Value) (w : World)
    (hcf : ∀ (args : Array Value) (w : World), (callFunc K args).run Tryz.prog w = .ok (.enter K args) w) (hk : ∀ w1, Below w.heap.size w w1 → Calls Tryz.prog K (fi ++ ca) w1 (GaveS q w1)) :
    Calls Tryz.prog 159 #[.func (.func K) fi ca] w (ReadS (outS q) w) := by
  have hmf : ∀ (fn : Fn) (first cap : Array Value) (w : World), (Instr.makeFunc fn first cap).run Tryz.prog w = .ok (.func fn first cap) w := fun _ _ _ _ => rfl
  have hal : Below w.heap.size w ((w.alloc (.cells #[.slice none 0 0, .int .i64 0, .string ⟨#[]⟩] 290)).alloc (.cells #[.int .i64 0] 244)) := ((Below.refl _ _).alloc (Nat.le_refl _) _).alloc (by simp) _
  have HK := zh (hk _ hal)
  have HAL := zh hal
  clear hk hal
  cases q with
  | none =>
    go_enter_defers Tryz.func159, Tryz.ntmps159
    go_wp2_with fail
    refine HK.out.mono ?_
    rintro e w1 ⟨rfl, hb1⟩
    have hg0 := (hb1.block (w.heap.size) (by simp; omega)).trans (two_new w _ _).1
    have hg := (hb1.block (w.heap.size + 1) (by simp)).trans (two_new w _ _).2
    have HB := zh (HAL.out.trans (hb1.mono (by simp; omega)))
    have HG0 := zh hg0; have HG := zh hg
    clear hg hg0 hb1
    show Leaves _ _ _ _ _ _ _
    refine leaves_cons (f := 214) (args := #[.pointer (some ⟨w.heap.size + 1, 0, none⟩)]) (by simp) (by simp [go_sem]) ?_
    refine (catch_s (w.heap.size + 1) _ _ HG.out).mono ?_
    rintro e u' w2 ⟨rfl, rfl, hg2, hbt⟩
    have hg3 := (hbt.block _ (blk_lt HG0.out) (fun e => absurd (Option.some.inj e) (by omega))).trans HG0.out
    have c0 : w2.cell? ⟨w.heap.size, 0, none⟩ = some (.slice none 0 0) := cell_of_row _ _ _ _ _ _ hg3
    have c1 : w2.cell? ⟨w.heap.size, 1, none⟩ = some (.int .i64 0) := cell_of_row _ _ _ _ _ _ hg3
    have c3 : w2.cell? ⟨w.heap.size, 2, none⟩ = some (.string ⟨#[]⟩) := cell_of_row _ _ _ _ _ _ hg3
    have c2 : w2.cell? ⟨w.heap.size + 1, 0, none⟩ = some (.int .i64 1) := cell_of_row _ _ _ _ _ _ hg2
    exact ⟨.tuple #[.agg #[.slice none 0 0, .int .i64 0, .string ⟨#[]⟩], .int .i64 1], by simp [results, Tryz.results159, go_sem, c0, c1, c2, c3], ⟨none, 0, rfl, World.ownsRow_nil _ _ _ _⟩, HB.out.trans (hbt.below (by omega) HB.out.size)⟩
  | some pt =>
    obtain ⟨p, ⟨k, c⟩⟩ := pt
    go_enter_defers Tryz.func159, Tryz.ntmps159
    go_wp2_with fail
    refine HK.out.mono ?_
    rintro e w1 ⟨⟨v, rfl, hown⟩, hb1⟩
    obtain ⟨A, cc, rfl, _, _, _⟩ := own_rd hown
    dsimp only
    have hg0 := (hb1.block (w.heap.size) (by simp; omega)).trans (two_new w _ _).1
    have hg := (hb1.block (w.heap.size + 1) (by simp)).trans (two_new w _ _).2
    have c0 : w1.cell? ⟨w.heap.size, 0, none⟩ = some (.slice none 0 0) := cell_of_row _ _ _ _ _ _ hg0
    have c1 : w1.cell? ⟨w.heap.size, 1, none⟩ = some (.int .i64 0) := cell_of_row _ _ _ _ _ _ hg0
    have c3 : w1.cell? ⟨w.heap.size, 2, none⟩ = some (.string ⟨#[]⟩) := cell_of_row _ _ _ _ _ _ hg0
    have c2 : w1.cell? ⟨w.heap.size + 1, 0, none⟩ = some (.int .i64 0) := cell_of_row _ _ _ _ _ _ hg
    have f0 := frozen_of_row w1 _ 0 _ _ hg0
    have f1 := frozen_of_row w1 _ 1 _ _ hg0
    have f3 := frozen_of_row w1 _ 2 _ _ hg0
    have f2 := frozen_of_row w1 _ 0 _ _ hg
    have HB := zh (HAL.out.trans (hb1.mono (by simp; omega)))
    have HG0 := zh hg0; have HG := zh hg
    obtain ⟨z0, z1, z3⟩ := three_set HG0.out (.slice A p.length cc) (.int .i64 k) (.string ⟨c.toArray⟩)
    rw [show ((w.alloc (.cells #[.slice none 0 0, .int .i64 0, .string ⟨#[]⟩] 290)).alloc (.cells #[.int .i64 0] 244)).heap.size = w.heap.size + 2 by simp] at hown
    have HO := zh (own_base (own_but (own_but hown (b := w.heap.size) (by omega) ((((But.refl w.heap.size w1).set 0 (.slice A p.length cc)).set 1 (.int .i64 k)).set 2 (.string ⟨c.toArray⟩))) (b := w.heap.size + 1) (by omega) ((But.refl (w.heap.size + 1) _).set 0 (.int .i64 0))) (base' := w.heap.size) (by omega))
    clear hg hg0 hb1 hown
    go_wp2
    refine leaves_cons (f := 214) (args := #[.pointer (some ⟨w.heap.size + 1, 0, none⟩)]) (by simp) (by simp [go_sem]) ?_
    refine (idle_s _ _).mono ?_
    rintro e u' w2 ⟨rfl, rfl, rfl⟩
    exact ⟨.tuple #[.agg #[.slice A p.length cc, .int .i64 k, .string ⟨c.toArray⟩], .int .i64 0], by simp [results, Tryz.results159, go_sem, c2, z0, z1, z3], ⟨A, cc, rfl, HO.out⟩, (((HB.out.setCell (by simp) _).setCell (by simp) _).setCell (by simp) _).setCell (by simp) _⟩
theorem clo_s (g : Nat) (s : Tx) (w : World) (hs : s.length ≤ 65536) (hm : Mx w) (hv : Vd w) (hg : w.cell? ⟨g, 0, none⟩ = some (.string ⟨s.toArray⟩)) :
    Calls Tryz.prog 160 #[.pointer (some ⟨g, 0, none⟩)] w (GaveS (sigD s) w) := by
  have hal : Below w.heap.size w (w.alloc (.cells #[.slice none 0 0, .int .i64 0, .string ⟨#[]⟩] 290)) := (Below.refl _ _).alloc (Nat.le_refl _) _
  have hg2 := (hal.cell (World.block_lt_of_cell? _ _ hg)).trans hg
  have HK := zh (sig_w s _ hs (hm.below hal) (hv.below hal))
  have HAL := zh hal
  cases h : sigD s with
  | none =>
    rw [h] at HK
    clear h hs hm hv hal
    go_enter Tryz.func160, Tryz.ntmps160
    go_wp2_with fail
    refine HK.out.mono ?_
    rintro e w1 ⟨rfl, hb1⟩
    exact ⟨rfl, gaveS_none rfl rfl (HAL.out.trans (hb1.mono (by simp)))⟩
  | some pt =>
    obtain ⟨p, ⟨k, c⟩⟩ := pt
    rw [h] at HK
    clear h hs hm hv hal
    go_enter Tryz.func160, Tryz.ntmps160
    go_wp2_with fail
    refine HK.out.mono ?_
    rintro e w1 ⟨⟨v, rfl, hown⟩, hb1⟩
    obtain ⟨A, cc, rfl, _, _, _⟩ := own_rd hown
    dsimp only
    have hce := (hb1.block w.heap.size (by simp)).trans (heap_alloc_new w _)
    obtain ⟨z0, z1, z2⟩ := three_set hce (.slice A p.length cc) (.int .i64 k) (.string ⟨c.toArray⟩)
    have c0 : w1.cell? ⟨w.heap.size, 0, none⟩ = some (.slice none 0 0) := cell_of_row _ _ _ _ _ _ hce
    have c1 : w1.cell? ⟨w.heap.size, 1, none⟩ = some (.int .i64 0) := cell_of_row _ _ _ _ _ _ hce
    have c2 : w1.cell? ⟨w.heap.size, 2, none⟩ = some (.string ⟨#[]⟩) := cell_of_row _ _ _ _ _ _ hce
    have f0 := frozen_of_row w1 _ 0 _ _ hce
    have f1 := frozen_of_row w1 _ 1 _ _ hce
    have f2 := frozen_of_row w1 _ 2 _ _ hce
    have HB := zh (HAL.out.trans (hb1.mono (by simp)))
    rw [show (w.alloc (.cells #[.slice none 0 0, .int .i64 0, .string ⟨#[]⟩] 290)).heap.size = w.heap.size + 1 by simp] at hown
    have HO := zh (own_base (own_but hown (b := w.heap.size) (by omega) ((((But.refl w.heap.size w1).set 0 (.slice A p.length cc)).set 1 (.int .i64 k)).set 2 (.string ⟨c.toArray⟩))) (base' := w.heap.size) (by omega))
    clear hb1 hce hown
    go_wp2
    exact bodyPost_ret (v := .agg #[.slice A p.length cc, .int .i64 k, .string ⟨c.toArray⟩]) (by simp [results, Tryz.results160, go_sem, z0, z1, z2]) rfl (gaveS_some rfl _ rfl HO.out (((HB.out.setCell (by simp) _).setCell (by simp) _).setCell (by simp) _))
def SplitW (d : Tx) (w : World) (e : Ending) (w' : World) : Prop :=
  (∃ A c, e = .returned (.tuple #[.slice A (splitT d).1.length c, .agg #[.int .i64 (splitT d).2.1.1, .string ⟨(splitT d).2.1.2.toArray⟩], .int .i64 ((splitT d).2.2 : Int)]) ∧ w'.ownsRow w.heap.size 165 2 (.slice A (splitT d).1.length c) (splitT d).1.length (TL (splitT d).1)) ∧ Below w.heap.size w w'
theorem splitW_of {d : Tx} {p : List Ty} {t : Ty} {n : Nat} {w w' : World} {e : Ending} (h : splitT d = (p, t, n)) (A : Option Addr) (c : Nat) (he : e = .returned (.tuple #[.slice A p.length c, .agg #[.int .i64 t.1, .string ⟨t.2.toArray⟩], .int .i64 (n : Int)])) (ho : w'.ownsRow w.heap.size 165 2 (.slice A p.length c) p.length (TL p)) (hb : Below w.heap.size w w') : SplitW d w e w' := by
  unfold SplitW; rw [h]; exact ⟨⟨A, c, he, ho⟩, hb⟩
theorem split_out {d : Tx} (h : ¬ 64 < d.length) : splitT d = if 8 < (outS (sigD d)).1.length then ([], (0, []), 3) else outS (sigD d) := by
  unfold splitT
  rw [if_neg h]
  cases sigD d with
  | none => rfl
  | some q => rfl
theorem split_k (s : Tx) (w : World) (hs : s.length ≤ 65536) (hm : Mx w) (hv : Vd w) :
    Calls Tryz.prog 112 #[.string ⟨s.toArray⟩] w (SplitW s w) := by
  have hmf : ∀ (fn : Fn) (first cap : Array Value) (w : World), (Instr.makeFunc fn first cap).run Tryz.prog w = .ok (.func fn first cap) w := fun _ _ _ _ => rfl
  have hal : Below w.heap.size w ((w.alloc (.cells #[.string ⟨s.toArray⟩] 9)).alloc (.cells #[.int .i64 0, .string ⟨#[]⟩] 165)) := ((Below.refl _ _).alloc (Nat.le_refl _) _).alloc (by simp) _
  have HAL := zh hal
  by_cases h64 : 64 < s.length
  · have hI : (64 : Int) < (s.length : Int) := by omega
    have HS := zh (show splitT s = ([], (0, []), 3) by unfold splitT; rw [if_pos h64])
    clear hal hs hm hv h64
    go_enter Tryz.func112, Tryz.ntmps112
    go_wp2
    exact bodyPost_ret (v := .tuple #[.slice none 0 0, .agg #[.int .i64 0, .string ⟨#[]⟩], .int .i64 3]) (by simp [results, Tryz.results112, go_sem]) rfl (splitW_of HS.out none 0 rfl (World.ownsRow_nil _ _ _ _) HAL.out)
  · have hI : ¬ (64 : Int) < (s.length : Int) := by omega
    have hg : ((w.alloc (.cells #[.string ⟨s.toArray⟩] 9)).alloc (.cells #[.int .i64 0, .string ⟨#[]⟩] 165)).cell? ⟨w.heap.size, 0, none⟩ = some (.string ⟨s.toArray⟩) := cell_of_row _ _ _ _ _ _ (two_new w _ _).1
    have hr := read_s (sigD s) 160 #[] #[.pointer (some ⟨w.heap.size, 0, none⟩)] _ (fun _ _ => rfl) (fun w1 hb => clo_s w.heap.size s w1 hs ((hm.below hal).below hb) ((hv.below hal).below hb) ((hb.cell (World.block_lt_of_cell? _ _ hg)).trans hg))
    have HG := zh (two_new w (.cells #[.string ⟨s.toArray⟩] 9) (.cells #[.int .i64 0, .string ⟨#[]⟩] 165)).2
    have hsp := split_out h64
    obtain ⟨x, hx⟩ : ∃ x, x = outS (sigD s) := ⟨_, rfl⟩
    rw [← hx] at hr hsp
    obtain ⟨p, ⟨k, c⟩, n⟩ := x
    unfold ReadS at hr
    dsimp only at hr hsp
    have HR := zh hr
    clear hr hg hal hs hm hv hx h64
    by_cases h8 : 8 < p.length
    · have h8I : (8 : Int) < (p.length : Int) := by omega
      rw [if_pos h8] at hsp
      have HS := zh hsp
      clear hsp h8
      go_enter Tryz.func112, Tryz.ntmps112
      go_wp2_with fail
      refine HR.out.mono ?_
      rintro e w1 ⟨⟨A, cc, rfl, hown⟩, hb1⟩
      have hce := (hb1.block (w.heap.size + 1) (by simp)).trans HG.out
      have c0 : w1.cell? ⟨w.heap.size + 1, 0, none⟩ = some (.int .i64 0) := cell_of_row _ _ _ _ _ _ hce
      have c1 : w1.cell? ⟨w.heap.size + 1, 1, none⟩ = some (.string ⟨#[]⟩) := cell_of_row _ _ _ _ _ _ hce
      have f0 := frozen_of_row w1 _ 0 _ _ hce
      have f1 := frozen_of_row w1 _ 1 _ _ hce
      have hlt := blk_lt hce
      have HB := zh (HAL.out.trans (hb1.mono (by simp; omega)))
      obtain ⟨z0, z1⟩ := two_alloc hce (.int .i64 0) (.string ⟨#[]⟩) (.cells #[.slice A p.length cc, .int .i64 k, .string ⟨c.toArray⟩] 290)
      clear hb1 hce hown
      go_wp2
      exact bodyPost_ret (v := .tuple #[.slice none 0 0, .agg #[.int .i64 0, .string ⟨#[]⟩], .int .i64 3]) (by simp [results, Tryz.results112, go_sem, z0, z1]) rfl (splitW_of HS.out none 0 rfl (World.ownsRow_nil _ _ _ _) (((HB.out.setCell (by simp) _).setCell (by simp) _).alloc (by simp; omega) _))
    · have h8I : ¬ (8 : Int) < (p.length : Int) := by omega
      rw [if_neg h8] at hsp
      have HS := zh hsp
      clear hsp h8
      go_enter Tryz.func112, Tryz.ntmps112
      go_wp2_with fail
      refine HR.out.mono ?_
      rintro e w1 ⟨⟨A, cc, rfl, hown⟩, hb1⟩
      have hce := (hb1.block (w.heap.size + 1) (by simp)).trans HG.out
      have c0 : w1.cell? ⟨w.heap.size + 1, 0, none⟩ = some (.int .i64 0) := cell_of_row _ _ _ _ _ _ hce
      have c1 : w1.cell? ⟨w.heap.size + 1, 1, none⟩ = some (.string ⟨#[]⟩) := cell_of_row _ _ _ _ _ _ hce
      have f0 := frozen_of_row w1 _ 0 _ _ hce
      have f1 := frozen_of_row w1 _ 1 _ _ hce
      have hlt := blk_lt hce
      have HB := zh (HAL.out.trans (hb1.mono (by simp; omega)))
      have HO := zh hown
      have HCE := zh hce
      clear hb1 hce hown c0 c1 f0 f1
      go_wp2
      have hW := zh ((Below.refl w1.heap.size w1).alloc (Nat.le_refl _) (.cells #[.slice A p.length cc, .int .i64 k, .string ⟨c.toArray⟩] 290))
      have hn5 := heap_alloc_new w1 (.cells #[.slice A p.length cc, .int .i64 k, .string ⟨c.toArray⟩] 290)
      have hce := (hW.out.block _ hlt).trans HCE.out
      have HOW := zh (own_below HO.out hW.out)
      have HBW := zh (HB.out.trans (hW.out.mono HB.out.size))
      generalize hgW : w1.alloc (.cells #[.slice A p.length cc, .int .i64 k, .string ⟨c.toArray⟩] 290) = W at *
      have d0 : W.cell? ⟨w1.heap.size, 0, none⟩ = some (.slice A p.length cc) := cell_of_row _ _ _ _ _ _ hn5
      have d1 : W.cell? ⟨w1.heap.size, 1, none⟩ = some (.int .i64 k) := cell_of_row _ _ _ _ _ _ hn5
      have d2 : W.cell? ⟨w1.heap.size, 2, none⟩ = some (.string ⟨c.toArray⟩) := cell_of_row _ _ _ _ _ _ hn5
      have c0 : W.cell? ⟨w.heap.size + 1, 0, none⟩ = some (.int .i64 0) := cell_of_row _ _ _ _ _ _ hce
      have c1 : W.cell? ⟨w.heap.size + 1, 1, none⟩ = some (.string ⟨#[]⟩) := cell_of_row _ _ _ _ _ _ hce
      have f0 := frozen_of_row W _ 0 _ _ hce
      have f1 := frozen_of_row W _ 1 _ _ hce
      have hne : ¬ w1.heap.size = w.heap.size + 1 := by omega
      have hne' : ¬ w.heap.size + 1 = w1.heap.size := by omega
      obtain ⟨z0, z1, -⟩ := two_set hce (.int .i64 k) (.string ⟨c.toArray⟩)
      have HZ0 := zh z0; have HZ1 := zh z1
      clear hgW hn5 hce hlt hW z0 z1
      generalize w1.heap.size = g at *
      rw [show ((w.alloc (.cells #[.string ⟨s.toArray⟩] 9)).alloc (.cells #[.int .i64 0, .string ⟨#[]⟩] 165)).heap.size = w.heap.size + 2 by simp] at HOW
      have HO3 := zh (own_base (own_but HOW.out (b := w.heap.size + 1) (by omega) (((But.refl (w.heap.size + 1) W).set 0 (.int .i64 k)).set 1 (.string ⟨c.toArray⟩))) (base' := w.heap.size) (by omega))
      have HB3 := zh ((HBW.out.setCell (p := ⟨w.heap.size + 1, 0, none⟩) (by simp) (.int .i64 k)).setCell (p := ⟨w.heap.size + 1, 1, none⟩) (by simp) (.string ⟨c.toArray⟩))
      go_region
      have z0 := HZ0.out; have z1 := HZ1.out
      go_wp2
      exact bodyPost_ret (v := .tuple #[.slice A p.length cc, .agg #[.int .i64 k, .string ⟨c.toArray⟩], .int .i64 (n : Int)]) (by simp [results, Tryz.results112, go_sem, z0, z1]) rfl (splitW_of HS.out A cc rfl HO3.out (over (q := 1) HB3.out))
end Go.Proofs.YtjejmlpjifhmmaaGreatDoor.kind
namespace Go.Proofs.YtjejmlpjifhmmaaGreatDoor.kind
open Go.RowKit
open words kindp word rdr
set_option maxRecDepth 100000
def Idx {α : Type} (P : α → Bool) (p : List α) (r : Int) : Prop := (r = -1 ∧ ∀ x ∈ p, P x = false) ∨ ∃ (i : Nat) (x : α), r = (i : Int) ∧ p[i]? = some x ∧ P x = true ∧ ∀ y ∈ p.take i, P y = false
theorem take_more {α : Type} {P : α → Bool} {p : List α} {k : Nat} {x : α} (h : ∀ y ∈ p.take k, P y = false) (hx : p[k]? = some x) (hp : P x = false) : ∀ y ∈ p.take (k + 1), P y = false := by
 intro y hy
 rw [List.take_add_one, hx] at hy
 rcases List.mem_append.1 hy with h1 | h1
 ·exact h y h1
 ·simp at h1; rw [h1]; exact hp
end Go.Proofs.YtjejmlpjifhmmaaGreatDoor.kind
namespace Go.Proofs.YtjejmlpjifhmmaaGreatDoor.kind
open Go.RowKit
open words kindp word rdr
set_option maxRecDepth 100000
end Go.Proofs.YtjejmlpjifhmmaaGreatDoor.kind
namespace Go.Proofs.YtjejmlpjifhmmaaGreatDoor.kind
open Go.RowKit
open words kindp word rdr
set_option maxRecDepth 100000
def PL (l : List Pr) : List Value := l.flatMap fun q => [.string ⟨q.1.toArray⟩, .string ⟨q.2.toArray⟩]
end Go.Proofs.YtjejmlpjifhmmaaGreatDoor.kind
namespace Go.Proofs.YtjejmlpjifhmmaaGreatDoor.kind
open Go.RowKit
open words kindp word rdr
set_option maxRecDepth 100000
end Go.Proofs.YtjejmlpjifhmmaaGreatDoor.kind
namespace Go.Proofs.YtjejmlpjifhmmaaGreatDoor.kind
open Go.RowKit
open words kindp word rdr
set_option maxRecDepth 100000
def SX (l : List Tx) : List Value := l.map fun x => .string ⟨x.toArray⟩
theorem SX_app (a b : List Tx) : SX (a ++ b) = SX a ++ SX b := by simp [SX]
theorem infoX : (Tryz.prog.info? 9).map (fun i => (i.zero, i.size, i.bytes)) = some (some (.string ⟨#[]⟩), 1, 16) := by kernel_rfl
end Go.Proofs.YtjejmlpjifhmmaaGreatDoor.kind
namespace Go.Proofs.YtjejmlpjifhmmaaGreatDoor.prg
open Go.RowKit
open words kindp opp op kind
structure InM where
 i : In
 A : Option Addr
 c : Nat
structure FiM where
 nm : Tx
 k : Int
 cl : Tx
 st : Bool
structure MeM where
 nm : Tx
 ds : Tx
 st : Bool
 ab : Bool
 rg : Int
 co : List InM
 A : Option Addr
 c : Nat
structure ClM where
 nm : Tx
 su : Tx
 fc : Bool
 ab : Bool
 is : List Tx
 A1 : Option Addr
 c1 : Nat
 fs : List FiM
 A2 : Option Addr
 c2 : Nat
 ms : List MeM
 A3 : Option Addr
 c3 : Nat
structure PrM where
 cs : List ClM
 A1 : Option Addr
 c1 : Nat
 ns : List Tx
 A2 : Option Addr
 c2 : Nat
 ec : Tx
 en : Tx
 ed : Tx
def inC (x : InM) : List Value := [.int .i64 x.i.o, .int .i64 x.i.a, .int .i64 x.i.b, .int .i64 x.i.c, .int .i64 x.i.k, .string ⟨x.i.cl.toArray⟩, .string ⟨x.i.nm.toArray⟩, .string ⟨x.i.ds.toArray⟩, .slice x.A x.i.ar.length x.c]
def fiC (x : FiM) : List Value := [.string ⟨x.nm.toArray⟩, .int .i64 x.k, .string ⟨x.cl.toArray⟩, .bool x.st]
def meC (x : MeM) : List Value := [.string ⟨x.nm.toArray⟩, .string ⟨x.ds.toArray⟩, .bool x.st, .bool x.ab, .int .i64 x.rg, .slice x.A x.co.length x.c]
def clC (x : ClM) : List Value := [.string ⟨x.nm.toArray⟩, .string ⟨x.su.toArray⟩, .bool x.fc, .bool x.ab, .slice x.A1 x.is.length x.c1, .slice x.A2 x.fs.length x.c2, .slice x.A3 x.ms.length x.c3]
def prC (x : PrM) : List Value := [.slice x.A1 x.cs.length x.c1, .slice x.A2 x.ns.length x.c2, .string ⟨x.ec.toArray⟩, .string ⟨x.en.toArray⟩, .string ⟨x.ed.toArray⟩]
def InOk (w : World) (x : InM) : Prop := x.i.ar.length ≤ x.c ∧ Rd w x.A (IL x.i.ar)
def MeOk (w : World) (x : MeM) : Prop := x.co.length ≤ x.c ∧ Rd w x.A (x.co.flatMap inC) ∧ ∀ y ∈ x.co, InOk w y
def ClOk (w : World) (x : ClM) : Prop := (x.is.length ≤ x.c1 ∧ Rd w x.A1 (SX x.is)) ∧ (x.fs.length ≤ x.c2 ∧ Rd w x.A2 (x.fs.flatMap fiC)) ∧ (x.ms.length ≤ x.c3 ∧ Rd w x.A3 (x.ms.flatMap meC)) ∧ ∀ y ∈ x.ms, MeOk w y
def PrOk (w : World) (x : PrM) : Prop := (x.cs.length ≤ x.c1 ∧ Rd w x.A1 (x.cs.flatMap clC)) ∧ (x.ns.length ≤ x.c2 ∧ Rd w x.A2 (SX x.ns)) ∧ ∀ y ∈ x.cs, ClOk w y
theorem InOk.below {w w' : World} {x : InM} (h : InOk w x) (hb : Below w.heap.size w w') : InOk w' x := ⟨h.1, h.2.below hb⟩
theorem MeOk.below {w w' : World} {x : MeM} (h : MeOk w x) (hb : Below w.heap.size w w') : MeOk w' x := ⟨h.1, h.2.1.below hb, fun y hy => (h.2.2 y hy).below hb⟩
theorem ClOk.below {w w' : World} {x : ClM} (h : ClOk w x) (hb : Below w.heap.size w w') : ClOk w' x := ⟨⟨h.1.1, h.1.2.below hb⟩, ⟨h.2.1.1, h.2.1.2.below hb⟩, ⟨h.2.2.1.1, h.2.2.1.2.below hb⟩, fun y hy => (h.2.2.2 y hy).below hb⟩
theorem PrOk.below {w w' : World} {x : PrM} (h : PrOk w x) (hb : Below w.heap.size w w') : PrOk w' x := ⟨⟨h.1.1, h.1.2.below hb⟩, ⟨h.2.1.1, h.2.1.2.below hb⟩, fun y hy => (h.2.2 y hy).below hb⟩
def InBd (x : InM) : Prop := x.i.ar.length ≤ 140737488351232 ∧ x.i.cl.length ≤ 140737488351232 ∧ x.i.nm.length ≤ 140737488351232 ∧ x.i.ds.length ≤ 140737488351232
def FiBd (x : FiM) : Prop := x.nm.length ≤ 140737488351232 ∧ x.cl.length ≤ 140737488351232
def MeBd (x : MeM) : Prop := x.nm.length ≤ 140737488351232 ∧ x.ds.length ≤ 140737488351232 ∧ x.co.length ≤ 140737488351232 ∧ ∀ y ∈ x.co, InBd y
def ClBd (x : ClM) : Prop := x.nm.length ≤ 140737488351232 ∧ x.su.length ≤ 140737488351232 ∧ (x.is.length ≤ 140737488351232 ∧ ∀ y ∈ x.is, y.length ≤ 140737488351232) ∧ (x.fs.length ≤ 140737488351232 ∧ ∀ y ∈ x.fs, FiBd y) ∧ (x.ms.length ≤ 140737488351232 ∧ ∀ y ∈ x.ms, MeBd y)
theorem flat_len {α : Type} {f : α → List Value} {k : Nat} (hf : ∀ x, (f x).length = k) : ∀ l : List α, (l.flatMap f).length = l.length * k
 | [] => by simp
 | x :: l => by rw [List.flatMap_cons, List.length_append, hf, flat_len hf l, List.length_cons, Nat.succ_mul, Nat.add_comm]
theorem flat_at {α : Type} {f : α → List Value} {k : Nat} (hf : ∀ x, (f x).length = k) : ∀ {l : List α} {i : Nat} {x : α} {t : Nat} {u : Value}, l[i]? = some x → (f x)[t]? = some u → (l.flatMap f)[i * k + t]? = some u
 | [], _, _, _, _, h, _ => by simp at h
 | y :: l, 0, x, t, u, h, hu => by
  simp at h; subst h
  rw [List.flatMap_cons, Nat.zero_mul, Nat.zero_add, List.getElem?_append_left (List.getElem?_eq_some_iff.1 hu).1]
  exact hu
 | y :: l, i + 1, x, t, u, h, hu => by
  rw [List.flatMap_cons, List.getElem?_append_right (by rw [hf, Nat.succ_mul]; omega), hf, show (i + 1) * k + t - k = i * k + t by rw [Nat.succ_mul]; omega]
  exact flat_at hf (by simpa using h) hu
theorem flat_cell {α : Type} {f : α → List Value} {k : Nat} (hf : ∀ x, (f x).length = k) (hk : 0 < k) {w : World} {A : Option Addr} {l : List α} (h : Rd w A (l.flatMap f)) {i : Nat} {x : α} (hi : l[i]? = some x) :
  ∃ a, A = some a ∧ a.block < w.heap.size ∧ (∀ u, (f x)[0]? = some u → w.cell? (a.add (i * k)) = some u) ∧ ∀ t u, 0 < t → (f x)[t]? = some u → w.cell? ⟨(a.add (i * k)).block, (a.add (i * k)).off + t, none⟩ = some u := by
 obtain ⟨u0, hu0⟩ : ∃ u, (f x)[0]? = some u := ⟨_, List.getElem?_eq_getElem (by rw [hf]; exact hk)⟩
 obtain ⟨a, rfl, hb, -⟩ := h.at_ (flat_at hf hi hu0)
 refine ⟨a, rfl, hb, fun u hu => ?_, fun t u ht hu => ?_⟩
 ·obtain ⟨a', e, _, hc⟩ := h.at_ (flat_at hf hi hu)
  cases e
  simpa using hc
 ·obtain ⟨a', e, _, hc⟩ := h.at_ (flat_at hf hi hu)
  cases e
  rw [← add_add] at hc
  have e2 : (a.add (i * k)).add t = ⟨(a.add (i * k)).block, (a.add (i * k)).off + t, none⟩ := by
   rw [Addr.add, if_neg (by omega)]
  rw [e2] at hc
  exact hc
section
variable {w : World} {A : Option Addr} {i : Nat}
theorem in_at {l : List InM} (h : Rd w A (l.flatMap inC)) {x : InM} (hi : l[i]? = some x) : ∃ a, A = some a ∧ a.block < w.heap.size ∧ w.cell? (a.add (i * 9)) = some (.int .i64 x.i.o) ∧
  w.cell? ⟨(a.add (i * 9)).block, (a.add (i * 9)).off + 1, none⟩ = some (.int .i64 x.i.a) ∧ w.cell? ⟨(a.add (i * 9)).block, (a.add (i * 9)).off + 2, none⟩ = some (.int .i64 x.i.b) ∧ w.cell? ⟨(a.add (i * 9)).block, (a.add (i * 9)).off + 3, none⟩ = some (.int .i64 x.i.c) ∧
  w.cell? ⟨(a.add (i * 9)).block, (a.add (i * 9)).off + 4, none⟩ = some (.int .i64 x.i.k) ∧ w.cell? ⟨(a.add (i * 9)).block, (a.add (i * 9)).off + 5, none⟩ = some (.string ⟨x.i.cl.toArray⟩) ∧ w.cell? ⟨(a.add (i * 9)).block, (a.add (i * 9)).off + 6, none⟩ = some (.string ⟨x.i.nm.toArray⟩) ∧
  w.cell? ⟨(a.add (i * 9)).block, (a.add (i * 9)).off + 7, none⟩ = some (.string ⟨x.i.ds.toArray⟩) ∧ w.cell? ⟨(a.add (i * 9)).block, (a.add (i * 9)).off + 8, none⟩ = some (.slice x.A x.i.ar.length x.c) := by
 obtain ⟨a, rfl, hb, h0, h1⟩ := flat_cell (k := 9) (fun x => rfl) (by omega) h hi
 exact ⟨a, rfl, hb, h0 _ rfl, h1 1 _ (by omega) rfl, h1 2 _ (by omega) rfl, h1 3 _ (by omega) rfl, h1 4 _ (by omega) rfl, h1 5 _ (by omega) rfl, h1 6 _ (by omega) rfl, h1 7 _ (by omega) rfl, h1 8 _ (by omega) rfl⟩
theorem me_at {l : List MeM} (h : Rd w A (l.flatMap meC)) {x : MeM} (hi : l[i]? = some x) : ∃ a, A = some a ∧ a.block < w.heap.size ∧ w.cell? (a.add (i * 6)) = some (.string ⟨x.nm.toArray⟩) ∧
  w.cell? ⟨(a.add (i * 6)).block, (a.add (i * 6)).off + 1, none⟩ = some (.string ⟨x.ds.toArray⟩) ∧ w.cell? ⟨(a.add (i * 6)).block, (a.add (i * 6)).off + 2, none⟩ = some (.bool x.st) ∧ w.cell? ⟨(a.add (i * 6)).block, (a.add (i * 6)).off + 3, none⟩ = some (.bool x.ab) ∧
  w.cell? ⟨(a.add (i * 6)).block, (a.add (i * 6)).off + 4, none⟩ = some (.int .i64 x.rg) ∧ w.cell? ⟨(a.add (i * 6)).block, (a.add (i * 6)).off + 5, none⟩ = some (.slice x.A x.co.length x.c) := by
 obtain ⟨a, rfl, hb, h0, h1⟩ := flat_cell (k := 6) (fun x => rfl) (by omega) h hi
 exact ⟨a, rfl, hb, h0 _ rfl, h1 1 _ (by omega) rfl, h1 2 _ (by omega) rfl, h1 3 _ (by omega) rfl, h1 4 _ (by omega) rfl, h1 5 _ (by omega) rfl⟩
theorem cl_at {l : List ClM} (h : Rd w A (l.flatMap clC)) {x : ClM} (hi : l[i]? = some x) : ∃ a, A = some a ∧ a.block < w.heap.size ∧ w.cell? (a.add (i * 7)) = some (.string ⟨x.nm.toArray⟩) ∧
  w.cell? ⟨(a.add (i * 7)).block, (a.add (i * 7)).off + 1, none⟩ = some (.string ⟨x.su.toArray⟩) ∧ w.cell? ⟨(a.add (i * 7)).block, (a.add (i * 7)).off + 2, none⟩ = some (.bool x.fc) ∧ w.cell? ⟨(a.add (i * 7)).block, (a.add (i * 7)).off + 3, none⟩ = some (.bool x.ab) ∧
  w.cell? ⟨(a.add (i * 7)).block, (a.add (i * 7)).off + 4, none⟩ = some (.slice x.A1 x.is.length x.c1) ∧ w.cell? ⟨(a.add (i * 7)).block, (a.add (i * 7)).off + 5, none⟩ = some (.slice x.A2 x.fs.length x.c2) ∧ w.cell? ⟨(a.add (i * 7)).block, (a.add (i * 7)).off + 6, none⟩ = some (.slice x.A3 x.ms.length x.c3) := by
 obtain ⟨a, rfl, hb, h0, h1⟩ := flat_cell (k := 7) (fun x => rfl) (by omega) h hi
 exact ⟨a, rfl, hb, h0 _ rfl, h1 1 _ (by omega) rfl, h1 2 _ (by omega) rfl, h1 3 _ (by omega) rfl, h1 4 _ (by omega) rfl, h1 5 _ (by omega) rfl, h1 6 _ (by omega) rfl⟩
end
section
variable {w : World} {b t : Nat} {fz : Nat × Nat}
theorem me_cells {x : MeM} (h : w.heap[b]? = some (.cells (meC x).toArray t fz)) : w.cell? ⟨b, 0, none⟩ = some (.string ⟨x.nm.toArray⟩) ∧ w.cell? ⟨b, 1, none⟩ = some (.string ⟨x.ds.toArray⟩) ∧ w.cell? ⟨b, 2, none⟩ = some (.bool x.st) ∧ w.cell? ⟨b, 3, none⟩ = some (.bool x.ab) ∧ w.cell? ⟨b, 4, none⟩ = some (.int .i64 x.rg) ∧ w.cell? ⟨b, 5, none⟩ = some (.slice x.A x.co.length x.c) :=
 ⟨cell_of_row _ _ 0 _ _ _ h, cell_of_row _ _ 1 _ _ _ h, cell_of_row _ _ 2 _ _ _ h, cell_of_row _ _ 3 _ _ _ h, cell_of_row _ _ 4 _ _ _ h, cell_of_row _ _ 5 _ _ _ h⟩
theorem cl_cells {x : ClM} (h : w.heap[b]? = some (.cells (clC x).toArray t fz)) : w.cell? ⟨b, 0, none⟩ = some (.string ⟨x.nm.toArray⟩) ∧ w.cell? ⟨b, 1, none⟩ = some (.string ⟨x.su.toArray⟩) ∧ w.cell? ⟨b, 2, none⟩ = some (.bool x.fc) ∧ w.cell? ⟨b, 3, none⟩ = some (.bool x.ab) ∧ w.cell? ⟨b, 4, none⟩ = some (.slice x.A1 x.is.length x.c1) ∧ w.cell? ⟨b, 5, none⟩ = some (.slice x.A2 x.fs.length x.c2) ∧ w.cell? ⟨b, 6, none⟩ = some (.slice x.A3 x.ms.length x.c3) :=
 ⟨cell_of_row _ _ 0 _ _ _ h, cell_of_row _ _ 1 _ _ _ h, cell_of_row _ _ 2 _ _ _ h, cell_of_row _ _ 3 _ _ _ h, cell_of_row _ _ 4 _ _ _ h, cell_of_row _ _ 5 _ _ _ h, cell_of_row _ _ 6 _ _ _ h⟩
theorem pr_cells {x : PrM} (h : w.heap[b]? = some (.cells (prC x).toArray t fz)) : w.cell? ⟨b, 0, none⟩ = some (.slice x.A1 x.cs.length x.c1) ∧ w.cell? ⟨b, 1, none⟩ = some (.slice x.A2 x.ns.length x.c2) ∧ w.cell? ⟨b, 2, none⟩ = some (.string ⟨x.ec.toArray⟩) ∧ w.cell? ⟨b, 3, none⟩ = some (.string ⟨x.en.toArray⟩) ∧ w.cell? ⟨b, 4, none⟩ = some (.string ⟨x.ed.toArray⟩) :=
 ⟨cell_of_row _ _ 0 _ _ _ h, cell_of_row _ _ 1 _ _ _ h, cell_of_row _ _ 2 _ _ _ h, cell_of_row _ _ 3 _ _ _ h, cell_of_row _ _ 4 _ _ _ h⟩
end
end Go.Proofs.YtjejmlpjifhmmaaGreatDoor.prg
namespace Go.Proofs.YtjejmlpjifhmmaaGreatDoor.op
open Go.RowKit
open words kindp opp
end Go.Proofs.YtjejmlpjifhmmaaGreatDoor.op
namespace Go.Proofs.YtjejmlpjifhmmaaGreatDoor.op
open Go.RowKit Go.Shelf
open words kindp opp
attribute [local go_sem] Oper.semAt_some
def RK (n₀ b : Nat) (W W' : World) : Prop := Below n₀ W W' ∧ KeepsWalks W W' ∧ W'.heap[b]? = W.heap[b]?
end Go.Proofs.YtjejmlpjifhmmaaGreatDoor.op
namespace Go.Proofs.YtjejmlpjifhmmaaGreatDoor.op
open Go.RowKit Go.Shelf
open words kindp opp
attribute [local go_sem] Oper.semAt_some
theorem row_own2 {β : Type} (B : Nat) (cs : Array Value) (t : TypeId) (fz : Nat × Nat) : Own (fun (_ : β) W => W.heap[B]? = some (.cells cs t fz)) := by
 intro s A A' row h hg hr
 refine (hg.block B (Array.getElem?_eq_some_iff.1 h).1 (fun e => ?_)).trans h
 obtain ⟨o, ho, hc⟩ := hr B e.symm
 rw [h] at ho; cases ho; cases hc
end Go.Proofs.YtjejmlpjifhmmaaGreatDoor.op
namespace Go.Proofs.YtjejmlpjifhmmaaGreatDoor.op
open Go.RowKit
open words kindp opp kind
def nmL (c : Tx) : Bool := word.nameB ⟨c.toArray⟩
def formedB (i : In) : Bool := known i.o && (emptyB i (shapeL i.o) && ((!anyL (shapeL i.o) [67, 70, 77] || clsB i.cl) && (!anyL (shapeL i.o) [70, 77] || nmL i.nm)))
end Go.Proofs.YtjejmlpjifhmmaaGreatDoor.op
namespace Go.Proofs.YtjejmlpjifhmmaaGreatDoor.op
open Go.RowKit
open words kindp opp kind
def recv (o : Int) : Nat := if o = 20 ∨ o = 21 then 1 else 0
def descE (i : In) : Int :=
 if (splitT i.ds).2.2 ≠ 0 then 1 else if i.ar.length ≠ (splitT i.ds).1.length + recv i.o then 9 else if (splitT i.ds).2.1.1 = 1 ∧ i.a ≠ 0 then 12 else 0
end Go.Proofs.YtjejmlpjifhmmaaGreatDoor.op
namespace Go.Proofs.YtjejmlpjifhmmaaGreatDoor.op
open Go.RowKit
open words kindp opp kind
def countedB (i : In) (code : Int) : Bool := (!hasL (shapeL i.o) 116 || (decide (0 ≤ i.k) && decide (i.k < code))) && (!hasL (shapeL i.o) 114 || (decide (0 ≤ i.k) && decide (i.k ≤ 9)))
end Go.Proofs.YtjejmlpjifhmmaaGreatDoor.op
namespace Go.Proofs.YtjejmlpjifhmmaaGreatDoor.op
open Go.RowKit
open words kindp opp kind
end Go.Proofs.YtjejmlpjifhmmaaGreatDoor.op
namespace Go.Proofs.YtjejmlpjifhmmaaGreatDoor.op
open Go.RowKit Go.Shelf
open words kindp opp kind
attribute [local go_sem] Oper.semAt_some
def okR (regs : Int) (x : UInt8 × Int) : Bool := decide (0 ≤ x.2) && decide (x.2 < regs)
def fitsE (i : In) (regs code : Int) : Int :=
 if formedB i = false then 1 else if isCall i.o = true ∧ descE i ≠ 0 then descE i else if (regsL i).all (okR regs) = false then 12 else if countedB i code = false then 12 else 0
def FHeld (i : In) (A : Option Addr) (c : Nat) (regs : Int) (w : World) (N : Nat) (pre : List (UInt8 × Int)) (W : World) : Prop :=
 (W.heap[w.heap.size]? = some (.cells (InV i A c) 153 (0, 0)) ∧ W.heap[w.heap.size + 1]? = some (.cells #[.int .i64 regs] 3 (0, 0)) ∧ W.heap[w.heap.size + 1 + 1]? = some (.cells #[.int .i64 0] 244 (0, 0)) ∧
  W.heap[N]? = some (.cells (InV i A c) 153 (0, 0))) ∧ (∀ x ∈ pre, okR regs x = true) ∧ Below w.heap.size w W
theorem fheld_own (i : In) (A : Option Addr) (c : Nat) (regs : Int) (w : World) (N B : Nat) (hB : w.heap.size ≤ B) : OwnFrom B (FHeld i A c regs w N) :=
 OwnFrom.and (OwnFrom.and (Own.from (row_own2 _ _ _ _) _) (OwnFrom.and (Own.from (row_own2 _ _ _ _) _) (OwnFrom.and (Own.from (row_own2 _ _ _ _) _) (Own.from (row_own2 _ _ _ _) _)))) (OwnFrom.and (fun _ _ _ _ h _ _ => h) (ownFrom_below (Nat.le_refl _) hB))
end Go.Proofs.YtjejmlpjifhmmaaGreatDoor.op
namespace Go.Proofs.YtjejmlpjifhmmaaGreatDoor.op
open Go.RowKit
open words kindp opp kind
end Go.Proofs.YtjejmlpjifhmmaaGreatDoor.op
namespace Go.Proofs.YtjejmlpjifhmmaaGreatDoor.op
open Go.RowKit
open words kindp opp
end Go.Proofs.YtjejmlpjifhmmaaGreatDoor.op
namespace Go.Proofs.YtjejmlpjifhmmaaGreatDoor.op
open Go.RowKit
open words kindp opp kind
end Go.Proofs.YtjejmlpjifhmmaaGreatDoor.op
namespace Go.Proofs.YtjejmlpjifhmmaaGreatDoor.prg
open Go.RowKit
open words kindp opp op kind
def initT : Tx := [60, 99, 108, 105, 110, 105, 116, 62]
def memberB (s : Tx) : Bool := nmL s && !(s == initT)
def fieldB (f : FiM) : Bool := memberB f.nm && (rightT (f.k, f.cl) && !(f.k == 1))
def handedN (m : MeM) (n : Nat) : Nat := if m.st then n else n + 1
def codeB (m : MeM) : Bool := decide (0 < m.co.length) && (decide (m.co.length ≤ 256) && m.co.all fun x => fitsE x.i m.rg (m.co.length : Int) == 0)
def abstractB (m : MeM) : Bool := !m.st && (!(m.nm == initT) && (decide (m.co.length = 0) && m.rg == 0))
def concreteB (m : MeM) : Bool := decide ((handedN m (splitT m.ds).1.length : Int) ≤ m.rg) && (codeB m && (!(m.nm == initT) || (m.st && m.ds == [40, 41, 86])))
def headB (m : MeM) : Bool := decide ((splitT m.ds).2.2 = 0) && (nmL m.nm && (decide (0 ≤ m.rg) && decide (m.rg ≤ 32)))
def methodB (m : MeM) : Bool := headB m && (if m.ab = true then abstractB m else concreteB m)
def superB (c : ClM) : Bool := (c.su == []) || (!(c.su == c.nm) && clsB c.su)
def bareIfaceB (c : ClM) : Bool := c.ab && ((c.su == []) && (decide (c.fs.length = 0) && c.ms.all (·.ab)))
def classB (c : ClM) : Bool := clsB c.nm && (superB c && (c.is.all clsB && ((!c.fc || bareIfaceB c) && (c.fs.all fieldB && (c.ms.all methodB && (c.ab || !c.ms.any (·.ab)))))))
end Go.Proofs.YtjejmlpjifhmmaaGreatDoor.prg
namespace Go.Proofs.YtjejmlpjifhmmaaGreatDoor.prg
open Go.RowKit
open words kindp opp op kind
end Go.Proofs.YtjejmlpjifhmmaaGreatDoor.prg
namespace Go.Proofs.YtjejmlpjifhmmaaGreatDoor.word
open Go.RowKit
open num words give write
end Go.Proofs.YtjejmlpjifhmmaaGreatDoor.word
namespace Go.Proofs.YtjejmlpjifhmmaaGreatDoor.kind
open Go.RowKit
open words kindp word piece write
end Go.Proofs.YtjejmlpjifhmmaaGreatDoor.kind
namespace Go.Proofs.YtjejmlpjifhmmaaGreatDoor.kind
open Go.RowKit
open words kindp word
end Go.Proofs.YtjejmlpjifhmmaaGreatDoor.kind
namespace Go.Proofs.YtjejmlpjifhmmaaGreatDoor.kind
open Go.RowKit
open words kindp word rdr
end Go.Proofs.YtjejmlpjifhmmaaGreatDoor.kind
namespace Go.Proofs.YtjejmlpjifhmmaaGreatDoor.kind
open Go.RowKit
open words kindp word rdr
end Go.Proofs.YtjejmlpjifhmmaaGreatDoor.kind
namespace Go.Proofs.YtjejmlpjifhmmaaGreatDoor.kind
open Go.RowKit
open words kindp word rdr
end Go.Proofs.YtjejmlpjifhmmaaGreatDoor.kind
namespace Go.Proofs.YtjejmlpjifhmmaaGreatDoor.kind
open Go.RowKit
open words kindp word rdr piece
end Go.Proofs.YtjejmlpjifhmmaaGreatDoor.kind
namespace Go.Proofs.YtjejmlpjifhmmaaGreatDoor.kind
open Go.RowKit
open words kindp word rdr piece
end Go.Proofs.YtjejmlpjifhmmaaGreatDoor.kind
namespace Go.Proofs.YtjejmlpjifhmmaaGreatDoor.prg
open Go.RowKit
open words kindp opp op kind word
end Go.Proofs.YtjejmlpjifhmmaaGreatDoor.prg
namespace Go.Proofs.YtjejmlpjifhmmaaGreatDoor.prg
open Go.RowKit
open words kindp opp op kind word
end Go.Proofs.YtjejmlpjifhmmaaGreatDoor.prg
namespace Go.Proofs.YtjejmlpjifhmmaaGreatDoor.prg
open Go.RowKit
open words kindp opp op kind word
theorem sx_get {l : List Tx} {i : Nat} {x : Tx} (h : l[i]? = some x) : (SX l)[i]? = some (.string ⟨x.toArray⟩) := by simp [SX, h]
end Go.Proofs.YtjejmlpjifhmmaaGreatDoor.prg
namespace Go.Proofs.YtjejmlpjifhmmaaGreatDoor.prg
open Go.RowKit
open words kindp opp op kind word
theorem overD {b : Nat} {a c : World} (h : Below b a c) : Below b a c.drew := ⟨h.os, h.tape, h.output, h.size, h.block⟩
end Go.Proofs.YtjejmlpjifhmmaaGreatDoor.prg
namespace Go.Proofs.YtjejmlpjifhmmaaGreatDoor.prg
open Go.RowKit
open words kindp opp op kind word
end Go.Proofs.YtjejmlpjifhmmaaGreatDoor.prg
namespace Go.Proofs.YtjejmlpjifhmmaaGreatDoor.prg
open Go.RowKit
open words kindp opp op kind word
end Go.Proofs.YtjejmlpjifhmmaaGreatDoor.prg
namespace Go.Proofs.YtjejmlpjifhmmaaGreatDoor.prg
open Go.RowKit
open words kindp opp op kind word
def pI (x : InM) : In := x.i
structure FiP where
 nm : Tx
 k : Int
 cl : Tx
 st : Bool
deriving DecidableEq
structure MeP where
 nm : Tx
 ds : Tx
 st : Bool
 ab : Bool
 rg : Int
 co : List In
deriving DecidableEq
structure ClP where
 nm : Tx
 su : Tx
 fc : Bool
 ab : Bool
 is : List Tx
 fs : List FiP
 ms : List MeP
deriving DecidableEq
structure PrP where
 cs : List ClP
 ns : List Tx
 ec : Tx
 en : Tx
 ed : Tx
deriving DecidableEq
def pF (f : FiM) : FiP := ⟨f.nm, f.k, f.cl, f.st⟩
def pM (m : MeM) : MeP := ⟨m.nm, m.ds, m.st, m.ab, m.rg, m.co.map pI⟩
def pC (c : ClM) : ClP := ⟨c.nm, c.su, c.fc, c.ab, c.is, c.fs.map pF, c.ms.map pM⟩
def pP (p : PrM) : PrP := ⟨p.cs.map pC, p.ns, p.ec, p.en, p.ed⟩
end Go.Proofs.YtjejmlpjifhmmaaGreatDoor.prg
namespace Go.Proofs.YtjejmlpjifhmmaaGreatDoor.prg
open Go.RowKit
open words kindp opp op kind word
def Fr (b : Nat) (A : Option Addr) : Prop := ∀ a, A = some a → b ≤ a.block
theorem Fr.mono {b c : Nat} {A : Option Addr} (h : Fr b A) (hc : c ≤ b) : Fr c A := fun a ha => Nat.le_trans hc (h a ha)
def NwI (b : Nat) (w : World) (y : InM) : Prop := InOk w y ∧ InBd y ∧ Fr b y.A
def NwM (b : Nat) (w : World) (m : MeM) : Prop := MeOk w m ∧ MeBd m ∧ Fr b m.A ∧ ∀ y ∈ m.co, Fr b y.A
def NwC (b : Nat) (w : World) (c : ClM) : Prop := ClOk w c ∧ ClBd c ∧ (Fr b c.A1 ∧ Fr b c.A2 ∧ Fr b c.A3) ∧ ∀ m ∈ c.ms, Fr b m.A ∧ ∀ y ∈ m.co, Fr b y.A
theorem rd_gb {w w' : World} {A : Option Addr} {xs : List Value} {b g : Nat} (h : Rd w A xs) (hf : Fr b A) (hg : g < b) (k : w.grownBy w' (some g)) : Rd w' A xs := by
 rcases h with rfl | ⟨a, rfl, hb, hc⟩
 ·exact .inl rfl
 ·refine .inr ⟨a, rfl, Nat.lt_of_lt_of_le hb k.size, fun j u hu => (World.cell?_of_block (k.block _ (by rw [add_block]; exact hb) ?_)).trans (hc j u hu)⟩
  rw [add_block]
  have := hf a rfl
  intro e
  cases e
  omega
theorem gb_trans {w v u : World} {g : Nat} (h : w.grownBy v (some g)) (k : v.grownBy u (some g)) : w.grownBy u (some g) :=
 ⟨k.os.trans h.os, k.tape.trans h.tape, k.output.trans h.output, Nat.le_trans h.size k.size, fun j hj hn => (k.block j (Nat.lt_of_lt_of_le hj h.size) hn).trans (h.block j hj hn)⟩
section
variable {b c g : Nat} {w w' : World}
theorem NwI.gb {y : InM} (h : NwI b w y) (hg : g < b) (k : w.grownBy w' (some g)) : NwI b w' y := ⟨⟨h.1.1, rd_gb h.1.2 h.2.2 hg k⟩, h.2⟩
theorem NwI.below {y : InM} (h : NwI b w y) (k : Below w.heap.size w w') : NwI b w' y := ⟨h.1.below k, h.2⟩
theorem NwI.mono {y : InM} (h : NwI b w y) (hc : c ≤ b) : NwI c w y := ⟨h.1, h.2.1, h.2.2.mono hc⟩
theorem NwM.gb {m : MeM} (h : NwM b w m) (hg : g < b) (k : w.grownBy w' (some g)) : NwM b w' m := ⟨⟨h.1.1, rd_gb h.1.2.1 h.2.2.1 hg k, fun y hy => ⟨(h.1.2.2 y hy).1, rd_gb (h.1.2.2 y hy).2 (h.2.2.2 y hy) hg k⟩⟩, h.2⟩
theorem NwM.below {m : MeM} (h : NwM b w m) (k : Below w.heap.size w w') : NwM b w' m := ⟨h.1.below k, h.2⟩
theorem NwM.mono {m : MeM} (h : NwM b w m) (hc : c ≤ b) : NwM c w m := ⟨h.1, h.2.1, h.2.2.1.mono hc, fun y hy => (h.2.2.2 y hy).mono hc⟩
theorem NwC.gb {m : ClM} (h : NwC b w m) (hg : g < b) (k : w.grownBy w' (some g)) : NwC b w' m :=
 ⟨⟨⟨h.1.1.1, rd_gb h.1.1.2 h.2.2.1.1 hg k⟩, ⟨h.1.2.1.1, rd_gb h.1.2.1.2 h.2.2.1.2.1 hg k⟩, ⟨h.1.2.2.1.1, rd_gb h.1.2.2.1.2 h.2.2.1.2.2 hg k⟩,
  fun z hz => ⟨(h.1.2.2.2 z hz).1, rd_gb (h.1.2.2.2 z hz).2.1 (h.2.2.2 z hz).1 hg k, fun y hy => ⟨((h.1.2.2.2 z hz).2.2 y hy).1, rd_gb ((h.1.2.2.2 z hz).2.2 y hy).2 ((h.2.2.2 z hz).2 y hy) hg k⟩⟩⟩, h.2⟩
theorem NwC.below {m : ClM} (h : NwC b w m) (k : Below w.heap.size w w') : NwC b w' m := ⟨h.1.below k, h.2⟩
theorem NwC.mono {m : ClM} (h : NwC b w m) (hc : c ≤ b) : NwC c w m := ⟨h.1, h.2.1, ⟨h.2.2.1.1.mono hc, h.2.2.1.2.1.mono hc, h.2.2.1.2.2.mono hc⟩, fun z hz => ⟨(h.2.2.2 z hz).1.mono hc, fun y hy => ((h.2.2.2 z hz).2 y hy).mono hc⟩⟩
end
theorem made_flat {α : Type} {C : α → List Value} {K : Nat} (hC : ∀ x, (C x).length = K) (hK : 0 < K) (Z : α) (n : Nat) : (madeCells (C Z).toArray (n * K)).toList = (List.replicate n Z).flatMap C := by
 apply List.ext_getElem?
 intro i
 by_cases hi : i < n * K
 ·have h1 : (List.replicate n Z)[i / K]? = some Z := by rw [List.getElem?_replicate, if_pos (Nat.div_lt_of_lt_mul (by rw [Nat.mul_comm]; exact hi))]
  obtain ⟨u, hu⟩ : ∃ u, (C Z)[i % K]? = some u := ⟨_, List.getElem?_eq_getElem (by rw [hC]; exact Nat.mod_lt _ hK)⟩
  have h2 := flat_at hC h1 hu
  rw [Nat.div_add_mod'] at h2
  rw [h2]
  have hz : (C Z).toArray.size = K := by simp [hC]
  simp only [madeCells, Array.toList_map, Array.toList_range, List.getElem?_map, List.getElem?_range hi, Option.map_some, hz]
  congr 1
  rw [getElem!_def]
  simp [hu]
 ·rw [List.getElem?_eq_none (by simp [madeCells]; omega), List.getElem?_eq_none (by rw [flat_len hC, List.length_replicate]; omega)]
def setL (X : List Value) : Nat → List Value → List Value
 | _, [] => X
 | o, v :: vs => setL (X.set o v) (o + 1) vs
theorem setL_mid : ∀ (news old pre post : List Value), old.length = news.length → setL (pre ++ old ++ post) pre.length news = pre ++ news ++ post
 | [], old, pre, post, h => by
  have : old = [] := List.length_eq_zero_iff.1 (by simpa using h)
  subst this; rfl
 | v :: vs, [], pre, post, h => by simp at h
 | v :: vs, o :: os, pre, post, h => by
  have ih := setL_mid vs os (pre ++ [v]) post (by simpa using h)
  have e : (pre ++ o :: os ++ post).set pre.length v = pre ++ [v] ++ os ++ post := by
   rw [List.append_assoc, List.set_append_right _ _ (Nat.le_refl _)]
   simp
  show setL ((pre ++ o :: os ++ post).set pre.length v) (pre.length + 1) vs = _
  rw [e]
  rw [List.length_append] at ih
  simpa using ih
theorem setL_flat {α : Type} {C : α → List Value} {K : Nat} (hC : ∀ x, (C x).length = K) {l : List α} {k : Nat} (hk : k < l.length) (y : α) : setL (l.flatMap C) (k * K) (C y) = (l.set k y).flatMap C := by
 have e1 : l = l.take k ++ l[k] :: l.drop (k + 1) := by rw [List.getElem_cons_drop, List.take_append_drop]
 have e2 : l.set k y = l.take k ++ y :: l.drop (k + 1) := by rw [List.set_eq_take_append_cons_drop, if_pos hk]
 have hl : ((l.take k).flatMap C).length = k * K := by rw [flat_len hC, List.length_take, Nat.min_eq_left (by omega)]
 have h := setL_mid (C y) (C l[k]) ((l.take k).flatMap C) ((l.drop (k + 1)).flatMap C) (by rw [hC, hC])
 rw [hl] at h
 have e3 : l.flatMap C = (l.take k).flatMap C ++ C l[k] ++ (l.drop (k + 1)).flatMap C := by
  conv => lhs; rw [e1]
  rw [List.flatMap_append, List.flatMap_cons, List.append_assoc]
 rw [e3, h, e2, List.flatMap_append, List.flatMap_cons, List.append_assoc]
def zI : InM := ⟨⟨0, 0, 0, 0, 0, [], [], [], []⟩, none, 0⟩
def zM : MeM := ⟨[], [], false, false, 0, [], none, 0⟩
def zC : ClM := ⟨[], [], false, false, [], none, 0, [], none, 0, [], none, 0⟩
theorem mix_set {α : Type} {done : List α} {n : Nat} {Z y : α} (h : done.length < n) : (done ++ List.replicate (n - done.length) Z).set done.length y = (done ++ [y]) ++ List.replicate (n - (done.length + 1)) Z := by
 rw [List.set_append_right _ _ (Nat.le_refl _), Nat.sub_self]
 obtain ⟨m, hm⟩ : ∃ m, n - done.length = m + 1 := ⟨n - done.length - 1, by omega⟩
 rw [hm, show n - (done.length + 1) = m by omega, List.replicate_succ]
 simp
end Go.Proofs.YtjejmlpjifhmmaaGreatDoor.prg
namespace Go.Proofs.YtjejmlpjifhmmaaGreatDoor.prg
open Go.RowKit
open words kindp opp op kind word
theorem gb_set (w : World) (g j : Nat) (u : Value) : w.grownBy (w.setCell ⟨g, j, none⟩ u) (some g) := ⟨rfl, rfl, rfl, by simp, fun k _ hk => heap_setCell_other w ⟨g, j, none⟩ k u (fun e => hk (by simp [e]))⟩
theorem me_eq {m k : MeM} (h1 : m.nm = k.nm) (h2 : m.ds = k.ds) (h3 : m.st = k.st) (h4 : m.ab = k.ab) (h5 : m.rg = k.rg) (h6 : m.co.map pI = k.co.map pI) : pM m = pM k := by unfold pM; rw [h1, h2, h3, h4, h5, h6]
end Go.Proofs.YtjejmlpjifhmmaaGreatDoor.prg
namespace Go.Proofs.YtjejmlpjifhmmaaGreatDoor.prg
open Go.RowKit
open words kindp opp op kind word
theorem cl_eq {m k : ClM} (h1 : m.nm = k.nm) (h2 : m.su = k.su) (h3 : m.fc = k.fc) (h4 : m.ab = k.ab) (h5 : m.is = k.is) (h6 : m.fs.map pF = k.fs.map pF) (h7 : m.ms.map pM = k.ms.map pM) : pC m = pC k := by unfold pC; rw [h1, h2, h3, h4, h5, h6, h7]
end Go.Proofs.YtjejmlpjifhmmaaGreatDoor.prg
namespace Go.Proofs.YtjejmlpjifhmmaaGreatDoor.prg
open Go.RowKit
open words kindp opp op kind word
theorem own_gb {w w' : World} {base g : Nat} {e : TypeId} {size n : Nat} {v : Value} {xs : List Value} (h : w.ownsRow base e size v n xs) (hg : g < base) (k : w.grownBy w' (some g)) : w'.ownsRow base e size v n xs := by
 have hlt := h.lt
 refine ⟨h.1, ?_⟩
 rcases h.2 with h0 | ⟨q, cap, cur, rfl, hbg, hq, rest⟩
 ·exact .inl h0
 ·exact .inr ⟨q, cap, cur, rfl, hbg, (k.block q (hlt q rfl).2 (by intro e; cases e; omega)).trans hq, rest⟩
end Go.Proofs.YtjejmlpjifhmmaaGreatDoor.prg
namespace Go.Proofs.YtjejmlpjifhmmaaGreatDoor.prg
open Go.RowKit
open words kindp opp op kind word
end Go.Proofs.YtjejmlpjifhmmaaGreatDoor.prg
namespace Go.Proofs.YtjejmlpjifhmmaaGreatDoor.prg
open Go.RowKit
open words kindp opp op kind word
end Go.Proofs.YtjejmlpjifhmmaaGreatDoor.prg
namespace Go.Proofs.YtjejmlpjifhmmaaGreatDoor.prg
open Go.RowKit
open words kindp opp op kind word
end Go.Proofs.YtjejmlpjifhmmaaGreatDoor.prg
namespace Go.Proofs.YtjejmlpjifhmmaaGreatDoor.prg
open Go.RowKit
open words kindp opp op kind word
end Go.Proofs.YtjejmlpjifhmmaaGreatDoor.prg
namespace Go.Proofs.YtjejmlpjifhmmaaGreatDoor.prg
open Go.RowKit
open words kindp opp op kind word
end Go.Proofs.YtjejmlpjifhmmaaGreatDoor.prg
namespace Go.Proofs.YtjejmlpjifhmmaaGreatDoor.words
open Go.RowKit
theorem step_app {P : Program} (w : World) {ops : Array Oper} {o : Oper} {a : Act} {K : Act → World → Prop} {Q : Exit → Act → World → Prop} {E : Prop} (hgd : o.guard = none) (s x : Operand) (t : TypeId)
  (ho : o.op = .call { callee := .builtin .append, args := #[s, x], argTypes := #[t, t] })
  (base : Nat) (e : TypeId) (i : TypeInfo) (z : Value) (size bytes : Nat) (ht : P.underlying t = some (.slice e)) (hi : P.info? e = some i) (hz : i.zero = some z)
  (hsize : i.size = size) (hby : i.bytes = bytes) (hzs : z.cells.size = size) (hsz : 0 < size)
  (v : Value) (n : Nat) (xs : List Value) (hs : a.eval s = v) (hown : w.ownsRow base e size v n xs)
  (A : Option Addr) (m c : Nat) (news : List Value) (hx : a.eval x = .slice A m c) (hl : news.length = m * size) (hr : Rd w A news) (h1 : ∀ u ∈ news, u.oneCell' = true)
  (h63 : n + m ≤ maxLen) (hbytes : (n + m) * bytes ≤ 140737488355328) (hbase : base ≤ w.heap.size)
  (h : ∀ v' w', w'.ownsRow base e size v' (n + m) (xs ++ news) → w.grownBy w' v.ownBlock → Below base w w' → (v'.ownBlock = v.ownBlock ∨ v'.ownBlock = some w.heap.size) → K (a.put o.dst v') w') :
  if Region.wanted o (yielded ops a.tmps) = true then Oper.wp P o a w K Q else E := by
 have hw : Region.wanted o (yielded ops a.tmps) = true := by simp [Region.wanted, hgd]
 rw [if_pos hw]
 exact wp_app w s x t ho base e i z size bytes ht hi hz hsize hby hzs hsz v n xs hs hown A m c news hx hl hr h1 h63 hbytes hbase h
end Go.Proofs.YtjejmlpjifhmmaaGreatDoor.words
namespace Go.Proofs.YtjejmlpjifhmmaaGreatDoor.prg
open Go.RowKit
open words kindp opp op kind word
def GrI (x : InM) : Prop := x.i.ar.length ≤ 60 ∧ x.i.cl.length ≤ 300 ∧ x.i.nm.length ≤ 300 ∧ x.i.ds.length ≤ 300
def GrM (m : MeM) : Prop := (m.co.length ≤ 300 ∧ m.nm.length ≤ 300 ∧ m.ds.length ≤ 300) ∧ ∀ x ∈ m.co, GrI x
def GrC (c : ClM) : Prop := (c.is.length ≤ 40 ∧ c.fs.length ≤ 40 ∧ c.ms.length ≤ 40 ∧ c.nm.length ≤ 300 ∧ c.su.length ≤ 300) ∧ ∀ m ∈ c.ms, GrM m
def GrP (p : PrM) : Prop := (p.cs.length ≤ 70 ∧ p.ns.length ≤ 70) ∧ ∀ c ∈ p.cs, GrC c
end Go.Proofs.YtjejmlpjifhmmaaGreatDoor.prg
namespace Go.Proofs.YtjejmlpjifhmmaaGreatDoor.prg
open Go.RowKit
open words kindp opp op kind word
theorem row_apart {W w1 : World} {base B k size : Nat} {t e : TypeId} {v : Value} {xs : List Value} {cs : Array Value} {fz : Nat × Nat} (h : W.heap[B]? = some (.cells cs t fz)) (hte : t ≠ e)
  (hrow : W.ownsRow base e size v k xs) (hgrow : W.grownBy w1 v.ownBlock) : w1.heap[B]? = some (.cells cs t fz) := by
 have hlt := (Array.getElem?_eq_some_iff.1 h).1
 have hnr : some B ≠ v.ownBlock := by
  rcases hrow.2 with ⟨rfl, _⟩ | ⟨g, cap, cur, rfl, _, hgb, _⟩
  ·simp [Value.ownBlock]
  ·intro e'
   obtain rfl : B = g := by simpa [Value.ownBlock] using e'
   rw [h] at hgb
   simp only [Option.some.injEq, Obj.cells.injEq] at hgb
   exact hte hgb.2.1
 exact (hgrow.block B hlt hnr).trans h
theorem SX_one (l : List Tx) : ∀ u ∈ SX l, u.oneCell' = true := by
 intro u hu
 simp only [SX, List.mem_map] at hu
 obtain ⟨x, _, rfl⟩ := hu
 rfl
end Go.Proofs.YtjejmlpjifhmmaaGreatDoor.prg
namespace Go.Proofs.YtjejmlpjifhmmaaGreatDoor.prg
open Go.RowKit
open words kindp opp op kind word
end Go.Proofs.YtjejmlpjifhmmaaGreatDoor.prg
namespace Go.Proofs.YtjejmlpjifhmmaaGreatDoor.keep
open Go.RowKit
open words
def Sim (u v : Value) : Prop := u = v ∨ (∃ a b, u = .int .i64 a ∧ v = .int .i64 b) ∨ ∃ a b, u = .string a ∧ v = .string b
theorem Sim.refl (u : Value) : Sim u u := .inl rfl
theorem Sim.trans {u v x : Value} (h : Sim u v) (k : Sim v x) : Sim u x := by
 rcases h with rfl | ⟨a, b, rfl, rfl⟩ | ⟨a, b, rfl, rfl⟩
 ·exact k
 ·rcases k with rfl | ⟨c, d, -, rfl⟩ | ⟨c, d, h, -⟩
  ·exact .inr (.inl ⟨a, b, rfl, rfl⟩)
  ·exact .inr (.inl ⟨a, d, rfl, rfl⟩)
  ·cases h
 ·rcases k with rfl | ⟨c, d, h, -⟩ | ⟨c, d, -, rfl⟩
  ·exact .inr (.inr ⟨a, b, rfl, rfl⟩)
  ·cases h
  ·exact .inr (.inr ⟨a, d, rfl, rfl⟩)
theorem Sim.slice {A : Option Addr} {n c : Nat} {v : Value} (h : Sim (.slice A n c) v) : v = .slice A n c := by
 rcases h with h | ⟨a, b, h, -⟩ | ⟨a, b, h, -⟩
 ·exact h.symm
 ·cases h
 ·cases h
theorem Sim.bool {b : Bool} {v : Value} (h : Sim (.bool b) v) : v = .bool b := by
 rcases h with h | ⟨a, b, h, -⟩ | ⟨a, b, h, -⟩
 ·exact h.symm
 ·cases h
 ·cases h
theorem Sim.int {a : Int} {v : Value} (h : Sim (.int .i64 a) v) : ∃ b, v = .int .i64 b := by
 rcases h with h | ⟨c, b, -, h⟩ | ⟨c, b, h, -⟩
 ·exact ⟨a, h.symm⟩
 ·exact ⟨b, h⟩
 ·cases h
structure Keep (b : Nat) (w w' : World) : Prop where
 below : Below b w w'
 row : ∀ g cs t, b ≤ g → w.heap[g]? = some (.cells cs t (0, 0)) → ∃ cs', w'.heap[g]? = some (.cells cs' t (0, 0)) ∧ ∀ (j : Nat) (u : Value), cs[j]? = some u → ∃ u', cs'[j]? = some u' ∧ Sim u u'
theorem Keep.refl (b : Nat) (w : World) : Keep b w w := ⟨Below.refl _ _, fun _ cs _ _ h => ⟨cs, h, fun _ u hu => ⟨u, hu, Sim.refl u⟩⟩⟩
theorem Keep.alloc {b : Nat} {w w' : World} (h : Keep b w w') (hb : b ≤ w'.heap.size) (o : Obj) : Keep b w (w'.alloc o) :=
 ⟨h.below.alloc hb o, fun g cs t hg hc => by
  obtain ⟨cs', h1, h2⟩ := h.row g cs t hg hc
  exact ⟨cs', (Below.heap_alloc w' o g (blk_lt h1)).trans h1, h2⟩⟩
theorem Keep.set {b : Nat} {w w' : World} (h : Keep b w w') {g j : Nat} (hg : b ≤ g) (v : Value) (hv : ∀ u, w'.cell? ⟨g, j, none⟩ = some u → Sim u v) : Keep b w (w'.setCell ⟨g, j, none⟩ v) :=
 ⟨h.below.setCell (p := ⟨g, j, none⟩) hg v, fun g' cs t hg' hc => by
  obtain ⟨cs', h1, h2⟩ := h.row g' cs t hg' hc
  by_cases he : g' = g
  ·subst he
   refine ⟨_, heap_setCell_same w' g' j cs' t v h1, fun i u hu => ?_⟩
   obtain ⟨u', k1, k2⟩ := h2 i u hu
   by_cases hi : i = j
   ·subst hi
    refine ⟨v, ?_, k2.trans (hv u' ?_)⟩
    ·have := (Array.getElem?_eq_some_iff.1 k1).1
     simp [this]
    ·rw [cell_of_row _ _ i _ _ _ h1]; exact k1
   ·exact ⟨u', by rw [Array.getElem?_setIfInBounds_ne (fun e => hi e.symm)]; exact k1, k2⟩
  ·exact ⟨cs', (heap_setCell_other w' ⟨g, j, none⟩ g' v he).trans h1, h2⟩⟩
theorem Keep.drewN {b : Nat} {w w' : World} (h : Keep b w w') (n : Nat) : Keep b w (w'.drewN n) := ⟨over h.below, h.row⟩
theorem Keep.cell {b : Nat} {w w' : World} (h : Keep b w w') {g t j : Nat} {cs : Array Value} {u : Value} (hg : b ≤ g) (hc : w.heap[g]? = some (.cells cs t (0, 0))) (hj : cs[j]? = some u) : ∃ u', w'.cell? ⟨g, j, none⟩ = some u' ∧ Sim u u' ∧ w'.frozen? ⟨g, j, none⟩ = false := by
 obtain ⟨cs', h1, h2⟩ := h.row g cs t hg hc
 obtain ⟨u', k1, k2⟩ := h2 j u hj
 exact ⟨u', (cell_of_row _ _ j _ _ _ h1).trans k1, k2, frozen_of_row _ _ j _ _ h1⟩
theorem Keep.own {b : Nat} {w w' : World} (h : Keep b w w') {e size : Nat} {g n cap : Nat} {xs : List Value} (ho : w.ownsRow b e size (.slice (some ⟨g, 0, none⟩) n cap) n xs) {j : Nat} {u : Value} (hj : xs[j]? = some u) : ∃ u', w'.cell? ⟨g, j, none⟩ = some u' ∧ Sim u u' ∧ w'.frozen? ⟨g, j, none⟩ = false := by
 rcases ho.2 with ⟨h', _⟩ | ⟨g', cap', cur, h', hbg, hg, hnc, _, hcs, htake⟩
 ·simp at h'
 ·simp only [Value.slice.injEq, Option.some.injEq, Addr.mk.injEq, and_true, true_and] at h'
  obtain ⟨rfl, rfl⟩ := h'
  refine h.cell hbg hg (u := u) ?_
  rw [← htake, List.getElem?_take] at hj
  split at hj
  ·rw [← Array.getElem?_toList]; exact hj
  ·cases hj
end Go.Proofs.YtjejmlpjifhmmaaGreatDoor.keep

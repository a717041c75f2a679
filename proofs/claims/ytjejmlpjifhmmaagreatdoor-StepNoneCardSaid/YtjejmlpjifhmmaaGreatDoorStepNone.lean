/- Proved: for every list of pairs and every input StepNone returns true, that is, no machine does nothing, and a machine of a program without an entry has gone wrong at once. Conditions: the row's own alone (package-level variables start as the program's text lays them; the arguments are slices within the row's reach). -/
import Derived.Test.YtjejmlpjifhmmaaGreatDoorStpZ
import Derived.Test.YtjejmlpjifhmmaaGreatDoorStpL
import Derived.Test.YtjejmlpjifhmmaaGreatDoorStepReckons
import Derived.Test.YtjejmlpjifhmmaaGreatDoorStnC
import Derived.Test.YtjejmlpjifhmmaaGreatDoorWordA
import Derived.ChangeMaps5
import Derived.Test.YtjejmlpjifhmmaaGreatDoorProg
import Derived.Lib.Hide
import Derived.Deep.QuietTactic
import Derived.BigQuiet
import Derived.SliceStrings
import Derived.Test.YtjejmlpjifhmmaaGreatDoorKeep
import Derived.Deep.SlicePairs
import Derived.Test.YtjejmlpjifhmmaaGreatDoorCards
import Derived.Test.YtjejmlpjifhmmaaGreatDoorTie
import Derived.Deep.DeepHandedRow
namespace Go.Proofs.YtjejmlpjifhmmaaGreatDoor.stp
open Go.RowKit Go.MapKept Go.ChangeMaps Go.Shelf
open words kindp opp op kind prg sto find
set_option maxRecDepth 100000
set_option maxHeartbeats 8000000
set_option linter.all false
theorem deep_nil (w : World) : Calls Tryz.prog 15 #[.pointer none] w fun e w' => e = .returned (.int .i64 0) ∧ w' = w := by
 go_enter Tryz.func15, Tryz.ntmps15
 go_wp2
 go_ret
 exact ⟨rfl, rfl⟩
theorem step_nil (w : World) : Calls Tryz.prog 12 #[.pointer none] w fun e w' => e = .returned (.bool false) ∧ w' = w := by
 have HD := zh (deep_nil w)
 go_enter Tryz.func12, Tryz.ntmps12
 go_wp2_with fail
 refine HD.out.mono ?_
 rintro e v ⟨rfl, rfl⟩
 go_wp2
 go_ret
 exact ⟨rfl, rfl⟩
theorem at_nil_ (w : World) : Calls Tryz.prog 11 #[.pointer none] w fun e w' => e = .returned (.tuple #[.agg #[.string ⟨#[]⟩, .string ⟨#[]⟩, .string ⟨#[]⟩], .int .i64 0]) ∧ Below w.heap.size w w' := by
 have HD := zh (fun v => deep_nil v)
 go_enter Tryz.func11, Tryz.ntmps11
 go_wp2_with fail
 refine (HD.out _).mono ?_
 rintro e v ⟨rfl, rfl⟩
 have hal : ∀ o : Obj, Below w.heap.size w (w.alloc o) := fun o => (Below.refl _ _).alloc (Nat.le_refl _) _
 have HAL := zh hal
 clear hal
 go_wp2
 exact bodyPost_ret (v := .tuple #[.agg #[.string ⟨#[]⟩, .string ⟨#[]⟩, .string ⟨#[]⟩], .int .i64 0]) (by simp [results, Tryz.results11, go_sem]) rfl ⟨rfl, HAL.out _⟩
theorem result_nil (w : World) : Calls Tryz.prog 14 #[.pointer none] w fun e w' => e = .returned (.agg #[.int .i64 0, .int .i64 0, .int .i64 0, .int .i64 0, .slice none 0 0, .slice none 0 0, .slice none 0 0, .slice none 0 0, .slice none 0 0, .slice none 0 0, .slice none 0 0]) ∧ Below w.heap.size w w' := by
 go_enter Tryz.func14, Tryz.ntmps14
 have hal : ∀ o : Obj, Below w.heap.size w (w.alloc o) := fun o => (Below.refl _ _).alloc (Nat.le_refl _) _
 have HAL := zh hal
 clear hal
 go_wp2
 exact bodyPost_ret (v := .agg #[.int .i64 0, .int .i64 0, .int .i64 0, .int .i64 0, .slice none 0 0, .slice none 0 0, .slice none 0 0, .slice none 0 0, .slice none 0 0, .slice none 0 0, .slice none 0 0]) (by simp [results, Tryz.results14, go_sem]) rfl ⟨rfl, HAL.out _⟩
theorem held_nil (w : World) : Calls Tryz.prog 16 #[.pointer none] w fun e w' => e = .returned (.slice none 0 0) ∧ Below w.heap.size w w' := by
 go_enter Tryz.func16, Tryz.ntmps16
 go_wp2
 go_ret
 exact ⟨rfl, by repeat (first | exact Below.refl _ _ | refine Below.setCell ?_ (by simp; try omega) _ | refine Below.alloc ?_ (by simp; try omega) _)⟩
theorem same_ev0 (w : World) : Calls Tryz.prog 37 #[.slice none 0 0, .slice none 0 0] w fun e w' => e = .returned (.bool true) ∧ w' = w := by
 go_enter Tryz.func37, Tryz.ntmps37
 go_wp2
 refine wp_loop_rounds 1 ?_
 rw [rounds_succ]
 go_wp2
 go_ret
 exact ⟨rfl, rfl⟩
theorem same_tx0 (w : World) : Calls Tryz.prog 78 #[.slice none 0 0, .slice none 0 0] w fun e w' => e = .returned (.bool true) ∧ w' = w := by
 go_enter Tryz.func78, Tryz.ntmps78
 go_wp2
 refine wp_loop_rounds 1 ?_
 rw [rounds_succ]
 go_wp2
 go_ret
 exact ⟨rfl, rfl⟩
theorem same_tr0 (w : World) : Calls Tryz.prog 38 #[.agg #[.slice none 0 0, .slice none 0 0, .slice none 0 0, .slice none 0 0, .slice none 0 0, .slice none 0 0], .agg #[.slice none 0 0, .slice none 0 0, .slice none 0 0, .slice none 0 0, .slice none 0 0, .slice none 0 0]] w fun e w' => e = .returned (.bool true) ∧ Below w.heap.size w w' := by
 have HT := zh (fun v => same_tx0 v)
 have hal : ∀ o o' : Obj, Below w.heap.size w ((w.alloc o).alloc o') := fun o o' => ((Below.refl _ _).alloc (Nat.le_refl _) _).alloc (by simp) _
 have HAL := zh hal
 clear hal
 go_enter Tryz.func38, Tryz.ntmps38
 go_wp2
 refine wp_loop_rounds 1 ?_
 rw [rounds_succ]
 go_wp2
 refine wp_loop_rounds 1 ?_
 rw [rounds_succ]
 go_wp2
 refine wp_loop_rounds 1 ?_
 rw [rounds_succ]
 go_wp2
 refine wp_loop_rounds 1 ?_
 rw [rounds_succ]
 go_wp2_with fail
 refine (HT.out _).mono ?_
 rintro e v ⟨rfl, hv⟩
 rw [hv]
 clear hv
 go_wp2_with fail
 refine (HT.out _).mono ?_
 rintro e v ⟨rfl, hv⟩
 rw [hv]
 clear hv
 go_wp2
 go_ret
 exact ⟨rfl, HAL.out _ _⟩
theorem same_rs0 (w : World) : Calls Tryz.prog 13 #[.agg #[.int .i64 0, .int .i64 0, .int .i64 0, .int .i64 0, .slice none 0 0, .slice none 0 0, .slice none 0 0, .slice none 0 0, .slice none 0 0, .slice none 0 0, .slice none 0 0], .agg #[.int .i64 0, .int .i64 0, .int .i64 0, .int .i64 0, .slice none 0 0, .slice none 0 0, .slice none 0 0, .slice none 0 0, .slice none 0 0, .slice none 0 0, .slice none 0 0]] w fun e w' => e = .returned (.bool true) ∧ Below w.heap.size w w' := by
 have HE := zh (fun v => same_ev0 v); have HT := zh (fun v => same_tr0 v)
 have hal : ∀ o o' : Obj, Below w.heap.size w ((w.alloc o).alloc o') := fun o o' => ((Below.refl _ _).alloc (Nat.le_refl _) _).alloc (by simp) _
 have HAL := zh hal
 clear hal
 go_enter Tryz.func13, Tryz.ntmps13
 go_wp2_with fail
 refine (HE.out _).mono ?_
 rintro e v ⟨rfl, hv⟩
 rw [hv]
 clear hv
 go_wp2_with fail
 refine (HT.out _).mono ?_
 rintro e v ⟨rfl, hb⟩
 have EN := zh (then' (HAL.out _ _) hb)
 clear hb
 go_wp2
 go_ret
 exact ⟨rfl, EN.out⟩
end Go.Proofs.YtjejmlpjifhmmaaGreatDoor.stp
namespace Go.Proofs.YtjejmlpjifhmmaaGreatDoor.stp
open Go.RowKit Go.MapKept Go.ChangeMaps Go.Shelf
open words kindp opp op kind prg sto find
set_option maxRecDepth 100000
set_option maxHeartbeats 8000000
set_option linter.all false
theorem caught_a (q mb : Nat) (m : MS) (w : World) (hq : w.cell? ⟨q, 0, none⟩ = some (.pointer (some ⟨mb, 0, none⟩))) (h : Mk mb m w) :
  CallsD Tryz.prog 70 #[.pointer (some ⟨q, 0, none⟩)] (.panicking [{ v := trapV 9 0, recovered := false }]) w fun e u' w' => e = .returned (.tuple #[]) ∧ u' = .panicking [{ v := trapV 9 0, recovered := true }] ∧ Mk mb { m with st := 2, tr := 9, cd := 0 } w' ∧ Kp [mb] w w' := by
 obtain ⟨W, hW⟩ : ∃ W, W = w.alloc (.cells #[.int .i64 9, .int .i64 0] 186) := ⟨_, rfl⟩
 have hal : Below w.heap.size w W := by rw [hW]; exact (Below.refl _ _).alloc (Nat.le_refl _) _
 have hT : W.heap[w.heap.size]? = some (.cells #[.int .i64 9, .int .i64 0] 186 (0, 0)) := by rw [hW]; exact heap_alloc_new _ _
 have hM := h.below hal
 have q1 : W.cell? ⟨q, 0, none⟩ = some (.pointer (some ⟨mb, 0, none⟩)) := (hal.cell (p := ⟨q, 0, none⟩) (World.block_lt_of_cell? _ _ hq)).trans hq
 have t0 : W.cell? ⟨w.heap.size, 0, none⟩ = some (.int .i64 9) := cell_of_row _ _ 0 _ _ _ hT
 have t1 : W.cell? ⟨w.heap.size, 1, none⟩ = some (.int .i64 0) := cell_of_row _ _ 1 _ _ _ hT
 have c16 : W.cell? ⟨mb, 16, none⟩ = some (.int .i64 m.st) := cell_of_row _ _ 16 _ _ _ hM
 have c17 : W.cell? ⟨mb, 17, none⟩ = some (.int .i64 m.cd) := cell_of_row _ _ 17 _ _ _ hM
 have c18 : W.cell? ⟨mb, 18, none⟩ = some (.int .i64 m.tr) := cell_of_row _ _ 18 _ _ _ hM
 have z16 := frozen_of_row _ _ 16 _ _ hM
 have z17 := frozen_of_row _ _ 17 _ _ hM
 have z18 := frozen_of_row _ _ 18 _ _ hM
 have hne : ¬ w.heap.size = mb := by have := blk_lt h; omega
 have hne' : ¬ mb = w.heap.size := by omega
 have HM := zh hM; have HA := zh hal; have HW := zh hW
 clear hW hal hT hM h hq
 refine callsD_of_wpS Tryz.func70 rfl fun c₀ cs hu => ?_
 simp only [Tryz.ntmps70, List.size_toArray, List.length_cons, List.length_nil, Nat.reduceAdd, Nat.reduceSub, Array.replicate_succ, Array.replicate_zero, List.push_toArray, List.append_toArray, List.nil_append, List.cons_append]
 apply wpS_seq
 apply wpS_region
 simp [wpOpsS, go_sem, recoverD, hu, Exit.thenS]
 refine wpS_of_wp ?_
 unfold trapV
 have hta : ∀ (v : Value) (w : World), (Instr.typeAssert (.iface 186 v) 20 186 true).run Tryz.prog w = .ok (.tuple #[v, .bool true]) w := fun _ _ => by kernel_rfl
 have hnn : ∀ (v : Value) (w : World), (binOp .eql 20 (.iface 186 v) .nilIface).run Tryz.prog w = .ok (.bool false) w := fun _ _ => by kernel_rfl
 go_wp2_with fail
 rw [← HW.out]
 (try go_wp2_with fail)
 have z1 : (W.setCell ⟨mb, 16, none⟩ (.int .i64 2)).heap[mb]? = some (.cells (msC { m with st := 2 }).toArray 109 (0, 0)) := by rw [heap_setCell_same _ _ 16 _ _ _ HM.out]; rfl
 have z2 : ((W.setCell ⟨mb, 16, none⟩ (.int .i64 2)).setCell ⟨mb, 18, none⟩ (.int .i64 9)).heap[mb]? = some (.cells (msC { m with st := 2, tr := 9 }).toArray 109 (0, 0)) := by rw [heap_setCell_same _ _ 18 _ _ _ z1]; rfl
 have z3 : (((W.setCell ⟨mb, 16, none⟩ (.int .i64 2)).setCell ⟨mb, 18, none⟩ (.int .i64 9)).setCell ⟨mb, 17, none⟩ (.int .i64 0)).heap[mb]? = some (.cells (msC { m with st := 2, tr := 9, cd := 0 }).toArray 109 (0, 0)) := by rw [heap_setCell_same _ _ 17 _ _ _ z2]; rfl
 have ENM := zh (show Mk mb { m with st := 2, tr := 9, cd := 0 } (((W.setCell ⟨mb, 16, none⟩ (.int .i64 2)).setCell ⟨mb, 18, none⟩ (.int .i64 9)).setCell ⟨mb, 17, none⟩ (.int .i64 0)).drew from z3)
 have ENK := zh (show Kp [mb] w (((W.setCell ⟨mb, 16, none⟩ (.int .i64 2)).setCell ⟨mb, 18, none⟩ (.int .i64 9)).setCell ⟨mb, 17, none⟩ (.int .i64 0)).drew from ((((Kp.below HA.out : Kp [mb] w W).set (by simp) _).set (by simp) _).set (by simp) _).drew)
 clear z1 z2 z3
 go_region
 all_goals
  cases c₀
  exact ⟨rfl, _, rfl, _, results_none rfl _ _ _, rfl, rfl, ENM.out, ENK.out⟩
theorem attempt_n (mb K : Nat) (m : MS) (w : World) (h : Mk mb m w) (hcf : ∀ (args : Array Value) (w : World), (callFunc K args).run Tryz.prog w = .ok (.enter K args) w)
  (hk : ∀ v, Below w.heap.size w v → Calls Tryz.prog K #[.pointer (some ⟨mb, 0, none⟩)] v (fun e w' => e = .panicked [{ v := trapV 9 0, recovered := false }] ∧ Below v.heap.size v w')) :
 Calls Tryz.prog 33 #[.pointer (some ⟨mb, 0, none⟩), .func (.func K) #[.pointer (some ⟨mb, 0, none⟩)] #[]] w fun e w' => e = .returned (.tuple #[]) ∧ Mk mb { m with st := 2, tr := 9, cd := 0 } w' ∧ Kp [mb] w w' := by
 have hmf : ∀ (fn : Fn) (first cap : Array Value) (w : World), (Instr.makeFunc fn first cap).run Tryz.prog w = .ok (.func fn first cap) w := fun _ _ _ _ => rfl
 obtain ⟨W, hW⟩ : ∃ W, W = w.alloc (.cells #[.pointer (some ⟨mb, 0, none⟩)] 29) := ⟨_, rfl⟩
 have hal : Below w.heap.size w W := by rw [hW]; exact (Below.refl _ _).alloc (Nat.le_refl _) _
 have hQ : W.heap[w.heap.size]? = some (.cells #[.pointer (some ⟨mb, 0, none⟩)] 29 (0, 0)) := by rw [hW]; exact heap_alloc_new _ _
 have HK := zh (hk W hal)
 have HW := zh hW; have HQ := zh hQ; have HM := zh (h.below hal); have HA := zh hal
 clear hk hW hal hQ h
 go_enter_defers Tryz.func33, Tryz.ntmps33
 go_wp2_with fail
 rw [← HW.out]
 refine HK.out.mono ?_
 rintro e w1 ⟨rfl, hb⟩
 have m1 := HM.out.below hb
 have q1 : w1.cell? ⟨w.heap.size, 0, none⟩ = some (.pointer (some ⟨mb, 0, none⟩)) := cell_of_row _ _ 0 _ _ _ ((hb.block _ (blk_lt HQ.out)).trans HQ.out)
 have k1 : Kp [mb] w w1 := (Kp.below HA.out).trans (Kp.below hb)
 show Leaves _ _ _ _ _ _ _
 refine leaves_cons (f := 70) (args := #[.pointer (some ⟨w.heap.size, 0, none⟩)]) (by simp) (by simp [go_sem]) ?_
 refine (caught_a _ mb m w1 q1 m1).mono ?_
 rintro e u' w2 ⟨rfl, rfl, hm, hk⟩
 exact ⟨.tuple #[], results_none rfl _ _ _, rfl, hm, k1.trans hk⟩
end Go.Proofs.YtjejmlpjifhmmaaGreatDoor.stp
namespace Go.Proofs.YtjejmlpjifhmmaaGreatDoor.stp
open Go.RowKit Go.MapKept Go.ChangeMaps Go.Shelf
open words kindp opp op kind prg sto find
set_option maxRecDepth 100000
set_option maxHeartbeats 8000000
set_option linter.all false
def No (x : PrM) : Prop := x.cs = [] ∧ x.ns = [] ∧ x.ec = [] ∧ x.en = [] ∧ x.ed = []
theorem No.of {x y : PrM} (h : pP y = pP x) (hx : No x) : No y := by
 have e1 : y.cs.map pC = x.cs.map pC := congrArg PrP.cs h
 have e2 : y.ns = x.ns := congrArg PrP.ns h
 have e3 : y.ec = x.ec := congrArg PrP.ec h
 have e4 : y.en = x.en := congrArg PrP.en h
 have e5 : y.ed = x.ed := congrArg PrP.ed h
 rw [hx.1] at e1
 exact ⟨List.map_eq_nil_iff.1 e1, e2.trans hx.2.1, e3.trans hx.2.2.1, e4.trans hx.2.2.2.1, e5.trans hx.2.2.2.2⟩
theorem No.gr {x : PrM} (h : No x) : GrP x := by
 obtain ⟨h1, h2, -⟩ := h
 refine ⟨⟨by simp [h1], by simp [h2]⟩, ?_⟩
 intro c hc
 rw [h1] at hc
 cases hc
theorem No.get {x : PrM} (h : No x) {k : MeM} {ok : Bool} (hr : GetR x.cs [] [] [] k ok) : ok = false := by
 unfold GetR at hr
 rw [h.1, show firstM ([] : List ClM) [[]] [] [] = none from by simp [firstM, oneM, findC]] at hr
 exact hr.1
theorem start_n (mb : Nat) (m : MS) (w1 w : World) (hS : Since mb w1 w) (h : Mk mb m w) (hx : No m.x) (hok : PrOk w1 m.x) :
 Calls Tryz.prog 34 #[.pointer (some ⟨mb, 0, none⟩)] w fun e w' => e = .panicked [{ v := trapV 9 0, recovered := false }] ∧ Below w.heap.size w w' := by
 have HGM := zh (fun (v : World) (hv : Below w.heap.size w v) => get_m m.x [] [] [] v (hok.below ((hS.below hv).of)) hx.gr)
 have HM := zh h; have HLT := zh (blk_lt h); have HSO := zh hx
 obtain ⟨-, -, h1, h2, h3⟩ := id hx
 have HC := zh (show ∀ v : World, Mk mb m v → (fun w' : World => w'.cell? ⟨mb, 0, none⟩ = some (.slice m.x.A1 m.x.cs.length m.x.c1) ∧ w'.cell? ⟨mb, 1, none⟩ = some (.slice m.x.A2 m.x.ns.length m.x.c2) ∧ w'.cell? ⟨mb, 2, none⟩ = some (.string ⟨#[]⟩) ∧ w'.cell? ⟨mb, 3, none⟩ = some (.string ⟨#[]⟩) ∧ w'.cell? ⟨mb, 4, none⟩ = some (.string ⟨#[]⟩)) v from fun v hm => by
  have c2 : v.cell? ⟨mb, 2, none⟩ = some (.string ⟨m.x.ec.toArray⟩) := cell_of_row _ _ 2 _ _ _ hm
  have c3 : v.cell? ⟨mb, 3, none⟩ = some (.string ⟨m.x.en.toArray⟩) := cell_of_row _ _ 3 _ _ _ hm
  have c4 : v.cell? ⟨mb, 4, none⟩ = some (.string ⟨m.x.ed.toArray⟩) := cell_of_row _ _ 4 _ _ _ hm
  rw [h1] at c2; rw [h2] at c3; rw [h3] at c4
  exact ⟨cell_of_row _ _ 0 _ _ _ hm, cell_of_row _ _ 1 _ _ _ hm, c2, c3, c4⟩)
 dsimp only [prC] at HGM
 rw [h1, h2, h3] at HGM
 clear hS h hx hok h1 h2 h3
 have hS0 := HC.out _ HM.out
 try dsimp only at hS0
 go_enter Tryz.func34, Tryz.ntmps34
 go_wp2_with fail
 clear hS0
 refine wp_region_held_drew (S := fun w' : World => w'.cell? ⟨mb, 0, none⟩ = some (.slice m.x.A1 m.x.cs.length m.x.c1) ∧ w'.cell? ⟨mb, 1, none⟩ = some (.slice m.x.A2 m.x.ns.length m.x.c2) ∧ w'.cell? ⟨mb, 2, none⟩ = some (.string ⟨#[]⟩) ∧ w'.cell? ⟨mb, 3, none⟩ = some (.string ⟨#[]⟩) ∧ w'.cell? ⟨mb, 4, none⟩ = some (.string ⟨#[]⟩)) (by kernel_rfl) ?_ (fun hHeld => ?_)
 ·exact HC.out _ HM.out
 obtain ⟨D, hD⟩ : ∃ u, u = w.drew := ⟨_, rfl⟩
 have DM := zh (show Mk mb m D from by rw [hD]; exact HM.out)
 have DA := zh (show Below w.heap.size w D from by rw [hD]; exact overW (Below.refl _ _))
 have DZ := zh (show D.heap.size = w.heap.size from by rw [hD]; rfl)
 rw [← hD]
 clear hD hHeld
 refine' cutH (T := _) ?pK ?fK
 case' fK => intro KEY
 ·have hS0 := HC.out _ DM.out
  try dsimp only at hS0
  refine tkp 0 rfl ?_
  refine tkp 1 rfl ?_
  refine tkp 2 rfl ?_
  refine tkp 3 rfl ?_
  refine tkp 4 rfl ?_
  refine tkp 5 rfl ?_
  refine tkp 6 rfl ?_
  refine tkp 7 rfl ?_
  refine tkp 8 rfl ?_
  clear hS0
  refine wpAnyH_ready (rs := [9, 13]) (by kernel_rfl) (by simp) (AllReadyH.cons rfl (fun K hK => ?_) (AllReadyH.cons rfl (fun K hK => ?_) AllReadyH.nil))
  ·go_simp
   refine (HGM.out D DA.out).mono ?_
   rintro e v ⟨⟨k, ok, rfl, hgr, hkc, hkr⟩, hb⟩
   have hok1 := HSO.out.get hgr
   subst hok1
   have VM := zh (DM.out.below hb)
   have VA := zh (show Below w.heap.size w v from DA.out.trans (hb.mono DA.out.size))
   obtain ⟨X, hX⟩ : ∃ X, X = v.alloc (.cells #[.string ⟨#[]⟩, .string ⟨#[]⟩, .bool false, .bool false, .int .i64 0, .slice none 0 0] 155) := ⟨_, rfl⟩
   have XL : Below v.heap.size v X := by rw [hX]; exact (Below.refl _ _).alloc (Nat.le_refl _) _
   have XN := zh (show X.heap[v.heap.size]? = some (.cells #[.string ⟨#[]⟩, .string ⟨#[]⟩, .bool false, .bool false, .int .i64 0, .slice none 0 0] 155 (0, 0)) from by rw [hX]; exact heap_alloc_new _ _)
   have XM := zh (VM.out.below XL)
   have XA := zh (show Below w.heap.size w X from VA.out.trans (XL.mono VA.out.size))
   have BGE := zh (show w.heap.size ≤ v.heap.size from by have := hb.size; have := DZ.out; omega)
   have HX := zh hX
   clear hX XL hgr hkc hkr hb
   unfold meC
   go_wp2_with fail
   refine hK.out _ _ (HC.out _ VM.out) (fun hHeld => ?_)
   clear hK K
   try simp only [puts]
   have hS0 := HC.out _ VM.out
   try dsimp only at hS0
   refine tkp 10 rfl ?_
   refine tkp 11 rfl ?_
   refine tkp 12 rfl ?_
   clear hS0
   refine rdy 13 rfl (fun K hK => ?_)
   go_simp
   rw [← HX.out]
   refine hK.out _ _ (HC.out _ XM.out) (fun hHeld => ?_)
   clear hK K
   try simp only [puts]
   obtain ⟨Z, hZ⟩ : ∃ Z, Z = ((((((X.setCell ⟨v.heap.size, 0, none⟩ (.string ⟨k.nm.toArray⟩)).setCell ⟨v.heap.size, 1, none⟩ (.string ⟨k.ds.toArray⟩)).setCell ⟨v.heap.size, 2, none⟩ (.bool k.st)).setCell ⟨v.heap.size, 3, none⟩ (.bool k.ab)).setCell ⟨v.heap.size, 4, none⟩ (.int .i64 k.rg)).setCell ⟨v.heap.size, 5, none⟩ (.slice k.A k.co.length k.c)) := ⟨_, rfl⟩
   have gZ : X.grownBy Z (some (v.heap.size)) := by rw [hZ]; exact gb6 _ _ _ _ _ _ _ _
   have nZ : Z.heap[v.heap.size]? = some (.cells #[.string ⟨k.nm.toArray⟩, .string ⟨k.ds.toArray⟩, .bool k.st, .bool k.ab, .int .i64 k.rg, .slice k.A k.co.length k.c] 155 (0, 0)) := by rw [hZ]; exact set6 XN.out _ _ _ _ _ _
   have kZ : Kp [v.heap.size] X Z := Kp.of gZ (fun c hc _ => by cases hc; simp)
   have mZ : Mk mb m Z := XM.out.kept kZ (by simp; have := HLT.out; have := BGE.out; omega)
   have aZ : Below w.heap.size w Z := XA.out.trans (kZ.toBelow XA.out.size (by simp; have := BGE.out; omega))
   have y0 : X.cell? ⟨v.heap.size, 0, none⟩ = some (.string ⟨#[]⟩) := cell_of_row _ _ 0 _ _ _ XN.out
   have g0 := frozen_of_row _ _ 0 _ _ XN.out
   have y1 : X.cell? ⟨v.heap.size, 1, none⟩ = some (.string ⟨#[]⟩) := cell_of_row _ _ 1 _ _ _ XN.out
   have g1 := frozen_of_row _ _ 1 _ _ XN.out
   have y2 : X.cell? ⟨v.heap.size, 2, none⟩ = some (.bool false) := cell_of_row _ _ 2 _ _ _ XN.out
   have g2 := frozen_of_row _ _ 2 _ _ XN.out
   have y3 : X.cell? ⟨v.heap.size, 3, none⟩ = some (.bool false) := cell_of_row _ _ 3 _ _ _ XN.out
   have g3 := frozen_of_row _ _ 3 _ _ XN.out
   have y4 : X.cell? ⟨v.heap.size, 4, none⟩ = some (.int .i64 0) := cell_of_row _ _ 4 _ _ _ XN.out
   have g4 := frozen_of_row _ _ 4 _ _ XN.out
   have y5 : X.cell? ⟨v.heap.size, 5, none⟩ = some (.slice none 0 0) := cell_of_row _ _ 5 _ _ _ XN.out
   have g5 := frozen_of_row _ _ 5 _ _ XN.out
   obtain ⟨b, hbb⟩ : ∃ b, b = v.heap.size := ⟨_, rfl⟩
   have F1 := zh mZ; have F3 := zh (show Z.heap[b]? = some (.cells #[.string ⟨k.nm.toArray⟩, .string ⟨k.ds.toArray⟩, .bool k.st, .bool k.ab, .int .i64 k.rg, .slice k.A k.co.length k.c] 155 (0, 0)) from by rw [hbb]; exact nZ); have F6 := zh aZ
   have sZ := HC.out _ mZ
   try dsimp only at sZ
   have SZZ := zh sZ
   have HZ := zh hZ; have HBB := zh hbb
   clear hZ gZ nZ kZ mZ aZ sZ hbb
   refine rdy 14 rfl (fun K hK => ?_)
   go_simp
   rw [← HZ.out]
   refine hK.out _ _ SZZ.out (fun hHeld => ?_)
   clear hK K
   try simp only [puts]
   clear y0 g0 y1 g1 y2 g2 y3 g3 y4 g4 y5 g5
   have hS1 := SZZ.out
   refine tkp 15 rfl ?_
   clear hS1
   rw [← HBB.out]
   refine listedH (L := #[true, true, true, true, true, true, true, true, true, true, true, true, true, true, true, true]) (by kernel_rfl) ?_
   clear hHeld
   clear VM VA XN XM XA BGE HX SZZ HZ HBB
   revert F1 F3 F6
   revert b Z k
   exact KEY
  ·obtain ⟨X, hX⟩ : ∃ X, X = D.alloc (.cells #[.string ⟨#[]⟩, .string ⟨#[]⟩, .bool false, .bool false, .int .i64 0, .slice none 0 0] 155) := ⟨_, rfl⟩
   have XL : Below D.heap.size D X := by rw [hX]; exact (Below.refl _ _).alloc (Nat.le_refl _) _
   have XN := zh (show X.heap[D.heap.size]? = some (.cells #[.string ⟨#[]⟩, .string ⟨#[]⟩, .bool false, .bool false, .int .i64 0, .slice none 0 0] 155 (0, 0)) from by rw [hX]; exact heap_alloc_new _ _)
   have XM := zh (DM.out.below XL)
   have XA := zh (show Below w.heap.size w X from DA.out.trans (XL.mono DA.out.size))
   have HX := zh hX
   clear hX XL
   go_simp
   rw [← HX.out]
   refine hK.out _ _ (HC.out _ XM.out) (fun hHeld => ?_)
   clear hK K
   try simp only [puts]
   clear hHeld
   refine rdy 9 rfl (fun K hK => ?_)
   go_simp
   refine (HGM.out X XA.out).mono ?_
   rintro e v ⟨⟨k, ok, rfl, hgr, hkc, hkr⟩, hb⟩
   have hok1 := HSO.out.get hgr
   subst hok1
   have VM := zh (XM.out.below hb)
   have VA := zh (show Below w.heap.size w v from XA.out.trans (hb.mono XA.out.size))
   have VN := zh ((hb.block _ (blk_lt XN.out)).trans XN.out)
   have BGE := zh (show w.heap.size ≤ D.heap.size from by have := DZ.out; omega)
   clear hgr hkc hkr hb
   unfold meC
   go_wp2_with fail
   refine hK.out _ _ (HC.out _ VM.out) (fun hHeld => ?_)
   clear hK K
   try simp only [puts]
   have hS0 := HC.out _ VM.out
   try dsimp only at hS0
   refine tkp 10 rfl ?_
   refine tkp 11 rfl ?_
   refine tkp 12 rfl ?_
   clear hS0
   obtain ⟨Z, hZ⟩ : ∃ Z, Z = ((((((v.setCell ⟨D.heap.size, 0, none⟩ (.string ⟨k.nm.toArray⟩)).setCell ⟨D.heap.size, 1, none⟩ (.string ⟨k.ds.toArray⟩)).setCell ⟨D.heap.size, 2, none⟩ (.bool k.st)).setCell ⟨D.heap.size, 3, none⟩ (.bool k.ab)).setCell ⟨D.heap.size, 4, none⟩ (.int .i64 k.rg)).setCell ⟨D.heap.size, 5, none⟩ (.slice k.A k.co.length k.c)) := ⟨_, rfl⟩
   have gZ : v.grownBy Z (some (D.heap.size)) := by rw [hZ]; exact gb6 _ _ _ _ _ _ _ _
   have nZ : Z.heap[D.heap.size]? = some (.cells #[.string ⟨k.nm.toArray⟩, .string ⟨k.ds.toArray⟩, .bool k.st, .bool k.ab, .int .i64 k.rg, .slice k.A k.co.length k.c] 155 (0, 0)) := by rw [hZ]; exact set6 VN.out _ _ _ _ _ _
   have kZ : Kp [D.heap.size] v Z := Kp.of gZ (fun c hc _ => by cases hc; simp)
   have mZ : Mk mb m Z := VM.out.kept kZ (by simp; have := HLT.out; have := BGE.out; omega)
   have aZ : Below w.heap.size w Z := VA.out.trans (kZ.toBelow VA.out.size (by simp; have := BGE.out; omega))
   have y0 : v.cell? ⟨D.heap.size, 0, none⟩ = some (.string ⟨#[]⟩) := cell_of_row _ _ 0 _ _ _ VN.out
   have g0 := frozen_of_row _ _ 0 _ _ VN.out
   have y1 : v.cell? ⟨D.heap.size, 1, none⟩ = some (.string ⟨#[]⟩) := cell_of_row _ _ 1 _ _ _ VN.out
   have g1 := frozen_of_row _ _ 1 _ _ VN.out
   have y2 : v.cell? ⟨D.heap.size, 2, none⟩ = some (.bool false) := cell_of_row _ _ 2 _ _ _ VN.out
   have g2 := frozen_of_row _ _ 2 _ _ VN.out
   have y3 : v.cell? ⟨D.heap.size, 3, none⟩ = some (.bool false) := cell_of_row _ _ 3 _ _ _ VN.out
   have g3 := frozen_of_row _ _ 3 _ _ VN.out
   have y4 : v.cell? ⟨D.heap.size, 4, none⟩ = some (.int .i64 0) := cell_of_row _ _ 4 _ _ _ VN.out
   have g4 := frozen_of_row _ _ 4 _ _ VN.out
   have y5 : v.cell? ⟨D.heap.size, 5, none⟩ = some (.slice none 0 0) := cell_of_row _ _ 5 _ _ _ VN.out
   have g5 := frozen_of_row _ _ 5 _ _ VN.out
   obtain ⟨b, hbb⟩ : ∃ b, b = D.heap.size := ⟨_, rfl⟩
   have F1 := zh mZ; have F3 := zh (show Z.heap[b]? = some (.cells #[.string ⟨k.nm.toArray⟩, .string ⟨k.ds.toArray⟩, .bool k.st, .bool k.ab, .int .i64 k.rg, .slice k.A k.co.length k.c] 155 (0, 0)) from by rw [hbb]; exact nZ); have F6 := zh aZ
   have sZ := HC.out _ mZ
   try dsimp only at sZ
   have SZZ := zh sZ
   have HZ := zh hZ; have HBB := zh hbb
   clear hZ gZ nZ kZ mZ aZ sZ hbb
   refine rdy 14 rfl (fun K hK => ?_)
   go_simp
   rw [← HZ.out]
   refine hK.out _ _ SZZ.out (fun hHeld => ?_)
   clear hK K
   try simp only [puts]
   clear y0 g0 y1 g1 y2 g2 y3 g3 y4 g4 y5 g5
   have hS1 := SZZ.out
   refine tkp 15 rfl ?_
   clear hS1
   rw [← HBB.out]
   refine listedH (L := #[true, true, true, true, true, true, true, true, true, true, true, true, true, true, true, true]) (by kernel_rfl) ?_
   clear hHeld
   clear VM VA VN XN XM XA BGE HX SZZ HZ HBB
   revert F1 F3 F6
   revert b Z k
   exact KEY
 case pK =>
  intro k Z b F1 F3 F6
  obtain ⟨kn, kd, ks, ka, kr, kco, kA, kc⟩ := k
  dsimp only at F3 ⊢
  refine wpAnyH_done (by kernel_rfl) ?_ _
  have b2 : Z.cell? ⟨b, 2, none⟩ = some (.bool ks) := cell_of_row _ _ 2 _ _ _ F3.out
  have HMU := zh (must_f Z)
  go_wp2_with fail
  refine HMU.out.mono ?_
  rintro e v ⟨rfl, hv⟩
  rw [hv]
  clear hv b2 HMU v
  exact ⟨rfl, rfl, F6.out⟩
end Go.Proofs.YtjejmlpjifhmmaaGreatDoor.stp
namespace Go.Proofs.YtjejmlpjifhmmaaGreatDoor.stp
open Go.RowKit Go.MapKept Go.ChangeMaps Go.Shelf
open words kindp opp op kind prg sto find
set_option maxRecDepth 100000
set_option maxHeartbeats 8000000
set_option linter.all false
def NewN (w : World) (e : Ending) (w' : World) : Prop := ∃ (mb : Nat) (m : MS), e = .returned (.pointer (some ⟨mb, 0, none⟩)) ∧ Mk mb m w' ∧ m.fr = .slice none 0 0 ∧ m.er = .slice none 0 0 ∧ m.br = .slice none 0 0 ∧ m.ev = .slice none 0 0 ∧ m.tr = 9 ∧ Below w.heap.size w w'
theorem New_n (x : PrM) (hx : No x) (w : World) (hk : PrOk w x) (An : Option Addr) (nn cn : Nat) (xn : List Value) (hn1 : Rd w An xn) (hn2 : xn.length = nn * 2) (hn3 : nn ≤ 1000) (hn4 : ∀ u ∈ xn, u.oneCell' = true)
 (Am : Option Addr) (nm cm : Nat) (xm : List Value) (hm1 : Rd w Am xm) (hm2 : xm.length = nm * 2) (hm3 : nm ≤ 1000) (hm4 : ∀ u ∈ xm, u.oneCell' = true)
 (Ai : Option Addr) (ni ci : Nat) (xi : List Value) (hi1 : Rd w Ai xi) (hi2 : xi.length = ni * 1) (hi3 : ni ≤ 1000) (hi4 : ∀ u ∈ xi, u.oneCell' = true) (hic : ni ≤ ci) :
 Calls Tryz.prog 10 #[.agg (prC x).toArray, .agg #[.slice An nn cn, .slice none 0 0, .slice Am nm cm], .slice Ai ni ci] w (NewN w) := by
 obtain ⟨W0, hW0⟩ : ∃ W, W = w.alloc (.cells (prC x).toArray 36) := ⟨_, rfl⟩
 obtain ⟨W, hW⟩ : ∃ W, W = W0.alloc (.cells #[.slice An nn cn, .slice none 0 0, .slice Am nm cm] 38) := ⟨_, rfl⟩
 have s0 : W0.heap.size = w.heap.size + 1 := by rw [hW0]; simp
 have s1 : W.heap.size = w.heap.size + 1 + 1 := by rw [hW, ← s0]; simp
 have l0 : Below w.heap.size w W0 := by rw [hW0]; exact (Below.refl _ _).alloc (Nat.le_refl _) _
 have l1 : Below W0.heap.size W0 W := by rw [hW]; exact (Below.refl _ _).alloc (Nat.le_refl _) _
 have a0 : W.heap[w.heap.size]? = some (.cells (prC x).toArray 36 (0, 0)) := (l1.block _ (by omega)).trans (by rw [hW0]; exact heap_alloc_new _ _)
 have a1 : W.heap[w.heap.size + 1]? = some (.cells #[.slice An nn cn, .slice none 0 0, .slice Am nm cm] 38 (0, 0)) := by rw [← s0, hW]; exact heap_alloc_new _ _
 have hal : Below w.heap.size w W := then' l0 l1
 have HCL := zh (clone_g x W (hk.below hal) hx.gr)
 have HAL := zh hal; have HP := zh a0; have HNB := zh a1; have HSZ := zh s1
 obtain ⟨x0, x1, x2, x3, x4⟩ := pr_cells a0
 have HN1 := zh hn1; have HN2 := zh hn2; have HN3 := zh hn3; have HN4 := zh hn4
 have HM1 := zh hm1; have HM2 := zh hm2; have HM3 := zh hm3; have HM4 := zh hm4
 have HI1 := zh hi1; have HI2 := zh hi2; have HI4 := zh hi4
 have HSO := zh hx
 dsimp only [prC] at HCL hW0 ⊢
 rw [hW, hW0] at x0 x1 x2 x3 x4
 have HW0 := zh hW0; have HW := zh hW
 clear hW0 hW s0 s1 l0 l1 a0 a1 hal hk hx hn1 hn2 hn3 hn4 hm1 hm2 hm3 hm4 hi1 hi2 hi4
 go_enter Tryz.func10, Tryz.ntmps10
 go_wp2_with fail
 rw [← HW0.out, ← HW.out]
 clear x0 x1 x2 x3 x4
 refine HCL.out.mono ?_
 rintro e v ⟨⟨y, rfl, hyp, how⟩, hb⟩
 have v0 := (hb.block _ (blk_lt HP.out)).trans HP.out
 obtain ⟨y0, y1, y2, y3, y4⟩ := c5q v0
 have f0 := frozen_of_row _ _ 0 _ _ v0; have f1 := frozen_of_row _ _ 1 _ _ v0; have f2 := frozen_of_row _ _ 2 _ _ v0; have f3 := frozen_of_row _ _ 3 _ _ v0; have f4 := frozen_of_row _ _ 4 _ _ v0
 have z0 := heap_setCell_same _ _ 0 _ _ (.slice y.A1 y.cs.length y.c1) v0
 have z1 := heap_setCell_same _ _ 1 _ _ (.slice y.A2 y.ns.length y.c2) z0
 have z2 := heap_setCell_same _ _ 2 _ _ (.string ⟨y.ec.toArray⟩) z1
 have z3 := heap_setCell_same _ _ 3 _ _ (.string ⟨y.en.toArray⟩) z2
 have z4 := heap_setCell_same _ _ 4 _ _ (.string ⟨y.ed.toArray⟩) z3
 obtain ⟨V, hV⟩ : ∃ V, V = ((((v.setCell ⟨w.heap.size, 0, none⟩ (.slice y.A1 y.cs.length y.c1)).setCell ⟨w.heap.size, 1, none⟩ (.slice y.A2 y.ns.length y.c2)).setCell ⟨w.heap.size, 2, none⟩ (.string ⟨y.ec.toArray⟩)).setCell ⟨w.heap.size, 3, none⟩ (.string ⟨y.en.toArray⟩)).setCell ⟨w.heap.size, 4, none⟩ (.string ⟨y.ed.toArray⟩) := ⟨_, rfl⟩
 have kV : Kp [w.heap.size] v V := by rw [hV]; exact (((((Kp.refl _ _).set (by simp) _).set (by simp) _).set (by simp) _).set (by simp) _).set (by simp) _
 have VP := zh (show V.heap[w.heap.size]? = some (.cells (prC y).toArray 36 (0, 0)) from by rw [hV, z4]; rfl)
 have VA := zh (show Below w.heap.size w V from (HAL.out.trans (hb.mono HAL.out.size)).trans (kV.toBelow (Nat.le_trans HAL.out.size hb.size) (by simp)))
 have VN := zh (kV.at_ ((hb.block _ (blk_lt HNB.out)).trans HNB.out) (by simp))
 have gV : v.grownBy V (some w.heap.size) := ⟨kV.os, kV.tape, kV.output, kV.size, fun k hk' hne => kV.block k hk' (by simp; intro e; exact hne (by rw [e]))⟩
 have VO := zh (show OwP W.heap.size V y from ⟨own_gb how.1 (by have := HSZ.out; omega) gV, own_gb how.2.1 (by have := HSZ.out; omega) gV, fun c hc => (how.2.2 c hc).gb (by have := HSZ.out; omega) gV⟩)
 have HYP := zh hyp
 have HV := zh hV
 dsimp only [prC]
 clear z0 z1 z2 z3 z4 v0 kV gV hV hb how hyp HCL
 go_wp2_with fail
 rw [← HV.out]
 clear y0 y1 y2 y3 y4 f0 f1 f2 f3 f4
 have HC := zh (show ∀ u : World, Below V.heap.size V u → (fun w' : World => (w'.cell? ⟨w.heap.size, 0, none⟩ = some (.slice y.A1 y.cs.length y.c1) ∧ w'.cell? ⟨w.heap.size, 1, none⟩ = some (.slice y.A2 y.ns.length y.c2) ∧ w'.cell? ⟨w.heap.size, 2, none⟩ = some (.string ⟨y.ec.toArray⟩) ∧ w'.cell? ⟨w.heap.size, 3, none⟩ = some (.string ⟨y.en.toArray⟩) ∧ w'.cell? ⟨w.heap.size, 4, none⟩ = some (.string ⟨y.ed.toArray⟩)) ∧ w'.cell? ⟨w.heap.size + 1, 0, none⟩ = some (.slice An nn cn) ∧ w'.cell? ⟨w.heap.size + 1, 1, none⟩ = some (.slice none 0 0) ∧ w'.cell? ⟨w.heap.size + 1, 2, none⟩ = some (.slice Am nm cm)) u from fun u hu => by
  have r0 := (hu.block _ (blk_lt VP.out)).trans VP.out
  have r1 := (hu.block _ (blk_lt VN.out)).trans VN.out
  exact ⟨⟨cell_of_row _ _ 0 _ _ _ r0, cell_of_row _ _ 1 _ _ _ r0, cell_of_row _ _ 2 _ _ _ r0, cell_of_row _ _ 3 _ _ _ r0, cell_of_row _ _ 4 _ _ _ r0⟩, cell_of_row _ _ 0 _ _ _ r1, cell_of_row _ _ 1 _ _ _ r1, cell_of_row _ _ 2 _ _ _ r1⟩)
 obtain ⟨k, hkk, hkn⟩ : ∃ k : Nat, k ≤ ni ∧ (if (256 : Int) < (ni : Int) then (256 : Int) else (ni : Int)) = (k : Int) := by
  by_cases h : 256 < ni
  ·exact ⟨256, by omega, by rw [if_pos (by omega)]; rfl⟩
  ·exact ⟨ni, Nat.le_refl _, by rw [if_neg (by omega)]⟩
 have hmin : ∀ (ts : Array TypeId) (t : TypeId) (u : World), (Builtin.min_ ts t #[.int .i64 (ni : Int), .int .i64 256]).run Tryz.prog u = .ok (.int .i64 (k : Int)) u := fun ts t u => by rw [run_min_int2, hkn]
 obtain ⟨Aj, hAj, hcut⟩ := run_cut_h (P := Tryz.prog) (t := 28) (e := 2) Tryz.underlying28 rfl (fun _ => by kernel_rfl) Ai ni ci k (by omega)
 have HKK := zh hkk; have HAJ := zh hAj
 clear hAj hkk
 refine wp_region_held_drew (S := fun w' : World => (w'.cell? ⟨w.heap.size, 0, none⟩ = some (.slice y.A1 y.cs.length y.c1) ∧ w'.cell? ⟨w.heap.size, 1, none⟩ = some (.slice y.A2 y.ns.length y.c2) ∧ w'.cell? ⟨w.heap.size, 2, none⟩ = some (.string ⟨y.ec.toArray⟩) ∧ w'.cell? ⟨w.heap.size, 3, none⟩ = some (.string ⟨y.en.toArray⟩) ∧ w'.cell? ⟨w.heap.size, 4, none⟩ = some (.string ⟨y.ed.toArray⟩)) ∧ w'.cell? ⟨w.heap.size + 1, 0, none⟩ = some (.slice An nn cn) ∧ w'.cell? ⟨w.heap.size + 1, 1, none⟩ = some (.slice none 0 0) ∧ w'.cell? ⟨w.heap.size + 1, 2, none⟩ = some (.slice Am nm cm)) (by kernel_rfl) ?_ (fun hHeld => ?_)
 ·exact HC.out _ (overW (Below.refl _ _))
 obtain ⟨D, hD⟩ : ∃ u, u = V.drew := ⟨_, rfl⟩
 have VD := zh (show Below V.heap.size V D from by rw [hD]; exact overW (Below.refl _ _))
 have hS0 := HC.out _ VD.out
 try dsimp only at hS0
 rw [← hD]
 clear hD hHeld
 refine tkp 0 rfl ?_
 refine tkp 1 rfl ?_
 refine tkp 2 rfl ?_
 refine tkp 4 rfl ?_
 refine tkp 5 rfl ?_
 refine tkp 8 rfl ?_
 refine tkp 9 rfl ?_
 refine tkp 10 rfl ?_
 refine tkp 11 rfl ?_
 refine tkp 12 rfl ?_
 refine tkp 15 rfl ?_
 have HKN := zh hkn
 clear hS0 hmin hcut hkn
 have Eu0 := zh VD.out
 have WV := zh (show ∀ u : World, Below V.heap.size V u → Below w.heap.size w u from fun u hu => VA.out.trans (hu.mono VA.out.size))
 have HK3 := zh (cln_pair An nn cn xn D (HN1.out.below (show Below w.heap.size w D from WV.out _ Eu0.out)) HN2.out (by have := HN3.out; omega) HN4.out)
 refine rdy 3 rfl (fun K hK => ?_)
 go_simp
 refine HK3.out.mono ?_
 rintro e u1 ⟨⟨B1, d1, rfl, ho⟩, hb⟩
 have Eu1 := zh (then' Eu0.out hb)
 clear ho
 clear hb HK3
 go_wp2_with fail
 refine hK.out _ _ (HC.out _ Eu1.out) (fun hHeld => ?_)
 clear hK K hHeld
 try simp only [puts]
 have HK6 := zh (cln_pair Am nm cm xm u1 (HM1.out.below (WV.out _ Eu1.out)) HM2.out (by have := HM3.out; omega) HM4.out)
 refine rdy 6 rfl (fun K hK => ?_)
 go_simp
 refine HK6.out.mono ?_
 rintro e u2 ⟨⟨B2, d2, rfl, ho⟩, hb⟩
 have Eu2 := zh (then' Eu1.out hb)
 clear ho
 clear hb HK6
 go_wp2_with fail
 refine hK.out _ _ (HC.out _ Eu2.out) (fun hHeld => ?_)
 clear hK K hHeld
 try simp only [puts]
 have hS0 := HC.out _ Eu2.out
 try dsimp only at hS0
 refine tkp 7 rfl ?_
 clear hS0
 have HK13 := zh (cln_i64 Aj k ci (xi.take k) u2 (HAJ.out _ _ (HI1.out.below (WV.out _ Eu2.out))) (by rw [List.length_take, HI2.out]; have := HKK.out; omega) (by have := HKK.out; omega) (fun u hu => HI4.out u (List.mem_of_mem_take hu)))
 refine rdy 13 rfl (fun K hK => ?_)
 go_simp
 refine HK13.out.mono ?_
 rintro e u3 ⟨⟨B3, d3, rfl, ho⟩, hb⟩
 have Eu3 := zh (then' Eu2.out hb)
 have RI := zh (own_rd ho); have RJ := zh (show ∀ a, B3 = some a → a.block < u3.heap.size from fun a ha => (ho.lt a.block (by rw [ha]; rfl)).2)
 clear ho
 clear hb HK13
 go_wp2_with fail
 refine hK.out _ _ (HC.out _ Eu3.out) (fun hHeld => ?_)
 clear hK K hHeld
 try simp only [puts]
 have HK14 := zh (new_w u3)
 refine rdy 14 rfl (fun K hK => ?_)
 go_simp
 refine HK14.out.mono ?_
 rintro e u4 ⟨rfl, hst, hb⟩
 have Eu4 := zh (then' Eu3.out hb)
 have B34 := zh hb
 clear hst
 clear hb HK14
 go_wp2_with fail
 refine hK.out _ _ (HC.out _ Eu4.out) (fun hHeld => ?_)
 clear hK K hHeld
 try simp only [puts]
 have KY := zh (show No y from No.of HYP.out HSO.out)
 have OK4 := zh (show PrOk u4 y from VO.out.ok.below Eu4.out)
 have HK16 := zh (statics_w y u4 OK4.out (by rw [KY.out.1]; simp) (fun c hc => by rw [KY.out.1] at hc; cases hc))
 refine rdy 16 rfl (fun K hK => ?_)
 go_simp
 refine HK16.out.mono ?_
 rintro e u5 ⟨⟨B5, d5, g5, rfl, hg5, hgo⟩, hb⟩
 have Eu5 := zh (then' Eu4.out hb)
 have B45 := zh hb
 clear hg5 hgo
 clear hb HK16
 go_wp2_with fail
 refine hK.out _ _ (HC.out _ Eu5.out) (fun hHeld => ?_)
 clear hK K hHeld
 try simp only [puts]
 have hS0 := HC.out _ Eu5.out
 try dsimp only at hS0
 refine tkp 17 rfl ?_
 clear hS0
 obtain ⟨X, hX⟩ : ∃ X, X = u5.alloc (.cells #[.slice y.A1 y.cs.length y.c1, .slice y.A2 y.ns.length y.c2, .string ⟨y.ec.toArray⟩, .string ⟨y.en.toArray⟩, .string ⟨y.ed.toArray⟩, .slice B1 nn d1, .slice none 0 0, .slice B2 nm d2, .slice B3 k d3, .int .i64 0, .pointer (some ⟨u3.heap.size, 0, none⟩), .slice none 0 0, .slice none 0 0, .slice B5 0 d5, .map (some g5), .slice none 0 0, .int .i64 0, .int .i64 0, .int .i64 0, .int .i64 0, .slice none 0 0, .slice none 0 0, .slice none 0 0, .slice none 0 0, .slice none 0 0, .slice none 0 0, .slice none 0 0, .slice none 0 0, .map none, .slice none 0 0, .map none, .slice none 0 0, .map none, .slice none 0 0, .map none, .slice none 0 0, .map none, .slice none 0 0, .map none, .slice none 0 0] 109) := ⟨_, rfl⟩
 have xl : Below u5.heap.size u5 X := by rw [hX]; exact (Below.refl _ _).alloc (Nat.le_refl _) _
 have EX := zh (then' Eu5.out xl)
 have HLX := zh (show Below u3.heap.size u3 X from then' (then' B34.out B45.out) xl)
 have U35 := zh (show u3.heap.size ≤ u5.heap.size from (then' B34.out B45.out).size)
 have XM := zh (show Mk u5.heap.size ⟨y, .slice B1 nn d1, .slice B2 nm d2, .slice B3 k d3, 0, .pointer (some ⟨u3.heap.size, 0, none⟩), .slice B5 0 d5, .map (some g5), .slice none 0 0, 0, 0, 0, 0, .slice none 0 0, .map none, .slice none 0 0, .map none, .slice none 0 0⟩ X from by rw [hX]; exact heap_alloc_new _ _)
 have XL := zh xl; have HX := zh hX
 clear hX xl
 refine rdy 18 rfl (fun K hK => ?_)
 go_simp
 rw [← HX.out]
 refine hK.out _ _ (HC.out _ EX.out) (fun hHeld => ?_)
 clear hK K
 try simp only [puts]
 have hS0 := HC.out _ EX.out
 try dsimp only at hS0
 refine tkp 19 rfl ?_
 clear hS0
 refine wpAnyH_done (by kernel_rfl) ?_ _
 obtain ⟨mb, hmb⟩ : ∃ n, n = u5.heap.size := ⟨_, rfl⟩
 rw [← hmb] at XM
 have O5 := zh (show PrOk u5 y from VO.out.ok.below Eu5.out)
 have HAT := zh (attempt_n mb 34 _ X XM.out (enters_of Tryz.func34 (by kernel_rfl) rfl)
  (fun v hv => start_n mb _ u5 v ⟨hmb.symm, by rw [hmb]; exact then' XL.out hv⟩ (XM.out.below hv) KY.out O5.out))
 have hmf : ∀ (fn : Fn) (first cap : Array Value) (w : World), (Instr.makeFunc fn first cap).run Tryz.prog w = .ok (.func fn first cap) w := fun _ _ _ _ => rfl
 have HMB := zh hmb
 rw [← hmb]
 clear hmb
 go_wp2_with fail
 refine HAT.out.mono ?_
 rintro e z ⟨rfl, hm, hkp⟩
 have EN := zh (show NewN w (.returned (.pointer (some ⟨mb, 0, none⟩))) z from
  ⟨mb, _, rfl, hm, rfl, rfl, rfl, rfl, rfl, (WV.out _ EX.out).trans (hkp.toBelow (WV.out _ EX.out).size (by simp; have h1 := (WV.out _ Eu5.out).size; have h3 := HMB.out; omega))⟩)
 clear hm hkp HAT
 go_wp2
 go_ret
 exact EN.out
end Go.Proofs.YtjejmlpjifhmmaaGreatDoor.stp
namespace Go.Proofs.YtjejmlpjifhmmaaGreatDoor.stepNone
open Go.RowKit
open Go.Proofs.YtjejmlpjifhmmaaGreatDoor.words Go.Proofs.YtjejmlpjifhmmaaGreatDoor.kind Go.Proofs.YtjejmlpjifhmmaaGreatDoor.stp Go.Proofs.YtjejmlpjifhmmaaGreatDoor.prg Go.Proofs.YtjejmlpjifhmmaaGreatDoor.kindp
set_option maxRecDepth 100000
set_option maxHeartbeats 8000000
set_option linter.all false
theorem pl_len (l : List Pr) : (PL l).length = l.length * 2 := by
 induction l with
 | nil => rfl
 | cons x l ih => simp [PL] at ih ⊢; omega
theorem pl_one (l : List Pr) : ∀ u ∈ PL l, u.oneCell' = true := by
 intro u hu
 simp [PL] at hu
 obtain ⟨x, y, -, h | h⟩ := hu <;> subst h <;> rfl
theorem no_ok (w : World) : PrOk w ⟨[], none, 0, [], none, 0, [], [], []⟩ := ⟨⟨Nat.le_refl _, .inl rfl⟩, ⟨Nat.le_refl _, .inl rfl⟩, fun c hc => by cases hc⟩
theorem fd2 (a b c s : Int) (Be B0 B1 B2 B3 B4 B5 : Option Addr) (de d0 d1 d2 d3 d4 d5 : Nat) (w : World) : (Instr.field 51 (.agg #[.int .i64 a, .int .i64 b, .int .i64 c, .int .i64 s, .slice Be 0 de, .slice B0 0 d0, .slice B1 0 d1, .slice B2 0 d2, .slice B3 0 d3, .slice B4 0 d4, .slice B5 0 d5]) 2).run Tryz.prog w = .ok (.int .i64 c) w := by kernel_rfl
theorem walk (A : Option Addr) (c : Nat) (l : List Pr) (B : Option Addr) (n d : Nat) (z : List Int) (w : World) (hr : Rd w A (PL l)) (_ : l.length ≤ c) (_ : l.length * 32 ≤ 140737488351232) (_ : ∀ q ∈ l, q.1.length ≤ 140737488351232 ∧ q.2.length ≤ 140737488351232)
 (hz : Rd w B (z.map (Value.int .i64))) (hn : z.length = n) (hd : n ≤ d) (_ : ∀ x ∈ z, (Lit.int .i64 x).wf = true) (_ : n * 8 ≤ 140737488351232) (hm : Mx w) (hv : Vd w) :
 Calls Tryz.prog 4 #[.slice A l.length c, .slice B n d] w fun e w' => e = .returned (.bool true) ∧ Below w.heap.size w w' := by
 have HLV := zh (fun (v : World) (hb : Below w.heap.size w v) => live_w v (hm.below hb) (hv.below hb))
 have HR := zh hr; have HZ := zh hz; have HZN := zh hn; have HD := zh hd
 obtain ⟨k, hk⟩ : ∃ k, k = l.length := ⟨_, rfl⟩
 have HK := zh hk
 rw [← hk]
 have hki : (k : Int) ≤ 4398046511104 := by omega
 have hni : (n : Int) ≤ 17592186044416 := by omega
 clear hr hz hn hd hm hv hk
 by_cases h1 : 60 < k
 ·have d1 : decide ((60 : Int) < (k : Int)) = true := by simp; omega
  have HL := zh (HLV.out w (Below.refl _ _))
  go_enter Tryz.func4, Tryz.ntmps4
  go_wp2_with fail
  refine HL.out.mono ?_
  rintro e v ⟨rfl, hb⟩
  have EN := zh hb
  clear hb
  go_wp2
  go_ret
  exact ⟨rfl, EN.out⟩
 by_cases h2 : 300 < n
 ·have d1 : decide ((60 : Int) < (k : Int)) = false := by simp; omega
  have d2 : decide ((300 : Int) < (n : Int)) = true := by simp; omega
  have HL := zh (HLV.out w (Below.refl _ _))
  go_enter Tryz.func4, Tryz.ntmps4
  go_wp2_with fail
  refine HL.out.mono ?_
  rintro e v ⟨rfl, hb⟩
  have EN := zh hb
  clear hb
  go_wp2
  go_ret
  exact ⟨rfl, EN.out⟩
 have d1 : decide ((60 : Int) < (k : Int)) = false := by simp; omega
 have d2 : decide ((300 : Int) < (n : Int)) = false := by simp; omega
 have HK6 := zh (show k ≤ 60 from by omega); have HN3 := zh (show n ≤ 300 from by omega)
 go_enter Tryz.func4, Tryz.ntmps4
 go_wp2_with fail
 have HNW := zh (New_n ⟨[], none, 0, [], none, 0, [], [], []⟩ ⟨rfl, rfl, rfl, rfl, rfl⟩ w (no_ok w) A k c (PL l) HR.out (by rw [HK.out]; exact pl_len l) (by omega) (pl_one l) none 0 0 [] (.inl rfl) rfl (by decide) (by intro u hu; simp at hu) B n d (z.map (Value.int .i64)) HZ.out (by rw [List.length_map, HZN.out]; omega) (by omega) (by intro u hu; obtain ⟨x, -, rfl⟩ := List.mem_map.1 hu; rfl) HD.out)
 refine HNW.out.mono ?_
 rintro e g1 ⟨mb, m, rfl, hm, hf, her, hbr, hev, htr, hb⟩
 have T1 := zh (show Tn mb m g1 from ⟨hm, her, hbr, hev⟩)
 have HF := zh hf; have HTR := zh htr; have B1 := zh hb
 clear hm hf her hbr hev htr hb HNW
 go_wp2_with fail
 refine (at_nil_ g1).mono ?_
 rintro e g2 ⟨rfl, hb⟩
 have T2 := zh (T1.out.below hb)
 have B2 := zh (show Below w.heap.size w g2 from then' B1.out hb)
 clear hb
 obtain ⟨q, hq⟩ : ∃ q, q = g2.heap.size := ⟨_, rfl⟩
 obtain ⟨X, hX⟩ : ∃ X, X = g2.alloc (.cells #[.string ⟨#[]⟩, .string ⟨#[]⟩, .string ⟨#[]⟩] 34) := ⟨_, rfl⟩
 have hal : Below g2.heap.size g2 X := by rw [hX]; exact (Below.refl _ _).alloc (Nat.le_refl _) _
 have XQ := zh (show X.heap[q]? = some (.cells #[.string ⟨#[]⟩, .string ⟨#[]⟩, .string ⟨#[]⟩] 34 (0, 0)) from by rw [hq, hX]; exact heap_alloc_new _ _)
 have TX := zh (T2.out.below hal)
 have BX := zh (show Below w.heap.size w X from then' B2.out hal)
 have HX := zh hX; have HQ := zh hq
 clear hX hq hal
 go_wp2_with fail
 rw [← HX.out, ← HQ.out]
 refine (HLV.out X BX.out).mono ?_
 rintro e g3 ⟨rfl, hb⟩
 have Q3 := zh ((hb.block _ (blk_lt XQ.out)).trans XQ.out)
 have T3 := zh (TX.out.below hb)
 have B3 := zh (show Below w.heap.size w g3 from then' BX.out hb)
 clear hb
 go_wp2_with fail
 refine (step_nil g3).mono ?_
 rintro e v ⟨rfl, hv⟩
 rw [hv]
 clear hv
 go_wp2_with fail
 refine (result_nil g3).mono ?_
 rintro e g4 ⟨rfl, hb⟩
 have Q4 := zh ((hb.block _ (blk_lt Q3.out)).trans Q3.out)
 have T4 := zh (T3.out.below hb)
 have B4 := zh (show Below w.heap.size w g4 from then' B3.out hb)
 clear hb
 go_wp2_with fail
 refine (same_rs0 g4).mono ?_
 rintro e g5 ⟨rfl, hb⟩
 have Q5 := zh ((hb.block _ (blk_lt Q4.out)).trans Q4.out)
 have T5 := zh (T4.out.below hb)
 have B5 := zh (show Below w.heap.size w g5 from then' B4.out hb)
 clear hb
 go_wp2_with fail
 refine (deep_nil g5).mono ?_
 rintro e v ⟨rfl, hv⟩
 rw [hv]
 clear hv
 have y0 : g5.cell? ⟨q, 0, none⟩ = some (.string ⟨#[]⟩) := cell_of_row _ _ 0 _ _ _ Q5.out
 have y1 : g5.cell? ⟨q, 1, none⟩ = some (.string ⟨#[]⟩) := cell_of_row _ _ 1 _ _ _ Q5.out
 have y2 : g5.cell? ⟨q, 2, none⟩ = some (.string ⟨#[]⟩) := cell_of_row _ _ 2 _ _ _ Q5.out
 go_wp2_with fail
 refine (held_nil g5).mono ?_
 rintro e g6 ⟨rfl, hb⟩
 have T6 := zh (T5.out.below hb)
 have B6 := zh (show Below w.heap.size w g6 from then' B5.out hb)
 clear hb y0 y1 y2
 have HNO := zh (step_no mb m none 0 g6 T6.out.mc HF.out)
 have HRS := zh (result_n g6 T6.out)
 rw [HTR.out] at HRS
 go_wp2_with fail
 refine HNO.out.mono ?_
 rintro e v ⟨rfl, hv⟩
 rw [hv]
 clear hv
 go_wp2_with fail
 refine HRS.out.mono ?_
 rintro e g7 ⟨⟨Be, B0, B1, B2, B3, B4, B5, de, d0, d1, d2, d3, d4, d5, rfl, -, -⟩, hb⟩
 have EN := zh (show Below w.heap.size w g7 from then' B6.out hb)
 clear hb
 have hf2 := fd2
 go_wp2
 go_ret
 exact ⟨rfl, EN.out⟩
end Go.Proofs.YtjejmlpjifhmmaaGreatDoor.stepNone
namespace Go.Proofs.YtjejmlpjifhmmaaGreatDoor.frame
open Go.ChangeShapes Go.WideShapes Go.ChangeAt Go.RowKit
end Go.Proofs.YtjejmlpjifhmmaaGreatDoor.frame
namespace Go.Proofs.YtjejmlpjifhmmaaGreatDoor.texts
open Go.RowKit
open words
def S (l : List ByteArray) : List Value := l.map Value.string
end Go.Proofs.YtjejmlpjifhmmaaGreatDoor.texts
namespace Go.Proofs.YtjejmlpjifhmmaaGreatDoor.frame
open Go.ChangeShapes Go.WideShapes Go.ChangeAt Go.RowKit
open words texts
theorem weights_all {H : Type} {P : Program} {e : TypeId} {y : DataW H} {n : Nat} (hn : n ∈ y.weights P e) : ∀ {l : List (DataW H)}, y ∈ l → n ∈ DataW.weightsAll P e l
 | [], h => by cases h
 | d :: r, h => by
  simp only [DataW.weightsAll, List.mem_append]
  rcases List.mem_cons.1 h with rfl | h
  ·exact .inl hn
  ·exact .inr (weights_all hn h)
end Go.Proofs.YtjejmlpjifhmmaaGreatDoor.frame
namespace Go.Proofs.YtjejmlpjifhmmaaGreatDoor.frame
open Go.ChangeShapes Go.WideShapes Go.ChangeAt Go.RowKit
open Go.Proofs.YtjejmlpjifhmmaaGreatDoor.words Go.Proofs.YtjejmlpjifhmmaaGreatDoor.kindp Go.Proofs.YtjejmlpjifhmmaaGreatDoor.kind
set_option maxRecDepth 100000
def FL {α : Type} (f g : α → Value) (l : List α) : List Value := l.flatMap fun t => [f t, g t]
theorem fl_get {α : Type} (f g : α → Value) : ∀ (l : List α) (i : Nat), (FL f g l)[i * 2]? = l[i]?.map f ∧ (FL f g l)[i * 2 + 1]? = l[i]?.map g
 | [], i => by simp [FL]
 | x :: l, 0 => ⟨rfl, rfl⟩
 | x :: l, i + 1 => by
  have ih := fl_get f g l i
  have e : FL f g (x :: l) = [f x, g x] ++ FL f g l := rfl
  rw [e, show (i + 1) * 2 = i * 2 + 2 by omega, show i * 2 + 2 + 1 = (i * 2 + 1) + 2 by omega]
  simpa using ih
theorem fl_rd {α : Type} {W : World} {a : Addr} {n : Nat} (f g : α → Value) (q : Nat → α) (h : ∀ i, i < n → W.cell? (a.add (i * 2)) = some (f (q i)) ∧ W.cell? (a.add (i * 2 + 1)) = some (g (q i))) : Rd W (some a) (FL f g ((List.range n).map q)) := by
 by_cases h0 : n = 0
 ·subst h0; exact .inl rfl
 ·refine .inr ⟨a, rfl, ?_, fun j u hu => ?_⟩
  ·have := cell_lt (h 0 (by omega)).1
   rwa [add_block] at this
  ·obtain ⟨g0, g1⟩ := fl_get f g ((List.range n).map q) (j / 2)
   by_cases hi : j / 2 < n
   ·have he : ((List.range n).map q)[j / 2]? = some (q (j / 2)) := by rw [List.getElem?_map, List.getElem?_range hi]; rfl
    obtain ⟨c0, c1⟩ := h _ hi
    rcases Nat.mod_two_eq_zero_or_one j with h2 | h2
    ·rw [show j / 2 * 2 = j by omega] at g0 c0
     rw [g0, he] at hu
     rw [c0]; exact hu
    ·rw [show j / 2 * 2 + 1 = j by omega] at g1 c1
     rw [g1, he] at hu
     rw [c1]; exact hu
   ·exfalso
    have he : ((List.range n).map q)[j / 2]? = none := List.getElem?_eq_none (by simpa using hi)
    rcases Nat.mod_two_eq_zero_or_one j with h2 | h2
    ·rw [show j / 2 * 2 = j by omega] at g0
     rw [g0, he] at hu; cases hu
    ·rw [show j / 2 * 2 + 1 = j by omega] at g1
     rw [g1, he] at hu; cases hu
def dat_pairs {H : Type} (t : Pr) : DataW H := .agg [.lit (.string t.1), .lit (.string t.2)]
theorem open_pairs {H : Type} {enc : TypeId × Value → H} {W : World} {base : Nat} {v : Value} {d : DataW H} {p : List MemPlace}
  (hok : Value.okWide Tryz.prog W .any base 27 v) (h : DataW.Trod enc Tryz.prog W 0 (fun _ => true) true 27 v d p) :
  ∃ A c, ∃ l : List Pr, v = .slice A l.length c ∧ l.length ≤ c ∧ Rd W A (PL l) ∧ ((d = .nil ∧ c = 0) ∨ ∃ spare, d = .slice (l.map dat_pairs) spare ∧ l.length + spare.length = c) := by
 obtain ⟨A, n, c, rfl⟩ := okWide_slice Tryz.underlying27 hok
 obtain ⟨fuel, hf⟩ := h
 rcases Go.Deep.open_slice_pairs Tryz.underlying27 Tryz.underlying70 (by kernel_rfl) rfl rfl (by kernel_rfl) (by kernel_rfl) hf with ⟨hcs, hx⟩ | ⟨a, len, cap, m, k, V0, V1, D0, D1, P0, P1, hcs, _, hl, hm, hmm, hx, hcell⟩
 ·simp [Value.cells] at hcs
  obtain ⟨rfl, rfl, rfl⟩ := hcs
  simp only [Prod.mk.injEq] at hx
  exact ⟨none, 0, [], rfl, Nat.le_refl _, .inl rfl, .inl ⟨hx.1, rfl⟩⟩
 ·simp [Value.cells] at hcs
  obtain ⟨rfl, rfl, rfl⟩ := hcs
  simp only [Prod.mk.injEq] at hx
  have hmc : m = c := by simpa using hmm
  have each : ∀ i, i < c → ∃ q : Pr, W.cell? (a.add (i * 2)) = some (.string ⟨q.1.toArray⟩) ∧ W.cell? (a.add (i * 2 + 1)) = some (.string ⟨q.2.toArray⟩) ∧ (DataW.agg [D0 i, D1 i] : DataW H) = dat_pairs q := by
   intro i hi
   obtain ⟨h0, h1, t0, t1⟩ := hcell i (by omega)
   obtain ⟨z0, e0, x0, _⟩ := DataW.trod_string Tryz.underlying9 t0
   obtain ⟨z1, e1, x1, _⟩ := DataW.trod_string Tryz.underlying9 t1
   simp only [List.cons.injEq, and_true] at e0 e1
   simp only [Prod.mk.injEq] at x0 x1
   exact ⟨(z0.data.toList, z1.data.toList), by rw [h0, e0], by rw [h1, e1], by rw [x0.1, x1.1]; rfl⟩
  obtain ⟨q, hq⟩ := Go.Deep.choose_lt each
  have hdd : d = .slice (((List.range n).map q).map dat_pairs) ((List.range (m - n)).map fun j => .agg [D0 (n + j), D1 (n + j)]) := by
   rw [hx.1, List.map_map]
   congr 1
   exact List.map_congr_left fun i hi => (hq i (by have := List.mem_range.1 hi; omega)).2.2
  refine ⟨some a, c, (List.range n).map q, by simp, by simpa using hl, ?_, .inr ⟨_, hdd, by simp; omega⟩⟩
  exact fl_rd (fun q : Pr => .string ⟨q.1.toArray⟩) (fun q : Pr => .string ⟨q.2.toArray⟩) q fun i hi => ⟨(hq i (by omega)).1, (hq i (by omega)).2.1⟩
theorem pairs_reach {H : Type} {ts : List TypeId} {ds : List (DataW H)} (h : (DataW.weightsEach Tryz.prog ts ds).all (· ≤ reachBytes) = true) {j : Nat} {d : DataW H} {l : List Pr} {c : Nat} (ht : ts[j]? = some 27) (hj : ds[j]? = some d)
  (hnc : l.length ≤ c) (hd : (d = .nil ∧ c = 0) ∨ ∃ spare, d = .slice (l.map dat_pairs) spare ∧ l.length + spare.length = c) : l.length * 32 ≤ 140737488351232 ∧ ∀ x ∈ l, x.1.length ≤ 140737488351232 ∧ x.2.length ≤ 140737488351232 := by
 have h3 : reachBytes = 140737488351232 := by decide
 rcases hd with ⟨_, rfl⟩ | ⟨spare, rfl, hc⟩
 ·have h0 : l = [] := List.eq_nil_of_length_eq_zero (by omega)
  subst h0
  exact ⟨by simp, by simp⟩
 ·refine ⟨?_, fun x hx => ?_⟩
  ·have := sized_slice h ht hj Tryz.underlying27
   rw [show Tryz.prog.bytesOf 70 = 32 by kernel_rfl] at this
   rw [List.length_map] at this
   omega
  ·have each : ∀ m ∈ DataW.weights Tryz.prog 70 (dat_pairs (H := H) x), m ≤ 140737488351232 := by
    intro m hm
    have hm2 : m ∈ DataW.weights Tryz.prog 27 (.slice (l.map (dat_pairs (H := H))) spare) := by
     simp only [DataW.weights, Tryz.underlying27, List.mem_cons, List.mem_append]
     exact .inr (.inl (weights_all hm (List.mem_map.2 ⟨x, hx, rfl⟩)))
    have := List.all_eq_true.1 h _ (DataW.weights_mem_each ht hj _ hm2)
    simp only [decide_eq_true_eq] at this
    omega
   exact ⟨each _ (by simp [dat_pairs, DataW.weights, DataW.weightsEach, Tryz.underlying70]), each _ (by simp [dat_pairs, DataW.weights, DataW.weightsEach, Tryz.underlying70])⟩
end Go.Proofs.YtjejmlpjifhmmaaGreatDoor.frame
namespace Go.Proofs.YtjejmlpjifhmmaaGreatDoor.frame
open Go.ChangeShapes Go.WideShapes Go.ChangeAt Go.RowKit
open words
set_option maxRecDepth 100000
theorem open_i64s {H : Type} {enc : TypeId × Value → H} {W : World} {base : Nat} {v : Value} {d : DataW H} {p : List MemPlace}
  (hok : Value.okWide Tryz.prog W .any base 28 v) (h : DataW.Trod enc Tryz.prog W 0 (fun _ => true) true 28 v d p) :
  ∃ A n c, ∃ l : List Int, v = .slice A n c ∧ n ≤ c ∧ l.length = n ∧ (∀ x ∈ l, (Lit.int .i64 x).wf = true) ∧ Rd W A (l.map (Value.int .i64)) ∧
   ((d = .nil ∧ c = 0) ∨ ∃ elems spare, d = .slice elems spare ∧ elems.length = n ∧ elems.length + spare.length = c) :=
 open_row Tryz.underlying28 Tryz.underlying2 (by kernel_rfl) hok h
end Go.Proofs.YtjejmlpjifhmmaaGreatDoor.frame
namespace Go.Proofs.YtjejmlpjifhmmaaGreatDoor.stepNone
open Go.ChangeShapes Go.WideShapes Go.ChangeAt Go.RowKit
open Go.Proofs.YtjejmlpjifhmmaaGreatDoor.words Go.Proofs.YtjejmlpjifhmmaaGreatDoor.frame
set_option maxRecDepth 100000
theorem reads (os : Os) {H : Type} (enc : TypeId × Value → H) : ∃ places, DataW.whole enc Tryz.prog ((Laid6.laidWorld os).forCall (fun _ _ => 0) ⟨#[], #[.slice none 0 0, .slice none 0 0], []⟩).memory Tryz.f4.params.toList Rows.stepNoneSpec.vars false (#[.slice none 0 0, .slice none 0 0] : Array Value).toList 8 = some ([.nil, .nil], [], places) :=
 ⟨[], by kernel_rfl⟩
theorem laid_met (os : Os) : laidMet Tryz.prog Rows.stepNoneRow.laid ((Laid6.laidWorld os).forCall (fun _ _ => 0) ⟨#[], #[.slice none 0 0, .slice none 0 0], []⟩).memory :=
 laidMet_of_run' 8 (by kernel_rfl) (by kernel_rfl)
theorem lifted (os : Os) (started : os.Started) (H : Type) (enc : TypeId × Value → H) (F : Stop.Interp) :
  ReturnsInHanded {} Tryz.checked os 4 .any ((OpenSpec.ofChange Rows.stepNoneSpec).preRow enc Tryz.prog Tryz.f4 Rows.stepNoneRow.domain false Rows.stepNoneRow.laid) (((OpenSpec.ofChange Rows.stepNoneSpec).at F).post enc Tryz.prog Tryz.f4 false true false false) := by
 obtain ⟨places, hx⟩ := reads os enc
 refine returnsInHanded_of_row (C := Tryz.checked) (s := (OpenSpec.ofChange Rows.stepNoneSpec)) own started (by kernel_rfl) Tryz.func4
  (witness_row_at (enc := enc) (C := Tryz.checked) false (Laid6.laidWorld os) #[.slice none 0 0, .slice none 0 0] rfl (by kernel_rfl) (by kernel_rfl) (by kernel_rfl)
   (OpenSpec.preRow_of_cond 8 hx (by kernel_rfl) (fun k hk => by cases hk) (by kernel_rfl) (laid_met os))) ?_
 intro W base args ds gs before hval0 hW _ _ hz hL hSO _
 have hval : ∀ (j : Nat) t v, Tryz.f4.params[j]? = some t → args[j]? = some v → Value.okWide Tryz.prog W .any base t v := hval0
 have hW' := hW
 obtain ⟨p, q, hA0, hV, rfl, hfz, hnd⟩ := hW
 have hA : DataW.TrodAll enc Tryz.prog W 0 (fun _ => true) true Tryz.f4.params.toList args.toList ds p := hA0
 rw [Tryz.params4] at hA hval
 obtain ⟨v0, vs0, d0, ds0, p0, q0, hargs, rfl, rfl, h0, r0⟩ := trodAll_cons hA
 obtain ⟨v1, vs1, d1, ds1, p1, q1, rfl, rfl, rfl, h1, r1⟩ := trodAll_cons r0
 obtain ⟨rfl, rfl, rfl⟩ := trodAll_nil r1
 obtain rfl : args = #[v0, v1] := by cases args; simp_all
 obtain ⟨rfl, rfl⟩ := trodVars_none hV
 have k0 := h0
 have lt0 : ∀ x ∈ p0, x.block < W.heap.size := by obtain ⟨m, hm⟩ := k0; exact DataW.trod_lt m _ _ _ hm
 obtain ⟨A0, c0, l0, rfl, nc0, rd0, dd0⟩ := open_pairs (hval 0 27 v0 rfl rfl) h0
 have rc0 := pairs_reach hz (j := 0) rfl rfl nc0 dd0
 have k1 := h1
 have lt1 : ∀ x ∈ p1, x.block < W.heap.size := by obtain ⟨m, hm⟩ := k1; exact DataW.trod_lt m _ _ _ hm
 obtain ⟨A1, n1, c1, l1, rfl, nc1, ln1, by1, rd1, dd1⟩ := open_i64s (hval 1 28 v1 rfl rfl) h1
 have rc1 := reach hz (j := 1) (t := 28) rfl rfl Tryz.underlying28 (by kernel_rfl : Tryz.prog.bytesOf 2 = 8) nc1 dd1
 have tab0 := Laid6.most hSO
 have tab1 := Laid6.table hL
 clear hA0
 refine (walk A0 c0 l0 A1 n1 c1 l1 W rd0 nc0 rc0.1 rc0.2 rd1 ln1 nc1 by1 rc1 tab0 tab1).mono fun e W' ⟨he, bel⟩ => ?_
 subst he
 exact ⟨_, rfl, _, _, _, [], _, [], hW', trodAll_mk1 (shut_bool Tryz.underlying4 _), (trodAll_cons_mk (Below.trod laidOut (by kernel_rfl) (of_decide_eq_true (by kernel_rfl)) k0 bel lt0) (trodAll_cons_mk (Below.trod laidOut (by kernel_rfl) (of_decide_eq_true (by kernel_rfl)) k1 bel lt1) trodAll_mk0)), rfl, bel.frame _, fun h => by cases h⟩
theorem j1 : (Rows.stepNoneRow.inPlace == Tryz.pinned.checked.prog.inPlace 4) = true := by kernel_rfl
theorem j2 : (Rows.stepNoneRow.unfollowed == Tryz.pinned.checked.prog.unfollowed 4) = true := by kernel_rfl
theorem j3 : (Rows.stepNoneRow.recurses == Tryz.pinned.checked.prog.recurses 4) = true := by kernel_rfl
theorem j4 : (Rows.stepNoneRow.named == Tryz.pinned.checked.prog.varsNamed 4) = true := by kernel_rfl
theorem j5 : laidOutB Tryz.pinned.checked.prog = true := by kernel_rfl
theorem j6 : mapsRowed Tryz.pinned.checked.prog = true := by kernel_rfl
theorem j7 : Tryz.pinned.checked.prog.funcNamed Rows.stepNoneRow.func = some 4 := by kernel_rfl
theorem j8 : joinedFacts Tryz.pinned.checked.prog 4 Tryz.f4 (OpenSpec.bare (OpenSpec.ofChange Rows.stepNoneSpec)) Rows.stepNoneRow = true := by
 unfold joinedFacts
 rw [j1, j2, j3, j4, j5, j6]
 kernel_rfl
theorem said : Rows.StepNoneSaid :=
 OpenClaim.holds_of_cond 4 Tryz.f4 rfl rfl rfl rfl rfl rfl rfl ⟨rfl, rfl, rfl, rfl, rfl⟩ rfl rfl rfl rfl rfl j7 Tryz.func4 j8
  (of_decide_eq_true (by kernel_rfl)) (by unfold Func.isWrapper; first | (rw [if_pos (by decide +kernel)]; kernel_rfl) | (rw [if_neg (by decide +kernel)]; exact ⟨rfl, rfl⟩))
  (fun os started H enc _ F => by rw [OpenClaim.pre_eq_preRow]; exact lifted os started H enc F)
theorem plain (f : FuncId) (fn : Func) (hf : Tryz.pinned.checked.prog.funcNamed "secateur/secateurlaw19.StepNone" = some f) (hfn : Tryz.pinned.checked.prog.funcs[f]? = some fn) :
  true = Tryz.pinned.checked.prog.looks [] ∧ ∀ (j : Nat) t, fn.params[j]? = some t → Tryz.pinned.checked.prog.wantsStandIn t = false := by
 obtain rfl : f = 4 := Option.some.inj ((show Tryz.prog.funcNamed "secateur/secateurlaw19.StepNone" = some 4 by kernel_rfl).symm.trans hf) |>.symm
 obtain rfl : fn = Tryz.f4 := (Option.some.inj (Tryz.func4.symm.trans hfn)).symm
 refine ⟨by kernel_rfl, fun j t ht => ?_⟩
 rw [Tryz.params4] at ht
 have hm := Array.mem_of_getElem? ht
 simp only [List.mem_toArray, List.mem_cons, List.not_mem_nil, or_false] at hm
 rcases hm with rfl | rfl
 ·exact (show Tryz.prog.wantsStandIn 27 = false by kernel_rfl)
 ·exact (show Tryz.prog.wantsStandIn 28 = false by kernel_rfl)
theorem card : Rows.StepNoneCardSaid :=
 Claim7.holds_tied_plain_at .later [] _ _ _ _ said (fun _ h => by cases h) (by kernel_rfl) (fun _ h => by cases h) stepNone_row_tie rfl ⟨rfl, rfl⟩ (by kernel_rfl) rfl plain (by kernel_rfl)
#print axioms card
end Go.Proofs.YtjejmlpjifhmmaaGreatDoor.stepNone

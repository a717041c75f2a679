/- FindH -/
import Derived.Test.YtjejmlpjifhmmaaGreatDoorFindE
namespace Go.Proofs.YtjejmlpjifhmmaaGreatDoor.find
open Go.RowKit
open words kindp opp op kind word prg sorts
set_option maxRecDepth 100000
set_option maxHeartbeats 8000000
set_option linter.all false
def clinit : Tx := [60, 99, 108, 105, 110, 105, 116, 62]
theorem refV_form (o : Option Tx) (s d : Tx) : ∃ a1 a2 a3 : Tx, ∃ ok : Bool, refV o s d = .tuple #[.agg #[.string ⟨a1.toArray⟩, .string ⟨a2.toArray⟩, .string ⟨a3.toArray⟩], .bool ok] := by
 cases o with
 | none => exact ⟨[], [], [], false, rfl⟩
 | some n => exact ⟨n, s, d, true, rfl⟩
theorem add0 (a : Addr) : a.add 0 = a := by simp [Addr.add]
def CopP (m : MeM) (w : World) (e : Ending) (w' : World) : Prop := (∃ k, e = .returned (.agg (meC k).toArray) ∧ pM k = pM m ∧ MeOk w' k) ∧ Below w.heap.size w w'
theorem copied_w (m : MeM) (w : World) (hk : MeOk w m) (hg : GrM m) : Calls Tryz.prog 109 #[.agg (meC m).toArray] w (CopP m w) := by
 obtain ⟨W, hW⟩ : ∃ W, W = (w.alloc (.cells (meC m).toArray 155)).alloc (.cells #[.string ⟨#[]⟩, .string ⟨#[]⟩, .bool false, .bool false, .int .i64 0, .slice none 0 0] 155) := ⟨_, rfl⟩
 have hal : Below w.heap.size w W := by rw [hW]; exact ((Below.refl _ w).alloc (Nat.le_refl _) _).alloc (by simp) _
 have hblk : W.heap[w.heap.size]? = some (.cells (meC m).toArray 155 (0, 0)) := by rw [hW]; exact (Below.heap_alloc _ _ _ (by simp)).trans (heap_alloc_new w _)
 have hbr : W.heap[w.heap.size + 1]? = some (.cells #[.string ⟨#[]⟩, .string ⟨#[]⟩, .bool false, .bool false, .int .i64 0, .slice none 0 0] 155 (0, 0)) := by
  have := heap_alloc_new (w.alloc (.cells (meC m).toArray 155)) (.cells #[.string ⟨#[]⟩, .string ⟨#[]⟩, .bool false, .bool false, .int .i64 0, .slice none 0 0] 155)
  rw [World.size_alloc] at this
  rw [hW]; exact this
 have hws : W.heap.size = w.heap.size + 1 + 1 := by rw [hW]; simp
 obtain ⟨V, hV⟩ : ∃ V, V = ((W.alloc (.cells (meC m).toArray 155)).alloc (.cells #[.string ⟨#[]⟩, .string ⟨#[]⟩, .bool false, .bool false, .slice none 0 0, .slice none 0 0, .slice (some ⟨w.heap.size + 1 + 1, 0, none⟩) 1 1] 159)).alloc (.cells #[.slice (some ⟨w.heap.size + 1 + 1 + 1, 0, none⟩) 1 1, .slice none 0 0, .string ⟨#[]⟩, .string ⟨#[]⟩, .string ⟨#[]⟩] 36) := ⟨_, rfl⟩
 have hbv : Below W.heap.size W V := by rw [hV]; exact (((Below.refl _ W).alloc (Nat.le_refl _) _).alloc (by simp) _).alloc (by simp; omega) _
 have k0 : V.heap[w.heap.size + 1 + 1]? = some (.cells (meC m).toArray 155 (0, 0)) := by rw [hV, ← hws]; exact (Below.heap_alloc _ _ _ (by simp <;> omega)).trans ((Below.heap_alloc _ _ _ (by simp)).trans (heap_alloc_new W _))
 have k1 : V.heap[w.heap.size + 1 + 1 + 1]? = some (.cells #[.string ⟨#[]⟩, .string ⟨#[]⟩, .bool false, .bool false, .slice none 0 0, .slice none 0 0, .slice (some ⟨w.heap.size + 1 + 1, 0, none⟩) 1 1] 159 (0, 0)) := by
  have := heap_alloc_new (W.alloc (.cells (meC m).toArray 155)) (.cells #[.string ⟨#[]⟩, .string ⟨#[]⟩, .bool false, .bool false, .slice none 0 0, .slice none 0 0, .slice (some ⟨w.heap.size + 1 + 1, 0, none⟩) 1 1] 159)
  rw [World.size_alloc, hws] at this
  rw [hV]; exact (Below.heap_alloc _ _ _ (by simp [hws])).trans this
 have k2 : V.heap[w.heap.size + 1 + 1 + 1 + 1]? = some (.cells #[.slice (some ⟨w.heap.size + 1 + 1 + 1, 0, none⟩) 1 1, .slice none 0 0, .string ⟨#[]⟩, .string ⟨#[]⟩, .string ⟨#[]⟩] 36 (0, 0)) := by
  have := heap_alloc_new ((W.alloc (.cells (meC m).toArray 155)).alloc (.cells #[.string ⟨#[]⟩, .string ⟨#[]⟩, .bool false, .bool false, .slice none 0 0, .slice none 0 0, .slice (some ⟨w.heap.size + 1 + 1, 0, none⟩) 1 1] 159)) (.cells #[.slice (some ⟨w.heap.size + 1 + 1 + 1, 0, none⟩) 1 1, .slice none 0 0, .string ⟨#[]⟩, .string ⟨#[]⟩, .string ⟨#[]⟩] 36)
  rw [World.size_alloc, World.size_alloc, hws] at this
  rw [hV]; exact this
 have hok : PrOk V ⟨[⟨[], [], false, false, [], none, 0, [], none, 0, [m], some ⟨w.heap.size + 1 + 1, 0, none⟩, 1⟩], some ⟨w.heap.size + 1 + 1 + 1, 0, none⟩, 1, [], none, 0, [], [], []⟩ := by
  refine ⟨⟨Nat.le_refl _, ?_⟩, ⟨Nat.zero_le _, Rd.nil _ _⟩, fun y hy => ?_⟩
  ·dsimp only; rw [List.flatMap_cons, List.flatMap_nil, List.append_nil]; exact rd_blk k1 (k := 7) rfl
  ·dsimp only at hy
   rw [List.mem_singleton] at hy; subst hy
   refine ⟨⟨Nat.zero_le _, Rd.nil _ _⟩, ⟨Nat.zero_le _, Rd.nil _ _⟩, ⟨Nat.le_refl _, ?_⟩, fun y hy => ?_⟩
   ·dsimp only; rw [List.flatMap_cons, List.flatMap_nil, List.append_nil]; exact rd_blk k0 (k := 6) rfl
   ·dsimp only at hy
    rw [List.mem_singleton] at hy; subst hy
    exact (hk.below hal).below hbv
 have hgr : GrP ⟨[⟨[], [], false, false, [], none, 0, [], none, 0, [m], some ⟨w.heap.size + 1 + 1, 0, none⟩, 1⟩], some ⟨w.heap.size + 1 + 1 + 1, 0, none⟩, 1, [], none, 0, [], [], []⟩ := by
  refine ⟨⟨by simp, by simp⟩, fun y hy => ?_⟩
  dsimp only at hy
  rw [List.mem_singleton] at hy; subst hy
  refine ⟨⟨by simp, by simp, by simp, by simp, by simp⟩, fun y hy => ?_⟩
  dsimp only at hy
  rw [List.mem_singleton] at hy; subst hy
  exact hg
 have HCL := zh (show Calls Tryz.prog 28 #[.agg #[.slice (some ⟨w.heap.size + 1 + 1 + 1, 0, none⟩) 1 1, .slice none 0 0, .string ⟨#[]⟩, .string ⟨#[]⟩, .string ⟨#[]⟩]] V (CloPo ⟨[⟨[], [], false, false, [], none, 0, [], none, 0, [m], some ⟨w.heap.size + 1 + 1, 0, none⟩, 1⟩], some ⟨w.heap.size + 1 + 1 + 1, 0, none⟩, 1, [], none, 0, [], [], []⟩ V) from clone_g _ V hok hgr)
 obtain ⟨p0, p1, p2, p3, p4⟩ := c5q k2
 obtain ⟨x0, x1, x2, x3, x4, x5⟩ := me_cells hblk
 have HAL := zh hal; have HRB := zh hbr; have HBV := zh hbv
 unfold meC at hW hV
 have HW := zh hW; have HV := zh hV
 unfold meC
 clear hal hblk hbr hW hV hbv k0 k1 k2 hok hgr hk hg
 go_enter Tryz.func109, Tryz.ntmps109
 go_wp2_with fail
 try simp only [World.size_alloc]
 rw [← HW.out]
 (try go_wp2_with fail)
 try simp only [World.size_alloc]
 rw [← HV.out]
 (try go_wp2_with fail)
 refine HCL.out.mono ?_
 rintro e v2 ⟨⟨y, rfl, hyp, hyo⟩, hb2⟩
 obtain ⟨ycs, yA1, yc1, yns, yA2, yc2, yec, yen, yed⟩ := y
 have h1 : ycs.map pC = [pC ⟨[], [], false, false, [], none, 0, [], none, 0, [m], some ⟨w.heap.size + 1 + 1, 0, none⟩, 1⟩] := congrArg PrP.cs hyp
 obtain ⟨c', rfl⟩ : ∃ c', ycs = [c'] := by
  cases ycs with
  | nil => simp at h1
  | cons c' l => cases l with
   | nil => exact ⟨c', rfl⟩
   | cons _ _ => simp at h1
 have h2 : pC c' = pC ⟨[], [], false, false, [], none, 0, [], none, 0, [m], some ⟨w.heap.size + 1 + 1, 0, none⟩, 1⟩ := by simpa using h1
 have hok2 := hyo.ok
 have hcok := hok2.2.2 c' (by simp)
 obtain ⟨cnm, csu, cfc, cab, cis, cA1, cc1, cfs, cA2, cc2, cms, cA3, cc3⟩ := c'
 have h3 : cms.map pM = [pM m] := congrArg ClP.ms h2
 obtain ⟨k, rfl⟩ : ∃ k, cms = [k] := by
  cases cms with
  | nil => simp at h3
  | cons k l => cases l with
   | nil => exact ⟨k, rfl⟩
   | cons _ _ => simp at h3
 have h4 : pM k = pM m := by simpa using h3
 obtain ⟨a, rfl, -, e0, e1, e2, e3, e4, e5, e6⟩ := cl_at (i := 0) hok2.1.2 (x := ⟨cnm, csu, cfc, cab, cis, cA1, cc1, cfs, cA2, cc2, [k], cA3, cc3⟩) rfl
 obtain ⟨b, hbA, -, f0, f1, f2, f3, f4, f5⟩ := me_at (i := 0) hcok.2.2.1.2 (x := k) rfl
 dsimp only at hbA
 subst hbA
 simp only [Nat.zero_mul, add0] at e6 f0 f1 f2 f3 f4 f5
 have HKO := zh ((hyo.2.2 _ (List.mem_singleton.2 rfl)).2.2.2 k (List.mem_singleton.2 rfl))
 have hlt9 : w.heap.size + 1 < V.heap.size := by rw [HV.out]; simp; omega
 have HLT9 := zh hlt9
 have HPK := zh h4
 have HB2 := zh (show Below W.heap.size W v2 from HBV.out.trans (hb2.mono HBV.out.size))
 dsimp only [prC, List.length_cons, List.length_nil]
 try simp only [Nat.zero_add]
 have hfd : (Instr.field 36 (.agg #[.slice (some a) 1 yc1, .slice yA2 yns.length yc2, .string ⟨yec.toArray⟩, .string ⟨yen.toArray⟩, .string ⟨yed.toArray⟩]) 0).run Tryz.prog v2 = .ok (.slice (some a) 1 yc1) v2 := by kernel_rfl
 clear h1 h2 h3 h4 hyp hyo hok2 hcok hb2 e0 e1 e2 e3 e4 e5 x0 x1 x2 x3 x4 x5 p0 p1 p2 p3 p4
 have rr := (HB2.out.block _ (blk_lt HRB.out)).trans HRB.out
 have q0 : v2.cell? ⟨w.heap.size + 1, 0, none⟩ = some (.string ⟨#[]⟩) := cell_of_row _ _ 0 _ _ _ rr
 have qf0 := frozen_of_row _ _ 0 _ _ rr
 have q1 : v2.cell? ⟨w.heap.size + 1, 1, none⟩ = some (.string ⟨#[]⟩) := cell_of_row _ _ 1 _ _ _ rr
 have qf1 := frozen_of_row _ _ 1 _ _ rr
 have q2 : v2.cell? ⟨w.heap.size + 1, 2, none⟩ = some (.bool false) := cell_of_row _ _ 2 _ _ _ rr
 have qf2 := frozen_of_row _ _ 2 _ _ rr
 have q3 : v2.cell? ⟨w.heap.size + 1, 3, none⟩ = some (.bool false) := cell_of_row _ _ 3 _ _ _ rr
 have qf3 := frozen_of_row _ _ 3 _ _ rr
 have q4 : v2.cell? ⟨w.heap.size + 1, 4, none⟩ = some (.int .i64 0) := cell_of_row _ _ 4 _ _ _ rr
 have qf4 := frozen_of_row _ _ 4 _ _ rr
 have q5 : v2.cell? ⟨w.heap.size + 1, 5, none⟩ = some (.slice none 0 0) := cell_of_row _ _ 5 _ _ _ rr
 have qf5 := frozen_of_row _ _ 5 _ _ rr
 have s0 := heap_setCell_same _ (w.heap.size + 1) 0 _ _ (.string ⟨k.nm.toArray⟩) rr
 have s1 := heap_setCell_same _ (w.heap.size + 1) 1 _ _ (.string ⟨k.ds.toArray⟩) s0
 have s2 := heap_setCell_same _ (w.heap.size + 1) 2 _ _ (.bool k.st) s1
 have s3 := heap_setCell_same _ (w.heap.size + 1) 3 _ _ (.bool k.ab) s2
 have s4 := heap_setCell_same _ (w.heap.size + 1) 4 _ _ (.int .i64 k.rg) s3
 have s5 := heap_setCell_same _ (w.heap.size + 1) 5 _ _ (.slice k.A k.co.length k.c) s4
 have gA : v2.grownBy ((((((v2.setCell ⟨w.heap.size + 1, 0, none⟩ (.string ⟨k.nm.toArray⟩)).setCell ⟨w.heap.size + 1, 1, none⟩ (.string ⟨k.ds.toArray⟩)).setCell ⟨w.heap.size + 1, 2, none⟩ (.bool k.st)).setCell ⟨w.heap.size + 1, 3, none⟩ (.bool k.ab)).setCell ⟨w.heap.size + 1, 4, none⟩ (.int .i64 k.rg)).setCell ⟨w.heap.size + 1, 5, none⟩ (.slice k.A k.co.length k.c)) (some (w.heap.size + 1)) := gb_trans (gb_trans (gb_trans (gb_trans (gb_trans (gb_set _ (w.heap.size + 1) 0 _) (gb_set _ (w.heap.size + 1) 1 _)) (gb_set _ (w.heap.size + 1) 2 _)) (gb_set _ (w.heap.size + 1) 3 _)) (gb_set _ (w.heap.size + 1) 4 _)) (gb_set _ (w.heap.size + 1) 5 _)
 obtain ⟨WF, hWF⟩ : ∃ WF, WF = ((((((v2.setCell ⟨w.heap.size + 1, 0, none⟩ (.string ⟨k.nm.toArray⟩)).setCell ⟨w.heap.size + 1, 1, none⟩ (.string ⟨k.ds.toArray⟩)).setCell ⟨w.heap.size + 1, 2, none⟩ (.bool k.st)).setCell ⟨w.heap.size + 1, 3, none⟩ (.bool k.ab)).setCell ⟨w.heap.size + 1, 4, none⟩ (.int .i64 k.rg)).setCell ⟨w.heap.size + 1, 5, none⟩ (.slice k.A k.co.length k.c)) := ⟨_, rfl⟩
 have ur : WF.heap[w.heap.size + 1]? = some (.cells #[.string ⟨k.nm.toArray⟩, .string ⟨k.ds.toArray⟩, .bool k.st, .bool k.ab, .int .i64 k.rg, .slice k.A k.co.length k.c] 155 (0, 0)) := by rw [hWF, s5]; simp
 have uB : Below w.heap.size w WF := by rw [hWF]; exact (HAL.out.trans (HB2.out.mono HAL.out.size)).grown gA (HAL.out.trans (HB2.out.mono HAL.out.size)).size (fun b hb => by cases hb; omega)
 have R0 := zh (show WF.cell? ⟨w.heap.size + 1, 0, none⟩ = some (.string ⟨k.nm.toArray⟩) from cell_of_row _ _ 0 _ _ _ ur)
 have R1 := zh (show WF.cell? ⟨w.heap.size + 1, 1, none⟩ = some (.string ⟨k.ds.toArray⟩) from cell_of_row _ _ 1 _ _ _ ur)
 have R2 := zh (show WF.cell? ⟨w.heap.size + 1, 2, none⟩ = some (.bool k.st) from cell_of_row _ _ 2 _ _ _ ur)
 have R3 := zh (show WF.cell? ⟨w.heap.size + 1, 3, none⟩ = some (.bool k.ab) from cell_of_row _ _ 3 _ _ _ ur)
 have R4 := zh (show WF.cell? ⟨w.heap.size + 1, 4, none⟩ = some (.int .i64 k.rg) from cell_of_row _ _ 4 _ _ _ ur)
 have R5 := zh (show WF.cell? ⟨w.heap.size + 1, 5, none⟩ = some (.slice k.A k.co.length k.c) from cell_of_row _ _ 5 _ _ _ ur)
 have UG := zh (show v2.grownBy WF (some (w.heap.size + 1)) from by rw [hWF]; exact gA)
 have HWF := zh hWF; have UB := zh uB
 clear rr s0 s1 s2 s3 s4 s5 gA hWF ur uB
 have HOK := zh (show MeOk WF k from (HKO.out.gb HLT9.out UG.out).ok)
 go_wp2
 rw [← HWF.out]
 refine bodyPost_ret (v := .agg #[.string ⟨k.nm.toArray⟩, .string ⟨k.ds.toArray⟩, .bool k.st, .bool k.ab, .int .i64 k.rg, .slice k.A k.co.length k.c]) ?_ rfl ⟨⟨k, rfl, HPK.out, HOK.out⟩, UB.out⟩
 simp [results, Tryz.results109, go_sem, R0.out, R1.out, R2.out, R3.out, R4.out, R5.out]
end Go.Proofs.YtjejmlpjifhmmaaGreatDoor.find
namespace Go.Proofs.YtjejmlpjifhmmaaGreatDoor.find
open Go.RowKit
open words kindp opp op kind word prg sorts
def zeroM : MeM := ⟨[], [], false, false, 0, [], none, 0⟩
def GetR (cs : List ClM) (cn s d : Tx) (k : MeM) (ok : Bool) : Prop := match firstM cs [cn] s d with
 | none => ok = false ∧ k = zeroM
 | some (c, j) => ok = true ∧ ∃ m, c.ms[j]? = some m ∧ pM k = pM m
end Go.Proofs.YtjejmlpjifhmmaaGreatDoor.find

/- FindS -/
import Derived.Test.YtdifmgeicnndfaaFindE
namespace Go.Proofs.Ytdifmgeicnndfaa.find
open Go.RowKit
open words kindp opp op kind word prg sorts
set_option maxRecDepth 100000
set_option maxHeartbeats 8000000
set_option linter.all false
def clinit : Tx := [60, 99, 108, 105, 110, 105, 116, 62]
def dispR (cs : List ClM) (cn s d : Tx) : Option Tx := if (s == clinit) = true then none else declR (fun m => !m.st && !m.ab) cs (supersL cs cn) s d
theorem supS_len (cs : List ClM) : ∀ (f : Nat) (s : Tx) (l : List Tx), (supS cs f s l).length ≤ l.length + f
 | 0, s, l => by unfold supS; omega
 | f + 1, s, l => by
  unfold supS
  cases findC cs s with
  | none => dsimp only; omega
  | some c =>
   dsimp only
   split
   ·omega
   ·have := supS_len cs f c.su (l ++ [s]); simp at this; omega
theorem supers_len (cs : List ClM) (s : Tx) : (supersL cs s).length ≤ cs.length + 1 := by have := supS_len cs (cs.length + 1) s []; simpa [supersL] using this
theorem refV_form (o : Option Tx) (s d : Tx) : ∃ a1 a2 a3 : Tx, ∃ ok : Bool, refV o s d = .tuple #[.agg #[.string ⟨a1.toArray⟩, .string ⟨a2.toArray⟩, .string ⟨a3.toArray⟩], .bool ok] := by
 cases o with
 | none => exact ⟨[], [], [], false, rfl⟩
 | some n => exact ⟨n, s, d, true, rfl⟩
theorem dispatch_w (x : PrM) (cn s d : Tx) (w : World) (hk : PrOk w x) (hg : GrP x) : Calls Try.prog 12 #[.agg (prC x).toArray, .string ⟨cn.toArray⟩, .string ⟨s.toArray⟩, .string ⟨d.toArray⟩] w
  fun e w' => e = .returned (refV (dispR x.cs cn s d) s d) ∧ Below w.heap.size w w' := by
 obtain ⟨W, hW⟩ : ∃ W, W = (w.alloc (.cells (prC x).toArray 27)).alloc (.cells #[.string ⟨#[]⟩, .string ⟨#[]⟩, .string ⟨#[]⟩] 25) := ⟨_, rfl⟩
 have hal : Below w.heap.size w W := by rw [hW]; exact ((Below.refl _ w).alloc (Nat.le_refl _) _).alloc (by simp) _
 have hblk : W.heap[w.heap.size]? = some (.cells (prC x).toArray 27 (0, 0)) := by rw [hW]; exact (Below.heap_alloc _ _ _ (by simp)).trans (heap_alloc_new w _)
 have hbr : W.heap[w.heap.size + 1]? = some (.cells #[.string ⟨#[]⟩, .string ⟨#[]⟩, .string ⟨#[]⟩] 25 (0, 0)) := by
  have := heap_alloc_new (w.alloc (.cells (prC x).toArray 27)) (.cells #[.string ⟨#[]⟩, .string ⟨#[]⟩, .string ⟨#[]⟩] 25)
  rw [World.size_alloc] at this
  rw [hW]; exact this
 have HAL := zh hal; have HRB := zh hbr
 have HS := zh (show ∀ u : World, Below W.heap.size W u → (fun w' => w'.cell? ⟨w.heap.size, 0, none⟩ = some (.slice x.A1 x.cs.length x.c1) ∧ w'.cell? ⟨w.heap.size, 1, none⟩ = some (.slice x.A2 x.ns.length x.c2) ∧ w'.cell? ⟨w.heap.size, 2, none⟩ = some (.string ⟨x.ec.toArray⟩) ∧ w'.cell? ⟨w.heap.size, 3, none⟩ = some (.string ⟨x.en.toArray⟩) ∧ w'.cell? ⟨w.heap.size, 4, none⟩ = some (.string ⟨x.ed.toArray⟩)) u from fun u hu => pr_cells ((hu.block _ (blk_lt hblk)).trans hblk))
 have HSU := zh (fun u (hu : Below W.heap.size W u) => supers_f x cn u ((hk.below hal).below hu) hg)
 have HDE := zh (fun u B A c (hu : Below w.heap.size w u) hc hr => declared_w 42 (fun m => !m.st && !m.ab) (enters_of Try.func42 (by kernel_rfl) rfl) runs_w x (supersL x.cs cn) s d B A c u (hk.below hu) hg hc hr (by have := supers_len x.cs cn; have := hg.1.1; omega))
 unfold prC at hW HSU HDE ⊢
 try dsimp only at hW HSU HDE ⊢
 cases hi : (s == clinit) with
 | true =>
  have HV := zh (show refV (dispR x.cs cn s d) s d = refV none s d from by unfold dispR; rw [if_pos hi])
  have hi' : (s == [60, 99, 108, 105, 110, 105, 116, 62]) = true := hi
  have q0 : W.cell? ⟨w.heap.size + 1, 0, none⟩ = some (.string ⟨#[]⟩) := cell_of_row _ _ 0 _ _ _ hbr
  have qf0 := frozen_of_row _ _ 0 _ _ hbr
  have R0 := zh q0
  have q1 : W.cell? ⟨w.heap.size + 1, 1, none⟩ = some (.string ⟨#[]⟩) := cell_of_row _ _ 1 _ _ _ hbr
  have qf1 := frozen_of_row _ _ 1 _ _ hbr
  have R1 := zh q1
  have q2 : W.cell? ⟨w.heap.size + 1, 2, none⟩ = some (.string ⟨#[]⟩) := cell_of_row _ _ 2 _ _ _ hbr
  have qf2 := frozen_of_row _ _ 2 _ _ hbr
  have R2 := zh q2
  have HW := zh hW
  clear hal hblk hbr hW hi
  go_enter Try.func12, Try.ntmps12
  go_wp2_with fail
  try simp only [World.size_alloc]
  rw [← HW.out]
  (try go_wp2_with fail)
  refine bodyPost_ret (v := .tuple #[.agg #[.string ⟨#[]⟩, .string ⟨#[]⟩, .string ⟨#[]⟩], .bool false]) ?_ rfl ⟨by rw [HV.out]; rfl, HAL.out⟩
  simp [results, Try.results12, go_sem, R0.out, R1.out, R2.out]
 | false =>
  obtain ⟨a1, a2, a3, ok, hv⟩ := refV_form (declR (fun m => !m.st && !m.ab) x.cs (supersL x.cs cn) s d) s d
  have HV := zh (show refV (dispR x.cs cn s d) s d = .tuple #[.agg #[.string ⟨a1.toArray⟩, .string ⟨a2.toArray⟩, .string ⟨a3.toArray⟩], .bool ok] from by unfold dispR; rw [if_neg (by rw [hi]; simp)]; exact hv)
  rw [hv] at HDE
  have hi' : (s == [60, 99, 108, 105, 110, 105, 116, 62]) = false := hi
  have HW := zh hW
  clear hal hblk hbr hW hi hv
  go_enter Try.func12, Try.ntmps12
  go_wp2_with fail
  try simp only [World.size_alloc]
  rw [← HW.out]
  (try go_wp2_with fail)
  refine wp_region_held_drew (S := (fun w' => w'.cell? ⟨w.heap.size, 0, none⟩ = some (.slice x.A1 x.cs.length x.c1) ∧ w'.cell? ⟨w.heap.size, 1, none⟩ = some (.slice x.A2 x.ns.length x.c2) ∧ w'.cell? ⟨w.heap.size, 2, none⟩ = some (.string ⟨x.ec.toArray⟩) ∧ w'.cell? ⟨w.heap.size, 3, none⟩ = some (.string ⟨x.en.toArray⟩) ∧ w'.cell? ⟨w.heap.size, 4, none⟩ = some (.string ⟨x.ed.toArray⟩))) (by kernel_rfl) ?_ (fun hHeld => ?_)
  ·exact HS.out _ (by exact ⟨rfl, rfl, rfl, Nat.le_refl _, fun _ _ => rfl⟩)
  obtain ⟨u0, hWd⟩ : ∃ u, u = W.drew := ⟨_, rfl⟩
  have HB0 := zh (show Below W.heap.size W u0 from by rw [hWd]; exact ⟨rfl, rfl, rfl, Nat.le_refl _, fun _ _ => rfl⟩)
  rw [← hWd]
  have hS0 := HS.out _ HB0.out
  clear hWd
  refine tkp 0 rfl ?_
  refine tkp 1 rfl ?_
  refine tkp 2 rfl ?_
  refine tkp 4 rfl ?_
  refine tkp 5 rfl ?_
  clear hS0
  refine rdy 3 rfl (fun K hK => ?_)
  go_simp
  refine (HSU.out _ HB0.out).mono ?_
  rintro e u1 ⟨⟨B, A, c, rfl, hc, hr⟩, hb⟩
  have HL1 := zh (show Below u0.heap.size u0 u1 from ⟨hb.os, hb.tape, hb.output, hb.size, hb.block⟩)
  have HB1 := zh (show Below W.heap.size W u1 from HB0.out.trans (HL1.out.mono HB0.out.size))
  have HC1 := zh (show u1.cell? ⟨B, 0, none⟩ = some (.slice A (supersL x.cs cn).length c) from hc)
  have HR1 := zh (show Rd u1 A (SX (supersL x.cs cn)) from hr)
  clear hc hr hb
  go_wp2_with fail
  refine hK.out _ _ (HS.out _ HB1.out) (fun hHeld => ?_)
  clear hK K
  try simp only [puts]
  refine rdy 6 rfl (fun K hK => ?_)
  go_simp
  refine (HDE.out _ B A c (HAL.out.trans (HB1.out.mono HAL.out.size)) HC1.out HR1.out).mono ?_
  rintro e u2 ⟨rfl, hb⟩
  have HL2 := zh (show Below u1.heap.size u1 u2 from ⟨hb.os, hb.tape, hb.output, hb.size, hb.block⟩)
  have HB2 := zh (show Below W.heap.size W u2 from HB1.out.trans (HL2.out.mono HB1.out.size))
  have HC2 := zh (show u2.cell? ⟨B, 0, none⟩ = some (.slice A (supersL x.cs cn).length c) from (HL2.out.cell (World.block_lt_of_cell? _ _ HC1.out)).trans HC1.out)
  have HR2 := zh (show Rd u2 A (SX (supersL x.cs cn)) from HR1.out.below HL2.out)
  clear hb
  go_wp2_with fail
  refine hK.out _ _ (HS.out _ HB2.out) (fun hHeld => ?_)
  clear hK K
  try simp only [puts]
  have hS2 := HS.out _ HB2.out
  refine tkp 7 rfl ?_
  refine tkp 8 rfl ?_
  clear hS2
  have rr := (HB2.out.block _ (blk_lt HRB.out)).trans HRB.out
  have q0 : u2.cell? ⟨w.heap.size + 1, 0, none⟩ = some (.string ⟨#[]⟩) := cell_of_row _ _ 0 _ _ _ rr
  have qf0 := frozen_of_row _ _ 0 _ _ rr
  have q1 : u2.cell? ⟨w.heap.size + 1, 1, none⟩ = some (.string ⟨#[]⟩) := cell_of_row _ _ 1 _ _ _ rr
  have qf1 := frozen_of_row _ _ 1 _ _ rr
  have q2 : u2.cell? ⟨w.heap.size + 1, 2, none⟩ = some (.string ⟨#[]⟩) := cell_of_row _ _ 2 _ _ _ rr
  have qf2 := frozen_of_row _ _ 2 _ _ rr
  have s0 := heap_setCell_same _ (w.heap.size + 1) 0 _ _ (.string ⟨a1.toArray⟩) rr
  have s1 := heap_setCell_same _ (w.heap.size + 1) 1 _ _ (.string ⟨a2.toArray⟩) s0
  have s2 := heap_setCell_same _ (w.heap.size + 1) 2 _ _ (.string ⟨a3.toArray⟩) s1
  have gA : u2.grownBy (((u2.setCell ⟨w.heap.size + 1, 0, none⟩ (.string ⟨a1.toArray⟩)).setCell ⟨w.heap.size + 1, 1, none⟩ (.string ⟨a2.toArray⟩)).setCell ⟨w.heap.size + 1, 2, none⟩ (.string ⟨a3.toArray⟩)) (some (w.heap.size + 1)) := gb_trans (gb_trans (gb_set _ (w.heap.size + 1) 0 _) (gb_set _ (w.heap.size + 1) 1 _)) (gb_set _ (w.heap.size + 1) 2 _)
  obtain ⟨WF, hWF⟩ : ∃ WF, WF = (((u2.setCell ⟨w.heap.size + 1, 0, none⟩ (.string ⟨a1.toArray⟩)).setCell ⟨w.heap.size + 1, 1, none⟩ (.string ⟨a2.toArray⟩)).setCell ⟨w.heap.size + 1, 2, none⟩ (.string ⟨a3.toArray⟩)) := ⟨_, rfl⟩
  have ur : WF.heap[w.heap.size + 1]? = some (.cells #[.string ⟨a1.toArray⟩, .string ⟨a2.toArray⟩, .string ⟨a3.toArray⟩] 25 (0, 0)) := by rw [hWF, s2]; simp
  have uB : Below w.heap.size w WF := by rw [hWF]; exact (HAL.out.trans (HB2.out.mono HAL.out.size)).grown gA (HAL.out.trans (HB2.out.mono HAL.out.size)).size (fun b hb => by cases hb; omega)
  have R0 := zh (show WF.cell? ⟨w.heap.size + 1, 0, none⟩ = some (.string ⟨a1.toArray⟩) from cell_of_row _ _ 0 _ _ _ ur)
  have R1 := zh (show WF.cell? ⟨w.heap.size + 1, 1, none⟩ = some (.string ⟨a2.toArray⟩) from cell_of_row _ _ 1 _ _ _ ur)
  have R2 := zh (show WF.cell? ⟨w.heap.size + 1, 2, none⟩ = some (.string ⟨a3.toArray⟩) from cell_of_row _ _ 2 _ _ _ ur)
  have UG := zh (show u2.grownBy WF (some (w.heap.size + 1)) from by rw [hWF]; exact gA)
  have HWF := zh hWF; have UB := zh uB
  clear rr s0 s1 s2 gA hWF ur uB
  have HS9 := zh (show (fun w' => w'.cell? ⟨w.heap.size, 0, none⟩ = some (.slice x.A1 x.cs.length x.c1) ∧ w'.cell? ⟨w.heap.size, 1, none⟩ = some (.slice x.A2 x.ns.length x.c2) ∧ w'.cell? ⟨w.heap.size, 2, none⟩ = some (.string ⟨x.ec.toArray⟩) ∧ w'.cell? ⟨w.heap.size, 3, none⟩ = some (.string ⟨x.en.toArray⟩) ∧ w'.cell? ⟨w.heap.size, 4, none⟩ = some (.string ⟨x.ed.toArray⟩)) WF from by rw [HWF.out]; exact ⟨(by simp [World.cell?_setCell_other, (HS.out _ HB2.out).1]), (by simp [World.cell?_setCell_other, (HS.out _ HB2.out).2.1]), (by simp [World.cell?_setCell_other, (HS.out _ HB2.out).2.2.1]), (by simp [World.cell?_setCell_other, (HS.out _ HB2.out).2.2.2.1]), (by simp [World.cell?_setCell_other, (HS.out _ HB2.out).2.2.2.2])⟩)
  refine rdy 9 rfl (fun K hK => ?_)
  go_simp
  rw [← HWF.out]
  refine hK.out _ _ HS9.out (fun hHeld => ?_)
  clear hK K
  try simp only [puts]
  have hS9 := HS9.out
  refine tkp 10 rfl ?_
  clear hS9
  refine wpAnyH_done (by kernel_rfl) ?_ _
  clear q0 q1 q2 qf0 qf1 qf2
  go_wp2
  refine bodyPost_ret (v := .tuple #[.agg #[.string ⟨a1.toArray⟩, .string ⟨a2.toArray⟩, .string ⟨a3.toArray⟩], .bool ok]) ?_ rfl ⟨by rw [HV.out], UB.out⟩
  simp [results, Try.results12, go_sem, R0.out, R1.out, R2.out]
theorem add0 (a : Addr) : a.add 0 = a := by simp [Addr.add]
def CopP (m : MeM) (w : World) (e : Ending) (w' : World) : Prop := (∃ k, e = .returned (.agg (meC k).toArray) ∧ pM k = pM m ∧ MeOk w' k) ∧ Below w.heap.size w w'
theorem copied_w (m : MeM) (w : World) (hk : MeOk w m) (hg : GrM m) : Calls Try.prog 46 #[.agg (meC m).toArray] w (CopP m w) := by
 obtain ⟨W, hW⟩ : ∃ W, W = (w.alloc (.cells (meC m).toArray 37)).alloc (.cells #[.string ⟨#[]⟩, .string ⟨#[]⟩, .bool false, .bool false, .int .i64 0, .slice none 0 0] 37) := ⟨_, rfl⟩
 have hal : Below w.heap.size w W := by rw [hW]; exact ((Below.refl _ w).alloc (Nat.le_refl _) _).alloc (by simp) _
 have hblk : W.heap[w.heap.size]? = some (.cells (meC m).toArray 37 (0, 0)) := by rw [hW]; exact (Below.heap_alloc _ _ _ (by simp)).trans (heap_alloc_new w _)
 have hbr : W.heap[w.heap.size + 1]? = some (.cells #[.string ⟨#[]⟩, .string ⟨#[]⟩, .bool false, .bool false, .int .i64 0, .slice none 0 0] 37 (0, 0)) := by
  have := heap_alloc_new (w.alloc (.cells (meC m).toArray 37)) (.cells #[.string ⟨#[]⟩, .string ⟨#[]⟩, .bool false, .bool false, .int .i64 0, .slice none 0 0] 37)
  rw [World.size_alloc] at this
  rw [hW]; exact this
 have hws : W.heap.size = w.heap.size + 1 + 1 := by rw [hW]; simp
 obtain ⟨V, hV⟩ : ∃ V, V = ((W.alloc (.cells (meC m).toArray 37)).alloc (.cells #[.string ⟨#[]⟩, .string ⟨#[]⟩, .bool false, .bool false, .slice none 0 0, .slice none 0 0, .slice (some ⟨w.heap.size + 1 + 1, 0, none⟩) 1 1] 43)).alloc (.cells #[.slice (some ⟨w.heap.size + 1 + 1 + 1, 0, none⟩) 1 1, .slice none 0 0, .string ⟨#[]⟩, .string ⟨#[]⟩, .string ⟨#[]⟩] 27) := ⟨_, rfl⟩
 have hbv : Below W.heap.size W V := by rw [hV]; exact (((Below.refl _ W).alloc (Nat.le_refl _) _).alloc (by simp) _).alloc (by simp; omega) _
 have k0 : V.heap[w.heap.size + 1 + 1]? = some (.cells (meC m).toArray 37 (0, 0)) := by rw [hV, ← hws]; exact (Below.heap_alloc _ _ _ (by simp <;> omega)).trans ((Below.heap_alloc _ _ _ (by simp)).trans (heap_alloc_new W _))
 have k1 : V.heap[w.heap.size + 1 + 1 + 1]? = some (.cells #[.string ⟨#[]⟩, .string ⟨#[]⟩, .bool false, .bool false, .slice none 0 0, .slice none 0 0, .slice (some ⟨w.heap.size + 1 + 1, 0, none⟩) 1 1] 43 (0, 0)) := by
  have := heap_alloc_new (W.alloc (.cells (meC m).toArray 37)) (.cells #[.string ⟨#[]⟩, .string ⟨#[]⟩, .bool false, .bool false, .slice none 0 0, .slice none 0 0, .slice (some ⟨w.heap.size + 1 + 1, 0, none⟩) 1 1] 43)
  rw [World.size_alloc, hws] at this
  rw [hV]; exact (Below.heap_alloc _ _ _ (by simp [hws])).trans this
 have k2 : V.heap[w.heap.size + 1 + 1 + 1 + 1]? = some (.cells #[.slice (some ⟨w.heap.size + 1 + 1 + 1, 0, none⟩) 1 1, .slice none 0 0, .string ⟨#[]⟩, .string ⟨#[]⟩, .string ⟨#[]⟩] 27 (0, 0)) := by
  have := heap_alloc_new ((W.alloc (.cells (meC m).toArray 37)).alloc (.cells #[.string ⟨#[]⟩, .string ⟨#[]⟩, .bool false, .bool false, .slice none 0 0, .slice none 0 0, .slice (some ⟨w.heap.size + 1 + 1, 0, none⟩) 1 1] 43)) (.cells #[.slice (some ⟨w.heap.size + 1 + 1 + 1, 0, none⟩) 1 1, .slice none 0 0, .string ⟨#[]⟩, .string ⟨#[]⟩, .string ⟨#[]⟩] 27)
  rw [World.size_alloc, World.size_alloc, hws] at this
  rw [hV]; exact this
 have hok : PrOk V ⟨[⟨[], [], false, false, [], none, 0, [], none, 0, [m], some ⟨w.heap.size + 1 + 1, 0, none⟩, 1⟩], some ⟨w.heap.size + 1 + 1 + 1, 0, none⟩, 1, [], none, 0, [], [], []⟩ := by
  refine ⟨⟨Nat.le_refl _, ?_⟩, ⟨Nat.zero_le _, Rd.nil _ _⟩, fun y hy => ?_⟩
  ·dsimp only; rw [List.flatMap_cons, List.flatMap_nil, List.append_nil]; exact rd_blk k1 (k := 7) rfl
  ·dsimp only at hy
   rw [List.mem_singleton] at hy; subst hy
   refine ⟨⟨Nat.zero_le _, Rd.nil _ _⟩, ⟨Nat.zero_le _, Rd.nil _ _⟩, ⟨Nat.le_refl _, ?_⟩, fun y hy => ?_⟩
   ·dsimp only; rw [List.flatMap_cons, List.flatMap_nil, List.append_nil]; exact rd_blk k0 (k := 6) rfl
   ·dsimp only at hy
    rw [List.mem_singleton] at hy; subst hy
    exact (hk.below hal).below hbv
 have hgr : GrP ⟨[⟨[], [], false, false, [], none, 0, [], none, 0, [m], some ⟨w.heap.size + 1 + 1, 0, none⟩, 1⟩], some ⟨w.heap.size + 1 + 1 + 1, 0, none⟩, 1, [], none, 0, [], [], []⟩ := by
  refine ⟨⟨by simp, by simp⟩, fun y hy => ?_⟩
  dsimp only at hy
  rw [List.mem_singleton] at hy; subst hy
  refine ⟨⟨by simp, by simp, by simp, by simp, by simp⟩, fun y hy => ?_⟩
  dsimp only at hy
  rw [List.mem_singleton] at hy; subst hy
  exact hg
 have HCL := zh (show Calls Try.prog 79 #[.agg #[.slice (some ⟨w.heap.size + 1 + 1 + 1, 0, none⟩) 1 1, .slice none 0 0, .string ⟨#[]⟩, .string ⟨#[]⟩, .string ⟨#[]⟩]] V (CloPo ⟨[⟨[], [], false, false, [], none, 0, [], none, 0, [m], some ⟨w.heap.size + 1 + 1, 0, none⟩, 1⟩], some ⟨w.heap.size + 1 + 1 + 1, 0, none⟩, 1, [], none, 0, [], [], []⟩ V) from clone_g _ V hok hgr)
 obtain ⟨p0, p1, p2, p3, p4⟩ := c5q k2
 obtain ⟨x0, x1, x2, x3, x4, x5⟩ := me_cells hblk
 have HAL := zh hal; have HRB := zh hbr; have HBV := zh hbv
 unfold meC at hW hV
 have HW := zh hW; have HV := zh hV
 unfold meC
 clear hal hblk hbr hW hV hbv k0 k1 k2 hok hgr hk hg
 go_enter Try.func46, Try.ntmps46
 go_wp2_with fail
 try simp only [World.size_alloc]
 rw [← HW.out]
 (try go_wp2_with fail)
 try simp only [World.size_alloc]
 rw [← HV.out]
 (try go_wp2_with fail)
 refine HCL.out.mono ?_
 rintro e v2 ⟨⟨y, rfl, hyp, hyo⟩, hb2⟩
 obtain ⟨ycs, yA1, yc1, yns, yA2, yc2, yec, yen, yed⟩ := y
 have h1 : ycs.map pC = [pC ⟨[], [], false, false, [], none, 0, [], none, 0, [m], some ⟨w.heap.size + 1 + 1, 0, none⟩, 1⟩] := congrArg PrP.cs hyp
 obtain ⟨c', rfl⟩ : ∃ c', ycs = [c'] := by
  cases ycs with
  | nil => simp at h1
  | cons c' l => cases l with
   | nil => exact ⟨c', rfl⟩
   | cons _ _ => simp at h1
 have h2 : pC c' = pC ⟨[], [], false, false, [], none, 0, [], none, 0, [m], some ⟨w.heap.size + 1 + 1, 0, none⟩, 1⟩ := by simpa using h1
 have hok2 := hyo.ok
 have hcok := hok2.2.2 c' (by simp)
 obtain ⟨cnm, csu, cfc, cab, cis, cA1, cc1, cfs, cA2, cc2, cms, cA3, cc3⟩ := c'
 have h3 : cms.map pM = [pM m] := congrArg ClP.ms h2
 obtain ⟨k, rfl⟩ : ∃ k, cms = [k] := by
  cases cms with
  | nil => simp at h3
  | cons k l => cases l with
   | nil => exact ⟨k, rfl⟩
   | cons _ _ => simp at h3
 have h4 : pM k = pM m := by simpa using h3
 obtain ⟨a, rfl, -, e0, e1, e2, e3, e4, e5, e6⟩ := cl_at (i := 0) hok2.1.2 (x := ⟨cnm, csu, cfc, cab, cis, cA1, cc1, cfs, cA2, cc2, [k], cA3, cc3⟩) rfl
 obtain ⟨b, hbA, -, f0, f1, f2, f3, f4, f5⟩ := me_at (i := 0) hcok.2.2.1.2 (x := k) rfl
 dsimp only at hbA
 subst hbA
 simp only [Nat.zero_mul, add0] at e6 f0 f1 f2 f3 f4 f5
 have HKO := zh ((hyo.2.2 _ (List.mem_singleton.2 rfl)).2.2.2 k (List.mem_singleton.2 rfl))
 have hlt9 : w.heap.size + 1 < V.heap.size := by rw [HV.out]; simp; omega
 have HLT9 := zh hlt9
 have HPK := zh h4
 have HB2 := zh (show Below W.heap.size W v2 from HBV.out.trans (hb2.mono HBV.out.size))
 dsimp only [prC, List.length_cons, List.length_nil]
 try simp only [Nat.zero_add]
 have hfd : (Instr.field 27 (.agg #[.slice (some a) 1 yc1, .slice yA2 yns.length yc2, .string ⟨yec.toArray⟩, .string ⟨yen.toArray⟩, .string ⟨yed.toArray⟩]) 0).run Try.prog v2 = .ok (.slice (some a) 1 yc1) v2 := by kernel_rfl
 clear h1 h2 h3 h4 hyp hyo hok2 hcok hb2 e0 e1 e2 e3 e4 e5 x0 x1 x2 x3 x4 x5 p0 p1 p2 p3 p4
 have rr := (HB2.out.block _ (blk_lt HRB.out)).trans HRB.out
 have q0 : v2.cell? ⟨w.heap.size + 1, 0, none⟩ = some (.string ⟨#[]⟩) := cell_of_row _ _ 0 _ _ _ rr
 have qf0 := frozen_of_row _ _ 0 _ _ rr
 have q1 : v2.cell? ⟨w.heap.size + 1, 1, none⟩ = some (.string ⟨#[]⟩) := cell_of_row _ _ 1 _ _ _ rr
 have qf1 := frozen_of_row _ _ 1 _ _ rr
 have q2 : v2.cell? ⟨w.heap.size + 1, 2, none⟩ = some (.bool false) := cell_of_row _ _ 2 _ _ _ rr
 have qf2 := frozen_of_row _ _ 2 _ _ rr
 have q3 : v2.cell? ⟨w.heap.size + 1, 3, none⟩ = some (.bool false) := cell_of_row _ _ 3 _ _ _ rr
 have qf3 := frozen_of_row _ _ 3 _ _ rr
 have q4 : v2.cell? ⟨w.heap.size + 1, 4, none⟩ = some (.int .i64 0) := cell_of_row _ _ 4 _ _ _ rr
 have qf4 := frozen_of_row _ _ 4 _ _ rr
 have q5 : v2.cell? ⟨w.heap.size + 1, 5, none⟩ = some (.slice none 0 0) := cell_of_row _ _ 5 _ _ _ rr
 have qf5 := frozen_of_row _ _ 5 _ _ rr
 have s0 := heap_setCell_same _ (w.heap.size + 1) 0 _ _ (.string ⟨k.nm.toArray⟩) rr
 have s1 := heap_setCell_same _ (w.heap.size + 1) 1 _ _ (.string ⟨k.ds.toArray⟩) s0
 have s2 := heap_setCell_same _ (w.heap.size + 1) 2 _ _ (.bool k.st) s1
 have s3 := heap_setCell_same _ (w.heap.size + 1) 3 _ _ (.bool k.ab) s2
 have s4 := heap_setCell_same _ (w.heap.size + 1) 4 _ _ (.int .i64 k.rg) s3
 have s5 := heap_setCell_same _ (w.heap.size + 1) 5 _ _ (.slice k.A k.co.length k.c) s4
 have gA : v2.grownBy ((((((v2.setCell ⟨w.heap.size + 1, 0, none⟩ (.string ⟨k.nm.toArray⟩)).setCell ⟨w.heap.size + 1, 1, none⟩ (.string ⟨k.ds.toArray⟩)).setCell ⟨w.heap.size + 1, 2, none⟩ (.bool k.st)).setCell ⟨w.heap.size + 1, 3, none⟩ (.bool k.ab)).setCell ⟨w.heap.size + 1, 4, none⟩ (.int .i64 k.rg)).setCell ⟨w.heap.size + 1, 5, none⟩ (.slice k.A k.co.length k.c)) (some (w.heap.size + 1)) := gb_trans (gb_trans (gb_trans (gb_trans (gb_trans (gb_set _ (w.heap.size + 1) 0 _) (gb_set _ (w.heap.size + 1) 1 _)) (gb_set _ (w.heap.size + 1) 2 _)) (gb_set _ (w.heap.size + 1) 3 _)) (gb_set _ (w.heap.size + 1) 4 _)) (gb_set _ (w.heap.size + 1) 5 _)
 obtain ⟨WF, hWF⟩ : ∃ WF, WF = ((((((v2.setCell ⟨w.heap.size + 1, 0, none⟩ (.string ⟨k.nm.toArray⟩)).setCell ⟨w.heap.size + 1, 1, none⟩ (.string ⟨k.ds.toArray⟩)).setCell ⟨w.heap.size + 1, 2, none⟩ (.bool k.st)).setCell ⟨w.heap.size + 1, 3, none⟩ (.bool k.ab)).setCell ⟨w.heap.size + 1, 4, none⟩ (.int .i64 k.rg)).setCell ⟨w.heap.size + 1, 5, none⟩ (.slice k.A k.co.length k.c)) := ⟨_, rfl⟩
 have ur : WF.heap[w.heap.size + 1]? = some (.cells #[.string ⟨k.nm.toArray⟩, .string ⟨k.ds.toArray⟩, .bool k.st, .bool k.ab, .int .i64 k.rg, .slice k.A k.co.length k.c] 37 (0, 0)) := by rw [hWF, s5]; simp
 have uB : Below w.heap.size w WF := by rw [hWF]; exact (HAL.out.trans (HB2.out.mono HAL.out.size)).grown gA (HAL.out.trans (HB2.out.mono HAL.out.size)).size (fun b hb => by cases hb; omega)
 have R0 := zh (show WF.cell? ⟨w.heap.size + 1, 0, none⟩ = some (.string ⟨k.nm.toArray⟩) from cell_of_row _ _ 0 _ _ _ ur)
 have R1 := zh (show WF.cell? ⟨w.heap.size + 1, 1, none⟩ = some (.string ⟨k.ds.toArray⟩) from cell_of_row _ _ 1 _ _ _ ur)
 have R2 := zh (show WF.cell? ⟨w.heap.size + 1, 2, none⟩ = some (.bool k.st) from cell_of_row _ _ 2 _ _ _ ur)
 have R3 := zh (show WF.cell? ⟨w.heap.size + 1, 3, none⟩ = some (.bool k.ab) from cell_of_row _ _ 3 _ _ _ ur)
 have R4 := zh (show WF.cell? ⟨w.heap.size + 1, 4, none⟩ = some (.int .i64 k.rg) from cell_of_row _ _ 4 _ _ _ ur)
 have R5 := zh (show WF.cell? ⟨w.heap.size + 1, 5, none⟩ = some (.slice k.A k.co.length k.c) from cell_of_row _ _ 5 _ _ _ ur)
 have UG := zh (show v2.grownBy WF (some (w.heap.size + 1)) from by rw [hWF]; exact gA)
 have HWF := zh hWF; have UB := zh uB
 clear rr s0 s1 s2 s3 s4 s5 gA hWF ur uB
 have HOK := zh (show MeOk WF k from (HKO.out.gb HLT9.out UG.out).ok)
 go_wp2
 rw [← HWF.out]
 refine bodyPost_ret (v := .agg #[.string ⟨k.nm.toArray⟩, .string ⟨k.ds.toArray⟩, .bool k.st, .bool k.ab, .int .i64 k.rg, .slice k.A k.co.length k.c]) ?_ rfl ⟨⟨k, rfl, HPK.out, HOK.out⟩, UB.out⟩
 simp [results, Try.results46, go_sem, R0.out, R1.out, R2.out, R3.out, R4.out, R5.out]
end Go.Proofs.Ytdifmgeicnndfaa.find
namespace Go.Proofs.Ytdifmgeicnndfaa.find
open Go.RowKit
open words kindp opp op kind word prg sorts
theorem supS_pre (cs : List ClM) : ∀ (f : Nat) (s : Tx) (l : List Tx), l <+: supS cs f s l
 | 0, _, l => List.prefix_refl _
 | f + 1, s, l => by
  unfold supS
  cases findC cs s with
  | none => exact List.prefix_refl _
  | some c =>
   dsimp only
   split
   ·exact List.prefix_refl _
   ·exact (List.prefix_append l [s]).trans (supS_pre cs f c.su (l ++ [s]))
theorem nd_lenF {cs : List ClM} {M : List Tx} (nd : M.Nodup) (has : ∀ x ∈ M, (findC cs x).isSome = true) : M.length ≤ cs.length := by
 have := len_sub (m := cs.map (·.nm)) nd fun o ho => by
  obtain ⟨c, hc⟩ := Option.isSome_iff_exists.1 (has o ho)
  obtain ⟨e, hm⟩ := findC_nm hc
  exact List.mem_map.2 ⟨c, hm, e⟩
 simpa using this
theorem firstM_snocN {cs : List ClM} {cn s d : Tx} (L : List Tx) (h : oneM cs s d cn = none) : firstM cs (L ++ [cn]) s d = firstM cs L s d := by
 unfold firstM
 rw [List.findSome?_append]
 simp [h]
theorem firstM_consN {cs : List ClM} {cn s d : Tx} (L : List Tx) (h : oneM cs s d cn = none) : firstM cs (cn :: L) s d = firstM cs L s d := by
 unfold firstM
 rw [List.findSome?_cons, h]
theorem supS_ring {cs : List ClM} {cn su s d : Tx} {cc : ClM} (ho : oneM cs s d cn = none) (hc : findC cs cn = some cc) (hsu : cc.su = su) : ∀ (f : Nat) (t : Tx) (l : List Tx), l.length + f = cs.length → (cn :: l).Nodup → (∀ x ∈ cn :: l, (findC cs x).isSome = true) → (l = [] ∧ t = su ∨ su ∈ l) →
  firstM cs (supS cs f t (cn :: l)) s d = firstM cs (supS cs (f + 1) t l) s d
 | 0, t, l, hf, nd, has, _ => by
  have := nd_lenF nd has
  rw [List.length_cons] at this
  omega
 | f + 1, t, l, hf, nd, has, hl => by
  have hnl : cn ∉ l := (List.nodup_cons.1 nd).1
  rw [supS, supS]
  cases ht : findC cs t with
  | none => exact firstM_consN l ho
  | some c =>
   dsimp only
   by_cases h1 : t ∈ l
   ·rw [if_pos (by simp [h1]), if_pos (by simpa using h1)]
    exact firstM_consN l ho
   ·by_cases h2 : t = cn
    ·subst h2
     rw [if_pos (by simp), if_neg (by simpa using h1)]
     rw [hc] at ht
     obtain rfl := Option.some.inj ht
     rw [hsu]
     have hin : (l ++ [t]).contains su = true := by
      rcases hl with ⟨rfl, e⟩ | h
      ·simp [e]
      ·simp [h]
     have hst : supS cs (f + 1) su (l ++ [t]) = l ++ [t] := by
      rw [supS]
      cases findC cs su with
      | none => rfl
      | some c' => dsimp only; rw [if_pos hin]
     rw [hst, firstM_snocN l ho]
     exact firstM_consN l ho
    ·rw [if_neg (by simp [h1, h2]), if_neg (by simpa using h1)]
     have hnd : (cn :: (l ++ [t])).Nodup := by
      rw [List.nodup_cons] at nd ⊢
      refine ⟨by simp only [List.mem_append, List.mem_singleton, not_or]; exact ⟨nd.1, fun e => h2 e.symm⟩, ?_⟩
      rw [List.nodup_append]
      refine ⟨nd.2, by simp, ?_⟩
      intro a ha b hb
      rw [List.mem_singleton] at hb
      subst hb
      exact fun e => h1 (e ▸ ha)
     exact supS_ring ho hc hsu f c.su (l ++ [t]) (by rw [List.length_append, List.length_singleton]; omega) hnd (fun x hx => by
      rw [List.mem_cons, List.mem_append, List.mem_singleton] at hx
      rcases hx with rfl | hx | rfl
      ·exact has _ (by simp)
      ·exact has _ (by simp [hx])
      ·rw [ht]; rfl) (.inr (by
      rcases hl with ⟨rfl, e⟩ | h
      ·simp [e]
      ·simp [h]))
theorem supers_step {cs : List ClM} {cn : Tx} {c : ClM} (hc : findC cs cn = some c) : supersL cs cn = supS cs cs.length c.su [cn] := by
 unfold supersL
 rw [supS, hc]
 simp
theorem firstM_one {cs : List ClM} {cn s d : Tx} : firstM cs [cn] s d = oneM cs s d cn := by
 unfold firstM
 rw [List.findSome?_cons]
 cases oneM cs s d cn <;> rfl
theorem disp_above {cs : List ClM} {cn s d : Tx} {c : ClM} (hc : findC cs cn = some c) (ho : firstM cs [cn] s d = none) : dispR cs cn s d = dispR cs c.su s d := by
 rw [firstM_one] at ho
 have h := supS_ring ho hc rfl cs.length c.su [] (by simp) (by simp) (fun x hx => by
  rw [List.mem_singleton] at hx; subst hx; rw [hc]; rfl) (.inl ⟨rfl, rfl⟩)
 rw [← supers_step hc] at h
 unfold dispR declR
 rw [h]
 rfl
theorem disp_own {cs : List ClM} {cn s d : Tx} {c : ClM} {j : Nat} {m : MeM} (hf : firstM cs [cn] s d = some (c, j)) (hm : c.ms[j]? = some m) (hs : (s == clinit) = false) : dispR cs cn s d = if (!m.st && !m.ab) = true then some cn else none := by
 have h1 := hf
 rw [firstM_one] at h1
 have hcn : findC cs cn = some c := by
  unfold oneM at h1
  cases hc : findC cs cn with
  | none => rw [hc] at h1; cases h1
  | some c' =>
   rw [hc] at h1; dsimp only at h1
   cases hd : declM c' s d with
   | none => rw [hd] at h1; cases h1
   | some k' =>
    rw [hd] at h1
    simp only [Option.some.injEq, Prod.mk.injEq] at h1
    rw [h1.1]
 obtain ⟨q, hq⟩ := supS_pre cs cs.length c.su [cn]
 have h2 : firstM cs (supersL cs cn) s d = some (c, j) := by
  rw [supers_step hcn, ← hq]
  unfold firstM at hf ⊢
  rw [List.findSome?_append, hf]
  rfl
 unfold dispR declR
 rw [if_neg (by rw [hs]; exact Bool.false_ne_true), h2]
 dsimp only
 rw [hm]
 dsimp only
 rw [(findC_nm hcn).1]
theorem refV_if {b : Bool} {cn s d a1 a2 a3 : Tx} {ok : Bool} (h : refV (if b = true then some cn else none) s d = .tuple #[.agg #[.string ⟨a1.toArray⟩, .string ⟨a2.toArray⟩, .string ⟨a3.toArray⟩], .bool ok]) : ok = b ∧ (b = true → a1 = cn ∧ a2 = s ∧ a3 = d) := by
 cases b with
 | false =>
  rw [if_neg Bool.false_ne_true] at h
  simp only [refV, Value.tuple.injEq] at h
  simp at h
  exact ⟨by simp_all, fun e => by cases e⟩
 | true =>
  rw [if_pos rfl] at h
  simp only [refV, Value.tuple.injEq] at h
  simp at h
  exact ⟨by simp_all, fun _ => by simp_all⟩
end Go.Proofs.Ytdifmgeicnndfaa.find
namespace Go.Proofs.Ytdifmgeicnndfaa.find
open Go.RowKit
open words kindp opp op kind word prg sorts
set_option maxRecDepth 100000
set_option maxHeartbeats 8000000
set_option linter.all false
theorem static_m (m : MeM) (w : World) : Calls Try.prog 70 #[.agg (meC m).toArray] w fun e w' => e = .returned (.bool (m.st)) ∧ Below w.heap.size w w' := by
 obtain ⟨W, hW⟩ : ∃ W, W = w.alloc (.cells (meC m).toArray 37) := ⟨_, rfl⟩
 have hal : Below w.heap.size w W := by rw [hW]; exact (Below.refl _ w).alloc (Nat.le_refl _) _
 have hblk : W.heap[w.heap.size]? = some (.cells (meC m).toArray 37 (0, 0)) := by rw [hW]; exact heap_alloc_new w _
 obtain ⟨x0, x1, x2, x3, x4, x5⟩ := me_cells hblk
 have HAL := zh hal
 obtain ⟨nm, ds, st, ab, rg, co, A, c⟩ := m
 unfold meC at hW ⊢
 dsimp only at *
 have HW := zh hW
 clear hal hblk hW
 cases st <;> cases ab <;>
 ·go_enter Try.func70, Try.ntmps70
  go_wp2_with fail
  (try rw [← HW.out])
  (try go_wp2_with fail)
  go_ret
  exact ⟨rfl, HAL.out⟩
theorem notStatic_m (m : MeM) (w : World) : Calls Try.prog 73 #[.agg (meC m).toArray] w fun e w' => e = .returned (.bool (!m.st)) ∧ Below w.heap.size w w' := by
 obtain ⟨W, hW⟩ : ∃ W, W = w.alloc (.cells (meC m).toArray 37) := ⟨_, rfl⟩
 have hal : Below w.heap.size w W := by rw [hW]; exact (Below.refl _ w).alloc (Nat.le_refl _) _
 have hblk : W.heap[w.heap.size]? = some (.cells (meC m).toArray 37 (0, 0)) := by rw [hW]; exact heap_alloc_new w _
 obtain ⟨x0, x1, x2, x3, x4, x5⟩ := me_cells hblk
 have HAL := zh hal
 obtain ⟨nm, ds, st, ab, rg, co, A, c⟩ := m
 unfold meC at hW ⊢
 dsimp only at *
 have HW := zh hW
 clear hal hblk hW
 cases st <;> cases ab <;>
 ·go_enter Try.func73, Try.ntmps73
  go_wp2_with fail
  (try rw [← HW.out])
  (try go_wp2_with fail)
  go_ret
  exact ⟨rfl, HAL.out⟩
theorem static_w (x : PrM) (cn s d : Tx) (w : World) (hk : PrOk w x) (hg : GrP x) : Calls Try.prog 35 #[.agg (prC x).toArray, .agg #[.string ⟨cn.toArray⟩, .string ⟨s.toArray⟩, .string ⟨d.toArray⟩]] w
  fun e w' => e = .returned (refV (declR (fun m => m.st) x.cs (supersL x.cs cn) s d) s d) ∧ Below w.heap.size w w' := by
 obtain ⟨W, hW⟩ : ∃ W, W = ((w.alloc (.cells (prC x).toArray 27)).alloc (.cells #[.string ⟨cn.toArray⟩, .string ⟨s.toArray⟩, .string ⟨d.toArray⟩] 25)).alloc (.cells #[.string ⟨#[]⟩, .string ⟨#[]⟩, .string ⟨#[]⟩] 25) := ⟨_, rfl⟩
 have hal : Below w.heap.size w W := by rw [hW]; exact (((Below.refl _ w).alloc (Nat.le_refl _) _).alloc (by simp <;> omega) _).alloc (by simp <;> omega) _
 have hb0 : W.heap[w.heap.size]? = some (.cells (prC x).toArray 27 (0, 0)) := by
  have := heap_alloc_new w (.cells (prC x).toArray 27)
  (try rw [World.size_alloc] at this)
  (try rw [World.size_alloc] at this)
  rw [hW]; exact (Below.heap_alloc _ _ _ (by simp <;> omega)).trans ((Below.heap_alloc _ _ _ (by simp <;> omega)).trans (this))
 have hb1 : W.heap[w.heap.size + 1]? = some (.cells #[.string ⟨cn.toArray⟩, .string ⟨s.toArray⟩, .string ⟨d.toArray⟩] 25 (0, 0)) := by
  have := heap_alloc_new (w.alloc (.cells (prC x).toArray 27)) (.cells #[.string ⟨cn.toArray⟩, .string ⟨s.toArray⟩, .string ⟨d.toArray⟩] 25)
  (try rw [World.size_alloc] at this)
  (try rw [World.size_alloc] at this)
  rw [hW]; exact (Below.heap_alloc _ _ _ (by simp <;> omega)).trans (this)
 have hb2 : W.heap[w.heap.size + 1 + 1]? = some (.cells #[.string ⟨#[]⟩, .string ⟨#[]⟩, .string ⟨#[]⟩] 25 (0, 0)) := by
  have := heap_alloc_new ((w.alloc (.cells (prC x).toArray 27)).alloc (.cells #[.string ⟨cn.toArray⟩, .string ⟨s.toArray⟩, .string ⟨d.toArray⟩] 25)) (.cells #[.string ⟨#[]⟩, .string ⟨#[]⟩, .string ⟨#[]⟩] 25)
  (try rw [World.size_alloc] at this)
  (try rw [World.size_alloc] at this)
  rw [hW]; exact this
 have HAL := zh hal; have HRB := zh hb2
 have HS := zh (show ∀ u : World, Below W.heap.size W u → (fun w' => w'.cell? ⟨w.heap.size, 0, none⟩ = some (.slice x.A1 x.cs.length x.c1) ∧ w'.cell? ⟨w.heap.size, 1, none⟩ = some (.slice x.A2 x.ns.length x.c2) ∧ w'.cell? ⟨w.heap.size, 2, none⟩ = some (.string ⟨x.ec.toArray⟩) ∧ w'.cell? ⟨w.heap.size, 3, none⟩ = some (.string ⟨x.en.toArray⟩) ∧ w'.cell? ⟨w.heap.size, 4, none⟩ = some (.string ⟨x.ed.toArray⟩) ∧ w'.cell? ⟨w.heap.size + 1, 0, none⟩ = some (.string ⟨cn.toArray⟩) ∧ w'.cell? ⟨w.heap.size + 1, 1, none⟩ = some (.string ⟨s.toArray⟩) ∧ w'.cell? ⟨w.heap.size + 1, 2, none⟩ = some (.string ⟨d.toArray⟩)) u from fun u hu => by
  obtain ⟨p0, p1, p2, p3, p4⟩ := pr_cells ((hu.block _ (blk_lt hb0)).trans hb0)
  have hm := (hu.block _ (blk_lt hb1)).trans hb1
  exact ⟨p0, p1, p2, p3, p4, cell_of_row _ _ 0 _ _ _ hm, cell_of_row _ _ 1 _ _ _ hm, cell_of_row _ _ 2 _ _ _ hm⟩)
 have HSU := zh (fun u (hu : Below W.heap.size W u) => supers_f x cn u ((hk.below hal).below hu) hg)
 have HDE := zh (fun u B A c (hu : Below w.heap.size w u) hc hr => declared_w 70 (fun m => m.st) (enters_of Try.func70 (by kernel_rfl) rfl) static_m x (supersL x.cs cn) s d B A c u (hk.below hu) hg hc hr (by have := supers_len x.cs cn; have := hg.1.1; omega))
 unfold prC at hW HSU HDE ⊢
 try dsimp only at hW HSU HDE ⊢
 obtain ⟨a1, a2, a3, ok, hv⟩ := refV_form (declR (fun m => m.st) x.cs (supersL x.cs cn) s d) s d
 have HV := zh hv
 rw [hv] at HDE
 have HW := zh hW
 clear hal hb0 hb1 hb2 hW hv
 go_enter Try.func35, Try.ntmps35
 go_wp2_with fail
 try simp only [World.size_alloc]
 rw [← HW.out]
 (try go_wp2_with fail)
 refine wp_region_held_drew (S := (fun w' => w'.cell? ⟨w.heap.size, 0, none⟩ = some (.slice x.A1 x.cs.length x.c1) ∧ w'.cell? ⟨w.heap.size, 1, none⟩ = some (.slice x.A2 x.ns.length x.c2) ∧ w'.cell? ⟨w.heap.size, 2, none⟩ = some (.string ⟨x.ec.toArray⟩) ∧ w'.cell? ⟨w.heap.size, 3, none⟩ = some (.string ⟨x.en.toArray⟩) ∧ w'.cell? ⟨w.heap.size, 4, none⟩ = some (.string ⟨x.ed.toArray⟩) ∧ w'.cell? ⟨w.heap.size + 1, 0, none⟩ = some (.string ⟨cn.toArray⟩) ∧ w'.cell? ⟨w.heap.size + 1, 1, none⟩ = some (.string ⟨s.toArray⟩) ∧ w'.cell? ⟨w.heap.size + 1, 2, none⟩ = some (.string ⟨d.toArray⟩))) (by kernel_rfl) ?_ (fun hHeld => ?_)
 ·exact HS.out _ (by exact ⟨rfl, rfl, rfl, Nat.le_refl _, fun _ _ => rfl⟩)
 obtain ⟨u0, hWd⟩ : ∃ u, u = W.drew := ⟨_, rfl⟩
 have HB0 := zh (show Below W.heap.size W u0 from by rw [hWd]; exact ⟨rfl, rfl, rfl, Nat.le_refl _, fun _ _ => rfl⟩)
 rw [← hWd]
 have hS0 := HS.out _ HB0.out
 clear hWd
 refine tkp 0 rfl ?_
 refine tkp 1 rfl ?_
 refine tkp 2 rfl ?_
 refine tkp 3 rfl ?_
 refine tkp 5 rfl ?_
 refine tkp 6 rfl ?_
 refine tkp 7 rfl ?_
 refine tkp 8 rfl ?_
 clear hS0
 refine rdy 4 rfl (fun K hK => ?_)
 go_simp
 refine (HSU.out _ HB0.out).mono ?_
 rintro e u1 ⟨⟨B, A, c, rfl, hc, hr⟩, hb⟩
 have HL1 := zh (show Below u0.heap.size u0 u1 from ⟨hb.os, hb.tape, hb.output, hb.size, hb.block⟩)
 have HB1 := zh (show Below W.heap.size W u1 from HB0.out.trans (HL1.out.mono HB0.out.size))
 have HC1 := zh (show u1.cell? ⟨B, 0, none⟩ = some (.slice A (supersL x.cs cn).length c) from hc)
 have HR1 := zh (show Rd u1 A (SX (supersL x.cs cn)) from hr)
 clear hc hr hb
 go_wp2_with fail
 refine hK.out _ _ (HS.out _ HB1.out) (fun hHeld => ?_)
 clear hK K
 try simp only [puts]
 refine rdy 9 rfl (fun K hK => ?_)
 go_simp
 refine (HDE.out _ B A c (HAL.out.trans (HB1.out.mono HAL.out.size)) HC1.out HR1.out).mono ?_
 rintro e u2 ⟨rfl, hb⟩
 have HL2 := zh (show Below u1.heap.size u1 u2 from ⟨hb.os, hb.tape, hb.output, hb.size, hb.block⟩)
 have HB2 := zh (show Below W.heap.size W u2 from HB1.out.trans (HL2.out.mono HB1.out.size))
 have HC2 := zh (show u2.cell? ⟨B, 0, none⟩ = some (.slice A (supersL x.cs cn).length c) from (HL2.out.cell (World.block_lt_of_cell? _ _ HC1.out)).trans HC1.out)
 have HR2 := zh (show Rd u2 A (SX (supersL x.cs cn)) from HR1.out.below HL2.out)
 clear hb
 go_wp2_with fail
 refine hK.out _ _ (HS.out _ HB2.out) (fun hHeld => ?_)
 clear hK K
 try simp only [puts]
 have hS2 := HS.out _ HB2.out
 refine tkp 10 rfl ?_
 refine tkp 11 rfl ?_
 clear hS2
 have rr := (HB2.out.block _ (blk_lt HRB.out)).trans HRB.out
 have q0 : u2.cell? ⟨w.heap.size + 1 + 1, 0, none⟩ = some (.string ⟨#[]⟩) := cell_of_row _ _ 0 _ _ _ rr
 have qf0 := frozen_of_row _ _ 0 _ _ rr
 have q1 : u2.cell? ⟨w.heap.size + 1 + 1, 1, none⟩ = some (.string ⟨#[]⟩) := cell_of_row _ _ 1 _ _ _ rr
 have qf1 := frozen_of_row _ _ 1 _ _ rr
 have q2 : u2.cell? ⟨w.heap.size + 1 + 1, 2, none⟩ = some (.string ⟨#[]⟩) := cell_of_row _ _ 2 _ _ _ rr
 have qf2 := frozen_of_row _ _ 2 _ _ rr
 have s0 := heap_setCell_same _ (w.heap.size + 1 + 1) 0 _ _ (.string ⟨a1.toArray⟩) rr
 have s1 := heap_setCell_same _ (w.heap.size + 1 + 1) 1 _ _ (.string ⟨a2.toArray⟩) s0
 have s2 := heap_setCell_same _ (w.heap.size + 1 + 1) 2 _ _ (.string ⟨a3.toArray⟩) s1
 have gA : u2.grownBy (((u2.setCell ⟨w.heap.size + 1 + 1, 0, none⟩ (.string ⟨a1.toArray⟩)).setCell ⟨w.heap.size + 1 + 1, 1, none⟩ (.string ⟨a2.toArray⟩)).setCell ⟨w.heap.size + 1 + 1, 2, none⟩ (.string ⟨a3.toArray⟩)) (some (w.heap.size + 1 + 1)) := gb_trans (gb_trans (gb_set _ (w.heap.size + 1 + 1) 0 _) (gb_set _ (w.heap.size + 1 + 1) 1 _)) (gb_set _ (w.heap.size + 1 + 1) 2 _)
 obtain ⟨WF, hWF⟩ : ∃ WF, WF = (((u2.setCell ⟨w.heap.size + 1 + 1, 0, none⟩ (.string ⟨a1.toArray⟩)).setCell ⟨w.heap.size + 1 + 1, 1, none⟩ (.string ⟨a2.toArray⟩)).setCell ⟨w.heap.size + 1 + 1, 2, none⟩ (.string ⟨a3.toArray⟩)) := ⟨_, rfl⟩
 have ur : WF.heap[w.heap.size + 1 + 1]? = some (.cells #[.string ⟨a1.toArray⟩, .string ⟨a2.toArray⟩, .string ⟨a3.toArray⟩] 25 (0, 0)) := by rw [hWF, s2]; simp
 have uB : Below w.heap.size w WF := by rw [hWF]; exact (HAL.out.trans (HB2.out.mono HAL.out.size)).grown gA (HAL.out.trans (HB2.out.mono HAL.out.size)).size (fun b hb => by cases hb; omega)
 have R0 := zh (show WF.cell? ⟨w.heap.size + 1 + 1, 0, none⟩ = some (.string ⟨a1.toArray⟩) from cell_of_row _ _ 0 _ _ _ ur)
 have R1 := zh (show WF.cell? ⟨w.heap.size + 1 + 1, 1, none⟩ = some (.string ⟨a2.toArray⟩) from cell_of_row _ _ 1 _ _ _ ur)
 have R2 := zh (show WF.cell? ⟨w.heap.size + 1 + 1, 2, none⟩ = some (.string ⟨a3.toArray⟩) from cell_of_row _ _ 2 _ _ _ ur)
 have UG := zh (show u2.grownBy WF (some (w.heap.size + 1 + 1)) from by rw [hWF]; exact gA)
 have HWF := zh hWF; have UB := zh uB
 clear rr s0 s1 s2 gA hWF ur uB
 have HS9 := zh (show (fun w' => w'.cell? ⟨w.heap.size, 0, none⟩ = some (.slice x.A1 x.cs.length x.c1) ∧ w'.cell? ⟨w.heap.size, 1, none⟩ = some (.slice x.A2 x.ns.length x.c2) ∧ w'.cell? ⟨w.heap.size, 2, none⟩ = some (.string ⟨x.ec.toArray⟩) ∧ w'.cell? ⟨w.heap.size, 3, none⟩ = some (.string ⟨x.en.toArray⟩) ∧ w'.cell? ⟨w.heap.size, 4, none⟩ = some (.string ⟨x.ed.toArray⟩) ∧ w'.cell? ⟨w.heap.size + 1, 0, none⟩ = some (.string ⟨cn.toArray⟩) ∧ w'.cell? ⟨w.heap.size + 1, 1, none⟩ = some (.string ⟨s.toArray⟩) ∧ w'.cell? ⟨w.heap.size + 1, 2, none⟩ = some (.string ⟨d.toArray⟩)) WF from by rw [HWF.out]; exact ⟨(by simp [World.cell?_setCell_other, (HS.out _ HB2.out).1]), (by simp [World.cell?_setCell_other, (HS.out _ HB2.out).2.1]), (by simp [World.cell?_setCell_other, (HS.out _ HB2.out).2.2.1]), (by simp [World.cell?_setCell_other, (HS.out _ HB2.out).2.2.2.1]), (by simp [World.cell?_setCell_other, (HS.out _ HB2.out).2.2.2.2.1]), (by simp [World.cell?_setCell_other, (HS.out _ HB2.out).2.2.2.2.2.1]), (by simp [World.cell?_setCell_other, (HS.out _ HB2.out).2.2.2.2.2.2.1]), (by simp [World.cell?_setCell_other, (HS.out _ HB2.out).2.2.2.2.2.2.2])⟩)
 refine rdy 12 rfl (fun K hK => ?_)
 go_simp
 rw [← HWF.out]
 refine hK.out _ _ HS9.out (fun hHeld => ?_)
 clear hK K
 try simp only [puts]
 have hS9 := HS9.out
 refine tkp 13 rfl ?_
 clear hS9
 refine wpAnyH_done (by kernel_rfl) ?_ _
 clear q0 q1 q2 qf0 qf1 qf2
 go_wp2
 refine bodyPost_ret (v := .tuple #[.agg #[.string ⟨a1.toArray⟩, .string ⟨a2.toArray⟩, .string ⟨a3.toArray⟩], .bool ok]) ?_ rfl ⟨by rw [HV.out], UB.out⟩
 simp [results, Try.results35, go_sem, R0.out, R1.out, R2.out]
theorem init_w (x : PrM) (cn : Tx) (w : World) (hk : PrOk w x) (hg : GrP x) : Calls Try.prog 38 #[.agg (prC x).toArray, .string ⟨cn.toArray⟩] w
  fun e w' => e = .returned (refV (declR (fun m => m.st) x.cs ([cn]) clinit [40, 41, 86]) clinit [40, 41, 86]) ∧ Below w.heap.size w w' := by
 obtain ⟨W, hW⟩ : ∃ W, W = (w.alloc (.cells (prC x).toArray 27)).alloc (.cells #[.string ⟨#[]⟩, .string ⟨#[]⟩, .string ⟨#[]⟩] 25) := ⟨_, rfl⟩
 have hal : Below w.heap.size w W := by rw [hW]; exact ((Below.refl _ w).alloc (Nat.le_refl _) _).alloc (by simp <;> omega) _
 have hb0 : W.heap[w.heap.size]? = some (.cells (prC x).toArray 27 (0, 0)) := by
  have := heap_alloc_new w (.cells (prC x).toArray 27)
  (try rw [World.size_alloc] at this)
  (try rw [World.size_alloc] at this)
  rw [hW]; exact (Below.heap_alloc _ _ _ (by simp <;> omega)).trans (this)
 have hb1 : W.heap[w.heap.size + 1]? = some (.cells #[.string ⟨#[]⟩, .string ⟨#[]⟩, .string ⟨#[]⟩] 25 (0, 0)) := by
  have := heap_alloc_new (w.alloc (.cells (prC x).toArray 27)) (.cells #[.string ⟨#[]⟩, .string ⟨#[]⟩, .string ⟨#[]⟩] 25)
  (try rw [World.size_alloc] at this)
  (try rw [World.size_alloc] at this)
  rw [hW]; exact this
 have HAL := zh hal; have HRB := zh hb1
 have HS := zh (show ∀ u : World, Below W.heap.size W u → (fun w' => w'.cell? ⟨w.heap.size, 0, none⟩ = some (.slice x.A1 x.cs.length x.c1) ∧ w'.cell? ⟨w.heap.size, 1, none⟩ = some (.slice x.A2 x.ns.length x.c2) ∧ w'.cell? ⟨w.heap.size, 2, none⟩ = some (.string ⟨x.ec.toArray⟩) ∧ w'.cell? ⟨w.heap.size, 3, none⟩ = some (.string ⟨x.en.toArray⟩) ∧ w'.cell? ⟨w.heap.size, 4, none⟩ = some (.string ⟨x.ed.toArray⟩)) u from fun u hu => pr_cells ((hu.block _ (blk_lt hb0)).trans hb0))
 have HSU := zh (fun u (hu : Below W.heap.size W u) => only_w cn u)
 have HDE := zh (fun u B A c (hu : Below w.heap.size w u) hc hr => declared_w 70 (fun m => m.st) (enters_of Try.func70 (by kernel_rfl) rfl) static_m x ([cn]) clinit [40, 41, 86] B A c u (hk.below hu) hg hc hr (by simp))
 unfold prC at hW HSU HDE ⊢
 try dsimp only at hW HSU HDE ⊢
 obtain ⟨a1, a2, a3, ok, hv⟩ := refV_form (declR (fun m => m.st) x.cs ([cn]) clinit [40, 41, 86]) clinit [40, 41, 86]
 have HV := zh hv
 rw [hv] at HDE
 have HW := zh hW
 clear hal hb0 hb1 hW hv
 go_enter Try.func38, Try.ntmps38
 go_wp2_with fail
 try simp only [World.size_alloc]
 rw [← HW.out]
 (try go_wp2_with fail)
 refine wp_region_held_drew (S := (fun w' => w'.cell? ⟨w.heap.size, 0, none⟩ = some (.slice x.A1 x.cs.length x.c1) ∧ w'.cell? ⟨w.heap.size, 1, none⟩ = some (.slice x.A2 x.ns.length x.c2) ∧ w'.cell? ⟨w.heap.size, 2, none⟩ = some (.string ⟨x.ec.toArray⟩) ∧ w'.cell? ⟨w.heap.size, 3, none⟩ = some (.string ⟨x.en.toArray⟩) ∧ w'.cell? ⟨w.heap.size, 4, none⟩ = some (.string ⟨x.ed.toArray⟩))) (by kernel_rfl) ?_ (fun hHeld => ?_)
 ·exact HS.out _ (by exact ⟨rfl, rfl, rfl, Nat.le_refl _, fun _ _ => rfl⟩)
 obtain ⟨u0, hWd⟩ : ∃ u, u = W.drew := ⟨_, rfl⟩
 have HB0 := zh (show Below W.heap.size W u0 from by rw [hWd]; exact ⟨rfl, rfl, rfl, Nat.le_refl _, fun _ _ => rfl⟩)
 rw [← hWd]
 have hS0 := HS.out _ HB0.out
 clear hWd
 refine tkp 0 rfl ?_
 refine tkp 1 rfl ?_
 clear hS0
 refine rdy 2 rfl (fun K hK => ?_)
 go_simp
 refine (HSU.out _ HB0.out).mono ?_
 rintro e u1 ⟨⟨B, A, c, rfl, hc, hr⟩, hb⟩
 have HL1 := zh (show Below u0.heap.size u0 u1 from ⟨hb.os, hb.tape, hb.output, hb.size, hb.block⟩)
 have HB1 := zh (show Below W.heap.size W u1 from HB0.out.trans (HL1.out.mono HB0.out.size))
 have HC1 := zh (show u1.cell? ⟨B, 0, none⟩ = some (.slice A ([cn]).length c) from hc)
 have HR1 := zh (show Rd u1 A (SX ([cn])) from hr)
 clear hc hr hb
 go_wp2_with fail
 refine hK.out _ _ (HS.out _ HB1.out) (fun hHeld => ?_)
 clear hK K
 try simp only [puts]
 refine rdy 3 rfl (fun K hK => ?_)
 go_simp
 refine (HDE.out _ B A c (HAL.out.trans (HB1.out.mono HAL.out.size)) HC1.out HR1.out).mono ?_
 rintro e u2 ⟨rfl, hb⟩
 have HL2 := zh (show Below u1.heap.size u1 u2 from ⟨hb.os, hb.tape, hb.output, hb.size, hb.block⟩)
 have HB2 := zh (show Below W.heap.size W u2 from HB1.out.trans (HL2.out.mono HB1.out.size))
 have HC2 := zh (show u2.cell? ⟨B, 0, none⟩ = some (.slice A ([cn]).length c) from (HL2.out.cell (World.block_lt_of_cell? _ _ HC1.out)).trans HC1.out)
 have HR2 := zh (show Rd u2 A (SX ([cn])) from HR1.out.below HL2.out)
 clear hb
 go_wp2_with fail
 refine hK.out _ _ (HS.out _ HB2.out) (fun hHeld => ?_)
 clear hK K
 try simp only [puts]
 have hS2 := HS.out _ HB2.out
 refine tkp 4 rfl ?_
 refine tkp 5 rfl ?_
 clear hS2
 have rr := (HB2.out.block _ (blk_lt HRB.out)).trans HRB.out
 have q0 : u2.cell? ⟨w.heap.size + 1, 0, none⟩ = some (.string ⟨#[]⟩) := cell_of_row _ _ 0 _ _ _ rr
 have qf0 := frozen_of_row _ _ 0 _ _ rr
 have q1 : u2.cell? ⟨w.heap.size + 1, 1, none⟩ = some (.string ⟨#[]⟩) := cell_of_row _ _ 1 _ _ _ rr
 have qf1 := frozen_of_row _ _ 1 _ _ rr
 have q2 : u2.cell? ⟨w.heap.size + 1, 2, none⟩ = some (.string ⟨#[]⟩) := cell_of_row _ _ 2 _ _ _ rr
 have qf2 := frozen_of_row _ _ 2 _ _ rr
 have s0 := heap_setCell_same _ (w.heap.size + 1) 0 _ _ (.string ⟨a1.toArray⟩) rr
 have s1 := heap_setCell_same _ (w.heap.size + 1) 1 _ _ (.string ⟨a2.toArray⟩) s0
 have s2 := heap_setCell_same _ (w.heap.size + 1) 2 _ _ (.string ⟨a3.toArray⟩) s1
 have gA : u2.grownBy (((u2.setCell ⟨w.heap.size + 1, 0, none⟩ (.string ⟨a1.toArray⟩)).setCell ⟨w.heap.size + 1, 1, none⟩ (.string ⟨a2.toArray⟩)).setCell ⟨w.heap.size + 1, 2, none⟩ (.string ⟨a3.toArray⟩)) (some (w.heap.size + 1)) := gb_trans (gb_trans (gb_set _ (w.heap.size + 1) 0 _) (gb_set _ (w.heap.size + 1) 1 _)) (gb_set _ (w.heap.size + 1) 2 _)
 obtain ⟨WF, hWF⟩ : ∃ WF, WF = (((u2.setCell ⟨w.heap.size + 1, 0, none⟩ (.string ⟨a1.toArray⟩)).setCell ⟨w.heap.size + 1, 1, none⟩ (.string ⟨a2.toArray⟩)).setCell ⟨w.heap.size + 1, 2, none⟩ (.string ⟨a3.toArray⟩)) := ⟨_, rfl⟩
 have ur : WF.heap[w.heap.size + 1]? = some (.cells #[.string ⟨a1.toArray⟩, .string ⟨a2.toArray⟩, .string ⟨a3.toArray⟩] 25 (0, 0)) := by rw [hWF, s2]; simp
 have uB : Below w.heap.size w WF := by rw [hWF]; exact (HAL.out.trans (HB2.out.mono HAL.out.size)).grown gA (HAL.out.trans (HB2.out.mono HAL.out.size)).size (fun b hb => by cases hb; omega)
 have R0 := zh (show WF.cell? ⟨w.heap.size + 1, 0, none⟩ = some (.string ⟨a1.toArray⟩) from cell_of_row _ _ 0 _ _ _ ur)
 have R1 := zh (show WF.cell? ⟨w.heap.size + 1, 1, none⟩ = some (.string ⟨a2.toArray⟩) from cell_of_row _ _ 1 _ _ _ ur)
 have R2 := zh (show WF.cell? ⟨w.heap.size + 1, 2, none⟩ = some (.string ⟨a3.toArray⟩) from cell_of_row _ _ 2 _ _ _ ur)
 have UG := zh (show u2.grownBy WF (some (w.heap.size + 1)) from by rw [hWF]; exact gA)
 have HWF := zh hWF; have UB := zh uB
 clear rr s0 s1 s2 gA hWF ur uB
 have HS9 := zh (show (fun w' => w'.cell? ⟨w.heap.size, 0, none⟩ = some (.slice x.A1 x.cs.length x.c1) ∧ w'.cell? ⟨w.heap.size, 1, none⟩ = some (.slice x.A2 x.ns.length x.c2) ∧ w'.cell? ⟨w.heap.size, 2, none⟩ = some (.string ⟨x.ec.toArray⟩) ∧ w'.cell? ⟨w.heap.size, 3, none⟩ = some (.string ⟨x.en.toArray⟩) ∧ w'.cell? ⟨w.heap.size, 4, none⟩ = some (.string ⟨x.ed.toArray⟩)) WF from by rw [HWF.out]; exact ⟨(by simp [World.cell?_setCell_other, (HS.out _ HB2.out).1]), (by simp [World.cell?_setCell_other, (HS.out _ HB2.out).2.1]), (by simp [World.cell?_setCell_other, (HS.out _ HB2.out).2.2.1]), (by simp [World.cell?_setCell_other, (HS.out _ HB2.out).2.2.2.1]), (by simp [World.cell?_setCell_other, (HS.out _ HB2.out).2.2.2.2])⟩)
 refine rdy 6 rfl (fun K hK => ?_)
 go_simp
 rw [← HWF.out]
 refine hK.out _ _ HS9.out (fun hHeld => ?_)
 clear hK K
 try simp only [puts]
 have hS9 := HS9.out
 refine tkp 7 rfl ?_
 clear hS9
 refine wpAnyH_done (by kernel_rfl) ?_ _
 clear q0 q1 q2 qf0 qf1 qf2
 go_wp2
 refine bodyPost_ret (v := .tuple #[.agg #[.string ⟨a1.toArray⟩, .string ⟨a2.toArray⟩, .string ⟨a3.toArray⟩], .bool ok]) ?_ rfl ⟨by rw [HV.out], UB.out⟩
 simp [results, Try.results38, go_sem, R0.out, R1.out, R2.out]
end Go.Proofs.Ytdifmgeicnndfaa.find

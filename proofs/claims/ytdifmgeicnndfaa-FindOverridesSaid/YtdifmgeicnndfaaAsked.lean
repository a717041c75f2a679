/- Asked -/
import Derived.Test.YtdifmgeicnndfaaFindS
namespace Go.Proofs.Ytdifmgeicnndfaa.askd
open Go.RowKit
open words kindp opp op kind word prg sorts find
set_option maxRecDepth 100000
set_option maxHeartbeats 16000000
set_option linter.all false
theorem overD {b : Nat} {a c : World} (h : Below b a c) : Below b a c.drew := ⟨h.os, h.tape, h.output, h.size, h.block⟩
theorem size_mex : (Try.prog.info? 37).map (·.size) = some 6 := by kernel_rfl
theorem one_mex (x : MeM) : ∀ v ∈ meC x, v.oneCell' = true := by
 intro v hv
 simp only [meC, List.mem_cons, List.not_mem_nil, or_false] at hv
 rcases hv with rfl | rfl | rfl | rfl | rfl | rfl <;> rfl
theorem there_new6 {u : World} {b : Nat} {T : TypeId} (h : u.heap[b]? = some (.cells #[.string ⟨#[]⟩, .string ⟨#[]⟩, .bool false, .bool false, .int .i64 0, .slice none 0 0] T (0, 0))) : u.there b 0 6 := fun j hj => by
 rw [Nat.zero_add]
 refine ⟨?_, frozen_of_row _ _ j _ _ h⟩
 match j, hj with
 | 0, _ => rw [show u.cell? ⟨b, 0, none⟩ = some (.string ⟨#[]⟩) from cell_of_row _ _ 0 _ _ _ h]; rfl
 | 1, _ => rw [show u.cell? ⟨b, 1, none⟩ = some (.string ⟨#[]⟩) from cell_of_row _ _ 1 _ _ _ h]; rfl
 | 2, _ => rw [show u.cell? ⟨b, 2, none⟩ = some (.bool false) from cell_of_row _ _ 2 _ _ _ h]; rfl
 | 3, _ => rw [show u.cell? ⟨b, 3, none⟩ = some (.bool false) from cell_of_row _ _ 3 _ _ _ h]; rfl
 | 4, _ => rw [show u.cell? ⟨b, 4, none⟩ = some (.int .i64 0) from cell_of_row _ _ 4 _ _ _ h]; rfl
 | 5, _ => rw [show u.cell? ⟨b, 5, none⟩ = some (.slice none 0 0) from cell_of_row _ _ 5 _ _ _ h]; rfl
theorem sets_new6 {u : World} {b : Nat} {T : TypeId} {cs : List Value} (hl : cs.length = 6) (h : u.heap[b]? = some (.cells #[.string ⟨#[]⟩, .string ⟨#[]⟩, .bool false, .bool false, .int .i64 0, .slice none 0 0] T (0, 0))) : (u.setCells b 0 cs).heap[b]? = some (.cells cs.toArray T (0, 0)) := by
 obtain ⟨a0, a1, a2, a3, a4, a5, rfl⟩ : ∃ a0 a1 a2 a3 a4 a5, cs = [a0, a1, a2, a3, a4, a5] := by
  match cs, hl with
  | [a0, a1, a2, a3, a4, a5], _ => exact ⟨a0, a1, a2, a3, a4, a5, rfl⟩
 have s0 := heap_setCell_same _ b 0 _ _ a0 h
 have s1 := heap_setCell_same _ b 1 _ _ a1 s0
 have s2 := heap_setCell_same _ b 2 _ _ a2 s1
 have s3 := heap_setCell_same _ b 3 _ _ a3 s2
 have s4 := heap_setCell_same _ b 4 _ _ a4 s3
 have s5 := heap_setCell_same _ b 5 _ _ a5 s4
 show (((((((u.setCell ⟨b, 0, none⟩ a0).setCell ⟨b, 1, none⟩ a1).setCell ⟨b, 2, none⟩ a2).setCell ⟨b, 3, none⟩ a3).setCell ⟨b, 4, none⟩ a4).setCell ⟨b, 5, none⟩ a5).heap[b]?) = _
 rw [s5]; simp
theorem there_new3 {u : World} {b : Nat} {T : TypeId} (h : u.heap[b]? = some (.cells #[.string ⟨#[]⟩, .string ⟨#[]⟩, .string ⟨#[]⟩] T (0, 0))) : u.there b 0 3 := fun j hj => by
 rw [Nat.zero_add]
 refine ⟨?_, frozen_of_row _ _ j _ _ h⟩
 match j, hj with
 | 0, _ => rw [show u.cell? ⟨b, 0, none⟩ = some (.string ⟨#[]⟩) from cell_of_row _ _ 0 _ _ _ h]; rfl
 | 1, _ => rw [show u.cell? ⟨b, 1, none⟩ = some (.string ⟨#[]⟩) from cell_of_row _ _ 1 _ _ _ h]; rfl
 | 2, _ => rw [show u.cell? ⟨b, 2, none⟩ = some (.string ⟨#[]⟩) from cell_of_row _ _ 2 _ _ _ h]; rfl
theorem sets_new3 {u : World} {b : Nat} {T : TypeId} {cs : List Value} (hl : cs.length = 3) (h : u.heap[b]? = some (.cells #[.string ⟨#[]⟩, .string ⟨#[]⟩, .string ⟨#[]⟩] T (0, 0))) : (u.setCells b 0 cs).heap[b]? = some (.cells cs.toArray T (0, 0)) := by
 obtain ⟨a0, a1, a2, rfl⟩ : ∃ a0 a1 a2, cs = [a0, a1, a2] := by
  match cs, hl with
  | [a0, a1, a2], _ => exact ⟨a0, a1, a2, rfl⟩
 have s0 := heap_setCell_same _ b 0 _ _ a0 h
 have s1 := heap_setCell_same _ b 1 _ _ a1 s0
 have s2 := heap_setCell_same _ b 2 _ _ a2 s1
 show ((((u.setCell ⟨b, 0, none⟩ a0).setCell ⟨b, 1, none⟩ a1).setCell ⟨b, 2, none⟩ a2).heap[b]?) = _
 rw [s2]; simp
theorem size_mre : (Try.prog.info? 25).map (·.size) = some 3 := by kernel_rfl
theorem one_mre (s : Tx) : ∀ v ∈ [Value.string ⟨s.toArray⟩, .string ⟨#[]⟩, .string ⟨#[]⟩], v.oneCell' = true := by
 intro v hv
 simp only [List.mem_cons, List.not_mem_nil, or_false] at hv
 rcases hv with rfl | rfl | rfl <;> rfl
def AskP (w : World) (e : Ending) (w' : World) : Prop := (∃ c s d : Tx, e = .returned (.agg #[.string ⟨c.toArray⟩, .string ⟨s.toArray⟩, .string ⟨d.toArray⟩])) ∧ Below w.heap.size w w'
theorem asked_w (x : PrM) (a0 b0 c0 : Nat) (w : World) (hk : PrOk w x) (hg : GrP x) (he : a0 < 256 ∧ b0 < 256 ∧ c0 < 256) : Calls Try.prog 10 #[.agg (prC x).toArray, .int .u8 (a0 : Int), .int .u8 (b0 : Int), .int .u8 (c0 : Int)] w (AskP w) := by
 obtain ⟨cs, xA1, xc1, xns, xA2, xc2, xec, xen, xed⟩ := x
 obtain ⟨n, hn⟩ : ∃ n, n = cs.length := ⟨_, rfl⟩
 obtain ⟨W, hW⟩ : ∃ W, W = (w.alloc (.cells (prC ⟨cs, xA1, xc1, xns, xA2, xc2, xec, xen, xed⟩).toArray 27)).alloc (.cells #[.string ⟨#[]⟩, .string ⟨#[]⟩, .string ⟨#[]⟩] 25) := ⟨_, rfl⟩
 have hal : Below w.heap.size w W := by rw [hW]; exact ((Below.refl _ w).alloc (Nat.le_refl _) _).alloc (by simp) _
 have hbi : W.heap[w.heap.size]? = some (.cells (prC ⟨cs, xA1, xc1, xns, xA2, xc2, xec, xen, xed⟩).toArray 27 (0, 0)) := by rw [hW]; exact (Below.heap_alloc _ _ _ (by simp)).trans (heap_alloc_new w _)
 have hbj : W.heap[w.heap.size + 1]? = some (.cells #[.string ⟨#[]⟩, .string ⟨#[]⟩, .string ⟨#[]⟩] 25 (0, 0)) := by
  have := heap_alloc_new (w.alloc (.cells (prC ⟨cs, xA1, xc1, xns, xA2, xc2, xec, xen, xed⟩).toArray 27)) (.cells #[.string ⟨#[]⟩, .string ⟨#[]⟩, .string ⟨#[]⟩] 25)
  rw [World.size_alloc] at this
  rw [hW]; exact this
 have hsz : w.heap.size + 2 = W.heap.size := by rw [hW]; simp
 have HSZ := zh hsz
 have HAL := zh hal
 have HRB := zh hbj
 have HCE := zh (show ∀ v : World, Below W.heap.size W v → (v.cell? ⟨w.heap.size, 0, none⟩ = some (.slice xA1 n xc1) ∧ v.cell? ⟨w.heap.size, 1, none⟩ = some (.slice xA2 xns.length xc2) ∧ v.cell? ⟨w.heap.size, 2, none⟩ = some (.string ⟨xec.toArray⟩) ∧ v.cell? ⟨w.heap.size, 3, none⟩ = some (.string ⟨xen.toArray⟩) ∧ v.cell? ⟨w.heap.size, 4, none⟩ = some (.string ⟨xed.toArray⟩)) from fun v hv => by
  rw [hn]
  exact pr_cells ((hv.block _ (blk_lt hbi)).trans hbi))
 have HKX := zh (fun v (hv : Below W.heap.size W v) => (hk.below hal).below hv)
 have HE := zh he
 have HN := zh hn
 have HGP := zh hg
 have hn70 : n ≤ 70 := by rw [hn]; exact hg.1.1
 unfold prC at hW ⊢
 try dsimp only at hW ⊢
 rw [← hn] at hW ⊢
 have HW := zh hW
 clear hal hbi hbj hW hk hn he hg hsz
 go_enter Try.func10, Try.ntmps10
 obtain ⟨x0, x1, x2, x3, x4⟩ := HCE.out W (Below.refl _ _)
 by_cases hn0 : n = 0
 ·have g0 : ((n : Int) == 0) = true := by rw [hn0]; rfl
  clear x0 x1 x2 x3 x4
  go_wp2
  refine bodyPost_ret (v := .agg #[.string ⟨#[65]⟩, .string ⟨#[109]⟩, .string ⟨#[40, 41, 86]⟩]) ?_ rfl ⟨⟨[65], [109], [40, 41, 86], rfl⟩, ?_⟩
  ·simp [results, Try.results10, go_sem]
  ·exact ((Below.refl _ w).alloc (Nat.le_refl _) _).alloc (by simp) _
 have g0 : ((n : Int) == 0) = false := by rw [beq_eq_false_iff_ne]; omega
 obtain ⟨ha9, hb9, hc9⟩ := HE.out
 have hn0I : ¬ (n : Int) = 0 := by omega
 have hma : (a0 : Int).tmod (n : Int) = ((a0 % n : Nat) : Int) := rfl
 have hmb : (b0 : Int).tmod (n : Int) = ((b0 % n : Nat) : Int) := rfl
 have hwa : IntKind.i64.wrap (a0 : Int) = (a0 : Int) := IntWalk.i64_in _ (by omega)
 have hwb : IntKind.i64.wrap (b0 : Int) = (b0 : Int) := IntWalk.i64_in _ (by omega)
 have hwma : IntKind.i64.wrap ((a0 % n : Nat) : Int) = ((a0 % n : Nat) : Int) := IntWalk.i64_in _ (by have := Nat.mod_lt a0 (show 0 < n by omega); omega)
 have hwmb : IntKind.i64.wrap ((b0 % n : Nat) : Int) = ((b0 % n : Nat) : Int) := IntWalk.i64_in _ (by have := Nat.mod_lt b0 (show 0 < n by omega); omega)
 obtain ⟨k, hkk⟩ : ∃ k, k = a0 % n := ⟨_, rfl⟩
 obtain ⟨j, hjj⟩ : ∃ j, j = b0 % n := ⟨_, rfl⟩
 have hkn : k < n := by rw [hkk]; exact Nat.mod_lt _ (by omega)
 have hjn : j < n := by rw [hjj]; exact Nat.mod_lt _ (by omega)
 rw [← hkk] at hma hwma
 have hea : (a0 : Int) % (n : Int) = (k : Int) := by rw [hkk]; rfl
 have heb : (b0 : Int) % (n : Int) = (j : Int) := by rw [hjj]; rfl
 rw [← hjj] at hmb hwmb
 obtain ⟨y, hy⟩ : ∃ y, cs[k]? = some y := ⟨cs[k]'(by rw [← HN.out]; exact hkn), List.getElem?_eq_getElem _⟩
 obtain ⟨⟨znm, zsu, zfc, zab, zis, zA1, zc1, zfs, zA2, zc2, zms, zA3, zc3⟩, hz⟩ : ∃ z, cs[j]? = some z := ⟨cs[j]'(by rw [← HN.out]; exact hjn), List.getElem?_eq_getElem _⟩
 have hknI : (k : Int) < (n : Int) := by omega
 have hjnI : (j : Int) < (n : Int) := by omega
 have hk0I : (0 : Int) ≤ (k : Int) := by omega
 have hj0I : (0 : Int) ≤ (j : Int) := by omega
 have hrd := (HKX.out _ (Below.refl _ _)).1.2
 dsimp only at hrd
 obtain ⟨a, rfl, -, p0, p1, p2, p3, p4, p5, p6⟩ := cl_at hrd hy
 have HZM := zh (List.mem_of_getElem? hz)
 have HS3 := zh (show ∀ u : World, Below W.heap.size W u → (fun w' => w'.cell? ⟨w.heap.size, 0, none⟩ = some (.slice (some a) n xc1) ∧ w'.cell? (a.add (k * 7)) = some (.string ⟨y.nm.toArray⟩) ∧ w'.cell? ⟨(a.add (k * 7)).block, (a.add (k * 7)).off + 1, none⟩ = some (.string ⟨y.su.toArray⟩) ∧ w'.cell? ⟨(a.add (k * 7)).block, (a.add (k * 7)).off + 2, none⟩ = some (.bool y.fc) ∧ w'.cell? ⟨(a.add (k * 7)).block, (a.add (k * 7)).off + 3, none⟩ = some (.bool y.ab) ∧ w'.cell? ⟨(a.add (k * 7)).block, (a.add (k * 7)).off + 4, none⟩ = some (.slice y.A1 y.is.length y.c1) ∧ w'.cell? ⟨(a.add (k * 7)).block, (a.add (k * 7)).off + 5, none⟩ = some (.slice y.A2 y.fs.length y.c2) ∧ w'.cell? ⟨(a.add (k * 7)).block, (a.add (k * 7)).off + 6, none⟩ = some (.slice y.A3 y.ms.length y.c3)) u from fun u hu => by
  obtain ⟨x0, -⟩ := HCE.out u hu
  obtain ⟨a', ea', -, q0, q1, q2, q3, q4, q5, q6⟩ := cl_at (HKX.out u hu).1.2 hy
  cases ea'
  exact ⟨x0, q0, q1, q2, q3, q4, q5, q6⟩)
 have HS4 := zh (show ∀ u : World, Below W.heap.size W u → (fun w' => w'.cell? ⟨w.heap.size, 0, none⟩ = some (.slice (some a) n xc1) ∧ w'.cell? (a.add (j * 7)) = some (.string ⟨znm.toArray⟩) ∧ w'.cell? ⟨(a.add (j * 7)).block, (a.add (j * 7)).off + 1, none⟩ = some (.string ⟨zsu.toArray⟩) ∧ w'.cell? ⟨(a.add (j * 7)).block, (a.add (j * 7)).off + 2, none⟩ = some (.bool zfc) ∧ w'.cell? ⟨(a.add (j * 7)).block, (a.add (j * 7)).off + 3, none⟩ = some (.bool zab) ∧ w'.cell? ⟨(a.add (j * 7)).block, (a.add (j * 7)).off + 4, none⟩ = some (.slice zA1 zis.length zc1) ∧ w'.cell? ⟨(a.add (j * 7)).block, (a.add (j * 7)).off + 5, none⟩ = some (.slice zA2 zfs.length zc2) ∧ w'.cell? ⟨(a.add (j * 7)).block, (a.add (j * 7)).off + 6, none⟩ = some (.slice zA3 zms.length zc3)) u from fun u hu => by
  obtain ⟨x0, -⟩ := HCE.out u hu
  obtain ⟨a', ea', -, q0, q1, q2, q3, q4, q5, q6⟩ := cl_at (HKX.out u hu).1.2 hz
  cases ea'
  exact ⟨x0, q0, q1, q2, q3, q4, q5, q6⟩)
 clear hkk hjj ha9 hb9 p0 p1 p2 p3 p4 p5 p6 hrd
 rw [HW.out] at x0 x1 x2 x3 x4
 go_wp2_with fail
 try simp only [World.size_alloc]
 rw [← HW.out]
 (try go_wp2_with fail)
 refine wp_region_held_drew (S := (fun w' => w'.cell? ⟨w.heap.size, 0, none⟩ = some (.slice (some a) n xc1) ∧ w'.cell? (a.add (k * 7)) = some (.string ⟨y.nm.toArray⟩) ∧ w'.cell? ⟨(a.add (k * 7)).block, (a.add (k * 7)).off + 1, none⟩ = some (.string ⟨y.su.toArray⟩) ∧ w'.cell? ⟨(a.add (k * 7)).block, (a.add (k * 7)).off + 2, none⟩ = some (.bool y.fc) ∧ w'.cell? ⟨(a.add (k * 7)).block, (a.add (k * 7)).off + 3, none⟩ = some (.bool y.ab) ∧ w'.cell? ⟨(a.add (k * 7)).block, (a.add (k * 7)).off + 4, none⟩ = some (.slice y.A1 y.is.length y.c1) ∧ w'.cell? ⟨(a.add (k * 7)).block, (a.add (k * 7)).off + 5, none⟩ = some (.slice y.A2 y.fs.length y.c2) ∧ w'.cell? ⟨(a.add (k * 7)).block, (a.add (k * 7)).off + 6, none⟩ = some (.slice y.A3 y.ms.length y.c3))) (by kernel_rfl) ?_ (fun hHeld => ?_)
 ·exact HS3.out _ (overD (Below.refl _ _))
 clear x0 x1 x2 x3 x4
 obtain ⟨u0, hu0⟩ : ∃ u, u = W.drew := ⟨_, rfl⟩
 have HB0 := zh (show Below W.heap.size W u0 from by rw [hu0]; exact overD (Below.refl W.heap.size W))
 rw [← hu0]
 have HU0 := zh (show Below W.heap.size W u0 from by rw [hu0]; exact overD (Below.refl _ _))
 have hS0 := HS3.out _ HB0.out
 clear hu0
 refine tkp 0 rfl ?_
 refine tkp 1 rfl ?_
 refine tkp 2 rfl ?_
 refine tkp 3 rfl ?_
 refine tkp 4 rfl ?_
 refine tkp 5 rfl ?_
 refine tkp 6 rfl ?_
 refine tkp 7 rfl ?_
 refine tkp 8 rfl ?_
 refine tkp 9 rfl ?_
 refine tkp 10 rfl ?_
 refine tkp 11 rfl ?_
 clear hS0
 refine rdy 12 rfl (fun K hK => ?_)
 go_simp
 obtain ⟨u1, hn1⟩ : ∃ v, v = u0.alloc (.cells #[.string ⟨#[]⟩, .string ⟨#[]⟩, .string ⟨#[]⟩] 25) := ⟨_, rfl⟩
 have hz1 : u1.heap[u0.heap.size]? = some (.cells #[.string ⟨#[]⟩, .string ⟨#[]⟩, .string ⟨#[]⟩] 25 (0, 0)) := by rw [hn1]; exact heap_alloc_new _ _
 have hb1 : Below W.heap.size W u1 := by rw [hn1]; exact HB0.out.alloc HB0.out.size _
 have hl1 : Below W.heap.size W u1 := by rw [hn1]; exact HU0.out.alloc HU0.out.size _
 rw [← hn1]
 clear hn1
 refine hK.out _ _ (HS3.out _ hb1) (fun hHeld => ?_)
 clear hK K
 try simp only [puts]
 have hge := HB0.out.size
 have hgu := HU0.out.size
 obtain ⟨bm, hbz⟩ : ∃ b, b = u0.heap.size := ⟨_, rfl⟩
 rw [← hbz] at hz1 hge hgu ⊢
 have hgr := sets_grown u1 bm 0 ([.string ⟨y.nm.toArray⟩, .string ⟨#[]⟩, .string ⟨#[]⟩])
 obtain ⟨uF3, huF⟩ : ∃ v, v = u1.setCells bm 0 ([.string ⟨y.nm.toArray⟩, .string ⟨#[]⟩, .string ⟨#[]⟩]) := ⟨_, rfl⟩
 have hBF : Below W.heap.size W uF3 := by rw [huF]; exact hb1.grown hgr hb1.size (fun k hk => by cases hk; exact hge)
 have HLF3 := zh (show Below W.heap.size W uF3 from by rw [huF]; exact hl1.grown hgr hl1.size (fun k hk => by cases hk; exact hgu))
 have HU3 := zh (show uF3.heap[bm]? = some (.cells ([.string ⟨y.nm.toArray⟩, .string ⟨#[]⟩, .string ⟨#[]⟩]).toArray 25 (0, 0)) from by rw [huF]; exact sets_new3 rfl hz1)
 have HBF3 := zh hBF; have HUF := zh huF
 have HGZ3 := zh hge; have HGU3 := zh hgu
 refine tst 13 bm 0 ([.string ⟨y.nm.toArray⟩, .string ⟨#[]⟩, .string ⟨#[]⟩]) rfl rfl rfl rfl (there_new3 hz1) size_mre (one_mre _) (by rw [← huF]; exact HS3.out _ hBF) (fun _ => ?_)
 clear hz1 hge hgu hb1 hl1 hgr hBF huF hbz HU0
 rw [← HUF.out]
 try simp only [puts]
 refine wpAnyH_done (by kernel_rfl) ?_ _
 clear HUF HB0
 go_wp2_with fail
 refine wp_region_held_drew (S := (fun w' => w'.cell? ⟨w.heap.size, 0, none⟩ = some (.slice (some a) n xc1) ∧ w'.cell? (a.add (j * 7)) = some (.string ⟨znm.toArray⟩) ∧ w'.cell? ⟨(a.add (j * 7)).block, (a.add (j * 7)).off + 1, none⟩ = some (.string ⟨zsu.toArray⟩) ∧ w'.cell? ⟨(a.add (j * 7)).block, (a.add (j * 7)).off + 2, none⟩ = some (.bool zfc) ∧ w'.cell? ⟨(a.add (j * 7)).block, (a.add (j * 7)).off + 3, none⟩ = some (.bool zab) ∧ w'.cell? ⟨(a.add (j * 7)).block, (a.add (j * 7)).off + 4, none⟩ = some (.slice zA1 zis.length zc1) ∧ w'.cell? ⟨(a.add (j * 7)).block, (a.add (j * 7)).off + 5, none⟩ = some (.slice zA2 zfs.length zc2) ∧ w'.cell? ⟨(a.add (j * 7)).block, (a.add (j * 7)).off + 6, none⟩ = some (.slice zA3 zms.length zc3))) (by kernel_rfl) ?_ (fun hHeld => ?_)
 ·exact HS4.out _ (overD HBF3.out)
 obtain ⟨u0, hu0⟩ : ∃ u, u = uF3.drew := ⟨_, rfl⟩
 have HB0 := zh (show Below W.heap.size W u0 from by rw [hu0]; exact overD HBF3.out)
 rw [← hu0]
 have HU0 := zh (show Below uF3.heap.size uF3 u0 from by rw [hu0]; exact overD (Below.refl _ _))
 have hS0 := HS4.out _ HB0.out
 clear hu0
 refine tkp 0 rfl ?_
 refine tkp 1 rfl ?_
 refine tkp 2 rfl ?_
 refine tkp 3 rfl ?_
 refine tkp 4 rfl ?_
 refine tkp 5 rfl ?_
 refine tkp 6 rfl ?_
 refine tkp 7 rfl ?_
 refine tkp 8 rfl ?_
 refine tkp 9 rfl ?_
 clear hS0
 refine rdy 10 rfl (fun K hK => ?_)
 go_simp
 obtain ⟨u1, hn1⟩ : ∃ v, v = u0.alloc (.cells #[.string ⟨#[]⟩, .string ⟨#[]⟩, .bool false, .bool false, .slice none 0 0, .slice none 0 0, .slice none 0 0] 43) := ⟨_, rfl⟩
 have hz1 : u1.heap[u0.heap.size]? = some (.cells #[.string ⟨#[]⟩, .string ⟨#[]⟩, .bool false, .bool false, .slice none 0 0, .slice none 0 0, .slice none 0 0] 43 (0, 0)) := by rw [hn1]; exact heap_alloc_new _ _
 have hb1 : Below W.heap.size W u1 := by rw [hn1]; exact HB0.out.alloc HB0.out.size _
 have hl1 : Below uF3.heap.size uF3 u1 := by rw [hn1]; exact HU0.out.alloc HU0.out.size _
 rw [← hn1]
 clear hn1
 refine hK.out _ _ (HS4.out _ hb1) (fun hHeld => ?_)
 clear hK K
 try simp only [puts]
 have hge := HB0.out.size
 have hgu := HU0.out.size
 obtain ⟨bz, hbz⟩ : ∃ b, b = u0.heap.size := ⟨_, rfl⟩
 rw [← hbz] at hz1 hge hgu ⊢
 have hgr := sets_grown u1 bz 0 (clC ⟨znm, zsu, zfc, zab, zis, zA1, zc1, zfs, zA2, zc2, zms, zA3, zc3⟩)
 obtain ⟨uF4, huF⟩ : ∃ v, v = u1.setCells bz 0 (clC ⟨znm, zsu, zfc, zab, zis, zA1, zc1, zfs, zA2, zc2, zms, zA3, zc3⟩) := ⟨_, rfl⟩
 have hBF : Below W.heap.size W uF4 := by rw [huF]; exact hb1.grown hgr hb1.size (fun k hk => by cases hk; exact hge)
 have HLF4 := zh (show Below uF3.heap.size uF3 uF4 from by rw [huF]; exact hl1.grown hgr hl1.size (fun k hk => by cases hk; exact hgu))
 have HU4 := zh (show uF4.heap[bz]? = some (.cells (clC ⟨znm, zsu, zfc, zab, zis, zA1, zc1, zfs, zA2, zc2, zms, zA3, zc3⟩).toArray 43 (0, 0)) from by rw [huF]; exact sets_new rfl hz1)
 have HBF4 := zh hBF; have HUF := zh huF
 have HGZ4 := zh hge; have HGU4 := zh hgu
 refine tst 11 bz 0 (clC ⟨znm, zsu, zfc, zab, zis, zA1, zc1, zfs, zA2, zc2, zms, zA3, zc3⟩) rfl rfl rfl rfl (there_new hz1) size_clx (one_clx _) (by rw [← huF]; exact HS4.out _ hBF) (fun _ => ?_)
 clear hz1 hge hgu hb1 hl1 hgr hBF huF hbz HU0
 rw [← HUF.out]
 try simp only [puts]
 refine wpAnyH_done (by kernel_rfl) ?_ _
 clear HUF HB0
 obtain ⟨q, hq⟩ : ∃ q, q = zms.length := ⟨_, rfl⟩
 have e6 : uF4.cell? ⟨bz, 6, none⟩ = some (.slice zA3 q zc3) := by rw [hq]; exact cell_of_row _ _ 6 _ _ _ HU4.out
 have hq40 : (q : Int) ≤ 40 := by have := (HGP.out.2 _ HZM.out).1.2.2.1; dsimp only at this; omega
 have HQ := zh hq
 have hR4 := (HLF4.out.block _ (blk_lt HU3.out)).trans HU3.out
 have HR4 := zh hR4
 clear hq hR4
 by_cases hq0 : q = 0
 ·have g1 : decide ((0 : Int) < (q : Int)) = false := by rw [hq0]; rfl
  have g1n : decide (0 < q) = false := by rw [hq0]; rfl
  have t0 : uF4.cell? ⟨bm, 0, none⟩ = some (.string ⟨y.nm.toArray⟩) := cell_of_row _ _ 0 _ _ _ HR4.out
  have t1 : uF4.cell? ⟨bm, 1, none⟩ = some (.string ⟨#[]⟩) := cell_of_row _ _ 1 _ _ _ HR4.out
  have t2 : uF4.cell? ⟨bm, 2, none⟩ = some (.string ⟨#[]⟩) := cell_of_row _ _ 2 _ _ _ HR4.out
  have rr := (HBF4.out.block _ (blk_lt HRB.out)).trans HRB.out
  have q0 : uF4.cell? ⟨w.heap.size + 1, 0, none⟩ = some (.string ⟨#[]⟩) := cell_of_row _ _ 0 _ _ _ rr
  have qf0 := frozen_of_row _ _ 0 _ _ rr
  have q1 : uF4.cell? ⟨w.heap.size + 1, 1, none⟩ = some (.string ⟨#[]⟩) := cell_of_row _ _ 1 _ _ _ rr
  have qf1 := frozen_of_row _ _ 1 _ _ rr
  have q2 : uF4.cell? ⟨w.heap.size + 1, 2, none⟩ = some (.string ⟨#[]⟩) := cell_of_row _ _ 2 _ _ _ rr
  have qf2 := frozen_of_row _ _ 2 _ _ rr
  obtain ⟨WF, hWF⟩ : ∃ WF, WF = (((uF4.setCell ⟨w.heap.size + 1, 0, none⟩ (.string ⟨y.nm.toArray⟩)).setCell ⟨w.heap.size + 1, 1, none⟩ (.string ⟨#[]⟩)).setCell ⟨w.heap.size + 1, 2, none⟩ (.string ⟨#[]⟩)) := ⟨_, rfl⟩
  have uB : Below w.heap.size w WF := by rw [hWF]; exact (Below.grown (Below.grown (Below.grown (HAL.out.trans (HBF4.out.mono HAL.out.size)) (gb_set _ (w.heap.size + 1) 0 _) (Below.size (HAL.out.trans (HBF4.out.mono HAL.out.size))) (fun k hk => by cases hk; omega)) (gb_set _ (w.heap.size + 1) 1 _) (Below.size (Below.grown (HAL.out.trans (HBF4.out.mono HAL.out.size)) (gb_set _ (w.heap.size + 1) 0 _) (Below.size (HAL.out.trans (HBF4.out.mono HAL.out.size))) (fun k hk => by cases hk; omega))) (fun k hk => by cases hk; omega)) (gb_set _ (w.heap.size + 1) 2 _) (Below.size (Below.grown (Below.grown (HAL.out.trans (HBF4.out.mono HAL.out.size)) (gb_set _ (w.heap.size + 1) 0 _) (Below.size (HAL.out.trans (HBF4.out.mono HAL.out.size))) (fun k hk => by cases hk; omega)) (gb_set _ (w.heap.size + 1) 1 _) (Below.size (Below.grown (HAL.out.trans (HBF4.out.mono HAL.out.size)) (gb_set _ (w.heap.size + 1) 0 _) (Below.size (HAL.out.trans (HBF4.out.mono HAL.out.size))) (fun k hk => by cases hk; omega))) (fun k hk => by cases hk; omega))) (fun k hk => by cases hk; omega))
  have ur : ∃ (cs : Array Value), WF.heap[w.heap.size + 1]? = some (.cells cs 25 (0, 0)) ∧ cs = #[.string ⟨y.nm.toArray⟩, .string ⟨#[]⟩, .string ⟨#[]⟩] := by
   have s0 := heap_setCell_same _ (w.heap.size + 1) 0 _ _ (.string ⟨y.nm.toArray⟩) (rr)
   have s1 := heap_setCell_same _ (w.heap.size + 1) 1 _ _ (.string ⟨#[]⟩) s0
   have s2 := heap_setCell_same _ (w.heap.size + 1) 2 _ _ (.string ⟨#[]⟩) s1
   exact ⟨_, by rw [hWF]; exact s2, by simp⟩
  obtain ⟨cs9, ur, rfl⟩ := ur
  have R0 := zh (show WF.cell? ⟨w.heap.size + 1, 0, none⟩ = some (.string ⟨y.nm.toArray⟩) from cell_of_row _ _ 0 _ _ _ ur)
  have R1 := zh (show WF.cell? ⟨w.heap.size + 1, 1, none⟩ = some (.string ⟨#[]⟩) from cell_of_row _ _ 1 _ _ _ ur)
  have R2 := zh (show WF.cell? ⟨w.heap.size + 1, 2, none⟩ = some (.string ⟨#[]⟩) from cell_of_row _ _ 2 _ _ _ ur)
  have HWF := zh hWF; have UB := zh uB
  clear rr hWF ur uB
  go_wp2
  rw [← HWF.out]
  refine bodyPost_ret (v := .agg #[.string ⟨y.nm.toArray⟩, .string ⟨#[]⟩, .string ⟨#[]⟩]) ?_ rfl ⟨⟨y.nm, [], [], rfl⟩, UB.out⟩
  simp [results, Try.results10, go_sem, R0.out, R1.out, R2.out]
 ·have g1 : decide ((0 : Int) < (q : Int)) = true := by rw [decide_eq_true_eq]; omega
  have g1n : decide (0 < q) = true := by rw [decide_eq_true_eq]; omega
  have hq0I : ¬ (q : Int) = 0 := by omega
  have hwc : IntKind.i64.wrap (c0 : Int) = (c0 : Int) := IntWalk.i64_in _ (by omega)
  have hwmc : IntKind.i64.wrap ((c0 % q : Nat) : Int) = ((c0 % q : Nat) : Int) := IntWalk.i64_in _ (by have := Nat.mod_lt c0 (show 0 < q by omega); omega)
  obtain ⟨l, hll⟩ : ∃ l, l = c0 % q := ⟨_, rfl⟩
  have hmc : (c0 : Int).tmod (q : Int) = (l : Int) := by rw [hll]; rfl
  have hec : (c0 : Int) % (q : Int) = (l : Int) := by rw [hll]; rfl
  have hlq : l < q := by rw [hll]; exact Nat.mod_lt _ (by omega)
  rw [← hll] at hwmc
  obtain ⟨m, hm⟩ : ∃ m, zms[l]? = some m := ⟨zms[l]'(by rw [← HQ.out]; exact hlq), List.getElem?_eq_getElem _⟩
  have hlqI : (l : Int) < (q : Int) := by omega
  have hl0I : (0 : Int) ≤ (l : Int) := by omega
  have hrm := ((HKX.out _ HBF4.out).2.2 _ HZM.out).2.2.1.2
  dsimp only at hrm
  obtain ⟨a2, rfl, -⟩ := me_at hrm hm
  have HS6 := zh (show ∀ u : World, Below uF4.heap.size uF4 u → (fun w' => w'.cell? ⟨bz, 6, none⟩ = some (.slice (some a2) q zc3) ∧ w'.cell? (a2.add (l * 6)) = some (.string ⟨m.nm.toArray⟩) ∧ w'.cell? ⟨(a2.add (l * 6)).block, (a2.add (l * 6)).off + 1, none⟩ = some (.string ⟨m.ds.toArray⟩) ∧ w'.cell? ⟨(a2.add (l * 6)).block, (a2.add (l * 6)).off + 2, none⟩ = some (.bool m.st) ∧ w'.cell? ⟨(a2.add (l * 6)).block, (a2.add (l * 6)).off + 3, none⟩ = some (.bool m.ab) ∧ w'.cell? ⟨(a2.add (l * 6)).block, (a2.add (l * 6)).off + 4, none⟩ = some (.int .i64 m.rg) ∧ w'.cell? ⟨(a2.add (l * 6)).block, (a2.add (l * 6)).off + 5, none⟩ = some (.slice m.A m.co.length m.c)) u from fun u hu => by
   have hwu := HBF4.out.trans (hu.mono HBF4.out.size)
   obtain ⟨a', ea', -, m0, m1, m2, m3, m4, m5⟩ := me_at ((HKX.out u hwu).2.2 _ HZM.out).2.2.1.2 hm
   cases ea'
   exact ⟨(hu.cell (World.block_lt_of_cell? _ _ e6)).trans e6, m0, m1, m2, m3, m4, m5⟩)
  clear hll hrm hm
  go_wp2_with fail
  refine wp_region_held_drew (S := (fun w' => w'.cell? ⟨bz, 6, none⟩ = some (.slice (some a2) q zc3) ∧ w'.cell? (a2.add (l * 6)) = some (.string ⟨m.nm.toArray⟩) ∧ w'.cell? ⟨(a2.add (l * 6)).block, (a2.add (l * 6)).off + 1, none⟩ = some (.string ⟨m.ds.toArray⟩) ∧ w'.cell? ⟨(a2.add (l * 6)).block, (a2.add (l * 6)).off + 2, none⟩ = some (.bool m.st) ∧ w'.cell? ⟨(a2.add (l * 6)).block, (a2.add (l * 6)).off + 3, none⟩ = some (.bool m.ab) ∧ w'.cell? ⟨(a2.add (l * 6)).block, (a2.add (l * 6)).off + 4, none⟩ = some (.int .i64 m.rg) ∧ w'.cell? ⟨(a2.add (l * 6)).block, (a2.add (l * 6)).off + 5, none⟩ = some (.slice m.A m.co.length m.c))) (by kernel_rfl) ?_ (fun hHeld => ?_)
  ·exact HS6.out _ (overD (Below.refl _ _))
  clear e6
  obtain ⟨u0, hu0⟩ : ∃ u, u = uF4.drew := ⟨_, rfl⟩
  have HB0 := zh (show Below W.heap.size W u0 from by rw [hu0]; exact overD HBF4.out)
  rw [← hu0]
  have HU0 := zh (show Below uF4.heap.size uF4 u0 from by rw [hu0]; exact overD (Below.refl _ _))
  have hS0 := HS6.out _ HU0.out
  clear hu0
  refine tkp 0 rfl ?_
  refine tkp 1 rfl ?_
  refine tkp 2 rfl ?_
  refine tkp 3 rfl ?_
  refine tkp 4 rfl ?_
  refine tkp 5 rfl ?_
  refine tkp 6 rfl ?_
  refine tkp 7 rfl ?_
  refine tkp 8 rfl ?_
  refine tkp 9 rfl ?_
  clear hS0
  refine rdy 10 rfl (fun K hK => ?_)
  go_simp
  obtain ⟨u1, hn1⟩ : ∃ v, v = u0.alloc (.cells #[.string ⟨#[]⟩, .string ⟨#[]⟩, .bool false, .bool false, .int .i64 0, .slice none 0 0] 37) := ⟨_, rfl⟩
  have hz1 : u1.heap[u0.heap.size]? = some (.cells #[.string ⟨#[]⟩, .string ⟨#[]⟩, .bool false, .bool false, .int .i64 0, .slice none 0 0] 37 (0, 0)) := by rw [hn1]; exact heap_alloc_new _ _
  have hb1 : Below W.heap.size W u1 := by rw [hn1]; exact HB0.out.alloc HB0.out.size _
  have hl1 : Below uF4.heap.size uF4 u1 := by rw [hn1]; exact HU0.out.alloc HU0.out.size _
  rw [← hn1]
  clear hn1
  refine hK.out _ _ (HS6.out _ hl1) (fun hHeld => ?_)
  clear hK K
  try simp only [puts]
  have hge := HB0.out.size
  have hgu := HU0.out.size
  obtain ⟨bk, hbz⟩ : ∃ b, b = u0.heap.size := ⟨_, rfl⟩
  rw [← hbz] at hz1 hge hgu ⊢
  have hgr := sets_grown u1 bk 0 (meC m)
  obtain ⟨uF6, huF⟩ : ∃ v, v = u1.setCells bk 0 (meC m) := ⟨_, rfl⟩
  have hBF : Below W.heap.size W uF6 := by rw [huF]; exact hb1.grown hgr hb1.size (fun k hk => by cases hk; exact hge)
  have HLF6 := zh (show Below uF4.heap.size uF4 uF6 from by rw [huF]; exact hl1.grown hgr hl1.size (fun k hk => by cases hk; exact hgu))
  have HU6 := zh (show uF6.heap[bk]? = some (.cells (meC m).toArray 37 (0, 0)) from by rw [huF]; exact sets_new6 rfl hz1)
  have HBF6 := zh hBF; have HUF := zh huF
  have HGZ6 := zh hge; have HGU6 := zh hgu
  refine tst 11 bk 0 (meC m) rfl rfl rfl rfl (there_new6 hz1) size_mex (one_mex _) (by rw [← huF]; exact HS6.out _ HLF6.out) (fun _ => ?_)
  clear hz1 hge hgu hb1 hl1 hgr hBF huF hbz HU0
  rw [← HUF.out]
  try simp only [puts]
  refine wpAnyH_done (by kernel_rfl) ?_ _
  clear HUF HB0
  have t9 := (HLF6.out.block _ (blk_lt HR4.out)).trans HR4.out
  obtain ⟨n0, n1, n2, n3, n4, n5⟩ := me_cells HU6.out
  have hne3 : ¬ bk = bm := by have h1 := HGU6.out; have h2 := blk_lt HR4.out; omega
  have hne4 : ¬ bm = bk := fun h => hne3 h.symm
  have t0 : uF6.cell? ⟨bm, 0, none⟩ = some (.string ⟨y.nm.toArray⟩) := cell_of_row _ _ 0 _ _ _ t9
  have t1 : uF6.cell? ⟨bm, 1, none⟩ = some (.string ⟨#[]⟩) := cell_of_row _ _ 1 _ _ _ t9
  have t2 : uF6.cell? ⟨bm, 2, none⟩ = some (.string ⟨#[]⟩) := cell_of_row _ _ 2 _ _ _ t9
  have tf1 := frozen_of_row _ _ 1 _ _ t9
  have tf2 := frozen_of_row _ _ 2 _ _ t9
  have rr := (HBF6.out.block _ (blk_lt HRB.out)).trans HRB.out
  have hne2 : ¬ w.heap.size + 1 = bm := by have := HGZ3.out; have := HSZ.out; omega
  have hne1 : ¬ bm = w.heap.size + 1 := fun h => hne2 h.symm
  have rr9 := ((heap_setCell_other _ ⟨bm, 2, none⟩ _ (.string ⟨m.ds.toArray⟩) hne2).trans (((heap_setCell_other _ ⟨bm, 1, none⟩ _ (.string ⟨m.nm.toArray⟩) hne2).trans (rr))))
  have q0 : uF6.cell? ⟨w.heap.size + 1, 0, none⟩ = some (.string ⟨#[]⟩) := cell_of_row _ _ 0 _ _ _ rr
  have qf0 := frozen_of_row _ _ 0 _ _ rr
  have q1 : uF6.cell? ⟨w.heap.size + 1, 1, none⟩ = some (.string ⟨#[]⟩) := cell_of_row _ _ 1 _ _ _ rr
  have qf1 := frozen_of_row _ _ 1 _ _ rr
  have q2 : uF6.cell? ⟨w.heap.size + 1, 2, none⟩ = some (.string ⟨#[]⟩) := cell_of_row _ _ 2 _ _ _ rr
  have qf2 := frozen_of_row _ _ 2 _ _ rr
  obtain ⟨WF, hWF⟩ : ∃ WF, WF = (((((uF6.setCell ⟨bm, 1, none⟩ (.string ⟨m.nm.toArray⟩)).setCell ⟨bm, 2, none⟩ (.string ⟨m.ds.toArray⟩)).setCell ⟨w.heap.size + 1, 0, none⟩ (.string ⟨y.nm.toArray⟩)).setCell ⟨w.heap.size + 1, 1, none⟩ (.string ⟨m.nm.toArray⟩)).setCell ⟨w.heap.size + 1, 2, none⟩ (.string ⟨m.ds.toArray⟩)) := ⟨_, rfl⟩
  have uB : Below w.heap.size w WF := by rw [hWF]; exact (Below.grown (Below.grown (Below.grown (Below.grown (Below.grown (HAL.out.trans (HBF6.out.mono HAL.out.size)) (gb_set _ (bm) 1 _) (Below.size (HAL.out.trans (HBF6.out.mono HAL.out.size))) (fun k hk => by cases hk; exact Nat.le_trans HAL.out.size HGZ3.out)) (gb_set _ (bm) 2 _) (Below.size (Below.grown (HAL.out.trans (HBF6.out.mono HAL.out.size)) (gb_set _ (bm) 1 _) (Below.size (HAL.out.trans (HBF6.out.mono HAL.out.size))) (fun k hk => by cases hk; exact Nat.le_trans HAL.out.size HGZ3.out))) (fun k hk => by cases hk; exact Nat.le_trans HAL.out.size HGZ3.out)) (gb_set _ (w.heap.size + 1) 0 _) (Below.size (Below.grown (Below.grown (HAL.out.trans (HBF6.out.mono HAL.out.size)) (gb_set _ (bm) 1 _) (Below.size (HAL.out.trans (HBF6.out.mono HAL.out.size))) (fun k hk => by cases hk; exact Nat.le_trans HAL.out.size HGZ3.out)) (gb_set _ (bm) 2 _) (Below.size (Below.grown (HAL.out.trans (HBF6.out.mono HAL.out.size)) (gb_set _ (bm) 1 _) (Below.size (HAL.out.trans (HBF6.out.mono HAL.out.size))) (fun k hk => by cases hk; exact Nat.le_trans HAL.out.size HGZ3.out))) (fun k hk => by cases hk; exact Nat.le_trans HAL.out.size HGZ3.out))) (fun k hk => by cases hk; omega)) (gb_set _ (w.heap.size + 1) 1 _) (Below.size (Below.grown (Below.grown (Below.grown (HAL.out.trans (HBF6.out.mono HAL.out.size)) (gb_set _ (bm) 1 _) (Below.size (HAL.out.trans (HBF6.out.mono HAL.out.size))) (fun k hk => by cases hk; exact Nat.le_trans HAL.out.size HGZ3.out)) (gb_set _ (bm) 2 _) (Below.size (Below.grown (HAL.out.trans (HBF6.out.mono HAL.out.size)) (gb_set _ (bm) 1 _) (Below.size (HAL.out.trans (HBF6.out.mono HAL.out.size))) (fun k hk => by cases hk; exact Nat.le_trans HAL.out.size HGZ3.out))) (fun k hk => by cases hk; exact Nat.le_trans HAL.out.size HGZ3.out)) (gb_set _ (w.heap.size + 1) 0 _) (Below.size (Below.grown (Below.grown (HAL.out.trans (HBF6.out.mono HAL.out.size)) (gb_set _ (bm) 1 _) (Below.size (HAL.out.trans (HBF6.out.mono HAL.out.size))) (fun k hk => by cases hk; exact Nat.le_trans HAL.out.size HGZ3.out)) (gb_set _ (bm) 2 _) (Below.size (Below.grown (HAL.out.trans (HBF6.out.mono HAL.out.size)) (gb_set _ (bm) 1 _) (Below.size (HAL.out.trans (HBF6.out.mono HAL.out.size))) (fun k hk => by cases hk; exact Nat.le_trans HAL.out.size HGZ3.out))) (fun k hk => by cases hk; exact Nat.le_trans HAL.out.size HGZ3.out))) (fun k hk => by cases hk; omega))) (fun k hk => by cases hk; omega)) (gb_set _ (w.heap.size + 1) 2 _) (Below.size (Below.grown (Below.grown (Below.grown (Below.grown (HAL.out.trans (HBF6.out.mono HAL.out.size)) (gb_set _ (bm) 1 _) (Below.size (HAL.out.trans (HBF6.out.mono HAL.out.size))) (fun k hk => by cases hk; exact Nat.le_trans HAL.out.size HGZ3.out)) (gb_set _ (bm) 2 _) (Below.size (Below.grown (HAL.out.trans (HBF6.out.mono HAL.out.size)) (gb_set _ (bm) 1 _) (Below.size (HAL.out.trans (HBF6.out.mono HAL.out.size))) (fun k hk => by cases hk; exact Nat.le_trans HAL.out.size HGZ3.out))) (fun k hk => by cases hk; exact Nat.le_trans HAL.out.size HGZ3.out)) (gb_set _ (w.heap.size + 1) 0 _) (Below.size (Below.grown (Below.grown (HAL.out.trans (HBF6.out.mono HAL.out.size)) (gb_set _ (bm) 1 _) (Below.size (HAL.out.trans (HBF6.out.mono HAL.out.size))) (fun k hk => by cases hk; exact Nat.le_trans HAL.out.size HGZ3.out)) (gb_set _ (bm) 2 _) (Below.size (Below.grown (HAL.out.trans (HBF6.out.mono HAL.out.size)) (gb_set _ (bm) 1 _) (Below.size (HAL.out.trans (HBF6.out.mono HAL.out.size))) (fun k hk => by cases hk; exact Nat.le_trans HAL.out.size HGZ3.out))) (fun k hk => by cases hk; exact Nat.le_trans HAL.out.size HGZ3.out))) (fun k hk => by cases hk; omega)) (gb_set _ (w.heap.size + 1) 1 _) (Below.size (Below.grown (Below.grown (Below.grown (HAL.out.trans (HBF6.out.mono HAL.out.size)) (gb_set _ (bm) 1 _) (Below.size (HAL.out.trans (HBF6.out.mono HAL.out.size))) (fun k hk => by cases hk; exact Nat.le_trans HAL.out.size HGZ3.out)) (gb_set _ (bm) 2 _) (Below.size (Below.grown (HAL.out.trans (HBF6.out.mono HAL.out.size)) (gb_set _ (bm) 1 _) (Below.size (HAL.out.trans (HBF6.out.mono HAL.out.size))) (fun k hk => by cases hk; exact Nat.le_trans HAL.out.size HGZ3.out))) (fun k hk => by cases hk; exact Nat.le_trans HAL.out.size HGZ3.out)) (gb_set _ (w.heap.size + 1) 0 _) (Below.size (Below.grown (Below.grown (HAL.out.trans (HBF6.out.mono HAL.out.size)) (gb_set _ (bm) 1 _) (Below.size (HAL.out.trans (HBF6.out.mono HAL.out.size))) (fun k hk => by cases hk; exact Nat.le_trans HAL.out.size HGZ3.out)) (gb_set _ (bm) 2 _) (Below.size (Below.grown (HAL.out.trans (HBF6.out.mono HAL.out.size)) (gb_set _ (bm) 1 _) (Below.size (HAL.out.trans (HBF6.out.mono HAL.out.size))) (fun k hk => by cases hk; exact Nat.le_trans HAL.out.size HGZ3.out))) (fun k hk => by cases hk; exact Nat.le_trans HAL.out.size HGZ3.out))) (fun k hk => by cases hk; omega))) (fun k hk => by cases hk; omega))) (fun k hk => by cases hk; omega))
  have ur : ∃ (cs : Array Value), WF.heap[w.heap.size + 1]? = some (.cells cs 25 (0, 0)) ∧ cs = #[.string ⟨y.nm.toArray⟩, .string ⟨m.nm.toArray⟩, .string ⟨m.ds.toArray⟩] := by
   have s0 := heap_setCell_same _ (w.heap.size + 1) 0 _ _ (.string ⟨y.nm.toArray⟩) (rr9)
   have s1 := heap_setCell_same _ (w.heap.size + 1) 1 _ _ (.string ⟨m.nm.toArray⟩) s0
   have s2 := heap_setCell_same _ (w.heap.size + 1) 2 _ _ (.string ⟨m.ds.toArray⟩) s1
   exact ⟨_, by rw [hWF]; exact s2, by simp⟩
  obtain ⟨cs9, ur, rfl⟩ := ur
  have R0 := zh (show WF.cell? ⟨w.heap.size + 1, 0, none⟩ = some (.string ⟨y.nm.toArray⟩) from cell_of_row _ _ 0 _ _ _ ur)
  have R1 := zh (show WF.cell? ⟨w.heap.size + 1, 1, none⟩ = some (.string ⟨m.nm.toArray⟩) from cell_of_row _ _ 1 _ _ _ ur)
  have R2 := zh (show WF.cell? ⟨w.heap.size + 1, 2, none⟩ = some (.string ⟨m.ds.toArray⟩) from cell_of_row _ _ 2 _ _ _ ur)
  have HWF := zh hWF; have UB := zh uB
  clear rr hWF ur uB rr9
  go_wp2
  rw [← HWF.out]
  refine bodyPost_ret (v := .agg #[.string ⟨y.nm.toArray⟩, .string ⟨m.nm.toArray⟩, .string ⟨m.ds.toArray⟩]) ?_ rfl ⟨⟨y.nm, m.nm, m.ds, rfl⟩, UB.out⟩
  simp [results, Try.results10, go_sem, R0.out, R1.out, R2.out]
end Go.Proofs.Ytdifmgeicnndfaa.askd

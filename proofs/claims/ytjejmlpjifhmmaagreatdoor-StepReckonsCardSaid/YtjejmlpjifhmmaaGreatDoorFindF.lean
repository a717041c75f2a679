/- FindF -/
import Derived.Test.YtjejmlpjifhmmaaGreatDoorFind
import Derived.Test.YtjejmlpjifhmmaaGreatDoorNormXg
namespace Go.Proofs.YtjejmlpjifhmmaaGreatDoor.find
open Go.RowKit Go.Shelf
open words kindp opp op kind word prg
set_option maxRecDepth 100000
set_option maxHeartbeats 8000000
set_option linter.all false
attribute [local go_sem] Oper.semAt_some
def zeroC : ClM := ⟨[], [], false, false, [], none, 0, [], none, 0, [], none, 0⟩
def firstR (cs : List ClM) (L : List Tx) (s d : Tx) : ClM × Int := match firstM cs L s d with
 | some (c, k) => (c, (k : Int))
 | none => (zeroC, -1)
theorem firstR_some {cs : List ClM} {L : List Tx} {s d : Tx} {c : ClM} {k : Nat} (h : firstM cs L s d = some (c, k)) : firstR cs L s d = (c, (k : Int)) := by unfold firstR; rw [h]
theorem firstR_none {cs : List ClM} {L : List Tx} {s d : Tx} (h : firstM cs L s d = none) : firstR cs L s d = (zeroC, -1) := by unfold firstR; rw [h]
theorem heap_kept {B : Nat} {cs : Array Value} {t : TypeId} {fz : Nat × Nat} {A A' : World} {row : Option Nat} (h : A.heap[B]? = some (.cells cs t fz)) (hg : A.grownBy A' row) (hr : ∀ r, row = some r → ∃ o : Obj, A.heap[r]? = some o ∧ o.isCells = false) : A'.heap[B]? = some (.cells cs t fz) := by
 refine (hg.block B (Array.getElem?_eq_some_iff.1 h).1 (fun e => ?_)).trans h
 obtain ⟨o, ho, hc⟩ := hr B e.symm
 rw [h] at ho; cases ho; cases hc
theorem at_gb {w w' : World} {g B T : Nat} {cur : Array Value} {f : Nat × Nat} (k : w.grownBy w' (some g)) (h : w.heap[B]? = some (.cells cur T f)) (hne : B ≠ g) : w'.heap[B]? = some (.cells cur T f) := (k.block B (blk_lt h) (by intro e; cases e; exact hne rfl)).trans h
theorem keeps_below {W W' : World} (h : Below W.heap.size W W') (B : Nat) : KeepsFrom B W W' := (KeepsOthers.of_grownBy (row := none) ⟨h.os, h.tape, h.output, h.size, fun k hk _ => h.block k hk⟩ (fun j o e => by cases e)).from B
theorem oneM_none {cs : List ClM} {s d nm : Tx} (h : findC cs nm = none) : oneM cs s d nm = none := by unfold oneM; rw [h]
theorem oneM_no {cs : List ClM} {s d nm : Tx} {c : ClM} (h : findC cs nm = some c) (k : declM c s d = none) : oneM cs s d nm = none := by unfold oneM; rw [h]; dsimp only; rw [k]
theorem oneM_some {cs : List ClM} {s d nm : Tx} {c : ClM} {j : Nat} (h : findC cs nm = some c) (k : declM c s d = some j) : oneM cs s d nm = some (c, j) := by unfold oneM; rw [h]; dsimp only; rw [k]
theorem first_w (x : PrM) (L : List Tx) (s d : Tx) (Bs g h : Nat) (AL : Option Addr) (cL : Nat) (w : World) (hk : PrOk w x) (hg : GrP x) (hBs : w.cell? ⟨Bs, 0, none⟩ = some (.slice AL L.length cL)) (hr : Rd w AL (SX L)) (hz : L.length ≤ 100000)
  (hs : w.cell? ⟨g, 0, none⟩ = some (.string ⟨s.toArray⟩)) (hd : w.cell? ⟨h, 0, none⟩ = some (.string ⟨d.toArray⟩)) :
  Calls Tryz.prog 100 #[.agg (prC x).toArray, .func (.func 199) #[] #[.pointer (some ⟨Bs, 0, none⟩)], .func (.func 157) #[] #[.pointer (some ⟨g, 0, none⟩), .pointer (some ⟨h, 0, none⟩)]] w
   fun e w' => e = .returned (.tuple #[.agg (clC (firstR x.cs L s d).1).toArray, .int .i64 (firstR x.cs L s d).2]) ∧ Below w.heap.size w w' := by
 obtain ⟨cs, A1, c1, ns, A2, c2, ec, en, ed⟩ := x
 unfold prC
 dsimp only
 have hk1 : Rd w A1 (cs.flatMap clC) := hk.1.2
 have hgc : cs.length ≤ 70 := hg.1.1
 have hcm : ∀ y ∈ cs, ClOk w y := hk.2.2
 have hgm : ∀ y ∈ cs, GrC y := hg.2
 obtain ⟨W0, hW0⟩ : ∃ W0, W0 = (((w.alloc (.cells #[.slice A1 cs.length c1, .slice A2 ns.length c2, .string ⟨ec.toArray⟩, .string ⟨en.toArray⟩, .string ⟨ed.toArray⟩] 36)).alloc (.cells #[.func (.func 157) #[] #[.pointer (some ⟨g, 0, none⟩), .pointer (some ⟨h, 0, none⟩)]] 233)).alloc (.cells #[.string ⟨#[]⟩, .string ⟨#[]⟩, .bool false, .bool false, .slice none 0 0, .slice none 0 0, .slice none 0 0] 159)).alloc (.cells #[.int .i64 0] 3) := ⟨_, rfl⟩
 have hbel : Below w.heap.size w W0 := by rw [hW0]; exact ((((Below.refl _ w).alloc (Nat.le_refl _) _).alloc (by simp) _).alloc (by simp; omega) _).alloc (by simp; omega) _
 have hsz : W0.heap.size = w.heap.size + 4 := by rw [hW0]; simp
 have k0 : W0.heap[w.heap.size]? = some (.cells #[.slice A1 cs.length c1, .slice A2 ns.length c2, .string ⟨ec.toArray⟩, .string ⟨en.toArray⟩, .string ⟨ed.toArray⟩] 36 (0, 0)) := by
  rw [hW0]; exact (Below.heap_alloc _ _ _ (by simp <;> omega)).trans ((Below.heap_alloc _ _ _ (by simp <;> omega)).trans ((Below.heap_alloc _ _ _ (by simp)).trans (heap_alloc_new w _)))
 have k1 : W0.heap[w.heap.size + 1]? = some (.cells #[.func (.func 157) #[] #[.pointer (some ⟨g, 0, none⟩), .pointer (some ⟨h, 0, none⟩)]] 233 (0, 0)) := by
  have := heap_alloc_new (w.alloc (.cells #[.slice A1 cs.length c1, .slice A2 ns.length c2, .string ⟨ec.toArray⟩, .string ⟨en.toArray⟩, .string ⟨ed.toArray⟩] 36)) (.cells #[.func (.func 157) #[] #[.pointer (some ⟨g, 0, none⟩), .pointer (some ⟨h, 0, none⟩)]] 233)
  rw [World.size_alloc] at this
  rw [hW0]; exact (Below.heap_alloc _ _ _ (by simp <;> omega)).trans ((Below.heap_alloc _ _ _ (by simp)).trans this)
 have k2 : W0.heap[w.heap.size + 1 + 1]? = some (.cells #[.string ⟨#[]⟩, .string ⟨#[]⟩, .bool false, .bool false, .slice none 0 0, .slice none 0 0, .slice none 0 0] 159 (0, 0)) := by
  have := heap_alloc_new ((w.alloc (.cells #[.slice A1 cs.length c1, .slice A2 ns.length c2, .string ⟨ec.toArray⟩, .string ⟨en.toArray⟩, .string ⟨ed.toArray⟩] 36)).alloc (.cells #[.func (.func 157) #[] #[.pointer (some ⟨g, 0, none⟩), .pointer (some ⟨h, 0, none⟩)]] 233)) (.cells #[.string ⟨#[]⟩, .string ⟨#[]⟩, .bool false, .bool false, .slice none 0 0, .slice none 0 0, .slice none 0 0] 159)
  rw [World.size_alloc, World.size_alloc] at this
  rw [hW0]; exact (Below.heap_alloc _ _ _ (by simp)).trans this
 have k3 : W0.heap[w.heap.size + 1 + 1 + 1]? = some (.cells #[.int .i64 0] 3 (0, 0)) := by
  have := heap_alloc_new (((w.alloc (.cells #[.slice A1 cs.length c1, .slice A2 ns.length c2, .string ⟨ec.toArray⟩, .string ⟨en.toArray⟩, .string ⟨ed.toArray⟩] 36)).alloc (.cells #[.func (.func 157) #[] #[.pointer (some ⟨g, 0, none⟩), .pointer (some ⟨h, 0, none⟩)]] 233)).alloc (.cells #[.string ⟨#[]⟩, .string ⟨#[]⟩, .bool false, .bool false, .slice none 0 0, .slice none 0 0, .slice none 0 0] 159)) (.cells #[.int .i64 0] 3)
  rw [World.size_alloc, World.size_alloc, World.size_alloc] at this
  rw [hW0]; exact this
 have hBl : Bs < w.heap.size := World.block_lt_of_cell? _ _ hBs
 have hgl : g < w.heap.size := World.block_lt_of_cell? _ _ hs
 have hhl : h < w.heap.size := World.block_lt_of_cell? _ _ hd
 have HK0 := zh k0; have HK1 := zh k1; have HK2 := zh k2; have HK3 := zh k3
 have HPL := zh (fun (y : Tx) (v : World) (hv : Below w.heap.size w v) => place_cl ⟨cs, A1, c1, ns, A2, c2, ec, en, ed⟩ y v (hk1.below hv) (by show cs.length ≤ _; omega))
 have HAT := zh (fun (y : ClM) (v : World) (hv : Below w.heap.size w v) (hy : y ∈ cs) => at_w y g h s d v ((hcm y hy).below hv).2.2.1.2 (by have := (hgm y hy).1.2.2.1; omega) ((hv.cell (p := ⟨g, 0, none⟩) hgl).trans hs) ((hv.cell (p := ⟨h, 0, none⟩) hhl).trans hd))
 have HRD := zh (fun (v : World) (hv : Below w.heap.size w v) => hk1.below hv)
 have HBEL := zh hbel; have HSZ := zh hsz
 have hBs0 := (hbel.cell (p := ⟨Bs, 0, none⟩) hBl).trans hBs
 have hnI : (cs.length : Int) ≤ 70 := by omega
 clear k0 k1 k2 k3 hk hg hs hd hgl hhl hk1 hcm hgm
 refine (callsIn_wide (n := 3)).1 ?_
 refine callsIn_of_wp_marks Tryz.func100 rfl trivial ?_ rfl
 unfold prC at HPL
 try dsimp only at hW0 HPL
 simp only [Tryz.ntmps100, List.size_toArray, List.length_cons, List.length_nil, Nat.reduceAdd, Nat.reduceSub, Array.replicate_succ, Array.replicate_zero, List.push_toArray, List.append_toArray, List.nil_append, List.cons_append]
 have HW0 := zh hW0
 clear hW0 hBs
 gi_wp2
 try simp only [World.size_alloc]
 rw [← HW0.out]
 refine wpIn_rangeFunc_ownG rfl (by omega) (gf := 199) (lb := #[.pointer (some ⟨Bs, 0, none⟩)]) rfl trivial (enters_of Tryz.func199 (by kernel_rfl) rfl)
  (vals_stops 2 (by omega) Bs W0.heap.size AL cL L w (by omega) hbel.size (by omega) hr W0 hbel (Nat.le_refl _) hBs0) belowK_t (belowK_b (Nat.le_refl _)) (Below.refl _ _) (fun _ => rfl)
  (fun pre W => firstM cs pre s d = none ∧ Below W0.heap.size W0 W)
  (fun cd pre W => (cd = .ret ∧ ∃ cl k, firstM cs pre s d = some (cl, k) ∧ W.heap[w.heap.size + 1 + 1]? = some (.cells (clC cl).toArray 159 (0, 0)) ∧ W.heap[w.heap.size + 1 + 1 + 1]? = some (.cells #[.int .i64 (k : Int)] 3 (0, 0))) ∧ Below w.heap.size w W)
  (OwnFrom.and (Own.from (fun _ _ _ _ hs _ _ => hs) _) (ownFrom_below (Nat.le_refl _) (Nat.le_refl _)))
  (fun cd => OwnFrom.and (Own.from (fun s A B row hs hg hr => ⟨hs.1, by obtain ⟨cl, k, h1, h2, h3⟩ := hs.2; exact ⟨cl, k, h1, heap_kept h2 hg hr, heap_kept h3 hg hr⟩⟩) _) (ownFrom_below (Nat.le_refl _) hbel.size))
  ⟨rfl, Below.refl _ _⟩
  (fun y => { tmps := #[.agg #[.slice A1 cs.length c1, .slice A2 ns.length c2, .string ⟨ec.toArray⟩, .string ⟨en.toArray⟩, .string ⟨ed.toArray⟩], .func (.func 199) #[] #[.pointer (some ⟨Bs, 0, none⟩)], .func (.func 157) #[] #[.pointer (some ⟨g, 0, none⟩), .pointer (some ⟨h, 0, none⟩)], .pointer (some ⟨w.heap.size, 0, none⟩), undef, .pointer (some ⟨w.heap.size + 1, 0, none⟩), .pointer (some ⟨w.heap.size + 1 + 1, 0, none⟩), .pointer (some ⟨w.heap.size + 1 + 1 + 1, 0, none⟩), .string ⟨y.toArray⟩, undef, undef, .func (.func 199) #[] #[.pointer (some ⟨Bs, 0, none⟩)], .string ⟨y.toArray⟩, undef, undef, undef, undef, undef, undef, undef, undef, undef, undef, undef, undef, undef, undef, undef, undef, undef, undef, undef, undef, undef], defers := [] }) ?assign ?body ?done ?stop
 case assign =>
  intro l y W K hK
  gi_wp2
  exact hK
 case body =>
  rintro l pre y W ⟨hn, hB⟩ hlt
  have hbw := hbel.trans (hB.mono hbel.size)
  have HBW := zh hbw
  obtain ⟨y0, y1, y2, y3, y4⟩ : W.cell? ⟨w.heap.size, 0, none⟩ = some (.slice A1 cs.length c1) ∧ W.cell? ⟨w.heap.size, 1, none⟩ = some (.slice A2 ns.length c2) ∧ W.cell? ⟨w.heap.size, 2, none⟩ = some (.string ⟨ec.toArray⟩) ∧ W.cell? ⟨w.heap.size, 3, none⟩ = some (.string ⟨en.toArray⟩) ∧ W.cell? ⟨w.heap.size, 4, none⟩ = some (.string ⟨ed.toArray⟩) := pr_cells (x := ⟨cs, A1, c1, ns, A2, c2, ec, en, ed⟩) ((hB.block _ (blk_lt HK0.out)).trans HK0.out)
  have HN := zh hn; have HB := zh hB
  clear hn hB hbw
  gi_wp2_with fail
  refine ⟨trivial, (CallsIn.inRound l (callsIn_wide.2 (HPL.out y W HBW.out))).mono ?_⟩
  rintro e W1 ⟨r, rfl, hix, hb1⟩
  have HB1 := zh hb1
  have HBX := zh (HB.out.trans (hb1.mono HB.out.size))
  clear y0 y1 y2 y3 y4 hb1
  rcases idx_two hix with ⟨rfl, -, hf⟩ | ⟨k, cl, rfl, hcl, -, -, hf⟩
  ·have HNX := zh (show firstM cs (pre ++ [y]) s d = none from by rw [firstM_snoc _ _ _ _ _ HN.out, oneM_none hf])
   clear hix hf
   gi_wp2
   exact ⟨keeps_below HB1.out _, HB1.out.mono HB.out.size, HNX.out, HBX.out⟩
  ·have hkn : (k : Int) < (cs.length : Int) := by have := (List.getElem?_eq_some_iff.1 hcl).1; omega
   have HF := zh hf
   have hcm := List.mem_of_getElem? hcl
   have hbw1 := HBEL.out.trans (HBX.out.mono HBEL.out.size)
   have HBW1 := zh hbw1
   obtain ⟨a, rfl, ha, e0, e1, e2, e3, e4, e5, e6⟩ := cl_at (HRD.out _ hbw1) hcl
   obtain ⟨y0, y1, y2, y3, y4⟩ : W1.cell? ⟨w.heap.size, 0, none⟩ = some (.slice (some a) cs.length c1) ∧ W1.cell? ⟨w.heap.size, 1, none⟩ = some (.slice A2 ns.length c2) ∧ W1.cell? ⟨w.heap.size, 2, none⟩ = some (.string ⟨ec.toArray⟩) ∧ W1.cell? ⟨w.heap.size, 3, none⟩ = some (.string ⟨en.toArray⟩) ∧ W1.cell? ⟨w.heap.size, 4, none⟩ = some (.string ⟨ed.toArray⟩) := pr_cells (x := ⟨cs, some a, c1, ns, A2, c2, ec, en, ed⟩) ((HBX.out.block _ (blk_lt HK0.out)).trans HK0.out)
   have f0 : W1.cell? ⟨w.heap.size + 1, 0, none⟩ = some (.func (.func 157) #[] #[.pointer (some ⟨g, 0, none⟩), .pointer (some ⟨h, 0, none⟩)]) := cell_of_row _ _ 0 _ _ _ ((HBX.out.block _ (blk_lt HK1.out)).trans HK1.out)
   have hmx : Tryz.prog.follows .mixedOrders = true := by kernel_rfl
   have hd9 : 1 ≤ 3 - 1 - 1 := by omega
   have HAC := zh (fun v hv => HAT.out cl v hv hcm)
   have HCL := zh hcl
   dsimp only [clC] at HAC
   clear hix hf hcm hcl hbw1
   gi_wp2_with fail
   gi_region_with_o (refine ⟨trivial, ?_⟩; gi_at_call 157; refine (CallsIn.inRound l (callsIn_wide.2 (HAC.out _ (by first | exact HBW1.out | exact overD HBW1.out | exact HBW1.out.drew)))).mono ?_; rintro e W2 ⟨r, rfl, hi2, hb2⟩)
   all_goals (
    have hbq : Below W1.heap.size W1 W2 := ⟨hb2.os, hb2.tape, hb2.output, hb2.size, hb2.block⟩
    have HBQ := zh hbq
    have HBY := zh (HBX.out.trans (hbq.mono HBX.out.size))
    clear hb2 hbq y0 y1 y2 y3 y4 e0 e1 e2 e3 e4 e5 e6 f0 HAC
    rcases idx_two hi2 with ⟨rfl, hx, -⟩ | ⟨j, m, rfl, hm, -, hx, -⟩
    ·have HNX := zh (show firstM cs (pre ++ [y]) s d = none from by rw [firstM_snoc _ _ _ _ _ HN.out, oneM_no HF.out hx])
     clear hi2 hx
     gi_wp2
     exact ⟨(keeps_below HB1.out _).trans (keeps_below HBQ.out _), (HB1.out.mono HB.out.size).trans (HBQ.out.mono HBX.out.size), HNX.out, HBY.out⟩
    ·have HNX := zh (show firstM cs (pre ++ [y]) s d = some (cl, j) from by rw [firstM_snoc _ _ _ _ _ HN.out, oneM_some HF.out hx])
     have hj1 : ((j : Int) != -1) = true := by simp
     clear hi2 hx hm
     have hB9 := HBY.out
     have hbel := HBEL.out; have hsz := HSZ.out
     have r2 : W2.heap[w.heap.size + 1 + 1]? = some (.cells #[.string ⟨#[]⟩, .string ⟨#[]⟩, .bool false, .bool false, .slice none 0 0, .slice none 0 0, .slice none 0 0] 159 (0, 0)) := (hB9.block _ (blk_lt HK2.out)).trans HK2.out
     have r3 : W2.heap[w.heap.size + 1 + 1 + 1]? = some (.cells #[.int .i64 0] 3 (0, 0)) := (hB9.block _ (blk_lt HK3.out)).trans HK3.out
     have q0 : W2.cell? ⟨w.heap.size + 1 + 1, 0, none⟩ = some (.string ⟨#[]⟩) := cell_of_row _ _ 0 _ _ _ r2
     have qf0 := frozen_of_row _ _ 0 _ _ r2
     have q1 : W2.cell? ⟨w.heap.size + 1 + 1, 1, none⟩ = some (.string ⟨#[]⟩) := cell_of_row _ _ 1 _ _ _ r2
     have qf1 := frozen_of_row _ _ 1 _ _ r2
     have q2 : W2.cell? ⟨w.heap.size + 1 + 1, 2, none⟩ = some (.bool false) := cell_of_row _ _ 2 _ _ _ r2
     have qf2 := frozen_of_row _ _ 2 _ _ r2
     have q3 : W2.cell? ⟨w.heap.size + 1 + 1, 3, none⟩ = some (.bool false) := cell_of_row _ _ 3 _ _ _ r2
     have qf3 := frozen_of_row _ _ 3 _ _ r2
     have q4 : W2.cell? ⟨w.heap.size + 1 + 1, 4, none⟩ = some (.slice none 0 0) := cell_of_row _ _ 4 _ _ _ r2
     have qf4 := frozen_of_row _ _ 4 _ _ r2
     have q5 : W2.cell? ⟨w.heap.size + 1 + 1, 5, none⟩ = some (.slice none 0 0) := cell_of_row _ _ 5 _ _ _ r2
     have qf5 := frozen_of_row _ _ 5 _ _ r2
     have q6 : W2.cell? ⟨w.heap.size + 1 + 1, 6, none⟩ = some (.slice none 0 0) := cell_of_row _ _ 6 _ _ _ r2
     have qf6 := frozen_of_row _ _ 6 _ _ r2
     have p0 : W2.cell? ⟨w.heap.size + 1 + 1 + 1, 0, none⟩ = some (.int .i64 0) := cell_of_row _ _ 0 _ _ _ r3
     have pf0 := frozen_of_row _ _ 0 _ _ r3
     have s0 := heap_setCell_same _ (w.heap.size + 1 + 1) 0 _ _ (.string ⟨cl.nm.toArray⟩) r2
     have s1 := heap_setCell_same _ (w.heap.size + 1 + 1) 1 _ _ (.string ⟨cl.su.toArray⟩) s0
     have s2 := heap_setCell_same _ (w.heap.size + 1 + 1) 2 _ _ (.bool cl.fc) s1
     have s3 := heap_setCell_same _ (w.heap.size + 1 + 1) 3 _ _ (.bool cl.ab) s2
     have s4 := heap_setCell_same _ (w.heap.size + 1 + 1) 4 _ _ (.slice cl.A1 cl.is.length cl.c1) s3
     have s5 := heap_setCell_same _ (w.heap.size + 1 + 1) 5 _ _ (.slice cl.A2 cl.fs.length cl.c2) s4
     have s6 := heap_setCell_same _ (w.heap.size + 1 + 1) 6 _ _ (.slice cl.A3 cl.ms.length cl.c3) s5
     have gA : W2.grownBy (((((((W2.setCell ⟨w.heap.size + 1 + 1, 0, none⟩ (.string ⟨cl.nm.toArray⟩)).setCell ⟨w.heap.size + 1 + 1, 1, none⟩ (.string ⟨cl.su.toArray⟩)).setCell ⟨w.heap.size + 1 + 1, 2, none⟩ (.bool cl.fc)).setCell ⟨w.heap.size + 1 + 1, 3, none⟩ (.bool cl.ab)).setCell ⟨w.heap.size + 1 + 1, 4, none⟩ (.slice cl.A1 cl.is.length cl.c1)).setCell ⟨w.heap.size + 1 + 1, 5, none⟩ (.slice cl.A2 cl.fs.length cl.c2)).setCell ⟨w.heap.size + 1 + 1, 6, none⟩ (.slice cl.A3 cl.ms.length cl.c3)) (some (w.heap.size + 1 + 1)) := gb_trans (gb_trans (gb_trans (gb_trans (gb_trans (gb_trans (gb_set _ (w.heap.size + 1 + 1) 0 _) (gb_set _ (w.heap.size + 1 + 1) 1 _)) (gb_set _ (w.heap.size + 1 + 1) 2 _)) (gb_set _ (w.heap.size + 1 + 1) 3 _)) (gb_set _ (w.heap.size + 1 + 1) 4 _)) (gb_set _ (w.heap.size + 1 + 1) 5 _)) (gb_set _ (w.heap.size + 1 + 1) 6 _)
     have t0 := heap_setCell_same _ (w.heap.size + 1 + 1 + 1) 0 _ _ (.int .i64 (j : Int)) (at_gb gA r3 (by omega))
     have gB := gb_set (((((((W2.setCell ⟨w.heap.size + 1 + 1, 0, none⟩ (.string ⟨cl.nm.toArray⟩)).setCell ⟨w.heap.size + 1 + 1, 1, none⟩ (.string ⟨cl.su.toArray⟩)).setCell ⟨w.heap.size + 1 + 1, 2, none⟩ (.bool cl.fc)).setCell ⟨w.heap.size + 1 + 1, 3, none⟩ (.bool cl.ab)).setCell ⟨w.heap.size + 1 + 1, 4, none⟩ (.slice cl.A1 cl.is.length cl.c1)).setCell ⟨w.heap.size + 1 + 1, 5, none⟩ (.slice cl.A2 cl.fs.length cl.c2)).setCell ⟨w.heap.size + 1 + 1, 6, none⟩ (.slice cl.A3 cl.ms.length cl.c3)) (w.heap.size + 1 + 1 + 1) 0 (.int .i64 (j : Int))
     obtain ⟨WF, hWF⟩ : ∃ WF, WF = ((((((((W2.setCell ⟨w.heap.size + 1 + 1, 0, none⟩ (.string ⟨cl.nm.toArray⟩)).setCell ⟨w.heap.size + 1 + 1, 1, none⟩ (.string ⟨cl.su.toArray⟩)).setCell ⟨w.heap.size + 1 + 1, 2, none⟩ (.bool cl.fc)).setCell ⟨w.heap.size + 1 + 1, 3, none⟩ (.bool cl.ab)).setCell ⟨w.heap.size + 1 + 1, 4, none⟩ (.slice cl.A1 cl.is.length cl.c1)).setCell ⟨w.heap.size + 1 + 1, 5, none⟩ (.slice cl.A2 cl.fs.length cl.c2)).setCell ⟨w.heap.size + 1 + 1, 6, none⟩ (.slice cl.A3 cl.ms.length cl.c3)).setCell ⟨w.heap.size + 1 + 1 + 1, 0, none⟩ (.int .i64 (j : Int))) := ⟨_, rfl⟩
     have u2 : WF.heap[w.heap.size + 1 + 1]? = some (.cells #[.string ⟨cl.nm.toArray⟩, .string ⟨cl.su.toArray⟩, .bool cl.fc, .bool cl.ab, .slice cl.A1 cl.is.length cl.c1, .slice cl.A2 cl.fs.length cl.c2, .slice cl.A3 cl.ms.length cl.c3] 159 (0, 0)) := by rw [hWF]; refine at_gb gB ?_ (by omega); rw [s6]; simp
     have u3 : WF.heap[w.heap.size + 1 + 1 + 1]? = some (.cells #[.int .i64 (j : Int)] 3 (0, 0)) := by rw [hWF, t0]; simp
     have uB : Below w.heap.size w WF := by rw [hWF]; exact ((hbel.trans (hB9.mono hbel.size)).grown gA (hbel.trans (hB9.mono hbel.size)).size (fun b hb => by cases hb; omega)).grown gB (Nat.le_trans (hbel.trans (hB9.mono hbel.size)).size gA.size) (fun b hb => by cases hb; omega)
     have uK : ∀ B', KeepsFrom B' W2 WF := fun B' => by rw [hWF]; exact ((KeepsOthers.of_grownBy gA (fun j o e h => by cases e; rw [r2] at h; cases h; rfl)).trans (KeepsOthers.of_grownBy gB (fun j o e h => by cases e; rw [at_gb gA r3 (by omega)] at h; cases h; rfl))).from B'
     have HWF := zh hWF; have U2 := zh u2; have U3 := zh u3; have UB := zh uB; have UK := zh uK
     clear r2 r3 s0 s1 s2 s3 s4 s5 s6 gA t0 gB hWF u2 u3 uB uK
     obtain ⟨a', ea, -, e0, e1, e2, e3, e4, e5, e6⟩ := cl_at (HRD.out _ (HBEL.out.trans (HBY.out.mono HBEL.out.size))) HCL.out
     cases ea
     have y0 : W2.cell? ⟨w.heap.size, 0, none⟩ = some (.slice (some a) cs.length c1) := cell_of_row _ _ 0 _ _ _ ((HBY.out.block _ (blk_lt HK0.out)).trans HK0.out)
     clear hB9 hbel hsz
     gi_wp2
     rw [← HWF.out]
     exact ⟨((keeps_below HB1.out _).trans (keeps_below HBQ.out _)).trans (UK.out _), ⟨rfl, cl, j, HNX.out, U2.out, U3.out⟩, UB.out⟩)
 case done =>
  rintro D ys W hD rfl ⟨hn, hB⟩ hK
  have HN := zh hn
  clear hn
  have r2 : W.heap[w.heap.size + 1 + 1]? = some (.cells #[.string ⟨#[]⟩, .string ⟨#[]⟩, .bool false, .bool false, .slice none 0 0, .slice none 0 0, .slice none 0 0] 159 (0, 0)) := (hB.block _ (blk_lt HK2.out)).trans HK2.out
  have r3 : W.heap[w.heap.size + 1 + 1 + 1]? = some (.cells #[.int .i64 0] 3 (0, 0)) := (hB.block _ (blk_lt HK3.out)).trans HK3.out
  have q0 : W.cell? ⟨w.heap.size + 1 + 1, 0, none⟩ = some (.string ⟨#[]⟩) := cell_of_row _ _ 0 _ _ _ r2
  have qf0 := frozen_of_row _ _ 0 _ _ r2
  have q1 : W.cell? ⟨w.heap.size + 1 + 1, 1, none⟩ = some (.string ⟨#[]⟩) := cell_of_row _ _ 1 _ _ _ r2
  have qf1 := frozen_of_row _ _ 1 _ _ r2
  have q2 : W.cell? ⟨w.heap.size + 1 + 1, 2, none⟩ = some (.bool false) := cell_of_row _ _ 2 _ _ _ r2
  have qf2 := frozen_of_row _ _ 2 _ _ r2
  have q3 : W.cell? ⟨w.heap.size + 1 + 1, 3, none⟩ = some (.bool false) := cell_of_row _ _ 3 _ _ _ r2
  have qf3 := frozen_of_row _ _ 3 _ _ r2
  have q4 : W.cell? ⟨w.heap.size + 1 + 1, 4, none⟩ = some (.slice none 0 0) := cell_of_row _ _ 4 _ _ _ r2
  have qf4 := frozen_of_row _ _ 4 _ _ r2
  have q5 : W.cell? ⟨w.heap.size + 1 + 1, 5, none⟩ = some (.slice none 0 0) := cell_of_row _ _ 5 _ _ _ r2
  have qf5 := frozen_of_row _ _ 5 _ _ r2
  have q6 : W.cell? ⟨w.heap.size + 1 + 1, 6, none⟩ = some (.slice none 0 0) := cell_of_row _ _ 6 _ _ _ r2
  have qf6 := frozen_of_row _ _ 6 _ _ r2
  have p0 : W.cell? ⟨w.heap.size + 1 + 1 + 1, 0, none⟩ = some (.int .i64 0) := cell_of_row _ _ 0 _ _ _ r3
  have pf0 := frozen_of_row _ _ 0 _ _ r3
  have s0 := heap_setCell_same _ (w.heap.size + 1 + 1) 0 _ _ (.string ⟨#[]⟩) r2
  have s1 := heap_setCell_same _ (w.heap.size + 1 + 1) 1 _ _ (.string ⟨#[]⟩) s0
  have s2 := heap_setCell_same _ (w.heap.size + 1 + 1) 2 _ _ (.bool false) s1
  have s3 := heap_setCell_same _ (w.heap.size + 1 + 1) 3 _ _ (.bool false) s2
  have s4 := heap_setCell_same _ (w.heap.size + 1 + 1) 4 _ _ (.slice none 0 0) s3
  have s5 := heap_setCell_same _ (w.heap.size + 1 + 1) 5 _ _ (.slice none 0 0) s4
  have s6 := heap_setCell_same _ (w.heap.size + 1 + 1) 6 _ _ (.slice none 0 0) s5
  have gA : W.grownBy (((((((W.setCell ⟨w.heap.size + 1 + 1, 0, none⟩ (.string ⟨#[]⟩)).setCell ⟨w.heap.size + 1 + 1, 1, none⟩ (.string ⟨#[]⟩)).setCell ⟨w.heap.size + 1 + 1, 2, none⟩ (.bool false)).setCell ⟨w.heap.size + 1 + 1, 3, none⟩ (.bool false)).setCell ⟨w.heap.size + 1 + 1, 4, none⟩ (.slice none 0 0)).setCell ⟨w.heap.size + 1 + 1, 5, none⟩ (.slice none 0 0)).setCell ⟨w.heap.size + 1 + 1, 6, none⟩ (.slice none 0 0)) (some (w.heap.size + 1 + 1)) := gb_trans (gb_trans (gb_trans (gb_trans (gb_trans (gb_trans (gb_set _ (w.heap.size + 1 + 1) 0 _) (gb_set _ (w.heap.size + 1 + 1) 1 _)) (gb_set _ (w.heap.size + 1 + 1) 2 _)) (gb_set _ (w.heap.size + 1 + 1) 3 _)) (gb_set _ (w.heap.size + 1 + 1) 4 _)) (gb_set _ (w.heap.size + 1 + 1) 5 _)) (gb_set _ (w.heap.size + 1 + 1) 6 _)
  have t0 := heap_setCell_same _ (w.heap.size + 1 + 1 + 1) 0 _ _ (.int .i64 (-1)) (at_gb gA r3 (by omega))
  have gB := gb_set (((((((W.setCell ⟨w.heap.size + 1 + 1, 0, none⟩ (.string ⟨#[]⟩)).setCell ⟨w.heap.size + 1 + 1, 1, none⟩ (.string ⟨#[]⟩)).setCell ⟨w.heap.size + 1 + 1, 2, none⟩ (.bool false)).setCell ⟨w.heap.size + 1 + 1, 3, none⟩ (.bool false)).setCell ⟨w.heap.size + 1 + 1, 4, none⟩ (.slice none 0 0)).setCell ⟨w.heap.size + 1 + 1, 5, none⟩ (.slice none 0 0)).setCell ⟨w.heap.size + 1 + 1, 6, none⟩ (.slice none 0 0)) (w.heap.size + 1 + 1 + 1) 0 (.int .i64 (-1))
  obtain ⟨WF, hWF⟩ : ∃ WF, WF = ((((((((W.setCell ⟨w.heap.size + 1 + 1, 0, none⟩ (.string ⟨#[]⟩)).setCell ⟨w.heap.size + 1 + 1, 1, none⟩ (.string ⟨#[]⟩)).setCell ⟨w.heap.size + 1 + 1, 2, none⟩ (.bool false)).setCell ⟨w.heap.size + 1 + 1, 3, none⟩ (.bool false)).setCell ⟨w.heap.size + 1 + 1, 4, none⟩ (.slice none 0 0)).setCell ⟨w.heap.size + 1 + 1, 5, none⟩ (.slice none 0 0)).setCell ⟨w.heap.size + 1 + 1, 6, none⟩ (.slice none 0 0)).setCell ⟨w.heap.size + 1 + 1 + 1, 0, none⟩ (.int .i64 (-1))) := ⟨_, rfl⟩
  have u2 : WF.heap[w.heap.size + 1 + 1]? = some (.cells #[.string ⟨#[]⟩, .string ⟨#[]⟩, .bool false, .bool false, .slice none 0 0, .slice none 0 0, .slice none 0 0] 159 (0, 0)) := by rw [hWF]; refine at_gb gB ?_ (by omega); rw [s6]; simp
  have u3 : WF.heap[w.heap.size + 1 + 1 + 1]? = some (.cells #[.int .i64 (-1)] 3 (0, 0)) := by rw [hWF, t0]; simp
  have uB : Below w.heap.size w WF := by rw [hWF]; exact ((hbel.trans (hB.mono hbel.size)).grown gA (hbel.trans (hB.mono hbel.size)).size (fun b hb => by cases hb; omega)).grown gB (Nat.le_trans (hbel.trans (hB.mono hbel.size)).size gA.size) (fun b hb => by cases hb; omega)
  have uK : ∀ B', KeepsFrom B' W WF := fun B' => by rw [hWF]; exact ((KeepsOthers.of_grownBy gA (fun j o e h => by cases e; rw [r2] at h; cases h; rfl)).trans (KeepsOthers.of_grownBy gB (fun j o e h => by cases e; rw [at_gb gA r3 (by omega)] at h; cases h; rfl))).from B'
  have HWF := zh hWF; have U2 := zh u2; have U3 := zh u3; have UB := zh uB; have UK := zh uK
  clear r2 r3 s0 s1 s2 s3 s4 s5 s6 gA t0 gB hWF u2 u3 uB uK
  have hK' := (UK.out W0.heap.size).same D _ (by omega) hK rfl
  clear hK
  gi_wp2
  rw [← HWF.out]
  refine ⟨by simp, .inl ⟨_, _, rfl, run_takeDeferred hK', ?_⟩⟩
  have v2 := heap_kept U2.out (grownBy_putObj' _ D (.deferred none)) (fun r e => by cases e; exact ⟨_, hK', rfl⟩)
  have v3 := heap_kept U3.out (grownBy_putObj' _ D (.deferred none)) (fun r e => by cases e; exact ⟨_, hK', rfl⟩)
  obtain ⟨z0, z1, z2, z3, z4, z5, z6⟩ := c7q v2
  have z7 : (WF.putObj D (.deferred none)).cell? ⟨w.heap.size + 1 + 1 + 1, 0, none⟩ = some (.int .i64 (-1)) := cell_of_row _ _ 0 _ _ _ v3
  refine ⟨.tuple #[.agg #[.string ⟨#[]⟩, .string ⟨#[]⟩, .bool false, .bool false, .slice none 0 0, .slice none 0 0, .slice none 0 0], .int .i64 (-1)], ?_, by rw [firstR_none HN.out]; rfl, UB.out.trans (belowK_b (w := w) (Nat.le_refl _) _ D _ _ (by omega) hK' rfl rfl)⟩
  simp [results, Tryz.results100, go_sem, z0, z1, z2, z3, z4, z5, z6, z7]
 case stop =>
  rintro D cd pre W hD hpre ⟨⟨rfl, cl, k, hf, h2, h3⟩, hB⟩ hK
  have hfr := firstR_some (firstM_pre hpre hf)
  clear hf
  gi_wp2
  refine ⟨by simp, .inl ⟨_, _, rfl, run_takeDeferred hK, ?_⟩⟩
  have v2 := heap_kept h2 (grownBy_putObj' _ D (.deferred none)) (fun r e => by cases e; exact ⟨_, hK, rfl⟩)
  have v3 := heap_kept h3 (grownBy_putObj' _ D (.deferred none)) (fun r e => by cases e; exact ⟨_, hK, rfl⟩)
  obtain ⟨z0, z1, z2, z3, z4, z5, z6⟩ := c7q v2
  have z7 : (W.putObj D (.deferred none)).cell? ⟨w.heap.size + 1 + 1 + 1, 0, none⟩ = some (.int .i64 (k : Int)) := cell_of_row _ _ 0 _ _ _ v3
  refine ⟨.tuple #[.agg #[.string ⟨cl.nm.toArray⟩, .string ⟨cl.su.toArray⟩, .bool cl.fc, .bool cl.ab, .slice cl.A1 cl.is.length cl.c1, .slice cl.A2 cl.fs.length cl.c2, .slice cl.A3 cl.ms.length cl.c3], .int .i64 (k : Int)], ?_, by rw [hfr]; rfl, hB.trans (belowK_b (w := w) (Nat.le_refl _) W D _ _ (by omega) hK rfl rfl)⟩
  simp [results, Tryz.results100, go_sem, z0, z1, z2, z3, z4, z5, z6, z7]
end Go.Proofs.YtjejmlpjifhmmaaGreatDoor.find

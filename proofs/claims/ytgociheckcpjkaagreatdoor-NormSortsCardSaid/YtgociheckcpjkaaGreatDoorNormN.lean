/- NormN -/
import Derived.Test.YtgociheckcpjkaaGreatDoorNormK
import Derived.Test.YtgociheckcpjkaaGreatDoorRef
import Derived.Deep.RegionHeld3
import Derived.Test.YtgociheckcpjkaaGreatDoorStep
namespace Go.Proofs.YtgociheckcpjkaaGreatDoor.prg
open Go.RowKit
open words kindp opp op kind word
set_option maxRecDepth 100000
set_option maxHeartbeats 16000000
set_option linter.all false
def GrI (x : InM) : Prop := x.i.ar.length ≤ 60 ∧ x.i.cl.length ≤ 300 ∧ x.i.nm.length ≤ 300 ∧ x.i.ds.length ≤ 300
def GrM (m : MeM) : Prop := (m.co.length ≤ 300 ∧ m.nm.length ≤ 300 ∧ m.ds.length ≤ 300) ∧ ∀ x ∈ m.co, GrI x
def GrC (c : ClM) : Prop := (c.is.length ≤ 40 ∧ c.fs.length ≤ 40 ∧ c.ms.length ≤ 40 ∧ c.nm.length ≤ 300 ∧ c.su.length ≤ 300) ∧ ∀ m ∈ c.ms, GrM m
def GrP (p : PrM) : Prop := (p.cs.length ≤ 70 ∧ p.ns.length ≤ 70) ∧ ∀ c ∈ p.cs, GrC c
def GrW (x : PrM) (w : World) (e : Ending) (w' : World) : Prop := ∃ g, e = .returned (.bool g) ∧ (g = false → GrP x) ∧ Below w.heap.size w w'
theorem gr_mk {x : PrM} {w w' : World} {e : Ending} {g : Bool} (h : e = .returned (.bool g)) (h1 : g = false → GrP x) (h2 : Below w.heap.size w w') : GrW x w e w' := ⟨g, h, h1, h2⟩
theorem all_more {α : Type} {P : α → Prop} {l : List α} {k : Nat} {x : α} (h : ∀ y ∈ l.take k, P y) (hx : l[k]? = some x) (hp : P x) : ∀ y ∈ l.take (k + 1), P y := by
 intro y hy
 rw [List.take_add_one, hx, List.mem_append] at hy
 rcases hy with hy | hy
 ·exact h y hy
 ·simp at hy; subst hy; exact hp
theorem great_w (x : PrM) (w : World) (hk : PrOk w x) (hb : PrBd x) : Calls Tryz.prog 4 #[.agg (prC x).toArray] w (GrW x w) := by
 obtain ⟨W, hW⟩ : ∃ W, W = w.alloc (.cells (prC x).toArray 27) := ⟨_, rfl⟩
 have hal : Below w.heap.size w W := by rw [hW]; exact (Below.refl _ w).alloc (Nat.le_refl _) _
 have HAL := hh hal
 have hblk : W.heap[w.heap.size]? = some (.cells (prC x).toArray 27 (0, 0)) := by rw [hW]; exact heap_alloc_new w _
 have HBK := hh hblk; have HLT := hh (blk_lt hblk)
 obtain ⟨x0_0, x0_1, x0_2, x0_3, x0_4⟩ := pr_cells hblk
 have K0 := hh (Below.refl W.heap.size W)
 have HKW := hh (hk.below hal)
 have HBD := hh hb
 have l1 : x.cs.length ≤ 281474976710656 := by have := hb.1.1; omega
 have l2 : x.ns.length ≤ 281474976710656 := by have := hb.2.1.1; omega
 obtain ⟨n, hn⟩ : ∃ n, n = x.cs.length := ⟨_, rfl⟩
 rw [← hn] at x0_0 l1
 obtain ⟨n2, hn2⟩ : ∃ n, n = x.ns.length := ⟨_, rfl⟩
 rw [← hn2] at x0_1 l2
 have nI : (n : Int) ≤ 281474976710656 := by omega
 have n2I : (n2 : Int) ≤ 281474976710656 := by omega
 unfold prC at hW ⊢
 try dsimp only at hW ⊢
 rw [← hn, ← hn2] at hW ⊢
 have HW := hh hW
 have HN := hh hn; have HN2 := hh hn2
 clear hal hblk hW hk hb l1 l2 hn hn2
 by_cases pn : 70 < n
 ·have gin : (70 : Int) < (n : Int) := by omega
  have gdn : decide ((70 : Int) < (n : Int)) = true := decide_eq_true gin
  go_enter Tryz.func4, Tryz.ntmps4
  go_wp2_with fail
  rw [← HW.out]
  (try go_wp2)
  go_ret
  exact gr_mk (g := true) rfl (fun h => by cases h) HAL.out
 have jn : ¬ (70 : Int) < (n : Int) := by omega
 by_cases pn2 : 70 < n2
 ·have gin2 : (70 : Int) < (n2 : Int) := by omega
  have gdn2 : decide ((70 : Int) < (n2 : Int)) = true := decide_eq_true gin2
  go_enter Tryz.func4, Tryz.ntmps4
  go_wp2_with fail
  rw [← HW.out]
  (try go_wp2)
  go_ret
  exact gr_mk (g := true) rfl (fun h => by cases h) HAL.out
 have jn2 : ¬ (70 : Int) < (n2 : Int) := by omega
 have dj : decide ((70 : Int) < (n2 : Int)) = false := decide_eq_false jn2
 go_enter Tryz.func4, Tryz.ntmps4
 go_wp2_with fail
 rw [← HW.out]
 (try go_wp2)
 go_loopw [3] (fun i wr => ∃ k : Nat, i = .int .i64 (k : Int) ∧ k ≤ n ∧ (∀ c ∈ x.cs.take k, GrC c) ∧ Below W.heap.size W wr) (fun i _ => n - (intOf i).toNat)
 case atStart => exact ⟨0, rfl, Nat.zero_le _, by simp, Below.refl _ _⟩
 case round =>
  obtain ⟨k, rfl, hk, hall, hbw⟩ := hrel
  obtain ⟨wa, hwa⟩ : ∃ v, v = wr := ⟨_, rfl⟩
  subst hwa
  have HA := hh hall; have HB := hh hbw
  obtain ⟨x1_0, x1_1, x1_2, x1_3, x1_4⟩ := pr_cells ((hbw.block _ HLT.out).trans HBK.out)
  rw [← HN.out] at x1_0
  rw [← HN2.out] at x1_1
  clear hall x0_0 x0_1 x0_2 x0_3 x0_4 dj jn2
  by_cases hlt : k < n
  ·have hltI : (k : Int) < (n : Int) := by omega
   obtain ⟨y, hy⟩ : ∃ y, x.cs[k]? = some y := ⟨x.cs[k]'(by rw [← HN.out]; exact hlt), List.getElem?_eq_getElem _⟩
   have hmem := List.mem_of_getElem? hy
   have hok := HKW.out.2.2 y hmem
   have hbd := HBD.out.1.2 y hmem
   obtain ⟨a, ea, ha, c0, c1, c2, c3, c4, c5, c6⟩ := cl_at (HKW.out.1.2.below hbw) hy
   rw [ea] at x1_0
   have HEA := hh ea
   have q1 := hbd.2.2.1.1
   have q2 := hbd.2.2.2.1.1
   have q3 := hbd.2.2.2.2.1
   have s4 := mk_sz y.nm
   have s5 := mk_sz y.su
   have q4 := hbd.1
   have q5 := hbd.2.1
   obtain ⟨m1, hm1⟩ : ∃ n, n = y.is.length := ⟨_, rfl⟩
   rw [← hm1] at c4 q1
   obtain ⟨m2, hm2⟩ : ∃ n, n = y.fs.length := ⟨_, rfl⟩
   rw [← hm2] at c5 q2
   obtain ⟨m3, hm3⟩ : ∃ n, n = y.ms.length := ⟨_, rfl⟩
   rw [← hm3] at c6 q3
   obtain ⟨m4, hm4⟩ : ∃ n, n = y.nm.length := ⟨_, rfl⟩
   rw [← hm4] at s4 q4
   obtain ⟨m5, hm5⟩ : ∃ n, n = y.su.length := ⟨_, rfl⟩
   rw [← hm5] at s5 q5
   have m1I : (m1 : Int) ≤ 281474976710656 := by omega
   have m2I : (m2 : Int) ≤ 281474976710656 := by omega
   have m3I : (m3 : Int) ≤ 281474976710656 := by omega
   have m4I : (m4 : Int) ≤ 281474976710656 := by omega
   have m5I : (m5 : Int) ≤ 281474976710656 := by omega
   have HOK := hh hok; have HBY := hh hbd; have HY := hh hy; have HMM := hh hmem
   have H1 := hh hm1; have H2 := hh hm2; have H3 := hh hm3; have H4 := hh hm4; have H5 := hh hm5
   have hax := hbw.alloc hbw.size (.cells (clC y).toArray 35)
   unfold clC at hax
   try dsimp only at hax
   rw [← hm1, ← hm2, ← hm3] at hax
   have HAX := hh hax
   clear hok hbd hy hmem hm1 hm2 hm3 hm4 hm5 hax q1 q2 q3 q4 q5 ea hbw ha
   by_cases pm1 : 40 < m1
   ·have gim1 : (40 : Int) < (m1 : Int) := by omega
    have gdm1 : decide ((40 : Int) < (m1 : Int)) = true := decide_eq_true gim1
    go_wp2
    go_ret
    exact gr_mk (g := true) rfl (fun h => by cases h) (HAL.out.trans (HAX.out.mono HAL.out.size))
   have jm1 : ¬ (40 : Int) < (m1 : Int) := by omega
   by_cases pm2 : 40 < m2
   ·have gim2 : (40 : Int) < (m2 : Int) := by omega
    have gdm2 : decide ((40 : Int) < (m2 : Int)) = true := decide_eq_true gim2
    go_wp2
    go_ret
    exact gr_mk (g := true) rfl (fun h => by cases h) (HAL.out.trans (HAX.out.mono HAL.out.size))
   have jm2 : ¬ (40 : Int) < (m2 : Int) := by omega
   by_cases pm3 : 40 < m3
   ·have gim3 : (40 : Int) < (m3 : Int) := by omega
    have gdm3 : decide ((40 : Int) < (m3 : Int)) = true := decide_eq_true gim3
    go_wp2
    go_ret
    exact gr_mk (g := true) rfl (fun h => by cases h) (HAL.out.trans (HAX.out.mono HAL.out.size))
   have jm3 : ¬ (40 : Int) < (m3 : Int) := by omega
   by_cases pm4 : 300 < m4
   ·have gim4 : (300 : Int) < (m4 : Int) := by omega
    have gdm4 : decide ((300 : Int) < (m4 : Int)) = true := decide_eq_true gim4
    go_wp2
    go_ret
    exact gr_mk (g := true) rfl (fun h => by cases h) (HAL.out.trans (HAX.out.mono HAL.out.size))
   have jm4 : ¬ (300 : Int) < (m4 : Int) := by omega
   by_cases pm5 : 300 < m5
   ·have gim5 : (300 : Int) < (m5 : Int) := by omega
    have gdm5 : decide ((300 : Int) < (m5 : Int)) = true := decide_eq_true gim5
    go_wp2
    go_ret
    exact gr_mk (g := true) rfl (fun h => by cases h) (HAL.out.trans (HAX.out.mono HAL.out.size))
   have jm5 : ¬ (300 : Int) < (m5 : Int) := by omega
   have dj : decide ((300 : Int) < (m5 : Int)) = false := decide_eq_false jm5
   have HG := hh (show m1 ≤ 40 ∧ m2 ≤ 40 ∧ m3 ≤ 40 ∧ m4 ≤ 300 ∧ m5 ≤ 300 by omega)
   go_wp2
   clear c0 c1 c2 c3 c4 c5 c6 dj jm1 jm2 jm3 jm4 jm5 pm1 pm2 pm3 pm4 pm5 s4 s5 m1I m2I m4I m5I
   have HXB := hh (heap_alloc_new wa (.cells #[.string ⟨y.nm.toArray⟩, .string ⟨y.su.toArray⟩, .bool y.fc, .bool y.ab, .slice y.A1 m1 y.c1, .slice y.A2 m2 y.c2, .slice y.A3 m3 y.c3] 35))
   have HXL := hh (blk_lt HXB.out)
   go_loopw [5] (fun i ws => ∃ k2 : Nat, i = .int .i64 (k2 : Int) ∧ k2 ≤ m3 ∧ (∀ m ∈ y.ms.take k2, GrM m) ∧ Below W.heap.size W ws ∧ ws.heap[wa.heap.size]? = some (.cells #[.string ⟨y.nm.toArray⟩, .string ⟨y.su.toArray⟩, .bool y.fc, .bool y.ab, .slice y.A1 m1 y.c1, .slice y.A2 m2 y.c2, .slice y.A3 m3 y.c3] 35 (0, 0))) (fun i _ => m3 - (intOf i).toNat)
   case atStart => exact ⟨0, rfl, Nat.zero_le _, by simp, HAX.out, HXB.out⟩
   case round =>
    obtain ⟨k2, rfl, hk2, hall2, hbs, hxs⟩ := hrel
    obtain ⟨ws, hws⟩ : ∃ v, v = wr := ⟨_, rfl⟩
    subst hws
    have HA2 := hh hall2; have HB2 := hh hbs; have HX2 := hh hxs
    have z6 : ws.cell? ⟨wa.heap.size, 6, none⟩ = some (.slice y.A3 m3 y.c3) := cell_of_row _ _ 6 _ _ _ hxs
    clear hall2 hxs x1_0 x1_1 x1_2 x1_3 x1_4
    by_cases hlt2 : k2 < m3
    ·have hltI2 : (k2 : Int) < (m3 : Int) := by omega
     obtain ⟨z, hz⟩ : ∃ z, y.ms[k2]? = some z := ⟨y.ms[k2]'(by rw [← H3.out]; exact hlt2), List.getElem?_eq_getElem _⟩
     have hmem := List.mem_of_getElem? hz
     have hok := HOK.out.2.2.2 z hmem
     have hbd := HBY.out.2.2.2.2.2 z hmem
     obtain ⟨b, eb, hbl, d0, d1, d2, d3, d4, d5⟩ := me_at (HOK.out.2.2.1.2.below hbs) hz
     rw [eb] at z6
     have HEB := hh eb
     have q1 := hbd.2.2.1
     have s2 := mk_sz z.nm
     have s3 := mk_sz z.ds
     have q2 := hbd.1
     have q3 := hbd.2.1
     obtain ⟨r1, hr1⟩ : ∃ n, n = z.co.length := ⟨_, rfl⟩
     rw [← hr1] at d5 q1
     obtain ⟨r2, hr2⟩ : ∃ n, n = z.nm.length := ⟨_, rfl⟩
     rw [← hr2] at s2 q2
     obtain ⟨r3, hr3⟩ : ∃ n, n = z.ds.length := ⟨_, rfl⟩
     rw [← hr3] at s3 q3
     have r1I : (r1 : Int) ≤ 281474976710656 := by omega
     have r2I : (r2 : Int) ≤ 281474976710656 := by omega
     have r3I : (r3 : Int) ≤ 281474976710656 := by omega
     have HOZ := hh hok; have HBZ := hh hbd; have HZ := hh hz
     have H6 := hh hr1; have H7 := hh hr2; have H8 := hh hr3
     have hax2 := hbs.alloc hbs.size (.cells (meC z).toArray 38)
     have hxb2 := (Below.heap_alloc ws (.cells (meC z).toArray 38) wa.heap.size (blk_lt HX2.out)).trans HX2.out
     unfold meC at hax2 hxb2
     try dsimp only at hax2 hxb2
     rw [← hr1] at hax2 hxb2
     have HAX2 := hh hax2; have HXB2 := hh hxb2
     clear hok hbd hz hmem hr1 hr2 hr3 hax2 hxb2 q1 q2 q3 eb hbl hbs
     by_cases pr1 : 300 < r1
     ·have gir1 : (300 : Int) < (r1 : Int) := by omega
      have gdr1 : decide ((300 : Int) < (r1 : Int)) = true := decide_eq_true gir1
      go_wp2
      go_ret
      exact gr_mk (g := true) rfl (fun h => by cases h) (HAL.out.trans (HAX2.out.mono HAL.out.size))
     have jr1 : ¬ (300 : Int) < (r1 : Int) := by omega
     by_cases pr2 : 300 < r2
     ·have gir2 : (300 : Int) < (r2 : Int) := by omega
      have gdr2 : decide ((300 : Int) < (r2 : Int)) = true := decide_eq_true gir2
      go_wp2
      go_ret
      exact gr_mk (g := true) rfl (fun h => by cases h) (HAL.out.trans (HAX2.out.mono HAL.out.size))
     have jr2 : ¬ (300 : Int) < (r2 : Int) := by omega
     by_cases pr3 : 300 < r3
     ·have gir3 : (300 : Int) < (r3 : Int) := by omega
      have gdr3 : decide ((300 : Int) < (r3 : Int)) = true := decide_eq_true gir3
      go_wp2
      go_ret
      exact gr_mk (g := true) rfl (fun h => by cases h) (HAL.out.trans (HAX2.out.mono HAL.out.size))
     have jr3 : ¬ (300 : Int) < (r3 : Int) := by omega
     have dj : decide ((300 : Int) < (r3 : Int)) = false := decide_eq_false jr3
     have HG2 := hh (show r1 ≤ 300 ∧ r2 ≤ 300 ∧ r3 ≤ 300 by omega)
     go_wp2
     clear d0 d1 d2 d3 d4 d5 dj jr1 jr2 jr3 pr1 pr2 pr3 s2 s3 r2I r3I z6
     have HYB := hh (heap_alloc_new ws (.cells #[.string ⟨z.nm.toArray⟩, .string ⟨z.ds.toArray⟩, .bool z.st, .bool z.ab, .int .i64 z.rg, .slice z.A r1 z.c] 38))
     go_loopw [7] (fun i wt => ∃ k3 : Nat, i = .int .i64 (k3 : Int) ∧ k3 ≤ r1 ∧ (∀ t ∈ z.co.take k3, GrI t) ∧ Below W.heap.size W wt ∧ wt.heap[wa.heap.size]? = some (.cells #[.string ⟨y.nm.toArray⟩, .string ⟨y.su.toArray⟩, .bool y.fc, .bool y.ab, .slice y.A1 m1 y.c1, .slice y.A2 m2 y.c2, .slice y.A3 m3 y.c3] 35 (0, 0)) ∧ wt.heap[ws.heap.size]? = some (.cells #[.string ⟨z.nm.toArray⟩, .string ⟨z.ds.toArray⟩, .bool z.st, .bool z.ab, .int .i64 z.rg, .slice z.A r1 z.c] 38 (0, 0))) (fun i _ => r1 - (intOf i).toNat)
     case atStart => exact ⟨0, rfl, Nat.zero_le _, by simp, HAX2.out, HXB2.out, HYB.out⟩
     case round =>
      obtain ⟨k3, rfl, hk3, hall3, hbt, hxt, hyt⟩ := hrel
      obtain ⟨wt, hwt⟩ : ∃ v, v = wr := ⟨_, rfl⟩
      subst hwt
      have HA3 := hh hall3; have HB3 := hh hbt; have HX3 := hh hxt
      have z5 : wt.cell? ⟨ws.heap.size, 5, none⟩ = some (.slice z.A r1 z.c) := cell_of_row _ _ 5 _ _ _ hyt
      have HY3 := hh hyt
      clear hall3 hxt hyt
      by_cases hlt3 : k3 < r1
      ·have hltI3 : (k3 : Int) < (r1 : Int) := by omega
       obtain ⟨t, ht⟩ : ∃ t, z.co[k3]? = some t := ⟨z.co[k3]'(by rw [← H6.out]; exact hlt3), List.getElem?_eq_getElem _⟩
       have hmem := List.mem_of_getElem? ht
       have hbd := HBZ.out.2.2.2 t hmem
       obtain ⟨c, ec, hcl, e0, e1, e2, e3, e4, e5, e6, e7, e8⟩ := in_at (HOZ.out.2.1.below hbt) ht
       rw [ec] at z5
       have q1 := hbd.1
       have s2 := mk_sz t.i.cl
       have s3 := mk_sz t.i.nm
       have s4 := mk_sz t.i.ds
       have q2 := hbd.2.1
       have q3 := hbd.2.2.1
       have q4 := hbd.2.2.2
       obtain ⟨u1, hu1⟩ : ∃ n, n = t.i.ar.length := ⟨_, rfl⟩
       rw [← hu1] at e8 q1
       obtain ⟨u2, hu2⟩ : ∃ n, n = t.i.cl.length := ⟨_, rfl⟩
       rw [← hu2] at s2 q2
       obtain ⟨u3, hu3⟩ : ∃ n, n = t.i.nm.length := ⟨_, rfl⟩
       rw [← hu3] at s3 q3
       obtain ⟨u4, hu4⟩ : ∃ n, n = t.i.ds.length := ⟨_, rfl⟩
       rw [← hu4] at s4 q4
       have u1I : (u1 : Int) ≤ 281474976710656 := by omega
       have u2I : (u2 : Int) ≤ 281474976710656 := by omega
       have u3I : (u3 : Int) ≤ 281474976710656 := by omega
       have u4I : (u4 : Int) ≤ 281474976710656 := by omega
       have HT := hh ht
       have H9 := hh hu1; have H10 := hh hu2; have H11 := hh hu3; have H12 := hh hu4
       clear hbd ht hmem hu1 hu2 hu3 hu4 q1 q2 q3 q4 ec hcl hbt
       by_cases pu1 : 60 < u1
       ·have giu1 : (60 : Int) < (u1 : Int) := by omega
        have gdu1 : decide ((60 : Int) < (u1 : Int)) = true := decide_eq_true giu1
        go_wp2
        go_ret
        exact gr_mk (g := true) rfl (fun h => by cases h) (HAL.out.trans (HB3.out.mono HAL.out.size))
       have ju1 : ¬ (60 : Int) < (u1 : Int) := by omega
       by_cases pu2 : 300 < u2
       ·have giu2 : (300 : Int) < (u2 : Int) := by omega
        have gdu2 : decide ((300 : Int) < (u2 : Int)) = true := decide_eq_true giu2
        go_wp2
        go_ret
        exact gr_mk (g := true) rfl (fun h => by cases h) (HAL.out.trans (HB3.out.mono HAL.out.size))
       have ju2 : ¬ (300 : Int) < (u2 : Int) := by omega
       by_cases pu3 : 300 < u3
       ·have giu3 : (300 : Int) < (u3 : Int) := by omega
        have gdu3 : decide ((300 : Int) < (u3 : Int)) = true := decide_eq_true giu3
        go_wp2
        go_ret
        exact gr_mk (g := true) rfl (fun h => by cases h) (HAL.out.trans (HB3.out.mono HAL.out.size))
       have ju3 : ¬ (300 : Int) < (u3 : Int) := by omega
       by_cases pu4 : 300 < u4
       ·have giu4 : (300 : Int) < (u4 : Int) := by omega
        have gdu4 : decide ((300 : Int) < (u4 : Int)) = true := decide_eq_true giu4
        go_wp2
        go_ret
        exact gr_mk (g := true) rfl (fun h => by cases h) (HAL.out.trans (HB3.out.mono HAL.out.size))
       have ju4 : ¬ (300 : Int) < (u4 : Int) := by omega
       have dj : decide ((300 : Int) < (u4 : Int)) = false := decide_eq_false ju4
       have HG3 := hh (show GrI t from ⟨by rw [← H9.out]; omega, by rw [← H10.out]; omega, by rw [← H11.out]; omega, by rw [← H12.out]; omega⟩)
       go_wp2
       go_roundw
       case rel => exact ⟨k3 + 1, by go_num, by omega, all_more HA3.out HT.out HG3.out, HB3.out, HX3.out, HY3.out⟩
       case measure => simp [intOf]; omega
      ·have hltI3 : ¬ (k3 : Int) < (r1 : Int) := by omega
       have hcm := HA3.out
       rw [List.take_of_length_le (by rw [← H6.out]; omega)] at hcm
       have HGM := hh (show GrM z from ⟨⟨by rw [← H6.out]; exact HG2.out.1, by rw [← H7.out]; exact HG2.out.2.1, by rw [← H8.out]; exact HG2.out.2.2⟩, hcm⟩)
       clear hcm hbt
       go_wp2
       go_roundw
       case rel => exact ⟨k2 + 1, by go_num, by omega, all_more HA2.out HZ.out HGM.out, HB3.out, HX3.out⟩
       case measure => simp [intOf]; omega
    ·have hltI2 : ¬ (k2 : Int) < (m3 : Int) := by omega
     have hcm := HA2.out
     rw [List.take_of_length_le (by rw [← H3.out]; omega)] at hcm
     have HGC := hh (show GrC y from ⟨⟨by rw [← H1.out]; exact HG.out.1, by rw [← H2.out]; exact HG.out.2.1, by rw [← H3.out]; exact HG.out.2.2.1, by rw [← H4.out]; exact HG.out.2.2.2.1, by rw [← H5.out]; exact HG.out.2.2.2.2⟩, hcm⟩)
     clear hcm hbs
     go_wp2
     go_roundw
     case rel => exact ⟨k + 1, by go_num, by omega, all_more HA.out HY.out HGC.out, HB2.out⟩
     case measure => simp [intOf]; omega
  ·have hltI : ¬ (k : Int) < (n : Int) := by omega
   have hcm := HA.out
   rw [List.take_of_length_le (by rw [← HN.out]; omega)] at hcm
   have HGP := hh (show GrP x from ⟨⟨by rw [← HN.out]; omega, by rw [← HN2.out]; omega⟩, hcm⟩)
   clear hcm hbw
   go_wp2
   go_ret
   exact gr_mk (g := false) rfl (fun _ => HGP.out) (HAL.out.trans (HB.out.mono HAL.out.size))
end Go.Proofs.YtgociheckcpjkaaGreatDoor.prg
namespace Go.Proofs.YtgociheckcpjkaaGreatDoor.prg
open Go.RowKit
open words kindp opp op kind word
set_option maxRecDepth 100000
set_option maxHeartbeats 16000000
set_option linter.all false
theorem row_apart {W w1 : World} {base B k size : Nat} {t e : TypeId} {v : Value} {xs : List Value} {cs : Array Value} {fz : Nat × Nat} (h : W.heap[B]? = some (.cells cs t fz)) (hte : t ≠ e)
  (hrow : W.ownsRow base e size v k xs) (hgrow : W.grownBy w1 v.ownBlock) : w1.heap[B]? = some (.cells cs t fz) := by
 have hlt := (Array.getElem?_eq_some_iff.1 h).1
 have hnr : some B ≠ v.ownBlock := by
  rcases hrow.2 with ⟨rfl, _⟩ | ⟨g, cap, cur, rfl, _, hgb, _⟩
  ·simp [Value.ownBlock]
  ·intro e'
   obtain rfl : B = g := by simpa [Value.ownBlock] using e'
   rw [h] at hgb
   simp only [Option.some.injEq, Obj.cells.injEq] at hgb
   exact hte hgb.2.1
 exact (hgrow.block B hlt hnr).trans h
theorem own_more {w : World} {base : Nat} {v : Value} {a b c : List Tx} {n : Nat} (hn : b.length = n) (hc : c = a ++ b) (h : w.ownsRow base 9 1 v (a.length + n) (SX a ++ SX b)) : w.ownsRow base 9 1 v c.length (SX c) := by
 rw [hc, SX_app, List.length_append, hn]; exact h
theorem SX_one (l : List Tx) : ∀ u ∈ SX l, u.oneCell' = true := by
 intro u hu
 simp only [SX, List.mem_map] at hu
 obtain ⟨x, _, rfl⟩ := hu
 rfl
theorem filled_take {l : List Tx} {k : Nat} {x : Tx} (h : l[k]? = some x) : filledL (l.take (k + 1)) = filledL (l.take k) ++ (if (x == []) = true then [] else [x]) := by
 unfold filledL
 rw [List.take_add_one, h, List.filter_append]
 cases hx : (x == []) <;> simp_all
def FilW (l : List Tx) (w : World) (e : Ending) (w' : World) : Prop := (∃ A c, e = .returned (.slice A (filledL l).length c) ∧ Rd w' A (SX (filledL l))) ∧ Below w.heap.size w w'
theorem filled_w (A : Option Addr) (c : Nat) (l : List Tx) (w : World) (hr : Rd w A (SX l)) (hl : l.length ≤ 1000) : Calls Tryz.prog 48 #[.slice A l.length c] w (FilW l w) := by
 obtain ⟨i1, hj0, hy0, hy1, hy2⟩ := info_parts infoX
 obtain ⟨n, hn⟩ : ∃ n, n = l.length := ⟨_, rfl⟩
 rw [← hn] at hl ⊢
 have hnI : (n : Int) ≤ 1000 := by omega
 have HN := hh hn; have HRD := hh hr
 clear hr hn
 go_enter Tryz.func48, Tryz.ntmps48
 go_wp2
 go_loopw [3, 8] (fun v i wr => ∃ k : Nat, i = .int .i64 (k : Int) ∧ k ≤ n ∧ wr.ownsRow w.heap.size 9 1 v (filledL (l.take k)).length (SX (filledL (l.take k))) ∧ Below w.heap.size w wr) (fun _ i _ => n - (intOf i).toNat)
 case atStart => exact ⟨0, rfl, Nat.zero_le _, World.ownsRow_nil _ _ _ _, Below.refl _ _⟩
 case round =>
  obtain ⟨k, rfl, hk, hown, hbw⟩ := hrel
  have HO := hh hown; have HB := hh hbw
  have hsz := hbw.size
  by_cases hlt : k < n
  ·have hltI : (k : Int) < (n : Int) := by omega
   obtain ⟨x, hx⟩ : ∃ x, l[k]? = some x := ⟨l[k]'(by rw [← HN.out]; exact hlt), List.getElem?_eq_getElem _⟩
   obtain ⟨a, rfl, ha, c0⟩ := (HRD.out.below hbw).at_ (sx_get hx)
   have hft := filled_take hx
   have hfl := filled_len (l.take k)
   rw [List.length_take] at hfl
   obtain ⟨acc, hacc⟩ : ∃ acc, acc = filledL (l.take k) := ⟨_, rfl⟩
   rw [← hacc] at HO hft hfl
   have hal : acc.length ≤ n := by omega
   cases h0 : (x == []) with
   | true =>
    have g1 := e_empty h0
    rw [h0, if_pos rfl, List.append_nil] at hft
    have HFT := hh hft
    clear hown hx ha hft hfl h0 hbw hacc
    go_wp2
    go_roundw
    case rel => exact ⟨k + 1, by go_num, by omega, by rw [HFT.out]; exact HO.out, HB.out⟩
    case measure => simp [intOf]; omega
   | false =>
    have g1 := e_empty h0
    rw [h0, if_neg (by simp)] at hft
    have HFT := hh hft
    clear hown hx ha hft hfl h0 hbw hacc
    go_wp2_with (at_builtin; refine wpList_app _ rfl (.tmp 14) (.tmp 16) _ rfl w.heap.size 9 i1 _ 1 16 Tryz.underlying23 hj0 hy0 hy1 hy2 rfl (by omega) _ acc.length (SX acc) rfl (HO.out.alloc _) _ 1 1 [.string ⟨x.toArray⟩] rfl rfl (rd_blk (heap_alloc_new wr _) (k := 1) rfl) (by simp [Value.oneCell']) (by simp only [maxLen]; omega) (by omega) (by simp; omega) ?_; intro v5 w5 hown5 hg5 hb5 hat5; clear hat5)
    have HO6 := hh (own_more (b := [x]) rfl rfl hown5)
    have HB6 := hh ((HB.out.alloc hsz (.cells #[.string ⟨x.toArray⟩] 9)).trans hb5)
    clear hown5 hg5 hb5
    go_roundw
    case rel => exact ⟨k + 1, by go_num, by omega, by rw [HFT.out]; exact HO6.out, HB6.out⟩
    case measure => simp [intOf]; omega
  ·have hltI : ¬ (k : Int) < (n : Int) := by omega
   have ho := HO.out
   rw [List.take_of_length_le (by rw [← HN.out]; omega)] at ho
   obtain ⟨A9, c9, rfl, _, _, hrd9⟩ := own_rd ho
   have HRD9 := hh hrd9
   clear hown hbw ho hrd9
   go_wp2
   go_ret
   exact ⟨⟨A9, c9, rfl, HRD9.out⟩, HB.out⟩
theorem fil1_w (A : Option Addr) (c : Nat) (s : Tx) (w : World) (hr : Rd w A (SX [s])) : Calls Tryz.prog 48 #[.slice A 1 c] w (FilW [s] w) := filled_w A c [s] w hr (by simp)
theorem fil3_w (A : Option Addr) (c : Nat) (s t u : Tx) (w : World) (hr : Rd w A (SX [s, t, u])) : Calls Tryz.prog 48 #[.slice A 3 c] w (FilW [s, t, u] w) := filled_w A c [s, t, u] w hr (by simp)
def StrW (l : List Tx) (w : World) (e : Ending) (w' : World) : Prop := (∃ A c, e = .returned (.slice A l.length c) ∧ Rd w' A (SX l)) ∧ Below w.heap.size w w'
end Go.Proofs.YtgociheckcpjkaaGreatDoor.prg
namespace Go.Proofs.YtgociheckcpjkaaGreatDoor.prg
open Go.RowKit
open words kindp opp op kind word
set_option maxRecDepth 100000
set_option maxHeartbeats 16000000
set_option linter.all false
theorem strings_w (x : PrM) (w : World) (hk : PrOk w x) (hb : PrBd x) (hz : (stringsL x).length ≤ 4194304) : Calls Tryz.prog 16 #[.agg (prC x).toArray] w (StrW (stringsL x) w) := by
 obtain ⟨W, hW⟩ : ∃ W, W = w.alloc (.cells (prC x).toArray 27) := ⟨_, rfl⟩
 have hal : Below w.heap.size w W := by rw [hW]; exact (Below.refl _ w).alloc (Nat.le_refl _) _
 have HAL := hh hal
 have hblk : W.heap[w.heap.size]? = some (.cells (prC x).toArray 27 (0, 0)) := by rw [hW]; exact heap_alloc_new w _
 have HBK := hh hblk; have HLT := hh (blk_lt hblk)
 obtain ⟨x0_0, x0_1, x0_2, x0_3, x0_4⟩ := pr_cells hblk
 have K0 := hh (Below.refl W.heap.size W)
 obtain ⟨i1, hj0, hy0, hy1, hy2⟩ := info_parts infoX
 have HKW := hh (hk.below hal)
 have HBD := hh hb
 have l1 : x.cs.length ≤ 281474976710656 := by have := hb.1.1; omega
 have hsl : stringsL x = x.cs.flatMap classL ++ x.ns ++ entryL x := rfl
 have hsm : (x.cs.flatMap classL).length + x.ns.length + (entryL x).length ≤ 4194304 := by rw [hsl, List.length_append, List.length_append] at hz; omega
 obtain ⟨R, hR⟩ : ∃ R, R = stringsL x := ⟨_, rfl⟩
 rw [← hR] at hsl ⊢
 have HSL := hh hsl
 have hrc := HKW.out.1.2
 obtain ⟨A1, hA1⟩ : ∃ A, A = x.A1 := ⟨_, rfl⟩
 obtain ⟨n, hn⟩ : ∃ n, n = x.cs.length := ⟨_, rfl⟩
 rw [← hn, ← hA1] at x0_0
 rw [← hn] at l1
 rw [← hA1] at hrc
 have HRC := hh hrc
 have nI : (n : Int) ≤ 281474976710656 := by omega
 unfold prC at hW ⊢
 try dsimp only at hW ⊢
 rw [← hn, ← hA1] at hW ⊢
 have HW := hh hW
 have HN := hh hn
 clear hal hblk hW hk hb l1 hn hz hsl hR hrc hA1
 go_enter Tryz.func16, Tryz.ntmps16
 go_wp2_with fail
 rw [← HW.out]
 (try go_wp2)
 clear x0_0 x0_1 x0_2 x0_3 x0_4
 go_loopw [3, 16] (fun v i wr => ∃ k : Nat, i = .int .i64 (k : Int) ∧ k ≤ n ∧ wr.ownsRow W.heap.size 9 1 v ((x.cs.take k).flatMap classL).length (SX ((x.cs.take k).flatMap classL)) ∧ Below W.heap.size W wr) (fun _ i _ => n - (intOf i).toNat)
 case atStart => exact ⟨0, rfl, Nat.zero_le _, World.ownsRow_nil _ _ _ _, Below.refl _ _⟩
 case round =>
  obtain ⟨k, rfl, hk, hown, hbw⟩ := hrel
  obtain ⟨wa, hwa⟩ : ∃ v, v = wr := ⟨_, rfl⟩
  subst hwa
  have HO := hh hown; have HB := hh hbw
  have hsz := hbw.size
  by_cases hlt : k < n
  ·have hltI : (k : Int) < (n : Int) := by omega
   obtain ⟨y, hy⟩ : ∃ y, x.cs[k]? = some y := ⟨x.cs[k]'(by rw [← HN.out]; exact hlt), List.getElem?_eq_getElem _⟩
   have hmem := List.mem_of_getElem? hy
   have HOK := hh (HKW.out.2.2 y hmem)
   have HBY := hh (HBD.out.1.2 y hmem)
   obtain ⟨a, rfl, ha, c0, c1, c2, c3, c4, c5, c6⟩ := cl_at (HRC.out.below hbw) hy
   obtain ⟨B2, hB2⟩ : ∃ A, A = y.A2 := ⟨_, rfl⟩
   obtain ⟨B3, hB3⟩ : ∃ A, A = y.A3 := ⟨_, rfl⟩
   have hr2 := HOK.out.2.1.2
   have hr3 := HOK.out.2.2.1.2
   rw [← hB2] at c5 hr2
   rw [← hB3] at c6 hr3
   have HR2 := hh hr2; have HR3 := hh hr3
   have hsn := flat_snoc_at (f := classL) hy
   have htl := flat_take_len (f := classL) hy
   obtain ⟨a0, ha0⟩ : ∃ a, a = (x.cs.take k).flatMap classL := ⟨_, rfl⟩
   rw [← ha0] at HO hsn htl
   have HSN := hh hsn
   have hcl : (classL y).length = 1 + (filledL [y.su]).length + y.is.length + (y.fs.flatMap fieldL).length + (y.ms.flatMap methL).length := by unfold classL; simp only [List.length_append, List.length_cons, List.length_nil]
   have hfl := filled_len [y.su]
   obtain ⟨lf, hlf⟩ : ∃ l, l = (filledL [y.su]).length := ⟨_, rfl⟩
   obtain ⟨LF, hLF⟩ : ∃ l, l = (y.fs.flatMap fieldL).length := ⟨_, rfl⟩
   obtain ⟨LM, hLM⟩ : ∃ l, l = (y.ms.flatMap methL).length := ⟨_, rfl⟩
   have hroom : a0.length + 1 + lf + y.is.length + LF + LM ≤ 4194304 := by rw [hlf, hLF, hLM]; omega
   have H1 := hh hlf; have H2 := hh hLF; have H3 := hh hLM
   have q2 : y.fs.length ≤ 281474976710656 := by have := HBY.out.2.2.2.1.1; omega
   have q3 : y.ms.length ≤ 281474976710656 := by have := HBY.out.2.2.2.2.1; omega
   have q2I : (y.fs.length : Int) ≤ 281474976710656 := by omega
   have q3I : (y.ms.length : Int) ≤ 281474976710656 := by omega
   obtain ⟨a1, ha1⟩ : ∃ a, a = a0 ++ [y.nm] := ⟨_, rfl⟩
   obtain ⟨a2, ha2⟩ : ∃ a, a = a1 ++ filledL [y.su] := ⟨_, rfl⟩
   obtain ⟨a3, ha3⟩ : ∃ a, a = a2 ++ y.is := ⟨_, rfl⟩
   have n1 : a1.length = a0.length + 1 := by rw [ha1]; simp
   have n2 : a2.length = a1.length + lf := by rw [ha2, List.length_append, hlf]
   have n3 : a3.length = a2.length + y.is.length := by rw [ha3, List.length_append]
   have HA1 := hh ha1; have HA2 := hh ha2; have HA3 := hh ha3
   have HX0 := hh (heap_alloc_new wa (.cells #[.string ⟨y.nm.toArray⟩, .string ⟨y.su.toArray⟩, .bool y.fc, .bool y.ab, .slice y.A1 y.is.length y.c1, .slice B2 y.fs.length y.c2, .slice B3 y.ms.length y.c3] 35))
   have HX1 := hh ((Below.heap_alloc (wa.alloc (.cells #[.string ⟨y.nm.toArray⟩, .string ⟨y.su.toArray⟩, .bool y.fc, .bool y.ab, .slice y.A1 y.is.length y.c1, .slice B2 y.fs.length y.c2, .slice B3 y.ms.length y.c3] 35)) (.cells #[.string ⟨y.nm.toArray⟩] 9) wa.heap.size (by simp)).trans HX0.out)
   have HY := hh hy
   clear hown hbw hy hmem hsn htl ha0 hcl hfl hlf hLF hLM ha1 ha2 ha3 ha hB2 hB3 hr2 hr3
   go_wp2_with (at_builtin; refine wpList_app _ rfl (.tmp 20) (.tmp 23) _ rfl W.heap.size 9 i1 _ 1 16 Tryz.underlying23 hj0 hy0 hy1 hy2 rfl (by omega) _ a0.length (SX a0) rfl ((HO.out.alloc _).alloc _) _ 1 _ ([.string ⟨y.nm.toArray⟩]) rfl (rfl) (new_rdg (W := wa.alloc (.cells #[.string ⟨y.nm.toArray⟩, .string ⟨y.su.toArray⟩, .bool y.fc, .bool y.ab, .slice y.A1 y.is.length y.c1, .slice B2 y.fs.length y.c2, .slice B3 y.ms.length y.c3] 35)) (wa.heap.size + 1) #[.string ⟨y.nm.toArray⟩] 9 1 (by simp) [.string ⟨y.nm.toArray⟩] rfl) (by simp [Value.oneCell']) (by simp only [maxLen]; omega) (by omega) (by first | omega | (simp; omega)) ?_; intro v5 w5 hown5 hg5 hb5 hat5; clear hat5; have hx5 := row_apart HX1.out (by decide) ((HO.out.alloc (.cells #[.string ⟨y.nm.toArray⟩, .string ⟨y.su.toArray⟩, .bool y.fc, .bool y.ab, .slice y.A1 y.is.length y.c1, .slice B2 y.fs.length y.c2, .slice B3 y.ms.length y.c3] 35)).alloc (.cells #[.string ⟨y.nm.toArray⟩] 9)) hg5; have z1 : w5.cell? ⟨wa.heap.size, 1, none⟩ = some (.string ⟨y.su.toArray⟩) := cell_of_row _ _ 1 _ _ _ hx5)
   obtain ⟨wb, hwb⟩ : ∃ v, v = w5 := ⟨_, rfl⟩
   subst hwb
   have HO1 := hh (own_more (b := [y.nm]) rfl HA1.out hown5)
   have HB1 := hh (((HB.out.alloc hsz (.cells #[.string ⟨y.nm.toArray⟩, .string ⟨y.su.toArray⟩, .bool y.fc, .bool y.ab, .slice y.A1 y.is.length y.c1, .slice B2 y.fs.length y.c2, .slice B3 y.ms.length y.c3] 35)).alloc (by simp; omega) (.cells #[.string ⟨y.nm.toArray⟩] 9)).trans hb5)
   have HXB := hh hx5
   have hfil := fil1_w (some ⟨wb.heap.size, 0, none⟩) 1 y.su (wb.alloc (.cells #[.string ⟨y.su.toArray⟩] 9)) (rd_blk (heap_alloc_new wb (.cells #[.string ⟨y.su.toArray⟩] 9)) (k := 1) rfl)
   clear hown5 hg5 hb5 hx5 c0 c1 c2 c3 c4 c5 c6 z1
   refine hfil.mono ?_
   clear hfil
   rintro e w6 ⟨⟨A6, c6, rfl, hr6⟩, hb6⟩
   rw [← H1.out]
   have hal6 := HB1.out.alloc HB1.out.size (.cells #[.string ⟨y.su.toArray⟩] 9)
   have HB6 := hh (hal6.trans (hb6.mono hal6.size))
   have HO6 := hh (own_below (HO1.out.alloc _) hb6)
   have HX6 := hh ((hb6.block wa.heap.size (by have := blk_lt HXB.out; simp; omega)).trans ((Below.heap_alloc wb (.cells #[.string ⟨y.su.toArray⟩] 9) wa.heap.size (blk_lt HXB.out)).trans HXB.out))
   have HR6 := hh hr6
   have hsz6 := HB6.out.size
   have z4 : w6.cell? ⟨wa.heap.size, 4, none⟩ = some (.slice y.A1 y.is.length y.c1) := cell_of_row _ _ 4 _ _ _ HX6.out
   clear hb6 hal6 hr6
   go_wp2_with (first
    | (at_builtin; refine wpList_app _ rfl (.tmp 25) (.tmp 29) _ rfl W.heap.size 9 i1 _ 1 16 Tryz.underlying23 hj0 hy0 hy1 hy2 rfl (by omega) _ a1.length (SX a1) rfl (HO6.out) _ lf _ (SX (filledL [y.su])) rfl (by rw [SX_len, H1.out]; simp) (HR6.out) (SX_one _) (by simp only [maxLen]; omega) (by omega) (by first | omega | (simp; omega)) ?_; intro v5 w5 hown5 hg5 hb5 hat5; clear hat5; have hx5 := row_apart HX6.out (by decide) HO6.out hg5; have z4x : w5.cell? ⟨wa.heap.size, 4, none⟩ = some (.slice y.A1 y.is.length y.c1) := cell_of_row _ _ 4 _ _ _ hx5; have HO7 := hh (own_more (b := filledL [y.su]) H1.out.symm HA2.out hown5); have HB7 := hh (HB6.out.trans hb5); have HX7 := hh hx5; have HR7 := hh (HOK.out.1.2.below (HB6.out.trans hb5)); have hsz7 := HB7.out.size; clear hown5 hg5 hb5 hx5 z4 hsz6)
       | (at_builtin; refine wpList_app _ rfl (.tmp 31) (.tmp 33) _ rfl W.heap.size 9 i1 _ 1 16 Tryz.underlying23 hj0 hy0 hy1 hy2 rfl (by omega) _ a2.length (SX a2) rfl (HO7.out) _ y.is.length _ (SX y.is) rfl (by rw [SX_len]; simp) (HR7.out) (SX_one _) (by simp only [maxLen]; omega) (by omega) (by first | omega | (simp; omega)) ?_; intro v5 w5 hown5 hg5 hb5 hat5; clear hat5; have hx5 := row_apart HX7.out (by decide) HO7.out hg5; have z5 : w5.cell? ⟨wa.heap.size, 5, none⟩ = some (.slice B2 y.fs.length y.c2) := cell_of_row _ _ 5 _ _ _ hx5; have HO8 := hh (own_more (b := y.is) rfl HA3.out hown5); have HB8 := hh (HB7.out.trans hb5); have HX8 := hh hx5; clear hown5 hg5 hb5 hx5 z4x hsz7))
   clear z5
   go_loopw [3, 38] (fun v i wr => ∃ j : Nat, i = .int .i64 (j : Int) ∧ j ≤ y.fs.length ∧ wr.ownsRow W.heap.size 9 1 v (a3 ++ (y.fs.take j).flatMap fieldL).length (SX (a3 ++ (y.fs.take j).flatMap fieldL)) ∧ Below W.heap.size W wr ∧ wr.heap[wa.heap.size]? = some (.cells #[.string ⟨y.nm.toArray⟩, .string ⟨y.su.toArray⟩, .bool y.fc, .bool y.ab, .slice y.A1 y.is.length y.c1, .slice B2 y.fs.length y.c2, .slice B3 y.ms.length y.c3] 35 (0, 0))) (fun _ i _ => y.fs.length - (intOf i).toNat)
   case atStart => exact ⟨0, rfl, Nat.zero_le _, by rw [List.take_zero, List.flatMap_nil, List.append_nil]; exact HO8.out, HB8.out, HX8.out⟩
   case round =>
    obtain ⟨j, rfl, hj, hown, hbw, hbx⟩ := hrel
    obtain ⟨wf, hwf⟩ : ∃ v, v = wr := ⟨_, rfl⟩
    subst hwf
    have HOF := hh hown; have HBF := hh hbw; have HXF := hh hbx
    have hszf := hbw.size
    by_cases hlt2 : j < y.fs.length
    ·have hltI2 : (j : Int) < (y.fs.length : Int) := by omega
     obtain ⟨z, hz⟩ : ∃ z, y.fs[j]? = some z := ⟨y.fs[j]'hlt2, List.getElem?_eq_getElem _⟩
     have hzb := HBY.out.2.2.2.1.2 z (List.mem_of_getElem? hz)
     obtain ⟨b, rfl, hbl, d0, d1, d2, d3⟩ := fi_at (HR2.out.below hbw) hz
     have hsn := flat_snoc_at (f := fieldL) hz
     have htl := flat_take_len (f := fieldL) hz
     have hfl : (fieldL z).length = 2 := rfl
     obtain ⟨b0, hb0⟩ : ∃ a, a = a3 ++ (y.fs.take j).flatMap fieldL := ⟨_, rfl⟩
     have hb0l : b0.length = a3.length + ((y.fs.take j).flatMap fieldL).length := by rw [hb0, List.length_append]
     have hnext : a3 ++ (y.fs.take (j + 1)).flatMap fieldL = b0 ++ [z.nm, textT (z.k, z.cl)] := by rw [hsn, hb0, List.append_assoc]; rfl
     rw [← H2.out] at htl
     rw [← hb0] at HOF
     have hrm : b0.length + 2 ≤ 4194304 := by omega
     have HNX := hh hnext
     have hnew := heap_alloc_new wf (.cells #[.string ⟨z.nm.toArray⟩, .int .i64 z.k, .string ⟨z.cl.toArray⟩, .bool z.st] 58)
     have HTX := hh (fun w => text_w z.k z.cl w (by have := hzb.2; omega))
     generalize textT (z.k, z.cl) = tx at HTX HNX
     have e0 : (wf.alloc (.cells #[.string ⟨z.nm.toArray⟩, .int .i64 z.k, .string ⟨z.cl.toArray⟩, .bool z.st] 58)).cell? ⟨wf.heap.size, 0, none⟩ = some (.string ⟨z.nm.toArray⟩) := cell_of_row _ _ 0 _ _ _ hnew
     have e1 : (wf.alloc (.cells #[.string ⟨z.nm.toArray⟩, .int .i64 z.k, .string ⟨z.cl.toArray⟩, .bool z.st] 58)).cell? ⟨wf.heap.size, 1, none⟩ = some (.int .i64 z.k) := cell_of_row _ _ 1 _ _ _ hnew
     have e2 : (wf.alloc (.cells #[.string ⟨z.nm.toArray⟩, .int .i64 z.k, .string ⟨z.cl.toArray⟩, .bool z.st] 58)).cell? ⟨wf.heap.size, 2, none⟩ = some (.string ⟨z.cl.toArray⟩) := cell_of_row _ _ 2 _ _ _ hnew
     have HB1 := hh (HBF.out.alloc hszf (.cells #[.string ⟨z.nm.toArray⟩, .int .i64 z.k, .string ⟨z.cl.toArray⟩, .bool z.st] 58))
     have HO1 := hh (HOF.out.alloc (.cells #[.string ⟨z.nm.toArray⟩, .int .i64 z.k, .string ⟨z.cl.toArray⟩, .bool z.st] 58))
     have HX1 := hh ((Below.heap_alloc wf (.cells #[.string ⟨z.nm.toArray⟩, .int .i64 z.k, .string ⟨z.cl.toArray⟩, .bool z.st] 58) wa.heap.size (blk_lt HXF.out)).trans HXF.out)
     have HN1 := hh hnew
     clear hown hbw hbx hz hzb hsn htl hfl hb0 hb0l hnext hbl hnew
     go_wp2_with fail
     refine wp_region_held_drew (S := (fun w' => w'.cell? ⟨wf.heap.size, 0, none⟩ = some (.string ⟨z.nm.toArray⟩) ∧ w'.cell? ⟨wf.heap.size, 1, none⟩ = some (.int .i64 z.k) ∧ w'.cell? ⟨wf.heap.size, 2, none⟩ = some (.string ⟨z.cl.toArray⟩))) (by kernel_rfl) ?_ (fun hHeld => ?_)
     ·exact ⟨e0, e1, e2⟩
     refine tkp 0 rfl ?_
     refine tkp 1 rfl ?_
     refine tkp 2 rfl ?_
     refine tkp 3 rfl ?_
     refine tkp 4 rfl ?_
     refine rdy 5 rfl (fun K hK => ?_)
     go_simp
     refine (HTX.out _).mono ?_; rintro e v1 ⟨rfl, hb1⟩; have HB2 := hh (show Below W.heap.size W v1 from HB1.out.trans (Below.mono (show Below (wf.alloc (.cells #[.string ⟨z.nm.toArray⟩, .int .i64 z.k, .string ⟨z.cl.toArray⟩, .bool z.st] 58)).heap.size (wf.alloc (.cells #[.string ⟨z.nm.toArray⟩, .int .i64 z.k, .string ⟨z.cl.toArray⟩, .bool z.st] 58)) v1 from (by first | exact hb1 | exact under hb1 | exact ⟨hb1.os, hb1.tape, hb1.output, hb1.size, hb1.block⟩)) HB1.out.size)); have hbv : Below (wf.alloc (.cells #[.string ⟨z.nm.toArray⟩, .int .i64 z.k, .string ⟨z.cl.toArray⟩, .bool z.st] 58)).heap.size (wf.alloc (.cells #[.string ⟨z.nm.toArray⟩, .int .i64 z.k, .string ⟨z.cl.toArray⟩, .bool z.st] 58)) v1 := (by first | exact hb1 | exact ⟨hb1.os, hb1.tape, hb1.output, hb1.size, hb1.block⟩); have HO2 := hh (own_below HO1.out hbv); have HX2 := hh ((hbv.block _ (blk_lt HX1.out)).trans HX1.out); have HN2x := hh ((hbv.block _ (blk_lt HN1.out)).trans HN1.out); have f0 : v1.cell? ⟨wf.heap.size, 0, none⟩ = some (.string ⟨z.nm.toArray⟩) := cell_of_row _ _ 0 _ _ _ HN2x.out; have f1 : v1.cell? ⟨wf.heap.size, 1, none⟩ = some (.int .i64 z.k) := cell_of_row _ _ 1 _ _ _ HN2x.out; have f2 : v1.cell? ⟨wf.heap.size, 2, none⟩ = some (.string ⟨z.cl.toArray⟩) := cell_of_row _ _ 2 _ _ _ HN2x.out; clear hb1 hbv e0 e1 e2; go_wp2_with fail
     refine hK.out _ _ ⟨f0, f1, f2⟩ (fun hHeld => ?_)
     clear hK K
     try simp only [puts]
     refine rdy 6 rfl (fun K hK => ?_)
     go_simp
     have HB3 := hh (HB2.out.alloc HB2.out.size (.cells #[.string ⟨z.nm.toArray⟩, .string ⟨tx.toArray⟩] 9)); have HO3 := hh (HO2.out.alloc (.cells #[.string ⟨z.nm.toArray⟩, .string ⟨tx.toArray⟩] 9)); have HX3 := hh ((Below.heap_alloc v1 (.cells #[.string ⟨z.nm.toArray⟩, .string ⟨tx.toArray⟩] 9) wa.heap.size (blk_lt HX2.out)).trans HX2.out); have HN3 := hh ((Below.heap_alloc v1 (.cells #[.string ⟨z.nm.toArray⟩, .string ⟨tx.toArray⟩] 9) wf.heap.size (blk_lt HN2x.out)).trans HN2x.out); have HT3 := hh (heap_alloc_new v1 (.cells #[.string ⟨z.nm.toArray⟩, .string ⟨tx.toArray⟩] 9)); have g0 : (v1.alloc (.cells #[.string ⟨z.nm.toArray⟩, .string ⟨tx.toArray⟩] 9)).cell? ⟨wf.heap.size, 0, none⟩ = some (.string ⟨z.nm.toArray⟩) := cell_of_row _ _ 0 _ _ _ HN3.out; have g1 : (v1.alloc (.cells #[.string ⟨z.nm.toArray⟩, .string ⟨tx.toArray⟩] 9)).cell? ⟨wf.heap.size, 1, none⟩ = some (.int .i64 z.k) := cell_of_row _ _ 1 _ _ _ HN3.out; have g2 : (v1.alloc (.cells #[.string ⟨z.nm.toArray⟩, .string ⟨tx.toArray⟩] 9)).cell? ⟨wf.heap.size, 2, none⟩ = some (.string ⟨z.cl.toArray⟩) := cell_of_row _ _ 2 _ _ _ HN3.out; clear f0 f1 f2
     refine hK.out _ _ ⟨g0, g1, g2⟩ (fun hHeld => ?_)
     clear hK K
     try simp only [puts]
     refine rdy 7 rfl (fun K hK => ?_)
     refine step_app _ (by rfl) (.tmp 42) (.tmp 48) _ (by rfl) W.heap.size 9 i1 _ 1 16 Tryz.underlying23 hj0 hy0 hy1 hy2 rfl (by omega) _ b0.length (SX b0) (by rfl) (by exact HO3.out) _ 2 2 [_, _] (by rfl) (by rfl) (rd_blk HT3.out (k := 2) rfl) (by simp [Value.oneCell']) (by simp only [maxLen]; omega) (by omega) HB3.out.size ?_
     intro v5 w5 hown5 hg5 hb5 hat5
     clear hat5
     have hx5 := row_apart HX3.out (by decide) HO3.out hg5
     have hn5 := row_apart HN3.out (by decide) HO3.out hg5
     have h0 : w5.cell? ⟨wf.heap.size, 0, none⟩ = some (.string ⟨z.nm.toArray⟩) := cell_of_row _ _ 0 _ _ _ hn5; have h1 : w5.cell? ⟨wf.heap.size, 1, none⟩ = some (.int .i64 z.k) := cell_of_row _ _ 1 _ _ _ hn5; have h2 : w5.cell? ⟨wf.heap.size, 2, none⟩ = some (.string ⟨z.cl.toArray⟩) := cell_of_row _ _ 2 _ _ _ hn5
     have HO5 := hh (own_more (b := [z.nm, tx]) rfl HNX.out hown5)
     have HB5 := hh (HB3.out.trans hb5)
     have HX5 := hh hx5
     clear hown5 hg5 hb5 hx5 hn5 g0 g1 g2
     refine hK.out _ _ ⟨h0, h1, h2⟩ (fun hHeld => ?_)
     clear hK K
     try simp only [puts]
     refine tkp 8 rfl ?_
     refine wpAnyH_done (by kernel_rfl) ?_ _
     clear h0 h1 h2
     go_wp2
     go_roundw
     case rel => exact ⟨j + 1, by go_num, by omega, HO5.out, HB5.out, HX5.out⟩
     case measure => simp [intOf]; omega
    ·have hltI2 : ¬ (j : Int) < (y.fs.length : Int) := by omega
     have ho := HOF.out
     rw [List.take_of_length_le (by omega)] at ho
     obtain ⟨a4, ha4⟩ : ∃ a, a = a3 ++ y.fs.flatMap fieldL := ⟨_, rfl⟩
     rw [← ha4] at ho
     have n4 : a4.length = a3.length + LF := by rw [ha4, List.length_append, H2.out]
     have HA4 := hh ha4
     have HO9 := hh ho
     have z6 : wf.cell? ⟨wa.heap.size, 6, none⟩ = some (.slice B3 y.ms.length y.c3) := cell_of_row _ _ 6 _ _ _ hbx
     clear hown hbw hbx ho ha4
     go_wp2
     clear z6
     go_loopw [3, 54] (fun v i wr => ∃ j : Nat, i = .int .i64 (j : Int) ∧ j ≤ y.ms.length ∧ wr.ownsRow W.heap.size 9 1 v (a4 ++ (y.ms.take j).flatMap methL).length (SX (a4 ++ (y.ms.take j).flatMap methL)) ∧ Below W.heap.size W wr) (fun _ i _ => y.ms.length - (intOf i).toNat)
     case atStart => exact ⟨0, rfl, Nat.zero_le _, by rw [List.take_zero, List.flatMap_nil, List.append_nil]; exact HO9.out, HBF.out⟩
     case round =>
      obtain ⟨j2, rfl, hj2, hown, hbw⟩ := hrel
      obtain ⟨wm, hwm⟩ : ∃ v, v = wr := ⟨_, rfl⟩
      subst hwm
      have HOM := hh hown; have HBM := hh hbw
      have hszm := hbw.size
      by_cases hlt3 : j2 < y.ms.length
      ·have hltI3 : (j2 : Int) < (y.ms.length : Int) := by omega
       obtain ⟨z, hz⟩ : ∃ z, y.ms[j2]? = some z := ⟨y.ms[j2]'hlt3, List.getElem?_eq_getElem _⟩
       have hmem := List.mem_of_getElem? hz
       have hzk := HOK.out.2.2.2 z hmem
       have hzb := HBY.out.2.2.2.2.2 z hmem
       obtain ⟨b, rfl, hbl, d0, d1, d2, d3, d4, d5⟩ := me_at (HR3.out.below hbw) hz
       obtain ⟨Bz, hBz⟩ : ∃ A, A = z.A := ⟨_, rfl⟩
       have hrz := hzk.2.1
       rw [← hBz] at d5 hrz
       have HRZ := hh hrz
       have qz : z.co.length ≤ 281474976710656 := by have := hzb.2.2.1; omega
       have qzI : (z.co.length : Int) ≤ 281474976710656 := by omega
       have hsn := flat_snoc_at (f := methL) hz
       have htl := flat_take_len (f := methL) hz
       have hml : (methL z).length = 2 + (z.co.flatMap instrL).length := by unfold methL; rw [List.length_append]; rfl
       obtain ⟨b0, hb0⟩ : ∃ a, a = a4 ++ (y.ms.take j2).flatMap methL := ⟨_, rfl⟩
       obtain ⟨b1, hb1⟩ : ∃ a, a = b0 ++ [z.nm, z.ds] := ⟨_, rfl⟩
       obtain ⟨LI, hLI⟩ : ∃ l, l = (z.co.flatMap instrL).length := ⟨_, rfl⟩
       have hb0l : b0.length = a4.length + ((y.ms.take j2).flatMap methL).length := by rw [hb0, List.length_append]
       have hb1l : b1.length = b0.length + 2 := by rw [hb1, List.length_append]; rfl
       have hnext : a4 ++ (y.ms.take (j2 + 1)).flatMap methL = b1 ++ z.co.flatMap instrL := by rw [hsn, hb1, hb0]; unfold methL; simp only [List.append_assoc]
       rw [← H3.out] at htl
       rw [← hLI] at hml
       rw [← hb0] at HOM
       have hrm : b1.length + LI ≤ 4194304 := by omega
       have HNX := hh hnext; have HB1E := hh hb1; have HLI := hh hLI
       clear hown hbw hz hmem hzk hzb hsn htl hml hb0 hb0l hb1 hnext hbl hBz hrz hLI
       have HM0 := hh (heap_alloc_new wm (.cells #[.string ⟨z.nm.toArray⟩, .string ⟨z.ds.toArray⟩, .bool z.st, .bool z.ab, .int .i64 z.rg, .slice Bz z.co.length z.c] 38))
       have HM1 := hh ((Below.heap_alloc (wm.alloc (.cells #[.string ⟨z.nm.toArray⟩, .string ⟨z.ds.toArray⟩, .bool z.st, .bool z.ab, .int .i64 z.rg, .slice Bz z.co.length z.c] 38)) (.cells #[.string ⟨z.nm.toArray⟩, .string ⟨z.ds.toArray⟩] 9) wm.heap.size (by simp)).trans HM0.out)
       go_wp2_with (at_builtin; refine wpList_app _ rfl (.tmp 58) (.tmp 63) _ rfl W.heap.size 9 i1 _ 1 16 Tryz.underlying23 hj0 hy0 hy1 hy2 rfl (by omega) _ b0.length (SX b0) rfl ((HOM.out.alloc _).alloc _) _ 2 _ ([.string ⟨z.nm.toArray⟩, .string ⟨z.ds.toArray⟩]) rfl (rfl) (new_rdg (W := wm.alloc (.cells #[.string ⟨z.nm.toArray⟩, .string ⟨z.ds.toArray⟩, .bool z.st, .bool z.ab, .int .i64 z.rg, .slice Bz z.co.length z.c] 38)) (wm.heap.size + 1) #[.string ⟨z.nm.toArray⟩, .string ⟨z.ds.toArray⟩] 9 2 (by simp) [.string ⟨z.nm.toArray⟩, .string ⟨z.ds.toArray⟩] rfl) (by simp [Value.oneCell']) (by simp only [maxLen]; omega) (by omega) (by first | omega | (simp; omega)) ?_; intro v5 w5 hown5 hg5 hb5 hat5; clear hat5; have hx5 := row_apart HM1.out (by decide) ((HOM.out.alloc (.cells #[.string ⟨z.nm.toArray⟩, .string ⟨z.ds.toArray⟩, .bool z.st, .bool z.ab, .int .i64 z.rg, .slice Bz z.co.length z.c] 38)).alloc (.cells #[.string ⟨z.nm.toArray⟩, .string ⟨z.ds.toArray⟩] 9)) hg5; have z5 : w5.cell? ⟨wm.heap.size, 5, none⟩ = some (.slice Bz z.co.length z.c) := cell_of_row _ _ 5 _ _ _ hx5)
       have HO10 := hh (own_more (b := [z.nm, z.ds]) rfl HB1E.out hown5)
       have HB10 := hh (((HBM.out.alloc hszm (.cells #[.string ⟨z.nm.toArray⟩, .string ⟨z.ds.toArray⟩, .bool z.st, .bool z.ab, .int .i64 z.rg, .slice Bz z.co.length z.c] 38)).alloc (by simp; omega) (.cells #[.string ⟨z.nm.toArray⟩, .string ⟨z.ds.toArray⟩] 9)).trans hb5)
       clear hown5 hg5 hb5 hx5 d0 d1 d2 d3 d4 d5 z5
       go_loopw [3, 68] (fun v i wr => ∃ j : Nat, i = .int .i64 (j : Int) ∧ j ≤ z.co.length ∧ wr.ownsRow W.heap.size 9 1 v (b1 ++ (z.co.take j).flatMap instrL).length (SX (b1 ++ (z.co.take j).flatMap instrL)) ∧ Below W.heap.size W wr) (fun _ i _ => z.co.length - (intOf i).toNat)
       case atStart => exact ⟨0, rfl, Nat.zero_le _, by rw [List.take_zero, List.flatMap_nil, List.append_nil]; exact HO10.out, HB10.out⟩
       case round =>
        obtain ⟨j3, rfl, hj3, hown, hbw⟩ := hrel
        obtain ⟨wt, hwt⟩ : ∃ v, v = wr := ⟨_, rfl⟩
        subst hwt
        have HOT := hh hown; have HBT := hh hbw
        have hszt := hbw.size
        by_cases hlt4 : j3 < z.co.length
        ·have hltI4 : (j3 : Int) < (z.co.length : Int) := by omega
         obtain ⟨t, ht⟩ : ∃ t, z.co[j3]? = some t := ⟨z.co[j3]'hlt4, List.getElem?_eq_getElem _⟩
         obtain ⟨c, rfl, hcl, e0, e1, e2, e3, e4, e5, e6, e7, e8⟩ := in_at (HRZ.out.below hbw) ht
         have hsn := flat_snoc_at (f := instrL) ht
         have htl := flat_take_len (f := instrL) ht
         obtain ⟨g0, hg0⟩ : ∃ a, a = b1 ++ (z.co.take j3).flatMap instrL := ⟨_, rfl⟩
         obtain ⟨li, hli⟩ : ∃ l, l = (filledL [t.i.cl, t.i.nm, t.i.ds]).length := ⟨_, rfl⟩
         have hg0l : g0.length = b1.length + ((z.co.take j3).flatMap instrL).length := by rw [hg0, List.length_append]
         have hnext : b1 ++ (z.co.take (j3 + 1)).flatMap instrL = g0 ++ filledL [t.i.cl, t.i.nm, t.i.ds] := by rw [hsn, hg0, List.append_assoc]; rfl
         have hil : (instrL t).length = li := hli.symm
         rw [← HLI.out, hil] at htl
         rw [← hg0] at HOT
         have hrm4 : g0.length + li ≤ 4194304 := by omega
         have HNX4 := hh hnext; have HLL := hh hli
         clear hown hbw ht hsn htl hg0 hg0l hnext hcl hli hil
         have hfil := fil3_w (some ⟨wt.heap.size + 1, 0, none⟩) 3 t.i.cl t.i.nm t.i.ds ((wt.alloc (.cells #[.int .i64 t.i.o, .int .i64 t.i.a, .int .i64 t.i.b, .int .i64 t.i.c, .int .i64 t.i.k, .string ⟨t.i.cl.toArray⟩, .string ⟨t.i.nm.toArray⟩, .string ⟨t.i.ds.toArray⟩, .slice t.A t.i.ar.length t.c] 42)).alloc (.cells #[.string ⟨t.i.cl.toArray⟩, .string ⟨t.i.nm.toArray⟩, .string ⟨t.i.ds.toArray⟩] 9)) (new_rdg (W := wt.alloc (.cells #[.int .i64 t.i.o, .int .i64 t.i.a, .int .i64 t.i.b, .int .i64 t.i.c, .int .i64 t.i.k, .string ⟨t.i.cl.toArray⟩, .string ⟨t.i.nm.toArray⟩, .string ⟨t.i.ds.toArray⟩, .slice t.A t.i.ar.length t.c] 42)) (wt.heap.size + 1) #[.string ⟨t.i.cl.toArray⟩, .string ⟨t.i.nm.toArray⟩, .string ⟨t.i.ds.toArray⟩] 9 3 (by simp) _ rfl)
         have HFIL := hh hfil
         clear hfil
         go_wp2_with fail
         refine HFIL.out.mono ?_
         rintro e w6 ⟨⟨A6, c6, rfl, hr6⟩, hb6⟩
         rw [← HLL.out]
         have hal6 := (HBT.out.alloc hszt (.cells #[.int .i64 t.i.o, .int .i64 t.i.a, .int .i64 t.i.b, .int .i64 t.i.c, .int .i64 t.i.k, .string ⟨t.i.cl.toArray⟩, .string ⟨t.i.nm.toArray⟩, .string ⟨t.i.ds.toArray⟩, .slice t.A t.i.ar.length t.c] 42)).alloc (by simp; omega) (.cells #[.string ⟨t.i.cl.toArray⟩, .string ⟨t.i.nm.toArray⟩, .string ⟨t.i.ds.toArray⟩] 9)
         have HB6 := hh (hal6.trans (hb6.mono hal6.size))
         have HO6 := hh (own_below ((HOT.out.alloc (.cells #[.int .i64 t.i.o, .int .i64 t.i.a, .int .i64 t.i.b, .int .i64 t.i.c, .int .i64 t.i.k, .string ⟨t.i.cl.toArray⟩, .string ⟨t.i.nm.toArray⟩, .string ⟨t.i.ds.toArray⟩, .slice t.A t.i.ar.length t.c] 42)).alloc (.cells #[.string ⟨t.i.cl.toArray⟩, .string ⟨t.i.nm.toArray⟩, .string ⟨t.i.ds.toArray⟩] 9)) hb6)
         have HR6 := hh hr6
         have hsz6 := HB6.out.size
         clear hb6 hal6 hr6 e0 e1 e2 e3 e4 e5 e6 e7 e8
         go_wp2_with (at_builtin; refine wpList_app _ rfl (.tmp 72) (.tmp 80) _ rfl W.heap.size 9 i1 _ 1 16 Tryz.underlying23 hj0 hy0 hy1 hy2 rfl (by omega) _ g0.length (SX g0) rfl (HO6.out) _ li _ (SX (filledL [t.i.cl, t.i.nm, t.i.ds])) rfl (by rw [SX_len, HLL.out]; simp) (HR6.out) (SX_one _) (by simp only [maxLen]; omega) (by omega) (by first | omega | (simp; omega)) ?_; intro v5 w5 hown5 hg5 hb5 hat5; clear hat5; skip)
         have HO11 := hh (own_more (b := filledL [t.i.cl, t.i.nm, t.i.ds]) HLL.out.symm HNX4.out hown5)
         have HB11 := hh (HB6.out.trans hb5)
         clear hown5 hg5 hb5
         go_roundw
         case rel => exact ⟨j3 + 1, by go_num, by omega, HO11.out, HB11.out⟩
         case measure => simp [intOf]; omega
        ·have hltI4 : ¬ (j3 : Int) < (z.co.length : Int) := by omega
         have ho := HOT.out
         rw [List.take_of_length_le (by omega), ← HNX.out] at ho
         have HO12 := hh ho
         clear hown hbw ho
         go_wp2
         go_roundw
         case rel => exact ⟨j2 + 1, by go_num, by omega, HO12.out, HBT.out⟩
         case measure => simp [intOf]; omega
      ·have hltI3 : ¬ (j2 : Int) < (y.ms.length : Int) := by omega
       have ho := HOM.out
       rw [List.take_of_length_le (by omega)] at ho
       have hcl : a4 ++ y.ms.flatMap methL = (x.cs.take (k + 1)).flatMap classL := by
        rw [HSN.out, HA4.out, HA3.out, HA2.out, HA1.out]; unfold classL; simp only [List.append_assoc]
       rw [hcl] at ho
       have HO13 := hh ho
       clear hown hbw ho hcl
       go_wp2
       go_roundw
       case rel => exact ⟨k + 1, by go_num, by omega, HO13.out, HBM.out⟩
       case measure => simp [intOf]; omega
  ·have hltI : ¬ (k : Int) < (n : Int) := by omega
   have ho := HO.out
   rw [List.take_of_length_le (by rw [← HN.out]; omega)] at ho
   obtain ⟨e0, he0⟩ : ∃ a, a = x.cs.flatMap classL := ⟨_, rfl⟩
   rw [← he0] at ho hsm HSL
   have HOE := hh ho
   obtain ⟨x1_0, x1_1, x1_2, x1_3, x1_4⟩ := pr_cells ((hbw.block _ HLT.out).trans HBK.out)
   obtain ⟨ec, hec⟩ : ∃ a, a = x.ec := ⟨_, rfl⟩
   obtain ⟨en, hen⟩ : ∃ a, a = x.en := ⟨_, rfl⟩
   obtain ⟨ed, hed⟩ : ∃ a, a = x.ed := ⟨_, rfl⟩
   have hel : entryL x = if ((ec == []) && ((en == []) && (ed == []))) = true then [] else [ec, en, ed] := by rw [hec, hen, hed]; rfl
   have hem := entry_most x
   rw [← hec] at x1_2
   rw [← hen] at x1_3
   rw [← hed] at x1_4
   have HRN := hh (HKW.out.2.1.2.below hbw)
   obtain ⟨e1, he1⟩ : ∃ a, a = e0 ++ x.ns := ⟨_, rfl⟩
   have hl1 : e1.length = e0.length + x.ns.length := by rw [he1, List.length_append]
   have HE1 := hh he1
   have hs1 := HSL.out
   rw [← he1] at hs1
   have HS1 := hh hs1; have HEL := hh hel
   have hbx := (hbw.block _ HLT.out).trans HBK.out
   have HBX := hh hbx
   have HEC := hh hec.symm; have HEN := hh hen.symm; have HED := hh hed.symm
   clear hown hbw ho he0 hec hen hed hel he1 hs1 hbx
   have hlt2 : w.heap.size < W.heap.size := HLT.out
   have HLT2 := hh hlt2
   clear hlt2
   by_cases h1 : ec = []
   ·subst h1
    by_cases h2 : en = []
    ·subst h2
     by_cases h3 : ed = []
     ·subst h3
      have hR : R = e1 := by rw [HS1.out, HEL.out]; simp
      have HRR := hh hR
      clear hR
      go_wp2_with (at_builtin; refine wpList_app _ rfl (.tmp 85) (.tmp 87) _ rfl W.heap.size 9 i1 _ 1 16 Tryz.underlying23 hj0 hy0 hy1 hy2 rfl (by omega) _ e0.length (SX e0) rfl (HOE.out) _ x.ns.length _ (SX x.ns) rfl (by rw [SX_len]; simp) (HRN.out) (SX_one _) (by simp only [maxLen]; omega) (by omega) (by first | omega | (simp; omega)) ?_; intro v5 w5 hown5 hg5 hb5 hat5; clear hat5; have hx5 := (hb5.block _ HLT2.out).trans HBX.out; have p2 : w5.cell? ⟨w.heap.size, 2, none⟩ = some (.string ⟨#[]⟩) := (pr_cells hx5).2.2.1.trans (by rw [HEC.out]); have p3 : w5.cell? ⟨w.heap.size, 3, none⟩ = some (.string ⟨#[]⟩) := (pr_cells hx5).2.2.2.1.trans (by rw [HEN.out]); have p4 : w5.cell? ⟨w.heap.size, 4, none⟩ = some (.string ⟨#[]⟩) := (pr_cells hx5).2.2.2.2.trans (by rw [HED.out]); have HO14 := hh (own_more (b := x.ns) rfl HE1.out hown5); have HB14 := hh (HB.out.trans hb5); have hsz14 := HB14.out.size; have w5h : ∃ v, v = w5 := ⟨_, rfl⟩; clear hown5 hg5 hb5 hx5)
      obtain ⟨A9, c9, rfl, _, _, hrd9⟩ := own_rd HO14.out
      have HRD9 := hh hrd9
      have HB15 := hh (HB14.out.alloc hsz14 (.cells #[.string ⟨#[]⟩, .string ⟨#[]⟩, .string ⟨#[]⟩] 25))
      have HRDA := hh (HRD9.out.below ((Below.refl w5.heap.size w5).alloc (Nat.le_refl _) (.cells #[.string ⟨#[]⟩, .string ⟨#[]⟩, .string ⟨#[]⟩] 25)))
      clear hrd9
      (try go_wp2)
      go_ret
      rw [HRR.out]
      exact ⟨⟨A9, c9, rfl, HRDA.out⟩, HAL.out.trans (HB15.out.mono HAL.out.size)⟩
     ·skip
      obtain ⟨e2, he2⟩ : ∃ a, a = e1 ++ ([[], [], ed] : List Tx) := ⟨_, rfl⟩
      have hR : R = e2 := by rw [HS1.out, HEL.out, he2]; simp [h3]
      have HRR := hh hR; have HE2 := hh he2
      clear hR he2
      go_wp2_with (first
       | (at_builtin; refine wpList_app _ rfl (.tmp 85) (.tmp 87) _ rfl W.heap.size 9 i1 _ 1 16 Tryz.underlying23 hj0 hy0 hy1 hy2 rfl (by omega) _ e0.length (SX e0) rfl (HOE.out) _ x.ns.length _ (SX x.ns) rfl (by rw [SX_len]; simp) (HRN.out) (SX_one _) (by simp only [maxLen]; omega) (by omega) (by first | omega | (simp; omega)) ?_; intro v5 w5 hown5 hg5 hb5 hat5; clear hat5; have hx5 := (hb5.block _ HLT2.out).trans HBX.out; have p2 : w5.cell? ⟨w.heap.size, 2, none⟩ = some (.string ⟨#[]⟩) := (pr_cells hx5).2.2.1.trans (by rw [HEC.out]); have p3 : w5.cell? ⟨w.heap.size, 3, none⟩ = some (.string ⟨#[]⟩) := (pr_cells hx5).2.2.2.1.trans (by rw [HEN.out]); have p4 : w5.cell? ⟨w.heap.size, 4, none⟩ = some (.string ⟨ed.toArray⟩) := (pr_cells hx5).2.2.2.2.trans (by rw [HED.out]); have HO14 := hh (own_more (b := x.ns) rfl HE1.out hown5); have HB14 := hh (HB.out.trans hb5); have hsz14 := HB14.out.size; have w5h : ∃ v, v = w5 := ⟨_, rfl⟩; clear hown5 hg5 hb5 hx5)
       | (at_builtin; refine wpList_app _ rfl (.tmp 94) (.tmp 101) _ rfl W.heap.size 9 i1 _ 1 16 Tryz.underlying23 hj0 hy0 hy1 hy2 rfl (by omega) _ e1.length (SX e1) rfl ((HO14.out.alloc (.cells #[.string ⟨#[]⟩, .string ⟨#[]⟩, .string ⟨ed.toArray⟩] 25)).alloc (.cells #[.string ⟨#[]⟩, .string ⟨#[]⟩, .string ⟨ed.toArray⟩] 9)) _ 3 _ ([.string ⟨#[]⟩, .string ⟨#[]⟩, .string ⟨ed.toArray⟩]) rfl (rfl) (new_rdg (W := w5.alloc (.cells #[.string ⟨#[]⟩, .string ⟨#[]⟩, .string ⟨ed.toArray⟩] 25)) (w5.heap.size + 1) #[.string ⟨#[]⟩, .string ⟨#[]⟩, .string ⟨ed.toArray⟩] 9 3 (by simp) [.string ⟨#[]⟩, .string ⟨#[]⟩, .string ⟨ed.toArray⟩] rfl) (by simp [Value.oneCell']) (by simp only [maxLen]; omega) (by omega) (by first | omega | (simp; omega)) ?_; intro v7 w7 hown7 hg7 hb7 hat7; clear hat7; have HO16 := hh (own_more (b := [[], [], ed]) rfl HE2.out hown7); have HB16 := hh (((HB14.out.alloc hsz14 (.cells #[.string ⟨#[]⟩, .string ⟨#[]⟩, .string ⟨ed.toArray⟩] 25)).alloc (by simp; omega) (.cells #[.string ⟨#[]⟩, .string ⟨#[]⟩, .string ⟨ed.toArray⟩] 9)).trans hb7); clear hown7 hg7 hb7))
      obtain ⟨A9, c9, rfl, _, _, hrd9⟩ := own_rd HO16.out
      have HRD9 := hh hrd9
      clear hrd9
      (try go_wp2)
      go_ret
      rw [HRR.out]
      exact ⟨⟨A9, c9, rfl, HRD9.out⟩, HAL.out.trans (HB16.out.mono HAL.out.size)⟩
    ·skip
     obtain ⟨e2, he2⟩ : ∃ a, a = e1 ++ ([[], en, ed] : List Tx) := ⟨_, rfl⟩
     have hR : R = e2 := by rw [HS1.out, HEL.out, he2]; simp [h2]
     have HRR := hh hR; have HE2 := hh he2
     clear hR he2
     go_wp2_with (first
      | (at_builtin; refine wpList_app _ rfl (.tmp 85) (.tmp 87) _ rfl W.heap.size 9 i1 _ 1 16 Tryz.underlying23 hj0 hy0 hy1 hy2 rfl (by omega) _ e0.length (SX e0) rfl (HOE.out) _ x.ns.length _ (SX x.ns) rfl (by rw [SX_len]; simp) (HRN.out) (SX_one _) (by simp only [maxLen]; omega) (by omega) (by first | omega | (simp; omega)) ?_; intro v5 w5 hown5 hg5 hb5 hat5; clear hat5; have hx5 := (hb5.block _ HLT2.out).trans HBX.out; have p2 : w5.cell? ⟨w.heap.size, 2, none⟩ = some (.string ⟨#[]⟩) := (pr_cells hx5).2.2.1.trans (by rw [HEC.out]); have p3 : w5.cell? ⟨w.heap.size, 3, none⟩ = some (.string ⟨en.toArray⟩) := (pr_cells hx5).2.2.2.1.trans (by rw [HEN.out]); have p4 : w5.cell? ⟨w.heap.size, 4, none⟩ = some (.string ⟨ed.toArray⟩) := (pr_cells hx5).2.2.2.2.trans (by rw [HED.out]); have HO14 := hh (own_more (b := x.ns) rfl HE1.out hown5); have HB14 := hh (HB.out.trans hb5); have hsz14 := HB14.out.size; have w5h : ∃ v, v = w5 := ⟨_, rfl⟩; clear hown5 hg5 hb5 hx5)
      | (at_builtin; refine wpList_app _ rfl (.tmp 94) (.tmp 101) _ rfl W.heap.size 9 i1 _ 1 16 Tryz.underlying23 hj0 hy0 hy1 hy2 rfl (by omega) _ e1.length (SX e1) rfl ((HO14.out.alloc (.cells #[.string ⟨#[]⟩, .string ⟨en.toArray⟩, .string ⟨ed.toArray⟩] 25)).alloc (.cells #[.string ⟨#[]⟩, .string ⟨en.toArray⟩, .string ⟨ed.toArray⟩] 9)) _ 3 _ ([.string ⟨#[]⟩, .string ⟨en.toArray⟩, .string ⟨ed.toArray⟩]) rfl (rfl) (new_rdg (W := w5.alloc (.cells #[.string ⟨#[]⟩, .string ⟨en.toArray⟩, .string ⟨ed.toArray⟩] 25)) (w5.heap.size + 1) #[.string ⟨#[]⟩, .string ⟨en.toArray⟩, .string ⟨ed.toArray⟩] 9 3 (by simp) [.string ⟨#[]⟩, .string ⟨en.toArray⟩, .string ⟨ed.toArray⟩] rfl) (by simp [Value.oneCell']) (by simp only [maxLen]; omega) (by omega) (by first | omega | (simp; omega)) ?_; intro v7 w7 hown7 hg7 hb7 hat7; clear hat7; have HO16 := hh (own_more (b := [[], en, ed]) rfl HE2.out hown7); have HB16 := hh (((HB14.out.alloc hsz14 (.cells #[.string ⟨#[]⟩, .string ⟨en.toArray⟩, .string ⟨ed.toArray⟩] 25)).alloc (by simp; omega) (.cells #[.string ⟨#[]⟩, .string ⟨en.toArray⟩, .string ⟨ed.toArray⟩] 9)).trans hb7); clear hown7 hg7 hb7))
     obtain ⟨A9, c9, rfl, _, _, hrd9⟩ := own_rd HO16.out
     have HRD9 := hh hrd9
     clear hrd9
     (try go_wp2)
     go_ret
     rw [HRR.out]
     exact ⟨⟨A9, c9, rfl, HRD9.out⟩, HAL.out.trans (HB16.out.mono HAL.out.size)⟩
   ·skip
    obtain ⟨e2, he2⟩ : ∃ a, a = e1 ++ ([ec, en, ed] : List Tx) := ⟨_, rfl⟩
    have hR : R = e2 := by rw [HS1.out, HEL.out, he2]; simp [h1]
    have HRR := hh hR; have HE2 := hh he2
    clear hR he2
    go_wp2_with (first
     | (at_builtin; refine wpList_app _ rfl (.tmp 85) (.tmp 87) _ rfl W.heap.size 9 i1 _ 1 16 Tryz.underlying23 hj0 hy0 hy1 hy2 rfl (by omega) _ e0.length (SX e0) rfl (HOE.out) _ x.ns.length _ (SX x.ns) rfl (by rw [SX_len]; simp) (HRN.out) (SX_one _) (by simp only [maxLen]; omega) (by omega) (by first | omega | (simp; omega)) ?_; intro v5 w5 hown5 hg5 hb5 hat5; clear hat5; have hx5 := (hb5.block _ HLT2.out).trans HBX.out; have p2 : w5.cell? ⟨w.heap.size, 2, none⟩ = some (.string ⟨ec.toArray⟩) := (pr_cells hx5).2.2.1.trans (by rw [HEC.out]); have p3 : w5.cell? ⟨w.heap.size, 3, none⟩ = some (.string ⟨en.toArray⟩) := (pr_cells hx5).2.2.2.1.trans (by rw [HEN.out]); have p4 : w5.cell? ⟨w.heap.size, 4, none⟩ = some (.string ⟨ed.toArray⟩) := (pr_cells hx5).2.2.2.2.trans (by rw [HED.out]); have HO14 := hh (own_more (b := x.ns) rfl HE1.out hown5); have HB14 := hh (HB.out.trans hb5); have hsz14 := HB14.out.size; have w5h : ∃ v, v = w5 := ⟨_, rfl⟩; clear hown5 hg5 hb5 hx5)
     | (at_builtin; refine wpList_app _ rfl (.tmp 94) (.tmp 101) _ rfl W.heap.size 9 i1 _ 1 16 Tryz.underlying23 hj0 hy0 hy1 hy2 rfl (by omega) _ e1.length (SX e1) rfl ((HO14.out.alloc (.cells #[.string ⟨ec.toArray⟩, .string ⟨en.toArray⟩, .string ⟨ed.toArray⟩] 25)).alloc (.cells #[.string ⟨ec.toArray⟩, .string ⟨en.toArray⟩, .string ⟨ed.toArray⟩] 9)) _ 3 _ ([.string ⟨ec.toArray⟩, .string ⟨en.toArray⟩, .string ⟨ed.toArray⟩]) rfl (rfl) (new_rdg (W := w5.alloc (.cells #[.string ⟨ec.toArray⟩, .string ⟨en.toArray⟩, .string ⟨ed.toArray⟩] 25)) (w5.heap.size + 1) #[.string ⟨ec.toArray⟩, .string ⟨en.toArray⟩, .string ⟨ed.toArray⟩] 9 3 (by simp) [.string ⟨ec.toArray⟩, .string ⟨en.toArray⟩, .string ⟨ed.toArray⟩] rfl) (by simp [Value.oneCell']) (by simp only [maxLen]; omega) (by omega) (by first | omega | (simp; omega)) ?_; intro v7 w7 hown7 hg7 hb7 hat7; clear hat7; have HO16 := hh (own_more (b := [ec, en, ed]) rfl HE2.out hown7); have HB16 := hh (((HB14.out.alloc hsz14 (.cells #[.string ⟨ec.toArray⟩, .string ⟨en.toArray⟩, .string ⟨ed.toArray⟩] 25)).alloc (by simp; omega) (.cells #[.string ⟨ec.toArray⟩, .string ⟨en.toArray⟩, .string ⟨ed.toArray⟩] 9)).trans hb7); clear hown7 hg7 hb7))
    obtain ⟨A9, c9, rfl, _, _, hrd9⟩ := own_rd HO16.out
    have HRD9 := hh hrd9
    clear hrd9
    (try go_wp2)
    go_ret
    rw [HRR.out]
    exact ⟨⟨A9, c9, rfl, HRD9.out⟩, HAL.out.trans (HB16.out.mono HAL.out.size)⟩
end Go.Proofs.YtgociheckcpjkaaGreatDoor.prg

/-
 Layer 8: of a program that is not great all is bounded; all strings of a program: the program’s answers.
-/
import Derived.Test.YtgpfohpmgbnimaaNormK
import Derived.Test.YtgpfohpmgbnimaaNormP
import Derived.Deep.RegionHeld3
import Derived.Test.YtgpfohpmgbnimaaStep
/- Layer 8: of a program that is not great all is bounded. -/
namespace Go.Proofs.Ytgpfohpmgbnimaa.prg
open Go.RowKit
open words kindp opp op kind word

def GrI (x : InM) : Prop := x.i.ar.length ≤ 60 ∧ x.i.cl.length ≤ 300 ∧ x.i.nm.length ≤ 300 ∧ x.i.ds.length ≤ 300
def GrM (m : MeM) : Prop := (m.co.length ≤ 300 ∧ m.nm.length ≤ 300 ∧ m.ds.length ≤ 300) ∧ ∀ x ∈ m.co, GrI x
def GrC (c : ClM) : Prop := (c.is.length ≤ 40 ∧ c.fs.length ≤ 40 ∧ c.ms.length ≤ 40 ∧ c.nm.length ≤ 300 ∧ c.su.length ≤ 300) ∧ ∀ m ∈ c.ms, GrM m
def GrP (p : PrM) : Prop := (p.cs.length ≤ 70 ∧ p.ns.length ≤ 70) ∧ ∀ c ∈ p.cs, GrC c
def GrW (x : PrM) (w : World) (e : Ending) (w' : World) : Prop := ∃ g, e = .returned (.bool g) ∧ (g = false → GrP x) ∧ Below w.heap.size w w'
theorem gr_mk {x : PrM} {w w' : World} {e : Ending} {g : Bool} (h : e = .returned (.bool g)) (h1 : g = false → GrP x) (h2 : Below w.heap.size w w') : GrW x w e w' := ⟨g, h, h1, h2⟩
theorem GrP.fit {p : PrM} (h : GrP p) : PrFit p := fun c hc m hm => ⟨by have := ((h.2 c hc).2 m hm).1.2.2; omega, fun y hy => ⟨by have := (((h.2 c hc).2 m hm).2 y hy).2.2.2; omega, by have := (((h.2 c hc).2 m hm).2 y hy).1; omega⟩⟩
theorem all_more {α : Type} {P : α → Prop} {l : List α} {k : Nat} {x : α} (h : ∀ y ∈ l.take k, P y) (hx : l[k]? = some x) (hp : P x) : ∀ y ∈ l.take (k + 1), P y := by
 intro y hy
 rw [List.take_add_one, hx, List.mem_append] at hy
 rcases hy with hy | hy
 ·exact h y hy
 ·simp at hy; subst hy; exact hp

set_option maxRecDepth 100000 in
set_option maxHeartbeats 16000000 in
set_option linter.all false in
theorem great_w (x : PrM) (w : World) (hk : PrOk w x) (hb : PrBd x) : Calls Try.prog 7 #[.agg (prC x).toArray] w (GrW x w) := by
 obtain ⟨W, hW⟩ : ∃ W, W = w.alloc (.cells (prC x).toArray 27) := ⟨_, rfl⟩
 have hal : Below w.heap.size w W := by rw [hW]; exact (Below.refl _ w).alloc (Nat.le_refl _) _
 have HAL := Lib.hid hal
 have hblk : W.heap[w.heap.size]? = some (.cells (prC x).toArray 27 (0, 0)) := by rw [hW]; exact heap_alloc_new w _
 have HBK := Lib.hid hblk; have HLT := Lib.hid (blk_lt hblk)
 obtain ⟨x0_0, x0_1, x0_2, x0_3, x0_4⟩ := pr_cells hblk
 have K0 := Lib.hid (Below.refl W.heap.size W)
 have HKW := Lib.hid (hk.below hal)
 have HBD := Lib.hid hb
 have l1 : x.cs.length ≤ 281474976710656 := by have := hb.1.1; omega
 have l2 : x.ns.length ≤ 281474976710656 := by have := hb.2.1.1; omega
 obtain ⟨n, hn⟩ : ∃ n, n = x.cs.length := ⟨_, rfl⟩
 rw [← hn] at x0_0 l1
 obtain ⟨n2, hn2⟩ : ∃ n, n = x.ns.length := ⟨_, rfl⟩
 rw [← hn2] at x0_1 l2
 have nI : (n : Int) ≤ 281474976710656 := by omega
 have n2I : (n2 : Int) ≤ 281474976710656 := by omega
 unfold prC at hW ⊢
 try dsimp only at hW ⊢
 rw [← hn, ← hn2] at hW ⊢
 have HW := Lib.hid hW
 have HN := Lib.hid hn; have HN2 := Lib.hid hn2
 clear hal hblk hW hk hb l1 l2 hn hn2
 by_cases pn : 70 < n
 ·have gin : (70 : Int) < (n : Int) := by omega
  have gdn : decide ((70 : Int) < (n : Int)) = true := decide_eq_true gin
  go_enter Try.func7, Try.ntmps7
  go_wp2_with fail
  rw [← HW.out]
  (try go_wp2)
  go_ret
  exact gr_mk (g := true) rfl (fun h => by cases h) HAL.out
 have jn : ¬ (70 : Int) < (n : Int) := by omega
 by_cases pn2 : 70 < n2
 ·have gin2 : (70 : Int) < (n2 : Int) := by omega
  have gdn2 : decide ((70 : Int) < (n2 : Int)) = true := decide_eq_true gin2
  go_enter Try.func7, Try.ntmps7
  go_wp2_with fail
  rw [← HW.out]
  (try go_wp2)
  go_ret
  exact gr_mk (g := true) rfl (fun h => by cases h) HAL.out
 have jn2 : ¬ (70 : Int) < (n2 : Int) := by omega
 have dj : decide ((70 : Int) < (n2 : Int)) = false := decide_eq_false jn2
 go_enter Try.func7, Try.ntmps7
 go_wp2_with fail
 rw [← HW.out]
 (try go_wp2)
 go_loopw [3] (fun i wr => ∃ k : Nat, i = .int .i64 (k : Int) ∧ k ≤ n ∧ (∀ c ∈ x.cs.take k, GrC c) ∧ Below W.heap.size W wr) (fun i _ => n - (intOf i).toNat)
 case atStart => exact ⟨0, rfl, Nat.zero_le _, by simp, Below.refl _ _⟩
 case round =>
  obtain ⟨k, rfl, hk, hall, hbw⟩ := hrel
  obtain ⟨wa, hwa⟩ : ∃ v, v = wr := ⟨_, rfl⟩
  subst hwa
  have HA := Lib.hid hall; have HB := Lib.hid hbw
  obtain ⟨x1_0, x1_1, x1_2, x1_3, x1_4⟩ := pr_cells ((hbw.block _ HLT.out).trans HBK.out)
  rw [← HN.out] at x1_0
  rw [← HN2.out] at x1_1
  clear hall x0_0 x0_1 x0_2 x0_3 x0_4 dj jn2
  by_cases hlt : k < n
  ·have hltI : (k : Int) < (n : Int) := by omega
   obtain ⟨y, hy⟩ : ∃ y, x.cs[k]? = some y := ⟨x.cs[k]'(by rw [← HN.out]; exact hlt), List.getElem?_eq_getElem _⟩
   have hmem := List.mem_of_getElem? hy
   have hok := HKW.out.2.2 y hmem
   have hbd := HBD.out.1.2 y hmem
   obtain ⟨a, ea, ha, c0, c1, c2, c3, c4, c5, c6⟩ := cl_at (HKW.out.1.2.below hbw) hy
   rw [ea] at x1_0
   have HEA := Lib.hid ea
   have q1 := hbd.2.2.1.1
   have q2 := hbd.2.2.2.1.1
   have q3 := hbd.2.2.2.2.1
   have s4 := mk_sz y.nm
   have s5 := mk_sz y.su
   have q4 := hbd.1
   have q5 := hbd.2.1
   obtain ⟨m1, hm1⟩ : ∃ n, n = y.is.length := ⟨_, rfl⟩
   rw [← hm1] at c4 q1
   obtain ⟨m2, hm2⟩ : ∃ n, n = y.fs.length := ⟨_, rfl⟩
   rw [← hm2] at c5 q2
   obtain ⟨m3, hm3⟩ : ∃ n, n = y.ms.length := ⟨_, rfl⟩
   rw [← hm3] at c6 q3
   obtain ⟨m4, hm4⟩ : ∃ n, n = y.nm.length := ⟨_, rfl⟩
   rw [← hm4] at s4 q4
   obtain ⟨m5, hm5⟩ : ∃ n, n = y.su.length := ⟨_, rfl⟩
   rw [← hm5] at s5 q5
   have m1I : (m1 : Int) ≤ 281474976710656 := by omega
   have m2I : (m2 : Int) ≤ 281474976710656 := by omega
   have m3I : (m3 : Int) ≤ 281474976710656 := by omega
   have m4I : (m4 : Int) ≤ 281474976710656 := by omega
   have m5I : (m5 : Int) ≤ 281474976710656 := by omega
   have HOK := Lib.hid hok; have HBY := Lib.hid hbd; have HY := Lib.hid hy; have HMM := Lib.hid hmem
   have H1 := Lib.hid hm1; have H2 := Lib.hid hm2; have H3 := Lib.hid hm3; have H4 := Lib.hid hm4; have H5 := Lib.hid hm5
   have hax := hbw.alloc hbw.size (.cells (clC y).toArray 42)
   unfold clC at hax
   try dsimp only at hax
   rw [← hm1, ← hm2, ← hm3] at hax
   have HAX := Lib.hid hax
   clear hok hbd hy hmem hm1 hm2 hm3 hm4 hm5 hax q1 q2 q3 q4 q5 ea hbw ha
   by_cases pm1 : 40 < m1
   ·have gim1 : (40 : Int) < (m1 : Int) := by omega
    have gdm1 : decide ((40 : Int) < (m1 : Int)) = true := decide_eq_true gim1
    go_wp2
    go_ret
    exact gr_mk (g := true) rfl (fun h => by cases h) (HAL.out.trans (HAX.out.mono HAL.out.size))
   have jm1 : ¬ (40 : Int) < (m1 : Int) := by omega
   by_cases pm2 : 40 < m2
   ·have gim2 : (40 : Int) < (m2 : Int) := by omega
    have gdm2 : decide ((40 : Int) < (m2 : Int)) = true := decide_eq_true gim2
    go_wp2
    go_ret
    exact gr_mk (g := true) rfl (fun h => by cases h) (HAL.out.trans (HAX.out.mono HAL.out.size))
   have jm2 : ¬ (40 : Int) < (m2 : Int) := by omega
   by_cases pm3 : 40 < m3
   ·have gim3 : (40 : Int) < (m3 : Int) := by omega
    have gdm3 : decide ((40 : Int) < (m3 : Int)) = true := decide_eq_true gim3
    go_wp2
    go_ret
    exact gr_mk (g := true) rfl (fun h => by cases h) (HAL.out.trans (HAX.out.mono HAL.out.size))
   have jm3 : ¬ (40 : Int) < (m3 : Int) := by omega
   by_cases pm4 : 300 < m4
   ·have gim4 : (300 : Int) < (m4 : Int) := by omega
    have gdm4 : decide ((300 : Int) < (m4 : Int)) = true := decide_eq_true gim4
    go_wp2
    go_ret
    exact gr_mk (g := true) rfl (fun h => by cases h) (HAL.out.trans (HAX.out.mono HAL.out.size))
   have jm4 : ¬ (300 : Int) < (m4 : Int) := by omega
   by_cases pm5 : 300 < m5
   ·have gim5 : (300 : Int) < (m5 : Int) := by omega
    have gdm5 : decide ((300 : Int) < (m5 : Int)) = true := decide_eq_true gim5
    go_wp2
    go_ret
    exact gr_mk (g := true) rfl (fun h => by cases h) (HAL.out.trans (HAX.out.mono HAL.out.size))
   have jm5 : ¬ (300 : Int) < (m5 : Int) := by omega
   have dj : decide ((300 : Int) < (m5 : Int)) = false := decide_eq_false jm5
   have HG := Lib.hid (show m1 ≤ 40 ∧ m2 ≤ 40 ∧ m3 ≤ 40 ∧ m4 ≤ 300 ∧ m5 ≤ 300 by omega)
   go_wp2
   clear c0 c1 c2 c3 c4 c5 c6 dj jm1 jm2 jm3 jm4 jm5 pm1 pm2 pm3 pm4 pm5 s4 s5 m1I m2I m4I m5I
   have HXB := Lib.hid (heap_alloc_new wa (.cells #[.string ⟨y.nm.toArray⟩, .string ⟨y.su.toArray⟩, .bool y.fc, .bool y.ab, .slice y.A1 m1 y.c1, .slice y.A2 m2 y.c2, .slice y.A3 m3 y.c3] 42))
   have HXL := Lib.hid (blk_lt HXB.out)
   go_loopw [5] (fun i ws => ∃ k2 : Nat, i = .int .i64 (k2 : Int) ∧ k2 ≤ m3 ∧ (∀ m ∈ y.ms.take k2, GrM m) ∧ Below W.heap.size W ws ∧ ws.heap[wa.heap.size]? = some (.cells #[.string ⟨y.nm.toArray⟩, .string ⟨y.su.toArray⟩, .bool y.fc, .bool y.ab, .slice y.A1 m1 y.c1, .slice y.A2 m2 y.c2, .slice y.A3 m3 y.c3] 42 (0, 0))) (fun i _ => m3 - (intOf i).toNat)
   case atStart => exact ⟨0, rfl, Nat.zero_le _, by simp, HAX.out, HXB.out⟩
   case round =>
    obtain ⟨k2, rfl, hk2, hall2, hbs, hxs⟩ := hrel
    obtain ⟨ws, hws⟩ : ∃ v, v = wr := ⟨_, rfl⟩
    subst hws
    have HA2 := Lib.hid hall2; have HB2 := Lib.hid hbs; have HX2 := Lib.hid hxs
    have z6 : ws.cell? ⟨wa.heap.size, 6, none⟩ = some (.slice y.A3 m3 y.c3) := cell_of_row _ _ 6 _ _ _ hxs
    clear hall2 hxs x1_0 x1_1 x1_2 x1_3 x1_4
    by_cases hlt2 : k2 < m3
    ·have hltI2 : (k2 : Int) < (m3 : Int) := by omega
     obtain ⟨z, hz⟩ : ∃ z, y.ms[k2]? = some z := ⟨y.ms[k2]'(by rw [← H3.out]; exact hlt2), List.getElem?_eq_getElem _⟩
     have hmem := List.mem_of_getElem? hz
     have hok := HOK.out.2.2.2 z hmem
     have hbd := HBY.out.2.2.2.2.2 z hmem
     obtain ⟨b, eb, hbl, d0, d1, d2, d3, d4, d5⟩ := me_at (HOK.out.2.2.1.2.below hbs) hz
     rw [eb] at z6
     have HEB := Lib.hid eb
     have q1 := hbd.2.2.1
     have s2 := mk_sz z.nm
     have s3 := mk_sz z.ds
     have q2 := hbd.1
     have q3 := hbd.2.1
     obtain ⟨r1, hr1⟩ : ∃ n, n = z.co.length := ⟨_, rfl⟩
     rw [← hr1] at d5 q1
     obtain ⟨r2, hr2⟩ : ∃ n, n = z.nm.length := ⟨_, rfl⟩
     rw [← hr2] at s2 q2
     obtain ⟨r3, hr3⟩ : ∃ n, n = z.ds.length := ⟨_, rfl⟩
     rw [← hr3] at s3 q3
     have r1I : (r1 : Int) ≤ 281474976710656 := by omega
     have r2I : (r2 : Int) ≤ 281474976710656 := by omega
     have r3I : (r3 : Int) ≤ 281474976710656 := by omega
     have HOZ := Lib.hid hok; have HBZ := Lib.hid hbd; have HZ := Lib.hid hz
     have H6 := Lib.hid hr1; have H7 := Lib.hid hr2; have H8 := Lib.hid hr3
     have hax2 := hbs.alloc hbs.size (.cells (meC z).toArray 48)
     have hxb2 := (Below.heap_alloc ws (.cells (meC z).toArray 48) wa.heap.size (blk_lt HX2.out)).trans HX2.out
     unfold meC at hax2 hxb2
     try dsimp only at hax2 hxb2
     rw [← hr1] at hax2 hxb2
     have HAX2 := Lib.hid hax2; have HXB2 := Lib.hid hxb2
     clear hok hbd hz hmem hr1 hr2 hr3 hax2 hxb2 q1 q2 q3 eb hbl hbs
     by_cases pr1 : 300 < r1
     ·have gir1 : (300 : Int) < (r1 : Int) := by omega
      have gdr1 : decide ((300 : Int) < (r1 : Int)) = true := decide_eq_true gir1
      go_wp2
      go_ret
      exact gr_mk (g := true) rfl (fun h => by cases h) (HAL.out.trans (HAX2.out.mono HAL.out.size))
     have jr1 : ¬ (300 : Int) < (r1 : Int) := by omega
     by_cases pr2 : 300 < r2
     ·have gir2 : (300 : Int) < (r2 : Int) := by omega
      have gdr2 : decide ((300 : Int) < (r2 : Int)) = true := decide_eq_true gir2
      go_wp2
      go_ret
      exact gr_mk (g := true) rfl (fun h => by cases h) (HAL.out.trans (HAX2.out.mono HAL.out.size))
     have jr2 : ¬ (300 : Int) < (r2 : Int) := by omega
     by_cases pr3 : 300 < r3
     ·have gir3 : (300 : Int) < (r3 : Int) := by omega
      have gdr3 : decide ((300 : Int) < (r3 : Int)) = true := decide_eq_true gir3
      go_wp2
      go_ret
      exact gr_mk (g := true) rfl (fun h => by cases h) (HAL.out.trans (HAX2.out.mono HAL.out.size))
     have jr3 : ¬ (300 : Int) < (r3 : Int) := by omega
     have dj : decide ((300 : Int) < (r3 : Int)) = false := decide_eq_false jr3
     have HG2 := Lib.hid (show r1 ≤ 300 ∧ r2 ≤ 300 ∧ r3 ≤ 300 by omega)
     go_wp2
     clear d0 d1 d2 d3 d4 d5 dj jr1 jr2 jr3 pr1 pr2 pr3 s2 s3 r2I r3I z6
     have HYB := Lib.hid (heap_alloc_new ws (.cells #[.string ⟨z.nm.toArray⟩, .string ⟨z.ds.toArray⟩, .bool z.st, .bool z.ab, .int .i64 z.rg, .slice z.A r1 z.c] 48))
     go_loopw [7] (fun i wt => ∃ k3 : Nat, i = .int .i64 (k3 : Int) ∧ k3 ≤ r1 ∧ (∀ t ∈ z.co.take k3, GrI t) ∧ Below W.heap.size W wt ∧ wt.heap[wa.heap.size]? = some (.cells #[.string ⟨y.nm.toArray⟩, .string ⟨y.su.toArray⟩, .bool y.fc, .bool y.ab, .slice y.A1 m1 y.c1, .slice y.A2 m2 y.c2, .slice y.A3 m3 y.c3] 42 (0, 0)) ∧ wt.heap[ws.heap.size]? = some (.cells #[.string ⟨z.nm.toArray⟩, .string ⟨z.ds.toArray⟩, .bool z.st, .bool z.ab, .int .i64 z.rg, .slice z.A r1 z.c] 48 (0, 0))) (fun i _ => r1 - (intOf i).toNat)
     case atStart => exact ⟨0, rfl, Nat.zero_le _, by simp, HAX2.out, HXB2.out, HYB.out⟩
     case round =>
      obtain ⟨k3, rfl, hk3, hall3, hbt, hxt, hyt⟩ := hrel
      obtain ⟨wt, hwt⟩ : ∃ v, v = wr := ⟨_, rfl⟩
      subst hwt
      have HA3 := Lib.hid hall3; have HB3 := Lib.hid hbt; have HX3 := Lib.hid hxt
      have z5 : wt.cell? ⟨ws.heap.size, 5, none⟩ = some (.slice z.A r1 z.c) := cell_of_row _ _ 5 _ _ _ hyt
      have HY3 := Lib.hid hyt
      clear hall3 hxt hyt
      by_cases hlt3 : k3 < r1
      ·have hltI3 : (k3 : Int) < (r1 : Int) := by omega
       obtain ⟨t, ht⟩ : ∃ t, z.co[k3]? = some t := ⟨z.co[k3]'(by rw [← H6.out]; exact hlt3), List.getElem?_eq_getElem _⟩
       have hmem := List.mem_of_getElem? ht
       have hbd := HBZ.out.2.2.2 t hmem
       obtain ⟨c, ec, hcl, e0, e1, e2, e3, e4, e5, e6, e7, e8⟩ := in_at (HOZ.out.2.1.below hbt) ht
       rw [ec] at z5
       have q1 := hbd.1
       have s2 := mk_sz t.i.cl
       have s3 := mk_sz t.i.nm
       have s4 := mk_sz t.i.ds
       have q2 := hbd.2.1
       have q3 := hbd.2.2.1
       have q4 := hbd.2.2.2
       obtain ⟨u1, hu1⟩ : ∃ n, n = t.i.ar.length := ⟨_, rfl⟩
       rw [← hu1] at e8 q1
       obtain ⟨u2, hu2⟩ : ∃ n, n = t.i.cl.length := ⟨_, rfl⟩
       rw [← hu2] at s2 q2
       obtain ⟨u3, hu3⟩ : ∃ n, n = t.i.nm.length := ⟨_, rfl⟩
       rw [← hu3] at s3 q3
       obtain ⟨u4, hu4⟩ : ∃ n, n = t.i.ds.length := ⟨_, rfl⟩
       rw [← hu4] at s4 q4
       have u1I : (u1 : Int) ≤ 281474976710656 := by omega
       have u2I : (u2 : Int) ≤ 281474976710656 := by omega
       have u3I : (u3 : Int) ≤ 281474976710656 := by omega
       have u4I : (u4 : Int) ≤ 281474976710656 := by omega
       have HT := Lib.hid ht
       have H9 := Lib.hid hu1; have H10 := Lib.hid hu2; have H11 := Lib.hid hu3; have H12 := Lib.hid hu4
       clear hbd ht hmem hu1 hu2 hu3 hu4 q1 q2 q3 q4 ec hcl hbt
       by_cases pu1 : 60 < u1
       ·have giu1 : (60 : Int) < (u1 : Int) := by omega
        have gdu1 : decide ((60 : Int) < (u1 : Int)) = true := decide_eq_true giu1
        go_wp2
        go_ret
        exact gr_mk (g := true) rfl (fun h => by cases h) (HAL.out.trans (HB3.out.mono HAL.out.size))
       have ju1 : ¬ (60 : Int) < (u1 : Int) := by omega
       by_cases pu2 : 300 < u2
       ·have giu2 : (300 : Int) < (u2 : Int) := by omega
        have gdu2 : decide ((300 : Int) < (u2 : Int)) = true := decide_eq_true giu2
        go_wp2
        go_ret
        exact gr_mk (g := true) rfl (fun h => by cases h) (HAL.out.trans (HB3.out.mono HAL.out.size))
       have ju2 : ¬ (300 : Int) < (u2 : Int) := by omega
       by_cases pu3 : 300 < u3
       ·have giu3 : (300 : Int) < (u3 : Int) := by omega
        have gdu3 : decide ((300 : Int) < (u3 : Int)) = true := decide_eq_true giu3
        go_wp2
        go_ret
        exact gr_mk (g := true) rfl (fun h => by cases h) (HAL.out.trans (HB3.out.mono HAL.out.size))
       have ju3 : ¬ (300 : Int) < (u3 : Int) := by omega
       by_cases pu4 : 300 < u4
       ·have giu4 : (300 : Int) < (u4 : Int) := by omega
        have gdu4 : decide ((300 : Int) < (u4 : Int)) = true := decide_eq_true giu4
        go_wp2
        go_ret
        exact gr_mk (g := true) rfl (fun h => by cases h) (HAL.out.trans (HB3.out.mono HAL.out.size))
       have ju4 : ¬ (300 : Int) < (u4 : Int) := by omega
       have dj : decide ((300 : Int) < (u4 : Int)) = false := decide_eq_false ju4
       have HG3 := Lib.hid (show GrI t from ⟨by rw [← H9.out]; omega, by rw [← H10.out]; omega, by rw [← H11.out]; omega, by rw [← H12.out]; omega⟩)
       go_wp2
       go_roundw
       case rel => exact ⟨k3 + 1, by go_num, by omega, all_more HA3.out HT.out HG3.out, HB3.out, HX3.out, HY3.out⟩
       case measure => simp [intOf]; omega
      ·have hltI3 : ¬ (k3 : Int) < (r1 : Int) := by omega
       have hcm := HA3.out
       rw [List.take_of_length_le (by rw [← H6.out]; omega)] at hcm
       have HGM := Lib.hid (show GrM z from ⟨⟨by rw [← H6.out]; exact HG2.out.1, by rw [← H7.out]; exact HG2.out.2.1, by rw [← H8.out]; exact HG2.out.2.2⟩, hcm⟩)
       clear hcm hbt
       go_wp2
       go_roundw
       case rel => exact ⟨k2 + 1, by go_num, by omega, all_more HA2.out HZ.out HGM.out, HB3.out, HX3.out⟩
       case measure => simp [intOf]; omega
    ·have hltI2 : ¬ (k2 : Int) < (m3 : Int) := by omega
     have hcm := HA2.out
     rw [List.take_of_length_le (by rw [← H3.out]; omega)] at hcm
     have HGC := Lib.hid (show GrC y from ⟨⟨by rw [← H1.out]; exact HG.out.1, by rw [← H2.out]; exact HG.out.2.1, by rw [← H3.out]; exact HG.out.2.2.1, by rw [← H4.out]; exact HG.out.2.2.2.1, by rw [← H5.out]; exact HG.out.2.2.2.2⟩, hcm⟩)
     clear hcm hbs
     go_wp2
     go_roundw
     case rel => exact ⟨k + 1, by go_num, by omega, all_more HA.out HY.out HGC.out, HB2.out⟩
     case measure => simp [intOf]; omega
  ·have hltI : ¬ (k : Int) < (n : Int) := by omega
   have hcm := HA.out
   rw [List.take_of_length_le (by rw [← HN.out]; omega)] at hcm
   have HGP := Lib.hid (show GrP x from ⟨⟨by rw [← HN.out]; omega, by rw [← HN2.out]; omega⟩, hcm⟩)
   clear hcm hbw
   go_wp2
   go_ret
   exact gr_mk (g := false) rfl (fun _ => HGP.out) (HAL.out.trans (HB.out.mono HAL.out.size))
end Go.Proofs.Ytgpfohpmgbnimaa.prg

/- Layer 8: those of some strings that are not empty, and all strings of a program: the program's answers. -/
namespace Go.Proofs.Ytgpfohpmgbnimaa.prg
open Go.RowKit
open words kindp opp op kind word

/-- a block of another sort stays behind an append to one's own row -/
theorem row_apart {W w1 : World} {base B k size : Nat} {t e : TypeId} {v : Value} {xs : List Value} {cs : Array Value} {fz : Nat × Nat} (h : W.heap[B]? = some (.cells cs t fz)) (hte : t ≠ e)
  (hrow : W.ownsRow base e size v k xs) (hgrow : W.grownBy w1 v.ownBlock) : w1.heap[B]? = some (.cells cs t fz) := by
 have hlt := (Array.getElem?_eq_some_iff.1 h).1
 have hnr : some B ≠ v.ownBlock := by
  rcases hrow.2 with ⟨rfl, _⟩ | ⟨g, cap, cur, rfl, _, hgb, _⟩
  ·simp [Value.ownBlock]
  ·intro e'
   obtain rfl : B = g := by simpa [Value.ownBlock] using e'
   rw [h] at hgb
   simp only [Option.some.injEq, Obj.cells.injEq] at hgb
   exact hte hgb.2.1
 exact (hgrow.block B hlt hnr).trans h
theorem own_more {w : World} {base : Nat} {v : Value} {a b c : List Tx} {n : Nat} (hn : b.length = n) (hc : c = a ++ b) (h : w.ownsRow base 9 1 v (a.length + n) (SX a ++ SX b)) : w.ownsRow base 9 1 v c.length (SX c) := by
 rw [hc, SX_app, List.length_append, hn]; exact h
theorem SX_one (l : List Tx) : ∀ u ∈ SX l, u.oneCell' = true := by
 intro u hu
 simp only [SX, List.mem_map] at hu
 obtain ⟨x, _, rfl⟩ := hu
 rfl
theorem filled_take {l : List Tx} {k : Nat} {x : Tx} (h : l[k]? = some x) : filledL (l.take (k + 1)) = filledL (l.take k) ++ (if (x == []) = true then [] else [x]) := by
 unfold filledL
 rw [List.take_add_one, h, List.filter_append]
 cases hx : (x == []) <;> simp_all
/-- what filled answers -/
def FilW (l : List Tx) (w : World) (e : Ending) (w' : World) : Prop := (∃ A c, e = .returned (.slice A (filledL l).length c) ∧ Rd w' A (SX (filledL l))) ∧ Below w.heap.size w w'

/-- what Strings answers -/
def StrW (l : List Tx) (w : World) (e : Ending) (w' : World) : Prop := (∃ A c, e = .returned (.slice A l.length c) ∧ Rd w' A (SX l)) ∧ Below w.heap.size w w'

end Go.Proofs.Ytgpfohpmgbnimaa.prg

/- Layer 8: all strings of a program: the program's answer. -/
namespace Go.Proofs.Ytgpfohpmgbnimaa.prg
open Go.RowKit
open words kindp opp op kind word
end Go.Proofs.Ytgpfohpmgbnimaa.prg

/- Find -/
import Derived.Test.YtdifmgeicnndfaaWordM
import Derived.Test.YtdifmgeicnndfaaRef
import Derived.Sort.Walk0
import Derived.WalkKit
import Derived.WalkLawsBesides
import Derived.Deep.QuietTactic
import Derived.BigQuiet
import Derived.Deep.RegionHeld3
import Derived.IntWalk
import Derived.Test.YtdifmgeicnndfaaOp
import Derived.RegionTactic
import Derived.RangeFuncNested
import Derived.RangeFuncBound
import Derived.RangeFuncCalls
import Derived.RangeFuncLeaves
import Derived.RangeFuncBox
import Derived.Shelf.Abstract
import Derived.Shelf.RegionOpen
import Derived.OwnWalkIn
import Derived.TacticsInMore
import Derived.LoopNIn
import Derived.LoopIn
namespace Go.Proofs.Ytdifmgeicnndfaa.prg
open Go.RowKit
open words kindp opp op kind word
set_option maxRecDepth 100000
theorem e_empty {s : Tx} {b : Bool} (h : (s == []) = b) : List.isEmpty s = b := by cases s <;> simpa using h
theorem ne_of {s t : Tx} {b : Bool} (h : (s == t) = b) : (s != t) = !b := by rw [bne, h]
end Go.Proofs.Ytdifmgeicnndfaa.prg
namespace Go.Proofs.Ytdifmgeicnndfaa.prg
open Go.RowKit
open words kindp opp op kind word
set_option maxRecDepth 100000
end Go.Proofs.Ytdifmgeicnndfaa.prg
namespace Go.Proofs.Ytdifmgeicnndfaa.prg
open Go.RowKit
open words kindp opp op kind word
set_option maxRecDepth 100000
theorem sx_get {l : List Tx} {i : Nat} {x : Tx} (h : l[i]? = some x) : (SX l)[i]? = some (.string ⟨x.toArray⟩) := by simp [SX, h]
end Go.Proofs.Ytdifmgeicnndfaa.prg
namespace Go.Proofs.Ytdifmgeicnndfaa.prg
open Go.RowKit
open words kindp opp op kind word
set_option maxRecDepth 100000
theorem less_mk (x y : Tx) : Op.bytesLess x y = decide (x < y) := bytesLess_eq x y
theorem eq_mk (x y : Tx) : (x == y) = decide (x = y) := by
 rw [Bool.eq_iff_iff]; simp
theorem tri (x y : Tx) : x < y ∨ (¬ x < y ∧ x = y) ∨ (¬ x < y ∧ ¬ x = y ∧ y < x) := by
 rcases Decidable.em (x < y) with h | h
 ·exact .inl h
 ·rcases Decidable.em (x = y) with h1 | h1
  ·exact .inr (.inl ⟨h, h1⟩)
  ·refine .inr (.inr ⟨h, h1, ?_⟩)
   rcases Decidable.em (y < x) with h2 | h2
   ·exact h2
   ·exact absurd (List.le_antisymm (List.not_lt.1 h2) (List.not_lt.1 h)) h1
def cmpI (x y : Tx) : Int := if x < y then -1 else if x = y then 0 else 1
theorem nan_w (x : Tx) (w : World) : Calls Try.prog 129 #[.string ⟨x.toArray⟩] w fun e w' => e = .returned (.bool false) ∧ w' = w := by
 have h1 : (x != x) = false := by simp
 go_enter Try.func129, Try.ntmps129
 go_wp2
 go_ret
 exact ⟨rfl, rfl⟩
theorem cmp_w (x y : Tx) (w : World) : Calls Try.prog 90 #[.string ⟨x.toArray⟩, .string ⟨y.toArray⟩] w fun e w' => e = .returned (.int .i64 (cmpI x y)) ∧ w' = w := by
 have HN := zh (fun x w => nan_w x w)
 have HC := zh (show cmpI x y = if x < y then -1 else if x = y then 0 else 1 from rfl)
 rcases tri x y with h | ⟨h, he⟩ | ⟨h, he, h2⟩
 ·have hl1 : Op.bytesLess x y = true := by rw [less_mk]; exact decide_eq_true h
  rw [HC.out, if_pos h]
  clear HC h
  go_enter Try.func90, Try.ntmps90
  go_wp2_with fail
  refine (HN.out _ _).mono ?_
  rintro e w ⟨rfl, rfl⟩
  go_wp2_with fail
  refine (HN.out _ _).mono ?_
  rintro e w ⟨rfl, rfl⟩
  clear HN
  go_wp2
  go_ret
  exact ⟨rfl, rfl⟩
 ·have hl1 : Op.bytesLess x y = false := by rw [less_mk]; exact decide_eq_false h
  have hl2 : (x == y) = true := by rw [eq_mk]; exact decide_eq_true he
  rw [HC.out, if_neg h, if_pos he]
  clear HC h he
  go_enter Try.func90, Try.ntmps90
  go_wp2_with fail
  refine (HN.out _ _).mono ?_
  rintro e w ⟨rfl, rfl⟩
  go_wp2_with fail
  refine (HN.out _ _).mono ?_
  rintro e w ⟨rfl, rfl⟩
  clear HN
  go_wp2
  go_ret
  exact ⟨rfl, rfl⟩
 ·have hl1 : Op.bytesLess x y = false := by rw [less_mk]; exact decide_eq_false h
  have hl2 : (x == y) = false := by rw [eq_mk]; exact decide_eq_false he
  rw [HC.out, if_neg h, if_neg he]
  clear HC h he h2
  go_enter Try.func90, Try.ntmps90
  go_wp2_with fail
  refine (HN.out _ _).mono ?_
  rintro e w ⟨rfl, rfl⟩
  go_wp2_with fail
  refine (HN.out _ _).mono ?_
  rintro e w ⟨rfl, rfl⟩
  clear HN
  go_wp2
  go_ret
  exact ⟨rfl, rfl⟩
theorem overD {b : Nat} {a c : World} (h : Below b a c) : Below b a c.drew := ⟨h.os, h.tape, h.output, h.size, h.block⟩
end Go.Proofs.Ytdifmgeicnndfaa.prg
namespace Go.Proofs.Ytdifmgeicnndfaa.prg
open Go.RowKit
open words kindp opp op kind word
set_option maxRecDepth 100000
end Go.Proofs.Ytdifmgeicnndfaa.prg
namespace Go.Proofs.Ytdifmgeicnndfaa.prg
open Go.RowKit
open words kindp opp op kind word
set_option maxRecDepth 100000
end Go.Proofs.Ytdifmgeicnndfaa.prg
namespace Go.Proofs.Ytdifmgeicnndfaa.prg
open Go.RowKit
open words kindp opp op kind word
set_option maxRecDepth 100000
set_option maxHeartbeats 4000000
set_option linter.all false
theorem at_cl (x : ClM) (g : Nat) (s : Tx) (w : World) (hg : w.cell? ⟨g, 0, none⟩ = some (.string ⟨s.toArray⟩)) : Calls Try.prog 107 #[.agg (clC x).toArray, .pointer (some ⟨g, 0, none⟩)] w fun e w' => e = .returned (.bool (x.nm == s)) ∧ Below w.heap.size w w' := by
 obtain ⟨W, hW⟩ : ∃ W, W = w.alloc (.cells (clC x).toArray 43) := ⟨_, rfl⟩
 have hal : Below w.heap.size w W := by rw [hW]; exact (Below.refl _ w).alloc (Nat.le_refl _) _
 have HAL := zh hal
 have hblk : W.heap[w.heap.size]? = some (.cells (clC x).toArray 43 (0, 0)) := by rw [hW]; exact heap_alloc_new w _
 have HBK := zh hblk; have HLT := zh (blk_lt hblk)
 obtain ⟨x0_0, x0_1, x0_2, x0_3, x0_4, x0_5, x0_6⟩ := cl_cells hblk
 have K0 := zh (Below.refl W.heap.size W)
 have kg := (hal.cell (World.block_lt_of_cell? _ _ hg)).trans hg
 unfold clC at hW ⊢
 try dsimp only at hW ⊢
 have ke := kg
 rw [hW] at ke
 have HW := zh hW
 clear hal hblk hW
 cases h0 : (x.nm == s) with
 | false =>
  (try simp only [h0] at HW)
  go_enter Try.func107, Try.ntmps107
  go_wp2_with fail
  rw [← HW.out]
  (try go_wp2_with fail)
  go_ret
  exact ⟨by first | rfl | (simp only [h0, bls]; done) | (simp only [h0, bls]; rfl), HAL.out.trans (K0.out.mono HAL.out.size)⟩
 | true =>
  (try simp only [h0] at HW)
  go_enter Try.func107, Try.ntmps107
  go_wp2_with fail
  rw [← HW.out]
  (try go_wp2_with fail)
  go_ret
  exact ⟨by first | rfl | (simp only [h0, bls]; done) | (simp only [h0, bls]; rfl), HAL.out.trans (K0.out.mono HAL.out.size)⟩
theorem find_cl (g : Nat) (s : Tx) (A : Option Addr) (c : Nat) (l : List ClM) (w : World) (hr : Rd w A (l.flatMap clC)) (hl : l.length ≤ 281474976710656) (hg : w.cell? ⟨g, 0, none⟩ = some (.string ⟨s.toArray⟩)) :
  Calls Try.prog 106 #[.slice A l.length c, .func (.func 107) #[] #[.pointer (some ⟨g, 0, none⟩)]] w fun e w' => ∃ r, e = .returned (.int .i64 r) ∧ Idx (fun x : ClM => (x.nm == s)) l r ∧ Below w.heap.size w w' := by
 obtain ⟨n, hn⟩ : ∃ n, n = l.length := ⟨_, rfl⟩
 rw [← hn] at hl ⊢
 have hnI : (n : Int) ≤ 281474976710656 := by omega
 have HN := zh hn; have HRD := zh hr
 have HGG := zh hg
 clear hr hn hl
 go_enter Try.func106, Try.ntmps106
 go_wp2
 go_loopw [8] (fun i wr => ∃ k : Nat, i = .int .i64 (k : Int) ∧ k ≤ n ∧ (∀ t ∈ l.take k, (fun x : ClM => (x.nm == s)) t = false) ∧ Below w.heap.size w wr) (fun i _ => n - (intOf i).toNat)
 case atStart => exact ⟨0, rfl, Nat.zero_le _, by simp, Below.refl _ _⟩
 case round =>
  obtain ⟨k, rfl, hk, hall, hbw⟩ := hrel
  have HA := zh hall; have HB := zh hbw
  clear hall
  by_cases hlt : k < n
  ·have hltI : (k : Int) < (n : Int) := by omega
   obtain ⟨x, hx⟩ : ∃ x, l[k]? = some x := ⟨l[k]'(by rw [← HN.out]; exact hlt), List.getElem?_eq_getElem _⟩
   obtain ⟨a, rfl, ha, c0, c1, c2, c3, c4, c5, c6⟩ := cl_at (HRD.out.below hbw) hx
   have hgw := (hbw.cell (World.block_lt_of_cell? _ _ HGG.out)).trans HGG.out
   have HW := zh (at_cl x g s wr hgw)
   have HX := zh hx
   have hmt := take_more (P := (fun x : ClM => (x.nm == s))) HA.out hx
   dsimp only [clC] at HW
   cases hwr : (x.nm == s) with
   | true =>
    rw [hwr] at HW
    have HI := zh (show Idx (fun x : ClM => (x.nm == s)) l (k : Int) from .inr ⟨k, _, rfl, hx, hwr, HA.out⟩)
    clear hx hmt hwr hbw ha hgw
    go_wp2_with fail
    refine HW.out.mono ?_
    rintro e w1 ⟨rfl, hb1⟩
    have HB1 := zh (HB.out.trans (hb1.mono HB.out.size))
    clear hb1
    go_wp2
    go_ret
    exact ⟨_, rfl, HI.out, HB1.out⟩
   | false =>
    rw [hwr] at HW
    have HM := zh (hmt hwr)
    clear hx hmt hwr hbw ha hgw
    go_wp2_with fail
    refine HW.out.mono ?_
    rintro e w1 ⟨rfl, hb1⟩
    have HB1 := zh (HB.out.trans (hb1.mono HB.out.size))
    clear hb1
    go_wp2
    go_roundw
    case rel => exact ⟨k + 1, by go_num, by omega, HM.out, HB1.out⟩
    case measure => simp [intOf]; omega
  ·have hltI : ¬ (k : Int) < (n : Int) := by omega
   have hall := HA.out
   rw [List.take_of_length_le (by rw [← HN.out]; omega)] at hall
   have HI := zh (show Idx (fun x : ClM => (x.nm == s)) l (-1) from .inl ⟨rfl, hall⟩)
   clear hall hbw
   go_wp2
   go_ret
   exact ⟨_, rfl, HI.out, HB.out⟩
theorem place_cl (x : PrM) (s : Tx) (w : World) (hr : Rd w x.A1 (x.cs.flatMap clC)) (hl : x.cs.length ≤ 281474976710656) : Calls Try.prog 76 #[.agg (prC x).toArray, .string ⟨s.toArray⟩] w fun e w' => ∃ r, e = .returned (.int .i64 r) ∧ Idx (fun y : ClM => (y.nm == s)) x.cs r ∧ Below w.heap.size w w' := by
 have hmf : ∀ (fn : Fn) (first cap : Array Value) (w : World), (Instr.makeFunc fn first cap).run Try.prog w = .ok (.func fn first cap) w := fun _ _ _ _ => rfl
 obtain ⟨W, hW⟩ : ∃ W, W = ((w.alloc (.cells (prC x).toArray 27)).alloc (.cells #[.string ⟨s.toArray⟩] 9)) := ⟨_, rfl⟩
 have hal : Below w.heap.size w W := by rw [hW]; exact (((Below.refl _ w).alloc (Nat.le_refl _) (.cells (prC x).toArray 27)).alloc (by simp; try omega) (.cells #[.string ⟨s.toArray⟩] 9))
 have HAL := zh hal
 have hblk : W.heap[w.heap.size]? = some (.cells (prC x).toArray 27 (0, 0)) := by rw [hW]; exact (Below.heap_alloc _ _ _ (by simp; try omega)).trans (heap_alloc_new w _)
 have hg : W.cell? ⟨w.heap.size + 1, 0, none⟩ = some (.string ⟨s.toArray⟩) := by
  have h := heap_alloc_new (w.alloc (.cells (prC x).toArray 27)) (.cells #[.string ⟨s.toArray⟩] 9)
  rw [World.size_alloc] at h
  have h2 : W.heap[w.heap.size + 1]? = some (.cells #[.string ⟨s.toArray⟩] 9 (0, 0)) := by rw [hW]; exact h
  exact cell_of_row _ _ 0 _ _ _ h2
 obtain ⟨x0_0, x0_1, x0_2, x0_3, x0_4⟩ := pr_cells hblk
 have HF := zh (find_cl (w.heap.size + 1) s x.A1 x.c1 x.cs W (hr.below hal) hl hg)
 unfold prC at hW ⊢
 try dsimp only at hW ⊢
 have HW := zh hW
 clear hal hblk hW hr hl hg
 go_enter Try.func76, Try.ntmps76
 go_wp2_with fail
 try simp only [World.size_alloc, Nat.add_assoc, Nat.reduceAdd]
 rw [← HW.out]
 (try go_wp2_with fail)
 refine HF.out.mono ?_
 rintro e v ⟨r, rfl, hi, hb⟩
 have HI := zh hi; have HB := zh hb
 clear hi hb
 (try go_wp2_with fail)
 go_ret
 exact ⟨r, rfl, HI.out, HAL.out.trans (HB.out.mono HAL.out.size)⟩
end Go.Proofs.Ytdifmgeicnndfaa.prg
namespace Go.Proofs.Ytdifmgeicnndfaa.prg
open Go.RowKit
open words kindp opp op kind word
end Go.Proofs.Ytdifmgeicnndfaa.prg
namespace Go.Proofs.Ytdifmgeicnndfaa.prg
open Go.RowKit
open words kindp opp op kind word
def InFit (x : InM) : Prop := x.i.ds.length ≤ 65536 ∧ x.i.ar.length ≤ 1000
def MeFit (m : MeM) : Prop := m.ds.length ≤ 65536 ∧ ∀ y ∈ m.co, InFit y
def ClFit (c : ClM) : Prop := ∀ m ∈ c.ms, MeFit m
def PrFit (p : PrM) : Prop := ∀ c ∈ p.cs, ClFit c
end Go.Proofs.Ytdifmgeicnndfaa.prg
namespace Go.Proofs.Ytdifmgeicnndfaa.prg
open Go.RowKit
open words kindp opp op kind word
end Go.Proofs.Ytdifmgeicnndfaa.prg
namespace Go.Proofs.Ytdifmgeicnndfaa.prg
open Go.RowKit
open words kindp opp op kind word
end Go.Proofs.Ytdifmgeicnndfaa.prg
namespace Go.Proofs.Ytdifmgeicnndfaa.prg
open Go.RowKit
open words kindp opp op kind word
def entryT (a b c : Tx) : Bool := ((a == []) && ((b == []) && (c == []))) || (clsB a && (memberB b && ((c == [40, 41, 73]) || (c == [40, 41, 86]))))
end Go.Proofs.Ytdifmgeicnndfaa.prg
namespace Go.Proofs.Ytdifmgeicnndfaa.words
open Go.RowKit
end Go.Proofs.Ytdifmgeicnndfaa.words
namespace Go.Proofs.Ytdifmgeicnndfaa.prg
open Go.RowKit
open words kindp opp op kind word
set_option maxRecDepth 100000
set_option maxHeartbeats 16000000
set_option linter.all false
def GrI (x : InM) : Prop := x.i.ar.length ≤ 60 ∧ x.i.cl.length ≤ 300 ∧ x.i.nm.length ≤ 300 ∧ x.i.ds.length ≤ 300
def GrM (m : MeM) : Prop := (m.co.length ≤ 300 ∧ m.nm.length ≤ 300 ∧ m.ds.length ≤ 300) ∧ ∀ x ∈ m.co, GrI x
def GrC (c : ClM) : Prop := (c.is.length ≤ 40 ∧ c.fs.length ≤ 40 ∧ c.ms.length ≤ 40 ∧ c.nm.length ≤ 300 ∧ c.su.length ≤ 300) ∧ ∀ m ∈ c.ms, GrM m
def GrP (p : PrM) : Prop := (p.cs.length ≤ 70 ∧ p.ns.length ≤ 70) ∧ ∀ c ∈ p.cs, GrC c
def GrW (x : PrM) (w : World) (e : Ending) (w' : World) : Prop := ∃ g, e = .returned (.bool g) ∧ (g = false → GrP x) ∧ Below w.heap.size w w'
theorem gr_mk {x : PrM} {w w' : World} {e : Ending} {g : Bool} (h : e = .returned (.bool g)) (h1 : g = false → GrP x) (h2 : Below w.heap.size w w') : GrW x w e w' := ⟨g, h, h1, h2⟩
theorem GrP.fit {p : PrM} (h : GrP p) : PrFit p := fun c hc m hm => ⟨by have := ((h.2 c hc).2 m hm).1.2.2; omega, fun y hy => ⟨by have := (((h.2 c hc).2 m hm).2 y hy).2.2.2; omega, by have := (((h.2 c hc).2 m hm).2 y hy).1; omega⟩⟩
theorem all_more {α : Type} {P : α → Prop} {l : List α} {k : Nat} {x : α} (h : ∀ y ∈ l.take k, P y) (hx : l[k]? = some x) (hp : P x) : ∀ y ∈ l.take (k + 1), P y := by
 intro y hy
 rw [List.take_add_one, hx, List.mem_append] at hy
 rcases hy with hy | hy
 ·exact h y hy
 ·simp at hy; subst hy; exact hp
theorem great_w (x : PrM) (w : World) (hk : PrOk w x) (hb : PrBd x) : Calls Try.prog 8 #[.agg (prC x).toArray] w (GrW x w) := by
 obtain ⟨W, hW⟩ : ∃ W, W = w.alloc (.cells (prC x).toArray 27) := ⟨_, rfl⟩
 have hal : Below w.heap.size w W := by rw [hW]; exact (Below.refl _ w).alloc (Nat.le_refl _) _
 have HAL := zh hal
 have hblk : W.heap[w.heap.size]? = some (.cells (prC x).toArray 27 (0, 0)) := by rw [hW]; exact heap_alloc_new w _
 have HBK := zh hblk; have HLT := zh (blk_lt hblk)
 obtain ⟨x0_0, x0_1, x0_2, x0_3, x0_4⟩ := pr_cells hblk
 have K0 := zh (Below.refl W.heap.size W)
 have HKW := zh (hk.below hal)
 have HBD := zh hb
 have l1 : x.cs.length ≤ 281474976710656 := by have := hb.1.1; omega
 have l2 : x.ns.length ≤ 281474976710656 := by have := hb.2.1.1; omega
 obtain ⟨n, hn⟩ : ∃ n, n = x.cs.length := ⟨_, rfl⟩
 rw [← hn] at x0_0 l1
 obtain ⟨n2, hn2⟩ : ∃ n, n = x.ns.length := ⟨_, rfl⟩
 rw [← hn2] at x0_1 l2
 have nI : (n : Int) ≤ 281474976710656 := by omega
 have n2I : (n2 : Int) ≤ 281474976710656 := by omega
 unfold prC at hW ⊢
 try dsimp only at hW ⊢
 rw [← hn, ← hn2] at hW ⊢
 have HW := zh hW
 have HN := zh hn; have HN2 := zh hn2
 clear hal hblk hW hk hb l1 l2 hn hn2
 by_cases pn : 70 < n
 ·have gin : (70 : Int) < (n : Int) := by omega
  have gdn : decide ((70 : Int) < (n : Int)) = true := decide_eq_true gin
  go_enter Try.func8, Try.ntmps8
  go_wp2_with fail
  rw [← HW.out]
  (try go_wp2)
  go_ret
  exact gr_mk (g := true) rfl (fun h => by cases h) HAL.out
 have jn : ¬ (70 : Int) < (n : Int) := by omega
 by_cases pn2 : 70 < n2
 ·have gin2 : (70 : Int) < (n2 : Int) := by omega
  have gdn2 : decide ((70 : Int) < (n2 : Int)) = true := decide_eq_true gin2
  go_enter Try.func8, Try.ntmps8
  go_wp2_with fail
  rw [← HW.out]
  (try go_wp2)
  go_ret
  exact gr_mk (g := true) rfl (fun h => by cases h) HAL.out
 have jn2 : ¬ (70 : Int) < (n2 : Int) := by omega
 have dj : decide ((70 : Int) < (n2 : Int)) = false := decide_eq_false jn2
 go_enter Try.func8, Try.ntmps8
 go_wp2_with fail
 rw [← HW.out]
 (try go_wp2)
 go_loopw [3] (fun i wr => ∃ k : Nat, i = .int .i64 (k : Int) ∧ k ≤ n ∧ (∀ c ∈ x.cs.take k, GrC c) ∧ Below W.heap.size W wr) (fun i _ => n - (intOf i).toNat)
 case atStart => exact ⟨0, rfl, Nat.zero_le _, by simp, Below.refl _ _⟩
 case round =>
  obtain ⟨k, rfl, hk, hall, hbw⟩ := hrel
  obtain ⟨wa, hwa⟩ : ∃ v, v = wr := ⟨_, rfl⟩
  subst hwa
  have HA := zh hall; have HB := zh hbw
  obtain ⟨x1_0, x1_1, x1_2, x1_3, x1_4⟩ := pr_cells ((hbw.block _ HLT.out).trans HBK.out)
  rw [← HN.out] at x1_0
  rw [← HN2.out] at x1_1
  clear hall x0_0 x0_1 x0_2 x0_3 x0_4 dj jn2
  by_cases hlt : k < n
  ·have hltI : (k : Int) < (n : Int) := by omega
   obtain ⟨y, hy⟩ : ∃ y, x.cs[k]? = some y := ⟨x.cs[k]'(by rw [← HN.out]; exact hlt), List.getElem?_eq_getElem _⟩
   have hmem := List.mem_of_getElem? hy
   have hok := HKW.out.2.2 y hmem
   have hbd := HBD.out.1.2 y hmem
   obtain ⟨a, ea, ha, c0, c1, c2, c3, c4, c5, c6⟩ := cl_at (HKW.out.1.2.below hbw) hy
   rw [ea] at x1_0
   have HEA := zh ea
   have q1 := hbd.2.2.1.1
   have q2 := hbd.2.2.2.1.1
   have q3 := hbd.2.2.2.2.1
   have s4 := mk_sz y.nm
   have s5 := mk_sz y.su
   have q4 := hbd.1
   have q5 := hbd.2.1
   obtain ⟨m1, hm1⟩ : ∃ n, n = y.is.length := ⟨_, rfl⟩
   rw [← hm1] at c4 q1
   obtain ⟨m2, hm2⟩ : ∃ n, n = y.fs.length := ⟨_, rfl⟩
   rw [← hm2] at c5 q2
   obtain ⟨m3, hm3⟩ : ∃ n, n = y.ms.length := ⟨_, rfl⟩
   rw [← hm3] at c6 q3
   obtain ⟨m4, hm4⟩ : ∃ n, n = y.nm.length := ⟨_, rfl⟩
   rw [← hm4] at s4 q4
   obtain ⟨m5, hm5⟩ : ∃ n, n = y.su.length := ⟨_, rfl⟩
   rw [← hm5] at s5 q5
   have m1I : (m1 : Int) ≤ 281474976710656 := by omega
   have m2I : (m2 : Int) ≤ 281474976710656 := by omega
   have m3I : (m3 : Int) ≤ 281474976710656 := by omega
   have m4I : (m4 : Int) ≤ 281474976710656 := by omega
   have m5I : (m5 : Int) ≤ 281474976710656 := by omega
   have HOK := zh hok; have HBY := zh hbd; have HY := zh hy; have HMM := zh hmem
   have H1 := zh hm1; have H2 := zh hm2; have H3 := zh hm3; have H4 := zh hm4; have H5 := zh hm5
   have hax := hbw.alloc hbw.size (.cells (clC y).toArray 43)
   unfold clC at hax
   try dsimp only at hax
   rw [← hm1, ← hm2, ← hm3] at hax
   have HAX := zh hax
   clear hok hbd hy hmem hm1 hm2 hm3 hm4 hm5 hax q1 q2 q3 q4 q5 ea hbw ha
   by_cases pm1 : 40 < m1
   ·have gim1 : (40 : Int) < (m1 : Int) := by omega
    have gdm1 : decide ((40 : Int) < (m1 : Int)) = true := decide_eq_true gim1
    go_wp2
    go_ret
    exact gr_mk (g := true) rfl (fun h => by cases h) (HAL.out.trans (HAX.out.mono HAL.out.size))
   have jm1 : ¬ (40 : Int) < (m1 : Int) := by omega
   by_cases pm2 : 40 < m2
   ·have gim2 : (40 : Int) < (m2 : Int) := by omega
    have gdm2 : decide ((40 : Int) < (m2 : Int)) = true := decide_eq_true gim2
    go_wp2
    go_ret
    exact gr_mk (g := true) rfl (fun h => by cases h) (HAL.out.trans (HAX.out.mono HAL.out.size))
   have jm2 : ¬ (40 : Int) < (m2 : Int) := by omega
   by_cases pm3 : 40 < m3
   ·have gim3 : (40 : Int) < (m3 : Int) := by omega
    have gdm3 : decide ((40 : Int) < (m3 : Int)) = true := decide_eq_true gim3
    go_wp2
    go_ret
    exact gr_mk (g := true) rfl (fun h => by cases h) (HAL.out.trans (HAX.out.mono HAL.out.size))
   have jm3 : ¬ (40 : Int) < (m3 : Int) := by omega
   by_cases pm4 : 300 < m4
   ·have gim4 : (300 : Int) < (m4 : Int) := by omega
    have gdm4 : decide ((300 : Int) < (m4 : Int)) = true := decide_eq_true gim4
    go_wp2
    go_ret
    exact gr_mk (g := true) rfl (fun h => by cases h) (HAL.out.trans (HAX.out.mono HAL.out.size))
   have jm4 : ¬ (300 : Int) < (m4 : Int) := by omega
   by_cases pm5 : 300 < m5
   ·have gim5 : (300 : Int) < (m5 : Int) := by omega
    have gdm5 : decide ((300 : Int) < (m5 : Int)) = true := decide_eq_true gim5
    go_wp2
    go_ret
    exact gr_mk (g := true) rfl (fun h => by cases h) (HAL.out.trans (HAX.out.mono HAL.out.size))
   have jm5 : ¬ (300 : Int) < (m5 : Int) := by omega
   have dj : decide ((300 : Int) < (m5 : Int)) = false := decide_eq_false jm5
   have HG := zh (show m1 ≤ 40 ∧ m2 ≤ 40 ∧ m3 ≤ 40 ∧ m4 ≤ 300 ∧ m5 ≤ 300 by omega)
   go_wp2
   clear c0 c1 c2 c3 c4 c5 c6 dj jm1 jm2 jm3 jm4 jm5 pm1 pm2 pm3 pm4 pm5 s4 s5 m1I m2I m4I m5I
   have HXB := zh (heap_alloc_new wa (.cells #[.string ⟨y.nm.toArray⟩, .string ⟨y.su.toArray⟩, .bool y.fc, .bool y.ab, .slice y.A1 m1 y.c1, .slice y.A2 m2 y.c2, .slice y.A3 m3 y.c3] 43))
   have HXL := zh (blk_lt HXB.out)
   go_loopw [5] (fun i ws => ∃ k2 : Nat, i = .int .i64 (k2 : Int) ∧ k2 ≤ m3 ∧ (∀ m ∈ y.ms.take k2, GrM m) ∧ Below W.heap.size W ws ∧ ws.heap[wa.heap.size]? = some (.cells #[.string ⟨y.nm.toArray⟩, .string ⟨y.su.toArray⟩, .bool y.fc, .bool y.ab, .slice y.A1 m1 y.c1, .slice y.A2 m2 y.c2, .slice y.A3 m3 y.c3] 43 (0, 0))) (fun i _ => m3 - (intOf i).toNat)
   case atStart => exact ⟨0, rfl, Nat.zero_le _, by simp, HAX.out, HXB.out⟩
   case round =>
    obtain ⟨k2, rfl, hk2, hall2, hbs, hxs⟩ := hrel
    obtain ⟨ws, hws⟩ : ∃ v, v = wr := ⟨_, rfl⟩
    subst hws
    have HA2 := zh hall2; have HB2 := zh hbs; have HX2 := zh hxs
    have z6 : ws.cell? ⟨wa.heap.size, 6, none⟩ = some (.slice y.A3 m3 y.c3) := cell_of_row _ _ 6 _ _ _ hxs
    clear hall2 hxs x1_0 x1_1 x1_2 x1_3 x1_4
    by_cases hlt2 : k2 < m3
    ·have hltI2 : (k2 : Int) < (m3 : Int) := by omega
     obtain ⟨z, hz⟩ : ∃ z, y.ms[k2]? = some z := ⟨y.ms[k2]'(by rw [← H3.out]; exact hlt2), List.getElem?_eq_getElem _⟩
     have hmem := List.mem_of_getElem? hz
     have hok := HOK.out.2.2.2 z hmem
     have hbd := HBY.out.2.2.2.2.2 z hmem
     obtain ⟨b, eb, hbl, d0, d1, d2, d3, d4, d5⟩ := me_at (HOK.out.2.2.1.2.below hbs) hz
     rw [eb] at z6
     have HEB := zh eb
     have q1 := hbd.2.2.1
     have s2 := mk_sz z.nm
     have s3 := mk_sz z.ds
     have q2 := hbd.1
     have q3 := hbd.2.1
     obtain ⟨r1, hr1⟩ : ∃ n, n = z.co.length := ⟨_, rfl⟩
     rw [← hr1] at d5 q1
     obtain ⟨r2, hr2⟩ : ∃ n, n = z.nm.length := ⟨_, rfl⟩
     rw [← hr2] at s2 q2
     obtain ⟨r3, hr3⟩ : ∃ n, n = z.ds.length := ⟨_, rfl⟩
     rw [← hr3] at s3 q3
     have r1I : (r1 : Int) ≤ 281474976710656 := by omega
     have r2I : (r2 : Int) ≤ 281474976710656 := by omega
     have r3I : (r3 : Int) ≤ 281474976710656 := by omega
     have HOZ := zh hok; have HBZ := zh hbd; have HZ := zh hz
     have H6 := zh hr1; have H7 := zh hr2; have H8 := zh hr3
     have hax2 := hbs.alloc hbs.size (.cells (meC z).toArray 37)
     have hxb2 := (Below.heap_alloc ws (.cells (meC z).toArray 37) wa.heap.size (blk_lt HX2.out)).trans HX2.out
     unfold meC at hax2 hxb2
     try dsimp only at hax2 hxb2
     rw [← hr1] at hax2 hxb2
     have HAX2 := zh hax2; have HXB2 := zh hxb2
     clear hok hbd hz hmem hr1 hr2 hr3 hax2 hxb2 q1 q2 q3 eb hbl hbs
     by_cases pr1 : 300 < r1
     ·have gir1 : (300 : Int) < (r1 : Int) := by omega
      have gdr1 : decide ((300 : Int) < (r1 : Int)) = true := decide_eq_true gir1
      go_wp2
      go_ret
      exact gr_mk (g := true) rfl (fun h => by cases h) (HAL.out.trans (HAX2.out.mono HAL.out.size))
     have jr1 : ¬ (300 : Int) < (r1 : Int) := by omega
     by_cases pr2 : 300 < r2
     ·have gir2 : (300 : Int) < (r2 : Int) := by omega
      have gdr2 : decide ((300 : Int) < (r2 : Int)) = true := decide_eq_true gir2
      go_wp2
      go_ret
      exact gr_mk (g := true) rfl (fun h => by cases h) (HAL.out.trans (HAX2.out.mono HAL.out.size))
     have jr2 : ¬ (300 : Int) < (r2 : Int) := by omega
     by_cases pr3 : 300 < r3
     ·have gir3 : (300 : Int) < (r3 : Int) := by omega
      have gdr3 : decide ((300 : Int) < (r3 : Int)) = true := decide_eq_true gir3
      go_wp2
      go_ret
      exact gr_mk (g := true) rfl (fun h => by cases h) (HAL.out.trans (HAX2.out.mono HAL.out.size))
     have jr3 : ¬ (300 : Int) < (r3 : Int) := by omega
     have dj : decide ((300 : Int) < (r3 : Int)) = false := decide_eq_false jr3
     have HG2 := zh (show r1 ≤ 300 ∧ r2 ≤ 300 ∧ r3 ≤ 300 by omega)
     go_wp2
     clear d0 d1 d2 d3 d4 d5 dj jr1 jr2 jr3 pr1 pr2 pr3 s2 s3 r2I r3I z6
     have HYB := zh (heap_alloc_new ws (.cells #[.string ⟨z.nm.toArray⟩, .string ⟨z.ds.toArray⟩, .bool z.st, .bool z.ab, .int .i64 z.rg, .slice z.A r1 z.c] 37))
     go_loopw [7] (fun i wt => ∃ k3 : Nat, i = .int .i64 (k3 : Int) ∧ k3 ≤ r1 ∧ (∀ t ∈ z.co.take k3, GrI t) ∧ Below W.heap.size W wt ∧ wt.heap[wa.heap.size]? = some (.cells #[.string ⟨y.nm.toArray⟩, .string ⟨y.su.toArray⟩, .bool y.fc, .bool y.ab, .slice y.A1 m1 y.c1, .slice y.A2 m2 y.c2, .slice y.A3 m3 y.c3] 43 (0, 0)) ∧ wt.heap[ws.heap.size]? = some (.cells #[.string ⟨z.nm.toArray⟩, .string ⟨z.ds.toArray⟩, .bool z.st, .bool z.ab, .int .i64 z.rg, .slice z.A r1 z.c] 37 (0, 0))) (fun i _ => r1 - (intOf i).toNat)
     case atStart => exact ⟨0, rfl, Nat.zero_le _, by simp, HAX2.out, HXB2.out, HYB.out⟩
     case round =>
      obtain ⟨k3, rfl, hk3, hall3, hbt, hxt, hyt⟩ := hrel
      obtain ⟨wt, hwt⟩ : ∃ v, v = wr := ⟨_, rfl⟩
      subst hwt
      have HA3 := zh hall3; have HB3 := zh hbt; have HX3 := zh hxt
      have z5 : wt.cell? ⟨ws.heap.size, 5, none⟩ = some (.slice z.A r1 z.c) := cell_of_row _ _ 5 _ _ _ hyt
      have HY3 := zh hyt
      clear hall3 hxt hyt
      by_cases hlt3 : k3 < r1
      ·have hltI3 : (k3 : Int) < (r1 : Int) := by omega
       obtain ⟨t, ht⟩ : ∃ t, z.co[k3]? = some t := ⟨z.co[k3]'(by rw [← H6.out]; exact hlt3), List.getElem?_eq_getElem _⟩
       have hmem := List.mem_of_getElem? ht
       have hbd := HBZ.out.2.2.2 t hmem
       obtain ⟨c, ec, hcl, e0, e1, e2, e3, e4, e5, e6, e7, e8⟩ := in_at (HOZ.out.2.1.below hbt) ht
       rw [ec] at z5
       have q1 := hbd.1
       have s2 := mk_sz t.i.cl
       have s3 := mk_sz t.i.nm
       have s4 := mk_sz t.i.ds
       have q2 := hbd.2.1
       have q3 := hbd.2.2.1
       have q4 := hbd.2.2.2
       obtain ⟨u1, hu1⟩ : ∃ n, n = t.i.ar.length := ⟨_, rfl⟩
       rw [← hu1] at e8 q1
       obtain ⟨u2, hu2⟩ : ∃ n, n = t.i.cl.length := ⟨_, rfl⟩
       rw [← hu2] at s2 q2
       obtain ⟨u3, hu3⟩ : ∃ n, n = t.i.nm.length := ⟨_, rfl⟩
       rw [← hu3] at s3 q3
       obtain ⟨u4, hu4⟩ : ∃ n, n = t.i.ds.length := ⟨_, rfl⟩
       rw [← hu4] at s4 q4
       have u1I : (u1 : Int) ≤ 281474976710656 := by omega
       have u2I : (u2 : Int) ≤ 281474976710656 := by omega
       have u3I : (u3 : Int) ≤ 281474976710656 := by omega
       have u4I : (u4 : Int) ≤ 281474976710656 := by omega
       have HT := zh ht
       have H9 := zh hu1; have H10 := zh hu2; have H11 := zh hu3; have H12 := zh hu4
       clear hbd ht hmem hu1 hu2 hu3 hu4 q1 q2 q3 q4 ec hcl hbt
       by_cases pu1 : 60 < u1
       ·have giu1 : (60 : Int) < (u1 : Int) := by omega
        have gdu1 : decide ((60 : Int) < (u1 : Int)) = true := decide_eq_true giu1
        go_wp2
        go_ret
        exact gr_mk (g := true) rfl (fun h => by cases h) (HAL.out.trans (HB3.out.mono HAL.out.size))
       have ju1 : ¬ (60 : Int) < (u1 : Int) := by omega
       by_cases pu2 : 300 < u2
       ·have giu2 : (300 : Int) < (u2 : Int) := by omega
        have gdu2 : decide ((300 : Int) < (u2 : Int)) = true := decide_eq_true giu2
        go_wp2
        go_ret
        exact gr_mk (g := true) rfl (fun h => by cases h) (HAL.out.trans (HB3.out.mono HAL.out.size))
       have ju2 : ¬ (300 : Int) < (u2 : Int) := by omega
       by_cases pu3 : 300 < u3
       ·have giu3 : (300 : Int) < (u3 : Int) := by omega
        have gdu3 : decide ((300 : Int) < (u3 : Int)) = true := decide_eq_true giu3
        go_wp2
        go_ret
        exact gr_mk (g := true) rfl (fun h => by cases h) (HAL.out.trans (HB3.out.mono HAL.out.size))
       have ju3 : ¬ (300 : Int) < (u3 : Int) := by omega
       by_cases pu4 : 300 < u4
       ·have giu4 : (300 : Int) < (u4 : Int) := by omega
        have gdu4 : decide ((300 : Int) < (u4 : Int)) = true := decide_eq_true giu4
        go_wp2
        go_ret
        exact gr_mk (g := true) rfl (fun h => by cases h) (HAL.out.trans (HB3.out.mono HAL.out.size))
       have ju4 : ¬ (300 : Int) < (u4 : Int) := by omega
       have dj : decide ((300 : Int) < (u4 : Int)) = false := decide_eq_false ju4
       have HG3 := zh (show GrI t from ⟨by rw [← H9.out]; omega, by rw [← H10.out]; omega, by rw [← H11.out]; omega, by rw [← H12.out]; omega⟩)
       go_wp2
       go_roundw
       case rel => exact ⟨k3 + 1, by go_num, by omega, all_more HA3.out HT.out HG3.out, HB3.out, HX3.out, HY3.out⟩
       case measure => simp [intOf]; omega
      ·have hltI3 : ¬ (k3 : Int) < (r1 : Int) := by omega
       have hcm := HA3.out
       rw [List.take_of_length_le (by rw [← H6.out]; omega)] at hcm
       have HGM := zh (show GrM z from ⟨⟨by rw [← H6.out]; exact HG2.out.1, by rw [← H7.out]; exact HG2.out.2.1, by rw [← H8.out]; exact HG2.out.2.2⟩, hcm⟩)
       clear hcm hbt
       go_wp2
       go_roundw
       case rel => exact ⟨k2 + 1, by go_num, by omega, all_more HA2.out HZ.out HGM.out, HB3.out, HX3.out⟩
       case measure => simp [intOf]; omega
    ·have hltI2 : ¬ (k2 : Int) < (m3 : Int) := by omega
     have hcm := HA2.out
     rw [List.take_of_length_le (by rw [← H3.out]; omega)] at hcm
     have HGC := zh (show GrC y from ⟨⟨by rw [← H1.out]; exact HG.out.1, by rw [← H2.out]; exact HG.out.2.1, by rw [← H3.out]; exact HG.out.2.2.1, by rw [← H4.out]; exact HG.out.2.2.2.1, by rw [← H5.out]; exact HG.out.2.2.2.2⟩, hcm⟩)
     clear hcm hbs
     go_wp2
     go_roundw
     case rel => exact ⟨k + 1, by go_num, by omega, all_more HA.out HY.out HGC.out, HB2.out⟩
     case measure => simp [intOf]; omega
  ·have hltI : ¬ (k : Int) < (n : Int) := by omega
   have hcm := HA.out
   rw [List.take_of_length_le (by rw [← HN.out]; omega)] at hcm
   have HGP := zh (show GrP x from ⟨⟨by rw [← HN.out]; omega, by rw [← HN2.out]; omega⟩, hcm⟩)
   clear hcm hbw
   go_wp2
   go_ret
   exact gr_mk (g := false) rfl (fun _ => HGP.out) (HAL.out.trans (HB.out.mono HAL.out.size))
end Go.Proofs.Ytdifmgeicnndfaa.prg
namespace Go.Proofs.Ytdifmgeicnndfaa.prg
open Go.RowKit
open words kindp opp op kind word
set_option maxRecDepth 100000
set_option maxHeartbeats 16000000
set_option linter.all false
end Go.Proofs.Ytdifmgeicnndfaa.prg
namespace Go.Proofs.Ytdifmgeicnndfaa.prg
open Go.RowKit
open words kindp opp op kind word
set_option maxRecDepth 100000
set_option maxHeartbeats 16000000
set_option linter.all false
end Go.Proofs.Ytdifmgeicnndfaa.prg
namespace Go.Proofs.Ytdifmgeicnndfaa.prg
open Go.RowKit
open words kindp opp op kind word
set_option maxRecDepth 100000
set_option maxHeartbeats 8000000
set_option linter.all false
def findC (cs : List ClM) (s : Tx) : Option ClM := cs.find? fun y => y.nm == s
theorem idx_at {α : Type} {P : α → Bool} : ∀ {l : List α} {k : Nat} {x : α}, l[k]? = some x → P x = true → (∀ t ∈ l.take k, P t = false) → l.findIdx? P = some k ∧ l.find? P = some x
 | [], _, _, h, _, _ => by simp at h
 | y :: l, 0, x, h, hp, _ => by
  simp at h; subst h
  exact ⟨by simp [List.findIdx?_cons, hp], by simp [hp]⟩
 | y :: l, k + 1, x, h, hp, ha => by
  have hy : P y = false := ha y (by simp)
  obtain ⟨h1, h2⟩ := idx_at (l := l) (k := k) (x := x) (by simpa using h) hp (fun t ht => ha t (by simp [ht]))
  exact ⟨by simp [List.findIdx?_cons, hy, h1], by simp [hy, h2]⟩
theorem idx_no {α : Type} {P : α → Bool} {l : List α} (h : ∀ t ∈ l, P t = false) : l.findIdx? P = none ∧ l.find? P = none := by
 induction l with
 | nil => exact ⟨rfl, rfl⟩
 | cons y l ih =>
  have hy : P y = false := h y (by simp)
  obtain ⟨h1, h2⟩ := ih fun t ht => h t (by simp [ht])
  exact ⟨by simp [List.findIdx?_cons, hy, h1], by simp [hy, h2]⟩
theorem idx_two {α : Type} {P : α → Bool} {l : List α} {r : Int} (h : Idx P l r) : (r = -1 ∧ l.findIdx? P = none ∧ l.find? P = none) ∨ ∃ k x, r = ((k : Nat) : Int) ∧ l[k]? = some x ∧ P x = true ∧ l.findIdx? P = some k ∧ l.find? P = some x := by
 rcases h with ⟨rfl, h⟩ | ⟨k, x, rfl, hx, hp, ha⟩
 ·exact .inl ⟨rfl, idx_no h⟩
 ·exact .inr ⟨k, x, rfl, hx, hp, idx_at hx hp ha⟩
def supS (cs : List ClM) : Nat → Tx → List Tx → List Tx
 | 0, _, l => l
 | f + 1, s, l => match findC cs s with
  | none => l
  | some c => if l.contains s then l else supS cs f c.su (l ++ [s])
def supersL (cs : List ClM) (s : Tx) : List Tx := supS cs (cs.length + 1) s []
theorem len_sub {α : Type} [BEq α] [LawfulBEq α] : ∀ {l m : List α}, l.Nodup → (∀ x ∈ l, x ∈ m) → l.length ≤ m.length
 | [], _, _, _ => Nat.zero_le _
 | x :: l, m, hn, hs => by
  rw [List.nodup_cons] at hn
  have hx : x ∈ m := hs x (by simp)
  have h1 := len_sub (l := l) (m := m.erase x) hn.2 fun y hy => (List.mem_erase_of_ne (fun e => hn.1 (by rw [← e]; exact hy))).2 (hs y (by simp [hy]))
  rw [List.length_erase_of_mem hx] at h1
  have := List.length_pos_of_mem hx
  simp only [List.length_cons]; omega
theorem findC_nm {cs : List ClM} {s : Tx} {c : ClM} (h : findC cs s = some c) : c.nm = s ∧ c ∈ cs := by
 have h1 := List.find?_some h
 exact ⟨by simpa using h1, List.mem_of_find?_eq_some h⟩
def SupI (cs : List ClM) (L : List Tx) (s : Tx) (out : List Tx) (f : Nat) : Prop := supS cs f s out = L ∧ out.length + f = cs.length + 1 ∧ out.Nodup ∧ ∀ o ∈ out, (findC cs o).isSome = true
theorem SupI.start (cs : List ClM) (s : Tx) : SupI cs (supersL cs s) s [] (cs.length + 1) := ⟨rfl, by simp, List.nodup_nil, by simp⟩
theorem SupI.len {cs : List ClM} {L : List Tx} {s : Tx} {out : List Tx} {f : Nat} (h : SupI cs L s out f) : out.length ≤ cs.length := by
 have := len_sub (m := cs.map (·.nm)) h.2.2.1 fun o ho => by
  obtain ⟨c, hc⟩ := Option.isSome_iff_exists.1 (h.2.2.2 o ho)
  obtain ⟨e, hm⟩ := findC_nm hc
  exact List.mem_map.2 ⟨c, hm, e⟩
 simpa using this
theorem SupI.pos {cs : List ClM} {L : List Tx} {s : Tx} {out : List Tx} {f : Nat} (h : SupI cs L s out f) : ∃ g, f = g + 1 := by
 have := h.len; have := h.2.1
 exact ⟨f - 1, by omega⟩
theorem SupI.none {cs : List ClM} {L : List Tx} {s : Tx} {out : List Tx} {f : Nat} (h : SupI cs L s out f) (hn : findC cs s = none) : out = L := by
 obtain ⟨g, rfl⟩ := h.pos
 have := h.1; unfold supS at this; rw [hn] at this; exact this
theorem SupI.had {cs : List ClM} {L : List Tx} {s : Tx} {out : List Tx} {f : Nat} (h : SupI cs L s out f) (hn : out.contains s = true) : out = L := by
 obtain ⟨g, rfl⟩ := h.pos
 have := h.1; unfold supS at this; rw [hn] at this
 cases hf : findC cs s with
 | none => rw [hf] at this; exact this
 | some c => rw [hf] at this; simpa using this
theorem SupI.next {cs : List ClM} {L : List Tx} {s : Tx} {out : List Tx} {f : Nat} {c : ClM} (h : SupI cs L s out f) (hc : findC cs s = some c) (hn : out.contains s = false) : SupI cs L c.su (out ++ [s]) (f - 1) := by
 obtain ⟨g, rfl⟩ := h.pos
 have h1 := h.1; unfold supS at h1; rw [hc, hn] at h1
 have hm : s ∉ out := fun hm => by rw [List.contains_iff_mem.2 hm] at hn; cases hn
 refine ⟨by simpa using h1, by have := h.2.1; simp; omega, ?_, fun o ho => ?_⟩
 ·rw [List.nodup_append]; exact ⟨h.2.2.1, by simp, fun a ha b hb e => by simp at hb; subst hb; subst e; exact hm ha⟩
 ·rcases List.mem_append.1 ho with h2 | h2
  ·exact h.2.2.2 o h2
  ·simp at h2; subst h2; rw [hc]; rfl
theorem index_s (A : Option Addr) (c : Nat) (l : List Tx) (s : Tx) (w : World) (hr : Rd w A (SX l)) (hl : l.length ≤ 281474976710656) :
  Calls Try.prog 131 #[.slice A l.length c, .string ⟨s.toArray⟩] w fun e w' => ∃ r, e = .returned (.int .i64 r) ∧ Idx (fun y : Tx => s == y) l r ∧ Below w.heap.size w w' := by
 obtain ⟨n, hn⟩ : ∃ n, n = l.length := ⟨_, rfl⟩
 rw [← hn] at hl ⊢
 have hnI : (n : Int) ≤ 281474976710656 := by omega
 have HN := zh hn; have HRD := zh hr
 clear hr hn hl
 go_enter Try.func131, Try.ntmps131
 go_wp2
 go_loopw [8] (fun i wr => ∃ k : Nat, i = .int .i64 (k : Int) ∧ k ≤ n ∧ (∀ t ∈ l.take k, (fun y : Tx => s == y) t = false) ∧ Below w.heap.size w wr) (fun i _ => n - (intOf i).toNat)
 case atStart => exact ⟨0, rfl, Nat.zero_le _, by simp, Below.refl _ _⟩
 case round =>
  obtain ⟨k, rfl, hk, hall, hbw⟩ := hrel
  have HA := zh hall; have HB := zh hbw
  clear hall
  by_cases hlt : k < n
  ·have hltI : (k : Int) < (n : Int) := by omega
   obtain ⟨y, hy⟩ : ∃ y, l[k]? = some y := ⟨l[k]'(by rw [← HN.out]; exact hlt), List.getElem?_eq_getElem _⟩
   obtain ⟨a, rfl, _, hcell⟩ := (HRD.out.below hbw).at_ (sx_get hy)
   have hmt := take_more (P := (fun y : Tx => s == y)) HA.out hy
   cases hsy : (s == y) with
   | true =>
    have HI := zh (show Idx (fun y : Tx => s == y) l (k : Int) from .inr ⟨k, _, rfl, hy, hsy, HA.out⟩)
    clear hy hmt hbw
    go_wp2
    go_ret
    exact ⟨_, rfl, HI.out, HB.out⟩
   | false =>
    have HM := zh (hmt hsy)
    clear hy hmt hbw
    go_wp2
    go_roundw
    case rel => exact ⟨k + 1, by go_num, by omega, HM.out, HB.out⟩
    case measure => simp [intOf]; omega
  ·have hltI : ¬ (k : Int) < (n : Int) := by omega
   have hall := HA.out
   rw [List.take_of_length_le (by rw [← HN.out]; omega)] at hall
   have HI := zh (show Idx (fun y : Tx => s == y) l (-1) from .inl ⟨rfl, hall⟩)
   clear hall hbw
   go_wp2
   go_ret
   exact ⟨_, rfl, HI.out, HB.out⟩
theorem has_two {l : List Tx} {s : Tx} {r : Int} (h : Idx (fun y : Tx => s == y) l r) : (r = -1 ∧ l.contains s = false) ∨ ∃ k : Nat, r = (k : Int) ∧ l.contains s = true := by
 rcases h with ⟨rfl, h⟩ | ⟨k, x, rfl, hx, hp, -⟩
 ·refine .inl ⟨rfl, ?_⟩
  cases hc : l.contains s with
  | false => rfl
  | true => have := h s (List.contains_iff_mem.1 hc); simp at this
 ·refine .inr ⟨k, rfl, List.contains_iff_mem.2 ?_⟩
  have e : s = x := by simpa using hp
  rw [e]; exact List.mem_of_getElem? hx
theorem has_s (A : Option Addr) (c : Nat) (l : List Tx) (s : Tx) (w : World) (hr : Rd w A (SX l)) (hl : l.length ≤ 281474976710656) :
  Calls Try.prog 93 #[.slice A l.length c, .string ⟨s.toArray⟩] w fun e w' => e = .returned (.bool (l.contains s)) ∧ Below w.heap.size w w' := by
 have HIX := zh (index_s A c l s w hr hl)
 clear hr hl
 go_enter Try.func93, Try.ntmps93
 go_wp2_with fail
 refine HIX.out.mono ?_
 rintro e w' ⟨r, rfl, hi, hb⟩
 have HB := zh hb
 clear hb
 rcases has_two hi with ⟨rfl, h⟩ | ⟨k, rfl, h⟩
 ·clear hi
  go_wp2
  go_ret
  exact ⟨by rw [h]; first | rfl | simp, HB.out⟩
 ·have hk : (0 : Int) ≤ (k : Int) := by omega
  clear hi
  go_wp2
  go_ret
  exact ⟨by rw [h]; first | rfl | simp, HB.out⟩
def lenV : Value → Nat
 | .slice _ n _ => n
 | _ => 0
theorem infoSt : (Try.prog.info? 9).map (fun i => (i.zero, i.size, i.bytes)) = some (some (.string ⟨#[]⟩), 1, 16) := by kernel_rfl
def SupP (cs : List ClM) (s : Tx) (w : World) (e : Ending) (w' : World) : Prop := (∃ A c, e = .returned (.slice A (supersL cs s).length c) ∧ (supersL cs s).length ≤ c ∧ Rd w' A (SX (supersL cs s))) ∧ Below w.heap.size w w'
theorem supers_w (x : PrM) (s0 : Tx) (w : World) (hk : PrOk w x) (hg : GrP x) : Calls Try.prog 75 #[.agg (prC x).toArray, .string ⟨s0.toArray⟩] w (SupP x.cs s0 w) := by
 obtain ⟨i0, hi0, hz0, hz1, hz2⟩ := info_parts infoSt
 obtain ⟨cs, A1, c1, ns, A2, c2, ec, en, ed⟩ := x
 obtain ⟨L, hL⟩ : ∃ L, L = supersL cs s0 := ⟨_, rfl⟩
 have HS0 := zh (show SupI cs L s0 [] (cs.length + 1) from by rw [hL]; exact SupI.start _ _)
 unfold SupP
 dsimp only
 rw [← hL]
 clear hL
 obtain ⟨W, hW⟩ : ∃ W, W = w.alloc (.cells (prC ⟨cs, A1, c1, ns, A2, c2, ec, en, ed⟩).toArray 27) := ⟨_, rfl⟩
 have hal : Below w.heap.size w W := by rw [hW]; exact (Below.refl _ w).alloc (Nat.le_refl _) _
 have hblk : W.heap[w.heap.size]? = some (.cells (prC ⟨cs, A1, c1, ns, A2, c2, ec, en, ed⟩).toArray 27 (0, 0)) := by rw [hW]; exact heap_alloc_new w _
 have HAL := zh hal; have HBK := zh hblk; have HLT := zh (blk_lt hblk)
 have HPL := zh (fun (s : Tx) (v : World) (hv : Below W.heap.size W v) => place_cl ⟨cs, A1, c1, ns, A2, c2, ec, en, ed⟩ s v ((hk.1.2.below hal).below hv) (by have := hg.1.1; omega))
 have HRD := zh (fun (v : World) (hv : Below W.heap.size W v) => show Rd v A1 (cs.flatMap clC) from (hk.1.2.below hal).below hv)
 obtain ⟨n, hn⟩ : ∃ n, n = cs.length := ⟨_, rfl⟩
 have HN := zh hn
 have nI : (n : Int) ≤ 70 := by have : cs.length ≤ 70 := hg.1.1; omega
 have HCE := zh (show ∀ v : World, Below W.heap.size W v → v.cell? ⟨w.heap.size, 0, none⟩ = some (.slice A1 n c1) ∧ v.cell? ⟨w.heap.size, 1, none⟩ = some (.slice A2 ns.length c2) ∧ v.cell? ⟨w.heap.size, 2, none⟩ = some (.string ⟨ec.toArray⟩) ∧ v.cell? ⟨w.heap.size, 3, none⟩ = some (.string ⟨en.toArray⟩) ∧ v.cell? ⟨w.heap.size, 4, none⟩ = some (.string ⟨ed.toArray⟩) from fun v hv => by rw [hn]; exact pr_cells ((hv.block _ HLT.out).trans HBK.out))
 have HLE := zh (fun s out f (h : SupI cs L s out f) => show out.length ≤ n from by rw [hn]; exact h.len)
 unfold prC at hW HPL ⊢
 try dsimp only at hW HPL ⊢
 rw [← hn] at hW HPL ⊢
 have HW := zh hW
 obtain ⟨x0, x1, x2, x3, x4⟩ := HCE.out _ (Below.refl _ _)
 clear hal hblk hW hk hg hn
 go_enter Try.func75, Try.ntmps75
 go_wp2_with fail
 rw [← HW.out]
 (try go_wp2_with fail)
 clear x0 x1 x2 x3 x4
 refine (HPL.out s0 W (Below.refl _ _)).mono ?_
 rintro e w1 ⟨r, rfl, hix, hb1⟩
 have HX1 := zh hix; have HB1 := zh hb1
 clear hix hb1
 go_wp2_with fail
 go_loopw [1, 5, 6] (fun nm v a wr => ∃ (s : Tx) (out : List Tx) (f : Nat) (r : Int), nm = .string ⟨s.toArray⟩ ∧ a = .int .i64 r ∧ Idx (fun y : ClM => y.nm == s) cs r ∧ SupI cs L s out f ∧ wr.ownsRow W.heap.size 9 1 v out.length (SX out) ∧ Below W.heap.size W wr) (fun _ v _ _ => n + 1 - lenV v)
 case atStart => exact ⟨s0, [], _, r, rfl, rfl, HX1.out, HS0.out, World.ownsRow_nil _ _ _ _, HB1.out⟩
 case round =>
  obtain ⟨s, out, f, r, rfl, rfl, hix, hsi, hown, hbw⟩ := hrel
  obtain ⟨wa, hwa⟩ : ∃ u, u = wr := ⟨_, rfl⟩
  subst hwa
  obtain ⟨B, d, rfl, hnd, -, hrd⟩ := own_rd hown
  have HO := zh hown; have HB := zh hbw; have HSI := zh hsi
  have hol := HLE.out _ _ _ hsi
  have hsz := hbw.size
  have hoI : (out.length : Int) ≤ 70 := by omega
  have HHS := zh (has_s B d out s wa hrd (by omega))
  obtain ⟨m, hm⟩ : ∃ m, m = out.length := ⟨_, rfl⟩
  rw [← hm] at HO HHS hol hoI hnd ⊢
  have HM := zh hm
  have HRT := zh (fun (u : World) (hu : Below wa.heap.size wa u) (e : out = L) => show (∃ A c, Ending.returned (.slice B m d) = .returned (.slice A L.length c) ∧ L.length ≤ c ∧ Rd u A (SX L)) ∧ Below w.heap.size w u from ⟨⟨B, d, by rw [← e, hm], by rw [← e, ← hm]; exact hnd, by rw [← e]; exact hrd.below hu⟩, HAL.out.trans ((hbw.mono HAL.out.size).trans (hu.mono (Nat.le_trans HAL.out.size hsz)))⟩)
  rcases idx_two hix with ⟨rfl, -, hf⟩ | ⟨k, y, rfl, hy, -, -, hf⟩
  ·have HRE := zh (HRT.out wa (Below.refl _ _) (hsi.none hf))
   clear hix hsi hown hbw hrd hm hf
   go_wp2
   go_ret
   exact HRE.out
  ·cases hh : out.contains s with
   | true =>
    rw [hh] at HHS
    have HRE := zh (fun u hu => HRT.out u hu (hsi.had hh))
    have hkI : ((k : Int) != -1) = true := by simp
    clear hix hsi hown hbw hrd hm hf hh hy
    go_wp2_with fail
    refine HHS.out.mono ?_
    rintro e w2 ⟨rfl, hb2⟩
    have HB2 := zh hb2
    clear hb2
    go_wp2
    go_ret
    exact HRE.out _ HB2.out
   | false =>
    rw [hh] at HHS
    have HNX := zh (hsi.next hf hh)
    have hkI : ((k : Int) != -1) = true := by simp
    have hkn : k < n := by rw [HN.out]; exact (List.getElem?_eq_some_iff.1 hy).1
    have hknI : (k : Int) < (n : Int) := by omega
    have HY := zh hy
    obtain ⟨a, rfl, -⟩ := cl_at (HRD.out _ hbw) hy
    clear hix hsi hown hbw hrd hm hf hh hy HRT
    go_wp2_with fail
    refine HHS.out.mono ?_
    rintro e w2 ⟨rfl, hb2⟩
    have HB2 := zh (HB.out.trans (hb2.mono hsz))
    have HO2 := zh (own_below HO.out hb2)
    have hs2 := HB2.out.size
    clear hb2
    go_wp2_with (at_builtin; refine wpList_app _ rfl (.tmp 21) (.tmp 23) _ rfl W.heap.size 9 i0 _ 1 16 Try.underlying23 hi0 hz0 hz1 hz2 rfl (by omega) _ m (SX out) rfl (HO2.out.alloc _) _ 1 1 [_] rfl rfl (rd_blk (heap_alloc_new w2 _) (k := 1) rfl) (by simp [Value.oneCell']) (by simp only [maxLen]; omega) (by omega) (by first | (simp; omega) | omega) ?_; intro v3 w3 hown3 hg3 hb3 hat3; clear hg3 hat3; have HB3 := zh ((HB2.out.alloc hs2 _).trans hb3); obtain ⟨y0, y1, y2, y3, y4⟩ := HCE.out _ HB3.out; obtain ⟨a', ea, ha, q0, q1, q2, q3, q4, q5, q6⟩ := cl_at (HRD.out _ HB3.out) HY.out; cases ea)
    have hown4 : w3.ownsRow W.heap.size 9 1 v3 (out ++ [s]).length (SX (out ++ [s])) := by rw [SX_app, List.length_append, ← HM.out]; exact hown3
    have HO4 := zh hown4
    have hl3 : lenV v3 = m + 1 := by
     obtain ⟨B', d', rfl, -, -, -⟩ := own_rd hown3
     rfl
    have HL3 := zh hl3
    obtain ⟨z0, z1, z2, z3, z4⟩ := HCE.out _ HB3.out
    clear y0 y1 y2 y3 y4 q0 q1 q2 q3 q4 q5 q6 hown3 hown4 hb3 hl3
    try go_wp2_with fail
    refine (HPL.out y.su w3 HB3.out).mono ?_
    rintro e w4 ⟨r4, rfl, hix4, hb4⟩
    have HX4 := zh hix4
    have HB4 := zh (HB3.out.trans (hb4.mono HB3.out.size))
    have HO5 := zh (own_below HO4.out hb4)
    clear hb4 hix4 z0 z1 z2 z3 z4
    go_wp2
    go_roundw
    case rel => exact ⟨y.su, out ++ [s], _, r4, rfl, rfl, HX4.out, HNX.out, HO5.out, HB4.out⟩
    case measure => first | (rw [HL3.out]; simp only [lenV]; omega) | (simp [lenV] at HL3 ⊢; omega)
end Go.Proofs.Ytdifmgeicnndfaa.prg
namespace Go.Proofs.Ytdifmgeicnndfaa.prg
open Go.RowKit
open words kindp opp op kind word
set_option linter.all false
def abv (c : ClM) : List Tx := c.su :: c.is
def hasC (cs : List ClM) (s : Tx) : Bool := (findC cs s).isSome
def abvN (cs : List ClM) (s : Tx) : List Tx := match findC cs s with
 | none => []
 | some c => abv c
def take1 (cs : List ClM) (st : List Tx × List (List Tx)) (s : Tx) : List Tx × List (List Tx) :=
 if (st.1.contains s || !hasC cs s) = true then st else (st.1 ++ [s], st.2 ++ [abvN cs s])
def takeL (cs : List ClM) (st : List Tx × List (List Tx)) (l : List Tx) : List Tx × List (List Tx) := l.foldl (take1 cs) st
def upS (cs : List ClM) : Nat → List Tx → List (List Tx) → List Tx
 | 0, met, _ => met
 | _ + 1, met, [] => met
 | f + 1, met, l :: rest => upS cs f (takeL cs (met, rest) l).1 (takeL cs (met, rest) l).2
def upL (cs : List ClM) (names : List Tx) : List Tx := upS cs (cs.length + 1) [] [names]
inductive Reach (cs : List ClM) (names : List Tx) : Tx → Prop where
 | base {x : Tx} (h : x ∈ names) (k : hasC cs x = true) : Reach cs names x
 | step {x y : Tx} (h : Reach cs names y) (m : x ∈ abvN cs y) (k : hasC cs x = true) : Reach cs names x
theorem take1_no {cs : List ClM} {st : List Tx × List (List Tx)} {s : Tx} (h : (st.1.contains s || !hasC cs s) = true) : take1 cs st s = st := by unfold take1; rw [if_pos h]
theorem take1_yes {cs : List ClM} {st : List Tx × List (List Tx)} {s : Tx} (h : (st.1.contains s || !hasC cs s) = false) : take1 cs st s = (st.1 ++ [s], st.2 ++ [abvN cs s]) := by
 unfold take1; rw [if_neg (by rw [h]; simp)]
theorem takeL_nil (cs : List ClM) (st : List Tx × List (List Tx)) : takeL cs st [] = st := rfl
theorem takeL_cons (cs : List ClM) (st : List Tx × List (List Tx)) (s : Tx) (l : List Tx) : takeL cs st (s :: l) = takeL cs (take1 cs st s) l := rfl
theorem takeL_snoc (cs : List ClM) (st : List Tx × List (List Tx)) (l : List Tx) (s : Tx) : takeL cs st (l ++ [s]) = take1 cs (takeL cs st l) s := by unfold takeL; rw [List.foldl_append]; rfl
structure UpI (cs : List ClM) (names : List Tx) (met : List Tx) (opn : List (List Tx)) : Prop where
 nd : met.Nodup
 has : ∀ x ∈ met, hasC cs x = true
 from_ : ∀ x ∈ met, Reach cs names x
 opens : ∀ l ∈ opn, ∀ y ∈ l, hasC cs y = true → Reach cs names y
theorem UpI.len {cs : List ClM} {names met : List Tx} {opn : List (List Tx)} (h : UpI cs names met opn) : met.length ≤ cs.length := by
 have := len_sub (m := cs.map (·.nm)) h.nd fun o ho => by
  obtain ⟨c, hc⟩ := Option.isSome_iff_exists.1 (h.has o ho)
  obtain ⟨e, hm⟩ := findC_nm hc
  exact List.mem_map.2 ⟨c, hm, e⟩
 simpa using this
def Cl (cs : List ClM) (names : List Tx) (met : List Tx) (opn : List (List Tx)) (hand : List Tx) : Prop :=
 (∀ x ∈ names, hasC cs x = true → x ∈ met ∨ x ∈ hand ∨ ∃ l ∈ opn, x ∈ l) ∧ ∀ x ∈ met, ∀ y ∈ abvN cs x, hasC cs y = true → y ∈ met ∨ y ∈ hand ∨ ∃ l ∈ opn, y ∈ l
theorem UpI.take1 {cs : List ClM} {names met : List Tx} {opn : List (List Tx)} (h : UpI cs names met opn) {s : Tx} (hs : hasC cs s = true → Reach cs names s) : UpI cs names (take1 cs (met, opn) s).1 (take1 cs (met, opn) s).2 ∧ (take1 cs (met, opn) s).2.length + met.length = (take1 cs (met, opn) s).1.length + opn.length := by
 cases hc : (met.contains s || !hasC cs s) with
 | true => rw [take1_no (st := (met, opn)) hc]; exact ⟨h, by dsimp only; omega⟩
 | false =>
  rw [take1_yes (st := (met, opn)) hc]
  simp only [Bool.or_eq_false_iff, Bool.not_eq_false'] at hc
  have hr := hs hc.2
  refine ⟨⟨?_, ?_, ?_, ?_⟩, by simp only [List.length_append, List.length_cons, List.length_nil]; omega⟩
  ·dsimp only
   rw [List.nodup_append]
   exact ⟨h.nd, by simp, fun a ha b hb e => by simp at hb; subst hb; subst e; rw [List.contains_iff_mem.2 ha] at hc; cases hc.1⟩
  ·intro x hx
   rcases List.mem_append.1 hx with h1 | h1
   ·exact h.has x h1
   ·simp at h1; subst h1; exact hc.2
  ·intro x hx
   rcases List.mem_append.1 hx with h1 | h1
   ·exact h.from_ x h1
   ·simp at h1; subst h1; exact hr
  ·intro l hl y hy hy2
   rcases List.mem_append.1 hl with h1 | h1
   ·exact h.opens l h1 y hy hy2
   ·simp at h1; subst h1; exact .step hr hy hy2
theorem Cl.take1 {cs : List ClM} {names met : List Tx} {opn : List (List Tx)} {hand : List Tx} {s : Tx} (h : Cl cs names met opn (s :: hand)) : Cl cs names (take1 cs (met, opn) s).1 (take1 cs (met, opn) s).2 hand := by
 cases hc : (met.contains s || !hasC cs s) with
 | true =>
  rw [take1_no (st := (met, opn)) hc]
  have key : ∀ x, hasC cs x = true → (x ∈ met ∨ x ∈ s :: hand ∨ ∃ l ∈ opn, x ∈ l) → x ∈ met ∨ x ∈ hand ∨ ∃ l ∈ opn, x ∈ l := fun x hx h1 => by
   rcases h1 with h1 | h1 | h1
   ·exact .inl h1
   ·rcases List.mem_cons.1 h1 with rfl | h1
    ·rw [hx] at hc
     exact .inl (List.contains_iff_mem.1 (by simpa using hc))
    ·exact .inr (.inl h1)
   ·exact .inr (.inr h1)
  exact ⟨fun x hx hx2 => key x hx2 (h.1 x hx hx2), fun x hx y hy hy2 => key y hy2 (h.2 x hx y hy hy2)⟩
 | false =>
  rw [take1_yes (st := (met, opn)) hc]
  have key : ∀ x, (x ∈ met ∨ x ∈ s :: hand ∨ ∃ l ∈ opn, x ∈ l) → x ∈ met ++ [s] ∨ x ∈ hand ∨ ∃ l ∈ opn ++ [abvN cs s], x ∈ l := fun x h1 => by
   rcases h1 with h1 | h1 | ⟨l, hl, hx⟩
   ·exact .inl (List.mem_append_left _ h1)
   ·rcases List.mem_cons.1 h1 with rfl | h1
    ·exact .inl (List.mem_append_right _ (by simp))
    ·exact .inr (.inl h1)
   ·exact .inr (.inr ⟨l, List.mem_append_left _ hl, hx⟩)
  refine ⟨fun x hx hx2 => key x (h.1 x hx hx2), fun x hx y hy hy2 => ?_⟩
  rcases List.mem_append.1 hx with h1 | h1
  ·exact key y (h.2 x h1 y hy hy2)
  ·simp at h1; subst h1
   exact .inr (.inr ⟨_, List.mem_append_right _ (by simp), hy⟩)
theorem takeL_all {cs : List ClM} {names : List Tx} : ∀ (l : List Tx) {met : List Tx} {opn : List (List Tx)}, UpI cs names met opn → Cl cs names met opn l → (∀ y ∈ l, hasC cs y = true → Reach cs names y) →
  UpI cs names (takeL cs (met, opn) l).1 (takeL cs (met, opn) l).2 ∧ Cl cs names (takeL cs (met, opn) l).1 (takeL cs (met, opn) l).2 [] ∧ (takeL cs (met, opn) l).2.length + met.length = (takeL cs (met, opn) l).1.length + opn.length
 | [], met, opn, h, hc, _ => ⟨h, hc, by rw [takeL_nil]; dsimp only; omega⟩
 | s :: l, met, opn, h, hc, hr => by
  rw [takeL_cons]
  obtain ⟨h1, e1⟩ := h.take1 (s := s) (hr s (by simp))
  obtain ⟨h2, h3, e2⟩ := takeL_all l (met := (take1 cs (met, opn) s).1) (opn := (take1 cs (met, opn) s).2) h1 hc.take1 fun y hy => hr y (by simp [hy])
  exact ⟨h2, h3, by have e2' : (takeL cs (take1 cs (met, opn) s) l).2.length + (take1 cs (met, opn) s).1.length = (takeL cs (take1 cs (met, opn) s) l).1.length + (take1 cs (met, opn) s).2.length := e2; omega⟩
theorem upS_all {cs : List ClM} {names : List Tx} : ∀ (f : Nat) {met : List Tx} {opn : List (List Tx)}, UpI cs names met opn → Cl cs names met opn [] → opn.length + cs.length ≤ f + met.length →
  UpI cs names (upS cs f met opn) [] ∧ Cl cs names (upS cs f met opn) [] []
 | 0, met, opn, h, hc, hf => by
  have := h.len
  have h0 : opn = [] := List.eq_nil_of_length_eq_zero (by omega)
  subst h0
  exact ⟨h, hc⟩
 | f + 1, met, [], h, hc, _ => ⟨h, hc⟩
 | f + 1, met, l :: rest, h, hc, hf => by
  have hi : UpI cs names met rest := ⟨h.nd, h.has, h.from_, fun k hk => h.opens k (by simp [hk])⟩
  have hcl : Cl cs names met rest l := by
   have key : ∀ x, (x ∈ met ∨ x ∈ ([] : List Tx) ∨ ∃ k ∈ l :: rest, x ∈ k) → x ∈ met ∨ x ∈ l ∨ ∃ k ∈ rest, x ∈ k := fun x h1 => by
    rcases h1 with h1 | h1 | ⟨k, hk, hx⟩
    ·exact .inl h1
    ·cases h1
    ·rcases List.mem_cons.1 hk with rfl | hk
     ·exact .inr (.inl hx)
     ·exact .inr (.inr ⟨k, hk, hx⟩)
   exact ⟨fun x hx hx2 => key x (hc.1 x hx hx2), fun x hx y hy hy2 => key y (hc.2 x hx y hy hy2)⟩
  obtain ⟨h1, h2, e⟩ := takeL_all l hi hcl (h.opens l (by simp))
  have := upS_all f h1 h2 (by simp only [List.length_cons] at hf; omega)
  exact this
theorem upL_all (cs : List ClM) (names : List Tx) : UpI cs names (upL cs names) [] ∧ Cl cs names (upL cs names) [] [] :=
 upS_all _ ⟨List.nodup_nil, by simp, by simp, fun l hl y hy k => by simp at hl; subst hl; exact .base hy k⟩ ⟨fun x hx _ => .inr (.inr ⟨names, by simp, hx⟩), by simp⟩ (by simp; omega)
theorem mem_up {cs : List ClM} {names : List Tx} {x : Tx} : x ∈ upL cs names ↔ Reach cs names x := by
 obtain ⟨h1, h2⟩ := upL_all cs names
 refine ⟨h1.from_ x, fun h => ?_⟩
 induction h with
 | base h k =>
  rcases h2.1 _ h k with h | h | ⟨l, hl, _⟩
  ·exact h
  ·cases h
  ·cases hl
 | step h m k ih =>
  rcases h2.2 _ ih _ m k with h | h | ⟨l, hl, _⟩
  ·exact h
  ·cases h
  ·cases hl
def subB (cs : List ClM) (a b : Tx) : Bool := (upL cs [a]).contains b
theorem sub_reach {cs : List ClM} {a b : Tx} : subB cs a b = true ↔ Reach cs [a] b := by unfold subB; rw [List.contains_iff_mem, mem_up]
theorem Reach.trans {cs : List ClM} {l : List Tx} {a b : Tx} (h : Reach cs l a) (k : Reach cs [a] b) : Reach cs l b := by
 induction k with
 | base m k =>
  rw [List.mem_singleton] at m; subst m; exact h
 | step _ m k ih => exact .step ih m k
theorem Reach.has {cs : List ClM} {l : List Tx} {a : Tx} (h : Reach cs l a) : hasC cs a = true := by
 cases h with
 | base _ k => exact k
 | step _ _ k => exact k
theorem sub_trans {cs : List ClM} {a b c : Tx} (h : subB cs a b = true) (k : subB cs b c = true) : subB cs a c = true :=
 sub_reach.2 ((sub_reach.1 h).trans (sub_reach.1 k))
theorem Reach.first {cs : List ClM} {a b : Tx} (h : Reach cs [a] b) : b = a ∨ Reach cs (abvN cs a) b := by
 induction h with
 | base m k => exact .inl (List.mem_singleton.1 m)
 | step _ m k ih =>
  rcases ih with rfl | ih
  ·exact .inr (.base m k)
  ·exact .inr (.step ih m k)
def cycB (cs : List ClM) (c : ClM) : Bool := (upL cs (abv c)).contains c.nm
theorem sub_anti {cs : List ClM} (hc : ∀ c ∈ cs, cycB cs c = false) {a b : Tx} (h : subB cs a b = true) (k : subB cs b a = true) : a = b := by
 rcases (sub_reach.1 h).first with e | h1
 ·exact e.symm
 ·exfalso
  have h2 : Reach cs (abvN cs a) a := h1.trans (sub_reach.1 k)
  have ha := h2.has
  obtain ⟨c, hf⟩ := Option.isSome_iff_exists.1 ha
  obtain ⟨e, hm⟩ := findC_nm hf
  have h3 := hc c hm
  unfold cycB at h3
  have h4 : a ∈ upL cs (abv c) := mem_up.2 (by have := h2; unfold abvN at this; rw [hf] at this; exact this)
  rw [e, List.contains_iff_mem.2 h4] at h3
  cases h3
end Go.Proofs.Ytdifmgeicnndfaa.prg
namespace Go.Proofs.Ytdifmgeicnndfaa.find
open Go.RowKit Go.Shelf
open words kindp opp op kind word prg
set_option maxRecDepth 100000
set_option maxHeartbeats 4000000
attribute [local go_sem] Oper.semAt_some
theorem vals_w (A : Option Addr) (k c : Nat) (w : World) :
  Calls Try.prog 74 #[.slice A k c] w fun e w' => e = .returned (.func (.func 105) #[] #[.pointer (some ⟨w.heap.size, 0, none⟩)]) ∧ w' = w.alloc (.cells #[.slice A k c] 23) := by
 go_enter Try.func74, Try.ntmps74
 go_wp2
 go_ret
 exact ⟨rfl, rfl⟩
end Go.Proofs.Ytdifmgeicnndfaa.find

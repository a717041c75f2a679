/- NormXs -/
import Derived.Test.YtgociheckcpjkaaGreatDoorNormXg
namespace Go.Proofs.YtgociheckcpjkaaGreatDoor.prg
open Go.RowKit
open words kindp opp op kind word keep
set_option maxRecDepth 100000
set_option maxHeartbeats 8000000
set_option linter.all false
def ApC (a b : ClM) : Prop := ∀ p q : Addr, (a.A1 = some p → b.A1 = some q → p.block ≠ q.block) ∧ (a.A2 = some p → b.A2 = some q → p.block ≠ q.block) ∧ (a.A3 = some p → b.A3 = some q → p.block ≠ q.block)
theorem own_at {w : World} {b e size n c : Nat} {p : Addr} {xs : List Value} (h : w.ownsRow b e size (.slice (some p) n c) n xs) : b ≤ p.block ∧ p.block < w.heap.size := by
 rcases h.2 with ⟨h', _⟩ | ⟨g, cap, cur, h', hb, hg, _⟩
 ·simp at h'
 ·simp only [Value.slice.injEq, Option.some.injEq] at h'
  obtain ⟨rfl, _⟩ := h'
  exact ⟨hb, blk_lt hg⟩
theorem own_at2 {w : World} {b e size n c : Nat} {A : Option Addr} {p : Addr} {xs : List Value} (h : w.ownsRow b e size (.slice A n c) n xs) (k : A = some p) : b ≤ p.block ∧ p.block < w.heap.size := by subst k; exact own_at h
theorem ap_of {b h : Nat} {w w' : World} {a y : ClM} (ha : OwC b w a) (hy : OwC h w' y) (hs : w.heap.size ≤ h) : ApC a y := fun p q => by
 refine ⟨fun k1 k2 => ?_, fun k1 k2 => ?_, fun k1 k2 => ?_⟩
 ·have m1 := ha.1; have m2 := hy.1
  rw [k1] at m1; rw [k2] at m2
  have := own_at m1; have := own_at m2; omega
 ·have m1 := ha.2.1; have m2 := hy.2.1
  rw [k1] at m1; rw [k2] at m2
  have := own_at m1; have := own_at m2; omega
 ·have m1 := ha.2.2.1; have m2 := hy.2.2.1
  rw [k1] at m1; rw [k2] at m2
  have := own_at m1; have := own_at m2; omega
def CopCls (l : List ClM) (w : World) (e : Ending) (w' : World) : Prop := (∃ (B : Option Addr) (d : Nat) (l' : List ClM), e = .returned (.slice B l'.length d) ∧ l'.map pC = l.map pC ∧ l'.length ≤ d ∧ (∀ a, B = some a → a = ⟨w.heap.size, 0, none⟩) ∧ w'.ownsRow w.heap.size 35 7 (.slice B l'.length d) l'.length (l'.flatMap clC) ∧ (∀ y ∈ l', OwC (w.heap.size + 1) w' y) ∧ l'.Pairwise ApC) ∧ Below w.heap.size w w'
def CloPs (x : PrM) (v : World) (e : Ending) (w' : World) : Prop := (∃ y, e = .returned (.agg (prC y).toArray) ∧ pP y = pP x ∧ OwP v.heap.size w' y ∧ y.cs.Pairwise ApC ∧ ∀ c ∈ y.cs, ∀ p q, y.A2 = some p → c.A1 = some q → p.block ≠ q.block) ∧ Below v.heap.size v w'
theorem copied_cls (A : Option Addr) (c : Nat) (l : List ClM) (w : World) (hr : Rd w A (l.flatMap clC)) (hl : l.length ≤ 100000)
  (HO : ∀ x ∈ l, ∀ v : World, Below w.heap.size w v → Calls Tryz.prog 52 #[.agg (clC x).toArray] v (CloClo x v)) :
  Calls Tryz.prog 51 #[.slice A l.length c, .func (.func 52) #[] #[]] w (CopCls l w) := by
 have heq := Lib.run_eql_slice_nil w 22 35 A l.length c 0 0 Tryz.underlying22
 rcases A with _ | a
 ·have hnil : l = [] := by
   rcases hr with h | ⟨a, h, _⟩
   ·have := congrArg List.length h
    rw [flat_len (f := clC) (k := 7) (fun _ => rfl)] at this
    exact List.length_eq_zero_iff.1 (by simp at this; omega)
   ·cases h
  subst hnil
  have HR := hh (show CopCls [] w (.returned (.slice none 0 0)) w from ⟨⟨none, 0, [], rfl, rfl, Nat.le_refl _, (fun _ h => by cases h), World.ownsRow_nil _ _ _ _, by simp, List.Pairwise.nil⟩, Below.refl _ _⟩)
  clear HO hl hr
  simp only [List.length_nil] at heq ⊢
  go_enter Tryz.func51, Tryz.ntmps51
  go_wp2
  go_ret
  exact HR.out
 ·obtain ⟨i0, hi0, hz0, hz1, hz2⟩ := info_parts info_clo
  obtain ⟨n, hn⟩ : ∃ n, n = l.length := ⟨_, rfl⟩
  rw [← hn] at hl heq ⊢
  obtain ⟨wm, hmk, hown0, hgr0⟩ := run_makeSlice_full (P := Tryz.prog) w w.heap.size 22 35 i0 _ 7 Tryz.underlying22 hi0 hz0 hz1 .i64 .i64 n (by omega) (by rw [hz2]; omega) (by simp only [maxLen]; omega) (Nat.le_refl _)
  rw [show (Value.agg (clC zC).toArray).cells = (clC zC).toArray from rfl, made_flat (C := clC) (K := 7) (fun _ => rfl) (by omega)] at hown0
  have hbm : Below w.heap.size w wm := (Below.refl _ _).grown hgr0 (Nat.le_refl _) (fun k hk => by cases hk)
  have hszm : w.heap.size < wm.heap.size := (hown0.lt w.heap.size rfl).2
  have hnI : (n : Int) ≤ 100000 := by omega
  have HN := hh hn; have HRD := hh hr; have HOO := hh HO; have HO0 := hh hown0; have HBM := hh hbm
  clear hr hn HO hown0 hgr0 hz0 hz1 hz2 hi0
  go_enter Tryz.func51, Tryz.ntmps51
  go_wp2
  go_loopw [15] (fun i wr => ∃ (k : Nat) (done : List ClM), i = .int .i64 (k : Int) ∧ k ≤ n ∧ done.length = k ∧ done.map pC = (l.take k).map pC ∧ (∀ y ∈ done, OwC (w.heap.size + 1) wr y) ∧ done.Pairwise ApC ∧ wr.ownsRow w.heap.size 35 7 (.slice (some ⟨w.heap.size, 0, none⟩) n n) n ((done ++ List.replicate (n - k) zC).flatMap clC) ∧ Below w.heap.size w wr) (fun i _ => n - (intOf i).toNat)
  case atStart => exact ⟨0, [], rfl, Nat.zero_le _, rfl, by simp, by simp, List.Pairwise.nil, by simpa using HO0.out, HBM.out⟩
  case round =>
   obtain ⟨k, done, rfl, hk, hdl, hdp, hdn, hap, hown, hbw⟩ := hrel
   have HAP := hh hap
   clear hap
   have HB := hh hbw; have HDP := hh hdp; have HDN := hh hdn; have HOW := hh hown; have HDL := hh hdl
   have hgs : w.heap.size < wr.heap.size := (hown.lt w.heap.size rfl).2
   by_cases hlt : k < n
   ·have hltI : (k : Int) < (n : Int) := by omega
    obtain ⟨x, hx⟩ : ∃ x, l[k]? = some x := ⟨l[k]'(by rw [← HN.out]; exact hlt), List.getElem?_eq_getElem _⟩
    obtain ⟨a', ea, _, c0, c1, c2, c3, c4, c5, c6⟩ := cl_at (HRD.out.below hbw) hx
    cases ea
    have HX := hh hx
    have hal := hbw.alloc hbw.size (.cells (clC x).toArray 35)
    have hal1 : Below wr.heap.size wr (wr.alloc (.cells (clC x).toArray 35)) := (Below.refl _ _).alloc (Nat.le_refl _) _
    have HAL := hh hal; have HAL1 := hh hal1
    have HCL := hh (HOO.out x (List.mem_of_getElem? hx) _ hal)
    dsimp only [clC] at HCL HAL HAL1
    clear hx hal hal1 hdp hdn hown hbw
    go_wp2_with fail
    refine HCL.out.mono ?_
    rintro e w4 ⟨⟨y, rfl, hyp, hyn⟩, hb4⟩
    have hb5 := HAL1.out.trans (hb4.mono HAL1.out.size)
    have hyn' := hyn.mono (c := w.heap.size + 1) (by have := HAL1.out.size; omega)
    have o0 := own_below HOW.out hb5
    have HD4 := hh (fun z hz => (HDN.out z hz).below hb5)
    have hml : k < (done ++ List.replicate (n - k) zC).length := by rw [List.length_append, List.length_replicate, HDL.out]; omega
    obtain ⟨q, hq⟩ : ∃ q, (done ++ List.replicate (n - k) zC)[k]? = some q := ⟨_, List.getElem?_eq_getElem hml⟩
    have y0 := flat_at (f := clC) (k := 7) (fun _ => rfl) hq (t := 0) (u := (clC q)[0]'(by simp [clC])) (by simp [clC])
    rw [Nat.add_zero] at y0
    have d0 : w4.cell? ⟨w.heap.size, k * 7, none⟩ = some _ := (o0.cellAt (k * 7) (by omega)).trans y0
    have f0 := o0.frozenAt (k * 7)
    have y1 := flat_at (f := clC) (k := 7) (fun _ => rfl) hq (t := 1) (u := (clC q)[1]'(by simp [clC])) (by simp [clC])
    have d1 : w4.cell? ⟨w.heap.size, k * 7 + 1, none⟩ = some _ := (o0.cellAt (k * 7 + 1) (by omega)).trans y1
    have f1 := o0.frozenAt (k * 7 + 1)
    have y2 := flat_at (f := clC) (k := 7) (fun _ => rfl) hq (t := 2) (u := (clC q)[2]'(by simp [clC])) (by simp [clC])
    have d2 : w4.cell? ⟨w.heap.size, k * 7 + 2, none⟩ = some _ := (o0.cellAt (k * 7 + 2) (by omega)).trans y2
    have f2 := o0.frozenAt (k * 7 + 2)
    have y3 := flat_at (f := clC) (k := 7) (fun _ => rfl) hq (t := 3) (u := (clC q)[3]'(by simp [clC])) (by simp [clC])
    have d3 : w4.cell? ⟨w.heap.size, k * 7 + 3, none⟩ = some _ := (o0.cellAt (k * 7 + 3) (by omega)).trans y3
    have f3 := o0.frozenAt (k * 7 + 3)
    have y4 := flat_at (f := clC) (k := 7) (fun _ => rfl) hq (t := 4) (u := (clC q)[4]'(by simp [clC])) (by simp [clC])
    have d4 : w4.cell? ⟨w.heap.size, k * 7 + 4, none⟩ = some _ := (o0.cellAt (k * 7 + 4) (by omega)).trans y4
    have f4 := o0.frozenAt (k * 7 + 4)
    have y5 := flat_at (f := clC) (k := 7) (fun _ => rfl) hq (t := 5) (u := (clC q)[5]'(by simp [clC])) (by simp [clC])
    have d5 : w4.cell? ⟨w.heap.size, k * 7 + 5, none⟩ = some _ := (o0.cellAt (k * 7 + 5) (by omega)).trans y5
    have f5 := o0.frozenAt (k * 7 + 5)
    have y6 := flat_at (f := clC) (k := 7) (fun _ => rfl) hq (t := 6) (u := (clC q)[6]'(by simp [clC])) (by simp [clC])
    have d6 : w4.cell? ⟨w.heap.size, k * 7 + 6, none⟩ = some _ := (o0.cellAt (k * 7 + 6) (by omega)).trans y6
    have f6 := o0.frozenAt (k * 7 + 6)
    obtain ⟨o1, g1⟩ := o0.stored (k * 7) (.string ⟨y.nm.toArray⟩)
    obtain ⟨o2, g2⟩ := o1.stored (k * 7 + 1) (.string ⟨y.su.toArray⟩)
    obtain ⟨o3, g3⟩ := o2.stored (k * 7 + 2) (.bool y.fc)
    obtain ⟨o4, g4⟩ := o3.stored (k * 7 + 3) (.bool y.ab)
    obtain ⟨o5, g5⟩ := o4.stored (k * 7 + 4) (.slice y.A1 y.is.length y.c1)
    obtain ⟨o6, g6⟩ := o5.stored (k * 7 + 5) (.slice y.A2 y.fs.length y.c2)
    obtain ⟨o7, g7⟩ := o6.stored (k * 7 + 6) (.slice y.A3 y.ms.length y.c3)
    have hset := setL_flat (C := clC) (K := 7) (fun _ => rfl) hml y
    have hmx : (done ++ List.replicate (n - k) zC).set k y = (done ++ [y]) ++ List.replicate (n - (k + 1)) zC := by have := mix_set (Z := zC) (y := y) (show done.length < n by rw [HDL.out]; exact hlt); rwa [HDL.out] at this
    rw [hmx] at hset
    rw [show (((((((((done ++ List.replicate (n - k) zC).flatMap clC).set (k * 7) (.string ⟨y.nm.toArray⟩)).set (k * 7 + 1) (.string ⟨y.su.toArray⟩)).set (k * 7 + 2) (.bool y.fc)).set (k * 7 + 3) (.bool y.ab)).set (k * 7 + 4) (.slice y.A1 y.is.length y.c1)).set (k * 7 + 5) (.slice y.A2 y.fs.length y.c2)).set (k * 7 + 6) (.slice y.A3 y.ms.length y.c3)) = ((done ++ [y]) ++ List.replicate (n - (k + 1)) zC).flatMap clC from hset] at o7
    have HOX := hh o7
    have hgall := (gb_trans (gb_trans (gb_trans (gb_trans (gb_trans (gb_trans g1 g2) g3) g4) g5) g6) g7)
    have HDX := hh (show ∀ z ∈ done ++ [y], OwC (w.heap.size + 1) _ z from fun z hz => by
     rcases List.mem_append.1 hz with h | h
     ·exact (HD4.out z h).gb (Nat.lt_succ_self _) hgall
     ·simp at h; subst h; exact hyn'.gb (Nat.lt_succ_self _) hgall)
    have HBX := hh ((((((((HB.out.trans (hb5.mono HB.out.size)).setCell (p := ⟨w.heap.size, k * 7, none⟩) (Nat.le_refl _) (.string ⟨y.nm.toArray⟩)).setCell (p := ⟨w.heap.size, k * 7 + 1, none⟩) (Nat.le_refl _) (.string ⟨y.su.toArray⟩)).setCell (p := ⟨w.heap.size, k * 7 + 2, none⟩) (Nat.le_refl _) (.bool y.fc)).setCell (p := ⟨w.heap.size, k * 7 + 3, none⟩) (Nat.le_refl _) (.bool y.ab)).setCell (p := ⟨w.heap.size, k * 7 + 4, none⟩) (Nat.le_refl _) (.slice y.A1 y.is.length y.c1)).setCell (p := ⟨w.heap.size, k * 7 + 5, none⟩) (Nat.le_refl _) (.slice y.A2 y.fs.length y.c2)).setCell (p := ⟨w.heap.size, k * 7 + 6, none⟩) (Nat.le_refl _) (.slice y.A3 y.ms.length y.c3))
    have HYP := hh hyp
    have HAX := hh (show (done ++ [y]).Pairwise ApC from List.pairwise_append.2 ⟨HAP.out, List.pairwise_singleton .., fun z hz u hu => by
     rw [List.mem_singleton.1 hu]; exact ap_of (HDN.out z hz) hyn HAL1.out.size⟩)
    clear hb4 hb5 o0 o1 o2 o3 o4 o5 o6 o7 g1 g2 g3 g4 g5 g6 g7 hyn hyn' hyp hset hmx hgall hml hq c0 c1 c2 c3 c4 c5 c6 y0 y1 y2 y3 y4 y5 y6
    dsimp only [clC]
    go_wp2
    go_roundw
    case rel => exact ⟨k + 1, done ++ [y], by go_num, by omega, by rw [List.length_append, HDL.out]; rfl, by rw [List.take_add_one, HX.out, List.map_append, List.map_append, HDP.out]; simp [HYP.out], HDX.out, HAX.out, HOX.out, HBX.out⟩
    case measure => simp [intOf]; omega
   ·have hltI : ¬ (k : Int) < (n : Int) := by omega
    have hkn : k = n := by omega
    have ho := HOW.out
    rw [show n - k = 0 by omega, List.replicate_zero, List.append_nil] at ho
    have hln : done.length = n := by rw [HDL.out]; exact hkn
    have HR := hh (show CopCls l w (.returned (.slice (some ⟨w.heap.size, 0, none⟩) n n)) wr from
     ⟨⟨some ⟨w.heap.size, 0, none⟩, n, done, by rw [hln], by rw [HDP.out, List.take_of_length_le (by rw [← HN.out]; omega)], by omega, fun a ha => by cases ha; rfl, by rw [hln]; exact ho, fun y hy => HDN.out y hy, HAP.out⟩, HB.out⟩)
    clear ho hown hbw hdn hdp hln
    go_wp2
    go_ret
    exact HR.out
theorem clone_s (x : PrM) (v : World) (hk : PrOk v x) (hg : GrP x) : Calls Tryz.prog 17 #[.agg (prC x).toArray] v (CloPs x v) := by
 have HC1 := hh (fun w (h : Below v.heap.size v w) => cln_str x.A2 x.ns.length x.c2 (SX x.ns) w (hk.2.1.2.below h) (by simp [SX]) (by have := hg.1.2; omega) (SX_one _))
 have HCP := hh (fun w (h : Below v.heap.size v w) => copied_cls x.A1 x.c1 x.cs w (hk.1.2.below h) (by have := hg.1.1; omega) (fun y hy u hu => cloC_g y u (((hk.2.2 y hy).below h).below hu) (hg.2 y hy)))
 have HPO := hh (fun (B1 : Option Addr) (d1 : Nat) (B : Option Addr) (d : Nat) (l' : List ClM) (w' : World) (k1 : w'.ownsRow v.heap.size 9 1 (.slice B1 x.ns.length d1) x.ns.length (SX x.ns)) (h1 : l'.map pC = x.cs.map pC) (h4 : w'.ownsRow v.heap.size 35 7 (.slice B l'.length d) l'.length (l'.flatMap clC)) (h5 : ∀ y ∈ l', OwC v.heap.size w' y) (h6 : l'.Pairwise ApC) (h7 : ∀ c ∈ l', ∀ p q, B1 = some p → c.A1 = some q → p.block ≠ q.block) (k : Below v.heap.size v w') =>
  show CloPs x v (.returned (.agg (prC ⟨l', B, d, x.ns, B1, d1, x.ec, x.en, x.ed⟩).toArray)) w' from ⟨⟨_, rfl, pr_eq h1 rfl rfl rfl rfl, ⟨h4, k1, h5⟩, h6, h7⟩, k⟩)
 clear hk hg
 obtain ⟨cs, A, c, ns, A2, c2, ec, en, ed⟩ := x
 unfold prC at HPO ⊢
 dsimp only at HPO HCP HC1 ⊢
 obtain ⟨V, hV⟩ : ∃ V, V = (v.alloc (.cells #[.slice A cs.length c, .slice A2 ns.length c2, .string ⟨ec.toArray⟩, .string ⟨en.toArray⟩, .string ⟨ed.toArray⟩] 27)).alloc (.cells #[.slice none 0 0, .slice none 0 0, .string ⟨#[]⟩, .string ⟨#[]⟩, .string ⟨#[]⟩] 27) := ⟨_, rfl⟩
 have hal : Below v.heap.size v V := by rw [hV]; exact ((Below.refl _ v).alloc (Nat.le_refl _) _).alloc (by simp) _
 have hbi : V.heap[v.heap.size]? = some (.cells #[.slice A cs.length c, .slice A2 ns.length c2, .string ⟨ec.toArray⟩, .string ⟨en.toArray⟩, .string ⟨ed.toArray⟩] 27 (0, 0)) := by rw [hV]; exact (Below.heap_alloc _ _ _ (by simp)).trans (heap_alloc_new v _)
 have hbj : V.heap[v.heap.size + 1]? = some (.cells #[.slice none 0 0, .slice none 0 0, .string ⟨#[]⟩, .string ⟨#[]⟩, .string ⟨#[]⟩] 27 (0, 0)) := by
  rw [hV]
  have := heap_alloc_new (v.alloc (.cells #[.slice A cs.length c, .slice A2 ns.length c2, .string ⟨ec.toArray⟩, .string ⟨en.toArray⟩, .string ⟨ed.toArray⟩] 27)) (.cells #[.slice none 0 0, .slice none 0 0, .string ⟨#[]⟩, .string ⟨#[]⟩, .string ⟨#[]⟩] 27)
  rwa [World.size_alloc] at this
 have HV := hh hV; have HAL := hh hal
 obtain ⟨d0, d1, d2, d3, d4⟩ := c5q hbi
 have HBI := hh hbi; have HBJ := hh hbj
 have G1 := hh (blk_lt hbi); have G2 := hh (blk_lt hbj)
 clear hV hal hbi hbj
 go_enter Tryz.func17, Tryz.ntmps17
 go_wp2_with fail
 try simp only [World.size_alloc]
 rw [← HV.out]
 (try go_wp2_with fail)
 refine (HC1.out V HAL.out).mono ?_
 rintro e v0 ⟨⟨B1, d1, rfl, o1⟩, hb⟩
 have hq := (hb.block _ G1.out).trans HBI.out
 have hqj := (hb.block _ G2.out).trans HBJ.out
 have q1 : v0.cell? ⟨v.heap.size, 1, none⟩ = some (.slice A2 ns.length c2) := cell_of_row _ _ 1 _ _ _ hq
 have qf1 := frozen_of_row _ _ 1 _ _ hq
 have hq4 : (v0.setCell ⟨v.heap.size, 1, none⟩ (.slice B1 ns.length d1)).heap[v.heap.size]? = some (.cells #[.slice A cs.length c, .slice B1 ns.length d1, .string ⟨ec.toArray⟩, .string ⟨en.toArray⟩, .string ⟨ed.toArray⟩] 27 (0, 0)) := heap_setCell_same v0 v.heap.size 1 _ _ (.slice B1 ns.length d1) hq
 have hj4 : (v0.setCell ⟨v.heap.size, 1, none⟩ (.slice B1 ns.length d1)).heap[v.heap.size + 1]? = some (.cells #[.slice none 0 0, .slice none 0 0, .string ⟨#[]⟩, .string ⟨#[]⟩, .string ⟨#[]⟩] 27 (0, 0)) := (Below.heap_setCell _ _ _ _ (by simp)).trans hqj
 have n0 : (v0.setCell ⟨v.heap.size, 1, none⟩ (.slice B1 ns.length d1)).cell? ⟨v.heap.size, 0, none⟩ = some (.slice A cs.length c) := cell_of_row _ _ 0 _ _ _ hq4
 have HB5 := hh (show Below v.heap.size v (v0.setCell ⟨v.heap.size, 1, none⟩ (.slice B1 ns.length d1)) from (HAL.out.trans (hb.mono HAL.out.size)).setCell (p := ⟨v.heap.size, 1, none⟩) (Nat.le_refl _) _)
 have U1 := hh (show (v0.setCell ⟨v.heap.size, 1, none⟩ (.slice B1 ns.length d1)).ownsRow V.heap.size 9 1 (.slice B1 ns.length d1) ns.length (SX ns) from own_gb o1 G1.out (gb_set _ _ _ _))
 have HQ5 := hh hq4; have HJ5 := hh hj4; have GA := hh (blk_lt hq4); have GB := hh (blk_lt hj4)
 clear hb o1 hq hqj hq4 hj4 
 go_wp2_with fail
 refine (HCP.out _ HB5.out).mono ?_
 rintro e v1 ⟨⟨B, d, l, rfl, h1, h2, h3, h4, h5, h6⟩, hb1⟩
 have h7 : ∀ c ∈ l, ∀ p q, B1 = some p → c.A1 = some q → p.block ≠ q.block := fun c hc p q k1 k2 => by
  have n1 := own_at2 U1.out k1; have n2 := own_at2 (h5 c hc).1 k2
  omega
 have g1 : v.heap.size < (v0.setCell ⟨v.heap.size, 1, none⟩ (.slice B1 ns.length d1)).heap.size := GA.out
 have g2 : v.heap.size + 1 < (v0.setCell ⟨v.heap.size, 1, none⟩ (.slice B1 ns.length d1)).heap.size := GB.out
 have hbi1 := (hb1.block _ g1).trans HQ5.out
 have hbj1 := (hb1.block _ g2).trans HJ5.out
 have q0 : v1.cell? ⟨v.heap.size, 0, none⟩ = some (.slice A cs.length c) := cell_of_row _ _ 0 _ _ _ hbi1
 have qf0 := frozen_of_row _ _ 0 _ _ hbi1
 have hb8 : (v1.setCell ⟨v.heap.size, 0, none⟩ (.slice B l.length d)).heap[v.heap.size]? = some (.cells #[.slice B l.length d, .slice B1 ns.length d1, .string ⟨ec.toArray⟩, .string ⟨en.toArray⟩, .string ⟨ed.toArray⟩] 27 (0, 0)) := heap_setCell_same v1 v.heap.size 0 _ _ (.slice B l.length d) hbi1
 have hj8 : (v1.setCell ⟨v.heap.size, 0, none⟩ (.slice B l.length d)).heap[v.heap.size + 1]? = some (.cells #[.slice none 0 0, .slice none 0 0, .string ⟨#[]⟩, .string ⟨#[]⟩, .string ⟨#[]⟩] 27 (0, 0)) := (Below.heap_setCell _ _ _ _ (by simp)).trans hbj1
 obtain ⟨e0, e1, e2, e3, e4⟩ := c5q hb8
 have z0 : (v1.setCell ⟨v.heap.size, 0, none⟩ (.slice B l.length d)).cell? ⟨v.heap.size + 1, 0, none⟩ = some (.slice none 0 0) := cell_of_row _ _ 0 _ _ _ hj8
 have zf0 := frozen_of_row _ _ 0 _ _ hj8
 have z1 : (v1.setCell ⟨v.heap.size, 0, none⟩ (.slice B l.length d)).cell? ⟨v.heap.size + 1, 1, none⟩ = some (.slice none 0 0) := cell_of_row _ _ 1 _ _ _ hj8
 have zf1 := frozen_of_row _ _ 1 _ _ hj8
 have z2 : (v1.setCell ⟨v.heap.size, 0, none⟩ (.slice B l.length d)).cell? ⟨v.heap.size + 1, 2, none⟩ = some (.string ⟨#[]⟩) := cell_of_row _ _ 2 _ _ _ hj8
 have zf2 := frozen_of_row _ _ 2 _ _ hj8
 have z3 : (v1.setCell ⟨v.heap.size, 0, none⟩ (.slice B l.length d)).cell? ⟨v.heap.size + 1, 3, none⟩ = some (.string ⟨#[]⟩) := cell_of_row _ _ 3 _ _ _ hj8
 have zf3 := frozen_of_row _ _ 3 _ _ hj8
 have z4 : (v1.setCell ⟨v.heap.size, 0, none⟩ (.slice B l.length d)).cell? ⟨v.heap.size + 1, 4, none⟩ = some (.string ⟨#[]⟩) := cell_of_row _ _ 4 _ _ _ hj8
 have zf4 := frozen_of_row _ _ 4 _ _ hj8
 have HB1 := hh (HB5.out.trans (hb1.mono HB5.out.size))
 have s0 := heap_setCell_same _ (v.heap.size + 1) 0 _ _ (.slice B l.length d) hj8
 have s1 := heap_setCell_same _ (v.heap.size + 1) 1 _ _ (.slice B1 ns.length d1) s0
 have s2 := heap_setCell_same _ (v.heap.size + 1) 2 _ _ (.string ⟨ec.toArray⟩) s1
 have s3 := heap_setCell_same _ (v.heap.size + 1) 3 _ _ (.string ⟨en.toArray⟩) s2
 have s4 := heap_setCell_same _ (v.heap.size + 1) 4 _ _ (.string ⟨ed.toArray⟩) s3
 obtain ⟨WF, hWF⟩ : ∃ WF, WF = ((((((v1.setCell ⟨v.heap.size, 0, none⟩ (.slice B l.length d)).setCell ⟨v.heap.size + 1, 0, none⟩ (.slice B l.length d)).setCell ⟨v.heap.size + 1, 1, none⟩ (.slice B1 ns.length d1)).setCell ⟨v.heap.size + 1, 2, none⟩ (.string ⟨ec.toArray⟩)).setCell ⟨v.heap.size + 1, 3, none⟩ (.string ⟨en.toArray⟩)).setCell ⟨v.heap.size + 1, 4, none⟩ (.string ⟨ed.toArray⟩)) := ⟨_, rfl⟩
 rw [← hWF] at s4
 have sF : WF.heap[v.heap.size + 1]? = some (.cells #[.slice B l.length d, .slice B1 ns.length d1, .string ⟨ec.toArray⟩, .string ⟨en.toArray⟩, .string ⟨ed.toArray⟩] 27 (0, 0)) := by rw [s4]; simp
 obtain ⟨r0, r1, r2, r3, r4⟩ := c5q sF
 have HBF := hh (show Below v.heap.size v WF from by rw [hWF]; exact ((((((HB1.out.setCell (p := ⟨v.heap.size, 0, none⟩) (Nat.le_refl _) (.slice B l.length d)).setCell (p := ⟨v.heap.size + 1, 0, none⟩) (by simp) (.slice B l.length d)).setCell (p := ⟨v.heap.size + 1, 1, none⟩) (by simp) (.slice B1 ns.length d1)).setCell (p := ⟨v.heap.size + 1, 2, none⟩) (by simp) (.string ⟨ec.toArray⟩)).setCell (p := ⟨v.heap.size + 1, 3, none⟩) (by simp) (.string ⟨en.toArray⟩)).setCell (p := ⟨v.heap.size + 1, 4, none⟩) (by simp) (.string ⟨ed.toArray⟩)))
 have HWF := hh hWF
 have R0 := hh r0
 have R1 := hh r1
 have R2 := hh r2
 have R3 := hh r3
 have R4 := hh r4
 have gA := gb_set v1 v.heap.size 0 (.slice B l.length d)
 have gB : (v1.setCell ⟨v.heap.size, 0, none⟩ (.slice B l.length d)).grownBy WF (some (v.heap.size + 1)) := by rw [hWF]; exact (gb_trans (gb_trans (gb_trans (gb_trans (gb_set _ (v.heap.size + 1) 0 (.slice B l.length d)) (gb_set _ (v.heap.size + 1) 1 (.slice B1 ns.length d1))) (gb_set _ (v.heap.size + 1) 2 (.string ⟨ec.toArray⟩))) (gb_set _ (v.heap.size + 1) 3 (.string ⟨en.toArray⟩))) (gb_set _ (v.heap.size + 1) 4 (.string ⟨ed.toArray⟩)))
 have p1 := own_below U1.out hb1
 have f1 : v.heap.size < V.heap.size := G1.out
 have f2 : v.heap.size + 1 < V.heap.size := G2.out
 have HRS := hh (HPO.out B1 d1 B d l WF (own_base (own_gb (own_gb p1 f1 gA) f2 gB) (Nat.le_of_lt f1)) h1 (own_base (own_gb (own_gb h4 g1 gA) g2 gB) (Nat.le_of_lt g1)) (fun y hy => (((h5 y hy).gb (Nat.lt_succ_of_lt g1) gA).gb (Nat.lt_succ_of_lt g2) gB).mono (Nat.le_succ_of_le (Nat.le_of_lt g1))) h6 h7 HBF.out)
 clear hbi1 hbj1 hb8 hj8 hWF gA gB hb1 g1 g2 sF h1 h2 h3 h4 h5 h6 h7 p1 f1 f2 n0 s0 r0 s1 r1 s2 r2 s3 r3 s4 r4
 go_wp2
 rw [← HWF.out]
 refine bodyPost_ret (v := .agg #[.slice B l.length d, .slice B1 ns.length d1, .string ⟨ec.toArray⟩, .string ⟨en.toArray⟩, .string ⟨ed.toArray⟩]) ?_ rfl HRS.out
 simp [results, Tryz.results17, go_sem, R0.out, R1.out, R2.out, R3.out, R4.out]
end Go.Proofs.YtgociheckcpjkaaGreatDoor.prg

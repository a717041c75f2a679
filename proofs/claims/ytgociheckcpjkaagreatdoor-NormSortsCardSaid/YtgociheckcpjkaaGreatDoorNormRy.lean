/- NormRy -/
import Derived.Test.YtgociheckcpjkaaGreatDoorNormXg
import Derived.Test.YtgociheckcpjkaaGreatDoorStep
import Derived.Test.YtgociheckcpjkaaGreatDoorOpTellsW
namespace Go.Proofs.YtgociheckcpjkaaGreatDoor.prg
open Go.RowKit
open words kindp opp op kind word
set_option maxRecDepth 100000
set_option maxHeartbeats 8000000
set_option linter.all false
section
variable {W w1 : World} {base b k size : Nat} {e : TypeId} {v : Value} {xs : List Value}
theorem own_apart {base' size' n' : Nat} {e' : TypeId} {v' : Value} {xs' : List Value} (h : W.ownsRow base' e' size' v' n' xs') (hte : e' ≠ e) (hrow : W.ownsRow base e size v k xs) (hgrow : W.grownBy w1 v.ownBlock) : w1.ownsRow base' e' size' v' n' xs' := by
 refine ⟨h.1, ?_⟩
 rcases h.2 with h0 | ⟨q, cap, cur, rfl, hbg, hq, rest⟩
 ·exact .inl h0
 ·exact .inr ⟨q, cap, cur, rfl, hbg, row_apart hq hte hrow hgrow, rest⟩
theorem OwI.apart {y : InM} (h : OwI b W y) (hte : 3 ≠ e) (hrow : W.ownsRow base e size v k xs) (hgrow : W.grownBy w1 v.ownBlock) : OwI b w1 y := own_apart h hte hrow hgrow
theorem OwM.apart {y : MeM} (h : OwM b W y) (h1 : 3 ≠ e) (h2 : 42 ≠ e) (hrow : W.ownsRow base e size v k xs) (hgrow : W.grownBy w1 v.ownBlock) : OwM b w1 y := ⟨own_apart h.1 h2 hrow hgrow, fun z hz => (h.2 z hz).apart h1 hrow hgrow⟩
theorem OwC.apart {y : ClM} (h : OwC b W y) (h1 : 3 ≠ e) (h2 : 42 ≠ e) (h3 : 9 ≠ e) (h4 : 58 ≠ e) (h5 : 38 ≠ e) (hrow : W.ownsRow base e size v k xs) (hgrow : W.grownBy w1 v.ownBlock) : OwC b w1 y := ⟨own_apart h.1 h3 hrow hgrow, own_apart h.2.1 h4 hrow hgrow, own_apart h.2.2.1 h5 hrow hgrow, fun z hz => (h.2.2.2 z hz).apart h1 h2 hrow hgrow⟩
end
theorem done_more {α β : Type} {f : α → β} {l done : List α} {k : Nat} {x y : α} (h : done.map f = (l.take k).map f) (hx : l[k]? = some x) (hy : f y = f x) : (done ++ [y]).map f = (l.take (k + 1)).map f := by
 rw [List.take_add_one, hx, List.map_append, List.map_append, h]; simp [hy]
theorem done_own {w : World} {base : Nat} {e : TypeId} {size k : Nat} {v : Value} {α : Type} {C : α → List Value} {done : List α} {y : α} (h : w.ownsRow base e size v (k + 1) (done.flatMap C ++ C y)) : w.ownsRow base e size v (k + 1) ((done ++ [y]).flatMap C) := by
 rw [List.flatMap_append]; simpa using h
theorem rcloM (x : MeM) (v : World) (hk : MeOk v x) (hg : GrM x) : Calls Tryz.prog 107 #[.agg (meC x).toArray] v (CloMeo x v) := by
 have HPO := hh (fun (B : Option Addr) (d : Nat) (l' : List InM) (w' : World) (h1 : l'.map pI = x.co.map pI) (h4 : w'.ownsRow v.heap.size 42 9 (.slice B l'.length d) l'.length (l'.flatMap inC)) (h5 : ∀ y ∈ l', OwI v.heap.size w' y) (k : Below v.heap.size v w') =>
  show CloMeo x v (.returned (.agg (meC ⟨x.nm, x.ds, x.st, x.ab, x.rg, l', B, d⟩).toArray)) w' from ⟨⟨_, rfl, me_eq rfl rfl rfl rfl rfl h1, h4, h5⟩, k⟩)
 have HK := hh (fun w (h : Below v.heap.size v w) => hk.2.1.below h)
 have HY := hh (fun w (h : Below v.heap.size v w) y (hy : y ∈ x.co) => (hk.2.2 y hy).below h)
 have HG := hh (fun y (hy : y ∈ x.co) => (hg.2 y hy).1)
 have hco := hg.1.1
 clear hk hg
 obtain ⟨nm, ds, st, ab, rg, co, A, c⟩ := x
 unfold meC at HPO ⊢
 dsimp only at HPO HK HY HG hco ⊢
 obtain ⟨V, hV⟩ : ∃ V, V = (v.alloc (.cells #[.string ⟨nm.toArray⟩, .string ⟨ds.toArray⟩, .bool st, .bool ab, .int .i64 rg, .slice A co.length c] 38)).alloc (.cells #[.string ⟨#[]⟩, .string ⟨#[]⟩, .bool false, .bool false, .int .i64 0, .slice none 0 0] 38) := ⟨_, rfl⟩
 have hal : Below v.heap.size v V := by rw [hV]; exact ((Below.refl _ v).alloc (Nat.le_refl _) _).alloc (by simp) _
 have hbi : V.heap[v.heap.size]? = some (.cells #[.string ⟨nm.toArray⟩, .string ⟨ds.toArray⟩, .bool st, .bool ab, .int .i64 rg, .slice A co.length c] 38 (0, 0)) := by rw [hV]; exact (Below.heap_alloc _ _ _ (by simp)).trans (heap_alloc_new v _)
 have hbj : V.heap[v.heap.size + 1]? = some (.cells #[.string ⟨#[]⟩, .string ⟨#[]⟩, .bool false, .bool false, .int .i64 0, .slice none 0 0] 38 (0, 0)) := by
  rw [hV]
  have := heap_alloc_new (v.alloc (.cells #[.string ⟨nm.toArray⟩, .string ⟨ds.toArray⟩, .bool st, .bool ab, .int .i64 rg, .slice A co.length c] 38)) (.cells #[.string ⟨#[]⟩, .string ⟨#[]⟩, .bool false, .bool false, .int .i64 0, .slice none 0 0] 38)
  rwa [World.size_alloc] at this
 have HV := hh hV; have HAL := hh hal
 have HBI := hh hbi; have HBJ := hh hbj
 have G1 := hh (blk_lt hbi); have G2 := hh (blk_lt hbj)
 have d5 : V.cell? ⟨v.heap.size, 5, none⟩ = some (.slice A co.length c) := cell_of_row _ _ 5 _ _ _ hbi
 have HC5 := hh (show ∀ u : World, Below V.heap.size V u → u.cell? ⟨v.heap.size, 5, none⟩ = some (.slice A co.length c) from fun u hu => cell_of_row _ _ 5 _ _ _ ((hu.block _ G1.out).trans HBI.out))
 clear hV hal hbi hbj
 go_enter Tryz.func107, Tryz.ntmps107
 go_wp2_with fail
 try simp only [World.size_alloc]
 rw [← HV.out]
 (try go_wp2_with fail)
 clear d5
 go_loopw [3, 4] (fun r i wr => ∃ (k : Nat) (done : List InM), i = .int .i64 (k : Int) ∧ k ≤ co.length ∧ done.length = k ∧ done.map pI = (co.take k).map pI ∧ (∀ y ∈ done, OwI V.heap.size wr y) ∧ wr.ownsRow V.heap.size 42 9 r k (done.flatMap inC) ∧ Below V.heap.size V wr) (fun _ i _ => co.length - (intOf i).toNat)
 case atStart => exact ⟨0, [], rfl, Nat.zero_le _, rfl, rfl, (fun _ h => by cases h), World.ownsRow_nil _ _ _ _, Below.refl _ _⟩
 case round =>
  obtain ⟨k, done, rfl, hkl, hdl, hdp, hdo, hown, hbw⟩ := hrel
  obtain ⟨wa, hwa⟩ : ∃ u, u = wr := ⟨_, rfl⟩
  subst hwa
  have HB := hh hbw; have HDP := hh hdp; have HDO := hh hdo; have HO := hh hown; have HDL := hh hdl
  have g5 := HC5.out _ hbw
  have hsz := hbw.size
  by_cases hlt : k < co.length
  ·have hltI : (k : Int) < (co.length : Int) := by omega
   obtain ⟨y, hy⟩ : ∃ y, co[k]? = some y := ⟨co[k]'hlt, List.getElem?_eq_getElem _⟩
   have hmem := List.mem_of_getElem? hy
   obtain ⟨a, ea, ha, c0, c1, c2, c3, c4, c5, c6, c7, c8⟩ := in_at (HK.out _ (HAL.out.trans (hbw.mono HAL.out.size))) hy
   subst ea
   obtain ⟨i1, hj0, hy0, hy1, hy2⟩ := info_parts info_io
   obtain ⟨i2, fj0, fy0, fy1, fy2⟩ := info_parts info_ino
   have har := HG.out y hmem
   have hx1 : Below wa.heap.size wa (wa.alloc (.cells #[.int .i64 y.i.o, .int .i64 y.i.a, .int .i64 y.i.b, .int .i64 y.i.c, .int .i64 y.i.k, .string ⟨y.i.cl.toArray⟩, .string ⟨y.i.nm.toArray⟩, .string ⟨y.i.ds.toArray⟩, .slice y.A y.i.ar.length y.c] 42)) := (Below.refl _ _).alloc (Nat.le_refl _) _
   have HX1 := hh hx1
   have hbx : Below V.heap.size V (wa.alloc (.cells #[.int .i64 y.i.o, .int .i64 y.i.a, .int .i64 y.i.b, .int .i64 y.i.c, .int .i64 y.i.k, .string ⟨y.i.cl.toArray⟩, .string ⟨y.i.nm.toArray⟩, .string ⟨y.i.ds.toArray⟩, .slice y.A y.i.ar.length y.c] 42)) := hbw.alloc hbw.size _
   have f5 := HC5.out _ hbx
   have hry := (HY.out _ (HAL.out.trans (hbx.mono HAL.out.size)) y hmem).2
   have HRY := hh hry
   have f8 : (wa.alloc (.cells #[.int .i64 y.i.o, .int .i64 y.i.a, .int .i64 y.i.b, .int .i64 y.i.c, .int .i64 y.i.k, .string ⟨y.i.cl.toArray⟩, .string ⟨y.i.nm.toArray⟩, .string ⟨y.i.ds.toArray⟩, .slice y.A y.i.ar.length y.c] 42)).cell? ⟨(a.add (k * 9)).block, (a.add (k * 9)).off + 8, none⟩ = some (.slice y.A y.i.ar.length y.c) := (hx1.cell (p := ⟨(a.add (k * 9)).block, (a.add (k * 9)).off + 8, none⟩) (World.block_lt_of_cell? _ _ c8)).trans c8
   have hnx := heap_alloc_new wa (.cells #[.int .i64 y.i.o, .int .i64 y.i.a, .int .i64 y.i.b, .int .i64 y.i.c, .int .i64 y.i.k, .string ⟨y.i.cl.toArray⟩, .string ⟨y.i.nm.toArray⟩, .string ⟨y.i.ds.toArray⟩, .slice y.A y.i.ar.length y.c] 42)
   have HNX := hh hnx; have HYY := hh hy
   have HDL2 := hh (show done.length ≤ 300 by omega)
   clear hdp hdo hown hbw hdl hx1 hbx hry hnx hmem ha hy
   go_wp2_with (first
    | (at_builtin; refine wpList_app _ rfl (.tmp 19) (.tmp 25) _ rfl (wa.heap.size + 1) 3 i1 _ 1 8 Tryz.underlying40 hj0 hy0 hy1 hy2 rfl (by omega) _ 0 ([]) rfl (World.ownsRow_nil _ _ _ _) _ (_) _ (IL y.i.ar) rfl (by simp [IL]) (HRY.out) (il_one _) (by simp only [maxLen]; omega) (by omega) (by simp) ?_; intro v5 w5 hown5 hg5 hb5 hat5; clear hat5; rw [Nat.zero_add, List.nil_append] at hown5; obtain ⟨B2, d2, rfl, -, -, -⟩ := own_rd hown5; have HO5 := hh hown5; have hb5z : Below (wa.heap.size + 1) (wa.alloc (.cells #[.int .i64 y.i.o, .int .i64 y.i.a, .int .i64 y.i.b, .int .i64 y.i.c, .int .i64 y.i.k, .string ⟨y.i.cl.toArray⟩, .string ⟨y.i.nm.toArray⟩, .string ⟨y.i.ds.toArray⟩, .slice y.A y.i.ar.length y.c] 42)) w5 := hb5; have HX5 := hh ((hb5z.block wa.heap.size (Nat.lt_succ_self _)).trans HNX.out); have HB5 := hh (show Below wa.heap.size wa w5 from HX1.out.trans (hb5z.mono (Nat.le_succ _))); clear hown5 hg5 hb5 hb5z c0 c1 c2 c3 c4 c5 c6 c7 c8 f5 f8 g5; have q8 : w5.cell? ⟨wa.heap.size, 8, none⟩ = some (.slice y.A y.i.ar.length y.c) := cell_of_row _ _ 8 _ _ _ HX5.out; have qf8 := frozen_of_row _ _ 8 _ _ HX5.out; have hx8 : (w5.setCell ⟨wa.heap.size, 8, none⟩ (.slice B2 y.i.ar.length d2)).heap[wa.heap.size]? = some (.cells #[.int .i64 y.i.o, .int .i64 y.i.a, .int .i64 y.i.b, .int .i64 y.i.c, .int .i64 y.i.k, .string ⟨y.i.cl.toArray⟩, .string ⟨y.i.nm.toArray⟩, .string ⟨y.i.ds.toArray⟩, .slice B2 y.i.ar.length d2] 42 (0, 0)) := heap_setCell_same w5 wa.heap.size 8 _ _ (.slice B2 y.i.ar.length d2) HX5.out; have e0 : (w5.setCell ⟨wa.heap.size, 8, none⟩ (.slice B2 y.i.ar.length d2)).cell? ⟨wa.heap.size, 0, none⟩ = some (.int .i64 y.i.o) := cell_of_row _ _ 0 _ _ _ hx8; have e1 : (w5.setCell ⟨wa.heap.size, 8, none⟩ (.slice B2 y.i.ar.length d2)).cell? ⟨wa.heap.size, 1, none⟩ = some (.int .i64 y.i.a) := cell_of_row _ _ 1 _ _ _ hx8; have e2 : (w5.setCell ⟨wa.heap.size, 8, none⟩ (.slice B2 y.i.ar.length d2)).cell? ⟨wa.heap.size, 2, none⟩ = some (.int .i64 y.i.b) := cell_of_row _ _ 2 _ _ _ hx8; have e3 : (w5.setCell ⟨wa.heap.size, 8, none⟩ (.slice B2 y.i.ar.length d2)).cell? ⟨wa.heap.size, 3, none⟩ = some (.int .i64 y.i.c) := cell_of_row _ _ 3 _ _ _ hx8; have e4 : (w5.setCell ⟨wa.heap.size, 8, none⟩ (.slice B2 y.i.ar.length d2)).cell? ⟨wa.heap.size, 4, none⟩ = some (.int .i64 y.i.k) := cell_of_row _ _ 4 _ _ _ hx8; have e5 : (w5.setCell ⟨wa.heap.size, 8, none⟩ (.slice B2 y.i.ar.length d2)).cell? ⟨wa.heap.size, 5, none⟩ = some (.string ⟨y.i.cl.toArray⟩) := cell_of_row _ _ 5 _ _ _ hx8; have e6 : (w5.setCell ⟨wa.heap.size, 8, none⟩ (.slice B2 y.i.ar.length d2)).cell? ⟨wa.heap.size, 6, none⟩ = some (.string ⟨y.i.nm.toArray⟩) := cell_of_row _ _ 6 _ _ _ hx8; have e7 : (w5.setCell ⟨wa.heap.size, 8, none⟩ (.slice B2 y.i.ar.length d2)).cell? ⟨wa.heap.size, 7, none⟩ = some (.string ⟨y.i.ds.toArray⟩) := cell_of_row _ _ 7 _ _ _ hx8; have e8 : (w5.setCell ⟨wa.heap.size, 8, none⟩ (.slice B2 y.i.ar.length d2)).cell? ⟨wa.heap.size, 8, none⟩ = some (.slice B2 y.i.ar.length d2) := cell_of_row _ _ 8 _ _ _ hx8; have HB8 := hh (show Below wa.heap.size wa (w5.setCell ⟨wa.heap.size, 8, none⟩ (.slice B2 y.i.ar.length d2)) from HB5.out.setCell (p := ⟨wa.heap.size, 8, none⟩) (Nat.le_refl _) _); clear hx8; have HR8 := hh (own_below HO.out HB8.out); have hz8 : V.heap.size ≤ (w5.setCell ⟨wa.heap.size, 8, none⟩ (.slice B2 y.i.ar.length d2)).heap.size := Nat.le_trans hsz HB8.out.size; have HZ8 := hh hz8; clear hz8; have h9 := heap_alloc_new (w5.setCell ⟨wa.heap.size, 8, none⟩ (.slice B2 y.i.ar.length d2)) (.cells #[.int .i64 y.i.o, .int .i64 y.i.a, .int .i64 y.i.b, .int .i64 y.i.c, .int .i64 y.i.k, .string ⟨y.i.cl.toArray⟩, .string ⟨y.i.nm.toArray⟩, .string ⟨y.i.ds.toArray⟩, .slice B2 y.i.ar.length d2] 42); rw [show (w5.setCell ⟨wa.heap.size, 8, none⟩ (.slice B2 y.i.ar.length d2)).heap.size = w5.heap.size from by simp] at h9; have HN8 := hh h9; clear h9)
    | (at_builtin; refine wpList_app _ rfl (.tmp 29) (.tmp 31) _ rfl (V.heap.size) 42 i2 _ 9 112 Tryz.underlying36 fj0 fy0 fy1 fy2 rfl (by omega) _ k (done.flatMap inC) rfl (HR8.out.alloc _) _ (1) _ ([.int .i64 y.i.o, .int .i64 y.i.a, .int .i64 y.i.b, .int .i64 y.i.c, .int .i64 y.i.k, .string ⟨y.i.cl.toArray⟩, .string ⟨y.i.nm.toArray⟩, .string ⟨y.i.ds.toArray⟩, .slice B2 y.i.ar.length d2]) rfl (rfl) (rd_blk HN8.out (k := 9) rfl) (by simp [Value.oneCell']) (by simp only [maxLen]; omega) (by omega) (by have h9 := HZ8.out; simp at h9 ⊢; omega) ?_; intro v7 w7 hown7 hg7 hb7 hat7; clear hat7; have o7 := done_own (C := inC) (done := done) (y := ⟨y.i, B2, d2⟩) hown7; have HO7 := hh o7; have HB7 := hh (show Below V.heap.size V w7 from (HB.out.trans ((HB8.out.alloc HB8.out.size (.cells #[.int .i64 y.i.o, .int .i64 y.i.a, .int .i64 y.i.b, .int .i64 y.i.c, .int .i64 y.i.k, .string ⟨y.i.cl.toArray⟩, .string ⟨y.i.nm.toArray⟩, .string ⟨y.i.ds.toArray⟩, .slice B2 y.i.ar.length d2] 42)).mono HB.out.size)).trans hb7); have hy8 : OwI (wa.heap.size + 1) (w5.setCell ⟨wa.heap.size, 8, none⟩ (.slice B2 y.i.ar.length d2)) ⟨y.i, B2, d2⟩ := own_gb HO5.out (Nat.lt_succ_self _) (gb_set _ _ _ _); have HD7 := hh (show ∀ z ∈ done ++ [⟨y.i, B2, d2⟩], OwI V.heap.size w7 z from fun z hz => by rcases List.mem_append.1 hz with h | h; exact OwI.apart (((HDO.out z h).below HB8.out).below ((Below.refl _ _).alloc (Nat.le_refl _) _)) (by decide) (HR8.out.alloc _) hg7; simp at h; subst h; exact OwI.apart ((hy8.mono (Nat.le_succ_of_le hsz)).below ((Below.refl _ _).alloc (Nat.le_refl _) _)) (by decide) (HR8.out.alloc _) hg7); clear hown7 hg7 hb7 o7 hy8))
   go_roundw
   case rel => exact ⟨k + 1, done ++ [⟨y.i, B2, d2⟩], by go_num, by omega, by rw [List.length_append, HDL.out]; rfl, done_more HDP.out HYY.out rfl, HD7.out, HO7.out, HB7.out⟩
   case measure => simp [intOf]; omega
  ·have hltI : ¬ (k : Int) < (co.length : Int) := by omega
   have hkn : k = co.length := by omega
   have ho := HO.out
   have hdk := HDL.out
   subst hdk
   obtain ⟨B, d, rfl, -, -, -⟩ := own_rd ho
   have hp1 : done.map pI = co.map pI := by rw [HDP.out, hkn, List.take_length]
   have h4 := ho; have h5 := HDO.out
   obtain ⟨v1, hv1⟩ : ∃ u, u = wa := ⟨_, rfl⟩
   subst hv1
   have g1 : v.heap.size < V.heap.size := G1.out
   have g2 : v.heap.size + 1 < V.heap.size := G2.out
   have hbi1 := (hbw.block _ g1).trans HBI.out
   have hbj1 := (hbw.block _ g2).trans HBJ.out
   have HB0 := hh (HAL.out.trans (HB.out.mono HAL.out.size))
   have q0_5 : v1.cell? ⟨v.heap.size, 5, none⟩ = some (.slice A co.length c) := cell_of_row _ _ 5 _ _ _ hbi1
   have qf0 := frozen_of_row _ _ 5 _ _ hbi1
   have hst0 : (v1.setCell ⟨v.heap.size, 5, none⟩ (.slice B done.length d)).heap[v.heap.size]? = some (.cells #[.string ⟨nm.toArray⟩, .string ⟨ds.toArray⟩, .bool st, .bool ab, .int .i64 rg, .slice B done.length d] 38 (0, 0)) := heap_setCell_same _ v.heap.size 5 _ _ (.slice B done.length d) hbi1
   have hsj0 : (v1.setCell ⟨v.heap.size, 5, none⟩ (.slice B done.length d)).heap[v.heap.size + 1]? = some (.cells #[.string ⟨#[]⟩, .string ⟨#[]⟩, .bool false, .bool false, .int .i64 0, .slice none 0 0] 38 (0, 0)) := (Below.heap_setCell _ _ _ _ (by simp)).trans hbj1
   obtain ⟨e0, e1, e2, e3, e4, e5⟩ := c6q hst0
   have z0 : (v1.setCell ⟨v.heap.size, 5, none⟩ (.slice B done.length d)).cell? ⟨v.heap.size + 1, 0, none⟩ = some (.string ⟨#[]⟩) := cell_of_row _ _ 0 _ _ _ hsj0
   have zf0 := frozen_of_row _ _ 0 _ _ hsj0
   have z1 : (v1.setCell ⟨v.heap.size, 5, none⟩ (.slice B done.length d)).cell? ⟨v.heap.size + 1, 1, none⟩ = some (.string ⟨#[]⟩) := cell_of_row _ _ 1 _ _ _ hsj0
   have zf1 := frozen_of_row _ _ 1 _ _ hsj0
   have z2 : (v1.setCell ⟨v.heap.size, 5, none⟩ (.slice B done.length d)).cell? ⟨v.heap.size + 1, 2, none⟩ = some (.bool false) := cell_of_row _ _ 2 _ _ _ hsj0
   have zf2 := frozen_of_row _ _ 2 _ _ hsj0
   have z3 : (v1.setCell ⟨v.heap.size, 5, none⟩ (.slice B done.length d)).cell? ⟨v.heap.size + 1, 3, none⟩ = some (.bool false) := cell_of_row _ _ 3 _ _ _ hsj0
   have zf3 := frozen_of_row _ _ 3 _ _ hsj0
   have z4 : (v1.setCell ⟨v.heap.size, 5, none⟩ (.slice B done.length d)).cell? ⟨v.heap.size + 1, 4, none⟩ = some (.int .i64 0) := cell_of_row _ _ 4 _ _ _ hsj0
   have zf4 := frozen_of_row _ _ 4 _ _ hsj0
   have z5 : (v1.setCell ⟨v.heap.size, 5, none⟩ (.slice B done.length d)).cell? ⟨v.heap.size + 1, 5, none⟩ = some (.slice none 0 0) := cell_of_row _ _ 5 _ _ _ hsj0
   have zf5 := frozen_of_row _ _ 5 _ _ hsj0
   have s0 := heap_setCell_same _ (v.heap.size + 1) 0 _ _ (.string ⟨nm.toArray⟩) hsj0
   have s1 := heap_setCell_same _ (v.heap.size + 1) 1 _ _ (.string ⟨ds.toArray⟩) s0
   have s2 := heap_setCell_same _ (v.heap.size + 1) 2 _ _ (.bool st) s1
   have s3 := heap_setCell_same _ (v.heap.size + 1) 3 _ _ (.bool ab) s2
   have s4 := heap_setCell_same _ (v.heap.size + 1) 4 _ _ (.int .i64 rg) s3
   have s5 := heap_setCell_same _ (v.heap.size + 1) 5 _ _ (.slice B done.length d) s4
   obtain ⟨WF, hWF⟩ : ∃ WF, WF = (((((((v1.setCell ⟨v.heap.size, 5, none⟩ (.slice B done.length d)).setCell ⟨v.heap.size + 1, 0, none⟩ (.string ⟨nm.toArray⟩)).setCell ⟨v.heap.size + 1, 1, none⟩ (.string ⟨ds.toArray⟩)).setCell ⟨v.heap.size + 1, 2, none⟩ (.bool st)).setCell ⟨v.heap.size + 1, 3, none⟩ (.bool ab)).setCell ⟨v.heap.size + 1, 4, none⟩ (.int .i64 rg)).setCell ⟨v.heap.size + 1, 5, none⟩ (.slice B done.length d)) := ⟨_, rfl⟩
   rw [← hWF] at s5
   have sF : WF.heap[v.heap.size + 1]? = some (.cells #[.string ⟨nm.toArray⟩, .string ⟨ds.toArray⟩, .bool st, .bool ab, .int .i64 rg, .slice B done.length d] 38 (0, 0)) := by rw [s5]; simp
   obtain ⟨r0, r1, r2, r3, r4, r5⟩ := c6q sF
   have HBF := hh (show Below v.heap.size v WF from by rw [hWF]; exact (((((((HB0.out.setCell (p := ⟨v.heap.size, 5, none⟩) (Nat.le_refl _) (.slice B done.length d)).setCell (p := ⟨v.heap.size + 1, 0, none⟩) (by simp) (.string ⟨nm.toArray⟩)).setCell (p := ⟨v.heap.size + 1, 1, none⟩) (by simp) (.string ⟨ds.toArray⟩)).setCell (p := ⟨v.heap.size + 1, 2, none⟩) (by simp) (.bool st)).setCell (p := ⟨v.heap.size + 1, 3, none⟩) (by simp) (.bool ab)).setCell (p := ⟨v.heap.size + 1, 4, none⟩) (by simp) (.int .i64 rg)).setCell (p := ⟨v.heap.size + 1, 5, none⟩) (by simp) (.slice B done.length d)))
   have HWF := hh hWF
   have R0 := hh r0
   have R1 := hh r1
   have R2 := hh r2
   have R3 := hh r3
   have R4 := hh r4
   have R5 := hh r5
   have gA : v1.grownBy (v1.setCell ⟨v.heap.size, 5, none⟩ (.slice B done.length d)) (some v.heap.size) := (gb_set _ v.heap.size 5 (.slice B done.length d))
   have gB : (v1.setCell ⟨v.heap.size, 5, none⟩ (.slice B done.length d)).grownBy WF (some (v.heap.size + 1)) := by rw [hWF]; exact (gb_trans (gb_trans (gb_trans (gb_trans (gb_trans (gb_set _ (v.heap.size + 1) 0 (.string ⟨nm.toArray⟩)) (gb_set _ (v.heap.size + 1) 1 (.string ⟨ds.toArray⟩))) (gb_set _ (v.heap.size + 1) 2 (.bool st))) (gb_set _ (v.heap.size + 1) 3 (.bool ab))) (gb_set _ (v.heap.size + 1) 4 (.int .i64 rg))) (gb_set _ (v.heap.size + 1) 5 (.slice B done.length d)))
   have HRS := hh (HPO.out B d done WF hp1 (own_base (own_gb (own_gb h4 g1 gA) g2 gB) (Nat.le_of_lt g1)) (fun y hy => (((h5 y hy).gb g1 gA).gb g2 gB).mono (Nat.le_of_lt g1)) HBF.out)
   clear hkn ho hp1 h4 h5 hbi1 hbj1 hbw hown hdo hdp g1 g2 hst0 hsj0
   clear hWF gA gB sF  s0 r0 s1 r1 s2 r2 s3 r3 s4 r4 s5 r5
   go_wp2
   rw [← HWF.out]
   refine bodyPost_ret (v := .agg #[.string ⟨nm.toArray⟩, .string ⟨ds.toArray⟩, .bool st, .bool ab, .int .i64 rg, .slice B done.length d]) ?_ rfl HRS.out
   simp [results, Tryz.results107, go_sem, R0.out, R1.out, R2.out, R3.out, R4.out, R5.out]
theorem rcloC (x : ClM) (v : World) (hk : ClOk v x) (hg : GrC x) : Calls Tryz.prog 69 #[.agg (clC x).toArray] v (CloClo x v) := by
 have HPO := hh (fun (B1 : Option Addr) (d1 : Nat) (B2 : Option Addr) (d2 : Nat) (B : Option Addr) (d : Nat) (l' : List MeM) (w' : World) (k1 : w'.ownsRow v.heap.size 9 1 (.slice B1 x.is.length d1) x.is.length (SX x.is)) (k2 : w'.ownsRow v.heap.size 58 4 (.slice B2 x.fs.length d2) x.fs.length (x.fs.flatMap fiC)) (h1 : l'.map pM = x.ms.map pM) (h4 : w'.ownsRow v.heap.size 38 6 (.slice B l'.length d) l'.length (l'.flatMap meC)) (h5 : ∀ y ∈ l', OwM v.heap.size w' y) (k : Below v.heap.size v w') =>
  show CloClo x v (.returned (.agg (clC ⟨x.nm, x.su, x.fc, x.ab, x.is, B1, d1, x.fs, B2, d2, l', B, d⟩).toArray)) w' from ⟨⟨_, rfl, cl_eq rfl rfl rfl rfl rfl rfl h1, k1, k2, h4, h5⟩, k⟩)
 have HK1 := hh (fun w (h : Below v.heap.size v w) => hk.1.2.below h)
 have HK2 := hh (fun w (h : Below v.heap.size v w) => hk.2.1.2.below h)
 have HK3 := hh (fun w (h : Below v.heap.size v w) => hk.2.2.1.2.below h)
 have HCM := hh (fun w (h : Below v.heap.size v w) y (hy : y ∈ x.ms) => rcloM y w ((hk.2.2.2 y hy).below h) (hg.2 y hy))
 have hl1 := hg.1.1; have hl2 := hg.1.2.1; have hl3 := hg.1.2.2.1
 clear hk hg
 obtain ⟨nm, su, fc, ab, is, A1, c1, fs, A2, c2, ms, A, c⟩ := x
 unfold clC at HPO ⊢
 dsimp only at HPO HK1 HK2 HK3 HCM hl1 hl2 hl3 ⊢
 obtain ⟨V, hV⟩ : ∃ V, V = (v.alloc (.cells #[.string ⟨nm.toArray⟩, .string ⟨su.toArray⟩, .bool fc, .bool ab, .slice A1 is.length c1, .slice A2 fs.length c2, .slice A ms.length c] 35)).alloc (.cells #[.string ⟨#[]⟩, .string ⟨#[]⟩, .bool false, .bool false, .slice none 0 0, .slice none 0 0, .slice none 0 0] 35) := ⟨_, rfl⟩
 have hal : Below v.heap.size v V := by rw [hV]; exact ((Below.refl _ v).alloc (Nat.le_refl _) _).alloc (by simp) _
 have hbi : V.heap[v.heap.size]? = some (.cells #[.string ⟨nm.toArray⟩, .string ⟨su.toArray⟩, .bool fc, .bool ab, .slice A1 is.length c1, .slice A2 fs.length c2, .slice A ms.length c] 35 (0, 0)) := by rw [hV]; exact (Below.heap_alloc _ _ _ (by simp)).trans (heap_alloc_new v _)
 have hbj : V.heap[v.heap.size + 1]? = some (.cells #[.string ⟨#[]⟩, .string ⟨#[]⟩, .bool false, .bool false, .slice none 0 0, .slice none 0 0, .slice none 0 0] 35 (0, 0)) := by
  rw [hV]
  have := heap_alloc_new (v.alloc (.cells #[.string ⟨nm.toArray⟩, .string ⟨su.toArray⟩, .bool fc, .bool ab, .slice A1 is.length c1, .slice A2 fs.length c2, .slice A ms.length c] 35)) (.cells #[.string ⟨#[]⟩, .string ⟨#[]⟩, .bool false, .bool false, .slice none 0 0, .slice none 0 0, .slice none 0 0] 35)
  rwa [World.size_alloc] at this
 have HV := hh hV; have HAL := hh hal
 have HBI := hh hbi; have HBJ := hh hbj
 have G1 := hh (blk_lt hbi); have G2 := hh (blk_lt hbj)
 have d4 : V.cell? ⟨v.heap.size, 4, none⟩ = some (.slice A1 is.length c1) := cell_of_row _ _ 4 _ _ _ hbi
 obtain ⟨i1, hj0, hy0, hy1, hy2⟩ := info_parts infoX
 obtain ⟨i2, fj0, fy0, fy1, fy2⟩ := info_parts info_fo
 have hk1 := HK1.out V hal
 have HKA := hh hk1
 have d4x := d4
 rw [hV] at d4x
 clear hV hal hbi hbj hk1
 go_enter Tryz.func69, Tryz.ntmps69
 go_wp2_with (first
  | (at_builtin; (try simp only [World.size_alloc]); rw [← HV.out]; refine wpList_app _ rfl (.tmp 7) (.tmp 9) _ rfl (V.heap.size) 9 i1 _ 1 16 Tryz.underlying23 hj0 hy0 hy1 hy2 rfl (by omega) _ 0 ([]) rfl (World.ownsRow_nil _ _ _ _) _ (_) _ (SX is) rfl (by simp [SX]) (HKA.out) (SX_one _) (by simp only [maxLen]; omega) (by omega) (Nat.le_refl _) ?_; intro v5 w5 hown5 hg5 hb5 hat5; clear hat5; rw [Nat.zero_add, List.nil_append] at hown5; obtain ⟨B1, d1, rfl, -, -, -⟩ := own_rd hown5; have HO5 := hh hown5; have HB5 := hh hb5; have HKB := hh (HK2.out _ (HAL.out.trans (hb5.mono HAL.out.size))); have e5 : w5.cell? ⟨v.heap.size, 5, none⟩ = some (.slice A2 fs.length c2) := cell_of_row _ _ 5 _ _ _ ((hb5.block _ G1.out).trans HBI.out); clear hown5 hg5 hb5 d4 d4x)
  | (at_builtin; refine wpList_app _ rfl (.tmp 11) (.tmp 13) _ rfl (w5.heap.size) 58 i2 _ 4 48 Tryz.underlying32 fj0 fy0 fy1 fy2 rfl (by omega) _ 0 ([]) rfl (World.ownsRow_nil _ _ _ _) _ (_) _ (fs.flatMap fiC) rfl (flat_len (f := fiC) (k := 4) (fun _ => rfl) _) (HKB.out) (fi_one _) (by simp only [maxLen]; omega) (by omega) (Nat.le_refl _) ?_; intro v6 w6 hown6 hg6 hb6 hat6; clear hat6; rw [Nat.zero_add, List.nil_append] at hown6; obtain ⟨B2, d2, rfl, -, -, -⟩ := own_rd hown6; have HO6 := hh hown6; have HP5 := hh (own_below HO5.out hb6); have HB6 := hh (HB5.out.trans (hb6.mono HB5.out.size)); clear hown6 hg6 hb6 e5))
 have hbi6 := (HB6.out.block _ G1.out).trans HBI.out
 have hbj6 := (HB6.out.block _ G2.out).trans HBJ.out
 have HBI6 := hh hbi6; have HBJ6 := hh hbj6
 have G16 := hh (blk_lt hbi6); have G26 := hh (blk_lt hbj6)
 have HC6 := hh (show ∀ u : World, Below w6.heap.size w6 u → u.cell? ⟨v.heap.size, 6, none⟩ = some (.slice A ms.length c) from fun u hu => cell_of_row _ _ 6 _ _ _ ((hu.block _ G16.out).trans HBI6.out))
 have HA6 := hh (HAL.out.trans (HB6.out.mono HAL.out.size))
 clear hbi6 hbj6 i1 hj0 hy0 hy1 hy2 i2 fj0 fy0 fy1 fy2
 go_loopw [5, 6] (fun r i wr => ∃ (k : Nat) (done : List MeM), i = .int .i64 (k : Int) ∧ k ≤ ms.length ∧ done.length = k ∧ done.map pM = (ms.take k).map pM ∧ (∀ y ∈ done, OwM w6.heap.size wr y) ∧ wr.ownsRow w6.heap.size 38 6 r k (done.flatMap meC) ∧ Below w6.heap.size w6 wr) (fun _ i _ => ms.length - (intOf i).toNat)
 case atStart => exact ⟨0, [], rfl, Nat.zero_le _, rfl, rfl, (fun _ h => by cases h), World.ownsRow_nil _ _ _ _, Below.refl _ _⟩
 case round =>
  obtain ⟨k, done, rfl, hkl, hdl, hdp, hdo, hown, hbw⟩ := hrel
  obtain ⟨wa, hwa⟩ : ∃ u, u = wr := ⟨_, rfl⟩
  subst hwa
  have HB := hh hbw; have HDP := hh hdp; have HDO := hh hdo; have HO := hh hown; have HDL := hh hdl
  have g6 := HC6.out _ hbw
  have hsz := hbw.size
  by_cases hlt : k < ms.length
  ·have hltI : (k : Int) < (ms.length : Int) := by omega
   obtain ⟨y, hy⟩ : ∃ y, ms[k]? = some y := ⟨ms[k]'hlt, List.getElem?_eq_getElem _⟩
   have hba := HA6.out.trans (hbw.mono HA6.out.size)
   obtain ⟨a, ea, ha, c0, c1, c2', c3, c4, c5⟩ := me_at (HK3.out _ hba) hy
   subst ea
   have HCY := hh (HCM.out _ hba y (List.mem_of_getElem? hy))
   have HYY := hh hy
   have HDL2 := hh (show done.length ≤ 40 by omega)
   dsimp only [meC] at HCY
   clear hdp hdo hown hbw hdl ha hy hba
   go_wp2_with fail
   refine HCY.out.mono ?_
   rintro e u1 ⟨⟨z, rfl, hzp, hzo⟩, hb1⟩
   have HB1 := hh hb1; have HZP := hh hzp; have HZO := hh hzo
   have HR1 := hh (own_below HO.out hb1)
   have hz1 : w6.heap.size ≤ u1.heap.size := Nat.le_trans hsz hb1.size
   have HZ1 := hh hz1
   obtain ⟨i1, hj0, hy0, hy1, hy2⟩ := info_parts info_meo
   clear hb1 hzp hzo hz1 c0 c1 c2' c3 c4 c5 g6
   dsimp only [meC]
   go_wp2_with (at_builtin; refine wpList_app _ rfl (.tmp 22) (.tmp 29) _ rfl (w6.heap.size) 38 i1 _ 6 72 Tryz.underlying33 hj0 hy0 hy1 hy2 rfl (by omega) _ k (done.flatMap meC) rfl (HR1.out.alloc _) _ (1) _ ([.string ⟨z.nm.toArray⟩, .string ⟨z.ds.toArray⟩, .bool z.st, .bool z.ab, .int .i64 z.rg, .slice z.A z.co.length z.c]) rfl (rfl) (rd_blk (heap_alloc_new _ _) (k := 6) rfl) (by simp [Value.oneCell']) (by simp only [maxLen]; omega) (by omega) (by have h9 := HZ1.out; simp at h9 ⊢; omega) ?_; intro v7 w7 hown7 hg7 hb7 hat7; clear hat7; have o7 := done_own (C := meC) (done := done) (y := z) hown7; have HO7 := hh o7; have HB7 := hh (show Below w6.heap.size w6 w7 from (HB.out.trans ((HB1.out.alloc HB1.out.size (.cells #[.string ⟨z.nm.toArray⟩, .string ⟨z.ds.toArray⟩, .bool z.st, .bool z.ab, .int .i64 z.rg, .slice z.A z.co.length z.c] 38)).mono HB.out.size)).trans hb7); have HD7 := hh (show ∀ q ∈ done ++ [z], OwM w6.heap.size w7 q from fun q hq => by rcases List.mem_append.1 hq with h | h; exact OwM.apart (((HDO.out q h).below HB1.out).below ((Below.refl _ _).alloc (Nat.le_refl _) _)) (by decide) (by decide) (HR1.out.alloc _) hg7; simp at h; subst h; exact OwM.apart ((HZO.out.mono hsz).below ((Below.refl _ _).alloc (Nat.le_refl _) _)) (by decide) (by decide) (HR1.out.alloc _) hg7); clear hown7 hg7 hb7 o7)
   go_roundw
   case rel => exact ⟨k + 1, done ++ [z], by go_num, by omega, by rw [List.length_append, HDL.out]; rfl, done_more HDP.out HYY.out HZP.out, HD7.out, HO7.out, HB7.out⟩
   case measure => simp [intOf]; omega
  ·have hltI : ¬ (k : Int) < (ms.length : Int) := by omega
   have hkn : k = ms.length := by omega
   have ho := HO.out
   have hdk := HDL.out
   subst hdk
   obtain ⟨B, d, rfl, -, -, -⟩ := own_rd ho
   have hp1 : done.map pM = ms.map pM := by rw [HDP.out, hkn, List.take_length]
   have h4 := ho; have h5 := HDO.out
   have p1 := own_below HP5.out hbw; have p2 := own_below HO6.out hbw
   obtain ⟨v1, hv1⟩ : ∃ u, u = wa := ⟨_, rfl⟩
   subst hv1
   have f1 : v.heap.size < V.heap.size := G1.out
   have f2 : v.heap.size + 1 < V.heap.size := G2.out
   have g1 : v.heap.size < w6.heap.size := G16.out
   have g2 : v.heap.size + 1 < w6.heap.size := G26.out
   have hbi1 := (hbw.block _ g1).trans HBI6.out
   have hbj1 := (hbw.block _ g2).trans HBJ6.out
   have p3 := own_base p2 HB5.out.size
   have HB0 := hh (HA6.out.trans (HB.out.mono HA6.out.size))
   have q0_4 : v1.cell? ⟨v.heap.size, 4, none⟩ = some (.slice A1 is.length c1) := cell_of_row _ _ 4 _ _ _ hbi1
   have qf0 := frozen_of_row _ _ 4 _ _ hbi1
   have hst0 : (v1.setCell ⟨v.heap.size, 4, none⟩ (.slice B1 is.length d1)).heap[v.heap.size]? = some (.cells #[.string ⟨nm.toArray⟩, .string ⟨su.toArray⟩, .bool fc, .bool ab, .slice B1 is.length d1, .slice A2 fs.length c2, .slice A ms.length c] 35 (0, 0)) := heap_setCell_same _ v.heap.size 4 _ _ (.slice B1 is.length d1) hbi1
   have hsj0 : (v1.setCell ⟨v.heap.size, 4, none⟩ (.slice B1 is.length d1)).heap[v.heap.size + 1]? = some (.cells #[.string ⟨#[]⟩, .string ⟨#[]⟩, .bool false, .bool false, .slice none 0 0, .slice none 0 0, .slice none 0 0] 35 (0, 0)) := (Below.heap_setCell _ _ _ _ (by simp)).trans hbj1
   have q1_5 : (v1.setCell ⟨v.heap.size, 4, none⟩ (.slice B1 is.length d1)).cell? ⟨v.heap.size, 5, none⟩ = some (.slice A2 fs.length c2) := cell_of_row _ _ 5 _ _ _ hst0
   have qf1 := frozen_of_row _ _ 5 _ _ hst0
   have hst1 : ((v1.setCell ⟨v.heap.size, 4, none⟩ (.slice B1 is.length d1)).setCell ⟨v.heap.size, 5, none⟩ (.slice B2 fs.length d2)).heap[v.heap.size]? = some (.cells #[.string ⟨nm.toArray⟩, .string ⟨su.toArray⟩, .bool fc, .bool ab, .slice B1 is.length d1, .slice B2 fs.length d2, .slice A ms.length c] 35 (0, 0)) := heap_setCell_same _ v.heap.size 5 _ _ (.slice B2 fs.length d2) hst0
   have hsj1 : ((v1.setCell ⟨v.heap.size, 4, none⟩ (.slice B1 is.length d1)).setCell ⟨v.heap.size, 5, none⟩ (.slice B2 fs.length d2)).heap[v.heap.size + 1]? = some (.cells #[.string ⟨#[]⟩, .string ⟨#[]⟩, .bool false, .bool false, .slice none 0 0, .slice none 0 0, .slice none 0 0] 35 (0, 0)) := (Below.heap_setCell _ _ _ _ (by simp)).trans hsj0
   have q2_6 : ((v1.setCell ⟨v.heap.size, 4, none⟩ (.slice B1 is.length d1)).setCell ⟨v.heap.size, 5, none⟩ (.slice B2 fs.length d2)).cell? ⟨v.heap.size, 6, none⟩ = some (.slice A ms.length c) := cell_of_row _ _ 6 _ _ _ hst1
   have qf2 := frozen_of_row _ _ 6 _ _ hst1
   have hst2 : (((v1.setCell ⟨v.heap.size, 4, none⟩ (.slice B1 is.length d1)).setCell ⟨v.heap.size, 5, none⟩ (.slice B2 fs.length d2)).setCell ⟨v.heap.size, 6, none⟩ (.slice B done.length d)).heap[v.heap.size]? = some (.cells #[.string ⟨nm.toArray⟩, .string ⟨su.toArray⟩, .bool fc, .bool ab, .slice B1 is.length d1, .slice B2 fs.length d2, .slice B done.length d] 35 (0, 0)) := heap_setCell_same _ v.heap.size 6 _ _ (.slice B done.length d) hst1
   have hsj2 : (((v1.setCell ⟨v.heap.size, 4, none⟩ (.slice B1 is.length d1)).setCell ⟨v.heap.size, 5, none⟩ (.slice B2 fs.length d2)).setCell ⟨v.heap.size, 6, none⟩ (.slice B done.length d)).heap[v.heap.size + 1]? = some (.cells #[.string ⟨#[]⟩, .string ⟨#[]⟩, .bool false, .bool false, .slice none 0 0, .slice none 0 0, .slice none 0 0] 35 (0, 0)) := (Below.heap_setCell _ _ _ _ (by simp)).trans hsj1
   obtain ⟨e0, e1, e2, e3, e4, e5, e6⟩ := c7q hst2
   have z0 : (((v1.setCell ⟨v.heap.size, 4, none⟩ (.slice B1 is.length d1)).setCell ⟨v.heap.size, 5, none⟩ (.slice B2 fs.length d2)).setCell ⟨v.heap.size, 6, none⟩ (.slice B done.length d)).cell? ⟨v.heap.size + 1, 0, none⟩ = some (.string ⟨#[]⟩) := cell_of_row _ _ 0 _ _ _ hsj2
   have zf0 := frozen_of_row _ _ 0 _ _ hsj2
   have z1 : (((v1.setCell ⟨v.heap.size, 4, none⟩ (.slice B1 is.length d1)).setCell ⟨v.heap.size, 5, none⟩ (.slice B2 fs.length d2)).setCell ⟨v.heap.size, 6, none⟩ (.slice B done.length d)).cell? ⟨v.heap.size + 1, 1, none⟩ = some (.string ⟨#[]⟩) := cell_of_row _ _ 1 _ _ _ hsj2
   have zf1 := frozen_of_row _ _ 1 _ _ hsj2
   have z2 : (((v1.setCell ⟨v.heap.size, 4, none⟩ (.slice B1 is.length d1)).setCell ⟨v.heap.size, 5, none⟩ (.slice B2 fs.length d2)).setCell ⟨v.heap.size, 6, none⟩ (.slice B done.length d)).cell? ⟨v.heap.size + 1, 2, none⟩ = some (.bool false) := cell_of_row _ _ 2 _ _ _ hsj2
   have zf2 := frozen_of_row _ _ 2 _ _ hsj2
   have z3 : (((v1.setCell ⟨v.heap.size, 4, none⟩ (.slice B1 is.length d1)).setCell ⟨v.heap.size, 5, none⟩ (.slice B2 fs.length d2)).setCell ⟨v.heap.size, 6, none⟩ (.slice B done.length d)).cell? ⟨v.heap.size + 1, 3, none⟩ = some (.bool false) := cell_of_row _ _ 3 _ _ _ hsj2
   have zf3 := frozen_of_row _ _ 3 _ _ hsj2
   have z4 : (((v1.setCell ⟨v.heap.size, 4, none⟩ (.slice B1 is.length d1)).setCell ⟨v.heap.size, 5, none⟩ (.slice B2 fs.length d2)).setCell ⟨v.heap.size, 6, none⟩ (.slice B done.length d)).cell? ⟨v.heap.size + 1, 4, none⟩ = some (.slice none 0 0) := cell_of_row _ _ 4 _ _ _ hsj2
   have zf4 := frozen_of_row _ _ 4 _ _ hsj2
   have z5 : (((v1.setCell ⟨v.heap.size, 4, none⟩ (.slice B1 is.length d1)).setCell ⟨v.heap.size, 5, none⟩ (.slice B2 fs.length d2)).setCell ⟨v.heap.size, 6, none⟩ (.slice B done.length d)).cell? ⟨v.heap.size + 1, 5, none⟩ = some (.slice none 0 0) := cell_of_row _ _ 5 _ _ _ hsj2
   have zf5 := frozen_of_row _ _ 5 _ _ hsj2
   have z6 : (((v1.setCell ⟨v.heap.size, 4, none⟩ (.slice B1 is.length d1)).setCell ⟨v.heap.size, 5, none⟩ (.slice B2 fs.length d2)).setCell ⟨v.heap.size, 6, none⟩ (.slice B done.length d)).cell? ⟨v.heap.size + 1, 6, none⟩ = some (.slice none 0 0) := cell_of_row _ _ 6 _ _ _ hsj2
   have zf6 := frozen_of_row _ _ 6 _ _ hsj2
   have s0 := heap_setCell_same _ (v.heap.size + 1) 0 _ _ (.string ⟨nm.toArray⟩) hsj2
   have s1 := heap_setCell_same _ (v.heap.size + 1) 1 _ _ (.string ⟨su.toArray⟩) s0
   have s2 := heap_setCell_same _ (v.heap.size + 1) 2 _ _ (.bool fc) s1
   have s3 := heap_setCell_same _ (v.heap.size + 1) 3 _ _ (.bool ab) s2
   have s4 := heap_setCell_same _ (v.heap.size + 1) 4 _ _ (.slice B1 is.length d1) s3
   have s5 := heap_setCell_same _ (v.heap.size + 1) 5 _ _ (.slice B2 fs.length d2) s4
   have s6 := heap_setCell_same _ (v.heap.size + 1) 6 _ _ (.slice B done.length d) s5
   obtain ⟨WF, hWF⟩ : ∃ WF, WF = ((((((((((v1.setCell ⟨v.heap.size, 4, none⟩ (.slice B1 is.length d1)).setCell ⟨v.heap.size, 5, none⟩ (.slice B2 fs.length d2)).setCell ⟨v.heap.size, 6, none⟩ (.slice B done.length d)).setCell ⟨v.heap.size + 1, 0, none⟩ (.string ⟨nm.toArray⟩)).setCell ⟨v.heap.size + 1, 1, none⟩ (.string ⟨su.toArray⟩)).setCell ⟨v.heap.size + 1, 2, none⟩ (.bool fc)).setCell ⟨v.heap.size + 1, 3, none⟩ (.bool ab)).setCell ⟨v.heap.size + 1, 4, none⟩ (.slice B1 is.length d1)).setCell ⟨v.heap.size + 1, 5, none⟩ (.slice B2 fs.length d2)).setCell ⟨v.heap.size + 1, 6, none⟩ (.slice B done.length d)) := ⟨_, rfl⟩
   rw [← hWF] at s6
   have sF : WF.heap[v.heap.size + 1]? = some (.cells #[.string ⟨nm.toArray⟩, .string ⟨su.toArray⟩, .bool fc, .bool ab, .slice B1 is.length d1, .slice B2 fs.length d2, .slice B done.length d] 35 (0, 0)) := by rw [s6]; simp
   obtain ⟨r0, r1, r2, r3, r4, r5, r6⟩ := c7q sF
   have HBF := hh (show Below v.heap.size v WF from by rw [hWF]; exact ((((((((((HB0.out.setCell (p := ⟨v.heap.size, 4, none⟩) (Nat.le_refl _) (.slice B1 is.length d1)).setCell (p := ⟨v.heap.size, 5, none⟩) (Nat.le_refl _) (.slice B2 fs.length d2)).setCell (p := ⟨v.heap.size, 6, none⟩) (Nat.le_refl _) (.slice B done.length d)).setCell (p := ⟨v.heap.size + 1, 0, none⟩) (by simp) (.string ⟨nm.toArray⟩)).setCell (p := ⟨v.heap.size + 1, 1, none⟩) (by simp) (.string ⟨su.toArray⟩)).setCell (p := ⟨v.heap.size + 1, 2, none⟩) (by simp) (.bool fc)).setCell (p := ⟨v.heap.size + 1, 3, none⟩) (by simp) (.bool ab)).setCell (p := ⟨v.heap.size + 1, 4, none⟩) (by simp) (.slice B1 is.length d1)).setCell (p := ⟨v.heap.size + 1, 5, none⟩) (by simp) (.slice B2 fs.length d2)).setCell (p := ⟨v.heap.size + 1, 6, none⟩) (by simp) (.slice B done.length d)))
   have HWF := hh hWF
   have R0 := hh r0
   have R1 := hh r1
   have R2 := hh r2
   have R3 := hh r3
   have R4 := hh r4
   have R5 := hh r5
   have R6 := hh r6
   have gA : v1.grownBy (((v1.setCell ⟨v.heap.size, 4, none⟩ (.slice B1 is.length d1)).setCell ⟨v.heap.size, 5, none⟩ (.slice B2 fs.length d2)).setCell ⟨v.heap.size, 6, none⟩ (.slice B done.length d)) (some v.heap.size) := (gb_trans (gb_trans (gb_set _ v.heap.size 4 (.slice B1 is.length d1)) (gb_set _ v.heap.size 5 (.slice B2 fs.length d2))) (gb_set _ v.heap.size 6 (.slice B done.length d)))
   have gB : (((v1.setCell ⟨v.heap.size, 4, none⟩ (.slice B1 is.length d1)).setCell ⟨v.heap.size, 5, none⟩ (.slice B2 fs.length d2)).setCell ⟨v.heap.size, 6, none⟩ (.slice B done.length d)).grownBy WF (some (v.heap.size + 1)) := by rw [hWF]; exact (gb_trans (gb_trans (gb_trans (gb_trans (gb_trans (gb_trans (gb_set _ (v.heap.size + 1) 0 (.string ⟨nm.toArray⟩)) (gb_set _ (v.heap.size + 1) 1 (.string ⟨su.toArray⟩))) (gb_set _ (v.heap.size + 1) 2 (.bool fc))) (gb_set _ (v.heap.size + 1) 3 (.bool ab))) (gb_set _ (v.heap.size + 1) 4 (.slice B1 is.length d1))) (gb_set _ (v.heap.size + 1) 5 (.slice B2 fs.length d2))) (gb_set _ (v.heap.size + 1) 6 (.slice B done.length d)))
   have HRS := hh (HPO.out B1 d1 B2 d2 B d done WF (own_base (own_gb (own_gb p1 f1 gA) f2 gB) (Nat.le_of_lt f1)) (own_base (own_gb (own_gb p3 f1 gA) f2 gB) (Nat.le_of_lt f1)) hp1 (own_base (own_gb (own_gb h4 g1 gA) g2 gB) (Nat.le_of_lt g1)) (fun y hy => (((h5 y hy).gb g1 gA).gb g2 gB).mono (Nat.le_of_lt g1)) HBF.out)
   clear hkn ho hp1 h4 h5 p1 p2 p3 hbi1 hbj1 hbw hown hdo hdp g1 g2 f1 f2 hst0 hsj0 hst1 hsj1 hst2 hsj2
   clear hWF gA gB sF  s0 r0 s1 r1 s2 r2 s3 r3 s4 r4 s5 r5 s6 r6
   go_wp2
   rw [← HWF.out]
   refine bodyPost_ret (v := .agg #[.string ⟨nm.toArray⟩, .string ⟨su.toArray⟩, .bool fc, .bool ab, .slice B1 is.length d1, .slice B2 fs.length d2, .slice B done.length d]) ?_ rfl HRS.out
   simp [results, Tryz.results69, go_sem, R0.out, R1.out, R2.out, R3.out, R4.out, R5.out, R6.out]
end Go.Proofs.YtgociheckcpjkaaGreatDoor.prg
namespace Go.Proofs.YtgociheckcpjkaaGreatDoor.prg
open Go.RowKit
open words kindp opp op kind word
set_option maxRecDepth 100000
set_option maxHeartbeats 8000000
set_option linter.all false
theorem rclone (x : PrM) (v : World) (hk : PrOk v x) (hg : GrP x) : Calls Tryz.prog 29 #[.agg (prC x).toArray] v (CloPo x v) := by
  have HPO := hh (fun (B1 : Option Addr) (d1 : Nat) (B : Option Addr) (d : Nat) (l' : List ClM) (w' : World) (k1 : w'.ownsRow v.heap.size 9 1 (.slice B1 x.ns.length d1) x.ns.length (SX x.ns)) (h1 : l'.map pC = x.cs.map pC) (h4 : w'.ownsRow v.heap.size 35 7 (.slice B l'.length d) l'.length (l'.flatMap clC)) (h5 : ∀ y ∈ l', OwC v.heap.size w' y) (k : Below v.heap.size v w') =>
    show CloPo x v (.returned (.agg (prC ⟨l', B, d, x.ns, B1, d1, x.ec, x.en, x.ed⟩).toArray)) w' from ⟨⟨_, rfl, pr_eq h1 rfl rfl rfl rfl, h4, k1, h5⟩, k⟩)
  have HK1 := hh (fun w (h : Below v.heap.size v w) => hk.1.2.below h)
  have HK2 := hh (fun w (h : Below v.heap.size v w) => hk.2.1.2.below h)
  have HCM := hh (fun w (h : Below v.heap.size v w) y (hy : y ∈ x.cs) => rcloC y w ((hk.2.2 y hy).below h) (hg.2 y hy))
  have hl1 := hg.1.1; have hl2 := hg.1.2
  clear hk hg
  obtain ⟨cs, A, c, ns, A2, c2, ec, en, ed⟩ := x
  unfold prC at HPO ⊢
  dsimp only at HPO HK1 HK2 HCM hl1 hl2 ⊢
  obtain ⟨V, hV⟩ : ∃ V, V = (v.alloc (.cells #[.slice A cs.length c, .slice A2 ns.length c2, .string ⟨ec.toArray⟩, .string ⟨en.toArray⟩, .string ⟨ed.toArray⟩] 27)).alloc (.cells #[.slice none 0 0, .slice none 0 0, .string ⟨#[]⟩, .string ⟨#[]⟩, .string ⟨#[]⟩] 27) := ⟨_, rfl⟩
  have hal : Below v.heap.size v V := by rw [hV]; exact ((Below.refl _ v).alloc (Nat.le_refl _) _).alloc (by simp) _
  have hbi : V.heap[v.heap.size]? = some (.cells #[.slice A cs.length c, .slice A2 ns.length c2, .string ⟨ec.toArray⟩, .string ⟨en.toArray⟩, .string ⟨ed.toArray⟩] 27 (0, 0)) := by rw [hV]; exact (Below.heap_alloc _ _ _ (by simp)).trans (heap_alloc_new v _)
  have hbj : V.heap[v.heap.size + 1]? = some (.cells #[.slice none 0 0, .slice none 0 0, .string ⟨#[]⟩, .string ⟨#[]⟩, .string ⟨#[]⟩] 27 (0, 0)) := by
    rw [hV]
    have := heap_alloc_new (v.alloc (.cells #[.slice A cs.length c, .slice A2 ns.length c2, .string ⟨ec.toArray⟩, .string ⟨en.toArray⟩, .string ⟨ed.toArray⟩] 27)) (.cells #[.slice none 0 0, .slice none 0 0, .string ⟨#[]⟩, .string ⟨#[]⟩, .string ⟨#[]⟩] 27)
    rwa [World.size_alloc] at this
  have HV := hh hV; have HAL := hh hal
  have d2 : V.cell? ⟨v.heap.size, 2, none⟩ = some (.string ⟨ec.toArray⟩) := cell_of_row _ _ 2 _ _ _ hbi
  have d3 : V.cell? ⟨v.heap.size, 3, none⟩ = some (.string ⟨en.toArray⟩) := cell_of_row _ _ 3 _ _ _ hbi
  have d4 : V.cell? ⟨v.heap.size, 4, none⟩ = some (.string ⟨ed.toArray⟩) := cell_of_row _ _ 4 _ _ _ hbi
  obtain ⟨U, hU⟩ : ∃ U, U = V.alloc (.cells #[.slice none 0 0, .slice none 0 0, .string ⟨ec.toArray⟩, .string ⟨en.toArray⟩, .string ⟨ed.toArray⟩] 27) := ⟨_, rfl⟩
  have hsv : V.heap.size = v.heap.size + 2 := by rw [hV]; simp
  have hlu : Below v.heap.size v U := by rw [hU]; exact hal.alloc hal.size _
  have hui : U.heap[v.heap.size]? = some (.cells #[.slice A cs.length c, .slice A2 ns.length c2, .string ⟨ec.toArray⟩, .string ⟨en.toArray⟩, .string ⟨ed.toArray⟩] 27 (0, 0)) := by rw [hU]; exact (Below.heap_alloc _ _ _ (blk_lt hbi)).trans hbi
  have huj : U.heap[v.heap.size + 1]? = some (.cells #[.slice none 0 0, .slice none 0 0, .string ⟨#[]⟩, .string ⟨#[]⟩, .string ⟨#[]⟩] 27 (0, 0)) := by rw [hU]; exact (Below.heap_alloc _ _ _ (blk_lt hbj)).trans hbj
  have huo : U.heap[v.heap.size + 2]? = some (.cells #[.slice none 0 0, .slice none 0 0, .string ⟨ec.toArray⟩, .string ⟨en.toArray⟩, .string ⟨ed.toArray⟩] 27 (0, 0)) := by
    have h9 := heap_alloc_new V (.cells #[.slice none 0 0, .slice none 0 0, .string ⟨ec.toArray⟩, .string ⟨en.toArray⟩, .string ⟨ed.toArray⟩] 27)
    rw [hsv] at h9
    rw [hU]; exact h9
  have hsu : U.heap.size = v.heap.size + 3 := by rw [hU]; simp [hsv]
  have HUI := hh hui; have HUJ := hh huj; have HUO := hh huo; have HLU := hh hlu; have HU := hh hU; have HSU := hh hsu; have HSV := hh hsv
  have HC0 := hh (show ∀ u : World, Below (v.heap.size + 2) U u → u.cell? ⟨v.heap.size, 0, none⟩ = some (.slice A cs.length c) from fun u hu => cell_of_row _ _ 0 _ _ _ ((hu.block _ (by omega)).trans HUI.out))
  clear hV hal hbi hbj hU hlu hui huj huo hsu
  go_enter Tryz.func29, Tryz.ntmps29
  go_wp2_with fail
  try simp only [World.size_alloc]
  rw [← HV.out]
  (try go_wp2_with fail)
  clear d2 d3 d4
  try simp only [hsv]
  rw [← HU.out]
  have g0 := HC0.out U (Below.refl _ _)
  (try go_wp2_with fail)
  clear g0 hsv
  go_loopw [4] (fun i wr => ∃ (k : Nat) (done : List ClM) (r : Value), i = .int .i64 (k : Int) ∧ k ≤ cs.length ∧ done.length = k ∧ done.map pC = (cs.take k).map pC ∧ (∀ y ∈ done, OwC U.heap.size wr y) ∧ wr.ownsRow U.heap.size 35 7 r k (done.flatMap clC) ∧ wr.heap[v.heap.size + 2]? = some (.cells #[r, .slice none 0 0, .string ⟨ec.toArray⟩, .string ⟨en.toArray⟩, .string ⟨ed.toArray⟩] 27 (0, 0)) ∧ Below (v.heap.size + 2) U wr) (fun i _ => cs.length - (intOf i).toNat)
  case atStart => exact ⟨0, [], _, rfl, Nat.zero_le _, rfl, rfl, (fun _ h => by cases h), World.ownsRow_nil _ _ _ _, HUO.out, Below.refl _ _⟩
  case round =>
    obtain ⟨k, done, r, rfl, hkl, hdl, hdp, hdo, hown, hbo, hbw⟩ := hrel
    obtain ⟨wa, hwa⟩ : ∃ u, u = wr := ⟨_, rfl⟩
    subst hwa
    obtain ⟨B, d, rfl, -, -, -⟩ := own_rd hown
    have HB := hh hbw; have HDP := hh hdp; have HDO := hh hdo; have HO := hh hown; have HDL := hh hdl; have HBO := hh hbo
    have g0 := HC0.out _ hbw
    have hsz := hbw.size
    by_cases hlt : k < cs.length
    · have hltI : (k : Int) < (cs.length : Int) := by omega
      obtain ⟨y, hy⟩ : ∃ y, cs[k]? = some y := ⟨cs[k]'hlt, List.getElem?_eq_getElem _⟩
      have hba : Below v.heap.size v wa := HLU.out.trans (hbw.mono (by omega))
      obtain ⟨a, ea, ha, c0, c1, c2', c3, c4, c5, c6⟩ := cl_at (HK1.out _ hba) hy
      subst ea
      have HF := hh (show ∀ u : World, Below (v.heap.size + 2) U u → u.cell? ⟨v.heap.size, 0, none⟩ = some (.slice (some a) cs.length c) ∧ u.cell? (a.add (k * 7)) = some (.string ⟨y.nm.toArray⟩) ∧ u.cell? ⟨(a.add (k * 7)).block, (a.add (k * 7)).off + 1, none⟩ = some (.string ⟨y.su.toArray⟩) ∧ u.cell? ⟨(a.add (k * 7)).block, (a.add (k * 7)).off + 2, none⟩ = some (.bool y.fc) ∧ u.cell? ⟨(a.add (k * 7)).block, (a.add (k * 7)).off + 3, none⟩ = some (.bool y.ab) ∧ u.cell? ⟨(a.add (k * 7)).block, (a.add (k * 7)).off + 4, none⟩ = some (.slice y.A1 y.is.length y.c1) ∧ u.cell? ⟨(a.add (k * 7)).block, (a.add (k * 7)).off + 5, none⟩ = some (.slice y.A2 y.fs.length y.c2) ∧ u.cell? ⟨(a.add (k * 7)).block, (a.add (k * 7)).off + 6, none⟩ = some (.slice y.A3 y.ms.length y.c3) from fun u hu => by
        obtain ⟨_, e, _, t0, t1, t2, t3, t4, t5, t6⟩ := cl_at (HK1.out _ (HLU.out.trans (hu.mono (by omega)))) hy
        cases e
        exact ⟨HC0.out _ hu, t0, t1, t2, t3, t4, t5, t6⟩)
      have HCY := hh (fun u (hu : Below wa.heap.size wa u) => HCM.out u (hba.trans (hu.mono hba.size)) y (List.mem_of_getElem? hy))
      have HYY := hh hy
      have HDL2 := hh (show done.length ≤ 70 by omega)
      have hgs : U.heap.size ≤ wa.heap.size := hsz
      have HGS := hh hgs
      have bq := blk_lt hbo
      have HBQ := hh bq
      have o0 : wa.cell? ⟨v.heap.size + 2, 0, none⟩ = some (.slice B k d) := cell_of_row _ _ 0 _ _ _ hbo
      obtain ⟨i1, hj0, hy0, hy1, hy2⟩ := info_parts info_clo
      dsimp only [clC] at HCY
      clear hdp hdo hown hbw hdl ha hy hba hbo hgs bq
      go_wp2_with fail
      refine wp_region_held_drew (S := (fun w' => w'.cell? ⟨v.heap.size, 0, none⟩ = some (.slice (some a) cs.length c) ∧ w'.cell? (a.add (k * 7)) = some (.string ⟨y.nm.toArray⟩) ∧ w'.cell? ⟨(a.add (k * 7)).block, (a.add (k * 7)).off + 1, none⟩ = some (.string ⟨y.su.toArray⟩) ∧ w'.cell? ⟨(a.add (k * 7)).block, (a.add (k * 7)).off + 2, none⟩ = some (.bool y.fc) ∧ w'.cell? ⟨(a.add (k * 7)).block, (a.add (k * 7)).off + 3, none⟩ = some (.bool y.ab) ∧ w'.cell? ⟨(a.add (k * 7)).block, (a.add (k * 7)).off + 4, none⟩ = some (.slice y.A1 y.is.length y.c1) ∧ w'.cell? ⟨(a.add (k * 7)).block, (a.add (k * 7)).off + 5, none⟩ = some (.slice y.A2 y.fs.length y.c2) ∧ w'.cell? ⟨(a.add (k * 7)).block, (a.add (k * 7)).off + 6, none⟩ = some (.slice y.A3 y.ms.length y.c3))) (by kernel_rfl) ?_ (fun hHeld => ?_)
      · exact HF.out wa HB.out
      refine tkp 0 rfl ?_
      refine tkp 2 rfl ?_
      refine tkp 3 rfl ?_
      refine tkp 4 rfl ?_
      refine tkp 5 rfl ?_
      refine tkp 6 rfl ?_
      refine wpAnyH_ready (rs := [1, 7]) (by kernel_rfl) (by simp) (AllReadyH.cons rfl (fun K hK => ?_) (AllReadyH.cons rfl (fun K hK => ?_) (AllReadyH.nil)))
      · skip
        go_simp
        skip
        refine hK.out _ _ (HF.out wa HB.out) (fun hHeld => ?_)
        clear hK K
        try simp only [puts]
        refine rdy 7 rfl (fun K hK => ?_)
        go_simp
        refine (HCY.out _ (by first | exact Below.refl _ _ | exact overD (Below.refl _ _))).mono ?_; rintro e u1 ⟨⟨z, rfl, hzp, hzo⟩, hb⟩; have hb1 : Below wa.heap.size wa u1 := (by first | exact hb | exact under hb | exact ⟨hb.os, hb.tape, hb.output, hb.size, hb.block⟩); have HB1 := hh hb1; have HZP := hh hzp; have HZO := hh (show OwC wa.heap.size u1 z from hzo); have HR1 := hh (own_below HO.out hb1); have HQ1 := hh ((hb1.block _ HBQ.out).trans HBO.out); have o1 : u1.cell? ⟨v.heap.size + 2, 0, none⟩ = some (.slice B k d) := cell_of_row _ _ 0 _ _ _ HQ1.out; have BU1 := hh (HB.out.trans (hb1.mono (Nat.le_trans (by have := HSU.out; omega) HGS.out))); clear hb hb1 hzp hzo o0; dsimp only [clC]
        refine hK.out _ _ (HF.out _ BU1.out) (fun hHeld => ?_)
        clear hK K
        try simp only [puts]
        refine rdy 8 rfl (fun K hK => ?_)
        go_simp
        have HN8 := hh (heap_alloc_new u1 (.cells #[.string ⟨z.nm.toArray⟩, .string ⟨z.su.toArray⟩, .bool z.fc, .bool z.ab, .slice z.A1 z.is.length z.c1, .slice z.A2 z.fs.length z.c2, .slice z.A3 z.ms.length z.c3] 35)); have BU8 := hh (BU1.out.alloc (by have := HB1.out.size; have := HSU.out; have := HGS.out; omega) (.cells #[.string ⟨z.nm.toArray⟩, .string ⟨z.su.toArray⟩, .bool z.fc, .bool z.ab, .slice z.A1 z.is.length z.c1, .slice z.A2 z.fs.length z.c2, .slice z.A3 z.ms.length z.c3] 35)); have HQ8 := hh ((Below.heap_alloc u1 (.cells #[.string ⟨z.nm.toArray⟩, .string ⟨z.su.toArray⟩, .bool z.fc, .bool z.ab, .slice z.A1 z.is.length z.c1, .slice z.A2 z.fs.length z.c2, .slice z.A3 z.ms.length z.c3] 35) (v.heap.size + 2) (blk_lt HQ1.out)).trans HQ1.out); have o8 : (u1.alloc (.cells #[.string ⟨z.nm.toArray⟩, .string ⟨z.su.toArray⟩, .bool z.fc, .bool z.ab, .slice z.A1 z.is.length z.c1, .slice z.A2 z.fs.length z.c2, .slice z.A3 z.ms.length z.c3] 35)).cell? ⟨v.heap.size + 2, 0, none⟩ = some (.slice B k d) := cell_of_row _ _ 0 _ _ _ HQ8.out
        refine hK.out _ _ (HF.out _ BU8.out) (fun hHeld => ?_)
        clear hK K
        try simp only [puts]
        refine rdy 9 rfl (fun K hK => ?_)
        refine step_app _ (by rfl) (.tmp 16) (.tmp 23) _ (by rfl) U.heap.size 35 i1 _ 7 112 Tryz.underlying22 hj0 hy0 hy1 hy2 rfl (by omega) _ k (done.flatMap clC) (by rfl) (by exact HR1.out.alloc _) _ 1 1 (clC z) (by rfl) (by rfl) (rd_blk HN8.out (k := 7) rfl) (by simp [clC, Value.oneCell']) (by simp only [maxLen]; omega) (by omega) (by have h9 := HB1.out.size; have h8 := HGS.out; simp; omega) ?_
        intro v5 w5 hown5 hg5 hb5 hat5
        clear hat5
        have hq5 := row_apart HQ8.out (by decide) (HR1.out.alloc _) hg5
        have hd5 : ∀ q ∈ done ++ [z], OwC U.heap.size w5 q := fun q hq => by
          rcases List.mem_append.1 hq with h | h
          · exact OwC.apart (((HDO.out q h).below HB1.out).below ((Below.refl _ _).alloc (Nat.le_refl _) _)) (by decide) (by decide) (by decide) (by decide) (by decide) (HR1.out.alloc _) hg5
          · simp at h; subst h; exact OwC.apart ((HZO.out.mono HGS.out).below ((Below.refl _ _).alloc (Nat.le_refl _) _)) (by decide) (by decide) (by decide) (by decide) (by decide) (HR1.out.alloc _) hg5
        have ho5 := done_own (C := clC) (done := done) (y := z) hown5
        obtain ⟨B5, d5, e5, -, -, -⟩ := own_rd ho5
        subst e5
        have b5 : Below (v.heap.size + 2) U w5 := BU8.out.trans (hb5.mono (by have := HSU.out; omega))
        have p0 : w5.cell? ⟨v.heap.size + 2, 0, none⟩ = some (.slice B k d) := cell_of_row _ _ 0 _ _ _ hq5
        have pf0 := frozen_of_row _ _ 0 _ _ hq5
        have HO6 := hh (own_gb ho5 (by have := HSU.out; omega) (gb_set w5 (v.heap.size + 2) 0 (.slice B5 (k + 1) d5)))
        have HD6 := hh (fun q hq => (hd5 q hq).gb (by have := HSU.out; omega) (gb_set w5 (v.heap.size + 2) 0 (.slice B5 (k + 1) d5)))
        have HQ6 := hh (show (w5.setCell ⟨v.heap.size + 2, 0, none⟩ (.slice B5 (k + 1) d5)).heap[v.heap.size + 2]? = some (.cells #[.slice B5 (k + 1) d5, .slice none 0 0, .string ⟨ec.toArray⟩, .string ⟨en.toArray⟩, .string ⟨ed.toArray⟩] 27 (0, 0)) from heap_setCell_same w5 (v.heap.size + 2) 0 _ _ (.slice B5 (k + 1) d5) hq5)
        have HB6 := hh (b5.setCell (p := ⟨v.heap.size + 2, 0, none⟩) (Nat.le_refl _) (.slice B5 (k + 1) d5))
        have BU5 := hh b5
        clear hown5 hg5 hb5 hq5 hd5 ho5 b5
        refine hK.out _ _ (HF.out _ BU5.out) (fun hHeld => ?_)
        clear hK K
        try simp only [puts]
        refine tkp 10 rfl ?_
        refine rdy 11 rfl (fun K hK => ?_)
        go_simp
        skip
        refine hK.out _ _ (HF.out _ HB6.out) (fun hHeld => ?_)
        clear hK K
        try simp only [puts]
        refine wpAnyH_done (by kernel_rfl) ?_ _
        go_wp2
        go_roundw
        case rel => exact ⟨k + 1, done ++ [z], _, by go_num, by omega, by rw [List.length_append, HDL.out]; rfl, done_more HDP.out HYY.out HZP.out, HD6.out, HO6.out, HQ6.out, HB6.out⟩
        case measure => simp [intOf]; omega
      · skip
        go_simp
        refine (HCY.out _ (by first | exact Below.refl _ _ | exact overD (Below.refl _ _))).mono ?_; rintro e u1 ⟨⟨z, rfl, hzp, hzo⟩, hb⟩; have hb1 : Below wa.heap.size wa u1 := (by first | exact hb | exact under hb | exact ⟨hb.os, hb.tape, hb.output, hb.size, hb.block⟩); have HB1 := hh hb1; have HZP := hh hzp; have HZO := hh (show OwC wa.heap.size u1 z from hzo); have HR1 := hh (own_below HO.out hb1); have HQ1 := hh ((hb1.block _ HBQ.out).trans HBO.out); have o1 : u1.cell? ⟨v.heap.size + 2, 0, none⟩ = some (.slice B k d) := cell_of_row _ _ 0 _ _ _ HQ1.out; have BU1 := hh (HB.out.trans (hb1.mono (Nat.le_trans (by have := HSU.out; omega) HGS.out))); clear hb hb1 hzp hzo o0; dsimp only [clC]
        refine hK.out _ _ (HF.out _ BU1.out) (fun hHeld => ?_)
        clear hK K
        try simp only [puts]
        refine wpAnyH_ready (rs := [1, 8]) (by kernel_rfl) (by simp) (AllReadyH.cons rfl (fun K hK => ?_) (AllReadyH.cons rfl (fun K hK => ?_) (AllReadyH.nil)))
        · skip
          go_simp
          skip
          refine hK.out _ _ (HF.out _ BU1.out) (fun hHeld => ?_)
          clear hK K
          try simp only [puts]
          refine rdy 8 rfl (fun K hK => ?_)
          go_simp
          have HN8 := hh (heap_alloc_new u1 (.cells #[.string ⟨z.nm.toArray⟩, .string ⟨z.su.toArray⟩, .bool z.fc, .bool z.ab, .slice z.A1 z.is.length z.c1, .slice z.A2 z.fs.length z.c2, .slice z.A3 z.ms.length z.c3] 35)); have BU8 := hh (BU1.out.alloc (by have := HB1.out.size; have := HSU.out; have := HGS.out; omega) (.cells #[.string ⟨z.nm.toArray⟩, .string ⟨z.su.toArray⟩, .bool z.fc, .bool z.ab, .slice z.A1 z.is.length z.c1, .slice z.A2 z.fs.length z.c2, .slice z.A3 z.ms.length z.c3] 35)); have HQ8 := hh ((Below.heap_alloc u1 (.cells #[.string ⟨z.nm.toArray⟩, .string ⟨z.su.toArray⟩, .bool z.fc, .bool z.ab, .slice z.A1 z.is.length z.c1, .slice z.A2 z.fs.length z.c2, .slice z.A3 z.ms.length z.c3] 35) (v.heap.size + 2) (blk_lt HQ1.out)).trans HQ1.out); have o8 : (u1.alloc (.cells #[.string ⟨z.nm.toArray⟩, .string ⟨z.su.toArray⟩, .bool z.fc, .bool z.ab, .slice z.A1 z.is.length z.c1, .slice z.A2 z.fs.length z.c2, .slice z.A3 z.ms.length z.c3] 35)).cell? ⟨v.heap.size + 2, 0, none⟩ = some (.slice B k d) := cell_of_row _ _ 0 _ _ _ HQ8.out
          refine hK.out _ _ (HF.out _ BU8.out) (fun hHeld => ?_)
          clear hK K
          try simp only [puts]
          refine rdy 9 rfl (fun K hK => ?_)
          refine step_app _ (by rfl) (.tmp 16) (.tmp 23) _ (by rfl) U.heap.size 35 i1 _ 7 112 Tryz.underlying22 hj0 hy0 hy1 hy2 rfl (by omega) _ k (done.flatMap clC) (by rfl) (by exact HR1.out.alloc _) _ 1 1 (clC z) (by rfl) (by rfl) (rd_blk HN8.out (k := 7) rfl) (by simp [clC, Value.oneCell']) (by simp only [maxLen]; omega) (by omega) (by have h9 := HB1.out.size; have h8 := HGS.out; simp; omega) ?_
          intro v5 w5 hown5 hg5 hb5 hat5
          clear hat5
          have hq5 := row_apart HQ8.out (by decide) (HR1.out.alloc _) hg5
          have hd5 : ∀ q ∈ done ++ [z], OwC U.heap.size w5 q := fun q hq => by
            rcases List.mem_append.1 hq with h | h
            · exact OwC.apart (((HDO.out q h).below HB1.out).below ((Below.refl _ _).alloc (Nat.le_refl _) _)) (by decide) (by decide) (by decide) (by decide) (by decide) (HR1.out.alloc _) hg5
            · simp at h; subst h; exact OwC.apart ((HZO.out.mono HGS.out).below ((Below.refl _ _).alloc (Nat.le_refl _) _)) (by decide) (by decide) (by decide) (by decide) (by decide) (HR1.out.alloc _) hg5
          have ho5 := done_own (C := clC) (done := done) (y := z) hown5
          obtain ⟨B5, d5, e5, -, -, -⟩ := own_rd ho5
          subst e5
          have b5 : Below (v.heap.size + 2) U w5 := BU8.out.trans (hb5.mono (by have := HSU.out; omega))
          have p0 : w5.cell? ⟨v.heap.size + 2, 0, none⟩ = some (.slice B k d) := cell_of_row _ _ 0 _ _ _ hq5
          have pf0 := frozen_of_row _ _ 0 _ _ hq5
          have HO6 := hh (own_gb ho5 (by have := HSU.out; omega) (gb_set w5 (v.heap.size + 2) 0 (.slice B5 (k + 1) d5)))
          have HD6 := hh (fun q hq => (hd5 q hq).gb (by have := HSU.out; omega) (gb_set w5 (v.heap.size + 2) 0 (.slice B5 (k + 1) d5)))
          have HQ6 := hh (show (w5.setCell ⟨v.heap.size + 2, 0, none⟩ (.slice B5 (k + 1) d5)).heap[v.heap.size + 2]? = some (.cells #[.slice B5 (k + 1) d5, .slice none 0 0, .string ⟨ec.toArray⟩, .string ⟨en.toArray⟩, .string ⟨ed.toArray⟩] 27 (0, 0)) from heap_setCell_same w5 (v.heap.size + 2) 0 _ _ (.slice B5 (k + 1) d5) hq5)
          have HB6 := hh (b5.setCell (p := ⟨v.heap.size + 2, 0, none⟩) (Nat.le_refl _) (.slice B5 (k + 1) d5))
          have BU5 := hh b5
          clear hown5 hg5 hb5 hq5 hd5 ho5 b5
          refine hK.out _ _ (HF.out _ BU5.out) (fun hHeld => ?_)
          clear hK K
          try simp only [puts]
          refine tkp 10 rfl ?_
          refine rdy 11 rfl (fun K hK => ?_)
          go_simp
          skip
          refine hK.out _ _ (HF.out _ HB6.out) (fun hHeld => ?_)
          clear hK K
          try simp only [puts]
          refine wpAnyH_done (by kernel_rfl) ?_ _
          go_wp2
          go_roundw
          case rel => exact ⟨k + 1, done ++ [z], _, by go_num, by omega, by rw [List.length_append, HDL.out]; rfl, done_more HDP.out HYY.out HZP.out, HD6.out, HO6.out, HQ6.out, HB6.out⟩
          case measure => simp [intOf]; omega
        · skip
          go_simp
          have HN8 := hh (heap_alloc_new u1 (.cells #[.string ⟨z.nm.toArray⟩, .string ⟨z.su.toArray⟩, .bool z.fc, .bool z.ab, .slice z.A1 z.is.length z.c1, .slice z.A2 z.fs.length z.c2, .slice z.A3 z.ms.length z.c3] 35)); have BU8 := hh (BU1.out.alloc (by have := HB1.out.size; have := HSU.out; have := HGS.out; omega) (.cells #[.string ⟨z.nm.toArray⟩, .string ⟨z.su.toArray⟩, .bool z.fc, .bool z.ab, .slice z.A1 z.is.length z.c1, .slice z.A2 z.fs.length z.c2, .slice z.A3 z.ms.length z.c3] 35)); have HQ8 := hh ((Below.heap_alloc u1 (.cells #[.string ⟨z.nm.toArray⟩, .string ⟨z.su.toArray⟩, .bool z.fc, .bool z.ab, .slice z.A1 z.is.length z.c1, .slice z.A2 z.fs.length z.c2, .slice z.A3 z.ms.length z.c3] 35) (v.heap.size + 2) (blk_lt HQ1.out)).trans HQ1.out); have o8 : (u1.alloc (.cells #[.string ⟨z.nm.toArray⟩, .string ⟨z.su.toArray⟩, .bool z.fc, .bool z.ab, .slice z.A1 z.is.length z.c1, .slice z.A2 z.fs.length z.c2, .slice z.A3 z.ms.length z.c3] 35)).cell? ⟨v.heap.size + 2, 0, none⟩ = some (.slice B k d) := cell_of_row _ _ 0 _ _ _ HQ8.out
          refine hK.out _ _ (HF.out _ BU8.out) (fun hHeld => ?_)
          clear hK K
          try simp only [puts]
          refine rdy 1 rfl (fun K hK => ?_)
          go_simp
          skip
          refine hK.out _ _ (HF.out _ BU8.out) (fun hHeld => ?_)
          clear hK K
          try simp only [puts]
          refine rdy 9 rfl (fun K hK => ?_)
          refine step_app _ (by rfl) (.tmp 16) (.tmp 23) _ (by rfl) U.heap.size 35 i1 _ 7 112 Tryz.underlying22 hj0 hy0 hy1 hy2 rfl (by omega) _ k (done.flatMap clC) (by rfl) (by exact HR1.out.alloc _) _ 1 1 (clC z) (by rfl) (by rfl) (rd_blk HN8.out (k := 7) rfl) (by simp [clC, Value.oneCell']) (by simp only [maxLen]; omega) (by omega) (by have h9 := HB1.out.size; have h8 := HGS.out; simp; omega) ?_
          intro v5 w5 hown5 hg5 hb5 hat5
          clear hat5
          have hq5 := row_apart HQ8.out (by decide) (HR1.out.alloc _) hg5
          have hd5 : ∀ q ∈ done ++ [z], OwC U.heap.size w5 q := fun q hq => by
            rcases List.mem_append.1 hq with h | h
            · exact OwC.apart (((HDO.out q h).below HB1.out).below ((Below.refl _ _).alloc (Nat.le_refl _) _)) (by decide) (by decide) (by decide) (by decide) (by decide) (HR1.out.alloc _) hg5
            · simp at h; subst h; exact OwC.apart ((HZO.out.mono HGS.out).below ((Below.refl _ _).alloc (Nat.le_refl _) _)) (by decide) (by decide) (by decide) (by decide) (by decide) (HR1.out.alloc _) hg5
          have ho5 := done_own (C := clC) (done := done) (y := z) hown5
          obtain ⟨B5, d5, e5, -, -, -⟩ := own_rd ho5
          subst e5
          have b5 : Below (v.heap.size + 2) U w5 := BU8.out.trans (hb5.mono (by have := HSU.out; omega))
          have p0 : w5.cell? ⟨v.heap.size + 2, 0, none⟩ = some (.slice B k d) := cell_of_row _ _ 0 _ _ _ hq5
          have pf0 := frozen_of_row _ _ 0 _ _ hq5
          have HO6 := hh (own_gb ho5 (by have := HSU.out; omega) (gb_set w5 (v.heap.size + 2) 0 (.slice B5 (k + 1) d5)))
          have HD6 := hh (fun q hq => (hd5 q hq).gb (by have := HSU.out; omega) (gb_set w5 (v.heap.size + 2) 0 (.slice B5 (k + 1) d5)))
          have HQ6 := hh (show (w5.setCell ⟨v.heap.size + 2, 0, none⟩ (.slice B5 (k + 1) d5)).heap[v.heap.size + 2]? = some (.cells #[.slice B5 (k + 1) d5, .slice none 0 0, .string ⟨ec.toArray⟩, .string ⟨en.toArray⟩, .string ⟨ed.toArray⟩] 27 (0, 0)) from heap_setCell_same w5 (v.heap.size + 2) 0 _ _ (.slice B5 (k + 1) d5) hq5)
          have HB6 := hh (b5.setCell (p := ⟨v.heap.size + 2, 0, none⟩) (Nat.le_refl _) (.slice B5 (k + 1) d5))
          have BU5 := hh b5
          clear hown5 hg5 hb5 hq5 hd5 ho5 b5
          refine hK.out _ _ (HF.out _ BU5.out) (fun hHeld => ?_)
          clear hK K
          try simp only [puts]
          refine tkp 10 rfl ?_
          refine rdy 11 rfl (fun K hK => ?_)
          go_simp
          skip
          refine hK.out _ _ (HF.out _ HB6.out) (fun hHeld => ?_)
          clear hK K
          try simp only [puts]
          refine wpAnyH_done (by kernel_rfl) ?_ _
          go_wp2
          go_roundw
          case rel => exact ⟨k + 1, done ++ [z], _, by go_num, by omega, by rw [List.length_append, HDL.out]; rfl, done_more HDP.out HYY.out HZP.out, HD6.out, HO6.out, HQ6.out, HB6.out⟩
          case measure => simp [intOf]; omega
    · have hltI : ¬ (k : Int) < (cs.length : Int) := by omega
      have hkn : k = cs.length := by omega
      have hdk := HDL.out
      subst hdk
      have hp1 : done.map pC = cs.map pC := by rw [HDP.out, hkn, List.take_length]
      have HP1 := hh hp1
      have HKN := hh (HK2.out _ (HLU.out.trans (hbw.mono (by omega))))
      obtain ⟨i1, hj0, hy0, hy1, hy2⟩ := info_parts infoX
      have g1 : wa.cell? ⟨v.heap.size, 1, none⟩ = some (.slice A2 ns.length c2) := cell_of_row _ _ 1 _ _ _ ((hbw.block _ (by omega)).trans HUI.out)
      have o1 : wa.cell? ⟨v.heap.size + 2, 1, none⟩ = some (.slice none 0 0) := cell_of_row _ _ 1 _ _ _ hbo
      have bq := blk_lt hbo
      have HBQ := hh bq
      have HSZ := hh hsz
      clear hdp hdo hown hbw hdl hbo hp1 hkn bq
      go_wp2_with (at_builtin; refine wpList_app _ rfl (.tmp 27) (.tmp 29) _ rfl (wa.heap.size) 9 i1 _ 1 16 Tryz.underlying23 hj0 hy0 hy1 hy2 rfl (by omega) _ 0 ([]) rfl (World.ownsRow_nil _ _ _ _) _ (_) _ (SX ns) rfl (by simp [SX]) (HKN.out) (SX_one _) (by simp only [maxLen]; omega) (by omega) (Nat.le_refl _) ?_; intro v5 w5 hown5 hg5 hb5 hat5; clear hat5; rw [Nat.zero_add, List.nil_append] at hown5; obtain ⟨B1, d1, rfl, -, -, -⟩ := own_rd hown5; have HO5 := hh hown5; have HB5 := hh hb5; have hq5 := (hb5.block _ HBQ.out).trans HBO.out; have HQ5 := hh hq5; have p1 : w5.cell? ⟨v.heap.size + 2, 1, none⟩ = some (.slice none 0 0) := cell_of_row _ _ 1 _ _ _ hq5; have pf1 := frozen_of_row _ _ 1 _ _ hq5; have hq6 : (w5.setCell ⟨v.heap.size + 2, 1, none⟩ (.slice B1 ns.length d1)).heap[v.heap.size + 2]? = some (.cells #[.slice B done.length d, .slice B1 ns.length d1, .string ⟨ec.toArray⟩, .string ⟨en.toArray⟩, .string ⟨ed.toArray⟩] 27 (0, 0)) := heap_setCell_same w5 (v.heap.size + 2) 1 _ _ (.slice B1 ns.length d1) hq5; have e0 : (w5.setCell ⟨v.heap.size + 2, 1, none⟩ (.slice B1 ns.length d1)).cell? ⟨v.heap.size + 2, 0, none⟩ = some (.slice B done.length d) := cell_of_row _ _ 0 _ _ _ hq6; have e1 : (w5.setCell ⟨v.heap.size + 2, 1, none⟩ (.slice B1 ns.length d1)).cell? ⟨v.heap.size + 2, 1, none⟩ = some (.slice B1 ns.length d1) := cell_of_row _ _ 1 _ _ _ hq6; have e2 : (w5.setCell ⟨v.heap.size + 2, 1, none⟩ (.slice B1 ns.length d1)).cell? ⟨v.heap.size + 2, 2, none⟩ = some (.string ⟨ec.toArray⟩) := cell_of_row _ _ 2 _ _ _ hq6; have e3 : (w5.setCell ⟨v.heap.size + 2, 1, none⟩ (.slice B1 ns.length d1)).cell? ⟨v.heap.size + 2, 3, none⟩ = some (.string ⟨en.toArray⟩) := cell_of_row _ _ 3 _ _ _ hq6; have e4 : (w5.setCell ⟨v.heap.size + 2, 1, none⟩ (.slice B1 ns.length d1)).cell? ⟨v.heap.size + 2, 4, none⟩ = some (.string ⟨ed.toArray⟩) := cell_of_row _ _ 4 _ _ _ hq6; have hj6 : (w5.setCell ⟨v.heap.size + 2, 1, none⟩ (.slice B1 ns.length d1)).heap[v.heap.size + 1]? = some (.cells #[.slice none 0 0, .slice none 0 0, .string ⟨#[]⟩, .string ⟨#[]⟩, .string ⟨#[]⟩] 27 (0, 0)) := (Below.heap_setCell _ _ _ _ (by simp)).trans ((hb5.block _ (by have := HBQ.out; omega)).trans ((HB.out.block _ (by have := HSU.out; omega)).trans HUJ.out)); have HJ6 := hh hj6; have z0 : (w5.setCell ⟨v.heap.size + 2, 1, none⟩ (.slice B1 ns.length d1)).cell? ⟨v.heap.size + 1, 0, none⟩ = some (.slice none 0 0) := cell_of_row _ _ 0 _ _ _ hj6; have zf0 := frozen_of_row _ _ 0 _ _ hj6; have z1 : (w5.setCell ⟨v.heap.size + 2, 1, none⟩ (.slice B1 ns.length d1)).cell? ⟨v.heap.size + 1, 1, none⟩ = some (.slice none 0 0) := cell_of_row _ _ 1 _ _ _ hj6; have zf1 := frozen_of_row _ _ 1 _ _ hj6; have z2 : (w5.setCell ⟨v.heap.size + 2, 1, none⟩ (.slice B1 ns.length d1)).cell? ⟨v.heap.size + 1, 2, none⟩ = some (.string ⟨#[]⟩) := cell_of_row _ _ 2 _ _ _ hj6; have zf2 := frozen_of_row _ _ 2 _ _ hj6; have z3 : (w5.setCell ⟨v.heap.size + 2, 1, none⟩ (.slice B1 ns.length d1)).cell? ⟨v.heap.size + 1, 3, none⟩ = some (.string ⟨#[]⟩) := cell_of_row _ _ 3 _ _ _ hj6; have zf3 := frozen_of_row _ _ 3 _ _ hj6; have z4 : (w5.setCell ⟨v.heap.size + 2, 1, none⟩ (.slice B1 ns.length d1)).cell? ⟨v.heap.size + 1, 4, none⟩ = some (.string ⟨#[]⟩) := cell_of_row _ _ 4 _ _ _ hj6; have zf4 := frozen_of_row _ _ 4 _ _ hj6; clear hown5 hg5 hb5 hq5 hq6 hj6 g0 g1 o1; skip)
      obtain ⟨WF, hWF⟩ : ∃ WF, WF = ((((((w5.setCell ⟨v.heap.size + 2, 1, none⟩ (.slice B1 ns.length d1)).setCell ⟨v.heap.size + 1, 0, none⟩ (.slice B done.length d)).setCell ⟨v.heap.size + 1, 1, none⟩ (.slice B1 ns.length d1)).setCell ⟨v.heap.size + 1, 2, none⟩ (.string ⟨ec.toArray⟩)).setCell ⟨v.heap.size + 1, 3, none⟩ (.string ⟨en.toArray⟩)).setCell ⟨v.heap.size + 1, 4, none⟩ (.string ⟨ed.toArray⟩)) := ⟨_, rfl⟩
      try rw [← hWF]
      have s0 := heap_setCell_same _ (v.heap.size + 1) 0 _ _ (.slice B done.length d) HJ6.out
      have s1 := heap_setCell_same _ (v.heap.size + 1) 1 _ _ (.slice B1 ns.length d1) s0
      have s2 := heap_setCell_same _ (v.heap.size + 1) 2 _ _ (.string ⟨ec.toArray⟩) s1
      have s3 := heap_setCell_same _ (v.heap.size + 1) 3 _ _ (.string ⟨en.toArray⟩) s2
      have s4 := heap_setCell_same _ (v.heap.size + 1) 4 _ _ (.string ⟨ed.toArray⟩) s3
      rw [← hWF] at s4
      have sF : WF.heap[v.heap.size + 1]? = some (.cells #[.slice B done.length d, .slice B1 ns.length d1, .string ⟨ec.toArray⟩, .string ⟨en.toArray⟩, .string ⟨ed.toArray⟩] 27 (0, 0)) := by rw [s4]; simp
      obtain ⟨r0, r1, r2, r3, r4⟩ := c5q sF
      have hBF : Below v.heap.size v WF := by rw [hWF]; exact ((((((((HLU.out.trans (HB.out.mono (by omega))).trans (HB5.out.mono (Nat.le_trans HLU.out.size HB.out.size))).setCell (p := ⟨v.heap.size + 2, 1, none⟩) (by simp) (.slice B1 ns.length d1)).setCell (p := ⟨v.heap.size + 1, 0, none⟩) (by simp) (.slice B done.length d)).setCell (p := ⟨v.heap.size + 1, 1, none⟩) (by simp) (.slice B1 ns.length d1)).setCell (p := ⟨v.heap.size + 1, 2, none⟩) (by simp) (.string ⟨ec.toArray⟩)).setCell (p := ⟨v.heap.size + 1, 3, none⟩) (by simp) (.string ⟨en.toArray⟩)).setCell (p := ⟨v.heap.size + 1, 4, none⟩) (by simp) (.string ⟨ed.toArray⟩))
      have gA := gb_set w5 (v.heap.size + 2) 1 (.slice B1 ns.length d1)
      have gB : (w5.setCell ⟨v.heap.size + 2, 1, none⟩ (.slice B1 ns.length d1)).grownBy WF (some (v.heap.size + 1)) := by rw [hWF]; exact (gb_trans (gb_trans (gb_trans (gb_trans (gb_set _ (v.heap.size + 1) 0 (.slice B done.length d)) (gb_set _ (v.heap.size + 1) 1 (.slice B1 ns.length d1))) (gb_set _ (v.heap.size + 1) 2 (.string ⟨ec.toArray⟩))) (gb_set _ (v.heap.size + 1) 3 (.string ⟨en.toArray⟩))) (gb_set _ (v.heap.size + 1) 4 (.string ⟨ed.toArray⟩)))
      have f1 : v.heap.size + 1 < U.heap.size := by have := HSU.out; omega
      have f2 : v.heap.size + 2 < U.heap.size := by have := HSU.out; omega
      have u1 := own_base HO5.out HSZ.out
      have u4 := own_below HO.out HB5.out
      have HRS := hh (HPO.out B1 d1 B d done WF (own_base (own_gb (own_gb u1 f2 gA) f1 gB) HLU.out.size) HP1.out (own_base (own_gb (own_gb u4 f2 gA) f1 gB) HLU.out.size) (fun y hy => ((((HDO.out y hy).below HB5.out).gb f2 gA).gb f1 gB).mono HLU.out.size) hBF)
      refine bodyPost_ret (v := .agg #[.slice B done.length d, .slice B1 ns.length d1, .string ⟨ec.toArray⟩, .string ⟨en.toArray⟩, .string ⟨ed.toArray⟩]) ?_ rfl HRS.out
      simp [results, Tryz.results29, go_sem, r0, r1, r2, r3, r4]
end Go.Proofs.YtgociheckcpjkaaGreatDoor.prg

/- OpTellsW -/
import Derived.Test.YtgociheckcpjkaaGreatDoorNormT
import Derived.Test.YtgociheckcpjkaaGreatDoorSortFi
import Derived.Test.YtgociheckcpjkaaGreatDoorSortMe
import Derived.Test.YtgociheckcpjkaaGreatDoorSortCl
import Derived.Test.YtgociheckcpjkaaGreatDoorOpB
import Derived.Sort.OwnSorted
import Derived.Test.YtgociheckcpjkaaGreatDoorOpL
import Derived.Test.YtgociheckcpjkaaGreatDoorOpU
import Derived.Test.YtgociheckcpjkaaGreatDoorOpG
import Derived.Test.YtgociheckcpjkaaGreatDoorRef
import Derived.Deep.RegionHeld3
namespace Go.Proofs.YtgociheckcpjkaaGreatDoor.prg
open Go.RowKit
open words kindp opp op kind word keep sorts
set_option linter.all false
theorem merge_sort (l : List Tx) : (l.mergeSort fun x y => decide (x ≤ y)) = sortS ltT l := by
 refine asc_one_way swo_text (fun a b h k => ltT_eq h k) ((List.mergeSort_perm l _).trans (sort_perm ltT l).symm) ?_ (asc_sortS swo_text l)
 have h := List.pairwise_mergeSort (le := fun x y : Tx => decide (x ≤ y)) (fun a b c h1 h2 => decide_eq_true (List.le_trans (of_decide_eq_true h1) (of_decide_eq_true h2)))
  (fun a b => by rcases List.le_total a b with k | k <;> simp [k]) l
 exact h.imp fun {a b} k => by unfold ltT; exact decide_eq_false (List.not_lt.2 (of_decide_eq_true k))
def NA (z : PrM) : Prop := ∀ c ∈ z.cs, ∀ p q : Addr, z.A2 = some p → c.A1 = some q → p.block ≠ q.block
def Sp (h : Nat) (w : World) (z : PrM) : Prop := OwP h w z ∧ ApL z.cs ∧ NA z
theorem flat_same {L : List ClM} {k : Nat} {c c1 : ClM} (hk : L[k]? = some c) (e : clC c1 = clC c) : (L.set k c1).flatMap clC = L.flatMap clC := by
 have h : (L.set k c1).map clC = L.map clC := by
  rw [List.map_set, e]
  have : (L.map clC)[k]? = some (clC c) := by rw [List.getElem?_map, hk]; rfl
  obtain ⟨hl, he⟩ := List.getElem?_eq_some_iff.1 this
  rw [← he, List.set_getElem_self]
 rw [List.flatMap_def, List.flatMap_def, h]
theorem set_same {L : List ClM} {k : Nat} {c : ClM} (hk : L[k]? = some c) : L.set k c = L := by
 obtain ⟨hl, he⟩ := List.getElem?_eq_some_iff.1 hk
 rw [← he, List.set_getElem_self]
theorem sp_step {h g k T : Nat} {w w' : World} {z : PrM} {c c1 : ClM} {cur : Array Value} {fz : Nat × Nat} (hs : Sp h w z) (hk : z.cs[k]? = some c) (hg : w.heap[g]? = some (.cells cur T fz)) (hT : 35 ≠ T)
  (hn : ∀ p, z.A2 = some p → p.block ≠ g) (gb : w.grownBy w' (some g)) (st : St h w' (z.cs.set k c1)) (e : clC c1 = clC c) (e1 : c1.A1 = c.A1) : Sp h w' { z with cs := z.cs.set k c1 } := by
 refine ⟨⟨?_, own_ne hs.1.2.1 hn gb, st.1⟩, st.2, fun y hy p q hp hq => ?_⟩
 ·dsimp only
  rw [List.length_set, flat_same hk e]
  exact own_ne hs.1.1 (ne_type hs.1.1 hg hT) gb
 ·rcases set_cases hy with rfl | ⟨j, hj, hyj⟩
  ·exact hs.2.2 c (List.mem_of_getElem? hk) p q hp (by rw [← e1]; exact hq)
  ·exact hs.2.2 y (List.mem_of_getElem? hyj) p q hp hq
theorem below_gb {h g : Nat} {w w' : World} (hg : h ≤ g) (hl : g < w.heap.size) (gb : w.grownBy w' (some g)) : Below h w w' := ⟨gb.os, gb.tape, gb.output, gb.size, fun k hk => gb.block k (by omega) (by intro e; cases e; omega)⟩
def KpC (w w' : World) : Prop := ∀ (b : Nat) (cur : Array Value) (fz : Nat × Nat), w.heap[b]? = some (.cells cur 35 fz) → w'.heap[b]? = some (.cells cur 35 fz)
theorem kpC_below {w w' : World} (h : Below w.heap.size w w') : KpC w w' := fun b _ _ hb => (h.block b (blk_lt hb)).trans hb
theorem kpC_gb {w w' : World} {g T : Nat} {cur : Array Value} {fz : Nat × Nat} (hg : w.heap[g]? = some (.cells cur T fz)) (hT : 35 ≠ T) (gb : w.grownBy w' (some g)) : KpC w w' := fun b cur' fz' hb =>
 (gb.block b (blk_lt hb) (by
  intro e; cases e
  rw [hg] at hb
  simp only [Option.some.injEq, Obj.cells.injEq] at hb
  exact hT hb.2.1.symm)).trans hb
theorem own_shape {w : World} {b e size n c : Nat} {A : Option Addr} {xs : List Value} (h : w.ownsRow b e size (.slice A n c) n xs) : n = 0 ∨ ∃ g cur, A = some ⟨g, 0, none⟩ ∧ b ≤ g ∧ w.heap[g]? = some (.cells cur e (0, 0)) ∧ n ≤ c ∧ c ≤ maxLen ∧ cur.size = c * size ∧ cur.toList.take (n * size) = xs := by
 rcases h.2 with ⟨_, hn⟩ | ⟨g, cap, cur, hv, hb, hg, h1, h2, h3, h4⟩
 ·exact .inl hn
 ·simp only [Value.slice.injEq, true_and] at hv
  obtain ⟨rfl, rfl⟩ := hv
  exact .inr ⟨g, cur, rfl, hb, hg, h1, h2, h3, h4⟩
theorem so_is (h k : Nat) (w : World) (z : PrM) (c : ClM) (hs : Sp h w z) (hk : z.cs[k]? = some c) (hl : c.is.length ≤ 100000) (hh : h ≤ w.heap.size) :
  Calls Tryz.prog 20 #[.slice c.A1 c.is.length c.c1] w fun e w' => e = .returned (.tuple #[]) ∧ Sp h w' { z with cs := z.cs.set k { c with is := sortS ltT c.is } } ∧ Below h w w' ∧ KpC w w' := by
 have hc := (hs.1.2.2 c (List.mem_of_getElem? hk)).1
 rcases own_shape hc with h0 | ⟨g, cur, hA, hb, hg, h1, h2, h3, h4⟩
 ·have hn : c.is = [] := List.length_eq_zero_iff.1 h0
  rw [h0]
  refine (Tryz.slices_Sort_string_none c.A1 c.c1 w).mono fun e w' ⟨he, hw⟩ => ?_
  subst hw
  refine ⟨he, ?_, Below.refl _ _, kpC_below (Below.refl _ _)⟩
  have e1 : ({ c with is := sortS ltT c.is } : ClM) = c := by rw [hn, sortS_nil]; cases c; simp at hn; subst hn; rfl
  rw [e1, set_same hk]
  exact hs
 ·have hH : Go.Sort.Holds Go.Proofs.encStr w g 0 c.is.toArray := holds_of_block hg (by simpa [SX, Go.Proofs.encStr] using h4)
  have hcall := Tryz.slices_Sort_string g 0 c.c1 c.is w hH (blk_lt hg) (by omega)
  rw [← hA] at hcall
  refine hcall.mono fun e w' ⟨he, q, os, hw⟩ => ?_
  subst hw
  rw [merge_sort]
  have gb : w.grownBy _ (some g) := grownBy_sorted (w := w) (g := g) (n := q) (os := os) (sortS ltT c.is).toArray
  have ho := ownsRow_sorted (n := q) (os := os) (ss := c.is) (ts := sortS ltT c.is) (sortS_length _ _) hb hg h1 h2 h3
  have st := St.is (s := sortS ltT c.is) ⟨hs.1.2.2, hs.2.1⟩ hk hA (sortS_length _ _) ⟨_, _, hg⟩ gb (by rw [hA]; simpa [SX, Go.Proofs.encStr] using ho)
  exact ⟨he, sp_step hs hk hg (by decide) (fun p hp => (hs.2.2 c (List.mem_of_getElem? hk) p ⟨g, 0, none⟩ hp hA)) gb st (by unfold clC; simp only [sortS_length]) rfl, below_gb hb (blk_lt hg) gb, kpC_gb hg (by decide) gb⟩
theorem so_fs (h k : Nat) (w : World) (z : PrM) (c : ClM) (hs : Sp h w z) (hk : z.cs[k]? = some c) (hl : c.fs.length ≤ 100000) (hh : h ≤ w.heap.size) :
  Calls Tryz.prog 21 #[.slice c.A2 c.fs.length c.c2, .func (.func 22) #[] #[]] w fun e w' => e = .returned (.tuple #[]) ∧ Sp h w' { z with cs := z.cs.set k { c with fs := sortS ltF c.fs } } ∧ Below h w w' ∧ KpC w w' := by
 have hc := (hs.1.2.2 c (List.mem_of_getElem? hk)).2.1
 rcases own_shape hc with h0 | ⟨g, cur, hA, hb, hg, h1, h2, h3, h4⟩
 ·have hn : c.fs = [] := List.length_eq_zero_iff.1 h0
  rw [h0]
  refine (sorted_fi c.A2 0 c.c2 w _ (by omega) (ins_none_fi c.A2 c.c2 w)).mono fun e w' ⟨he, hw⟩ => ?_
  have e1 : ({ c with fs := sortS ltF c.fs } : ClM) = c := by rw [hn, sortS_nil]; cases c; simp at hn; subst hn; rfl
  rw [e1, set_same hk]
  exact ⟨he, ⟨⟨own_below hs.1.1 hw, own_below hs.1.2.1 hw, fun y hy => (hs.1.2.2 y hy).below hw⟩, hs.2⟩, hw.mono hh, kpC_below hw⟩
 ·have hr : Row 58 4 fiC h g c.fs.length c.c2 w c.fs := ⟨rfl, by rw [← hA]; exact hc⟩
  have hcall := srt_fi c.fs h g c.fs.length c.c2 w hr (by omega)
  rw [← hA] at hcall
  refine hcall.mono fun e w' ⟨he, hr', gb⟩ => ?_
  have st := St.fs (s := sortS ltF c.fs) ⟨hs.1.2.2, hs.2.1⟩ hk hA (sortS_length _ _) ⟨_, _, hg⟩ gb (by rw [hA]; exact hr'.own)
  exact ⟨he, sp_step hs hk hg (by decide) (ne_type hs.1.2.1 hg (by decide)) gb st (by unfold clC; simp only [sortS_length]) rfl, below_gb hb (blk_lt hg) gb, kpC_gb hg (by decide) gb⟩
theorem so_ms (h k : Nat) (w : World) (z : PrM) (c : ClM) (hs : Sp h w z) (hk : z.cs[k]? = some c) (hl : c.ms.length ≤ 100000) (hh : h ≤ w.heap.size) :
  Calls Tryz.prog 23 #[.slice c.A3 c.ms.length c.c3, .func (.func 24) #[] #[]] w fun e w' => e = .returned (.tuple #[]) ∧ Sp h w' { z with cs := z.cs.set k { c with ms := sortS ltM c.ms } } ∧ Below h w w' ∧ KpC w w' := by
 have hc := (hs.1.2.2 c (List.mem_of_getElem? hk)).2.2.1
 rcases own_shape hc with h0 | ⟨g, cur, hA, hb, hg, h1, h2, h3, h4⟩
 ·have hn : c.ms = [] := List.length_eq_zero_iff.1 h0
  rw [h0]
  refine (sorted_me c.A3 0 c.c3 w _ (by omega) (ins_none_me c.A3 c.c3 w)).mono fun e w' ⟨he, hw⟩ => ?_
  have e1 : ({ c with ms := sortS ltM c.ms } : ClM) = c := by rw [hn, sortS_nil]; cases c; simp at hn; subst hn; rfl
  rw [e1, set_same hk]
  exact ⟨he, ⟨⟨own_below hs.1.1 hw, own_below hs.1.2.1 hw, fun y hy => (hs.1.2.2 y hy).below hw⟩, hs.2⟩, hw.mono hh, kpC_below hw⟩
 ·have hr : Row 38 6 meC h g c.ms.length c.c3 w c.ms := ⟨rfl, by rw [← hA]; exact hc⟩
  have hcall := srt_me c.ms h g c.ms.length c.c3 w hr (by omega)
  rw [← hA] at hcall
  refine hcall.mono fun e w' ⟨he, hr', gb⟩ => ?_
  have st := St.ms (s := sortS ltM c.ms) ⟨hs.1.2.2, hs.2.1⟩ hk hA (sortS_length _ _) (fun m hm => (mem_sortS _).1 hm) ⟨_, _, hg⟩ gb (by rw [hA]; exact hr'.own)
  exact ⟨he, sp_step hs hk hg (by decide) (ne_type hs.1.2.1 hg (by decide)) gb st (by unfold clC; simp only [sortS_length]) rfl, below_gb hb (blk_lt hg) gb, kpC_gb hg (by decide) gb⟩
theorem apL_pair {L : List ClM} (h : ApL L) : L.Pairwise ApC := List.pairwise_iff_getElem.2 fun i j hi hj hij => h i j _ _ (by omega) (List.getElem?_eq_getElem hi) (List.getElem?_eq_getElem hj)
theorem so_cs (h : Nat) (w : World) (z : PrM) (hs : Sp h w z) (hl : z.cs.length ≤ 100000) (hh : h ≤ w.heap.size) :
  Calls Tryz.prog 18 #[.slice z.A1 z.cs.length z.c1, .func (.func 19) #[] #[]] w fun e w' => e = .returned (.tuple #[]) ∧ Sp h w' { z with cs := sortS ltC z.cs } ∧ Below h w w' := by
 have hc := hs.1.1
 rcases own_shape hc with h0 | ⟨g, cur, hA, hb, hg, h1, h2, h3, h4⟩
 ·have hn : z.cs = [] := List.length_eq_zero_iff.1 h0
  rw [h0]
  refine (sorted_cl z.A1 0 z.c1 w _ (by omega) (ins_none_cl z.A1 z.c1 w)).mono fun e w' ⟨he, hw⟩ => ?_
  have e1 : ({ z with cs := sortS ltC z.cs } : PrM) = z := by rw [hn, sortS_nil]; cases z; simp at hn; subst hn; rfl
  rw [e1]
  exact ⟨he, ⟨⟨own_below hs.1.1 hw, own_below hs.1.2.1 hw, fun y hy => (hs.1.2.2 y hy).below hw⟩, hs.2⟩, hw.mono hh⟩
 ·have hr : Row 35 7 clC h g z.cs.length z.c1 w z.cs := ⟨rfl, by rw [← hA]; exact hc⟩
  have hcall := srt_cl z.cs h g z.cs.length z.c1 w hr (by omega)
  rw [← hA] at hcall
  refine hcall.mono fun e w' ⟨he, hr', gb⟩ => ?_
  have st := St.perm (b := h) (w := w') (L := z.cs) (L' := sortS ltC z.cs) (St.row ⟨hs.1.2.2, hs.2.1⟩ hg (by decide) (by decide) (by decide) (by decide) (by decide) gb).1 (apL_pair hs.2.1) (sort_perm _ _)
  refine ⟨he, ⟨⟨?_, own_ne hs.1.2.1 (ne_type hs.1.2.1 hg (by decide)) gb, st.1⟩, st.2, fun y hy => hs.2.2 y ((mem_sortS _).1 hy)⟩, below_gb hb (blk_lt hg) gb⟩
  dsimp only
  rw [sortS_length, hA]
  exact hr'.own
end Go.Proofs.YtgociheckcpjkaaGreatDoor.prg
namespace Go.Proofs.YtgociheckcpjkaaGreatDoor.prg
open Go.RowKit
open words kindp opp op kind word keep sorts
set_option maxRecDepth 100000
set_option maxHeartbeats 8000000
set_option linter.all false
def sortPm (z : PrM) : PrM := { z with cs := (sortS ltC z.cs).map sortC }
def sortK (z : PrM) (k : Nat) : PrM := { z with cs := ((sortS ltC z.cs).take k).map sortC ++ (sortS ltC z.cs).drop k }
theorem sortK_len (z : PrM) (k : Nat) : (sortK z k).cs.length = z.cs.length := by
 unfold sortK
 rw [List.length_append, List.length_map, List.length_take, List.length_drop, sortS_length]; omega
theorem sortK_zero (z : PrM) : sortK z 0 = { z with cs := sortS ltC z.cs } := by unfold sortK; simp
theorem sortK_all (z : PrM) {k : Nat} (h : z.cs.length ≤ k) : sortK z k = sortPm z := by
 unfold sortK sortPm
 rw [List.take_of_length_le (by rw [sortS_length]; exact h), List.drop_eq_nil_of_le (by rw [sortS_length]; exact h), List.append_nil]
theorem sortK_at {z : PrM} {k : Nat} {c : ClM} (h : (sortS ltC z.cs)[k]? = some c) : (sortK z k).cs[k]? = some c := by
 have hk := (List.getElem?_eq_some_iff.1 h).1
 unfold sortK
 dsimp only
 rw [List.getElem?_append_right (by rw [List.length_map, List.length_take]; omega), List.length_map, List.length_take, Nat.min_eq_left (by omega), Nat.sub_self, List.getElem?_drop, Nat.add_zero]
 exact h
theorem sortK_next {z : PrM} {k : Nat} {c : ClM} (h : (sortS ltC z.cs)[k]? = some c) : { sortK z k with cs := (sortK z k).cs.set k (sortC c) } = sortK z (k + 1) := by
 have hk := (List.getElem?_eq_some_iff.1 h).1
 unfold sortK
 dsimp only
 congr 1
 have hl : (((sortS ltC z.cs).take k).map sortC).length = k := by rw [List.length_map, List.length_take]; omega
 rw [List.set_append_right _ _ (by omega), hl, Nat.sub_self, List.drop_eq_getElem_cons hk, List.set_cons_zero, List.take_add_one, h, List.map_append]
 simp
theorem Sp.below {h : Nat} {w w' : World} {z : PrM} (hs : Sp h w z) (k : Below w.heap.size w w') : Sp h w' z := ⟨hs.1.below k, hs.2⟩
def SorG (x : PrM) (v : World) (e : Ending) (w' : World) : Prop := (∃ z, e = .returned (.agg (prC (sortPm z)).toArray) ∧ pP z = pP x ∧ OwP v.heap.size w' (sortPm z)) ∧ Below v.heap.size v w'
theorem few_of {x z : PrM} (h : pP z = pP x) (hg : GrP x) : z.cs.length ≤ 70 ∧ ∀ c ∈ z.cs, c.is.length ≤ 40 ∧ c.fs.length ≤ 40 ∧ c.ms.length ≤ 40 := by
 have hc : z.cs.map pC = x.cs.map pC := congrArg PrP.cs h
 refine ⟨by have := congrArg List.length hc; simp only [List.length_map] at this; rw [this]; exact hg.1.1, fun c hcm => ?_⟩
 have hm : pC c ∈ x.cs.map pC := by rw [← hc]; exact List.mem_map_of_mem hcm
 obtain ⟨c', hc', e⟩ := List.mem_map.1 hm
 have g := (hg.2 c' hc').1
 have e1 : c'.is = c.is := congrArg ClP.is e
 have e2 : c'.fs.length = c.fs.length := by have := congrArg (fun p => (ClP.fs p).length) e; simpa [pC] using this
 have e3 : c'.ms.length = c.ms.length := by have := congrArg (fun p => (ClP.ms p).length) e; simpa [pC] using this
 rw [← e1, ← e2, ← e3]
 exact ⟨g.1, g.2.1, g.2.2.1⟩
theorem sorted_g (x : PrM) (v : World) (hk : PrOk v x) (hg : GrP x) : Calls Tryz.prog 6 #[.agg (prC x).toArray] v (SorG x v) := by
 have HCP := hh (fun w (h : Below v.heap.size v w) => clone_s x w (hk.below h) hg)
 have HFW := hh (fun z (h : pP z = pP x) => few_of h hg)
 have HPX := hh (fun z (h : pP z = pP x) w' (ho : OwP v.heap.size w' (sortPm z)) (k : Below v.heap.size v w') => show SorG x v (.returned (.agg (prC (sortPm z)).toArray)) w' from ⟨⟨z, rfl, h, ho⟩, k⟩)
 clear hk hg
 obtain ⟨cs, A, c, ns, A2, c2, ec, en, ed⟩ := x
 unfold prC at HCP ⊢
 dsimp only at HCP ⊢
 obtain ⟨V, hV⟩ : ∃ V, V = (v.alloc (.cells #[.slice A cs.length c, .slice A2 ns.length c2, .string ⟨ec.toArray⟩, .string ⟨en.toArray⟩, .string ⟨ed.toArray⟩] 27)).alloc (.cells #[.slice none 0 0, .slice none 0 0, .string ⟨#[]⟩, .string ⟨#[]⟩, .string ⟨#[]⟩] 27) := ⟨_, rfl⟩
 have hal : Below v.heap.size v V := by rw [hV]; exact ((Below.refl _ v).alloc (Nat.le_refl _) _).alloc (by simp) _
 have hbi : V.heap[v.heap.size]? = some (.cells #[.slice A cs.length c, .slice A2 ns.length c2, .string ⟨ec.toArray⟩, .string ⟨en.toArray⟩, .string ⟨ed.toArray⟩] 27 (0, 0)) := by rw [hV]; exact (Below.heap_alloc _ _ _ (by simp)).trans (heap_alloc_new v _)
 have hbj : V.heap[v.heap.size + 1]? = some (.cells #[.slice none 0 0, .slice none 0 0, .string ⟨#[]⟩, .string ⟨#[]⟩, .string ⟨#[]⟩] 27 (0, 0)) := by
  rw [hV]
  have := heap_alloc_new (v.alloc (.cells #[.slice A cs.length c, .slice A2 ns.length c2, .string ⟨ec.toArray⟩, .string ⟨en.toArray⟩, .string ⟨ed.toArray⟩] 27)) (.cells #[.slice none 0 0, .slice none 0 0, .string ⟨#[]⟩, .string ⟨#[]⟩, .string ⟨#[]⟩] 27)
  rwa [World.size_alloc] at this
 have HV := hh hV; have HAL := hh hal
 obtain ⟨d0, d1, d2, d3, d4⟩ := c5q hbi
 have HBI := hh hbi; have HBJ := hh hbj
 clear hV hal hbi hbj
 go_enter Tryz.func6, Tryz.ntmps6
 go_wp2_with fail
 try simp only [World.size_alloc]
 rw [← HV.out]
 (try go_wp2_with fail)
 refine (HCP.out V HAL.out).mono ?_
 rintro e v1 ⟨⟨z, rfl, hpz, hoz, hap, hna⟩, hb1⟩
 have hfz := HFW.out z hpz
 have HPZ := hh (HPX.out z hpz)
 have HFZ := hh hfz
 unfold prC
 obtain ⟨n, hn⟩ : ∃ n, n = z.cs.length := ⟨_, rfl⟩
 obtain ⟨n2, hn2⟩ : ∃ n, n = z.ns.length := ⟨_, rfl⟩
 have hnI : (n : Int) ≤ 100000 := by have := HFZ.out.1; omega
 have HN := hh hn; have HN2 := hh hn2
 rw [← hn, ← hn2]
 try dsimp only
 have g1 : v.heap.size < V.heap.size := blk_lt HBI.out
 have g2 : v.heap.size + 1 < V.heap.size := blk_lt HBJ.out
 have G1 := hh g1; have G2 := hh g2
 have hbi1 := (hb1.block _ g1).trans HBI.out
 have hbj1 := (hb1.block _ g2).trans HBJ.out
 have q0 : v1.cell? ⟨v.heap.size, 0, none⟩ = some (.slice A cs.length c) := cell_of_row _ _ 0 _ _ _ hbi1
 have qf0 := frozen_of_row _ _ 0 _ _ hbi1
 have q1 : v1.cell? ⟨v.heap.size, 1, none⟩ = some (.slice A2 ns.length c2) := cell_of_row _ _ 1 _ _ _ hbi1
 have qf1 := frozen_of_row _ _ 1 _ _ hbi1
 have q2 : v1.cell? ⟨v.heap.size, 2, none⟩ = some (.string ⟨ec.toArray⟩) := cell_of_row _ _ 2 _ _ _ hbi1
 have qf2 := frozen_of_row _ _ 2 _ _ hbi1
 have q3 : v1.cell? ⟨v.heap.size, 3, none⟩ = some (.string ⟨en.toArray⟩) := cell_of_row _ _ 3 _ _ _ hbi1
 have qf3 := frozen_of_row _ _ 3 _ _ hbi1
 have q4 : v1.cell? ⟨v.heap.size, 4, none⟩ = some (.string ⟨ed.toArray⟩) := cell_of_row _ _ 4 _ _ _ hbi1
 have qf4 := frozen_of_row _ _ 4 _ _ hbi1
 have s0 := heap_setCell_same _ v.heap.size 0 _ _ (.slice z.A1 n z.c1) hbi1
 have s1 := heap_setCell_same _ v.heap.size 1 _ _ (.slice z.A2 n2 z.c2) s0
 have s2 := heap_setCell_same _ v.heap.size 2 _ _ (.string ⟨z.ec.toArray⟩) s1
 have s3 := heap_setCell_same _ v.heap.size 3 _ _ (.string ⟨z.en.toArray⟩) s2
 have s4 := heap_setCell_same _ v.heap.size 4 _ _ (.string ⟨z.ed.toArray⟩) s3
 obtain ⟨W1, hW1⟩ : ∃ WF, WF = (((((v1.setCell ⟨v.heap.size, 0, none⟩ (.slice z.A1 n z.c1)).setCell ⟨v.heap.size, 1, none⟩ (.slice z.A2 n2 z.c2)).setCell ⟨v.heap.size, 2, none⟩ (.string ⟨z.ec.toArray⟩)).setCell ⟨v.heap.size, 3, none⟩ (.string ⟨z.en.toArray⟩)).setCell ⟨v.heap.size, 4, none⟩ (.string ⟨z.ed.toArray⟩)) := ⟨_, rfl⟩
 rw [← hW1] at s4
 have sF : W1.heap[v.heap.size]? = some (.cells #[.slice z.A1 n z.c1, .slice z.A2 n2 z.c2, .string ⟨z.ec.toArray⟩, .string ⟨z.en.toArray⟩, .string ⟨z.ed.toArray⟩] 27 (0, 0)) := by rw [s4]; simp
 have gA : v1.grownBy W1 (some v.heap.size) := by rw [hW1]; exact (gb_trans (gb_trans (gb_trans (gb_trans (gb_set _ (v.heap.size) 0 _) (gb_set _ (v.heap.size) 1 _)) (gb_set _ (v.heap.size) 2 _)) (gb_set _ (v.heap.size) 3 _)) (gb_set _ (v.heap.size) 4 _))
 have tF : W1.heap[v.heap.size + 1]? = some (.cells #[.slice none 0 0, .slice none 0 0, .string ⟨#[]⟩, .string ⟨#[]⟩, .string ⟨#[]⟩] 27 (0, 0)) := gb_at gA hbj1 (by omega)
 have hsp : Sp V.heap.size W1 z := ⟨⟨own_gb hoz.1 g1 gA, own_gb hoz.2.1 g1 gA, fun y hy => (hoz.2.2 y hy).gb g1 gA⟩, apL_of hap, hna⟩
 have hsz1 : V.heap.size ≤ W1.heap.size := Nat.le_trans hb1.size gA.size
 have hbw1 : Below v.heap.size v W1 := by rw [hW1]; exact (((((HAL.out.trans (hb1.mono HAL.out.size)).setCell (p := ⟨v.heap.size, 0, none⟩) (Nat.le_refl _) _).setCell (p := ⟨v.heap.size, 1, none⟩) (Nat.le_refl _) _).setCell (p := ⟨v.heap.size, 2, none⟩) (Nat.le_refl _) _).setCell (p := ⟨v.heap.size, 3, none⟩) (Nat.le_refl _) _).setCell (p := ⟨v.heap.size, 4, none⟩) (Nat.le_refl _) _
 have r0 : W1.cell? ⟨v.heap.size, 0, none⟩ = some (.slice z.A1 n z.c1) := cell_of_row _ _ 0 _ _ _ sF
 have HSO := hh (so_cs V.heap.size W1 z hsp (by omega) hsz1)
 rw [← hn] at HSO
 obtain ⟨hv, hhv⟩ : ∃ h, h = V.heap.size := ⟨_, rfl⟩
 have HHV := hh hhv
 have HW1 := hh hW1; have HSF := hh sF; have HTF := hh tF; have HBW1 := hh hbw1; have HSZ := hh hsz1
 clear hbi1 hbj1 hb1 gA hsp hbw1 hW1 sF tF s0 s1 s2 s3 s4 d0 d1 d2 d3 d4 hoz hap hna hpz hfz hn hn2 hhv g1 g2 hsz1
 go_wp2_with fail
 rw [← HW1.out]
 (try go_wp2_with fail)
 refine HSO.out.mono ?_
 rintro e v2 ⟨rfl, hs2, hb2⟩
 have hx2 := (hb2.block _ G1.out).trans HSF.out
 have hy2 := (hb2.block _ G2.out).trans HTF.out
 have HSP2 := hh (show Sp hv v2 (sortK z 0) from by rw [sortK_zero, HHV.out]; exact hs2)
 have HZ2 := hh (show hv ≤ v2.heap.size from by rw [HHV.out]; exact Nat.le_trans HSZ.out hb2.size)
 have HBW2 := hh (HBW1.out.trans (hb2.mono (Nat.le_of_lt G1.out)))
 have HX2 := hh hx2; have HY2 := hh hy2
 have u0 : v2.cell? ⟨v.heap.size, 0, none⟩ = some (.slice z.A1 n z.c1) := cell_of_row _ _ 0 _ _ _ hx2
 clear hs2 hb2 hx2 hy2 r0 q0 q1 q2 q3 q4 qf0 qf1 qf2 qf3 qf4
 go_wp2
 clear u0
 go_loopw [13] (fun i wr => ∃ k : Nat, i = .int .i64 (k : Int) ∧ k ≤ n ∧ Sp hv wr (sortK z k) ∧ Below hv v2 wr) (fun i _ => n - (intOf i).toNat)
 case atStart => exact ⟨0, rfl, Nat.zero_le _, HSP2.out, Below.refl _ _⟩
 case round =>
  obtain ⟨k, rfl, hk, hsp, hbw⟩ := hrel
  obtain ⟨wr0, hwr0⟩ : ∃ u, u = wr := ⟨_, rfl⟩
  subst hwr0
  have HBR := hh hbw; have HSPK := hh hsp
  by_cases hlt : k < n
  · have hltI : (k : Int) < (n : Int) := by omega
    obtain ⟨d, hd⟩ : ∃ d, (sortS ltC z.cs)[k]? = some d := ⟨(sortS ltC z.cs)[k]'(by rw [sortS_length, ← HN.out]; exact hlt), List.getElem?_eq_getElem _⟩
    have hdm : d ∈ z.cs := (mem_sortS _).1 (List.mem_of_getElem? hd)
    have hfd := HFZ.out.2 d hdm
    have hdk := sortK_at hd
    obtain ⟨m1, hm1⟩ : ∃ m, m = d.is.length := ⟨_, rfl⟩
    obtain ⟨m2, hm2⟩ : ∃ m, m = d.fs.length := ⟨_, rfl⟩
    obtain ⟨m3, hm3⟩ : ∃ m, m = d.ms.length := ⟨_, rfl⟩
    have hrow := hsp.1.1
    rw [sortK_len, ← HN.out] at hrow
    rcases own_shape hrow with h0 | ⟨g, cur, hA, hgb, hgh, -⟩
    · omega
    have hA' : z.A1 = some ⟨g, 0, none⟩ := hA
    have hrow' : wr0.ownsRow hv 35 7 (.slice (some ⟨g, 0, none⟩) n z.c1) n ((sortK z k).cs.flatMap clC) := by rw [← hA']; exact hrow
    have y0 := flat_at (f := clC) (k := 7) (fun _ => rfl) hdk (t := 0) (u := .string ⟨d.nm.toArray⟩) rfl
    rw [Nat.add_zero] at y0
    have c0 : wr0.cell? ⟨g, k * 7, none⟩ = some (.string ⟨d.nm.toArray⟩) := (hrow'.cellAt (k * 7) (by omega)).trans y0
    have y1 := flat_at (f := clC) (k := 7) (fun _ => rfl) hdk (t := 1) (u := .string ⟨d.su.toArray⟩) rfl
    have c1 : wr0.cell? ⟨g, k * 7 + 1, none⟩ = some (.string ⟨d.su.toArray⟩) := (hrow'.cellAt (k * 7 + 1) (by omega)).trans y1
    have y2 := flat_at (f := clC) (k := 7) (fun _ => rfl) hdk (t := 2) (u := .bool d.fc) rfl
    have c2' : wr0.cell? ⟨g, k * 7 + 2, none⟩ = some (.bool d.fc) := (hrow'.cellAt (k * 7 + 2) (by omega)).trans y2
    have y3 := flat_at (f := clC) (k := 7) (fun _ => rfl) hdk (t := 3) (u := .bool d.ab) rfl
    have c3 : wr0.cell? ⟨g, k * 7 + 3, none⟩ = some (.bool d.ab) := (hrow'.cellAt (k * 7 + 3) (by omega)).trans y3
    have y4 := flat_at (f := clC) (k := 7) (fun _ => rfl) hdk (t := 4) (u := .slice d.A1 d.is.length d.c1) rfl
    have c4 : wr0.cell? ⟨g, k * 7 + 4, none⟩ = some (.slice d.A1 m1 d.c1) := by rw [hm1]; exact (hrow'.cellAt (k * 7 + 4) (by omega)).trans y4
    have y5 := flat_at (f := clC) (k := 7) (fun _ => rfl) hdk (t := 5) (u := .slice d.A2 d.fs.length d.c2) rfl
    have c5 : wr0.cell? ⟨g, k * 7 + 5, none⟩ = some (.slice d.A2 m2 d.c2) := by rw [hm2]; exact (hrow'.cellAt (k * 7 + 5) (by omega)).trans y5
    have y6 := flat_at (f := clC) (k := 7) (fun _ => rfl) hdk (t := 6) (u := .slice d.A3 d.ms.length d.c3) rfl
    have c6 : wr0.cell? ⟨g, k * 7 + 6, none⟩ = some (.slice d.A3 m3 d.c3) := by rw [hm3]; exact (hrow'.cellAt (k * 7 + 6) (by omega)).trans y6
    obtain ⟨W4, hW4⟩ : ∃ u, u = wr0.alloc (.cells #[.string ⟨d.nm.toArray⟩, .string ⟨d.su.toArray⟩, .bool d.fc, .bool d.ab, .slice d.A1 m1 d.c1, .slice d.A2 m2 d.c2, .slice d.A3 m3 d.c3] 35) := ⟨_, rfl⟩
    have hnew : W4.heap[wr0.heap.size]? = some (.cells #[.string ⟨d.nm.toArray⟩, .string ⟨d.su.toArray⟩, .bool d.fc, .bool d.ab, .slice d.A1 m1 d.c1, .slice d.A2 m2 d.c2, .slice d.A3 m3 d.c3] 35 (0, 0)) := by rw [hW4]; exact heap_alloc_new wr0 _
    have hal4 : Below wr0.heap.size wr0 W4 := by rw [hW4]; exact (Below.refl _ _).alloc (Nat.le_refl _) _
    have hhw : hv ≤ wr0.heap.size := Nat.le_trans HZ2.out hbw.size
    have hsp4 := hsp.below hal4
    have HSS := hh (so_is hv k W4 (sortK z k) d hsp4 hdk (by omega) (Nat.le_trans hhw hal4.size))
    have HSS2 := hh (fun w (hs : Sp hv w { sortK z k with cs := (sortK z k).cs.set k { d with is := sortS ltT d.is } }) (hh : hv ≤ w.heap.size) =>
      so_fs hv k w { sortK z k with cs := (sortK z k).cs.set k { d with is := sortS ltT d.is } } { d with is := sortS ltT d.is } hs (by dsimp only; rw [List.getElem?_set_self (List.getElem?_eq_some_iff.1 hdk).1]) (by dsimp only; omega) hh)
    have HSS3 := hh (fun w (hs : Sp hv w { sortK z k with cs := (sortK z k).cs.set k { d with is := sortS ltT d.is, fs := sortS ltF d.fs } }) (hh : hv ≤ w.heap.size) =>
      so_ms hv k w { sortK z k with cs := (sortK z k).cs.set k { d with is := sortS ltT d.is, fs := sortS ltF d.fs } } { d with is := sortS ltT d.is, fs := sortS ltF d.fs } hs (by dsimp only; rw [List.getElem?_set_self (List.getElem?_eq_some_iff.1 hdk).1]) (by dsimp only; omega) hh)
    dsimp only at HSS HSS2 HSS3
    rw [← hm1] at HSS
    simp only [List.set_set] at HSS2 HSS3
    rw [← hm2] at HSS2
    rw [← hm3] at HSS3
    have HNX := hh (show { sortK z k with cs := (sortK z k).cs.set k { d with is := sortS ltT d.is, fs := sortS ltF d.fs, ms := sortS ltM d.ms } } = sortK z (k + 1) from sortK_next hd)
    have HNEW := hh hnew; have HAL4 := hh hal4; have HHW := hh hhw; have HWW := hh hW4
    clear hsp hbw hd hdm hfd hdk hm1 hm2 hm3 hrow hrow' hA hgb hgh y0 y1 y2 y3 y4 y5 y6 hnew hal4 hsp4 hhw hW4
    rw [hA']
    clear hA'
    go_wp2_with fail
    rw [← HWW.out]
    (try go_wp2_with fail)
    refine HSS.out.mono ?_
    rintro e v3 ⟨rfl, hs3, hb3, hk3⟩
    have hn3 := hk3 _ _ _ HNEW.out
    have f5 : v3.cell? ⟨wr0.heap.size, 5, none⟩ = some (.slice d.A2 m2 d.c2) := cell_of_row _ _ 5 _ _ _ hn3
    have hz3 : hv ≤ v3.heap.size := Nat.le_trans HHW.out (Nat.le_trans HAL4.out.size hb3.size)
    have HS3 := hh (HSS2.out v3 hs3 hz3)
    have HN3 := hh hn3; have HB3 := hh ((HAL4.out.mono HHW.out).trans hb3); have HZ3 := hh hz3
    clear hs3 hb3 hk3 hn3 hz3 c0 c1 c2' c3 c4 c5 c6
    go_wp2_with fail
    refine HS3.out.mono ?_
    rintro e v4 ⟨rfl, hs4, hb4, hk4⟩
    have hn4 := hk4 _ _ _ HN3.out
    have f6 : v4.cell? ⟨wr0.heap.size, 6, none⟩ = some (.slice d.A3 m3 d.c3) := cell_of_row _ _ 6 _ _ _ hn4
    have hz4 : hv ≤ v4.heap.size := Nat.le_trans HZ3.out hb4.size
    have HS4 := hh (HSS3.out v4 hs4 hz4)
    have HB4 := hh (HB3.out.trans hb4)
    clear hs4 hb4 hk4 hn4 hz4 f5
    go_wp2_with fail
    refine HS4.out.mono ?_
    rintro e v5 ⟨rfl, hs5, hb5, -⟩
    have HS5 := hh (show Sp hv v5 (sortK z (k + 1)) from by rw [← HNX.out]; exact hs5)
    have HB5 := hh (HBR.out.trans (HB4.out.trans hb5))
    clear hs5 hb5 f6
    go_wp2
    go_roundw
    case rel => exact ⟨k + 1, by go_num, by omega, HS5.out, HB5.out⟩
    case measure => simp [intOf]; omega
  · have hltI : ¬ (k : Int) < (n : Int) := by omega
    have hx9 := (hbw.block _ (by rw [HHV.out]; exact G1.out)).trans HX2.out
    have hy9 := (hbw.block _ (by rw [HHV.out]; exact G2.out)).trans HY2.out
    obtain ⟨e0, e1, e2, e3, e4⟩ := c5q hx9
    have z0 : wr0.cell? ⟨v.heap.size + 1, 0, none⟩ = some (.slice none 0 0) := cell_of_row _ _ 0 _ _ _ hy9
    have zf0 := frozen_of_row _ _ 0 _ _ hy9
    have z1 : wr0.cell? ⟨v.heap.size + 1, 1, none⟩ = some (.slice none 0 0) := cell_of_row _ _ 1 _ _ _ hy9
    have zf1 := frozen_of_row _ _ 1 _ _ hy9
    have z2 : wr0.cell? ⟨v.heap.size + 1, 2, none⟩ = some (.string ⟨#[]⟩) := cell_of_row _ _ 2 _ _ _ hy9
    have zf2 := frozen_of_row _ _ 2 _ _ hy9
    have z3 : wr0.cell? ⟨v.heap.size + 1, 3, none⟩ = some (.string ⟨#[]⟩) := cell_of_row _ _ 3 _ _ _ hy9
    have zf3 := frozen_of_row _ _ 3 _ _ hy9
    have z4 : wr0.cell? ⟨v.heap.size + 1, 4, none⟩ = some (.string ⟨#[]⟩) := cell_of_row _ _ 4 _ _ _ hy9
    have zf4 := frozen_of_row _ _ 4 _ _ hy9
    have s0 := heap_setCell_same _ (v.heap.size + 1) 0 _ _ (.slice z.A1 n z.c1) hy9
    have s1 := heap_setCell_same _ (v.heap.size + 1) 1 _ _ (.slice z.A2 n2 z.c2) s0
    have s2 := heap_setCell_same _ (v.heap.size + 1) 2 _ _ (.string ⟨z.ec.toArray⟩) s1
    have s3 := heap_setCell_same _ (v.heap.size + 1) 3 _ _ (.string ⟨z.en.toArray⟩) s2
    have s4 := heap_setCell_same _ (v.heap.size + 1) 4 _ _ (.string ⟨z.ed.toArray⟩) s3
    obtain ⟨WF, hWF⟩ : ∃ WF, WF = (((((wr0.setCell ⟨v.heap.size + 1, 0, none⟩ (.slice z.A1 n z.c1)).setCell ⟨v.heap.size + 1, 1, none⟩ (.slice z.A2 n2 z.c2)).setCell ⟨v.heap.size + 1, 2, none⟩ (.string ⟨z.ec.toArray⟩)).setCell ⟨v.heap.size + 1, 3, none⟩ (.string ⟨z.en.toArray⟩)).setCell ⟨v.heap.size + 1, 4, none⟩ (.string ⟨z.ed.toArray⟩)) := ⟨_, rfl⟩
    rw [← hWF] at s4
    have sF : WF.heap[v.heap.size + 1]? = some (.cells #[.slice z.A1 n z.c1, .slice z.A2 n2 z.c2, .string ⟨z.ec.toArray⟩, .string ⟨z.en.toArray⟩, .string ⟨z.ed.toArray⟩] 27 (0, 0)) := by rw [s4]; simp
    obtain ⟨r0, r1, r2, r3, r4⟩ := c5q sF
    have gB : wr0.grownBy WF (some (v.heap.size + 1)) := by rw [hWF]; exact (gb_trans (gb_trans (gb_trans (gb_trans (gb_set _ (v.heap.size + 1) 0 _) (gb_set _ (v.heap.size + 1) 1 _)) (gb_set _ (v.heap.size + 1) 2 _)) (gb_set _ (v.heap.size + 1) 3 _)) (gb_set _ (v.heap.size + 1) 4 _))
    have hBV : Below v.heap.size v wr0 := HBW2.out.trans (hbw.mono (by rw [HHV.out]; exact Nat.le_of_lt G1.out))
    have hBF : Below v.heap.size v WF := by rw [hWF]; exact ((((hBV.setCell (p := ⟨v.heap.size + 1, 0, none⟩) (by simp) _).setCell (p := ⟨v.heap.size + 1, 1, none⟩) (by simp) _).setCell (p := ⟨v.heap.size + 1, 2, none⟩) (by simp) _).setCell (p := ⟨v.heap.size + 1, 3, none⟩) (by simp) _).setCell (p := ⟨v.heap.size + 1, 4, none⟩) (by simp) _
    have ho := hsp.1
    rw [sortK_all z (by rw [← HN.out]; omega)] at ho
    have hg2 : v.heap.size + 1 < hv := by rw [HHV.out]; exact G2.out
    have HRS := hh (HPZ.out WF ⟨own_base (own_gb ho.1 hg2 gB) (by omega), own_base (own_gb ho.2.1 hg2 gB) (by omega), fun y hy => ((ho.2.2 y hy).gb hg2 gB).mono (by omega)⟩ hBF)
    have HWF := hh hWF
    have R0 := hh r0; have R1 := hh r1; have R2 := hh r2; have R3 := hh r3; have R4 := hh r4
    have HEQ := hh (show (prC (sortPm z)).toArray = #[.slice z.A1 n z.c1, .slice z.A2 n2 z.c2, .string ⟨z.ec.toArray⟩, .string ⟨z.en.toArray⟩, .string ⟨z.ed.toArray⟩] from by unfold prC sortPm; rw [HN.out, HN2.out]; simp [sortS_length])
    clear hx9 hy9 hWF gB hbw sF s0 r0 s1 r1 s2 r2 s3 r3 s4 r4 hsp ho hBV hBF hg2
    go_wp2
    rw [← HWF.out]
    refine bodyPost_ret (v := .agg #[.slice z.A1 n z.c1, .slice z.A2 n2 z.c2, .string ⟨z.ec.toArray⟩, .string ⟨z.en.toArray⟩, .string ⟨z.ed.toArray⟩]) ?_ rfl (by rw [← HEQ.out]; exact HRS.out)
    simp [results, Tryz.results6, go_sem, R0.out, R1.out, R2.out, R3.out, R4.out]
end Go.Proofs.YtgociheckcpjkaaGreatDoor.prg
namespace Go.Proofs.YtgociheckcpjkaaGreatDoor.prg
open Go.RowKit
open words kindp opp op kind word keep sorts
set_option linter.all false
theorem map_mrg {α β : Type} {lt : α → α → Bool} {lt' : β → β → Bool} {f : α → β} (h : ∀ a b, lt a b = lt' (f a) (f b)) (l r : List α) : (mrg lt l r).map f = mrg lt' (l.map f) (r.map f) := by
  fun_induction mrg lt l r with
  | case1 r => rw [List.map_nil, nil_mrg]
  | case2 a l => rw [List.map_nil, mrg_nil]
  | case3 a l b r e ih => rw [h] at e; simp only [List.map_cons] at ih ⊢; rw [mrg_right e, ih]
  | case4 a l b r e ih =>
    have e' : lt' (f b) (f a) = false := by rw [← h]; simpa using e
    simp only [List.map_cons] at ih ⊢; rw [mrg_left e', ih]
theorem map_sort {α β : Type} {lt : α → α → Bool} {lt' : β → β → Bool} {f : α → β} (h : ∀ a b, lt a b = lt' (f a) (f b)) (l : List α) : (sortS lt l).map f = sortS lt' (l.map f) := by
  induction l using snoc_rec with
  | h0 => rfl
  | h1 l x ih => rw [sortS_snoc, map_mrg h, ih, List.map_append, List.map_cons, List.map_nil, sortS_snoc]
def ltFP (a b : FiP) : Bool := ltT a.nm b.nm
def ltMP (a b : MeP) : Bool := ltT a.nm b.nm || ((a.nm == b.nm) && ltT a.ds b.ds)
def ltCP (a b : ClP) : Bool := ltT a.nm b.nm
def sortCP (c : ClP) : ClP := { c with is := sortS ltT c.is, fs := sortS ltFP c.fs, ms := sortS ltMP c.ms }
def sortPP (p : PrP) : PrP := { p with cs := (sortS ltCP p.cs).map sortCP }
theorem swo_fip : Swo ltFP := ⟨fun _ _ h => ltT_asymm h, fun _ _ _ h => ltT_split h⟩
theorem swo_clp : Swo ltCP := ⟨fun _ _ h => ltT_asymm h, fun _ _ _ h => ltT_split h⟩
theorem swo_mep : Swo ltMP :=
  ⟨fun a b h => swo_me.asymm ⟨a.nm, a.ds, false, false, 0, [], none, 0⟩ ⟨b.nm, b.ds, false, false, 0, [], none, 0⟩ h,
   fun a b c h => swo_me.split ⟨a.nm, a.ds, false, false, 0, [], none, 0⟩ ⟨b.nm, b.ds, false, false, 0, [], none, 0⟩ ⟨c.nm, c.ds, false, false, 0, [], none, 0⟩ h⟩
theorem pC_sort (c : ClM) : pC (sortC c) = sortCP (pC c) := by
  unfold pC sortC sortCP
  dsimp only
  rw [map_sort (f := pF) (lt := ltF) (lt' := ltFP) (fun _ _ => rfl), map_sort (f := pM) (lt := ltM) (lt' := ltMP) (fun _ _ => rfl)]
theorem pP_sort (z : PrM) : pP (sortPm z) = sortPP (pP z) := by
  unfold pP sortPm sortPP
  dsimp only
  rw [← map_sort (f := pC) (lt := ltC) (lt' := ltCP) (fun _ _ => rfl), List.map_map, List.map_map]
  congr 1
  exact List.map_congr_left fun c _ => pC_sort c
theorem sortCP_twice (c : ClP) : sortCP (sortCP c) = sortCP c := by
  unfold sortCP
  dsimp only
  rw [sortS_sortS swo_text, sortS_sortS swo_fip, sortS_sortS swo_mep]
theorem sortPP_twice (p : PrP) : sortPP (sortPP p) = sortPP p := by
  unfold sortPP
  dsimp only
  have e : sortS ltCP ((sortS ltCP p.cs).map sortCP) = (sortS ltCP p.cs).map sortCP := by
    rw [← map_sort (f := sortCP) (lt := ltCP) (lt' := ltCP) (fun _ _ => rfl), sortS_sortS swo_clp]
  rw [e, List.map_map]
  congr 1
  exact List.map_congr_left fun c _ => sortCP_twice c
theorem asc_rises {α : Type} {lt : α → α → Bool} (h : Swo lt) : ∀ {l : List α}, risesB lt l = true → Asc lt l
  | [], _ => List.Pairwise.nil
  | [a], _ => List.pairwise_singleton ..
  | a :: b :: l, hr => by
    have hab : lt a b = true := rises_at hr (j := 0) rfl rfl
    have ht : risesB lt (b :: l) = true := rises_yes fun j x y h1 h2 => rises_at hr (j := j + 1) (by simpa using h1) (by simpa using h2)
    have k := asc_rises h ht
    refine List.pairwise_cons.2 ⟨fun x hx => ?_, k⟩
    rcases List.mem_cons.1 hx with rfl | hx
    · exact h.asymm _ _ hab
    · exact h.le (h.asymm _ _ hab) ((List.pairwise_cons.1 k).1 x hx)
theorem sort_order {x : PrM} (h : orderB x = true) : sortPm x = x := by
  unfold orderB at h
  rw [Bool.and_eq_true, List.all_eq_true] at h
  unfold sortPm
  have e : ∀ c ∈ x.cs, sortC c = c := fun c hc => by
    have k := h.2 c hc
    unfold orderC at k
    rw [Bool.and_eq_true, Bool.and_eq_true] at k
    unfold sortC
    rw [sortS_asc swo_text _ (asc_rises swo_text k.1), sortS_asc swo_fi _ (asc_rises swo_fi k.2.1), sortS_asc swo_me _ (asc_rises swo_me k.2.2)]
  rw [sortS_asc swo_cl _ (asc_rises swo_cl h.1), List.map_congr_left (g := id) e, List.map_id]
end Go.Proofs.YtgociheckcpjkaaGreatDoor.prg
namespace Go.Proofs.YtgociheckcpjkaaGreatDoor.op
open Go.RowKit
open words kindp opp kind
set_option maxRecDepth 100000
set_option maxHeartbeats 8000000
end Go.Proofs.YtgociheckcpjkaaGreatDoor.op
namespace Go.Proofs.YtgociheckcpjkaaGreatDoor.op
open Go.RowKit
open words kindp opp kind
set_option maxRecDepth 100000
set_option maxHeartbeats 8000000
end Go.Proofs.YtgociheckcpjkaaGreatDoor.op
namespace Go.Proofs.YtgociheckcpjkaaGreatDoor.op
open Go.RowKit
open words kindp opp kind
set_option maxRecDepth 100000
set_option maxHeartbeats 8000000
theorem in_eq {i j : In} (h : i.ar = j.ar) (e0 : (i.o == j.o) = true) (e1 : (i.a == j.a) = true) (e2 : (i.b == j.b) = true) (e3 : (i.c == j.c) = true) (e4 : (i.k == j.k) = true) (e5 : (i.cl == j.cl) = true) (e6 : (i.nm == j.nm) = true) (e7 : (i.ds == j.ds) = true) : i = j := by
 obtain ⟨o, a, b, c, k, cl, nm, ds, ar⟩ := i
 obtain ⟨o', a', b', c', k', cl', nm', ds', ar'⟩ := j
 simp only [beq_iff_eq] at e0 e1 e2 e3 e4 e5 e6 e7
 subst e0 e1 e2 e3 e4 e5 e6 e7 h
 rfl
theorem same_r (i j : In) (A C : Option Addr) (c d : Nat) (w : World) (hr : Rd w A (IL i.ar)) (kr : Rd w C (IL j.ar)) (hl : i.ar.length ≤ 281474976710656) (hk : j.ar.length ≤ 281474976710656) :
  Calls Tryz.prog 106 #[.agg (InV i A c), .agg (InV j C d)] w fun e w' => e = .returned (.bool (decide (i = j))) ∧ Below w.heap.size w w' := by
 obtain ⟨W, hW⟩ : ∃ W, W = (w.alloc (.cells (InV i A c) 42)).alloc (.cells (InV j C d) 42) := ⟨_, rfl⟩
 have hal : Below w.heap.size w W := by rw [hW]; exact ((Below.refl _ w).alloc (Nat.le_refl _) _).alloc (by simp) _
 have HAL := hh hal
 have hbi : W.heap[w.heap.size]? = some (.cells (InV i A c) 42 (0, 0)) := by rw [hW]; exact (Below.heap_alloc _ _ _ (by simp)).trans (heap_alloc_new w _)
 have hbj : W.heap[w.heap.size + 1]? = some (.cells (InV j C d) 42 (0, 0)) := by
  rw [hW]
  have := heap_alloc_new (w.alloc (.cells (InV i A c) 42)) (.cells (InV j C d) 42)
  rwa [World.size_alloc] at this
 obtain ⟨a0, a1, a2, a3, a4, a5, a6, a7, a8⟩ := in_cells hbi
 obtain ⟨b0, b1, b2, b3, b4, b5, b6, b7, b8⟩ := in_cells hbj
 have h1 := hr.below hal
 have h2 := kr.below hal
 obtain ⟨n, hn⟩ : ∃ n, n = i.ar.length := ⟨_, rfl⟩
 obtain ⟨m, hm⟩ : ∃ m, m = j.ar.length := ⟨_, rfl⟩
 have hnI : (n : Int) ≤ 281474976710656 := by omega
 have hmI : (m : Int) ≤ 281474976710656 := by omega
 obtain ⟨R, hR⟩ : ∃ R, R = decide (i = j) := ⟨_, rfl⟩
 dsimp only [InV] at hW ⊢
 rw [← hR, ← hn, ← hm]
 rw [← hn] at hW a8
 rw [← hm] at hW b8
 have HR := hh hR; have HN := hh hn; have HM := hh hm; have HW := hh hW
 clear hl hk hR hal hbi hbj hr kr hW
 by_cases hnm : n = m
 ·subst hnm
  have hnn : ((n : Int) != n) = false := by simp
  clear hn hm
  go_enter Tryz.func106, Tryz.ntmps106
  go_wp2
  try simp only [World.size_alloc]
  rw [← HW.out]
  go_loopw [5] (fun z wr => ∃ k : Nat, k ≤ n ∧ z = .int .i64 (k : Int) ∧ (∃ q, wr = W.drewN q) ∧ i.ar.take k = j.ar.take k) (fun z _ => n - (intOf z).toNat)
  case atStart => exact ⟨0, Nat.zero_le _, rfl, ⟨0, rfl⟩, rfl⟩
  case round =>
   obtain ⟨k, hkn, rfl, ⟨q, rfl⟩, ht⟩ := hrel
   have HT := hh ht
   clear ht
   by_cases hlt : k < n
   ·obtain ⟨x, hx⟩ : ∃ x, i.ar[k]? = some x := ⟨i.ar[k]'(by have := HN.out; omega), List.getElem?_eq_getElem _⟩
    obtain ⟨y, hy⟩ : ∃ y, j.ar[k]? = some y := ⟨j.ar[k]'(by have := HM.out; omega), List.getElem?_eq_getElem _⟩
    have HX := hh hx; have HY := hh hy
    obtain ⟨p, rfl, _, hp⟩ := h1.at_ (IL_at hx)
    obtain ⟨s, rfl, _, hs⟩ := h2.at_ (IL_at hy)
    by_cases hxy : x = y
    ·subst hxy
     have hxx : (x != x) = false := by simp
     clear h1 h2 hx hy
     go_wp2
     go_quiet (fail)
     go_wp2
     go_roundw
     case rel => exact ⟨k + 1, by omega, by go_num, ⟨_, rfl⟩, by rw [List.take_add_one, List.take_add_one, HT.out, HX.out, HY.out]⟩
     case measure => simp [intOf]; omega
    ·have hxx : (x != y) = true := by simpa using hxy
     have hf : R = false := by
      rw [HR.out]
      refine decide_eq_false fun e => hxy ?_
      have h1 := HX.out
      rw [e, HY.out] at h1
      exact (Option.some.inj h1).symm
     subst hf
     clear h1 h2 hx hy hxy
     go_wp2
     go_quiet (fail)
     go_wp2
     go_ret
     exact ⟨rfl, over (over HAL.out)⟩
   ·have HEA := hh (show i.ar = j.ar by
     have h1 := HT.out
     rwa [List.take_of_length_le (by have := HN.out; omega), List.take_of_length_le (by have := HM.out; omega)] at h1)
    clear h1 h2
    cases e0 : (i.o == j.o) with
    | false =>
     obtain rfl : R = false := by rw [HR.out, in_ne (b := (i.o == j.o)) (fun h => by rw [h]; simp) e0]
     go_wp2
     go_ret
     exact ⟨rfl, over HAL.out⟩
    | true =>
     cases e1 : (i.a == j.a) with
     | false =>
      obtain rfl : R = false := by rw [HR.out, in_ne (b := (i.a == j.a)) (fun h => by rw [h]; simp) e1]
      go_wp2
      go_ret
      exact ⟨rfl, over HAL.out⟩
     | true =>
      cases e2 : (i.b == j.b) with
      | false =>
       obtain rfl : R = false := by rw [HR.out, in_ne (b := (i.b == j.b)) (fun h => by rw [h]; simp) e2]
       go_wp2
       go_ret
       exact ⟨rfl, over HAL.out⟩
      | true =>
       cases e3 : (i.c == j.c) with
       | false =>
        obtain rfl : R = false := by rw [HR.out, in_ne (b := (i.c == j.c)) (fun h => by rw [h]; simp) e3]
        go_wp2
        go_ret
        exact ⟨rfl, over HAL.out⟩
       | true =>
        cases e4 : (i.k == j.k) with
        | false =>
         obtain rfl : R = false := by rw [HR.out, in_ne (b := (i.k == j.k)) (fun h => by rw [h]; simp) e4]
         go_wp2
         go_ret
         exact ⟨rfl, over HAL.out⟩
        | true =>
         cases e5 : (i.cl == j.cl) with
         | false =>
          obtain rfl : R = false := by rw [HR.out, in_ne (b := (i.cl == j.cl)) (fun h => by rw [h]; simp) e5]
          go_wp2
          go_ret
          exact ⟨rfl, over HAL.out⟩
         | true =>
          cases e6 : (i.nm == j.nm) with
          | false =>
           obtain rfl : R = false := by rw [HR.out, in_ne (b := (i.nm == j.nm)) (fun h => by rw [h]; simp) e6]
           go_wp2
           go_ret
           exact ⟨rfl, over HAL.out⟩
          | true =>
           cases e7 : (i.ds == j.ds) with
           | false =>
            obtain rfl : R = false := by rw [HR.out, in_ne (b := (i.ds == j.ds)) (fun h => by rw [h]; simp) e7]
            go_wp2
            go_ret
            exact ⟨rfl, over HAL.out⟩
           | true =>
            obtain rfl : R = true := by
             rw [HR.out]
             refine decide_eq_true ?_
             exact in_eq HEA.out e0 e1 e2 e3 e4 e5 e6 e7
            go_wp2
            go_ret
            exact ⟨rfl, over HAL.out⟩
 ·have hnn : ((n : Int) != m) = true := by
   have : (n : Int) ≠ m := by omega
   simpa using this
  obtain rfl : R = false := by
   rw [HR.out]
   refine decide_eq_false fun e => hnm ?_
   rw [HN.out, HM.out, e]
  clear hn hm h1 h2
  go_enter Tryz.func106, Tryz.ntmps106
  go_wp2
  go_ret
  exact ⟨rfl, by rw [← HW.out]; exact HAL.out⟩
end Go.Proofs.YtgociheckcpjkaaGreatDoor.op
namespace Go.Proofs.YtgociheckcpjkaaGreatDoor.opTells
open Go.RowKit
open words kindp opp op kind
set_option maxRecDepth 100000
set_option maxHeartbeats 8000000
end Go.Proofs.YtgociheckcpjkaaGreatDoor.opTells

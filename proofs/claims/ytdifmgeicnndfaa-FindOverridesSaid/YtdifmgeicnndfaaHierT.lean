/- HierT -/
import Derived.Maps.OwnSet
import Derived.Maps.OwnIn
import Derived.Maps.Ext
import Derived.Test.YtdifmgeicnndfaaHierP
import Derived.Test.YtdifmgeicnndfaaKeep
import Derived.Sort.LoopGhostIn
import Derived.OrdersIn
import Derived.OrdersHeld
import Derived.Deep.RegionHeld
import Derived.Laws.Append
import Derived.Laws.CopyRow
namespace Go.Proofs.Ytdifmgeicnndfaa.prg
open Go.RowKit Go.Maps
open words kindp opp op kind word
set_option maxRecDepth 100000
set_option maxHeartbeats 4000000
set_option linter.all false
def placeI (cs : List ClM) (s : Tx) : Int := match cs.findIdx? (fun y => y.nm == s) with
 | some k => (k : Int)
 | none => -1
theorem place_of {cs : List ClM} {s : Tx} {r : Int} (h : Idx (fun y : ClM => y.nm == s) cs r) : r = placeI cs s := by
 rcases idx_two h with ⟨rfl, h, -⟩ | ⟨k, x, rfl, -, -, h, -⟩ <;> unfold placeI <;> rw [h]
theorem idx_ex {α : Type} (P : α → Bool) (l : List α) : ∃ r, Idx P l r := by
 cases h : l.findIdx? P with
 | none => exact ⟨-1, .inl ⟨rfl, List.findIdx?_eq_none_iff.1 h⟩⟩
 | some k =>
  obtain ⟨hk, hp, ha⟩ := List.findIdx?_eq_some_iff_getElem.1 h
  refine ⟨k, .inr ⟨k, l[k], rfl, List.getElem?_eq_getElem hk, hp, fun t ht => ?_⟩⟩
  obtain ⟨j, hj, rfl⟩ := List.getElem_of_mem ht
  rw [List.length_take] at hj
  have := ha j (by omega)
  rw [List.getElem_take]
  simpa using this
theorem place_two (cs : List ClM) (s : Tx) : (placeI cs s = -1 ∧ findC cs s = none) ∨ ∃ k c, placeI cs s = ((k : Nat) : Int) ∧ cs[k]? = some c ∧ c.nm = s ∧ findC cs s = some c := by
 obtain ⟨r, h⟩ := idx_ex (fun y : ClM => y.nm == s) cs
 have e := place_of h
 rcases idx_two h with ⟨h1, -, h2⟩ | ⟨k, x, h1, hx, hp, -, h2⟩
 ·exact .inl ⟨by rw [← e]; exact h1, h2⟩
 ·exact .inr ⟨k, x, by rw [← e]; exact h1, hx, by simpa using hp, h2⟩
theorem place_has (cs : List ClM) (s : Tx) : (placeI cs s != -1) = hasC cs s := by
 unfold hasC
 rcases place_two cs s with ⟨h1, h2⟩ | ⟨k, c, h1, -, -, h2⟩
 ·rw [h1, h2]; rfl
 ·rw [h1, h2]; simp
theorem place_le (cs : List ClM) (s : Tx) : -1 ≤ placeI cs s ∧ placeI cs s < (cs.length : Int) ∨ placeI cs s = -1 := by
 rcases place_two cs s with ⟨h1, -⟩ | ⟨k, c, h1, h2, -⟩
 ·exact .inr h1
 ·have := (List.getElem?_eq_some_iff.1 h2).1
  exact .inl ⟨by omega, by omega⟩
theorem law_s : Keyed Try.prog 9 := string_keyed Try.underlying9
theorem zero_i (w : World) : (zeroValue 3).run Try.prog w = .ok (.int .i64 0) w := by kernel_rfl
theorem zero_u (w : World) : (zeroValue 220).run Try.prog w = .ok (.agg #[]) w := by kernel_rfl
theorem key_s (s : Tx) (h : s.length ≤ 281474976710656) : keyOf Try.prog 9 (.string ⟨s.toArray⟩) = some (.string s) := by
 have := WideMaps.keyOf_string_mk (P := Try.prog) (s := ⟨s.toArray⟩) Try.underlying9 (by simp [ByteArray.size, maxLen]; omega)
 simpa using this
noncomputable def mapR : Value → Option (DataW Unit × List MemPlace) := plainElem (H := Unit) Try.prog 3
def KnD (cs : List ClM) (Kn : List Tx) (D : DataW Unit) : Prop := ∃ es, D = .map es ∧ ∀ p ∈ es, ∃ s ∈ Kn, p = (.string s, .lit (.int .i64 (placeI cs s)))
def KnM (cs : List ClM) (Kn : List Tx) (kb : Nat) (w : World) : Prop := ∃ n D, w.ownsMap Try.prog 9 mapR kb n D ∧ KnD cs Kn D
theorem KnM.same {cs : List ClM} {Kn : List Tx} {kb : Nat} {w w' : World} (h : KnM cs Kn kb w) (hb : w'.heap[kb]? = w.heap[kb]?) : KnM cs Kn kb w' := by
 obtain ⟨n, D, ⟨es, clock, h1, h2⟩, h3⟩ := h
 exact ⟨n, D, ⟨es, clock, hb.trans h1, h2⟩, h3⟩
theorem KnM.lt {cs : List ClM} {Kn : List Tx} {kb : Nat} {w : World} (h : KnM cs Kn kb w) : kb < w.heap.size := by
 obtain ⟨n, D, h, -⟩ := h
 exact h.lt
theorem KnM.map {cs : List ClM} {Kn : List Tx} {kb : Nat} {w : World} (h : KnM cs Kn kb w) : ∃ es c, w.heap[kb]? = some (.map es c) := by
 obtain ⟨n, D, ⟨es, clock, h1, -⟩, -⟩ := h
 exact ⟨es, clock, h1⟩
theorem KnM.made (cs : List ClM) (Kn : List Tx) (w : World) : KnM cs Kn w.heap.size (w.alloc (.map #[] 0)) := ⟨0, _, World.ownsMap_made _ _ _ _, [], rfl, fun p hp => by cases hp⟩
theorem tidy_len {es : List (Lit × DataW Unit)} {Kn : List Tx} (ht : es.Pairwise (fun p q => p.1 ≠ q.1)) (h : ∀ p ∈ es, ∃ s ∈ Kn, p.1 = .string s) : es.length ≤ Kn.length := by
 have key : ∀ p : Lit × DataW Unit, p ∈ es → p.1 = .string (match p.1 with | .string s => s | _ => []) := fun p hp => by obtain ⟨s, -, e⟩ := h p hp; rw [e]
 have := len_sub (l := es.map fun p => match p.1 with | .string s => s | _ => []) (m := Kn) (by
  unfold List.Nodup
  rw [List.pairwise_map]
  refine ht.imp_of_mem fun ha hb hne e => hne ?_
  rw [key _ ha, key _ hb, e]) (fun s hs => by
  obtain ⟨p, hp, rfl⟩ := List.mem_map.1 hs
  obtain ⟨s, hs, e⟩ := h p hp
  rw [e]; exact hs)
 simpa using this
theorem KnM.full {cs : List ClM} {Kn : List Tx} {kb : Nat} {w : World} (h : KnM cs Kn kb w) : ∃ D, w.ownsMap Try.prog 9 mapR kb Kn.length D ∧ KnD cs Kn D := by
 obtain ⟨n, D, h1, h2⟩ := h
 obtain ⟨es', e', ht⟩ := h1.tidy law_s
 obtain ⟨es, e2, hes⟩ := h2
 subst e2
 obtain rfl : es = es' := by injection e'
 have hlen := tidy_len ht fun p hp => by obtain ⟨s, hs, e⟩ := hes p hp; exact ⟨s, hs, by rw [e]⟩
 obtain ⟨e0, clock, h3, h4, -, h5⟩ := h1
 refine ⟨_, ⟨e0, clock, h3, h4, ?_, h5⟩, es, rfl, hes⟩
 have h6 : es = (e0.toList.map (WideElems.rg Try.prog 9 mapR)).foldr DataW.insert [] := by injection h5
 have := congrArg List.length h6
 rw [length_sorted, List.length_map] at this
 have h7 : e0.toList.length = e0.size := Array.length_toList
 omega
theorem knd_put {cs : List ClM} {Kn : List Tx} {D : DataW Unit} {s : Tx} (h : KnD cs Kn D) (hs : s ∈ Kn) : KnD cs Kn (D.put (.string s) (.lit (.int .i64 (placeI cs s)))) := by
 obtain ⟨es, rfl, hes⟩ := h
 refine ⟨_, rfl, fun p hp => ?_⟩
 rcases ChangeMaps.mem_insert_iff.1 hp with rfl | hp
 ·exact ⟨s, hs, rfl⟩
 ·exact hes p (List.mem_filter.1 hp).1
theorem knd_at {cs : List ClM} {Kn : List Tx} {D : DataW Unit} {s : Tx} {z : DataW Unit} (h : KnD cs Kn D) (ht : Tidy D) (hh : Maps.has D (.string s) = true) : D.atKey (.string s) z = .lit (.int .i64 (placeI cs s)) := by
 obtain ⟨es, rfl, hes⟩ := h
 obtain ⟨es', e', ht⟩ := ht
 obtain rfl : es = es' := by injection e'
 obtain ⟨p, hp, hk⟩ := List.any_eq_true.1 hh
 have hk := WideAt.sameKey_eq hk
 obtain ⟨s', hs', e⟩ := hes p hp
 have e2 : s' = s := by rw [e] at hk; injection hk
 subst e2
 exact WideAt.atKey_mem z (k := .string s') trivial ht (by rw [← e]; exact hp)
structure BelM (kb n : Nat) (w w' : World) : Prop where
 os : w'.os = w.os
 tape : w'.tape = w.tape
 output : w'.output = w.output
 size : w.heap.size ≤ w'.heap.size
 block : ∀ k, k < n → k ≠ kb → w'.heap[k]? = w.heap[k]?
 map : ∀ es c, w.heap[kb]? = some (.map es c) → ∃ es c, w'.heap[kb]? = some (.map es c)
theorem BelM.refl (kb n : Nat) (w : World) : BelM kb n w w := ⟨rfl, rfl, rfl, Nat.le_refl _, fun _ _ _ => rfl, fun es c h => ⟨es, c, h⟩⟩
theorem BelM.trans {kb n : Nat} {a b c : World} (h : BelM kb n a b) (k : BelM kb n b c) : BelM kb n a c :=
 ⟨k.os.trans h.os, k.tape.trans h.tape, k.output.trans h.output, Nat.le_trans h.size k.size, fun i hi hn => (k.block i hi hn).trans (h.block i hi hn), fun es cl he => by obtain ⟨es', c', h'⟩ := h.map es cl he; exact k.map es' c' h'⟩
theorem BelM.mono {kb n n' : Nat} {a b : World} (h : BelM kb n a b) (hn : n' ≤ n) : BelM kb n' a b := { h with block := fun k hk => h.block k (by omega) }
theorem BelM.of {kb n : Nat} {a b : World} (h : Below n a b) (hk : kb < n) : BelM kb n a b := ⟨h.os, h.tape, h.output, h.size, fun k hk _ => h.block k hk, fun es c he => ⟨es, c, (h.block kb hk).trans he⟩⟩
theorem BelM.cell {kb : Nat} {w w' : World} (h : BelM kb w.heap.size w w') (hm : ∃ es c, w.heap[kb]? = some (.map es c)) (p : Addr) (hp : p.block < w.heap.size) : w'.cell? p = w.cell? p := by
 by_cases e : p.block = kb
 ·obtain ⟨es, c, h1⟩ := hm
  obtain ⟨es', c', h2⟩ := h.map es c h1
  unfold World.cell?
  rw [e, h1, h2]
 ·exact World.cell?_of_block (h.block _ hp e)
theorem Rd.belm {kb : Nat} {w w' : World} {A : Option Addr} {xs : List Value} (h : Rd w A xs) (hb : BelM kb w.heap.size w w') (hm : ∃ es c, w.heap[kb]? = some (.map es c)) : Rd w' A xs := h.keep hb.size (hb.cell hm)
theorem ClOk.belm {kb : Nat} {w w' : World} {x : ClM} (h : ClOk w x) (hb : BelM kb w.heap.size w w') (hm : ∃ es c, w.heap[kb]? = some (.map es c)) : ClOk w' x :=
 ⟨⟨h.1.1, Rd.belm h.1.2 hb hm⟩, ⟨h.2.1.1, Rd.belm h.2.1.2 hb hm⟩, ⟨h.2.2.1.1, Rd.belm h.2.2.1.2 hb hm⟩, fun y hy => ⟨(h.2.2.2 y hy).1, Rd.belm (h.2.2.2 y hy).2.1 hb hm, fun z hz => ⟨((h.2.2.2 y hy).2.2 z hz).1, Rd.belm ((h.2.2.2 y hy).2.2 z hz).2 hb hm⟩⟩⟩
theorem PrOk.belm {kb : Nat} {w w' : World} {x : PrM} (h : PrOk w x) (hb : BelM kb w.heap.size w w') (hm : ∃ es c, w.heap[kb]? = some (.map es c)) : PrOk w' x :=
 ⟨⟨h.1.1, Rd.belm h.1.2 hb hm⟩, ⟨h.2.1.1, Rd.belm h.2.1.2 hb hm⟩, fun y hy => ClOk.belm (h.2.2 y hy) hb hm⟩
theorem BelM.stored {kb n : Nat} {w w' : World} (hg : w.grownBy w' (some kb)) (hn : n ≤ w.heap.size) (hm : ∃ es c, w'.heap[kb]? = some (.map es c)) : BelM kb n w w' :=
 ⟨hg.os, hg.tape, hg.output, hg.size, fun k hk hne => hg.block k (by omega) (fun e => hne (by cases e; rfl)), fun _ _ _ => hm⟩
def trC (x : PrM) (kb : Nat) : List Value := prC x ++ [.map (some kb)]
theorem place_t (x : PrM) (kb : Nat) (Kn : List Tx) (s : Tx) (w : World) (hr : Rd w x.A1 (x.cs.flatMap clC)) (hl : x.cs.length ≤ 281474976710656) (hm : KnM x.cs Kn kb w) (hs : s ∈ Kn) (hsl : s.length ≤ 281474976710656) (hKn : Kn.length ≤ 281474976710656) :
  Calls Try.prog 130 #[.agg (trC x kb).toArray, .string ⟨s.toArray⟩] w fun e w' => e = .returned (.int .i64 (placeI x.cs s)) ∧ KnM x.cs Kn kb w' ∧ BelM kb w.heap.size w w' := by
 obtain ⟨W, hW⟩ : ∃ W, W = w.alloc (.cells (trC x kb).toArray 160) := ⟨_, rfl⟩
 have hal : Below w.heap.size w W := by rw [hW]; exact (Below.refl _ w).alloc (Nat.le_refl _) _
 have hblk : W.heap[w.heap.size]? = some (.cells (trC x kb).toArray 160 (0, 0)) := by rw [hW]; exact heap_alloc_new w _
 have hkl := hm.lt
 have hmW := hm.same (hal.block kb hkl)
 obtain ⟨D, hown, hkd⟩ := hmW.full
 have htd := hown.tidy law_s
 have hkey := key_s s hsl
 have hpl := place_le x.cs s
 have hwf : (Lit.int .i64 (placeI x.cs s)).wf = true := by
  have : -9223372036854775808 ≤ placeI x.cs s ∧ placeI x.cs s < 9223372036854775808 := by omega
  simp only [Lit.wf, IntKind.min, IntKind.max, IntKind.signed, IntKind.bits, Bool.and_eq_true, decide_eq_true_eq, if_true]; omega
 have HCL := zh (fun v (hv : Below W.heap.size W v) => place_cl x s v ((hr.below hal).below hv) hl)
 have HC := zh (fun v (hv : Below W.heap.size W v) => show v.cell? ⟨w.heap.size, 0, none⟩ = some (.slice x.A1 x.cs.length x.c1) ∧ v.cell? ⟨w.heap.size, 1, none⟩ = some (.slice x.A2 x.ns.length x.c2) ∧ v.cell? ⟨w.heap.size, 2, none⟩ = some (.string ⟨x.ec.toArray⟩) ∧ v.cell? ⟨w.heap.size, 3, none⟩ = some (.string ⟨x.en.toArray⟩) ∧ v.cell? ⟨w.heap.size, 4, none⟩ = some (.string ⟨x.ed.toArray⟩) ∧ v.cell? ⟨w.heap.size, 5, none⟩ = some (.map (some kb)) from by
  have hb := (hv.block _ (blk_lt hblk)).trans hblk
  exact ⟨cell_of_row _ _ 0 _ _ _ hb, cell_of_row _ _ 1 _ _ _ hb, cell_of_row _ _ 2 _ _ _ hb, cell_of_row _ _ 3 _ _ _ hb, cell_of_row _ _ 4 _ _ _ hb, cell_of_row _ _ 5 _ _ _ hb⟩)
 have HAL := zh hal; have HKD := zh hkd; have HOW := zh hown; have HWF := zh hwf; have HKB := zh (show kb < W.heap.size from Nat.lt_of_lt_of_le hkl hal.size); have HKL := zh hkl
 have HMW := zh hmW; have HS := zh hs
 obtain ⟨P, hP⟩ : ∃ P, P = placeI x.cs s := ⟨_, rfl⟩
 have HP := zh hP
 rw [← hP] at HWF ⊢
 obtain ⟨x0, x1, x2, x3, x4, x5⟩ := HC.out W (Below.refl _ _)
 cases hh : Maps.has D (.string s) with
 | true =>
  have HAT := zh (fun z => knd_at (z := z) hkd htd hh)
  unfold trC prC at hW ⊢
  try dsimp only [List.cons_append, List.nil_append] at hW ⊢
  have HW := zh hW
  clear hW hal hblk hkd htd hwf hm hmW hs hr hl hpl hkl hKn hsl hP
  go_enter Try.func130, Try.ntmps130
  go_wp2_with (at_lookup; rw [← HW.out]; refine wpList_lookup_own_ok_int _ rfl _ _ 158 rfl 9 3 .i64 law_s Try.underlying158 Try.underlying3 (zero_i _) kb Kn.length D rfl HOW.out _ _ rfl hkey ?_; intro c hat hwc; rw [hh])
  have hc : c = P := by
   have := hat.symm.trans (HAT.out _)
   rw [← HP.out] at this
   injection this with h1
   injection h1 with h2 h3
  subst hc
  go_wp2
  go_ret
  exact ⟨rfl, HMW.out, BelM.of HAL.out HKL.out⟩
 | false =>
  have hKI : (Kn.length : Int) ≤ 281474976710656 := by omega
  have HKN := zh hKn
  unfold trC prC at hW ⊢
  try dsimp only [List.cons_append, List.nil_append] at hW ⊢
  have HW := zh hW
  unfold prC at HCL
  clear hW hal hblk hkd htd hwf hm hmW hs hr hl hpl hkl hKn hsl hP
  go_enter Try.func130, Try.ntmps130
  go_wp2_with (at_lookup; rw [← HW.out]; refine wpList_lookup_own_ok_int _ rfl _ _ 158 rfl 9 3 .i64 law_s Try.underlying158 Try.underlying3 (zero_i _) kb Kn.length D rfl HOW.out _ _ rfl hkey ?_; intro c hat hwc; rw [hh])
  refine (HCL.out W (Below.refl _ _)).mono ?_
  rintro e w1 ⟨r, rfl, hix, hb1⟩
  obtain rfl : r = P := by rw [HP.out]; exact place_of hix
  have HB1 := zh hb1
  have HO1 := zh (HOW.out.kept (row := none) ⟨hb1.os, hb1.tape, hb1.output, hb1.size, fun k hk _ => hb1.block k hk⟩ (by simp))
  obtain ⟨y0, y1, y2, y3, y4, y5⟩ := HC.out w1 hb1
  clear hix hb1 hat hwc x0 x1 x2 x3 x4 x5
  go_wp2_with (at_mapUpdate; refine wpList_mapUpdate_own _ rfl _ _ _ 158 rfl 9 3 law_s Try.underlying158 mapR kb Kn.length D rfl HO1.out (by have := HKN.out; unfold maxLen; omega) _ _ _ rfl rfl hkey _ [] (plainElem_int Try.underlying3 HWF.out) ?_; intro w2 hown2 hg2)
  have HK2 := zh (show KnM x.cs Kn kb w2 from ⟨_, _, hown2, by rw [HP.out]; exact knd_put HKD.out HS.out⟩)
  have HB2 := zh (((BelM.of HAL.out HKL.out).trans (BelM.of (HB1.out.mono HAL.out.size) HKL.out)).trans (BelM.stored hg2 (Nat.le_trans HAL.out.size HB1.out.size) HK2.out.map))
  clear hown2 hg2
  go_wp2
  go_ret
  exact ⟨rfl, HK2.out, HB2.out⟩
theorem has_t (x : PrM) (kb : Nat) (Kn : List Tx) (s : Tx) (w : World) (hr : Rd w x.A1 (x.cs.flatMap clC)) (hl : x.cs.length ≤ 281474976710656) (hm : KnM x.cs Kn kb w) (hs : s ∈ Kn) (hsl : s.length ≤ 281474976710656) (hKn : Kn.length ≤ 281474976710656) :
  Calls Try.prog 162 #[.agg (trC x kb).toArray, .string ⟨s.toArray⟩] w fun e w' => e = .returned (.bool (hasC x.cs s)) ∧ KnM x.cs Kn kb w' ∧ BelM kb w.heap.size w w' := by
 obtain ⟨W, hW⟩ : ∃ W, W = w.alloc (.cells (trC x kb).toArray 160) := ⟨_, rfl⟩
 have hal : Below w.heap.size w W := by rw [hW]; exact (Below.refl _ w).alloc (Nat.le_refl _) _
 have hblk : W.heap[w.heap.size]? = some (.cells (trC x kb).toArray 160 (0, 0)) := by rw [hW]; exact heap_alloc_new w _
 have hkl := hm.lt
 have HPL := zh (place_t x kb Kn s W (hr.below hal) hl (hm.same (hal.block kb hkl)) hs hsl hKn)
 obtain ⟨x0, x1, x2, x3, x4, x5⟩ := c6q hblk
 have HAL := zh hal; have HKL := zh hkl
 have hph := place_has x.cs s
 obtain ⟨b, hb⟩ : ∃ b, b = hasC x.cs s := ⟨_, rfl⟩
 obtain ⟨P, hP⟩ : ∃ P, P = placeI x.cs s := ⟨_, rfl⟩
 rw [← hb, ← hP] at hph
 rw [← hP] at HPL
 rw [← hb]
 unfold trC prC at hW HPL ⊢
 try dsimp only [List.cons_append, List.nil_append] at hW HPL ⊢
 have HW := zh hW
 clear hW hal hblk hm hs hr hl hkl hKn hsl hb hP
 go_enter Try.func162, Try.ntmps162
 go_wp2_with fail
 rw [← HW.out]
 go_wp2_with fail
 refine HPL.out.mono ?_
 rintro e w1 ⟨rfl, hk1, hb1⟩
 have HK1 := zh hk1
 have HB1 := zh ((BelM.of HAL.out HKL.out).trans (hb1.mono HAL.out.size))
 clear hk1 hb1
 go_wp2
 go_ret
 exact ⟨by rw [← hph]; rfl, HK1.out, HB1.out⟩
end Go.Proofs.Ytdifmgeicnndfaa.prg
namespace Go.Proofs.Ytdifmgeicnndfaa.words
open Go.RowKit
set_option maxRecDepth 100000
set_option maxHeartbeats 4000000
def onlyN (q : Act → World → Prop) : Exit → Act → World → Prop
 | .normal, a, w => q a w
 | _, _, _ => False
theorem onlyN_of {q : Act → World → Prop} {e : Exit} {a : Act} {w : World} (h : onlyN q e a w) : e = .normal ∧ q a w := by
 cases e with
 | normal => exact ⟨rfl, h⟩
 | _ => exact h.elim
def tameB : Op → Bool
 | .defer _ => false
 | _ => true
section
variable {n : Nat} {P : Program} {ops : Array Oper} {q : Act → World → Prop} {md : Region.Mode} {l : Nat}
theorem wpIn_of_tame {o : Oper} {a : Act} {w : World} {K : Act → World → Prop} {Q : Exit → Act → World → Prop} (hd : tameB o.op = true) (h : o.wp P a w K Q) : o.wpIn (Fence.wide.inRound l) n P a w K Q := by
 refine ⟨fun _ _ => trivial, ?_⟩
 rw [Oper.semAt_eq _ _ _ (fun c e => by rw [e] at hd; cases hd)]
 unfold Oper.wp at h
 generalize he : (execOp a.eval o).run P w = r at h
 cases r with
 | halt x w' => cases x <;> first | exact h | exact h.elim
 | ok nx w' =>
  cases nx with
  | value v => exact h
  | skip => exact h
  | defer d => exact h
  | enter f args => exact ⟨(fun hh => by simp [Fence.wide, Fence.inRound] at hh), (show CallsIn Fence.wide (n - 1) P f args w' _ from callsIn_wide.2 h)⟩
  | row row args => exact ⟨(fun hh => by simp [Fence.wide, Fence.inRound] at hh), (fun c cs _ => by
   obtain ⟨v, w'', r, s⟩ := h c cs
   exact ⟨v, w'', r, stepsIn_wide.2 s⟩)⟩
  | _ => exact h.elim
theorem wpOpIn_of_tame {i : Nat} {K K' : Act → World → Prop} {a : Act} {w : World} (hc : ∀ (j : Nat) o, ops[j]? = some o → tameB o.op = true) (hK : ∀ a w, K a w → K' a w)
 (h : wpOp P ops (onlyN q) i K a w) : wpOpIn (Fence.wide.inRound l) n P ops (onlyN q) i K' a w := by
 unfold wpOp at h
 unfold wpOpIn
 cases ho : ops[i]? with
 | none => rw [ho] at h; exact hK _ _ h
 | some o =>
  rw [ho] at h
  simp only at h ⊢
  split
  ·rename_i hw
   rw [if_pos hw] at h
   rcases h with h | ⟨-, h⟩
   ·exact wpIn_of_tame (hc i o ho) (Oper.wp_mono hK h)
   ·exact absurd h (by rintro ⟨_, _, h⟩; exact h)
  ·rename_i hw
   rw [if_neg hw] at h
   exact ⟨fun _ _ => trivial, hK _ _ h⟩
theorem wpAnyIn_of_tame (hc : ∀ (j : Nat) o, ops[j]? = some o → tameB o.op = true) : ∀ (fuel : Nat) (listed : Array Bool) (a : Act) (w : World), wpAny P md ops (onlyN q) fuel listed a w → wpAnyIn (Fence.wide.inRound l) n P md ops (onlyN q) fuel listed a w
 | 0, _, _, _, h => h
 | fuel + 1, _, _, _, h => ⟨h.1, fun i hi => wpOpIn_of_tame hc (fun a' w' => wpAnyIn_of_tame hc fuel _ a' w') (h.2 i hi)⟩
theorem tame_all (h : ops.all (fun o => tameB o.op) = true) : ∀ (j : Nat) o, ops[j]? = some o → tameB o.op = true := fun j o hj => by
 obtain ⟨hlt, rfl⟩ := Array.getElem?_eq_some_iff.1 hj
 exact Array.all_eq_true.1 h j hlt
theorem wpIn_region_tame {S : World → Prop} {id : Nat} {a : Act} {w : World} (hm : P.follows .mixedOrders = true) (hc : ops.all (fun o => tameB o.op) = true) (hS : S w.drew)
 (h : S w.drew → wpAnyH P .any ops (onlyN q) S ops.size (Array.replicate ops.size false) a w.drew) : (Code.region id ops true).wpIn (Fence.wide.inRound l) n P (onlyN q) a w :=
 wpIn_region_any hm (wpAnyIn_of_tame (tame_all hc) _ _ _ _ (wpAny_of_held _ _ _ _ (h hS)))
end
end Go.Proofs.Ytdifmgeicnndfaa.words
namespace Go.Proofs.Ytdifmgeicnndfaa.prg
open Go.RowKit Go.Maps
open words kindp opp op kind word
set_option maxRecDepth 100000
set_option maxHeartbeats 4000000
set_option linter.all false
def yo : Obj → Bool
 | .cells _ t _ => t == 219 || t == 101 || t == 218 || t == 162 || t == 43
 | _ => true
structure KpX (kb n0 B : Nat) (W1 W2 : World) : Prop where
 bel : BelM kb n0 W1 W2
 same : W2.heap[kb]? = W1.heap[kb]?
 own : ∀ k o, B ≤ k → W1.heap[k]? = some o → yo o = true → W2.heap[k]? = some o
theorem KpX.refl (kb n0 B : Nat) (W : World) : KpX kb n0 B W W := ⟨BelM.refl _ _ _, rfl, fun _ _ _ h _ => h⟩
theorem KpX.trans {kb n0 B : Nat} {a b c : World} (h : KpX kb n0 B a b) (k : KpX kb n0 B b c) : KpX kb n0 B a c :=
 ⟨h.bel.trans k.bel, k.same.trans h.same, fun i o hi ho hy => k.own i o hi (h.own i o hi ho hy) hy⟩
theorem BelM.putObj {kb n0 l : Nat} {W : World} {o : Obj} (o' : Obj) (hl : n0 ≤ l) (hk : kb < n0) (h : W.heap[l]? = some o) : BelM kb n0 W (W.putObj l o') :=
 ⟨rfl, rfl, rfl, by simp, fun k hk _ => World.putObj_heap_other (by omega), fun es c he => ⟨es, c, (World.putObj_heap_other (by omega)).trans he⟩⟩
theorem KpX.putObj {kb n0 B l : Nat} {W : World} {o : Obj} (o' : Obj) (hl : n0 ≤ l) (hB : l < B) (hk : kb < n0) (h : W.heap[l]? = some o) : KpX kb n0 B W (W.putObj l o') :=
 ⟨BelM.putObj o' hl hk h, World.putObj_heap_other (by omega), fun k o hk ho _ => (World.putObj_heap_other (by omega)).trans ho⟩
structure KfX (kb B : Nat) (W1 W2 : World) : Prop where
 size : W1.heap.size ≤ W2.heap.size
 same : W2.heap[kb]? = W1.heap[kb]?
 own : ∀ k o, B ≤ k → W1.heap[k]? = some o → yo o = true → W2.heap[k]? = some o
theorem KfX.book {kb B l : Nat} {W W3 : World} {o' p' : Obj} (hl : l < B) (hk : kb ≠ l) (h : KfX kb B (W.putObj l o') W3) : KfX kb B W (W3.putObj l p') :=
 ⟨by have := h.size; simpa using this, (World.putObj_heap_other hk).trans (h.same.trans (World.putObj_heap_other hk)), fun k o hB ho hy => (World.putObj_heap_other (by omega)).trans (h.own k o hB ((World.putObj_heap_other (by omega)).trans ho) hy)⟩
structure KI (kb n0 B : Nat) (W1 W2 : World) : Prop where
 bel : BelM kb n0 W1 W2
 cls : ∀ k cs, B ≤ k → W1.heap[k]? = some (.cells cs 43 (0, 0)) → W2.heap[k]? = some (.cells cs 43 (0, 0))
theorem KI.refl (kb n0 B : Nat) (W : World) : KI kb n0 B W W := ⟨BelM.refl _ _ _, fun _ _ _ h => h⟩
theorem KI.trans {kb n0 B : Nat} {a b c : World} (h : KI kb n0 B a b) (k : KI kb n0 B b c) : KI kb n0 B a c :=
 ⟨h.bel.trans k.bel, fun i cs hi ho => k.cls i cs hi (h.cls i cs hi ho)⟩
theorem KI.putObj {kb n0 B l : Nat} {W : World} {o : Obj} (o' : Obj) (hl : n0 ≤ l) (hk : kb < n0) (h : W.heap[l]? = some o) (hc : o.isCells = false) : KI kb n0 B W (W.putObj l o') :=
 ⟨BelM.putObj o' hl hk h, fun k cs _ ho => by
  by_cases e : k = l
  ·subst e; rw [h] at ho; cases ho; cases hc
  ·exact (World.putObj_heap_other e).trans ho⟩
theorem KpX.ki {kb n0 B : Nat} {a b : World} (h : KpX kb n0 B a b) : KI kb n0 B a b := ⟨h.bel, fun k cs hk ho => h.own k _ hk ho (by simp [yo])⟩
theorem BelM.ki {kb n0 B : Nat} {a b : World} (h : BelM kb a.heap.size a b) (hn : n0 ≤ a.heap.size) (hm : ∃ es c, a.heap[kb]? = some (.map es c)) : KI kb n0 B a b :=
 ⟨h.mono hn, fun k cs _ ho => (h.block k (blk_lt ho) (fun e => by subst e; obtain ⟨es, c, h1⟩ := hm; rw [h1] at ho; cases ho)).trans ho⟩
theorem BelM.grown {kb : Nat} {a b : World} (h : BelM kb a.heap.size a b) : a.grownBy b (some kb) :=
 ⟨h.os, h.tape, h.output, h.size, fun k hk hne => h.block k hk (fun e => hne (by rw [e]))⟩
def AbX {β : Type} (kb B : Nat) (J : β → World → Prop) : Prop :=
 ∀ s W W' row, J s W → W.grownBy W' row → (∀ r, row = some r → r = kb ∨ (B ≤ r ∧ ∃ o : Obj, W.heap[r]? = some o ∧ yo o = true)) → J s W'
section
variable {β : Type} {kb B : Nat} {J : β → World → Prop} {s : β} {W W' : World}
theorem AbX.below (h : AbX kb B J) (hs : J s W) (hb : Below W.heap.size W W') : J s W' := h s W W' none hs ⟨hb.os, hb.tape, hb.output, hb.size, fun k hk _ => hb.block k hk⟩ (fun r e => by cases e)
theorem AbX.belm (h : AbX kb B J) (hs : J s W) (hb : BelM kb W.heap.size W W') : J s W' := h s W W' (some kb) hs hb.grown (fun r e => by cases e; exact .inl rfl)
theorem AbX.turn {g : Nat} {o : Obj} (h : AbX kb B J) (hs : J s W) (hg : W.grownBy W' (some g)) (hB : B ≤ g) (ho : W.heap[g]? = some o) (hy : yo o = true) : J s W' := h s W W' _ hs hg (fun r e => by cases e; exact .inr ⟨hB, o, ho, hy⟩)
theorem AbX.ownFrom {B' : Nat} (h : AbX kb B J) (hB : B ≤ B') : OwnFrom B' J := fun s W W' row hs hg hr => h s W W' row hs hg (fun r e => by
 obtain ⟨h1, o, ho, hc⟩ := hr r e
 exact .inr ⟨by omega, o, ho, by cases o <;> first | rfl | cases hc⟩)
end
theorem roundIn_any {n m : Nat} {P : Program} {l : Nat} {f : FuncId} {tmps : Array Value} {assign body : Code} {w : World} {R : Ending → World → Prop} (h : RoundIn Fence.wide n P l f tmps assign body w R) : RoundIn Fence.wide m P l f tmps assign body w R :=
 ⟨h.1, fun c cs _ => h.2 c cs (room_wide _)⟩
def AbT {β : Type} (T : World → Nat → Prop) (J : β → World → Prop) : Prop :=
 ∀ s W W' row, J s W → W.grownBy W' row → (∀ r, row = some r → T W r) → J s W'
def Rnd (P : Program) (l : Nat) (L : List Tx) (Kp Kf : World → World → Prop) (J Jx : List Tx → World → Prop) : Prop :=
 ∀ pre x W1, J pre W1 → (pre ++ [x]) <+: L → YieldAt Fence.wide 0 P l #[.string ⟨x.toArray⟩] W1 fun e W' =>
  (e = .returned (.bool true) ∧ J (pre ++ [x]) W' ∧ Kp W1 W') ∨ (e = .returned (.bool false) ∧ Jx (pre ++ [x]) W' ∧ Kf W1 W')
def SeqT (T : Nat → World → Nat → Prop) (Kp Kf : Nat → World → World → Prop) (U V : World → Prop) (P : Program) (g : Nat) (lb : Array Value) (L : List Tx) : Prop :=
 ∀ (n l : Nat) (J Jx : List Tx → World → Prop) (W : World), U W → AbT (T W.heap.size) J → AbT (T W.heap.size) Jx → Rnd P l L (Kp W.heap.size) (Kf W.heap.size) J Jx → J [] W →
  CallsIn Fence.wide n P g (#[.func (.yield l) #[] #[]] ++ lb) W fun e W' => (∃ v, e = .returned v) ∧ V W' ∧ (J L W' ∨ ∃ pre, pre <+: L ∧ Jx pre W')
def OwnCut (W : World) (base : Nat) (v : Value) (xs : List Value) : Prop :=
 ∃ g j cap cur, v = .slice (some ⟨g, j, none⟩) xs.length cap ∧ base ≤ g ∧ W.heap[g]? = some (.cells cur 101 (0, 0)) ∧ xs.length ≤ cap ∧ cap ≤ maxLen ∧ j + cap ≤ cur.size + (if cap = 0 then j else 0) ∧ ∀ (i : Nat) u, xs[i]? = some u → cur[j + i]? = some u
theorem OwnCut.same {W W' : World} {base : Nat} {v : Value} {xs : List Value} (h : OwnCut W base v xs) (hk : ∀ g cur, base ≤ g → W.heap[g]? = some (.cells cur 101 (0, 0)) → W'.heap[g]? = W.heap[g]?) : OwnCut W' base v xs := by
 obtain ⟨g, j, cap, cur, rfl, h1, h2, h3⟩ := h
 exact ⟨g, j, cap, cur, rfl, h1, (hk g cur h1 h2).trans h2, h3⟩
theorem OwnCut.head {W : World} {base : Nat} {v : Value} {x : Value} {xs : List Value} (h : OwnCut W base v (x :: xs)) : ∃ g j cap, v = .slice (some ⟨g, j, none⟩) (xs.length + 1) cap ∧ xs.length + 1 ≤ cap ∧ cap ≤ maxLen ∧ W.cell? ⟨g, j, none⟩ = some x ∧ OwnCut W base (.slice (if cap = 1 then some ⟨g, j, none⟩ else some ⟨g, j + 1, none⟩) xs.length (cap - 1)) xs := by
 obtain ⟨g, j, cap, cur, rfl, h1, h2, h3, h4, h5, h6⟩ := h
 simp only [List.length_cons] at h3
 have h0 := h6 0 x rfl
 refine ⟨g, j, cap, rfl, h3, h4, (cell_of_row _ _ _ _ _ _ h2).trans h0, ?_⟩
 rw [if_neg (by omega)] at h5
 by_cases hc : cap = 1
 ·rw [if_pos hc]
  have hx : xs = [] := List.eq_nil_of_length_eq_zero (by omega)
  subst hx
  refine ⟨g, j, cap - 1, cur, rfl, h1, h2, by simp, by omega, ?_, by simp⟩
  rw [if_pos (by omega)]; omega
 ·rw [if_neg hc]
  refine ⟨g, j + 1, cap - 1, cur, rfl, h1, h2, by omega, by omega, ?_, fun i u hu => ?_⟩
  ·rw [if_neg (by omega)]; omega
  ·have := h6 (i + 1) u hu
   rw [show j + 1 + i = j + (i + 1) by omega]; exact this
theorem infoQ : (Try.prog.info? 101).map (fun i => (i.zero, i.size, i.bytes)) = some (some .nilFunc, 1, 8) := by kernel_rfl
theorem above_w (c : ClM) (w : World) :
  Calls Try.prog 163 #[.agg (clC c).toArray] w fun e w' => e = .returned (.func (.func 182) #[] #[.pointer (some ⟨w.heap.size, 0, none⟩)]) ∧ w' = w.alloc (.cells (clC c).toArray 43) := by
 unfold clC
 go_enter Try.func163, Try.ntmps163
 go_wp2
 go_ret
 exact ⟨rfl, rfl⟩
theorem onlyH_w (s : Tx) (w : World) :
  Calls Try.prog 126 #[.string ⟨s.toArray⟩] w fun e w' => e = .returned (.func (.func 105) #[] #[.pointer (some ⟨w.heap.size + 1, 0, none⟩)]) ∧ w' = (w.alloc (.cells #[.string ⟨s.toArray⟩] 9)).alloc (.cells #[.slice (some ⟨w.heap.size, 0, none⟩) 1 1] 23) := by
 go_enter Try.func126, Try.ntmps126
 go_wp2_with fail
 refine (find.vals_w _ _ _ _).mono ?_
 rintro e w2 ⟨rfl, rfl⟩
 go_wp2
 go_ret
 exact ⟨by simp, rfl⟩
theorem upwards_w (T : Array Value) (g : Nat) (lb : Array Value) (w : World) :
  Calls Try.prog 141 #[.agg T, .func (.func g) #[] lb] w fun e w' => e = .returned (.func (.func 161) #[] #[.pointer (some ⟨w.heap.size + 1, 0, none⟩), .pointer (some ⟨w.heap.size, 0, none⟩)]) ∧ w' = (w.alloc (.cells T 160)).alloc (.cells #[.func (.func g) #[] lb] 101) := by
 go_enter Try.func141, Try.ntmps141
 go_wp2
 go_ret
 exact ⟨by simp, rfl⟩
attribute [local go_sem] Oper.semAt_some
theorem valsK_in (n : Nat) (l Bs : Nat) (A : Option Addr) (c : Nat) (L : List Tx) (Kp : World → World → Prop) (hKr : ∀ W, Kp W W) (hKt : ∀ {a b c : World}, Kp a b → Kp b c → Kp a c) (W : World) (hA : ∀ W', Kp W W' → Rd W' A (SX L)) (hz : L.length ≤ 281474976710656) (J Jx : List Tx → World → Prop)
  (Kf : World → World → Prop) (hY : Rnd Try.prog l L Kp Kf J Jx)
  (hBs : W.cell? ⟨Bs, 0, none⟩ = some (.slice A L.length c)) (h0 : J [] W) :
  CallsIn Fence.wide n Try.prog 105 #[.func (.yield l) #[] #[], .pointer (some ⟨Bs, 0, none⟩)] W fun e W' => (∃ v, e = .returned v) ∧
   True ∧ (J L W' ∨ ∃ pre, pre <+: L ∧ Jx pre W') := by
 obtain ⟨m, hm⟩ : ∃ m, m = L.length := ⟨_, rfl⟩
 rw [← hm] at hBs hz
 have hzI : (m : Int) ≤ 281474976710656 := by omega
 have HM := zh hm; have HA := zh hA; have HY := zh hY
 have HR := zh (hKr W); have HT := zh (fun a b c (h : Kp a b) (k : Kp b c) => hKt h k)
 clear hm hA hY hz hKr hKt
 refine callsIn_of_wp Try.func105 rfl trivial ?_ rfl
 simp only [Try.ntmps105, List.size_toArray, List.length_cons, List.length_nil, Nat.reduceAdd, Nat.reduceSub, Array.replicate_succ, Array.replicate_zero, List.push_toArray, List.append_toArray, List.nil_append, List.cons_append]
 gi_wp2
 gi_loopw [7] (fun i wr => ∃ k : Nat, k ≤ m ∧ i = .int .i64 (k : Int) ∧ J (L.take k) wr ∧ Kp W wr) (fun i _ => m - (intOf i).toNat)
 case atStart => exact ⟨0, Nat.zero_le _, rfl, by rw [List.take_zero]; exact h0, HR.out⟩
 case round =>
  obtain ⟨k, hk, rfl, hJs, hbw⟩ := hrel
  by_cases hlt : k < m
  ·have hltI : (k : Int) < (m : Int) := by omega
   obtain ⟨x, hx⟩ : ∃ x, L[k]? = some x := ⟨L[k]'(by rw [← HM.out]; exact hlt), List.getElem?_eq_getElem _⟩
   obtain ⟨a, rfl, -, hc⟩ := (HA.out wr hbw).at_ (sx_get hx)
   have HTK := zh (show L.take (k + 1) = L.take k ++ [x] from by rw [List.take_add_one, hx]; rfl)
   have HBW := zh hbw
   obtain ⟨fn, tmps, assign, body, hy, hR⟩ := HY.out _ x wr hJs (by rw [← HTK.out]; exact List.take_prefix _ _)
   clear hx hJs hbw
   gi_wp2
   refine ⟨(fun hh => by simp [Fence.wide] at hh), (roundIn_any hR).mono ?_⟩
   rintro e W3 (⟨rfl, hJ3, hk3⟩ | ⟨rfl, hJx3, -⟩)
   ·gi_wp2
    go_roundw
    case rel => exact ⟨k + 1, by omega, by go_num, by rw [HTK.out]; exact hJ3, HT.out _ _ _ HBW.out hk3⟩
    case measure => simp [intOf]; omega
   ·gi_wp2
    refine bodyPost_ret (results_none rfl _ _ _) rfl ?_
    exact ⟨⟨_, rfl⟩, trivial, .inr ⟨_, by rw [← HTK.out]; exact List.take_prefix _ _, hJx3⟩⟩
  ·have hltI : ¬ (k : Int) < (m : Int) := by omega
   have HJ := zh (show J L wr from by rw [List.take_of_length_le (by rw [← HM.out]; omega)] at hJs; exact hJs)
   clear hJs hbw
   gi_wp2
   go_end0
   first | exact ⟨⟨_, rfl⟩, trivial, .inl HJ.out⟩ | exact ⟨⟨_, rfl⟩, .inl HJ.out⟩
theorem aboveK_in (n : Nat) (l Bc : Nat) (c : ClM) (Kp : World → World → Prop) (hKr : ∀ W, Kp W W) (hKt : ∀ {a b c : World}, Kp a b → Kp b c → Kp a c) (W : World) (hC : ∀ W', Kp W W' → W'.heap[Bc]? = some (.cells (clC c).toArray 43 (0, 0)) ∧ Rd W' c.A1 (SX c.is)) (hz : c.is.length ≤ 281474976710656) (J Jx : List Tx → World → Prop)
  (Kf : World → World → Prop) (hY : Rnd Try.prog l (abv c) Kp Kf J Jx)
  (h0 : J [] W) :
  CallsIn Fence.wide n Try.prog 182 #[.func (.yield l) #[] #[], .pointer (some ⟨Bc, 0, none⟩)] W fun e W' => (∃ v, e = .returned v) ∧
   True ∧ (J (abv c) W' ∨ ∃ pre, pre <+: abv c ∧ Jx pre W') := by
 obtain ⟨m, hm⟩ : ∃ m, m = c.is.length := ⟨_, rfl⟩
 rw [← hm] at hz
 have hzI : (m : Int) ≤ 281474976710656 := by omega
 have HM := zh hm
 have HC := zh (fun W' (h : Kp W W') => show (W'.cell? ⟨Bc, 1, none⟩ = some (.string ⟨c.su.toArray⟩) ∧ W'.cell? ⟨Bc, 4, none⟩ = some (.slice c.A1 m c.c1)) ∧ Rd W' c.A1 (SX c.is) from by
  obtain ⟨h1, h2⟩ := hC W' h
  rw [hm]
  exact ⟨⟨cell_of_row _ _ 1 _ _ _ h1, cell_of_row _ _ 4 _ _ _ h1⟩, h2⟩)
 have HY := zh hY
 have HR := zh (hKr W); have HT := zh (fun a b c (h : Kp a b) (k : Kp b c) => hKt h k)
 obtain ⟨⟨c1, c4⟩, -⟩ := HC.out W (hKr W)
 obtain ⟨fn, tmps, assign, body, hy, hR⟩ := hY [] c.su W h0 ⟨c.is, rfl⟩
 have hR' := zh hR
 clear hm hC hY hz hKr hKt h0 hR
 refine callsIn_of_wp Try.func182 rfl trivial ?_ rfl
 simp only [Try.ntmps182, List.size_toArray, List.length_cons, List.length_nil, Nat.reduceAdd, Nat.reduceSub, Array.replicate_succ, Array.replicate_zero, List.push_toArray, List.append_toArray, List.nil_append, List.cons_append]
 gi_wp2
 refine ⟨(fun hh => by simp [Fence.wide] at hh), (roundIn_any hR'.out).mono ?_⟩
 rintro e W1 (⟨rfl, hJ1, hk1⟩ | ⟨rfl, hJx1, -⟩)
 case inr =>
  gi_wp2
  refine bodyPost_ret (results_none rfl _ _ _) rfl ?_
  exact ⟨⟨_, rfl⟩, trivial, .inr ⟨[c.su], ⟨c.is, rfl⟩, hJx1⟩⟩
 case inl =>
  obtain ⟨⟨d1, d4⟩, -⟩ := HC.out W1 hk1
  have HJ1 := zh hJ1; have HK1 := zh hk1
  clear hJ1 hk1 hy c1 c4 hR'
  gi_wp2
  gi_loopw [13] (fun i wr => ∃ k : Nat, k ≤ m ∧ i = .int .i64 (k : Int) ∧ J (c.su :: c.is.take k) wr ∧ Kp W wr) (fun i _ => m - (intOf i).toNat)
  case atStart => exact ⟨0, Nat.zero_le _, rfl, by rw [List.take_zero]; exact HJ1.out, HK1.out⟩
  case round =>
   obtain ⟨k, hk, rfl, hJs, hbw⟩ := hrel
   by_cases hlt : k < m
   ·have hltI : (k : Int) < (m : Int) := by omega
    obtain ⟨x, hx⟩ : ∃ x, c.is[k]? = some x := ⟨c.is[k]'(by rw [← HM.out]; exact hlt), List.getElem?_eq_getElem _⟩
    obtain ⟨a, ha, -, hc⟩ := (HC.out wr hbw).2.at_ (sx_get hx)
    have HTK := zh (show c.su :: c.is.take (k + 1) = (c.su :: c.is.take k) ++ [x] from by rw [List.take_add_one, hx]; rfl)
    have HBW := zh hbw
    obtain ⟨fn, tmps, assign, body, hy, hR⟩ := HY.out _ x wr hJs (by rw [← HTK.out]; exact ⟨c.is.drop (k + 1), by rw [List.cons_append, List.take_append_drop]; rfl⟩)
    have HRR := zh hR
    clear hx hJs hbw hR
    rw [ha]
    gi_wp2
    refine ⟨(fun hh => by simp [Fence.wide] at hh), (roundIn_any HRR.out).mono ?_⟩
    rintro e W3 (⟨rfl, hJ3, hk3⟩ | ⟨rfl, hJx3, -⟩)
    ·gi_wp2
     go_roundw
     case rel => exact ⟨k + 1, by omega, by go_num, by rw [HTK.out]; exact hJ3, HT.out _ _ _ HBW.out hk3⟩
     case measure => simp [intOf]; omega
    ·gi_wp2
     refine bodyPost_ret (results_none rfl _ _ _) rfl ?_
     exact ⟨⟨_, rfl⟩, trivial, .inr ⟨_, by rw [← HTK.out]; exact ⟨c.is.drop (k + 1), by rw [List.cons_append, List.take_append_drop]; rfl⟩, hJx3⟩⟩
   ·have hltI : ¬ (k : Int) < (m : Int) := by omega
    have HJ := zh (show J (abv c) wr from by rw [List.take_of_length_le (by rw [← HM.out]; omega)] at hJs; exact hJs)
    clear hJs hbw
    gi_wp2
    go_end0
    first | exact ⟨⟨_, rfl⟩, trivial, .inl HJ.out⟩ | exact ⟨⟨_, rfl⟩, .inl HJ.out⟩
theorem valsT (Bs : Nat) (A : Option Addr) (c : Nat) (L : List Tx) (Kp : Nat → World → World → Prop) (hKr : ∀ B W, Kp B W W) (hKt : ∀ {B : Nat} {a b c : World}, Kp B a b → Kp B b c → Kp B a c) (hz : L.length ≤ 281474976710656) (U : World → Prop) (hU : ∀ W, U W → W.cell? ⟨Bs, 0, none⟩ = some (.slice A L.length c) ∧ ∀ B W', Kp B W W' → Rd W' A (SX L)) :
  SeqT (fun _ _ _ => False) Kp (fun _ _ _ => True) U (fun _ => True) Try.prog 105 #[.pointer (some ⟨Bs, 0, none⟩)] L := fun n l J Jx W hu _ _ hY h0 =>
 valsK_in n l Bs A c L (Kp W.heap.size) (hKr _) (fun h k => hKt h k) W (fun W' h => (hU W hu).2 _ W' h) hz J Jx _ hY (hU W hu).1 h0
theorem aboveT (Bc : Nat) (c : ClM) (Kp : Nat → World → World → Prop) (hKr : ∀ B W, Kp B W W) (hKt : ∀ {B : Nat} {a b c : World}, Kp B a b → Kp B b c → Kp B a c) (hz : c.is.length ≤ 281474976710656) (U : World → Prop) (hU : ∀ W, U W → ∀ B W', Kp B W W' → W'.heap[Bc]? = some (.cells (clC c).toArray 43 (0, 0)) ∧ Rd W' c.A1 (SX c.is)) :
  SeqT (fun _ _ _ => False) Kp (fun _ _ _ => True) U (fun _ => True) Try.prog 182 #[.pointer (some ⟨Bc, 0, none⟩)] (abv c) := fun n l J Jx W hu _ _ hY h0 =>
 aboveK_in n l Bc c (Kp W.heap.size) (hKr _) (fun h k => hKt h k) W (fun W' h => hU W hu _ W' h) hz J Jx _ hY h0
end Go.Proofs.Ytdifmgeicnndfaa.prg
namespace Go.Proofs.Ytdifmgeicnndfaa.prg
open Go.RowKit Go.Maps
open words kindp opp op kind word
set_option maxRecDepth 100000
set_option maxHeartbeats 4000000
set_option linter.all false
def postT {α : Type} (l D : Nat) (Kp Kf : World → World → Prop) (I : List α → World → Prop) (Ix : Code → List α → World → Prop) (xs : List α) (W : World) : Exit → Act → World → Prop
 | .normal, _, W' => (W'.heap[l]? = W.heap[l]? ∧ W'.heap[D]? = W.heap[D]?) ∧ Kp W W' ∧ I xs W'
 | .ret, _, W' => (W'.heap[l]? = W.heap[l]? ∧ W'.heap[D]? = W.heap[D]?) ∧ Kf W W' ∧ Ix .ret xs W'
 | .exit id, _, W' => (W'.heap[l]? = W.heap[l]? ∧ W'.heap[D]? = W.heap[D]?) ∧ Kf W W' ∧ Ix (.exit id) xs W'
 | .goto t, _, W' => (W'.heap[l]? = W.heap[l]? ∧ W'.heap[D]? = W.heap[D]?) ∧ Kf W W' ∧ Ix (.goto t) xs W'
 | .panic _, _, _ => False
 | .outgrown, _, _ => False
def AbL {β : Type} (T : World → Nat → Prop) (D : Nat) (I : β → World → Prop) : Prop :=
 AbT (fun W r => T W r ∨ ((r = D ∨ r = D + 1) ∧ ∃ o : Obj, W.heap[r]? = some o ∧ o.isCells = false)) I
theorem AbL.putObj {β : Type} {T : World → Nat → Prop} {D l : Nat} {I : β → World → Prop} (h : AbL T D I) {s : β} {W : World} {o : Obj} (o' : Obj) (hs : I s W) (hl : l = D ∨ l = D + 1) (ho : W.heap[l]? = some o) (hc : o.isCells = false) : I s (W.putObj l o') :=
 h s W _ (some l) hs (grownBy_putObj' W l o') (fun r e => by cases e; exact .inr ⟨hl, o, ho, hc⟩)
theorem AbL.alloc {β : Type} {T : World → Nat → Prop} {D : Nat} {I : β → World → Prop} (h : AbL T D I) {s : β} {W : World} (o : Obj) (hs : I s W) : I s (W.alloc o) :=
 h s W _ none hs (World.grownBy_alloc W o none) (fun r e => by cases e)
theorem wpIn_rangeFunc_T {n : Nat} {P : Program} {g : Operand} {ps : Array Tmp} {assign body : Code} {Q : Exit → Act → World → Prop} {a : Act} {w : World}
  {T : Nat → World → Nat → Prop} {Kp Kf : Nat → World → World → Prop} {U V : World → Prop} {gf : Nat} {lb : Array Value} {L : List Tx}
  (hg : a.eval g = .func (.func gf) #[] lb) (eg : ∀ args w, (callFunc gf args).run P w = .ok (.enter gf args) w) (hseq : SeqT T Kp Kf U V P gf lb L) (hps : ps.size = 1)
  (hU : ∀ W, Below w.heap.size w W → U W) (hT : ∀ W r, T (w.heap.size + 2) W r → r < w.heap.size ∨ w.heap.size + 2 ≤ r)
  (hKt : ∀ {A B C : World}, Kp (w.heap.size + 2) A B → Kp (w.heap.size + 2) B C → Kp (w.heap.size + 2) A C) (hKb : ∀ (W : World) (o o' : Obj), W.heap[w.heap.size + 1]? = some o → o.isCells = false → Kp (w.heap.size + 2) W (W.putObj (w.heap.size + 1) o'))
  (hKf : ∀ (W W3 : World) (o' p' : Obj), Kf (w.heap.size + 2) (W.putObj (w.heap.size + 1) o') W3 → Kf (w.heap.size + 2) W (W3.putObj (w.heap.size + 1) p'))
  (hV : ∀ (W : World) (o o' : Obj), V W → W.heap[w.heap.size + 1]? = some o → o.isCells = false → V (W.putObj (w.heap.size + 1) o'))
  (I : List Tx → World → Prop) (Ix : Code → List Tx → World → Prop) (hI : AbL (T (w.heap.size + 2)) w.heap.size I) (hIx : ∀ c, AbL (T (w.heap.size + 2)) w.heap.size (Ix c)) (h0 : I [] w) (a₁ : Tx → Act)
  (hassign : ∀ (l : Nat) (x : Tx) (W : World) (K : Act → World → Prop), K (a₁ x) W →
   assign.wpIn (Fence.wide.inRound l) 0 P (Exit.then K (fun _ _ _ => False)) { tmps := (ps.zip #[.string ⟨x.toArray⟩]).foldl (fun t (p, v) => t.setIfInBounds p v) a.tmps, defers := [] } W)
  (hbody : ∀ (pre : List Tx) (x : Tx) (W : World), I pre W → (pre ++ [x]) <+: L → (∃ r, W.heap[w.heap.size + 1]? = some (.loop r)) → W.heap[w.heap.size]? = some (.deferred (some [])) → body.wpIn (Fence.wide.inRound (w.heap.size + 1)) 0 P (postT (w.heap.size + 1) w.heap.size (Kp (w.heap.size + 2)) (Kf (w.heap.size + 2)) I Ix (pre ++ [x]) W) (a₁ x) W)
  (hdone : ∀ W, V W → I L W → W.heap[w.heap.size]? = some (.deferred (some [])) → Q .normal { a with defers := { target := .collected w.heap.size, args := #[] } :: a.defers } W)
  (hstop : ∀ (c : Code) (pre : List Tx) (W : World), V W → pre <+: L → Ix c pre W → W.heap[w.heap.size]? = some (.deferred (some [])) → c.wpIn Fence.wide n P Q { a with defers := { target := .collected w.heap.size, args := #[] } :: a.defers } W) :
  (Code.rangeFunc g ps assign body).wpIn Fence.wide n P Q a w := by
 refine wpIn_rangeFunc ?_
 intro fn hfn
 rw [show Fence.wide.round = none from rfl]
 obtain ⟨rec, hrec⟩ : ∃ rec : LoopState → Option Code → Loop, rec = fun st pe => { state := st, pending := pe, fn, tmps := a.tmps, params := ps, assign, body, defers := w.heap.size } := ⟨_, rfl⟩
 obtain ⟨W1, hW1⟩ : ∃ W1, (w.alloc (.deferred (some []))).alloc (.loop (rec .ready none)) = W1 := ⟨_, rfl⟩
 have hs1 : W1.heap.size = w.heap.size + 2 := by rw [← hW1]; simp
 have hL1 : W1.heap[w.heap.size + 1]? = some (.loop (rec .ready none)) := by
  rw [← hW1]; have := World.alloc_heap_new (w.alloc (.deferred (some []))) (.loop (rec .ready none)); rwa [World.size_alloc] at this
 have hK1 : W1.heap[w.heap.size]? = some (.deferred (some [])) := by
  rw [← hW1]; exact (Below.heap_alloc _ _ _ (by simp)).trans (World.alloc_heap_new w _)
 have hI1 : I [] W1 := by rw [← hW1]; exact hI.alloc _ (hI.alloc _ h0)
 have hb1 : Below w.heap.size w W1 := by
  rw [← hW1]; exact (((Below.refl _ w).alloc (Nat.le_refl _) _).alloc (by simp) _)
 refine ⟨w.heap.size + 1, [{ target := .collected w.heap.size, args := #[] }], W1, { target := .fn (.func gf) lb, args := #[.func (.yield (w.heap.size + 1)) #[] #[]] }, W1, gf,
  #[.func (.yield (w.heap.size + 1)) #[] #[]] ++ lb, W1, ?_, ?_, ?_, ?_, (fun h => by simp [Fence.wide] at h), ?_⟩
 ·rw [← hW1, hrec]; exact run_enterLoop_outer _ _ _ _ _
 ·simp only [resolve, hg]
  simp [go_sem]
 ·intro f' hf'; exact trivial
 ·simp [invoke, go_sem, eg]
 ·have lo : ∀ {A B : World} {row : Option Nat} {k : Nat}, A.grownBy B row → (∀ r, row = some r → T (w.heap.size + 2) A r) → k = w.heap.size ∨ k = w.heap.size + 1 → k < A.heap.size → B.heap[k]? = A.heap[k]? := fun hg hr hk hlt =>
   hg.block _ hlt (fun e => by have := hT _ _ (hr _ e.symm); omega)
  refine (hseq _ (w.heap.size + 1)
   (fun pre W => I pre W ∧ W.heap[w.heap.size + 1]? = some (.loop (rec .ready none)) ∧ W.heap[w.heap.size]? = some (.deferred (some [])))
   (fun pre W => ∃ c, Ix c pre W ∧ W.heap[w.heap.size + 1]? = some (.loop (rec .done (some c))) ∧ W.heap[w.heap.size]? = some (.deferred (some [])))
   W1 (hU W1 hb1) (by
    rw [hs1]
    intro s A B row hs hg' hr
    exact ⟨hI s A B row hs.1 hg' (fun r e => .inl (hr r e)), (lo hg' hr (.inr rfl) (blk_lt hs.2.1)).trans hs.2.1, (lo hg' hr (.inl rfl) (blk_lt hs.2.2)).trans hs.2.2⟩) (by
    rw [hs1]
    intro s A B row hs hg' hr
    obtain ⟨c, hc, hl, hk⟩ := hs
    exact ⟨c, hIx c s A B row hc hg' (fun r e => .inl (hr r e)), (lo hg' hr (.inr rfl) (blk_lt hl)).trans hl, (lo hg' hr (.inl rfl) (blk_lt hk)).trans hk⟩) ?_ ⟨hI1, hL1, hK1⟩).mono ?_
  ·rw [hs1]
   rintro pre x W ⟨hi, hl, hk⟩ hlen
   have hlt : w.heap.size + 1 < W.heap.size := (Array.getElem?_eq_some_iff.1 hl).1
   have hy := run_yield (P := P) (args := #[.string ⟨x.toArray⟩]) hl (by rw [hrec]; exact hps.symm)
   rw [hrec] at hy
   refine ⟨fn, _, assign, body, hy, roundIn_of_wpIn hfn (hassign _ x W _ ⟨_, run_beginRound hl (by rw [hrec]), ?_⟩)⟩
   have hl2 : (W.putObj (w.heap.size + 1) (.loop { rec .ready none with state := .busy })).heap[w.heap.size + 1]? = some (.loop { rec .ready none with state := .busy }) := World.putObj_heap_same hlt
   have hk2 : (W.putObj (w.heap.size + 1) (.loop { rec .ready none with state := .busy })).heap[w.heap.size]? = some (.deferred (some [])) := (World.putObj_heap_other (by omega)).trans hk
   have hw2 : Kp (w.heap.size + 2) W (W.putObj (w.heap.size + 1) (.loop { rec .ready none with state := .busy })) := hKb _ _ _ hl rfl
   refine wpIn_mono (hbody pre x _ (hI.putObj _ hi (.inr rfl) hl rfl) hlen ⟨_, hl2⟩ hk2) ?_
   have fin : ∀ (jump : Option Code) (W3 : World), (W3.heap[w.heap.size + 1]? = (W.putObj (w.heap.size + 1) (.loop { rec .ready none with state := .busy })).heap[w.heap.size + 1]? ∧ W3.heap[w.heap.size]? = (W.putObj (w.heap.size + 1) (.loop { rec .ready none with state := .busy })).heap[w.heap.size]?) →
     (Instr.endRound (w.heap.size + 1) jump).run P W3 = .ok (.bool jump.isNone) (W3.putObj (w.heap.size + 1) (.loop (rec (if jump.isNone then .ready else .done) jump))) ∧
     W3.heap[w.heap.size + 1]? = some (.loop { rec .ready none with state := .busy }) ∧
     (W3.putObj (w.heap.size + 1) (.loop (rec (if jump.isNone then .ready else .done) jump))).heap[w.heap.size + 1]? = some (.loop (rec (if jump.isNone then .ready else .done) jump)) ∧
     (W3.putObj (w.heap.size + 1) (.loop (rec (if jump.isNone then .ready else .done) jump))).heap[w.heap.size]? = some (.deferred (some [])) := fun jump W3 hk3 => by
    have hl3 := hk3.1.trans hl2
    have := run_endRound (P := P) jump hl3
    rw [hrec] at this ⊢
    exact ⟨this, by rw [hrec] at hl3; exact hl3, World.putObj_heap_same (Array.getElem?_eq_some_iff.1 hl3).1, (World.putObj_heap_other (by omega)).trans (hk3.2.trans hk2)⟩
   rintro e a3 W3 hp
   cases e with
   | normal =>
    obtain ⟨hk3, hkp3, hi3⟩ := hp
    obtain ⟨hr, hl3, hl4, hk4⟩ := fin none W3 hk3
    exact ⟨_, _, hr, .inl ⟨rfl, ⟨hI.putObj _ hi3 (.inr rfl) hl3 rfl, hl4, hk4⟩, hKt (hKt hw2 hkp3) (hKb _ _ _ hl3 rfl)⟩⟩
   | ret =>
    obtain ⟨hk3, hkp3, hi3⟩ := hp
    obtain ⟨hr, hl3, hl4, hk4⟩ := fin (some .ret) W3 hk3
    exact ⟨_, _, hr, .inr ⟨rfl, ⟨.ret, (hIx _).putObj _ hi3 (.inr rfl) hl3 rfl, hl4, hk4⟩, hKf _ _ _ _ hkp3⟩⟩
   | exit id =>
    obtain ⟨hk3, hkp3, hi3⟩ := hp
    obtain ⟨hr, hl3, hl4, hk4⟩ := fin (some (.exit id)) W3 hk3
    exact ⟨_, _, hr, .inr ⟨rfl, ⟨.exit id, (hIx _).putObj _ hi3 (.inr rfl) hl3 rfl, hl4, hk4⟩, hKf _ _ _ _ hkp3⟩⟩
   | goto t =>
    obtain ⟨hk3, hkp3, hi3⟩ := hp
    obtain ⟨hr, hl3, hl4, hk4⟩ := fin (some (.goto t)) W3 hk3
    exact ⟨_, _, hr, .inr ⟨rfl, ⟨.goto t, (hIx _).putObj _ hi3 (.inr rfl) hl3 rfl, hl4, hk4⟩, hKf _ _ _ _ hkp3⟩⟩
   | panic ch => exact hp.elim
   | outgrown => exact hp.elim
  ·rintro e W2 ⟨⟨v, rfl⟩, hv, (⟨hi, hl, hk⟩ | ⟨pre, hSp, c, hi, hl, hk⟩)⟩
   ·exact ⟨none, _, by have := run_endLoop (P := P) hl (by rw [hrec]; simp); rw [hrec] at this; exact this, hdone _ (hV _ _ _ hv hl rfl) (hI.putObj _ hi (.inr rfl) hl rfl) ((World.putObj_heap_other (by omega)).trans hk)⟩
   ·exact ⟨some c, _, by have := run_endLoop (P := P) hl (by rw [hrec]; simp); rw [hrec] at this; exact this, hstop c pre _ (hV _ _ _ hv hl rfl) hSp ((hIx c).putObj _ hi (.inr rfl) hl rfl) ((World.putObj_heap_other (by omega)).trans hk)⟩
theorem run_append_room_at {P : Program} (w : World) (t ty e : TypeId) (i : TypeInfo) (ht : P.underlying t = some (.slice e)) (hi : P.info? e = some i) (h1s : i.size = 1)
  (g j sLen sCap : Nat) (cur : Array Value) (hg : w.heap[g]? = some (.cells cur e (0, 0)))
  (a : Addr) (m c : Nat) (news : List Value) (hl : news.length = m) (hnews : ∀ j u, news[j]? = some u → w.cell? (a.add j) = some u) (h1 : ∀ u ∈ news, u.oneCell' = true)
  (hroom : sLen + m ≤ sCap) (hfit : j + sLen + news.length ≤ cur.size) :
  (Builtin.append_ #[t, t] ty #[.slice (some ⟨g, j, none⟩) sLen sCap, .slice (some a) m c]).run P w =
   .ok (.slice (some ⟨g, j, none⟩) (sLen + m) sCap) (w.setRow g (cur.toList.take (j + sLen) ++ news ++ cur.toList.drop (j + sLen + news.length)).toArray) := by
 have hf := run_firstCells_some (P := P) w i.size m a m c news (by rw [h1s, Nat.mul_one]; exact hl) hnews
 have hst := run_storeCells_at P g (j + sLen) e news 0 cur w hg (by simpa using hfit) h1
 simp only [Nat.add_zero] at hst
 rw [h1s] at hf
 simp [Builtin.append_, run_underlying ht, sizeOf, typeInfo, hi, h1s, Builtin.lenOf, hroom, hf, Addr.add_lit, hst]
theorem run_append_cut (w : World) (ty : TypeId) (base : Nat) (v : Value) (xs : List Value) (hown : OwnCut w base v xs) (bA : Nat) (u : Value) (hu : w.cell? ⟨bA, 0, none⟩ = some u) (h1 : u.oneCell' = true) (hn : xs.length + 1 ≤ 100000) (hbase : base ≤ w.heap.size) :
  ∃ v' w', (Builtin.append_ #[219, 219] ty #[v, .slice (some ⟨bA, 0, none⟩) 1 1]).run Try.prog w = .ok v' w' ∧ OwnCut w' base v' (xs ++ [u]) ∧
   ∃ g cur, base ≤ g ∧ w.heap[g]? = some (.cells cur 101 (0, 0)) ∧ w.grownBy w' (some g) := by
 obtain ⟨i0, hi, hz, hsz, hby⟩ := info_parts infoQ
 obtain ⟨g, j, cap, cur, rfl, hb, hg, hlen, hcm, hcs, hat⟩ := hown
 have hnews : ∀ (k : Nat) x, [u][k]? = some x → w.cell? ((⟨bA, 0, none⟩ : Addr).add k) = some x := fun k x hk => by
  cases k with
  | zero => simp only [List.getElem?_cons_zero, Option.some.injEq] at hk; subst hk; rw [add_zero_off]; exact hu
  | succ k => simp at hk
 by_cases hroom : xs.length + 1 ≤ cap
 ·rw [if_neg (by omega)] at hcs
  have hr := run_append_room_at (P := Try.prog) w 219 ty 101 i0 Try.underlying219 hi hsz g j xs.length cap cur hg ⟨bA, 0, none⟩ 1 1 [u] rfl hnews (by simpa using h1) hroom (by simp only [List.length_cons, List.length_nil]; omega)
  have hs : (cur.toList.take (j + xs.length) ++ [u] ++ cur.toList.drop (j + xs.length + [u].length)).length = cur.size := by
   simp only [List.length_append, List.length_take, List.length_drop, Array.length_toList, List.length_cons, List.length_nil]; omega
  refine ⟨_, _, hr, ⟨g, j, cap, _, by simp, hb, setRow_heap w g cur _ _ _ hg, by simp; omega, hcm, ?_, ?_⟩, g, cur, hb, hg, ⟨rfl, rfl, rfl, by simp, fun k _ hk => setRow_other w g k _ (fun e => hk (by simp [e]))⟩⟩
  ·rw [if_neg (by omega), List.size_toArray, hs]; omega
  ·intro i x hx
   rw [List.getElem?_toArray]
   have hA : (cur.toList.take (j + xs.length)).length = j + xs.length := by simp; omega
   rcases Nat.lt_or_ge i xs.length with hlt | hge
   ·rw [List.getElem?_append_left hlt] at hx
    have := hat i x hx
    rw [List.append_assoc, List.getElem?_append_left (by rw [hA]; omega), List.getElem?_take, if_pos (by omega), Array.getElem?_toList]
    exact this
   ·rw [List.getElem?_append_right hge] at hx
    have hi0 : i = xs.length := by have := (List.getElem?_eq_some_iff.1 hx).1; simp at this; omega
    subst hi0
    rw [Nat.sub_self] at hx
    simp only [List.getElem?_cons_zero, Option.some.injEq] at hx
    subst hx
    rw [List.append_assoc, List.getElem?_append_right (by rw [hA]; omega), hA, Nat.sub_self]
    rfl
 ·have holds : ∀ (k : Nat) x, xs[k]? = some x → w.cell? ((⟨g, j, none⟩ : Addr).add k) = some x := fun k x hk => by
   rw [Addr.add_lit]
   exact (cell_of_row _ _ _ _ _ _ hg).trans (hat k x hk)
  have hr := run_append_grow (P := Try.prog) w 219 ty 101 i0 _ Try.underlying219 hi hz ⟨g, j, none⟩ xs.length cap xs (by rw [hsz, Nat.mul_one]) holds ⟨bA, 0, none⟩ 1 1 [u] (by rw [hsz]; rfl) hnews (by omega) (by omega) (growslice_fits (by omega) (by rw [hby]; omega))
  have hge := grownCap_ge w (xs.length + 1) cap 101
  refine ⟨_, _, hr, ⟨w.heap.size, 0, grownCap w (xs.length + 1) cap 101, _, by simp, hbase, heap_alloc_new w.drew _, by simpa using hge, grownCap_le_maxLen w _ _ _ (by unfold maxLen; omega), ?_, ?_⟩, g, cur, hb, hg, ⟨rfl, rfl, rfl, by simp, fun k hk _ => Below.heap_alloc w.drew _ k hk⟩⟩
  ·rw [if_neg (by omega)]
   simp only [Array.size_append, List.size_toArray, size_zeroCells, Value.cells, List.length_cons, List.length_nil]
   simp; omega
  ·intro i x hx
   rw [Nat.zero_add]
   have hlt := (List.getElem?_eq_some_iff.1 hx).1
   rw [Array.getElem?_append_left (by simpa using hlt)]
   simpa using hx
theorem take1_pre (cs : List ClM) (st : List Tx × List (List Tx)) (s : Tx) : st.1 <+: (take1 cs st s).1 := by
 unfold take1; split
 ·exact List.prefix_refl _
 ·exact List.prefix_append _ _
theorem takeL_pre (cs : List ClM) : ∀ (l : List Tx) (st : List Tx × List (List Tx)), st.1 <+: (takeL cs st l).1
 | [], st => List.prefix_refl _
 | s :: l, st => (take1_pre cs st s).trans (takeL_pre cs l (take1 cs st s))
theorem takeL_append (cs : List ClM) (st : List Tx × List (List Tx)) (a b : List Tx) : takeL cs st (a ++ b) = takeL cs (takeL cs st a) b := by unfold takeL; rw [List.foldl_append]
theorem upS_pre (cs : List ClM) : ∀ (f : Nat) (met : List Tx) (opn : List (List Tx)), met <+: upS cs f met opn
 | 0, met, _ => List.prefix_refl _
 | _ + 1, met, [] => List.prefix_refl _
 | f + 1, met, l :: rest => (takeL_pre cs l (met, rest)).trans (upS_pre cs f _ _)
theorem takeL_len (cs : List ClM) : ∀ (l : List Tx) (st : List Tx × List (List Tx)), (takeL cs st l).2.length + st.1.length = (takeL cs st l).1.length + st.2.length
 | [], st => by rw [takeL_nil]; omega
 | s :: l, st => by
  have := takeL_len cs l (take1 cs st s)
  have h : (take1 cs st s).2.length + st.1.length = (take1 cs st s).1.length + st.2.length := by
   unfold take1; split
   ·omega
   ·simp only [List.length_append, List.length_cons, List.length_nil]; omega
  rw [takeL_cons]; omega
def MI (cs : List ClM) (met : List Tx) : Prop := met.Nodup ∧ ∀ y ∈ met, hasC cs y = true
theorem MI.len {cs : List ClM} {met : List Tx} (h : MI cs met) : met.length ≤ cs.length := by
 have := len_sub (m := cs.map (·.nm)) h.1 fun o ho => by
  obtain ⟨c, hc⟩ := Option.isSome_iff_exists.1 (h.2 o ho)
  obtain ⟨e, hm⟩ := findC_nm hc
  exact List.mem_map.2 ⟨c, hm, e⟩
 simpa using this
theorem MI.more {cs : List ClM} {met : List Tx} {s : Tx} (h : MI cs met) (h1 : met.contains s = false) (h2 : hasC cs s = true) : MI cs (met ++ [s]) := by
 refine ⟨?_, fun y hy => ?_⟩
 ·rw [List.nodup_append]
  exact ⟨h.1, by simp, fun a ha b hb e => by simp at hb; subst hb; subst e; rw [List.contains_iff_mem.2 ha] at h1; cases h1⟩
 ·rcases List.mem_append.1 hy with h3 | h3
  ·exact h.2 y h3
  ·simp at h3; subst h3; exact h2
theorem up_turn {cs : List ClM} {f : Nat} {st : List Tx × List (List Tx)} {hand pre : List Tx} {s : Tx} (hp : (pre ++ [s]) <+: hand) (h1 : (takeL cs st pre).1.contains s = false) (h2 : hasC cs s = true) :
  ((takeL cs st pre).1 ++ [s]) <+: upS cs f (takeL cs st hand).1 (takeL cs st hand).2 := by
 obtain ⟨post, rfl⟩ := hp
 have e : take1 cs (takeL cs st pre) s = ((takeL cs st pre).1 ++ [s], (takeL cs st pre).2 ++ [abvN cs s]) := take1_yes (by rw [h1, h2]; rfl)
 have h3 := takeL_pre cs post (take1 cs (takeL cs st pre) s)
 rw [takeL_append, takeL_snoc]
 rw [e] at h3 ⊢
 exact h3.trans (upS_pre cs f _ _)
def marksD (Ds : List Nat) : List Deferred := Ds.map fun D => { target := .collected D, args := #[] }
def Marks (b t : Nat) (Ds : List Nat) (W : World) : Prop := Ds.Nodup ∧ ∀ D ∈ Ds, b ≤ D ∧ D < t ∧ W.heap[D]? = some (.deferred (some []))
theorem Marks.nil (b t : Nat) (W : World) : Marks b t [] W := ⟨List.nodup_nil, fun _ h => by cases h⟩
theorem Marks.up {b t t' : Nat} {Ds : List Nat} {W : World} (h : Marks b t Ds W) (ht : t ≤ t') : Marks b t' Ds W := ⟨h.1, fun D hD => ⟨(h.2 D hD).1, Nat.lt_of_lt_of_le (h.2 D hD).2.1 ht, (h.2 D hD).2.2⟩⟩
theorem Marks.keep {b t : Nat} {Ds : List Nat} {W W' : World} (h : Marks b t Ds W) (hk : ∀ k, b ≤ k → k < t → W.heap[k]? = some (.deferred (some [])) → W'.heap[k]? = some (.deferred (some []))) : Marks b t Ds W' :=
 ⟨h.1, fun D hD => ⟨(h.2 D hD).1, (h.2 D hD).2.1, hk D (h.2 D hD).1 (h.2 D hD).2.1 (h.2 D hD).2.2⟩⟩
theorem Marks.cons {b t t' D : Nat} {Ds : List Nat} {W : World} (h : Marks b t Ds W) (h1 : b ≤ D) (h2 : t ≤ D) (h3 : D < t') (h4 : W.heap[D]? = some (.deferred (some []))) : Marks b t' (D :: Ds) W :=
 ⟨List.nodup_cons.2 ⟨fun hm => by have := (h.2 D hm).2.1; omega, h.1⟩, fun E hE => by
  rcases List.mem_cons.1 hE with rfl | hE
  ·exact ⟨h1, h3, h4⟩
  ·obtain ⟨g1, g2, g3⟩ := h.2 E hE
   exact ⟨g1, by omega, g3⟩⟩
theorem leaves_marks {F : Fence} {n : Nat} {P : Program} {fn : Func} {tmps : Array Value} {R : Ending → World → Prop} (b t : Nat) (Inv : World → Prop) (hI : ∀ W D, Inv W → b ≤ D → W.heap[D]? = some (.deferred (some [])) → Inv (W.putObj D (.deferred none)))
  (hR : ∀ W, Inv W → LeavesInM F n P fn tmps R [] .returning W) : ∀ (Ds : List Nat) (W : World), Marks b t Ds W → Inv W → LeavesInM F n P fn tmps R (marksD Ds) .returning W
 | [], W, _, h => hR W h
 | D :: Ds, W, hm, h => by
  obtain ⟨h1, h2, h3⟩ := hm.2 D (List.mem_cons_self ..)
  have hnd := List.nodup_cons.1 hm.1
  refine ⟨by simp, .inl ⟨D, _, rfl, run_takeDeferred h3, ?_⟩⟩
  refine leaves_marks b t Inv hI hR Ds _ ⟨hnd.2, fun E hE => ?_⟩ (hI W D h h1 h3)
  obtain ⟨g1, g2, g3⟩ := hm.2 E (List.mem_cons_of_mem _ hE)
  exact ⟨g1, g2, (World.putObj_heap_other (fun e => hnd.1 (by rw [← e]; exact hE))).trans g3⟩
end Go.Proofs.Ytdifmgeicnndfaa.prg
namespace Go.Proofs.Ytdifmgeicnndfaa.prg
open Go.RowKit Go.Maps
open words kindp opp op kind word
set_option maxRecDepth 100000
set_option maxHeartbeats 4000000
set_option linter.all false
inductive Src where
 | nam
 | cls (b : Nat) (c : ClM)
def srcN (names : List Tx) : Src → List Tx
 | .nam => names
 | .cls _ c => abv c
def srcV (gN : Nat) (lbN : Array Value) : Src → Value
 | .nam => .func (.func gN) #[] lbN
 | .cls b _ => .func (.func 182) #[] #[.pointer (some ⟨b, 0, none⟩)]
def SrcOk (cs : List ClM) (B : Nat) (W : World) : Src → Prop
 | .nam => True
 | .cls b c => B ≤ b ∧ W.heap[b]? = some (.cells (clC c).toArray 43 (0, 0)) ∧ c ∈ cs
structure UpH (x : PrM) (kb Bt Bn : Nat) (Kn names : List Tx) (gN : Nat) (lbN : Array Value) (w : World) : Prop where
 pr : PrOk w x
 cl : x.cs.length ≤ 70
 is : ∀ c ∈ x.cs, c.is.length ≤ 281474976710656
 kl : Kn.length ≤ 281474976710656
 ks : ∀ s ∈ Kn, s.length ≤ 281474976710656
 kn : ∀ s ∈ names, s ∈ Kn
 kc : ∀ c ∈ x.cs, ∀ s ∈ abv c, s ∈ Kn
 km : ∃ es c, w.heap[kb]? = some (.map es c)
 tb : w.heap[Bt]? = some (.cells (trC x kb).toArray 160 (0, 0))
 nb : w.heap[Bn]? = some (.cells #[.func (.func gN) #[] lbN] 101 (0, 0))
 eg : ∀ args w, (callFunc gN args).run Try.prog w = .ok (.enter gN args) w
 sq : ∀ B, SeqT (fun _ _ _ => False) (fun _ => KI kb w.heap.size B) (fun _ _ _ => True) (fun W => BelM kb w.heap.size w W) (fun _ => True) Try.prog gN lbN names
section
variable {x : PrM} {kb Bt Bn : Nat} {Kn names : List Tx} {gN : Nat} {lbN : Array Value} {w W : World}
theorem UpH.klt (h : UpH x kb Bt Bn Kn names gN lbN w) : kb < w.heap.size := by obtain ⟨es, c, h1⟩ := h.km; exact blk_lt h1
theorem UpH.pr' (h : UpH x kb Bt Bn Kn names gN lbN w) (hb : BelM kb w.heap.size w W) : PrOk W x := h.pr.belm hb h.km
theorem UpH.tb' (h : UpH x kb Bt Bn Kn names gN lbN w) (hb : BelM kb w.heap.size w W) : W.heap[Bt]? = some (.cells (trC x kb).toArray 160 (0, 0)) :=
 (hb.block _ (blk_lt h.tb) (fun e => by obtain ⟨es, c, h1⟩ := h.km; rw [← e, h.tb] at h1; cases h1)).trans h.tb
theorem UpH.nb' (h : UpH x kb Bt Bn Kn names gN lbN w) (hb : BelM kb w.heap.size w W) : W.heap[Bn]? = some (.cells #[.func (.func gN) #[] lbN] 101 (0, 0)) :=
 (hb.block _ (blk_lt h.nb) (fun e => by obtain ⟨es, c, h1⟩ := h.km; rw [← e, h.nb] at h1; cases h1)).trans h.nb
theorem UpH.src_kn (h : UpH x kb Bt Bn Kn names gN lbN w) {B : Nat} {s : Src} (hs : SrcOk x.cs B W s) : ∀ y ∈ srcN names s, y ∈ Kn := by
 cases s with
 | nam => exact h.kn
 | cls b c => exact h.kc c hs.2.2
theorem UpH.src_T (h : UpH x kb Bt Bn Kn names gN lbN w) {B : Nat} {s : Src} (hb : BelM kb w.heap.size w W) (hs : SrcOk x.cs B W s) : ∃ gf lb, ∃ U : World → Prop, srcV gN lbN s = .func (.func gf) #[] lb ∧ (∀ args w, (callFunc gf args).run Try.prog w = .ok (.enter gf args) w) ∧
  SeqT (fun _ _ _ => False) (fun _ => KI kb w.heap.size B) (fun _ _ _ => True) U (fun _ => True) Try.prog gf lb (srcN names s) ∧ ∀ W', Below W.heap.size W W' → U W' := by
 have hup : ∀ W', Below W.heap.size W W' → BelM kb w.heap.size w W' := fun W' hW' => hb.trans ((BelM.of hW' (Nat.lt_of_lt_of_le h.klt hb.size)).mono hb.size)
 cases s with
 | nam => exact ⟨gN, lbN, _, rfl, h.eg, h.sq B, hup⟩
 | cls b c =>
  obtain ⟨h1, h2, h3⟩ := hs
  refine ⟨182, #[.pointer (some ⟨b, 0, none⟩)], fun W' => BelM kb w.heap.size w W' ∧ W'.heap[b]? = some (.cells (clC c).toArray 43 (0, 0)), rfl, enters_of Try.func182 (by kernel_rfl) rfl, ?_, fun W' hW' => ⟨hup W' hW', (hW'.block _ (blk_lt h2)).trans h2⟩⟩
  refine aboveT b c (fun _ => KI kb w.heap.size B) (fun _ W => KI.refl _ _ _ W) (fun h k => h.trans k) (h.is c h3) _ ?_
  intro W' ⟨k1, k2⟩ _ W'' k3
  exact ⟨k3.cls b _ h1 k2, ((h.pr' (k1.trans k3.bel)).2.2 c h3).1.2⟩
end
def UpM (l B : Nat) (cs : List ClM) (gN : Nat) (lbN : Array Value) (met : List Tx) (opn : List Src) (W : World) : Prop :=
 (W.heap[B]? = some (.cells #[.func (.yield l) #[] #[]] 162 (0, 0)) ∧ W.heap[B + 2]? = some (.cells #[.map (some (B + 1))] 218 (0, 0))) ∧
 (∃ n D, W.ownsMap Try.prog 9 (unitElem (H := Unit)) (B + 1) n D ∧ n ≤ met.length ∧ ∀ s, Maps.has D (.string s) = met.contains s) ∧
 (∃ v, W.heap[B + 4]? = some (.cells #[v] 219 (0, 0)) ∧ OwnCut W (B + 3) v (opn.map (srcV gN lbN))) ∧
 ∀ s ∈ opn, SrcOk cs B W s
def KeepU (B : Nat) (W W' : World) : Prop := ∀ k o, B ≤ k → W.heap[k]? = some o → ((o.isCells = true ∧ yo o = true) ∨ (o.isCells = false ∧ k = B + 1)) → W'.heap[k]? = some o
section
variable {l B : Nat} {cs : List ClM} {gN : Nat} {lbN : Array Value} {met : List Tx} {opn : List Src} {W W' : World}
theorem SrcOk.keep {s : Src} (h : SrcOk cs B W s) (hk : KeepU B W W') : SrcOk cs B W' s := by
 cases s with
 | nam => trivial
 | cls b c => exact ⟨h.1, hk b _ h.1 h.2.1 (.inl ⟨rfl, by simp [yo]⟩), h.2.2⟩
theorem UpM.keep (h : UpM l B cs gN lbN met opn W) (hk : KeepU B W W') : UpM l B cs gN lbN met opn W' := by
 obtain ⟨⟨h1, h2⟩, ⟨n, D, ⟨es, cl, h3, h3'⟩, h4, h5⟩, ⟨v, h6, h7⟩, h8⟩ := h
 refine ⟨⟨hk _ _ (by omega) h1 (.inl ⟨rfl, by simp [yo]⟩), hk _ _ (by omega) h2 (.inl ⟨rfl, by simp [yo]⟩)⟩, ⟨n, D, ⟨es, cl, hk _ _ (by omega) h3 (.inr ⟨rfl, rfl⟩), h3'⟩, h4, h5⟩, ⟨v, hk _ _ (by omega) h6 (.inl ⟨rfl, by simp [yo]⟩), h7.same fun g cur hg hc => ?_⟩, fun s hs => (h8 s hs).keep hk⟩
 rw [hc]; exact hk g _ (by omega) hc (.inl ⟨rfl, by simp [yo]⟩)
theorem keepU_below (h : Below W.heap.size W W') : KeepU B W W' := fun k o _ ho _ => (h.block k (blk_lt ho)).trans ho
theorem keepU_belm {kb : Nat} (h : BelM kb W.heap.size W W') (hk : kb < B) : KeepU B W W' := fun k o hB ho _ => (h.block k (blk_lt ho) (by omega)).trans ho
theorem keepU_kpx {kb n0 : Nat} (h : KpX kb n0 B W W') : KeepU B W W' := fun k o hB ho hy => h.own k o hB ho (by
 rcases hy with hy | hy
 ·exact hy.2
 ·cases o with
  | cells cs t f => cases hy.1
  | _ => rfl)
theorem keepU_grown {row : Option Nat} {D : Nat} (hg : W.grownBy W' row) (hD : B + 1 < D) (hr : ∀ r, row = some r → D ≤ r ∧ ∃ o : Obj, W.heap[r]? = some o ∧ o.isCells = false) : KeepU B W W' := fun k o hB ho hy => by
 refine (hg.block k (blk_lt ho) (fun e => ?_)).trans ho
 obtain ⟨h1, o', h2, h3⟩ := hr k e.symm
 rw [ho] at h2; cases h2
 rcases hy with ⟨hy, -⟩ | ⟨-, hy⟩
 ·rw [hy] at h3; cases h3
 ·omega
theorem set_one {g : Nat} {t : TypeId} {v u : Value} (h : W.heap[g]? = some (.cells #[v] t (0, 0))) : (W.setCell ⟨g, 0, none⟩ u).heap[g]? = some (.cells #[u] t (0, 0)) := by
 rw [heap_setCell_same W g 0 _ _ _ h]; rfl
theorem set_far {g k : Nat} {u : Value} (h : k ≠ g) : (W.setCell ⟨g, 0, none⟩ u).heap[k]? = W.heap[k]? := heap_setCell_other W ⟨g, 0, none⟩ k u (fun e => h e)
theorem UpM.pop {s : Src} (h : UpM l B cs gN lbN met (s :: opn) W) : ∃ g j cap, W.heap[B + 4]? = some (.cells #[.slice (some ⟨g, j, none⟩) (opn.length + 1) cap] 219 (0, 0)) ∧ opn.length + 1 ≤ cap ∧ cap ≤ maxLen ∧ W.cell? ⟨g, j, none⟩ = some (srcV gN lbN s) ∧
  UpM l B cs gN lbN met opn (W.setCell ⟨B + 4, 0, none⟩ (.slice (if cap = 1 then some ⟨g, j, none⟩ else some ⟨g, j + 1, none⟩) opn.length (cap - 1))) ∧ SrcOk cs B (W.setCell ⟨B + 4, 0, none⟩ (.slice (if cap = 1 then some ⟨g, j, none⟩ else some ⟨g, j + 1, none⟩) opn.length (cap - 1))) s := by
 obtain ⟨⟨h1, h2⟩, ⟨n, D, ⟨es, cl, h3, h3'⟩, h4, h5⟩, ⟨v, h6, h7⟩, h8⟩ := h
 obtain ⟨g, j, cap, rfl, k1, k2, k3, k4⟩ := h7.head
 rw [List.length_map] at k1 k4 h6
 have hsr : ∀ t, SrcOk cs B W t → SrcOk cs B (W.setCell ⟨B + 4, 0, none⟩ (.slice (if cap = 1 then some ⟨g, j, none⟩ else some ⟨g, j + 1, none⟩) opn.length (cap - 1))) t := fun t this => by
  cases t with
  | nam => trivial
  | cls b c => exact ⟨this.1, (set_far (fun e => by have h9 := this.2.1; rw [e, h6] at h9; cases h9)).trans this.2.1, this.2.2⟩
 exact ⟨g, j, cap, h6, k1, k2, k3, ⟨⟨(set_far (by omega)).trans h1, (set_far (by omega)).trans h2⟩, ⟨n, D, ⟨es, cl, (set_far (by omega)).trans h3, h3'⟩, h4, h5⟩, ⟨_, set_one h6, k4.same fun g' cur hg' hc => set_far (fun e => by subst e; rw [h6] at hc; cases hc)⟩, fun t ht => hsr t (h8 t (List.mem_cons_of_mem _ ht))⟩, hsr s (h8 s (List.mem_cons_self ..))⟩
theorem UpM.put {n : Nat} {D : DataW Unit} {s : Tx} (h : UpM l B cs gN lbN met opn W) (hD : W.ownsMap Try.prog 9 (unitElem (H := Unit)) (B + 1) n D) (hn : n ≤ met.length) (hh : ∀ s, Maps.has D (.string s) = met.contains s)
  (hm : W'.ownsMap Try.prog 9 (unitElem (H := Unit)) (B + 1) (n + 1) (D.put (.string s) (.agg []))) (hg : W.grownBy W' (some (B + 1))) : UpM l B cs gN lbN (met ++ [s]) opn W' := by
 obtain ⟨⟨h1, h2⟩, -, ⟨v, h6, h7⟩, h8⟩ := h
 obtain ⟨es, cl, h3, -⟩ := id hD
 have hk : ∀ k, k ≠ B + 1 → k < W.heap.size → W'.heap[k]? = W.heap[k]? := fun k hk hlt => hg.block k hlt (fun e => hk (by cases e; rfl))
 refine ⟨⟨(hk _ (by omega) (blk_lt h1)).trans h1, (hk _ (by omega) (blk_lt h2)).trans h2⟩, ⟨n + 1, _, hm, by simp; omega, fun t => ?_⟩, ⟨v, (hk _ (by omega) (blk_lt h6)).trans h6, h7.same fun g cur hg' hc => hk _ (by omega) (blk_lt hc)⟩, fun t ht => ?_⟩
 ·by_cases e : t = s
  ·subst e
   rw [has_put_same (k := .string t) hD.isMap trivial (.agg [])]; simp
  ·rw [has_put_other (fun e' => e (by injection e')), hh]
   rw [Bool.eq_iff_iff]
   simp only [List.contains_iff_mem, List.mem_append, List.mem_singleton]
   exact ⟨.inl, fun h => h.resolve_right e⟩
 ·have := h8 t ht
  cases t with
  | nam => trivial
  | cls b c => exact ⟨this.1, (hk b (fun e => by have h9 := this.2.1; rw [e, h3] at h9; cases h9) (blk_lt this.2.1)).trans this.2.1, this.2.2⟩
theorem belm_set {kb n0 g : Nat} {u : Value} (hg : n0 ≤ g) (hk : kb < n0) : BelM kb n0 W (W.setCell ⟨g, 0, none⟩ u) :=
 ⟨rfl, rfl, rfl, by simp, fun k hk' _ => set_far (by omega), fun es c he => ⟨es, c, (set_far (by omega)).trans he⟩⟩
theorem UpM.push {w1 : World} {v v' : Value} {g : Nat} {cur : Array Value} {s : Src} (h : UpM l B cs gN lbN met opn W) (hv : W.heap[B + 4]? = some (.cells #[v] 219 (0, 0))) (ho : OwnCut w1 (B + 3) v' ((opn ++ [s]).map (srcV gN lbN)))
  (hg : W.grownBy w1 (some g)) (hgc : W.heap[g]? = some (.cells cur 101 (0, 0))) (hs : SrcOk cs B W s) : UpM l B cs gN lbN met (opn ++ [s]) (w1.setCell ⟨B + 4, 0, none⟩ v') := by
 obtain ⟨⟨h1, h2⟩, ⟨n, D, ⟨es, cl, h3, h3'⟩, h4, h5⟩, -, h8⟩ := h
 have hk : ∀ (k : Nat) (o : Obj), W.heap[k]? = some o → (∀ cs, o ≠ .cells cs 101 (0, 0)) → w1.heap[k]? = some o := fun k o ho hne => (hg.block k (blk_lt ho) (fun e => by cases e; rw [hgc] at ho; cases ho; exact hne _ rfl)).trans ho
 have hv1 := hk _ _ hv (fun cs e => by cases e)
 have hk2 : ∀ (k : Nat) (o : Obj), k ≠ B + 4 → W.heap[k]? = some o → (∀ cs, o ≠ .cells cs 101 (0, 0)) → (w1.setCell ⟨B + 4, 0, none⟩ v').heap[k]? = some o := fun k o hne ho h => (set_far hne).trans (hk k o ho h)
 have hsr : ∀ t, SrcOk cs B W t → SrcOk cs B (w1.setCell ⟨B + 4, 0, none⟩ v') t := fun t ht => by
  cases t with
  | nam => trivial
  | cls b c => exact ⟨ht.1, hk2 b _ (fun e => by have h9 := ht.2.1; rw [e, hv] at h9; cases h9) ht.2.1 (fun cs e => by cases e), ht.2.2⟩
 refine ⟨⟨hk2 _ _ (by omega) h1 (fun cs e => by cases e), hk2 _ _ (by omega) h2 (fun cs e => by cases e)⟩, ⟨n, D, ⟨es, cl, hk2 _ _ (by omega) h3 (fun cs e => by cases e), h3'⟩, h4, h5⟩, ⟨v', set_one hv1, ho.same fun g' cur' hg' hc => set_far (fun e => by subst e; rw [hv1] at hc; cases hc)⟩, fun t ht => ?_⟩
 rcases List.mem_append.1 ht with ht | ht
 ·exact hsr t (h8 t ht)
 ·rw [List.mem_singleton] at ht; subst ht; exact hsr _ hs
end
end Go.Proofs.Ytdifmgeicnndfaa.prg

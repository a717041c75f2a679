/- HierY -/
import Derived.Test.YtdifmgeicnndfaaHierX
namespace Go.Proofs.Ytdifmgeicnndfaa.prg
open Go.RowKit Go.Maps
open words kindp opp op kind word
set_option maxRecDepth 100000
set_option maxHeartbeats 8000000
set_option linter.all false
attribute [local go_sem] Oper.semAt_some
structure KnH (x : PrM) (Kn : List Tx) : Prop where
 cl : x.cs.length ≤ 70
 is : ∀ c ∈ x.cs, c.is.length ≤ 281474976710656
 kl : Kn.length ≤ 281474976710656
 ks : ∀ s ∈ Kn, s.length ≤ 281474976710656
 kc : ∀ c ∈ x.cs, ∀ s ∈ abv c, s ∈ Kn
structure NamH (kb : Nat) (names : List Tx) (gN : Nat) (lbN : Array Value) (w : World) : Prop where
 eg : ∀ args w, (callFunc gN args).run Try.prog w = .ok (.enter gN args) w
 sq : ∀ wU, BelM kb w.heap.size w wU → ∀ B, SeqT (fun _ _ _ => False) (fun _ => KI kb wU.heap.size B) (fun _ _ _ => True) (fun W => BelM kb wU.heap.size wU W) (fun _ => True) Try.prog gN lbN names
theorem NamH.belm {kb : Nat} {names : List Tx} {gN : Nat} {lbN : Array Value} {w w' : World} (h : NamH kb names gN lbN w) (hb : BelM kb w.heap.size w w') : NamH kb names gN lbN w' :=
 ⟨h.eg, fun wU hU => h.sq wU (hb.trans (hU.mono hb.size))⟩
theorem namH_vals {kb Bs : Nat} {A : Option Addr} {c : Nat} {L : List Tx} {w : World} (hm : ∃ es c, w.heap[kb]? = some (.map es c)) (hz : L.length ≤ 281474976710656) (hB : w.cell? ⟨Bs, 0, none⟩ = some (.slice A L.length c)) (hr : Rd w A (SX L)) :
  NamH kb L 105 #[.pointer (some ⟨Bs, 0, none⟩)] w := by
 refine ⟨enters_of Try.func105 (by kernel_rfl) rfl, fun wU hU B => ?_⟩
 have hmU : ∃ es c, wU.heap[kb]? = some (.map es c) := by obtain ⟨es, c, h⟩ := hm; exact hU.map es c h
 refine valsT Bs A c L (fun _ => KI kb wU.heap.size B) (fun _ W => KI.refl _ _ _ W) (fun h k => h.trans k) hz _ fun W hW => ⟨?_, fun _ W' hK => ?_⟩
 ·have hb := World.block_lt_of_cell? _ _ hB
  exact (hW.cell hmU ⟨Bs, 0, none⟩ (Nat.lt_of_lt_of_le hb hU.size)).trans ((hU.cell hm ⟨Bs, 0, none⟩ hb).trans hB)
 ·exact Rd.belm (Rd.belm (hr) hU hm) (hW.trans hK.bel) hmU
structure BelQ (kb n : Nat) (w w' : World) : Prop where
 os : w'.os = w.os
 tape : w'.tape = w.tape
 output : w'.output = w.output
 size : w.heap.size ≤ w'.heap.size
 block : ∀ k, k < n → k ≠ kb → w'.heap[k]? = w.heap[k]?
theorem BelQ.refl (kb n : Nat) (w : World) : BelQ kb n w w := ⟨rfl, rfl, rfl, Nat.le_refl _, fun _ _ _ => rfl⟩
theorem BelQ.m {kb n : Nat} {w w' : World} (h : BelQ kb n w w') (hm : ∃ es c, w'.heap[kb]? = some (.map es c)) : BelM kb n w w' := ⟨h.os, h.tape, h.output, h.size, h.block, fun _ _ _ => hm⟩
theorem BelQ.grown {kb n : Nat} {w W W' : World} {row : Option Nat} (h : BelQ kb n w W) (hg : W.grownBy W' row) (hn : n ≤ w.heap.size) (hr : ∀ r, row = some r → r = kb ∨ n ≤ r) : BelQ kb n w W' :=
 ⟨hg.os.trans h.os, hg.tape.trans h.tape, hg.output.trans h.output, Nat.le_trans h.size hg.size, fun k hk hne => (hg.block k (by have := h.size; omega) (fun e => by have := hr k e.symm; omega)).trans (h.block k hk hne)⟩
theorem BelM.q {kb n : Nat} {w w' : World} (h : BelM kb n w w') : BelQ kb n w w' := ⟨h.os, h.tape, h.output, h.size, h.block⟩
theorem BelQ.trans {kb n : Nat} {a b c : World} (h : BelQ kb n a b) (k : BelQ kb n b c) : BelQ kb n a c := ⟨k.os.trans h.os, k.tape.trans h.tape, k.output.trans h.output, Nat.le_trans h.size k.size, fun i hi hn => (k.block i hi hn).trans (h.block i hi hn)⟩
def LdI (kb : Nat) (to : Tx) (w : World) (pre : List Tx) (W : World) : Prop :=
 pre.contains to = false ∧ BelQ kb w.heap.size w W ∧ W.heap[w.heap.size + 1]? = some (.cells #[.string ⟨to.toArray⟩] 9 (0, 0)) ∧ W.heap[w.heap.size + 2]? = some (.cells #[.bool false] 4 (0, 0))
def LdX (kb : Nat) (to : Tx) (w : World) (c : Code) (pre : List Tx) (W : World) : Prop :=
 (pre.contains to = true ∧ BelQ kb w.heap.size w W ∧ W.heap[w.heap.size + 2]? = some (.cells #[.bool true] 4 (0, 0))) ∧ c = .ret
theorem ldi_own {kb D : Nat} {to : Tx} {w : World} (hk : kb < w.heap.size) (hD : w.heap.size + 3 ≤ D) : AbL (fun W r => r = kb ∨ (D + 2 ≤ r ∧ ∃ o : Obj, W.heap[r]? = some o ∧ yo o = true)) D (LdI kb to w) := by
 intro s W W' row ⟨h1, h2, h3, h4⟩ hg hr
 have hr' : ∀ r, row = some r → r = kb ∨ D ≤ r := fun r e => by rcases hr r e with (h | ⟨h, -⟩) | ⟨h, -⟩ <;> omega
 exact ⟨h1, h2.grown hg (Nat.le_refl _) (fun r e => by have := hr' r e; omega), (hg.block _ (blk_lt h3) (fun e => by have := hr' _ e.symm; omega)).trans h3, (hg.block _ (blk_lt h4) (fun e => by have := hr' _ e.symm; omega)).trans h4⟩
theorem ldx_own {kb D : Nat} {to : Tx} {w : World} (hk : kb < w.heap.size) (hD : w.heap.size + 3 ≤ D) (c : Code) : AbL (fun W r => r = kb ∨ (D + 2 ≤ r ∧ ∃ o : Obj, W.heap[r]? = some o ∧ yo o = true)) D (LdX kb to w c) := by
 intro s W W' row ⟨⟨h1, h2, h4⟩, hc⟩ hg hr
 have hr' : ∀ r, row = some r → r = kb ∨ D ≤ r := fun r e => by rcases hr r e with (h | ⟨h, -⟩) | ⟨h, -⟩ <;> omega
 exact ⟨⟨h1, h2.grown hg (Nat.le_refl _) (fun r e => by have := hr' r e; omega), (hg.block _ (blk_lt h4) (fun e => by have := hr' _ e.symm; omega)).trans h4⟩, hc⟩
theorem leads_in (x : PrM) (kb : Nat) (Kn names : List Tx) (gN : Nat) (lbN : Array Value) (to : Tx) (w : World) (hpr : PrOk w x) (hH : KnH x Kn) (hkn : ∀ s ∈ names, s ∈ Kn) (hK : KnM x.cs Kn kb w) (hN : NamH kb names gN lbN w) :
  CallsIn Fence.wide 5 Try.prog 125 #[.agg (trC x kb).toArray, .func (.func gN) #[] lbN, .string ⟨to.toArray⟩] w fun e w' => e = .returned (.bool ((upL x.cs names).contains to)) ∧ KnM x.cs Kn kb w' ∧ BelM kb w.heap.size w w' := by
 have hkl := hK.lt
 obtain ⟨W3, hW3⟩ : ∃ W3, W3 = ((w.alloc (.cells (trC x kb).toArray 160)).alloc (.cells #[.string ⟨to.toArray⟩] 9)).alloc (.cells #[.bool false] 4) := ⟨_, rfl⟩
 have hs3 : W3.heap.size = w.heap.size + 3 := by rw [hW3]; simp
 have hb3 : Below w.heap.size w W3 := by rw [hW3]; exact (((Below.refl _ w).alloc (Nat.le_refl _) _).alloc (by simp) _).alloc (by simp; omega) _
 have e0 : W3.heap[w.heap.size]? = some (.cells (trC x kb).toArray 160 (0, 0)) := by rw [hW3]; exact (Below.heap_alloc _ _ _ (by simp; omega)).trans ((Below.heap_alloc _ _ _ (by simp)).trans (heap_alloc_new w _))
 have e1 : W3.heap[w.heap.size + 1]? = some (.cells #[.string ⟨to.toArray⟩] 9 (0, 0)) := by
  have := heap_alloc_new (w.alloc (.cells (trC x kb).toArray 160)) (.cells #[.string ⟨to.toArray⟩] 9)
  rw [World.size_alloc] at this
  rw [hW3]; exact (Below.heap_alloc _ _ _ (by simp)).trans this
 have e2 : W3.heap[w.heap.size + 2]? = some (.cells #[.bool false] 4 (0, 0)) := by
  have := heap_alloc_new ((w.alloc (.cells (trC x kb).toArray 160)).alloc (.cells #[.string ⟨to.toArray⟩] 9)) (.cells #[.bool false] 4)
  rw [World.size_alloc, World.size_alloc] at this
  rw [hW3]; exact this
 have HUW := zh (upwards_w (trC x kb).toArray gN lbN W3)
 obtain ⟨Wu, hWu⟩ : ∃ Wu, Wu = (W3.alloc (.cells (trC x kb).toArray 160)).alloc (.cells #[.func (.func gN) #[] lbN] 101) := ⟨_, rfl⟩
 have hsu : Wu.heap.size = w.heap.size + 5 := by rw [hWu]; simp; omega
 have hbu : Below w.heap.size w Wu := by rw [hWu]; exact (hb3.alloc hb3.size _).alloc (by simp; omega) _
 have hb3u : Below W3.heap.size W3 Wu := by rw [hWu]; exact ((Below.refl _ W3).alloc (Nat.le_refl _) _).alloc (by simp) _
 have u3 : Wu.heap[w.heap.size + 3]? = some (.cells (trC x kb).toArray 160 (0, 0)) := by
  rw [hWu, ← hs3]; exact (Below.heap_alloc _ _ _ (by simp)).trans (heap_alloc_new W3 _)
 have u4 : Wu.heap[w.heap.size + 4]? = some (.cells #[.func (.func gN) #[] lbN] 101 (0, 0)) := by
  have := heap_alloc_new (W3.alloc (.cells (trC x kb).toArray 160)) (.cells #[.func (.func gN) #[] lbN] 101)
  rw [World.size_alloc, hs3] at this
  rw [hWu]; exact this
 have hKu : KnM x.cs Kn kb Wu := hK.same (hbu.block kb hkl)
 have hUp : UpH x kb (w.heap.size + 3) (w.heap.size + 4) Kn names gN lbN Wu := ⟨hpr.below hbu, hH.cl, hH.is, hH.kl, hH.ks, hkn, hH.kc, hKu.map, u3, u4, hN.eg, hN.sq Wu (BelM.of hbu hkl)⟩
 have hI0 : LdI kb to w [] Wu := ⟨rfl, (BelM.of hbu hkl).q, (hb3u.block _ (by omega)).trans e1, (hb3u.block _ (by omega)).trans e2⟩
 have HSQ := zh (up_T hUp)
 have HKU := zh hKu; have HI0 := zh hI0; have HSU := zh hsu; have HKL := zh hkl; have HBU := zh hbu; have HS3 := zh hs3
 obtain ⟨x0, x1, x2, x3, x4, x5⟩ := c6q e0
 have HIO := zh (ldi_own (D := w.heap.size + 5) (to := to) hkl (by omega)); have HXO := zh (fun c => ldx_own (D := w.heap.size + 5) (to := to) hkl (by omega) c)
 unfold trC prC at hW3 hWu HUW ⊢
 try dsimp only [List.cons_append, List.nil_append] at hW3 hWu HUW ⊢
 rw [← hWu] at HUW
 rw [hs3] at HUW
 have HW3 := zh hW3
 clear hb3 e0 e1 e2 hbu hb3u u3 u4 hKu hUp hI0 hW3 hWu hpr hH hkn hK hN hsu hs3
 refine callsIn_of_wp_marks Try.func125 rfl trivial ?_ rfl
 simp only [Try.ntmps125, List.size_toArray, List.length_cons, List.length_nil, Nat.reduceAdd, Nat.reduceSub, Array.replicate_succ, Array.replicate_zero, List.push_toArray, List.append_toArray, List.nil_append, List.cons_append]
 gi_wp2_with fail
 rw [← HW3.out]
 (try gi_wp2_with fail)
 refine ⟨trivial, callsIn_wide.2 (HUW.out.mono ?_)⟩
 rintro e V ⟨rfl, hV⟩; subst hV
 clear x0 x1 x2 x3 x4 x5
 gi_wp2
 refine wpIn_rangeFunc_T (T := fun B W r => r = kb ∨ (B ≤ r ∧ ∃ o : Obj, W.heap[r]? = some o ∧ yo o = true)) (Kp := fun B => KpX kb V.heap.size B) (Kf := fun B => KfX kb B) (U := fun W => BelM kb V.heap.size V W ∧ KnM x.cs Kn kb W) (V := fun W => KnM x.cs Kn kb W) (L := upL x.cs names) rfl (enters_of Try.func161 (by kernel_rfl) rfl) HSQ.out rfl
  (fun W hW => ⟨BelM.of hW HKU.out.lt, HKU.out.same (hW.block kb HKU.out.lt)⟩) (fun W r h => by have := HKU.out.lt; rcases h with h | ⟨h, -⟩ <;> omega) (fun h k => h.trans k) (fun W o o' ho _ => KpX.putObj o' (by omega) (by omega) HKU.out.lt ho) (fun W W3 o' p' h => KfX.book (by omega) (by have := HKU.out.lt; omega) h) (fun W o o' hK ho hc => hK.same (World.putObj_heap_other (by have := HKU.out.lt; omega)))
  (LdI kb to w) (LdX kb to w) (by rw [HSU.out]; exact HIO.out) (fun c => by rw [HSU.out]; exact HXO.out c) HI0.out
  (fun y => { tmps := #[.agg #[.slice x.A1 x.cs.length x.c1, .slice x.A2 x.ns.length x.c2, .string ⟨x.ec.toArray⟩, .string ⟨x.en.toArray⟩, .string ⟨x.ed.toArray⟩, .map (some kb)], .func (.func gN) #[] lbN, .string ⟨to.toArray⟩, .pointer (some ⟨w.heap.size, 0, none⟩), undef, .pointer (some ⟨w.heap.size + 1, 0, none⟩), .pointer (some ⟨w.heap.size + 2, 0, none⟩), .string ⟨y.toArray⟩, .agg #[.slice x.A1 x.cs.length x.c1, .slice x.A2 x.ns.length x.c2, .string ⟨x.ec.toArray⟩, .string ⟨x.en.toArray⟩, .string ⟨x.ed.toArray⟩, .map (some kb)], .func (.func gN) #[] lbN, .func (.func 161) #[] #[.pointer (some ⟨w.heap.size + 4, 0, none⟩), .pointer (some ⟨w.heap.size + 3, 0, none⟩)], .string ⟨y.toArray⟩, undef, undef, undef], defers := [] }) ?assign ?body ?done ?stop
 case assign =>
  intro l' y W K hK
  gi_wp2
  exact hK
 case body =>
  rintro pre y W hI hpre - -
  obtain ⟨h1, h2, h3, h4⟩ := id hI
  have c1 : W.cell? ⟨w.heap.size + 1, 0, none⟩ = some (.string ⟨to.toArray⟩) := cell_of_row _ _ 0 _ _ _ h3
  have c2 : W.cell? ⟨w.heap.size + 2, 0, none⟩ = some (.bool false) := cell_of_row _ _ 0 _ _ _ h4
  have f2 : W.frozen? ⟨w.heap.size + 2, 0, none⟩ = false := frozen_of_row _ (w.heap.size + 2) 0 _ _ h4
  by_cases e : y = to
  ·subst e
   have HP := zh (show ((W.setCell ⟨w.heap.size + 2, 0, none⟩ (.bool true)).heap[V.heap.size + 1]? = W.heap[V.heap.size + 1]? ∧ (W.setCell ⟨w.heap.size + 2, 0, none⟩ (.bool true)).heap[V.heap.size]? = W.heap[V.heap.size]?) ∧ KfX kb (V.heap.size + 2) W (W.setCell ⟨w.heap.size + 2, 0, none⟩ (.bool true)) ∧ LdX kb y w .ret (pre ++ [y]) (W.setCell ⟨w.heap.size + 2, 0, none⟩ (.bool true)) from by
    have := HSU.out; have := HKL.out
    exact ⟨⟨set_far (by omega), set_far (by omega)⟩, ⟨by simp, set_far (by omega), fun k o hB ho _ => (set_far (by omega)).trans ho⟩, ⟨by simp, h2.trans ⟨rfl, rfl, rfl, by simp, fun k hk _ => set_far (by omega)⟩, set_one h4⟩, rfl⟩)
   have hee : (y == y) = true := beq_self_eq_true _
   clear hI h1 h2 h3 h4
   gi_wp2
   exact HP.out
  ·have hee : (y == to) = false := by simpa using e
   have HP := zh (show KpX kb V.heap.size (V.heap.size + 2) W W ∧ LdI kb to w (pre ++ [y]) W from ⟨KpX.refl _ _ _ _, by
    rw [← Bool.not_eq_true, List.contains_iff_mem, List.mem_append, List.mem_singleton]
    rintro (h | h)
    ·rw [List.contains_iff_mem.2 h] at h1; cases h1
    ·exact e h.symm, h2, h3, h4⟩)
   clear hI h1 h2 h3 h4
   gi_wp2
   exact ⟨⟨rfl, rfl⟩, HP.out.1, HP.out.2⟩
 case done =>
  rintro W hK ⟨h1, h2, h3, h4⟩ hd
  have c2 : W.cell? ⟨w.heap.size + 2, 0, none⟩ = some (.bool false) := cell_of_row _ _ 0 _ _ _ h4
  have f2 : W.frozen? ⟨w.heap.size + 2, 0, none⟩ = false := frozen_of_row _ (w.heap.size + 2) 0 _ _ h4
  have hV := HSU.out; have hk := HKL.out
  have hd' : (W.setCell ⟨w.heap.size + 2, 0, none⟩ (.bool false)).heap[V.heap.size]? = some (.deferred (some [])) := (set_far (by omega)).trans hd
  have h5 : ((W.setCell ⟨w.heap.size + 2, 0, none⟩ (.bool false)).putObj V.heap.size (.deferred none)).heap[w.heap.size + 2]? = some (.cells #[.bool false] 4 (0, 0)) := (World.putObj_heap_other (by omega)).trans (set_one h4)
  have c5 : ((W.setCell ⟨w.heap.size + 2, 0, none⟩ (.bool false)).putObj V.heap.size (.deferred none)).cell? ⟨w.heap.size + 2, 0, none⟩ = some (.bool false) := cell_of_row _ _ 0 _ _ _ h5
  have hK5 : KnM x.cs Kn kb ((W.setCell ⟨w.heap.size + 2, 0, none⟩ (.bool false)).putObj V.heap.size (.deferred none)) := hK.same ((World.putObj_heap_other (by omega)).trans (set_far (by omega)))
  have hB5 : BelM kb w.heap.size w ((W.setCell ⟨w.heap.size + 2, 0, none⟩ (.bool false)).putObj V.heap.size (.deferred none)) := ((h2.grown (grownBy_setCell' W (w.heap.size + 2) (.bool false)) (Nat.le_refl _) (fun r e => by cases e; omega)).grown (grownBy_putObj' _ V.heap.size (.deferred none)) (Nat.le_refl _) (fun r e => by cases e; omega)).m hK5.map
  have HD := zh hd'; have HK5 := zh hK5; have HB5 := zh hB5; have H1 := zh h1; have HC5 := zh c5
  clear h1 h2 h3 h4 hd hd' h5 hK5 hB5 hK c5 hV
  gi_wp2
  refine ⟨by simp, .inl ⟨_, _, rfl, run_takeDeferred HD.out, ?_⟩⟩
  have c5 := HC5.out
  refine ⟨.bool false, ?_, by rw [H1.out], HK5.out, HB5.out⟩
  simp [results, Try.results125, go_sem, c5]
 case stop =>
  rintro c pre W hK hpre ⟨⟨h1, h2, h4⟩, rfl⟩ hd
  have hV := HSU.out; have hk := HKL.out
  have h5 : (W.putObj V.heap.size (.deferred none)).heap[w.heap.size + 2]? = some (.cells #[.bool true] 4 (0, 0)) := (World.putObj_heap_other (by omega)).trans h4
  have c5 : (W.putObj V.heap.size (.deferred none)).cell? ⟨w.heap.size + 2, 0, none⟩ = some (.bool true) := cell_of_row _ _ 0 _ _ _ h5
  have hK5 : KnM x.cs Kn kb (W.putObj V.heap.size (.deferred none)) := hK.same (World.putObj_heap_other (by omega))
  have hB5 : BelM kb w.heap.size w (W.putObj V.heap.size (.deferred none)) := (h2.grown (grownBy_putObj' _ V.heap.size (.deferred none)) (Nat.le_refl _) (fun r e => by cases e; omega)).m hK5.map
  have hm : (upL x.cs names).contains to = true := List.contains_iff_mem.2 (hpre.subset (List.contains_iff_mem.1 h1))
  have HD := zh hd; have HK5 := zh hK5; have HB5 := zh hB5; have H1 := zh hm; have HC5 := zh c5
  clear h1 h2 h4 hd h5 hK5 hB5 hK c5 hV hm
  gi_wp2
  refine ⟨by simp, .inl ⟨_, _, rfl, run_takeDeferred HD.out, ?_⟩⟩
  have c5 := HC5.out
  refine ⟨.bool true, ?_, by rw [H1.out], HK5.out, HB5.out⟩
  simp [results, Try.results125, go_sem, c5]
theorem leads_w (x : PrM) (kb : Nat) (Kn names : List Tx) (gN : Nat) (lbN : Array Value) (to : Tx) (w : World) (hpr : PrOk w x) (hH : KnH x Kn) (hkn : ∀ s ∈ names, s ∈ Kn) (hK : KnM x.cs Kn kb w) (hN : NamH kb names gN lbN w) :
  Calls Try.prog 125 #[.agg (trC x kb).toArray, .func (.func gN) #[] lbN, .string ⟨to.toArray⟩] w fun e w' => e = .returned (.bool ((upL x.cs names).contains to)) ∧ KnM x.cs Kn kb w' ∧ BelM kb w.heap.size w w' :=
 (callsIn_wide (n := 5)).1 (leads_in x kb Kn names gN lbN to w hpr hH hkn hK hN)
end Go.Proofs.Ytdifmgeicnndfaa.prg
namespace Go.Proofs.Ytdifmgeicnndfaa.prg
open Go.RowKit Go.Maps
open words kindp opp op kind word
set_option maxRecDepth 100000
set_option maxHeartbeats 8000000
set_option linter.all false
theorem treeOf_w (x : PrM) (w : World) :
  Calls Try.prog 91 #[.agg (prC x).toArray] w fun e w' => e = .returned (.agg (trC x (w.heap.size + 2)).toArray) ∧ w.heap.size + 2 < w'.heap.size ∧ (∀ Kn, KnM x.cs Kn (w.heap.size + 2) w') ∧ Below w.heap.size w w' := by
 unfold trC prC
 try dsimp only [List.cons_append, List.nil_append]
 have hmm := @run_makeMap Try.prog
 go_enter Try.func91, Try.ntmps91
 go_wp2
 obtain ⟨W, hW⟩ : ∃ W, W = (((w.alloc (.cells #[.slice x.A1 x.cs.length x.c1, .slice x.A2 x.ns.length x.c2, .string ⟨x.ec.toArray⟩, .string ⟨x.en.toArray⟩, .string ⟨x.ed.toArray⟩] 27)).alloc (.cells #[.slice x.A1 x.cs.length x.c1, .slice x.A2 x.ns.length x.c2, .string ⟨x.ec.toArray⟩, .string ⟨x.en.toArray⟩, .string ⟨x.ed.toArray⟩, .map (some (w.heap.size + 1 + 1))] 160)).alloc (.map #[] 0)) := ⟨_, rfl⟩
 have hal : Below w.heap.size w W := by rw [hW]; exact (((Below.refl _ w).alloc (Nat.le_refl _) _).alloc (by simp) _).alloc (by simp; omega) _
 have hsz : W.heap.size = w.heap.size + 3 := by rw [hW]; simp
 have hb : W.heap[w.heap.size + 1]? = some (.cells #[.slice x.A1 x.cs.length x.c1, .slice x.A2 x.ns.length x.c2, .string ⟨x.ec.toArray⟩, .string ⟨x.en.toArray⟩, .string ⟨x.ed.toArray⟩, .map (some (w.heap.size + 1 + 1))] 160 (0, 0)) := by
  have := heap_alloc_new (w.alloc (.cells #[.slice x.A1 x.cs.length x.c1, .slice x.A2 x.ns.length x.c2, .string ⟨x.ec.toArray⟩, .string ⟨x.en.toArray⟩, .string ⟨x.ed.toArray⟩] 27)) (.cells #[.slice x.A1 x.cs.length x.c1, .slice x.A2 x.ns.length x.c2, .string ⟨x.ec.toArray⟩, .string ⟨x.en.toArray⟩, .string ⟨x.ed.toArray⟩, .map (some (w.heap.size + 1 + 1))] 160)
  rw [World.size_alloc] at this
  rw [hW]; exact (Below.heap_alloc _ _ _ (by simp)).trans this
 have hk : ∀ Kn, KnM x.cs Kn (w.heap.size + 2) W := fun Kn => by
  have := KnM.made x.cs Kn ((w.alloc (.cells #[.slice x.A1 x.cs.length x.c1, .slice x.A2 x.ns.length x.c2, .string ⟨x.ec.toArray⟩, .string ⟨x.en.toArray⟩, .string ⟨x.ed.toArray⟩] 27)).alloc (.cells #[.slice x.A1 x.cs.length x.c1, .slice x.A2 x.ns.length x.c2, .string ⟨x.ec.toArray⟩, .string ⟨x.en.toArray⟩, .string ⟨x.ed.toArray⟩, .map (some (w.heap.size + 1 + 1))] 160))
  rw [World.size_alloc, World.size_alloc, Nat.add_assoc] at this
  rw [hW]; exact this
 obtain ⟨c0, c1, c2, c3, c4, c5⟩ := c6q hb
 rw [← hW]
 refine bodyPost_ret (v := .agg #[.slice x.A1 x.cs.length x.c1, .slice x.A2 x.ns.length x.c2, .string ⟨x.ec.toArray⟩, .string ⟨x.en.toArray⟩, .string ⟨x.ed.toArray⟩, .map (some (w.heap.size + 1 + 1))]) ?_ rfl ⟨rfl, by omega, hk, hal⟩
 simp [results, Try.results91, go_sem, c0, c1, c2, c3, c4, c5]
theorem sub_w (x : PrM) (Kn : List Tx) (a b : Tx) (w : World) (hpr : PrOk w x) (hH : KnH x Kn) (ha : a ∈ Kn) :
  Calls Try.prog 86 #[.agg (prC x).toArray, .string ⟨a.toArray⟩, .string ⟨b.toArray⟩] w fun e w' => e = .returned (.bool (subB x.cs a b)) ∧ Below w.heap.size w w' := by
 obtain ⟨W, hW⟩ : ∃ W, W = w.alloc (.cells (prC x).toArray 27) := ⟨_, rfl⟩
 have hal : Below w.heap.size w W := by rw [hW]; exact (Below.refl _ w).alloc (Nat.le_refl _) _
 have hblk : W.heap[w.heap.size]? = some (.cells (prC x).toArray 27 (0, 0)) := by rw [hW]; exact heap_alloc_new w _
 obtain ⟨x0, x1, x2, x3, x4⟩ := pr_cells hblk
 have HTR := zh (treeOf_w x W)
 have HAL := zh hal; have HPR := zh (hpr.below hal); have HHH := zh hH; have HA := zh ha
 have HLD := zh (fun kb Bs v h1 h2 h3 h4 h5 => leads_w x kb Kn [a] 105 #[.pointer (some ⟨Bs, 0, none⟩)] b v h1 h2 h3 h4 h5)
 obtain ⟨rr, hrr⟩ : ∃ r, r = (upL x.cs [a]).contains b := ⟨_, rfl⟩
 have HRR := zh hrr
 rw [← hrr] at HLD
 clear hrr
 unfold trC at HTR HLD
 unfold prC at hW HTR HLD ⊢
 try dsimp only [List.cons_append, List.nil_append] at hW HTR HLD ⊢
 have HW := zh hW
 clear hal hblk hW hpr hH ha
 go_enter Try.func86, Try.ntmps86
 go_wp2_with fail
 rw [← HW.out]
 (try go_wp2_with fail)
 refine HTR.out.mono ?_
 rintro e w1 ⟨rfl, h1, h2, h3⟩
 have HK1 := zh (h2 Kn); have HB1 := zh h3; have HL1 := zh h1
 clear h1 h2 h3 x0 x1 x2 x3 x4
 go_wp2_with fail
 refine (onlyH_w a w1).mono ?_
 rintro e w2 ⟨rfl, hw2⟩
 have hb2 : Below w1.heap.size w1 w2 := by rw [hw2]; exact ((Below.refl _ w1).alloc (Nat.le_refl _) _).alloc (by simp) _
 have hc2 : w2.cell? ⟨w1.heap.size + 1, 0, none⟩ = some (.slice (some ⟨w1.heap.size, 0, none⟩) 1 1) := by
  have := heap_alloc_new (w1.alloc (.cells #[.string ⟨a.toArray⟩] 9)) (.cells #[.slice (some ⟨w1.heap.size, 0, none⟩) 1 1] 23)
  rw [World.size_alloc] at this
  rw [hw2]; exact cell_of_row _ _ 0 _ _ _ this
 have hr2 : Rd w2 (some ⟨w1.heap.size, 0, none⟩) (SX [a]) := by
  rw [hw2]
  exact (rd_blk (heap_alloc_new w1 _) (k := 1) rfl : Rd (w1.alloc (.cells #[.string ⟨a.toArray⟩] 9)) (some ⟨w1.heap.size, 0, none⟩) (SX [a])).below ((Below.refl _ _).alloc (Nat.le_refl _) _)
 have hk2 : KnM x.cs Kn (W.heap.size + 2) w2 := HK1.out.same (hb2.block _ HL1.out)
 have hN : NamH (W.heap.size + 2) [a] 105 #[.pointer (some ⟨w1.heap.size + 1, 0, none⟩)] w2 := namH_vals hk2.map (by simp) hc2 hr2
 have HL2 := zh (HLD.out (W.heap.size + 2) (w1.heap.size + 1) w2 ((HPR.out.below HB1.out).below hb2) HHH.out (fun s hs => by rw [List.mem_singleton] at hs; subst hs; exact HA.out) hk2 hN)
 have HB2 := zh (HAL.out.trans ((HB1.out.trans (hb2.mono HB1.out.size)).mono HAL.out.size))
 clear hw2 hb2 hc2 hr2 hk2 hN
 go_wp2_with fail
 refine HL2.out.mono ?_
 rintro e w3 ⟨rfl, hk3, hb3⟩
 have HB3 := zh (show Below w.heap.size w w3 from by
  have h1 := HB2.out; have h2 := HAL.out.size
  exact ⟨hb3.os.trans h1.os, hb3.tape.trans h1.tape, hb3.output.trans h1.output, Nat.le_trans h1.size hb3.size, fun k hk => (hb3.block k (by have := h1.size; omega) (by omega)).trans (h1.block k hk)⟩)
 clear hk3 hb3
 go_wp2
 go_ret
 exact ⟨by unfold subB; rw [← HRR.out]; rfl, HB3.out⟩
end Go.Proofs.Ytdifmgeicnndfaa.prg
namespace Go.Proofs.Ytdifmgeicnndfaa.prg
open Go.RowKit Go.Maps
open words kindp opp op kind word
set_option maxRecDepth 100000
set_option maxHeartbeats 8000000
set_option linter.all false
def ifB (cs : List ClM) (s : Tx) : Bool := match findC cs s with
 | some c => c.fc
 | none => false
theorem iface_t (x : PrM) (kb : Nat) (Kn : List Tx) (s : Tx) (w : World) (hr : Rd w x.A1 (x.cs.flatMap clC)) (hl : x.cs.length ≤ 281474976710656) (hm : KnM x.cs Kn kb w) (hs : s ∈ Kn) (hsl : s.length ≤ 281474976710656) (hKn : Kn.length ≤ 281474976710656) :
  Calls Try.prog 92 #[.agg (trC x kb).toArray, .string ⟨s.toArray⟩] w fun e w' => e = .returned (.bool (ifB x.cs s)) ∧ KnM x.cs Kn kb w' ∧ BelM kb w.heap.size w w' := by
 obtain ⟨W, hW⟩ : ∃ W, W = w.alloc (.cells (trC x kb).toArray 160) := ⟨_, rfl⟩
 have hal : Below w.heap.size w W := by rw [hW]; exact (Below.refl _ w).alloc (Nat.le_refl _) _
 have hsz : W.heap.size = w.heap.size + 1 := by rw [hW]; simp
 have hblk : W.heap[w.heap.size]? = some (.cells (trC x kb).toArray 160 (0, 0)) := by rw [hW]; exact heap_alloc_new w _
 have hkl := hm.lt
 have HPL := zh (place_t x kb Kn s W (hr.below hal) hl (hm.same (hal.block kb hkl)) hs hsl hKn)
 obtain ⟨x0, x1, x2, x3, x4, x5⟩ := c6q hblk
 have HAL := zh hal; have HKL := zh hkl; have HBK := zh hblk
 have HRW := zh (hr.below hal)
 have HMW := zh (hm.same (hal.block kb hkl)).map
 have hp2 := place_two x.cs s
 obtain ⟨b, hb⟩ : ∃ b, b = ifB x.cs s := ⟨_, rfl⟩
 obtain ⟨P, hP⟩ : ∃ P, P = placeI x.cs s := ⟨_, rfl⟩
 rw [← hP] at hp2 HPL
 rw [← hb]
 have HNE := zh (show w.heap.size ≠ kb from by omega); have HSZ := zh hsz
 have HBB := zh hb; have HP2 := zh hp2; have HL := zh hl
 obtain ⟨cs, A1, c1, ns, A2, c2, ec, en, ed⟩ := x
 dsimp only at *
 obtain ⟨n, hn⟩ : ∃ n, n = cs.length := ⟨_, rfl⟩
 have HN := zh hn
 unfold trC prC at hW HPL ⊢
 try dsimp only [List.cons_append, List.nil_append] at hW HPL ⊢
 rw [← hn] at hW HPL x0 HL ⊢
 have hnI : (n : Int) ≤ 281474976710656 := by have := HL.out; omega
 have HW := zh hW
 clear hW hal hblk hm hs hr hl hkl hKn hsl hb hP hp2 hsz hn
 go_enter Try.func92, Try.ntmps92
 go_wp2_with fail
 rw [← HW.out]
 go_wp2_with fail
 refine HPL.out.mono ?_
 rintro e w1 ⟨rfl, hk1, hb1⟩
 have HK1 := zh hk1
 have HB1 := zh ((BelM.of HAL.out HKL.out).trans (hb1.mono HAL.out.size))
 clear x0 x1 x2 x3 x4 x5
 have hbk1 : w1.heap[w.heap.size]? = W.heap[w.heap.size]? := hb1.block _ (by rw [HSZ.out]; omega) HNE.out
 have x0 : w1.cell? ⟨w.heap.size, 0, none⟩ = some (.slice A1 n c1) := by rw [HN.out]; exact cell_of_row _ _ 0 _ _ _ (hbk1.trans HBK.out)
 have hrd1 : Rd w1 A1 (cs.flatMap clC) := Rd.belm HRW.out hb1 HMW.out
 rcases HP2.out with ⟨h1, h2⟩ | ⟨k, c, h1, hc, -, h2⟩
 ·have hbf : b = false := by rw [HBB.out]; unfold ifB; rw [h2]
  subst h1; subst hbf
  clear hk1 hb1 hbk1 h2 hrd1
  go_wp2
  go_ret
  exact ⟨rfl, HK1.out, HB1.out⟩
 ·have hbf : b = c.fc := by rw [HBB.out]; unfold ifB; rw [h2]
  subst h1; subst hbf
  have hkI : ((k : Int) != -1) = true := by simp
  have hkn : k < n := by rw [HN.out]; exact (List.getElem?_eq_some_iff.1 hc).1
  have hknI : (k : Int) < (n : Int) := by omega
  obtain ⟨a, rfl, -, q0, q1, q2, q3, q4, q5, q6⟩ := cl_at hrd1 hc
  clear hk1 hb1 hbk1 h2 hrd1 hc
  go_wp2
  go_ret
  exact ⟨rfl, HK1.out, HB1.out⟩
structure FitH (x : PrM) (kb : Nat) (Kn : List Tx) (Bt : Nat) (w : World) : Prop where
 pr : Rd w x.A1 (x.cs.flatMap clC)
 cl : x.cs.length ≤ 70
 kl : Kn.length ≤ 281474976710656
 ks : ∀ s ∈ Kn, s.length ≤ 281474976710656
 km : KnM x.cs Kn kb w
 tb : w.heap[Bt]? = some (.cells (trC x kb).toArray 160 (0, 0))
theorem FitH.keep {x : PrM} {kb : Nat} {Kn : List Tx} {Bt : Nat} {w w' : World} (h : FitH x kb Kn Bt w) (hk : KnM x.cs Kn kb w') (hb : BelM kb w.heap.size w w') : FitH x kb Kn Bt w' :=
 ⟨Rd.belm h.pr hb h.km.map, h.cl, h.kl, h.ks, hk, (hb.block _ (blk_lt h.tb) (fun e => by obtain ⟨es, c, h1⟩ := h.km.map; rw [← e, h.tb] at h1; cases h1)).trans h.tb⟩
theorem FitH.tcells {x : PrM} {kb : Nat} {Kn : List Tx} {Bt : Nat} {w : World} (h : FitH x kb Kn Bt w) : w.cell? ⟨Bt, 0, none⟩ = some (.slice x.A1 x.cs.length x.c1) ∧ w.cell? ⟨Bt, 1, none⟩ = some (.slice x.A2 x.ns.length x.c2) ∧ w.cell? ⟨Bt, 2, none⟩ = some (.string ⟨x.ec.toArray⟩) ∧ w.cell? ⟨Bt, 3, none⟩ = some (.string ⟨x.en.toArray⟩) ∧ w.cell? ⟨Bt, 4, none⟩ = some (.string ⟨x.ed.toArray⟩) ∧ w.cell? ⟨Bt, 5, none⟩ = some (.map (some kb)) :=
 ⟨cell_of_row _ _ 0 _ _ _ h.tb, cell_of_row _ _ 1 _ _ _ h.tb, cell_of_row _ _ 2 _ _ _ h.tb, cell_of_row _ _ 3 _ _ _ h.tb, cell_of_row _ _ 4 _ _ _ h.tb, cell_of_row _ _ 5 _ _ _ h.tb⟩
end Go.Proofs.Ytdifmgeicnndfaa.prg

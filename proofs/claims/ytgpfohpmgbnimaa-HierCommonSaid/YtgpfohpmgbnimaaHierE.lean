/-
  Layer 11: Ancestors, Concrete, Subs: the program's answers.
-/
import Derived.Test.YtgpfohpmgbnimaaHierB
import Derived.Test.YtgpfohpmgbnimaaShelf2
import Derived.RangeFuncBox
import Derived.Sort.OwnSorted
/- Layer 11: what climbing comes to, gathered and sorted: the program's answers. -/
namespace Go.Proofs.Ytgpfohpmgbnimaa.prg
open Go.RowKit Go.Maps Go.Shelf
open words kindp opp op kind word
set_option linter.all false
attribute [local go_sem] Oper.semAt_some

theorem row_kept {W W' : World} {row : Option Nat} {base e n : Nat} {v : Value} {xs : List Value} (h : W.ownsRow base e 1 v n xs) (hg : W.grownBy W' row) (hr : ∀ r, row = some r → ∀ cur, W.heap[r]? ≠ some (.cells cur e (0, 0))) : W'.ownsRow base e 1 v n xs := by
 refine h.kept hg ?_
 rcases h.2 with ⟨rfl, _⟩ | ⟨g, cap, cur, rfl, _, hgb, _⟩
 ·exact .inl rfl
 ·refine .inr fun e' => ?_
  exact hr g (by simpa [Value.ownBlock] using e'.symm) cur hgb
/-- behind an append to the row in a box -/
theorem app_kpx {kb n0 B Bx k : Nat} {W w1 : World} {v v' : Value} {tmp : Obj} {xs : List Value} (hv : Boxed W Bx 23 v) (hrow : W.ownsRow n0 9 1 v k xs) (hB : n0 ≤ Bx) (hk : kb < n0) (hn : n0 ≤ W.heap.size)
  (hgrow : (W.alloc tmp).grownBy w1 v.ownBlock) : KpX kb n0 B W (w1.setCell ⟨Bx, 0, none⟩ v') ∧ ∀ (j : Nat) (o : Obj), W.heap[j]? = some o → o.isCells = false → (w1.setCell ⟨Bx, 0, none⟩ v').heap[j]? = W.heap[j]? := by
 have hs := grownBy_setCell' w1 Bx v'
 have hz : W.heap.size ≤ w1.heap.size := by have := hgrow.size; simp at this; omega
 have key : ∀ j, j < W.heap.size → j ≠ Bx → some j ≠ v.ownBlock → (w1.setCell ⟨Bx, 0, none⟩ v').heap[j]? = W.heap[j]? := fun j hj h1 h2 => by
  rw [hs.block j (by omega) (fun e => h1 (by cases e; rfl)), hgrow.block j (by simp; omega) h2]
  exact Below.heap_alloc _ _ _ hj
 have hrb : ∀ j, some j = v.ownBlock → n0 ≤ j ∧ ∃ cur, W.heap[j]? = some (.cells cur 9 (0, 0)) := fun j hj => by
  rcases hrow.2 with ⟨rfl, _⟩ | ⟨g, cap, cur, rfl, hb, hgb, _⟩
  ·simp [Value.ownBlock] at hj
  ·obtain rfl : j = g := by simpa [Value.ownBlock] using hj
   exact ⟨hb, cur, hgb⟩
 have hbel : ∀ j, j < n0 → (w1.setCell ⟨Bx, 0, none⟩ v').heap[j]? = W.heap[j]? := fun j hj => key j (by omega) (by omega) (fun e => by have := (hrb j e).1; omega)
 refine ⟨⟨⟨hs.os.trans hgrow.os, hs.tape.trans hgrow.tape, hs.output.trans hgrow.output, Nat.le_trans hz hs.size, fun j hj _ => hbel j hj, fun es c he => ⟨es, c, (hbel kb hk).trans he⟩⟩, hbel kb hk, fun j o _ ho hy => ?_⟩, fun j o ho hc => ?_⟩
 ·rw [key j (blk_lt ho) (fun e => ?_) (fun e => ?_)]; exact ho
  ·subst e; rw [show W.heap[j]? = _ from hv] at ho; cases ho; simp [yo] at hy
  ·obtain ⟨-, cur, h⟩ := hrb j e
   rw [h] at ho; cases ho; simp [yo] at hy
 ·refine key j (blk_lt ho) (fun e => ?_) (fun e => ?_)
  ·subst e; rw [show W.heap[j]? = _ from hv] at ho; cases ho; cases hc
  ·obtain ⟨-, cur, h⟩ := hrb j e
   rw [h] at ho; cases ho; cases hc
/-- what holds between two rounds -/
def AHeldT (kb : Nat) (w : World) (pre : List Tx) (W : World) : Prop :=
 (∃ v, Boxed W w.heap.size 23 v ∧ W.ownsRow w.heap.size 9 1 v pre.length (SX pre)) ∧ BelQ kb w.heap.size w W
theorem aheld_T {kb : Nat} {w : World} (hk : kb < w.heap.size) : AbL (fun W r => r = kb ∨ (w.heap.size + 3 ≤ r ∧ ∃ o : Obj, W.heap[r]? = some o ∧ yo o = true)) (w.heap.size + 1) (AHeldT kb w) := by
 intro s W W' row ⟨⟨v, h1, h2⟩, h3⟩ hg hr
 have hr' : ∀ r, row = some r → r = kb ∨ (w.heap.size + 1 ≤ r ∧ ∃ o : Obj, W.heap[r]? = some o ∧ yo o = true) := fun r e => by
  rcases hr r e with (h | ⟨h, h'⟩) | ⟨h, o, ho, hc⟩
  ·exact .inl h
  ·exact .inr ⟨by omega, h'⟩
  ·exact .inr ⟨by omega, o, ho, by cases o <;> first | rfl | cases hc⟩
 refine ⟨⟨v, h1.kept hg (fun e => ?_), ?_⟩, h3.grown hg (Nat.le_refl _) (fun r e => by rcases hr' r e with h | ⟨h, -⟩ <;> omega)⟩
 ·rcases hr' _ e.symm with h | ⟨h, -⟩ <;> omega
 ·by_cases hkb : ∃ r, row = some r ∧ r = kb
  ·obtain ⟨r, e, rfl⟩ := hkb
   refine h2.kept hg ?_
   rcases h2.2 with ⟨rfl, _⟩ | ⟨g, cap, cur, rfl, hb, hgb, _⟩
   ·exact .inl rfl
   ·refine .inr fun e' => ?_
    rw [e] at e'
    have : g = r := by simpa [Value.ownBlock] using e'
    omega
  ·refine row_kept h2 hg (fun r e cur hc => ?_)
   rcases hr' r e with h | ⟨-, o, ho, hy⟩
   ·exact hkb ⟨r, e, h⟩
   ·rw [hc] at ho; cases ho; simp [yo] at hy
/-- what has been gathered -/
def GotT (x : PrM) (kb : Nat) (Kn L : List Tx) (w : World) (e : Ending) (w' : World) : Prop :=
 ∃ v, e = .returned v ∧ w'.ownsRow w.heap.size 9 1 v L.length (SX L) ∧ KnM x.cs Kn kb w' ∧ BelM kb w.heap.size w w'

set_option maxRecDepth 100000 in
set_option maxHeartbeats 4000000 in
theorem appendT_in {x : PrM} {kb Bt Bn : Nat} {Kn names : List Tx} {gN : Nat} {lbN : Array Value} {w : World} (H : UpH x kb Bt Bn Kn names gN lbN w) (hK : KnM x.cs Kn kb w) :
  CallsIn Fence.wide 3 Try.prog 91 #[.slice none 0 0, .func (.func 71) #[] #[.pointer (some ⟨Bn, 0, none⟩), .pointer (some ⟨Bt, 0, none⟩)]] w (GotT x kb Kn (upL x.cs names) w) := by
 obtain ⟨i0, hi, hz0, hz1, hz2⟩ := info_parts infoSt
 have hkl := H.klt
 have HSQ := Lib.hid (up_T H)
 have HKL := Lib.hid hkl; have HK0 := Lib.hid hK
 have HLN := Lib.hid (show (upL x.cs names).length ≤ 70 from Nat.le_trans (upL_all x.cs names).1.len H.cl)
 have HAB := Lib.hid (aheld_T hkl)
 have HQR := Lib.hid (BelQ.refl kb w.heap.size w)
 have hq : BelQ kb w.heap.size w (w.alloc (.cells #[.slice none 0 0] 23)) := HQR.out.grown (World.grownBy_alloc w _ none) (Nat.le_refl _) (fun r e => by cases e)
 unfold GotT
 clear H hK
 refine callsIn_of_wp_marks Try.func91 rfl trivial ?_ rfl
 simp only [Try.ntmps91, List.size_toArray, List.length_cons, List.length_nil, Nat.reduceAdd, Nat.reduceSub, Array.replicate_succ, Array.replicate_zero, List.push_toArray, List.append_toArray, List.nil_append, List.cons_append]
 gi_wp2
 have hW0 : ∃ W0, w.alloc (.cells #[.slice none 0 0] 23) = W0 := ⟨_, rfl⟩
 have b1 := Boxed.new w 23 (.slice none 0 0)
 have hBel : Below w.heap.size w (w.alloc (.cells #[.slice none 0 0] 23)) := (Below.refl _ w).alloc (Nat.le_refl _) _
 have hsz : (w.alloc (.cells #[.slice none 0 0] 23)).heap.size = w.heap.size + 1 := by simp
 have hHeld : AHeldT kb w [] (w.alloc (.cells #[.slice none 0 0] 23)) := ⟨⟨_, b1, World.ownsRow_nil _ _ _ _⟩, hq⟩
 clear b1 hq
 obtain ⟨W0, hW0⟩ := hW0
 try simp only [World.size_alloc]
 rw [hW0] at hBel hsz hHeld ⊢
 clear hW0
 have HSZ := Lib.hid hsz; have HBL := Lib.hid hBel
 refine wpIn_rangeFunc_T (T := fun B W r => r = kb ∨ (B ≤ r ∧ ∃ o : Obj, W.heap[r]? = some o ∧ yo o = true)) (Kp := fun B => KpX kb w.heap.size B) (Kf := fun B => KfX kb B) (U := fun W => BelM kb w.heap.size w W ∧ KnM x.cs Kn kb W) (V := fun W => KnM x.cs Kn kb W) (L := upL x.cs names) rfl (enters_of Try.func71 (by kernel_rfl) rfl) HSQ.out rfl
  (fun W hW => have hb : Below w.heap.size w W := HBL.out.trans (hW.mono (by have := HSZ.out; omega)); ⟨BelM.of hb HKL.out, HK0.out.same (hb.block kb HKL.out)⟩) (fun W r h => by have := HKL.out; have := HSZ.out; rcases h with h | ⟨h, -⟩ <;> omega) (fun h k => h.trans k) (fun W o o' ho _ => KpX.putObj o' (by have := HSZ.out; omega) (by omega) HKL.out ho) (fun W W3 o' p' h => KfX.book (by omega) (by have := HKL.out; have := HSZ.out; omega) h) (fun W o o' hK ho hc => hK.same (World.putObj_heap_other (by have := HKL.out; have := HSZ.out; omega)))
  (AHeldT kb w) (fun _ _ _ => False) (by rw [HSZ.out]; exact HAB.out) (fun c s W W' row h _ _ => h) hHeld
  (fun y => { tmps := #[.slice none 0 0, .func (.func 71) #[] #[.pointer (some ⟨Bn, 0, none⟩), .pointer (some ⟨Bt, 0, none⟩)], .pointer (some ⟨w.heap.size, 0, none⟩), undef, .slice none 0 0, .string ⟨y.toArray⟩, .func (.func 71) #[] #[.pointer (some ⟨Bn, 0, none⟩), .pointer (some ⟨Bt, 0, none⟩)], .string ⟨y.toArray⟩, undef, undef, undef, undef, undef], defers := [] }) ?assign ?body ?done ?stop
 case assign =>
  intro l y W K hK
  gi_wp2
  exact hK
 case body =>
  rintro pre y W ⟨⟨v, hv, hrow⟩, hB⟩ hpre hlp hdf
  have hc0 := hv.cell
  have hln : pre.length + 1 ≤ 70 := by
   have := hpre.length_le
   have := HLN.out
   simp only [List.length_append, List.length_cons, List.length_nil] at *
   omega
  have hmx1 : pre.length + 1 ≤ maxLen := by unfold maxLen; omega
  have HLP := Lib.hid hlp; have HDF := Lib.hid hdf; have HBQ := Lib.hid hB
  have hwz := hB.size
  have hle : w.heap.size ≤ w.heap.size := Nat.le_refl _
  clear hpre hlp hdf hB
  gi_wp2_with (gi_at_builtin; refine wpListIn_append_own _ rfl _ _ 23 rfl w.heap.size 9 i0 (.string ⟨#[]⟩) 1 16 Try.underlying23 hi hz0 hz1 hz2 rfl (by decide) _ _ _ rfl (hrow.alloc _) ⟨W.heap.size, 0, none⟩ 1 1 [.string ⟨y.toArray⟩] rfl rfl (cell_one_new _ _ _) (by simp [Value.oneCell']) (by omega) (by omega) (by simp; omega) ?_; intro v' w1 hown' hgrow _; obtain ⟨g', cap', rfl⟩ := ownsRow_succ hown'; obtain ⟨hv1, hv2, hr2', hk2, hb2⟩ := hv.appended (by decide) hrow hwz hle hown' hgrow; have hkx := fun vv => app_kpx (B := W0.heap.size + 2) (v' := vv) hv hrow hle HKL.out hwz hgrow; have hc1 := hv1.cell; have hf1 := hv1.frozen)
  obtain ⟨k1, k2⟩ := hkx (.slice (some ⟨g', 0, none⟩) (pre.length + 1) cap')
  obtain ⟨r9, hr9⟩ := HLP.out
  exact ⟨⟨k2 _ _ hr9 rfl, k2 _ _ HDF.out rfl⟩, k1, ⟨⟨_, hv2, by rw [SX_app, List.length_append]; exact hr2'⟩, HBQ.out.trans (BelM.q k1.bel)⟩⟩
 case done =>
  rintro W hK ⟨⟨v, hv, hrow⟩, hB⟩ hd
  have hc0 := hv.cell
  obtain ⟨A9, c9, rfl, -, -, -⟩ := own_rd hrow
  have hsz := HSZ.out; have hk := HKL.out
  have hK5 : KnM x.cs Kn kb (W.putObj W0.heap.size (.deferred none)) := hK.same (World.putObj_heap_other (by omega))
  have hB5 : BelM kb w.heap.size w (W.putObj W0.heap.size (.deferred none)) := (hB.grown (grownBy_putObj' _ W0.heap.size (.deferred none)) (Nat.le_refl _) (fun r e => by cases e; omega)).m hK5.map
  have hR5 := ownsRow_putObj hrow (.deferred none) hd rfl
  have HD := Lib.hid hd; have HK5 := Lib.hid hK5; have HB5 := Lib.hid hB5; have HR5 := Lib.hid hR5
  clear hrow hB hd hK5 hB5 hR5 hK hv hk hsz
  gi_wp2
  refine ⟨by simp, .inl ⟨_, _, rfl, run_takeDeferred HD.out, ?_⟩⟩
  exact ⟨_, results_tmp rfl _ _ _, .slice A9 (upL x.cs names).length c9, rfl, HR5.out, HK5.out, HB5.out⟩
 case stop =>
  rintro c pre W hK hpre h hd
  exact h.elim
set_option maxRecDepth 100000 in
set_option maxHeartbeats 400000 in
theorem collectT_in {x : PrM} {kb Bt Bn : Nat} {Kn names : List Tx} {gN : Nat} {lbN : Array Value} {w : World} (H : UpH x kb Bt Bn Kn names gN lbN w) (hK : KnM x.cs Kn kb w) :
  CallsIn Fence.wide 4 Try.prog 70 #[.func (.func 71) #[] #[.pointer (some ⟨Bn, 0, none⟩), .pointer (some ⟨Bt, 0, none⟩)]] w (GotT x kb Kn (upL x.cs names) w) := by
 have HAP := Lib.hid (appendT_in H hK)
 unfold GotT at HAP ⊢
 clear H hK
 refine callsIn_of_wp Try.func70 rfl trivial ?_ rfl
 simp only [Try.ntmps70, List.size_toArray, List.length_cons, List.length_nil, Nat.reduceAdd, Nat.reduceSub, Array.replicate_succ, Array.replicate_zero, List.push_toArray, List.append_toArray, List.nil_append, List.cons_append]
 gi_wp2_with fail
 refine ⟨trivial, HAP.out.mono ?_⟩
 rintro e w1 ⟨v, rfl, hrow, hk, hb⟩
 have HR := Lib.hid hrow; have HK := Lib.hid hk; have HB := Lib.hid hb
 clear hrow hk hb HAP
 gi_wp2
 go_ret
 exact ⟨v, rfl, HR.out, HK.out, HB.out⟩
end Go.Proofs.Ytgpfohpmgbnimaa.prg

/- Layer 11: a row of texts sorted, each once; a class and all above it; whether a class can have objects: the program's answers. -/
namespace Go.Proofs.Ytgpfohpmgbnimaa.prg
open Go.RowKit Go.Maps Go.Shelf Go.Sort
open words kindp opp op kind word
set_option linter.all false

def srtT (l : List Tx) : List Tx := l.mergeSort fun x y => decide (x ≤ y)
theorem srtT_len (l : List Tx) : (srtT l).length = l.length := by unfold srtT; exact (List.mergeSort_perm _ _).length_eq
/-- a row of the call's own, sorted -/
theorem sortT_own (base : Nat) (v : Value) (xs : List Tx) (w : World) (h : w.ownsRow base 9 1 v xs.length (SX xs)) (hn : xs.length ≤ 1000) (hb : base ≤ w.heap.size) :
  Calls Try.prog 49 #[v] w fun e w' => e = .returned (.tuple #[]) ∧ w'.ownsRow base 9 1 v xs.length (SX (srtT xs)) ∧ Below base w w' := by
 rcases h.2 with ⟨rfl, hz⟩ | ⟨gb, cap, cur, rfl, hbase, hgb, r1, r2, r3, r4⟩
 ·have hx : xs = [] := List.eq_nil_of_length_eq_zero (by simpa using hz)
  subst hx
  refine (Try.slices_Sort_string_none none 0 w).mono ?_
  rintro e w' ⟨rfl, rfl⟩
  exact ⟨rfl, by simpa [srtT] using h, Below.refl _ _⟩
 ·have hH : Go.Sort.Holds encStr w gb 0 xs.toArray := holds_of_block hgb (by rw [Nat.mul_one] at r4; exact r4)
  have hgl : gb < w.heap.size := (Array.getElem?_eq_some_iff.1 hgb).1
  refine (Try.slices_Sort_string gb 0 cap xs w hH hgl (by omega)).mono ?_
  rintro e w' ⟨rfl, nn, os, rfl⟩
  refine ⟨rfl, ownsRow_sorted (srtT_len xs) hbase hgb r1 r2 r3, (Below.refl _ w).grown (grownBy_sorted _) hb (fun j hj => by cases hj; exact hbase)⟩
/-- a row of the call's own, each once -/
theorem compactT_own (base : Nat) (v : Value) (xs : List Tx) (w : World) (h : w.ownsRow base 9 1 v xs.length (SX xs)) (hn : xs.length ≤ 1000) (hb : base ≤ w.heap.size) :
  Calls Try.prog 50 #[v] w fun e w' => ∃ A c, e = .returned (.slice A (Lib.compact xs).length c) ∧ (Lib.compact xs).length ≤ c ∧ Rd w' A (SX (Lib.compact xs)) ∧ Below base w w' := by
 rcases h.2 with ⟨rfl, hz⟩ | ⟨gb, cap, cur, rfl, hbase, hgb, r1, r2, r3, r4⟩
 ·have hx : xs = [] := List.eq_nil_of_length_eq_zero (by simpa using hz)
  subst hx
  refine (Try.slices_Compact_string_empty none 0 w).mono ?_
  rintro e w' ⟨rfl, rfl⟩
  exact ⟨none, 0, rfl, Nat.le_refl _, Rd.nil _ _, Below.refl _ _⟩
 ·have hH : Go.Sort.Holds encStr w gb 0 xs.toArray := holds_of_block hgb (by rw [Nat.mul_one] at r4; exact r4)
  have hgl : gb < w.heap.size := (Array.getElem?_eq_some_iff.1 hgb).1
  refine (Try.slices_Compact_string gb 0 cap xs w hH (by omega) r1).mono ?_
  rintro e w' ⟨rfl, q, hw'⟩
  have hcl : (Lib.compact xs).length ≤ xs.length := by
   unfold Lib.compact Lib.compactUpTo
   rw [List.length_map]
   refine Nat.le_trans (List.length_filter_le _ _) ?_
   simp
  have hg : Go.Sort.grow w' #[] = w' := by simp [Go.Sort.grow]
  rw [hw'] at hg
  have hown := ownsRow_sorted (os := #[]) (n := q) (ts := Lib.compact xs ++ List.replicate (xs.length - (Lib.compact xs).length) []) (ss := xs) (by simp; omega) hbase hgb r1 r2 r3
  have hgr := grownBy_sorted (w := w) (g := gb) (n := q) (os := #[]) (Lib.compact xs ++ List.replicate (xs.length - (Lib.compact xs).length) []).toArray
  rw [hg, ← hw'] at hown hgr
  refine ⟨_, _, rfl, by omega, ?_, (Below.refl _ w).grown hgr hb (fun j hj => by cases hj; exact hbase)⟩
  obtain ⟨A', c', e1, -, -, hr⟩ := own_rd hown
  cases e1
  rw [show List.map encStr (Lib.compact xs ++ List.replicate (xs.length - (Lib.compact xs).length) []) = SX (Lib.compact xs) ++ List.map encStr (List.replicate (xs.length - (Lib.compact xs).length) []) from by rw [List.map_append]; rfl] at hr
  have h9 := hr.take (SX (Lib.compact xs)).length
  rwa [List.take_left] at h9

set_option maxRecDepth 100000 in
set_option maxHeartbeats 400000 in
theorem sorted_w {x : PrM} {kb Bt Bn : Nat} {Kn names : List Tx} {gN : Nat} {lbN : Array Value} {w : World} (H : UpH x kb Bt Bn Kn names gN lbN w) (hK : KnM x.cs Kn kb w) :
  Calls Try.prog 47 #[.func (.func 71) #[] #[.pointer (some ⟨Bn, 0, none⟩), .pointer (some ⟨Bt, 0, none⟩)]] w fun e w' =>
   (∃ A c, e = .returned (.slice A (srtT (upL x.cs names)).length c) ∧ (srtT (upL x.cs names)).length ≤ c ∧ Rd w' A (SX (srtT (upL x.cs names)))) ∧ BelQ kb w.heap.size w w' := by
 have HCO := Lib.hid ((callsIn_wide (n := 4)).1 (collectT_in H hK))
 have HLN := Lib.hid (show (upL x.cs names).length ≤ 70 from Nat.le_trans (upL_all x.cs names).1.len H.cl)
 unfold GotT at HCO
 clear H hK
 go_enter Try.func47, Try.ntmps47
 go_wp2_with fail
 refine HCO.out.mono ?_
 rintro e w1 ⟨v, rfl, hrow, hk, hb⟩
 have HB := Lib.hid hb
 have HS := Lib.hid (sortT_own w.heap.size v (upL x.cs names) w1 hrow (by have := HLN.out; omega) hb.size)
 clear hrow hk hb
 go_wp2_with fail
 refine HS.out.mono ?_
 rintro e w2 ⟨rfl, hrow2, hb2⟩
 obtain ⟨A, c, rfl, h1, -, h2⟩ := own_rd hrow2
 have H2 := Lib.hid h2
 have HQ := Lib.hid (show BelQ kb w.heap.size w w2 from (BelM.q HB.out).trans ⟨hb2.os, hb2.tape, hb2.output, hb2.size, fun k hk _ => hb2.block k hk⟩)
 have H1 := Lib.hid h1
 clear hrow2 hb2 h2 HS h1
 go_wp2
 go_ret
 exact ⟨⟨A, c, by rw [srtT_len]; rfl, by rw [srtT_len]; exact H1.out, H2.out⟩, HQ.out⟩

/-- a class and all above it, rising -/
def ancL (cs : List ClM) (s : Tx) : List Tx := srtT (upL cs [s])
def ListP (L : List Tx) (w : World) (e : Ending) (w' : World) : Prop := (∃ A c, e = .returned (.slice A L.length c) ∧ L.length ≤ c ∧ Rd w' A (SX L)) ∧ Below w.heap.size w w'
set_option maxRecDepth 100000 in
set_option maxHeartbeats 4000000 in
theorem ancestors_w (x : PrM) (Kn : List Tx) (a : Tx) (w : World) (hpr : PrOk w x) (hH : KnH x Kn) (ha : a ∈ Kn) :
  Calls Try.prog 22 #[.agg (prC x).toArray, .string ⟨a.toArray⟩] w (ListP (ancL x.cs a) w) := by
 obtain ⟨W, hW⟩ : ∃ W, W = w.alloc (.cells (prC x).toArray 27) := ⟨_, rfl⟩
 have hal : Below w.heap.size w W := by rw [hW]; exact (Below.refl _ w).alloc (Nat.le_refl _) _
 have hblk : W.heap[w.heap.size]? = some (.cells (prC x).toArray 27 (0, 0)) := by rw [hW]; exact heap_alloc_new w _
 obtain ⟨x0, x1, x2, x3, x4⟩ := pr_cells hblk
 have HTR := Lib.hid (treeOf_w x W)
 have HAL := Lib.hid hal; have HPR := Lib.hid (hpr.below hal); have HHH := Lib.hid hH; have HA := Lib.hid ha
 obtain ⟨kb, hkb⟩ : ∃ k, k = W.heap.size + 2 := ⟨_, rfl⟩
 rw [← hkb] at HTR
 have HUP := Lib.hid (fun (g : Nat) (lb : Array Value) (v : World) => upwards_w (trC x kb).toArray g lb v)
 have HKB := Lib.hid hkb
 unfold ListP
 unfold trC at HTR HUP
 unfold prC at hW HTR HUP ⊢
 try dsimp only [List.cons_append, List.nil_append] at hW HTR HUP ⊢
 have HW := Lib.hid hW
 clear hal hblk hW hpr hH ha hkb
 go_enter Try.func22, Try.ntmps22
 go_wp2_with fail
 rw [← HW.out]
 (try go_wp2_with fail)
 refine HTR.out.mono ?_
 rintro e w1 ⟨rfl, h1, h2, h3⟩
 have HK1 := Lib.hid (h2 Kn); have HB1 := Lib.hid h3; have HL1 := Lib.hid h1
 clear h1 h2 h3 x0 x1 x2 x3 x4
 go_wp2_with fail
 refine (onlyH_w a w1).mono ?_
 rintro e w2 ⟨rfl, hw2⟩
 have hb2 : Below w1.heap.size w1 w2 := by rw [hw2]; exact ((Below.refl _ w1).alloc (Nat.le_refl _) _).alloc (by simp) _
 have hc2 : w2.cell? ⟨w1.heap.size + 1, 0, none⟩ = some (.slice (some ⟨w1.heap.size, 0, none⟩) 1 1) := by
  have := heap_alloc_new (w1.alloc (.cells #[.string ⟨a.toArray⟩] 9)) (.cells #[.slice (some ⟨w1.heap.size, 0, none⟩) 1 1] 23)
  rw [World.size_alloc] at this
  rw [hw2]; exact cell_of_row _ _ 0 _ _ _ this
 have hr2 : Rd w2 (some ⟨w1.heap.size, 0, none⟩) (SX [a]) := by
  rw [hw2]
  exact (rd_blk (heap_alloc_new w1 _) (k := 1) rfl : Rd (w1.alloc (.cells #[.string ⟨a.toArray⟩] 9)) (some ⟨w1.heap.size, 0, none⟩) (SX [a])).below ((Below.refl _ _).alloc (Nat.le_refl _) _)
 have hk2 : KnM x.cs Kn kb w2 := HK1.out.same (hb2.block _ HL1.out)
 have hN : NamH kb [a] 75 #[.pointer (some ⟨w1.heap.size + 1, 0, none⟩)] w2 := namH_vals hk2.map (by simp) hc2 hr2
 have HB2 := Lib.hid (show Below W.heap.size W w2 from HB1.out.trans (hb2.mono HB1.out.size))
 have HK2 := Lib.hid hk2; have HN := Lib.hid hN
 clear hw2 hb2 hc2 hr2 hk2 hN
 go_wp2_with fail
 refine (HUP.out _ _ _).mono ?_
 rintro e w3 ⟨rfl, hw3⟩
 have hb3 : Below w2.heap.size w2 w3 := by rw [hw3]; exact ((Below.refl _ w2).alloc (Nat.le_refl _) _).alloc (by simp) _
 have u3 : w3.heap[w2.heap.size]? = some (.cells (trC x kb).toArray 60 (0, 0)) := by
  rw [hw3]; exact (Below.heap_alloc _ _ _ (by simp)).trans (heap_alloc_new w2 _)
 have u4 : w3.heap[w2.heap.size + 1]? = some (.cells #[.func (.func 75) #[] #[.pointer (some ⟨w1.heap.size + 1, 0, none⟩)]] 65 (0, 0)) := by
  rw [hw3]
  have := heap_alloc_new (w2.alloc (.cells (trC x kb).toArray 60)) (.cells #[.func (.func 75) #[] #[.pointer (some ⟨w1.heap.size + 1, 0, none⟩)]] 65)
  rw [World.size_alloc] at this
  exact this
 have hkl2 := HK2.out.lt
 have hK3 : KnM x.cs Kn kb w3 := HK2.out.same (hb3.block kb hkl2)
 have hH := HHH.out
 have hUp : UpH x kb w2.heap.size (w2.heap.size + 1) Kn [a] 75 #[.pointer (some ⟨w1.heap.size + 1, 0, none⟩)] w3 := ⟨(HPR.out.below HB2.out).below hb3, hH.cl, hH.is, hH.kl, hH.ks, (fun s hs => by rw [List.mem_singleton] at hs; subst hs; exact HA.out), hH.kc, hK3.map, u3, u4, HN.out.eg, HN.out.sq w3 (BelM.of hb3 hkl2)⟩
 have HSO := Lib.hid (sorted_w hUp hK3)
 have HB3 := Lib.hid (show Below W.heap.size W w3 from HB2.out.trans (hb3.mono HB2.out.size))
 clear hw3 hb3 u3 u4 hkl2 hK3 hH hUp
 go_wp2_with fail
 refine HSO.out.mono ?_
 rintro e w4 ⟨⟨A, c, rfl, hcA, hrA⟩, hq4⟩
 have HRR := Lib.hid hrA; have HCA := Lib.hid hcA
 have HE := Lib.hid (show Below w.heap.size w w4 from by
  have h1 := HAL.out.trans (HB3.out.mono HAL.out.size)
  have h2 := HAL.out.size
  exact ⟨hq4.os.trans h1.os, hq4.tape.trans h1.tape, hq4.output.trans h1.output, Nat.le_trans h1.size hq4.size, fun k hk => (hq4.block k (by have := h1.size; omega) (by have := HKB.out; omega)).trans (h1.block k hk)⟩)
 clear hrA hcA hq4
 go_wp2
 go_ret
 exact ⟨⟨A, c, rfl, HCA.out, HRR.out⟩, HE.out⟩

/-- a class that can have objects -/
def concB (cs : List ClM) (s : Tx) : Bool := match findC cs s with
 | some c => !c.ab
 | none => false
set_option maxRecDepth 100000 in
set_option maxHeartbeats 4000000 in
theorem concrete_w (x : PrM) (s : Tx) (w : World) (hpr : PrOk w x) (h70 : x.cs.length ≤ 70) :
  Calls Try.prog 24 #[.agg (prC x).toArray, .string ⟨s.toArray⟩] w fun e w' => e = .returned (.bool (concB x.cs s)) ∧ Below w.heap.size w w' := by
 obtain ⟨cs, A1, c1, ns, A2, c2, ec, en, ed⟩ := x
 obtain ⟨W, hW⟩ : ∃ W, W = w.alloc (.cells (prC ⟨cs, A1, c1, ns, A2, c2, ec, en, ed⟩).toArray 27) := ⟨_, rfl⟩
 have hal : Below w.heap.size w W := by rw [hW]; exact (Below.refl _ w).alloc (Nat.le_refl _) _
 have hblk : W.heap[w.heap.size]? = some (.cells (prC ⟨cs, A1, c1, ns, A2, c2, ec, en, ed⟩).toArray 27 (0, 0)) := by rw [hW]; exact heap_alloc_new w _
 obtain ⟨x0, x1, x2, x3, x4⟩ := pr_cells hblk
 have HPL := place_cl ⟨cs, A1, c1, ns, A2, c2, ec, en, ed⟩ s W (hpr.1.2.below hal) (by show cs.length ≤ _; have : cs.length ≤ 70 := h70; omega)
 have HRD := Lib.hid (show Rd W A1 (cs.flatMap clC) from hpr.1.2.below hal)
 have HAL := Lib.hid hal; have HBK := Lib.hid hblk
 have hnI : (cs.length : Int) ≤ 70 := by have : cs.length ≤ 70 := h70; omega
 unfold prC at hW HPL ⊢
 try dsimp only [List.cons_append, List.nil_append] at hW HPL ⊢
 have HPL := Lib.hid HPL
 have HW := Lib.hid hW
 clear hal hblk hW hpr h70
 go_enter Try.func24, Try.ntmps24
 go_wp2_with fail
 rw [← HW.out]
 (try go_wp2_with fail)
 refine HPL.out.mono ?_
 rintro e w1 ⟨r, rfl, hix, hb1⟩
 have HB1 := Lib.hid hb1
 have HE := Lib.hid (HAL.out.trans (hb1.mono HAL.out.size))
 clear x0 x1 x2 x3 x4
 obtain ⟨x0, x1, x2, x3, x4⟩ := pr_cells ((hb1.block _ (blk_lt HBK.out)).trans HBK.out)
 dsimp only at x0 x1 x2 x3 x4
 rcases idx_two hix with ⟨rfl, -, hf⟩ | ⟨k, y, rfl, hy, -, -, hf⟩
 ·have HF := Lib.hid (show concB cs s = false from by unfold concB findC; rw [hf])
  clear hix hf hb1
  go_wp2
  go_ret
  exact ⟨by rw [HF.out]; rfl, HE.out⟩
 ·have HF := Lib.hid (show concB cs s = !y.ab from by unfold concB findC; rw [hf])
  have hkI : ((k : Int) != -1) = true := by simp
  have hkn : k < cs.length := (List.getElem?_eq_some_iff.1 hy).1
  have hknI : (k : Int) < (cs.length : Int) := by omega
  obtain ⟨a, rfl, -, q0, q1, q2, q3, q4, q5, q6⟩ := cl_at (HRD.out.below hb1) hy
  clear hix hf hb1 hy
  go_wp2
  go_ret
  exact ⟨by rw [HF.out]; first | done | rfl, HE.out⟩
end Go.Proofs.Ytgpfohpmgbnimaa.prg

/- Layer 11: all classes that are a class, or below it: the program's answer. -/
namespace Go.Proofs.Ytgpfohpmgbnimaa.prg
open Go.RowKit Go.Maps Go.Shelf
open words kindp opp op kind word
set_option linter.all false

/-- the names of those classes that are one, or below it, as they stand -/
def belowL (cs l : List ClM) (s : Tx) : List Tx := (l.filter fun c => subB cs c.nm s).map (·.nm)
def subsL (cs : List ClM) (s : Tx) : List Tx := Lib.compact (srtT (belowL cs cs s))
theorem below_len (cs l : List ClM) (s : Tx) : (belowL cs l s).length ≤ l.length := by unfold belowL; rw [List.length_map]; exact List.length_filter_le _ _
theorem below_yes {cs : List ClM} {s : Tx} {k : Nat} {c : ClM} (hc : cs[k]? = some c) (hp : subB cs c.nm s = true) : belowL cs (cs.take (k + 1)) s = belowL cs (cs.take k) s ++ [c.nm] := by
 unfold belowL
 rw [List.take_add_one, hc, Option.toList_some, List.filter_append, List.map_append, List.filter_cons, hp]
 rfl
theorem below_no {cs : List ClM} {s : Tx} {k : Nat} {c : ClM} (hc : cs[k]? = some c) (hp : subB cs c.nm s = false) : belowL cs (cs.take (k + 1)) s = belowL cs (cs.take k) s := by
 unfold belowL
 rw [List.take_add_one, hc, Option.toList_some, List.filter_append, List.map_append, List.filter_cons, hp]
 simp
theorem Gd.belowW {x : PrM} {kb : Nat} {Kn : List Tx} {W v v' : World} (g : Gd x kb Kn W v) (hk : kb < W.heap.size) (hb : Below W.heap.size v v') : Gd x kb Kn W v' := ⟨g.1.same (hb.block kb hk), g.2.trans (BelM.of hb hk)⟩
theorem own_belm {kb base n : Nat} {w w' : World} {v : Value} {xs : List Value} (h : w.ownsRow base 9 1 v n xs) (hb : BelM kb w.heap.size w w') (hm : ∃ es c, w.heap[kb]? = some (.map es c)) : w'.ownsRow base 9 1 v n xs :=
 row_kept h hb.grown fun r e cur hc => by cases e; obtain ⟨es, c, h1⟩ := hm; rw [h1] at hc; cases hc

set_option maxRecDepth 100000 in
set_option maxHeartbeats 8000000 in
theorem subs_w (x : PrM) (Kn : List Tx) (s : Tx) (w : World) (hpr : PrOk w x) (hH : KnH x Kn) (hnm : ∀ c ∈ x.cs, c.nm ∈ Kn) :
  Calls Try.prog 23 #[.agg (prC x).toArray, .string ⟨s.toArray⟩] w (ListP (subsL x.cs s) w) := by
 obtain ⟨i0, hi0, hz0, hz1, hz2⟩ := info_parts infoSt
 obtain ⟨cs, A1, c1, ns, A2, c2, ec, en, ed⟩ := x
 obtain ⟨W, hW⟩ : ∃ W, W = w.alloc (.cells (prC ⟨cs, A1, c1, ns, A2, c2, ec, en, ed⟩).toArray 27) := ⟨_, rfl⟩
 have hal : Below w.heap.size w W := by rw [hW]; exact (Below.refl _ w).alloc (Nat.le_refl _) _
 have hsz : W.heap.size = w.heap.size + 1 := by rw [hW]; simp
 have hblk : W.heap[w.heap.size]? = some (.cells (prC ⟨cs, A1, c1, ns, A2, c2, ec, en, ed⟩).toArray 27 (0, 0)) := by rw [hW]; exact heap_alloc_new w _
 obtain ⟨x0, x1, x2, x3, x4⟩ := pr_cells hblk
 have HTR := treeOf_w ⟨cs, A1, c1, ns, A2, c2, ec, en, ed⟩ W
 obtain ⟨kb, hkb⟩ : ∃ k, k = W.heap.size + 2 := ⟨_, rfl⟩
 rw [← hkb] at HTR
 have HKB := Lib.hid hkb; have HSZ := Lib.hid hsz; have HAL := Lib.hid hal; have HBK := Lib.hid hblk
 have HPR := Lib.hid (hpr.below hal)
 have HHH := Lib.hid hH
 have HNM := Lib.hid hnm
 have hnI : (cs.length : Int) ≤ 70 := by have : cs.length ≤ 70 := hH.cl; omega
 have HLD := fun (nm : Tx) (Bn : Nat) (v : World) (h1 : PrOk v ⟨cs, A1, c1, ns, A2, c2, ec, en, ed⟩) (h2 : nm ∈ Kn) (h3 : KnM cs Kn kb v) (h4 : NamH kb [nm] 75 #[.pointer (some ⟨Bn, 0, none⟩)] v) => leads_w ⟨cs, A1, c1, ns, A2, c2, ec, en, ed⟩ kb Kn [nm] 75 #[.pointer (some ⟨Bn, 0, none⟩)] s v h1 hH (fun t ht => by rw [List.mem_singleton] at ht; subst ht; exact h2) h3 h4
 unfold ListP
 unfold trC at HTR HLD
 unfold prC at hW HTR HLD ⊢
 try dsimp only [List.cons_append, List.nil_append] at hW HTR HLD ⊢
 have HTR := Lib.hid HTR; have HLD := Lib.hid HLD
 have HW := Lib.hid hW
 clear hal hblk hW hpr hH hkb hsz hnm
 go_enter Try.func23, Try.ntmps23
 go_wp2_with fail
 rw [← HW.out]
 (try go_wp2_with fail)
 refine HTR.out.mono ?_
 rintro e w1 ⟨rfl, h1, h2, h3⟩
 clear x0 x1 x2 x3 x4
 obtain ⟨W2, hW2⟩ : ∃ W2, W2 = w1.alloc (.cells (trC ⟨cs, A1, c1, ns, A2, c2, ec, en, ed⟩ kb).toArray 60) := ⟨_, rfl⟩
 have hb2 : Below w1.heap.size w1 W2 := by rw [hW2]; exact (Below.refl _ w1).alloc (Nat.le_refl _) _
 have bt2 : W2.heap[w1.heap.size]? = some (.cells (trC ⟨cs, A1, c1, ns, A2, c2, ec, en, ed⟩ kb).toArray 60 (0, 0)) := by rw [hW2]; exact heap_alloc_new w1 _
 have hk1 := h2 Kn
 have hkl := hk1.lt
 have hk2 : KnM cs Kn kb W2 := hk1.same (hb2.block kb hkl)
 have hbW2 : Below W.heap.size W W2 := h3.trans (hb2.mono h3.size)
 have HG0 := Lib.hid (show Gd ⟨cs, A1, c1, ns, A2, c2, ec, en, ed⟩ kb Kn W2 W2 from ⟨hk2, BelM.refl _ _ _⟩)
 have HKL := Lib.hid hk2.lt
 have hF : FitH ⟨cs, A1, c1, ns, A2, c2, ec, en, ed⟩ kb Kn w1.heap.size W2 := ⟨HPR.out.1.2.below hbW2, HHH.out.cl, HHH.out.kl, HHH.out.ks, hk2, bt2⟩
 have HCE := Lib.hid (fun v (g : Gd ⟨cs, A1, c1, ns, A2, c2, ec, en, ed⟩ kb Kn W2 v) => show _ ∧ v.cell? ⟨w.heap.size, 0, none⟩ = some (.slice A1 cs.length c1) from ⟨(hF.keep g.1 g.2).tcells, cell_of_row _ _ 0 _ _ _ ((g.2.block w.heap.size (by have := HSZ.out; have := hbW2.size; omega) (by have := HKB.out; have := HSZ.out; omega)).trans ((hbW2.block _ (by have := HSZ.out; omega)).trans HBK.out))⟩)
 have HPO := Lib.hid (fun v (g : Gd ⟨cs, A1, c1, ns, A2, c2, ec, en, ed⟩ kb Kn W2 v) => PrOk.belm (HPR.out.below hbW2) g.2 hk2.map)
 have HEND := Lib.hid (fun v (g : Gd ⟨cs, A1, c1, ns, A2, c2, ec, en, ed⟩ kb Kn W2 v) => show Below w.heap.size w v from belm_below (HAL.out.trans (hbW2.mono HAL.out.size)) (by have := HKB.out; have := HSZ.out; omega) g.2)
 have HWS := Lib.hid (show w.heap.size ≤ W2.heap.size from Nat.le_trans HAL.out.size hbW2.size)
 unfold trC prC at hW2
 try dsimp only [List.cons_append, List.nil_append] at hW2
 have HW2 := Lib.hid hW2
 obtain ⟨⟨t0, t1, t2, t3, t4, t5⟩, p0⟩ := HCE.out W2 HG0.out
 clear h1 h2 h3 hW2 hb2 bt2 hk1 hkl hk2 hbW2 hF
 rw [HW2.out] at p0
 clear t0 t1 t2 t3 t4 t5
 go_wp2_with fail
 rw [← HW2.out]
 clear p0
 go_loopw [6, 14] (fun v i wr => ∃ k : Nat, i = .int .i64 (k : Int) ∧ k ≤ cs.length ∧ wr.ownsRow W2.heap.size 9 1 v (belowL cs (cs.take k) s).length (SX (belowL cs (cs.take k) s)) ∧ Gd ⟨cs, A1, c1, ns, A2, c2, ec, en, ed⟩ kb Kn W2 wr) (fun _ i _ => cs.length - (intOf i).toNat)
 case atStart => exact ⟨0, rfl, Nat.zero_le _, World.ownsRow_nil _ _ _ _, HG0.out⟩
 case round =>
  obtain ⟨k, rfl, hk, hown, hg⟩ := hrel
  have HG := Lib.hid hg
  by_cases hlt : k < cs.length
  ·have hltI : (k : Int) < (cs.length : Int) := by omega
   obtain ⟨c, hc⟩ : ∃ x, cs[k]? = some x := ⟨cs[k]'hlt, List.getElem?_eq_getElem _⟩
   obtain ⟨V, hV⟩ : ∃ V, V = wr.alloc (.cells (clC c).toArray 42) := ⟨_, rfl⟩
   have hbV : Below wr.heap.size wr V := by rw [hV]; exact (Below.refl _ wr).alloc (Nat.le_refl _) _
   have hsV : V.heap.size = wr.heap.size + 1 := by rw [hV]; simp
   have bV : V.heap[wr.heap.size]? = some (.cells (clC c).toArray 42 (0, 0)) := by rw [hV]; exact heap_alloc_new wr _
   have hgV := hg.below hbV
   have hne : wr.heap.size ≠ kb := fun e => by have := hg.1.lt; omega
   have hmem := List.mem_of_getElem? hc
   obtain ⟨M, hM⟩ : ∃ M, M = belowL cs (cs.take k) s := ⟨_, rfl⟩
   have hML : M.length ≤ 70 := by
    have := below_len cs (cs.take k) s
    rw [← hM] at this
    have h2 := List.length_take_le k cs
    have : cs.length ≤ 70 := HHH.out.cl
    omega
   rw [← hM] at hown
   have hoV : V.ownsRow W2.heap.size 9 1 u6 M.length (SX M) := own_below hown hbV
   have hAB : ∀ v, Below V.heap.size V v → v.heap.size = V.heap.size → Calls Try.prog 29 #[.string ⟨c.nm.toArray⟩] v fun e w' => e = .returned (.func (.func 75) #[] #[.pointer (some ⟨V.heap.size + 1, 0, none⟩)]) ∧ Gd ⟨cs, A1, c1, ns, A2, c2, ec, en, ed⟩ kb Kn W2 w' ∧ w'.heap[wr.heap.size]? = some (.cells (clC c).toArray 42 (0, 0)) ∧ NamH kb [c.nm] 75 #[.pointer (some ⟨V.heap.size + 1, 0, none⟩)] w' ∧ w'.ownsRow W2.heap.size 9 1 u6 M.length (SX M) := fun v hv hs => by
    refine (onlyH_w c.nm v).mono ?_
    rintro e w' ⟨rfl, hw'⟩
    have hb' : Below V.heap.size V w' := by rw [hw']; exact (hv.alloc (by omega) _).alloc (by simp; omega) _
    have hc2 : w'.cell? ⟨V.heap.size + 1, 0, none⟩ = some (.slice (some ⟨V.heap.size, 0, none⟩) 1 1) := by
     have := heap_alloc_new (v.alloc (.cells #[.string ⟨c.nm.toArray⟩] 9)) (.cells #[.slice (some ⟨v.heap.size, 0, none⟩) 1 1] 23)
     rw [World.size_alloc] at this
     rw [hw', ← hs]; exact cell_of_row _ _ 0 _ _ _ this
    have hr2 : Rd w' (some ⟨V.heap.size, 0, none⟩) (SX [c.nm]) := by
     rw [hw', ← hs]
     exact (rd_blk (heap_alloc_new v _) (k := 1) rfl : Rd (v.alloc (.cells #[.string ⟨c.nm.toArray⟩] 9)) (some ⟨v.heap.size, 0, none⟩) (SX [c.nm])).below ((Below.refl _ _).alloc (Nat.le_refl _) _)
    have hg' := hgV.below hb'
    exact ⟨by rw [hs], hg', (hb'.block _ (by omega)).trans bV, namH_vals hg'.1.map (by simp) hc2 hr2, own_below hoV hb'⟩
   have HLE := Lib.hid (fun v (g : Gd ⟨cs, A1, c1, ns, A2, c2, ec, en, ed⟩ kb Kn W2 v) h => HLD.out c.nm (V.heap.size + 1) v (HPO.out _ g) (HNM.out c hmem) g.1 h)
   obtain ⟨⟨t0, t1, t2, t3, t4, t5⟩, p0⟩ := HCE.out V hgV
   obtain ⟨q0, q1, q2, q3, q4, q5, q6⟩ := cl_cells bV
   have HBV := Lib.hid (Below.refl V.heap.size V)
   have HYE := Lib.hid (fun (h : subB cs c.nm s = true) => below_yes hc h)
   have HNO := Lib.hid (fun (h : subB cs c.nm s = false) => below_no hc h)
   have HSC := Lib.hid (fun (v : World) (h : v.heap[wr.heap.size]? = some (.cells (clC c).toArray 42 (0, 0))) => cl_cells h)
   have HST := Lib.hid (fun v (g : Gd ⟨cs, A1, c1, ns, A2, c2, ec, en, ed⟩ kb Kn W2 v) => (HCE.out v g).1)
   have HOB := Lib.hid (fun (v v' : World) (h : v.ownsRow W2.heap.size 9 1 u6 M.length (SX M)) (h2 : KnM cs Kn kb v) (h3 : BelM kb v.heap.size v v') => own_belm h h3 h2.map)
   obtain ⟨a, rfl, ha, c0, d1, d2, d3, d4, d5, d6⟩ := cl_at (HPO.out wr hg).1.2 hc
   unfold subB at HYE HNO
   obtain ⟨P, hP⟩ : ∃ P, P = (upL cs [c.nm]).contains s := ⟨_, rfl⟩
   try dsimp only at HLE HYE HNO
   rw [← hP] at HLE HYE HNO
   rw [← hM] at HYE HNO
   have HNE := Lib.hid hne; have HML := Lib.hid hML; have HMM := Lib.hid hM
   unfold clC at hV
   have HAB := Lib.hid hAB
   clear hne hP hc hmem hgV bV hbV ha hg hsV hAB hown hoV hM hML
   have HV := Lib.hid hV
   clear hV
   have hmx : Try.prog.follows .mixedOrders = true := by kernel_rfl
   go_wp2_with fail
   rw [← HV.out]
   clear c0 d1 d2 d3 d4 d5 d6 p0 hltI
   go_region_held3 (fun w' => (w'.cell? ⟨w1.heap.size, 0, none⟩ = some (.slice (some a) cs.length c1) ∧ w'.cell? ⟨w1.heap.size, 1, none⟩ = some (.slice A2 ns.length c2) ∧ w'.cell? ⟨w1.heap.size, 2, none⟩ = some (.string ⟨ec.toArray⟩) ∧ w'.cell? ⟨w1.heap.size, 3, none⟩ = some (.string ⟨en.toArray⟩) ∧ w'.cell? ⟨w1.heap.size, 4, none⟩ = some (.string ⟨ed.toArray⟩) ∧ w'.cell? ⟨w1.heap.size, 5, none⟩ = some (.map (some kb))) ∧ w'.cell? ⟨wr.heap.size, 0, none⟩ = some (.string ⟨c.nm.toArray⟩)) (go_keep)
    (first
     | (go_at_call 29; refine (HAB.out _ ?_ ?_).mono ?_; (first | exact HBV.out | exact overD HBV.out); rfl; rintro e v1 ⟨rfl, hg1, hbc1, hn1, ho1⟩; clear t0 t1 t2 t3 t4 t5 q0; obtain ⟨t0, t1, t2, t3, t4, t5⟩ := HST.out _ hg1; have q0 := (HSC.out _ hbc1).1)
     | (go_at_call 27; refine (HLE.out _ hg1 hn1).mono ?_; rintro e v2 ⟨rfl, hk2, hb2⟩; have ho2 := HOB.out _ _ ho1 hg1.1 hb2; have hg2 := hg1.next hk2 hb2; have hbc2 := (hb2.block _ (blk_lt hbc1) HNE.out).trans hbc1; clear hk2 hb2 t0 t1 t2 t3 t4 t5 q0; obtain ⟨t0, t1, t2, t3, t4, t5⟩ := HST.out _ hg2; have q0 := (HSC.out _ hbc2).1))
   have HG2 := Lib.hid hg2; have HO2 := Lib.hid ho2
   clear hg1 hn1 hbc1 hg2 hbc2 t0 t1 t2 t3 t4 t5 q1 q2 q3 q4 q5 q6 ho1 ho2
   obtain ⟨m, hm⟩ : ∃ m, m = M.length := ⟨_, rfl⟩
   have hmI : m ≤ 70 := by rw [hm]; exact HML.out
   have HO3 := Lib.hid (show v2.ownsRow W2.heap.size 9 1 u6 m (SX M) from by rw [hm]; exact HO2.out)
   have HZ2 := Lib.hid HG2.out.2.size
   have HMG := Lib.hid hm
   clear hm
   cases hp : P with
   | true =>
    have HRE := Lib.hid (HYE.out hp)
    go_wp2_with (at_builtin; refine wpList_app _ rfl (.tmp 24) (.tmp 27) _ rfl W2.heap.size 9 i0 _ 1 16 Try.underlying23 hi0 hz0 hz1 hz2 rfl (by omega) _ m (SX M) rfl (HO3.out.alloc _) _ 1 1 [_] rfl rfl (rd_blk (heap_alloc_new v2 _) (k := 1) rfl) (by simp [Value.oneCell']) (by simp only [maxLen]; omega) (by omega) (by have := HZ2.out; first | (simp; omega) | omega) ?_; intro v3 w3 hown3 hg3 hb3 hat3; clear hg3 hat3)
    have HO4 := Lib.hid (show w3.ownsRow W2.heap.size 9 1 v3 (belowL cs (cs.take (k + 1)) s).length (SX (belowL cs (cs.take (k + 1)) s)) from by rw [HRE.out, SX_app, List.length_append, ← HMG.out]; exact hown3)
    have HG4 := Lib.hid (HG2.out.belowW HKL.out (((Below.refl _ v2).alloc HZ2.out _).trans hb3))
    clear hown3 hb3
    try go_wp2
    go_roundw
    case rel => exact ⟨k + 1, by go_num, by omega, HO4.out, HG4.out⟩
    case measure => simp [intOf]; omega
   | false =>
    have HRE := Lib.hid (HNO.out hp)
    go_wp2
    go_roundw
    case rel => exact ⟨k + 1, by go_num, by omega, by rw [HRE.out]; exact HO2.out, HG2.out⟩
    case measure => simp [intOf]; omega
  ·have hltI : ¬ (k : Int) < (cs.length : Int) := by omega
   rw [List.take_of_length_le (by omega)] at hown
   obtain ⟨M, hM⟩ : ∃ M, M = belowL cs cs s := ⟨_, rfl⟩
   have hML : M.length ≤ 70 := by
    have := below_len cs cs s
    rw [← hM] at this
    have : cs.length ≤ 70 := HHH.out.cl
    omega
   rw [← hM] at hown
   have HS := Lib.hid (sortT_own W2.heap.size u6 M wr hown (by omega) hg.2.size)
   have HML := Lib.hid hML; have HMM := Lib.hid hM
   clear hown hg hM hML
   go_wp2_with fail
   refine HS.out.mono ?_
   rintro e w3 ⟨rfl, hown3, hb3⟩
   have HG3 := Lib.hid (HG.out.belowW HKL.out hb3)
   rw [← srtT_len M] at hown3
   have HC := Lib.hid (compactT_own W2.heap.size u6 (srtT M) w3 hown3 (by rw [srtT_len]; have := HML.out; omega) HG3.out.2.size)
   clear hown3 hb3 HS
   go_wp2_with fail
   refine HC.out.mono ?_
   rintro e w4 ⟨A, cA, rfl, hcA, hrA, hb4⟩
   have HG4 := Lib.hid (HG3.out.belowW HKL.out hb4)
   have HCA := Lib.hid hcA; have HRA := Lib.hid hrA
   have HSL := Lib.hid (show subsL cs s = Lib.compact (srtT M) from by unfold subsL; rw [HMM.out])
   clear hcA hrA hb4 HC
   go_wp2
   go_ret
   exact ⟨⟨A, cA, by rw [HSL.out]; rfl, by rw [HSL.out]; exact HCA.out, by rw [HSL.out]; exact HRA.out⟩, HEND.out _ HG4.out⟩
end Go.Proofs.Ytgpfohpmgbnimaa.prg

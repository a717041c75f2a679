/- HierE -/
import Derived.Test.YtdifmgeicnndfaaHierX
import Derived.Test.YtdifmgeicnndfaaHier
import Derived.Test.YtdifmgeicnndfaaShelf2
import Derived.RangeFuncBox
import Derived.Sort.OwnSorted
namespace Go.Proofs.Ytdifmgeicnndfaa.prg
open Go.RowKit Go.Maps
open words kindp opp op kind word
set_option maxRecDepth 100000
set_option maxHeartbeats 4000000
set_option linter.all false
attribute [local go_sem] Oper.semAt_some
structure KnH (x : PrM) (Kn : List Tx) : Prop where
 cl : x.cs.length ≤ 70
 is : ∀ c ∈ x.cs, c.is.length ≤ 281474976710656
 kl : Kn.length ≤ 281474976710656
 ks : ∀ s ∈ Kn, s.length ≤ 281474976710656
 kc : ∀ c ∈ x.cs, ∀ s ∈ abv c, s ∈ Kn
structure NamH (kb : Nat) (names : List Tx) (gN : Nat) (lbN : Array Value) (w : World) : Prop where
 eg : ∀ args w, (callFunc gN args).run Try.prog w = .ok (.enter gN args) w
 sq : ∀ wU, BelM kb w.heap.size w wU → ∀ B, SeqT (fun _ _ _ => False) (fun _ => KI kb wU.heap.size B) (fun _ _ _ => True) (fun W => BelM kb wU.heap.size wU W) (fun _ => True) Try.prog gN lbN names
theorem NamH.belm {kb : Nat} {names : List Tx} {gN : Nat} {lbN : Array Value} {w w' : World} (h : NamH kb names gN lbN w) (hb : BelM kb w.heap.size w w') : NamH kb names gN lbN w' :=
 ⟨h.eg, fun wU hU => h.sq wU (hb.trans (hU.mono hb.size))⟩
theorem namH_vals {kb Bs : Nat} {A : Option Addr} {c : Nat} {L : List Tx} {w : World} (hm : ∃ es c, w.heap[kb]? = some (.map es c)) (hz : L.length ≤ 281474976710656) (hB : w.cell? ⟨Bs, 0, none⟩ = some (.slice A L.length c)) (hr : Rd w A (SX L)) :
  NamH kb L 105 #[.pointer (some ⟨Bs, 0, none⟩)] w := by
 refine ⟨enters_of Try.func105 (by kernel_rfl) rfl, fun wU hU B => ?_⟩
 have hmU : ∃ es c, wU.heap[kb]? = some (.map es c) := by obtain ⟨es, c, h⟩ := hm; exact hU.map es c h
 refine valsT Bs A c L (fun _ => KI kb wU.heap.size B) (fun _ W => KI.refl _ _ _ W) (fun h k => h.trans k) hz _ fun W hW => ⟨?_, fun _ W' hK => ?_⟩
 ·have hb := World.block_lt_of_cell? _ _ hB
  exact (hW.cell hmU ⟨Bs, 0, none⟩ (Nat.lt_of_lt_of_le hb hU.size)).trans ((hU.cell hm ⟨Bs, 0, none⟩ hb).trans hB)
 ·exact Rd.belm (Rd.belm (hr) hU hm) (hW.trans hK.bel) hmU
structure BelQ (kb n : Nat) (w w' : World) : Prop where
 os : w'.os = w.os
 tape : w'.tape = w.tape
 output : w'.output = w.output
 size : w.heap.size ≤ w'.heap.size
 block : ∀ k, k < n → k ≠ kb → w'.heap[k]? = w.heap[k]?
theorem BelQ.refl (kb n : Nat) (w : World) : BelQ kb n w w := ⟨rfl, rfl, rfl, Nat.le_refl _, fun _ _ _ => rfl⟩
theorem BelQ.m {kb n : Nat} {w w' : World} (h : BelQ kb n w w') (hm : ∃ es c, w'.heap[kb]? = some (.map es c)) : BelM kb n w w' := ⟨h.os, h.tape, h.output, h.size, h.block, fun _ _ _ => hm⟩
theorem BelQ.grown {kb n : Nat} {w W W' : World} {row : Option Nat} (h : BelQ kb n w W) (hg : W.grownBy W' row) (hn : n ≤ w.heap.size) (hr : ∀ r, row = some r → r = kb ∨ n ≤ r) : BelQ kb n w W' :=
 ⟨hg.os.trans h.os, hg.tape.trans h.tape, hg.output.trans h.output, Nat.le_trans h.size hg.size, fun k hk hne => (hg.block k (by have := h.size; omega) (fun e => by have := hr k e.symm; omega)).trans (h.block k hk hne)⟩
theorem BelM.q {kb n : Nat} {w w' : World} (h : BelM kb n w w') : BelQ kb n w w' := ⟨h.os, h.tape, h.output, h.size, h.block⟩
theorem BelQ.trans {kb n : Nat} {a b c : World} (h : BelQ kb n a b) (k : BelQ kb n b c) : BelQ kb n a c := ⟨k.os.trans h.os, k.tape.trans h.tape, k.output.trans h.output, Nat.le_trans h.size k.size, fun i hi hn => (k.block i hi hn).trans (h.block i hi hn)⟩
end Go.Proofs.Ytdifmgeicnndfaa.prg
namespace Go.Proofs.Ytdifmgeicnndfaa.prg
open Go.RowKit Go.Maps
open words kindp opp op kind word
set_option maxRecDepth 100000
set_option maxHeartbeats 4000000
set_option linter.all false
theorem treeOf_w (x : PrM) (w : World) :
  Calls Try.prog 91 #[.agg (prC x).toArray] w fun e w' => e = .returned (.agg (trC x (w.heap.size + 2)).toArray) ∧ w.heap.size + 2 < w'.heap.size ∧ (∀ Kn, KnM x.cs Kn (w.heap.size + 2) w') ∧ Below w.heap.size w w' := by
 unfold trC prC
 try dsimp only [List.cons_append, List.nil_append]
 have hmm := @run_makeMap Try.prog
 go_enter Try.func91, Try.ntmps91
 go_wp2
 obtain ⟨W, hW⟩ : ∃ W, W = (((w.alloc (.cells #[.slice x.A1 x.cs.length x.c1, .slice x.A2 x.ns.length x.c2, .string ⟨x.ec.toArray⟩, .string ⟨x.en.toArray⟩, .string ⟨x.ed.toArray⟩] 27)).alloc (.cells #[.slice x.A1 x.cs.length x.c1, .slice x.A2 x.ns.length x.c2, .string ⟨x.ec.toArray⟩, .string ⟨x.en.toArray⟩, .string ⟨x.ed.toArray⟩, .map (some (w.heap.size + 1 + 1))] 160)).alloc (.map #[] 0)) := ⟨_, rfl⟩
 have hal : Below w.heap.size w W := by rw [hW]; exact (((Below.refl _ w).alloc (Nat.le_refl _) _).alloc (by simp) _).alloc (by simp; omega) _
 have hsz : W.heap.size = w.heap.size + 3 := by rw [hW]; simp
 have hb : W.heap[w.heap.size + 1]? = some (.cells #[.slice x.A1 x.cs.length x.c1, .slice x.A2 x.ns.length x.c2, .string ⟨x.ec.toArray⟩, .string ⟨x.en.toArray⟩, .string ⟨x.ed.toArray⟩, .map (some (w.heap.size + 1 + 1))] 160 (0, 0)) := by
  have := heap_alloc_new (w.alloc (.cells #[.slice x.A1 x.cs.length x.c1, .slice x.A2 x.ns.length x.c2, .string ⟨x.ec.toArray⟩, .string ⟨x.en.toArray⟩, .string ⟨x.ed.toArray⟩] 27)) (.cells #[.slice x.A1 x.cs.length x.c1, .slice x.A2 x.ns.length x.c2, .string ⟨x.ec.toArray⟩, .string ⟨x.en.toArray⟩, .string ⟨x.ed.toArray⟩, .map (some (w.heap.size + 1 + 1))] 160)
  rw [World.size_alloc] at this
  rw [hW]; exact (Below.heap_alloc _ _ _ (by simp)).trans this
 have hk : ∀ Kn, KnM x.cs Kn (w.heap.size + 2) W := fun Kn => by
  have := KnM.made x.cs Kn ((w.alloc (.cells #[.slice x.A1 x.cs.length x.c1, .slice x.A2 x.ns.length x.c2, .string ⟨x.ec.toArray⟩, .string ⟨x.en.toArray⟩, .string ⟨x.ed.toArray⟩] 27)).alloc (.cells #[.slice x.A1 x.cs.length x.c1, .slice x.A2 x.ns.length x.c2, .string ⟨x.ec.toArray⟩, .string ⟨x.en.toArray⟩, .string ⟨x.ed.toArray⟩, .map (some (w.heap.size + 1 + 1))] 160))
  rw [World.size_alloc, World.size_alloc, Nat.add_assoc] at this
  rw [hW]; exact this
 obtain ⟨c0, c1, c2, c3, c4, c5⟩ := c6q hb
 rw [← hW]
 refine bodyPost_ret (v := .agg #[.slice x.A1 x.cs.length x.c1, .slice x.A2 x.ns.length x.c2, .string ⟨x.ec.toArray⟩, .string ⟨x.en.toArray⟩, .string ⟨x.ed.toArray⟩, .map (some (w.heap.size + 1 + 1))]) ?_ rfl ⟨rfl, by omega, hk, hal⟩
 simp [results, Try.results91, go_sem, c0, c1, c2, c3, c4, c5]
end Go.Proofs.Ytdifmgeicnndfaa.prg
namespace Go.Proofs.Ytdifmgeicnndfaa.prg
open Go.RowKit Go.Maps
open words kindp opp op kind word
set_option maxRecDepth 100000
set_option maxHeartbeats 4000000
set_option linter.all false
def ifB (cs : List ClM) (s : Tx) : Bool := match findC cs s with
 | some c => c.fc
 | none => false
structure FitH (x : PrM) (kb : Nat) (Kn : List Tx) (Bt : Nat) (w : World) : Prop where
 pr : Rd w x.A1 (x.cs.flatMap clC)
 cl : x.cs.length ≤ 70
 kl : Kn.length ≤ 281474976710656
 ks : ∀ s ∈ Kn, s.length ≤ 281474976710656
 km : KnM x.cs Kn kb w
 tb : w.heap[Bt]? = some (.cells (trC x kb).toArray 160 (0, 0))
theorem FitH.keep {x : PrM} {kb : Nat} {Kn : List Tx} {Bt : Nat} {w w' : World} (h : FitH x kb Kn Bt w) (hk : KnM x.cs Kn kb w') (hb : BelM kb w.heap.size w w') : FitH x kb Kn Bt w' :=
 ⟨Rd.belm h.pr hb h.km.map, h.cl, h.kl, h.ks, hk, (hb.block _ (blk_lt h.tb) (fun e => by obtain ⟨es, c, h1⟩ := h.km.map; rw [← e, h.tb] at h1; cases h1)).trans h.tb⟩
end Go.Proofs.Ytdifmgeicnndfaa.prg
namespace Go.Proofs.Ytdifmgeicnndfaa.prg
open Go.RowKit Go.Maps
open words kindp opp op kind word
set_option linter.all false
def Gd (x : PrM) (kb : Nat) (Kn : List Tx) (W v : World) : Prop := KnM x.cs Kn kb v ∧ BelM kb W.heap.size W v
theorem Gd.next {x : PrM} {kb : Nat} {Kn : List Tx} {W v v' : World} (g : Gd x kb Kn W v) (hk : KnM x.cs Kn kb v') (hb : BelM kb v.heap.size v v') : Gd x kb Kn W v' := ⟨hk, g.2.trans (hb.mono g.2.size)⟩
end Go.Proofs.Ytdifmgeicnndfaa.prg
namespace Go.Proofs.Ytdifmgeicnndfaa.prg
open Go.RowKit Go.Maps
open words kindp opp op kind word
set_option linter.all false
theorem Gd.below {x : PrM} {kb : Nat} {Kn : List Tx} {W v v' : World} (g : Gd x kb Kn W v) (hb : Below v.heap.size v v') : Gd x kb Kn W v' := g.next (g.1.same (hb.block kb g.1.lt)) (BelM.of hb g.1.lt)
end Go.Proofs.Ytdifmgeicnndfaa.prg
namespace Go.Proofs.Ytdifmgeicnndfaa.prg
open Go.RowKit Go.Maps
open words kindp opp op kind word
set_option linter.all false
theorem supS_len (cs : List ClM) : ∀ (f : Nat) (s : Tx) (l : List Tx), (supS cs f s l).length ≤ l.length + f
 | 0, _, _ => Nat.le_refl _
 | f + 1, s, l => by
  unfold supS
  cases findC cs s with
  | none => dsimp only; omega
  | some c =>
   dsimp only
   by_cases h : l.contains s = true
   ·rw [if_pos h]; omega
   ·rw [if_neg h]
    have := supS_len cs f c.su (l ++ [s])
    simp only [List.length_append, List.length_cons, List.length_nil] at this
    omega
theorem supers_len (cs : List ClM) (s : Tx) : (supersL cs s).length ≤ cs.length + 1 := by
 have := supS_len cs (cs.length + 1) s []
 unfold supersL
 simpa using this
end Go.Proofs.Ytdifmgeicnndfaa.prg
namespace Go.Proofs.Ytdifmgeicnndfaa.prg
open Go.RowKit Go.Maps Go.Shelf
open words kindp opp op kind word
set_option linter.all false
attribute [local go_sem] Oper.semAt_some
end Go.Proofs.Ytdifmgeicnndfaa.prg
namespace Go.Proofs.Ytdifmgeicnndfaa.prg
open Go.RowKit Go.Maps Go.Shelf
open words kindp opp op kind word
set_option linter.all false
end Go.Proofs.Ytdifmgeicnndfaa.prg
namespace Go.Proofs.Ytdifmgeicnndfaa.prg
open Go.RowKit Go.Maps Go.Shelf
open words kindp opp op kind word
set_option maxRecDepth 100000
set_option maxHeartbeats 4000000
set_option linter.all false
attribute [local go_sem] Oper.semAt_some
theorem row_kept {W W' : World} {row : Option Nat} {base e n : Nat} {v : Value} {xs : List Value} (h : W.ownsRow base e 1 v n xs) (hg : W.grownBy W' row) (hr : ∀ r, row = some r → ∀ cur, W.heap[r]? ≠ some (.cells cur e (0, 0))) : W'.ownsRow base e 1 v n xs := by
 refine h.kept hg ?_
 rcases h.2 with ⟨rfl, _⟩ | ⟨g, cap, cur, rfl, _, hgb, _⟩
 ·exact .inl rfl
 ·refine .inr fun e' => ?_
  exact hr g (by simpa [Value.ownBlock] using e'.symm) cur hgb
theorem app_kpx {kb n0 B Bx k : Nat} {W w1 : World} {v v' : Value} {tmp : Obj} {xs : List Value} (hv : Boxed W Bx 23 v) (hrow : W.ownsRow n0 9 1 v k xs) (hB : n0 ≤ Bx) (hk : kb < n0) (hn : n0 ≤ W.heap.size)
  (hgrow : (W.alloc tmp).grownBy w1 v.ownBlock) : KpX kb n0 B W (w1.setCell ⟨Bx, 0, none⟩ v') ∧ ∀ (j : Nat) (o : Obj), W.heap[j]? = some o → o.isCells = false → (w1.setCell ⟨Bx, 0, none⟩ v').heap[j]? = W.heap[j]? := by
 have hs := grownBy_setCell' w1 Bx v'
 have hz : W.heap.size ≤ w1.heap.size := by have := hgrow.size; simp at this; omega
 have key : ∀ j, j < W.heap.size → j ≠ Bx → some j ≠ v.ownBlock → (w1.setCell ⟨Bx, 0, none⟩ v').heap[j]? = W.heap[j]? := fun j hj h1 h2 => by
  rw [hs.block j (by omega) (fun e => h1 (by cases e; rfl)), hgrow.block j (by simp; omega) h2]
  exact Below.heap_alloc _ _ _ hj
 have hrb : ∀ j, some j = v.ownBlock → n0 ≤ j ∧ ∃ cur, W.heap[j]? = some (.cells cur 9 (0, 0)) := fun j hj => by
  rcases hrow.2 with ⟨rfl, _⟩ | ⟨g, cap, cur, rfl, hb, hgb, _⟩
  ·simp [Value.ownBlock] at hj
  ·obtain rfl : j = g := by simpa [Value.ownBlock] using hj
   exact ⟨hb, cur, hgb⟩
 have hbel : ∀ j, j < n0 → (w1.setCell ⟨Bx, 0, none⟩ v').heap[j]? = W.heap[j]? := fun j hj => key j (by omega) (by omega) (fun e => by have := (hrb j e).1; omega)
 refine ⟨⟨⟨hs.os.trans hgrow.os, hs.tape.trans hgrow.tape, hs.output.trans hgrow.output, Nat.le_trans hz hs.size, fun j hj _ => hbel j hj, fun es c he => ⟨es, c, (hbel kb hk).trans he⟩⟩, hbel kb hk, fun j o _ ho hy => ?_⟩, fun j o ho hc => ?_⟩
 ·rw [key j (blk_lt ho) (fun e => ?_) (fun e => ?_)]; exact ho
  ·subst e; rw [show W.heap[j]? = _ from hv] at ho; cases ho; simp [yo] at hy
  ·obtain ⟨-, cur, h⟩ := hrb j e
   rw [h] at ho; cases ho; simp [yo] at hy
 ·refine key j (blk_lt ho) (fun e => ?_) (fun e => ?_)
  ·subst e; rw [show W.heap[j]? = _ from hv] at ho; cases ho; cases hc
  ·obtain ⟨-, cur, h⟩ := hrb j e
   rw [h] at ho; cases ho; cases hc
def AHeldT (kb : Nat) (w : World) (pre : List Tx) (W : World) : Prop :=
 (∃ v, Boxed W w.heap.size 23 v ∧ W.ownsRow w.heap.size 9 1 v pre.length (SX pre)) ∧ BelQ kb w.heap.size w W
theorem aheld_T {kb : Nat} {w : World} (hk : kb < w.heap.size) : AbL (fun W r => r = kb ∨ (w.heap.size + 3 ≤ r ∧ ∃ o : Obj, W.heap[r]? = some o ∧ yo o = true)) (w.heap.size + 1) (AHeldT kb w) := by
 intro s W W' row ⟨⟨v, h1, h2⟩, h3⟩ hg hr
 have hr' : ∀ r, row = some r → r = kb ∨ (w.heap.size + 1 ≤ r ∧ ∃ o : Obj, W.heap[r]? = some o ∧ yo o = true) := fun r e => by
  rcases hr r e with (h | ⟨h, h'⟩) | ⟨h, o, ho, hc⟩
  ·exact .inl h
  ·exact .inr ⟨by omega, h'⟩
  ·exact .inr ⟨by omega, o, ho, by cases o <;> first | rfl | cases hc⟩
 refine ⟨⟨v, h1.kept hg (fun e => ?_), ?_⟩, h3.grown hg (Nat.le_refl _) (fun r e => by rcases hr' r e with h | ⟨h, -⟩ <;> omega)⟩
 ·rcases hr' _ e.symm with h | ⟨h, -⟩ <;> omega
 ·by_cases hkb : ∃ r, row = some r ∧ r = kb
  ·obtain ⟨r, e, rfl⟩ := hkb
   refine h2.kept hg ?_
   rcases h2.2 with ⟨rfl, _⟩ | ⟨g, cap, cur, rfl, hb, hgb, _⟩
   ·exact .inl rfl
   ·refine .inr fun e' => ?_
    rw [e] at e'
    have : g = r := by simpa [Value.ownBlock] using e'
    omega
  ·refine row_kept h2 hg (fun r e cur hc => ?_)
   rcases hr' r e with h | ⟨-, o, ho, hy⟩
   ·exact hkb ⟨r, e, h⟩
   ·rw [hc] at ho; cases ho; simp [yo] at hy
def GotT (x : PrM) (kb : Nat) (Kn L : List Tx) (w : World) (e : Ending) (w' : World) : Prop :=
 ∃ v, e = .returned v ∧ w'.ownsRow w.heap.size 9 1 v L.length (SX L) ∧ KnM x.cs Kn kb w' ∧ BelM kb w.heap.size w w'
theorem appendT_in {x : PrM} {kb Bt Bn : Nat} {Kn names : List Tx} {gN : Nat} {lbN : Array Value} {w : World} (H : UpH x kb Bt Bn Kn names gN lbN w) (hK : KnM x.cs Kn kb w) :
  CallsIn Fence.wide 3 Try.prog 180 #[.slice none 0 0, .func (.func 161) #[] #[.pointer (some ⟨Bn, 0, none⟩), .pointer (some ⟨Bt, 0, none⟩)]] w (GotT x kb Kn (upL x.cs names) w) := by
 obtain ⟨i0, hi, hz0, hz1, hz2⟩ := info_parts infoSt
 have hkl := H.klt
 have HSQ := zh (up_T H)
 have HKL := zh hkl; have HK0 := zh hK
 have HLN := zh (show (upL x.cs names).length ≤ 70 from Nat.le_trans (upL_all x.cs names).1.len H.cl)
 have HAB := zh (aheld_T hkl)
 have HQR := zh (BelQ.refl kb w.heap.size w)
 have hq : BelQ kb w.heap.size w (w.alloc (.cells #[.slice none 0 0] 23)) := HQR.out.grown (World.grownBy_alloc w _ none) (Nat.le_refl _) (fun r e => by cases e)
 unfold GotT
 clear H hK
 refine callsIn_of_wp_marks Try.func180 rfl trivial ?_ rfl
 simp only [Try.ntmps180, List.size_toArray, List.length_cons, List.length_nil, Nat.reduceAdd, Nat.reduceSub, Array.replicate_succ, Array.replicate_zero, List.push_toArray, List.append_toArray, List.nil_append, List.cons_append]
 gi_wp2
 have hW0 : ∃ W0, w.alloc (.cells #[.slice none 0 0] 23) = W0 := ⟨_, rfl⟩
 have b1 := Boxed.new w 23 (.slice none 0 0)
 have hBel : Below w.heap.size w (w.alloc (.cells #[.slice none 0 0] 23)) := (Below.refl _ w).alloc (Nat.le_refl _) _
 have hsz : (w.alloc (.cells #[.slice none 0 0] 23)).heap.size = w.heap.size + 1 := by simp
 have hHeld : AHeldT kb w [] (w.alloc (.cells #[.slice none 0 0] 23)) := ⟨⟨_, b1, World.ownsRow_nil _ _ _ _⟩, hq⟩
 clear b1 hq
 obtain ⟨W0, hW0⟩ := hW0
 try simp only [World.size_alloc]
 rw [hW0] at hBel hsz hHeld ⊢
 clear hW0
 have HSZ := zh hsz; have HBL := zh hBel
 refine wpIn_rangeFunc_T (T := fun B W r => r = kb ∨ (B ≤ r ∧ ∃ o : Obj, W.heap[r]? = some o ∧ yo o = true)) (Kp := fun B => KpX kb w.heap.size B) (Kf := fun B => KfX kb B) (U := fun W => BelM kb w.heap.size w W ∧ KnM x.cs Kn kb W) (V := fun W => KnM x.cs Kn kb W) (L := upL x.cs names) rfl (enters_of Try.func161 (by kernel_rfl) rfl) HSQ.out rfl
  (fun W hW => have hb : Below w.heap.size w W := HBL.out.trans (hW.mono (by have := HSZ.out; omega)); ⟨BelM.of hb HKL.out, HK0.out.same (hb.block kb HKL.out)⟩) (fun W r h => by have := HKL.out; have := HSZ.out; rcases h with h | ⟨h, -⟩ <;> omega) (fun h k => h.trans k) (fun W o o' ho _ => KpX.putObj o' (by have := HSZ.out; omega) (by omega) HKL.out ho) (fun W W3 o' p' h => KfX.book (by omega) (by have := HKL.out; have := HSZ.out; omega) h) (fun W o o' hK ho hc => hK.same (World.putObj_heap_other (by have := HKL.out; have := HSZ.out; omega)))
  (AHeldT kb w) (fun _ _ _ => False) (by rw [HSZ.out]; exact HAB.out) (fun c s W W' row h _ _ => h) hHeld
  (fun y => { tmps := #[.slice none 0 0, .func (.func 161) #[] #[.pointer (some ⟨Bn, 0, none⟩), .pointer (some ⟨Bt, 0, none⟩)], .pointer (some ⟨w.heap.size, 0, none⟩), undef, .slice none 0 0, .string ⟨y.toArray⟩, .func (.func 161) #[] #[.pointer (some ⟨Bn, 0, none⟩), .pointer (some ⟨Bt, 0, none⟩)], .string ⟨y.toArray⟩, undef, undef, undef, undef, undef], defers := [] }) ?assign ?body ?done ?stop
 case assign =>
  intro l y W K hK
  gi_wp2
  exact hK
 case body =>
  rintro pre y W ⟨⟨v, hv, hrow⟩, hB⟩ hpre hlp hdf
  have hc0 := hv.cell
  have hln : pre.length + 1 ≤ 70 := by
   have := hpre.length_le
   have := HLN.out
   simp only [List.length_append, List.length_cons, List.length_nil] at *
   omega
  have hmx1 : pre.length + 1 ≤ maxLen := by unfold maxLen; omega
  have HLP := zh hlp; have HDF := zh hdf; have HBQ := zh hB
  have hwz := hB.size
  have hle : w.heap.size ≤ w.heap.size := Nat.le_refl _
  clear hpre hlp hdf hB
  gi_wp2_with (gi_at_builtin; refine wpListIn_append_own _ rfl _ _ 23 rfl w.heap.size 9 i0 (.string ⟨#[]⟩) 1 16 Try.underlying23 hi hz0 hz1 hz2 rfl (by decide) _ _ _ rfl (hrow.alloc _) ⟨W.heap.size, 0, none⟩ 1 1 [.string ⟨y.toArray⟩] rfl rfl (cell_one_new _ _ _) (by simp [Value.oneCell']) (by omega) (by omega) (by simp; omega) ?_; intro v' w1 hown' hgrow _; obtain ⟨g', cap', rfl⟩ := ownsRow_succ hown'; obtain ⟨hv1, hv2, hr2', hk2, hb2⟩ := hv.appended (by decide) hrow hwz hle hown' hgrow; have hkx := fun vv => app_kpx (B := W0.heap.size + 2) (v' := vv) hv hrow hle HKL.out hwz hgrow; have hc1 := hv1.cell; have hf1 := hv1.frozen)
  obtain ⟨k1, k2⟩ := hkx (.slice (some ⟨g', 0, none⟩) (pre.length + 1) cap')
  obtain ⟨r9, hr9⟩ := HLP.out
  exact ⟨⟨k2 _ _ hr9 rfl, k2 _ _ HDF.out rfl⟩, k1, ⟨⟨_, hv2, by rw [SX_app, List.length_append]; exact hr2'⟩, HBQ.out.trans (BelM.q k1.bel)⟩⟩
 case done =>
  rintro W hK ⟨⟨v, hv, hrow⟩, hB⟩ hd
  have hc0 := hv.cell
  obtain ⟨A9, c9, rfl, -, -, -⟩ := own_rd hrow
  have hsz := HSZ.out; have hk := HKL.out
  have hK5 : KnM x.cs Kn kb (W.putObj W0.heap.size (.deferred none)) := hK.same (World.putObj_heap_other (by omega))
  have hB5 : BelM kb w.heap.size w (W.putObj W0.heap.size (.deferred none)) := (hB.grown (grownBy_putObj' _ W0.heap.size (.deferred none)) (Nat.le_refl _) (fun r e => by cases e; omega)).m hK5.map
  have hR5 := ownsRow_putObj hrow (.deferred none) hd rfl
  have HD := zh hd; have HK5 := zh hK5; have HB5 := zh hB5; have HR5 := zh hR5
  clear hrow hB hd hK5 hB5 hR5 hK hv hk hsz
  gi_wp2
  refine ⟨by simp, .inl ⟨_, _, rfl, run_takeDeferred HD.out, ?_⟩⟩
  exact ⟨_, results_tmp rfl _ _ _, .slice A9 (upL x.cs names).length c9, rfl, HR5.out, HK5.out, HB5.out⟩
 case stop =>
  rintro c pre W hK hpre h hd
  exact h.elim
theorem collectT_in {x : PrM} {kb Bt Bn : Nat} {Kn names : List Tx} {gN : Nat} {lbN : Array Value} {w : World} (H : UpH x kb Bt Bn Kn names gN lbN w) (hK : KnM x.cs Kn kb w) :
  CallsIn Fence.wide 4 Try.prog 159 #[.func (.func 161) #[] #[.pointer (some ⟨Bn, 0, none⟩), .pointer (some ⟨Bt, 0, none⟩)]] w (GotT x kb Kn (upL x.cs names) w) := by
 have HAP := zh (appendT_in H hK)
 unfold GotT at HAP ⊢
 clear H hK
 refine callsIn_of_wp Try.func159 rfl trivial ?_ rfl
 simp only [Try.ntmps159, List.size_toArray, List.length_cons, List.length_nil, Nat.reduceAdd, Nat.reduceSub, Array.replicate_succ, Array.replicate_zero, List.push_toArray, List.append_toArray, List.nil_append, List.cons_append]
 gi_wp2_with fail
 refine ⟨trivial, HAP.out.mono ?_⟩
 rintro e w1 ⟨v, rfl, hrow, hk, hb⟩
 have HR := zh hrow; have HK := zh hk; have HB := zh hb
 clear hrow hk hb HAP
 gi_wp2
 go_ret
 exact ⟨v, rfl, HR.out, HK.out, HB.out⟩
end Go.Proofs.Ytdifmgeicnndfaa.prg
namespace Go.Proofs.Ytdifmgeicnndfaa.prg
open Go.RowKit Go.Maps Go.Shelf Go.Sort
open words kindp opp op kind word
set_option maxRecDepth 100000
set_option maxHeartbeats 4000000
set_option linter.all false
def srtT (l : List Tx) : List Tx := l.mergeSort fun x y => decide (x ≤ y)
theorem srtT_len (l : List Tx) : (srtT l).length = l.length := by unfold srtT; exact (List.mergeSort_perm _ _).length_eq
theorem sortT_own (base : Nat) (v : Value) (xs : List Tx) (w : World) (h : w.ownsRow base 9 1 v xs.length (SX xs)) (hn : xs.length ≤ 1000) (hb : base ≤ w.heap.size) :
  Calls Try.prog 160 #[v] w fun e w' => e = .returned (.tuple #[]) ∧ w'.ownsRow base 9 1 v xs.length (SX (srtT xs)) ∧ Below base w w' := by
 rcases h.2 with ⟨rfl, hz⟩ | ⟨gb, cap, cur, rfl, hbase, hgb, r1, r2, r3, r4⟩
 ·have hx : xs = [] := List.eq_nil_of_length_eq_zero (by simpa using hz)
  subst hx
  refine (Try.slices_Sort_string_none none 0 w).mono ?_
  rintro e w' ⟨rfl, rfl⟩
  exact ⟨rfl, by simpa [srtT] using h, Below.refl _ _⟩
 ·have hH : Go.Sort.Holds encStr w gb 0 xs.toArray := holds_of_block hgb (by rw [Nat.mul_one] at r4; exact r4)
  have hgl : gb < w.heap.size := (Array.getElem?_eq_some_iff.1 hgb).1
  refine (Try.slices_Sort_string gb 0 cap xs w hH hgl (by omega)).mono ?_
  rintro e w' ⟨rfl, nn, os, rfl⟩
  refine ⟨rfl, ownsRow_sorted (srtT_len xs) hbase hgb r1 r2 r3, (Below.refl _ w).grown (grownBy_sorted _) hb (fun j hj => by cases hj; exact hbase)⟩
theorem sorted_w {x : PrM} {kb Bt Bn : Nat} {Kn names : List Tx} {gN : Nat} {lbN : Array Value} {w : World} (H : UpH x kb Bt Bn Kn names gN lbN w) (hK : KnM x.cs Kn kb w) :
  Calls Try.prog 140 #[.func (.func 161) #[] #[.pointer (some ⟨Bn, 0, none⟩), .pointer (some ⟨Bt, 0, none⟩)]] w fun e w' =>
   (∃ A c, e = .returned (.slice A (srtT (upL x.cs names)).length c) ∧ (srtT (upL x.cs names)).length ≤ c ∧ Rd w' A (SX (srtT (upL x.cs names)))) ∧ BelQ kb w.heap.size w w' := by
 have HCO := zh ((callsIn_wide (n := 4)).1 (collectT_in H hK))
 have HLN := zh (show (upL x.cs names).length ≤ 70 from Nat.le_trans (upL_all x.cs names).1.len H.cl)
 unfold GotT at HCO
 clear H hK
 go_enter Try.func140, Try.ntmps140
 go_wp2_with fail
 refine HCO.out.mono ?_
 rintro e w1 ⟨v, rfl, hrow, hk, hb⟩
 have HB := zh hb
 have HS := zh (sortT_own w.heap.size v (upL x.cs names) w1 hrow (by have := HLN.out; omega) hb.size)
 clear hrow hk hb
 go_wp2_with fail
 refine HS.out.mono ?_
 rintro e w2 ⟨rfl, hrow2, hb2⟩
 obtain ⟨A, c, rfl, h1, -, h2⟩ := own_rd hrow2
 have H2 := zh h2
 have HQ := zh (show BelQ kb w.heap.size w w2 from (BelM.q HB.out).trans ⟨hb2.os, hb2.tape, hb2.output, hb2.size, fun k hk _ => hb2.block k hk⟩)
 have H1 := zh h1
 clear hrow2 hb2 h2 HS h1
 go_wp2
 go_ret
 exact ⟨⟨A, c, by rw [srtT_len]; rfl, by rw [srtT_len]; exact H1.out, H2.out⟩, HQ.out⟩
def ancL (cs : List ClM) (s : Tx) : List Tx := srtT (upL cs [s])
def ListP (L : List Tx) (w : World) (e : Ending) (w' : World) : Prop := (∃ A c, e = .returned (.slice A L.length c) ∧ L.length ≤ c ∧ Rd w' A (SX L)) ∧ Below w.heap.size w w'
theorem ancestors_w (x : PrM) (Kn : List Tx) (a : Tx) (w : World) (hpr : PrOk w x) (hH : KnH x Kn) (ha : a ∈ Kn) :
  Calls Try.prog 104 #[.agg (prC x).toArray, .string ⟨a.toArray⟩] w (ListP (ancL x.cs a) w) := by
 obtain ⟨W, hW⟩ : ∃ W, W = w.alloc (.cells (prC x).toArray 27) := ⟨_, rfl⟩
 have hal : Below w.heap.size w W := by rw [hW]; exact (Below.refl _ w).alloc (Nat.le_refl _) _
 have hblk : W.heap[w.heap.size]? = some (.cells (prC x).toArray 27 (0, 0)) := by rw [hW]; exact heap_alloc_new w _
 obtain ⟨x0, x1, x2, x3, x4⟩ := pr_cells hblk
 have HTR := zh (treeOf_w x W)
 have HAL := zh hal; have HPR := zh (hpr.below hal); have HHH := zh hH; have HA := zh ha
 obtain ⟨kb, hkb⟩ : ∃ k, k = W.heap.size + 2 := ⟨_, rfl⟩
 rw [← hkb] at HTR
 have HUP := zh (fun (g : Nat) (lb : Array Value) (v : World) => upwards_w (trC x kb).toArray g lb v)
 have HKB := zh hkb
 unfold ListP
 unfold trC at HTR HUP
 unfold prC at hW HTR HUP ⊢
 try dsimp only [List.cons_append, List.nil_append] at hW HTR HUP ⊢
 have HW := zh hW
 clear hal hblk hW hpr hH ha hkb
 go_enter Try.func104, Try.ntmps104
 go_wp2_with fail
 rw [← HW.out]
 (try go_wp2_with fail)
 refine HTR.out.mono ?_
 rintro e w1 ⟨rfl, h1, h2, h3⟩
 have HK1 := zh (h2 Kn); have HB1 := zh h3; have HL1 := zh h1
 clear h1 h2 h3 x0 x1 x2 x3 x4
 go_wp2_with fail
 refine (onlyH_w a w1).mono ?_
 rintro e w2 ⟨rfl, hw2⟩
 have hb2 : Below w1.heap.size w1 w2 := by rw [hw2]; exact ((Below.refl _ w1).alloc (Nat.le_refl _) _).alloc (by simp) _
 have hc2 : w2.cell? ⟨w1.heap.size + 1, 0, none⟩ = some (.slice (some ⟨w1.heap.size, 0, none⟩) 1 1) := by
  have := heap_alloc_new (w1.alloc (.cells #[.string ⟨a.toArray⟩] 9)) (.cells #[.slice (some ⟨w1.heap.size, 0, none⟩) 1 1] 23)
  rw [World.size_alloc] at this
  rw [hw2]; exact cell_of_row _ _ 0 _ _ _ this
 have hr2 : Rd w2 (some ⟨w1.heap.size, 0, none⟩) (SX [a]) := by
  rw [hw2]
  exact (rd_blk (heap_alloc_new w1 _) (k := 1) rfl : Rd (w1.alloc (.cells #[.string ⟨a.toArray⟩] 9)) (some ⟨w1.heap.size, 0, none⟩) (SX [a])).below ((Below.refl _ _).alloc (Nat.le_refl _) _)
 have hk2 : KnM x.cs Kn kb w2 := HK1.out.same (hb2.block _ HL1.out)
 have hN : NamH kb [a] 105 #[.pointer (some ⟨w1.heap.size + 1, 0, none⟩)] w2 := namH_vals hk2.map (by simp) hc2 hr2
 have HB2 := zh (show Below W.heap.size W w2 from HB1.out.trans (hb2.mono HB1.out.size))
 have HK2 := zh hk2; have HN := zh hN
 clear hw2 hb2 hc2 hr2 hk2 hN
 go_wp2_with fail
 refine (HUP.out _ _ _).mono ?_
 rintro e w3 ⟨rfl, hw3⟩
 have hb3 : Below w2.heap.size w2 w3 := by rw [hw3]; exact ((Below.refl _ w2).alloc (Nat.le_refl _) _).alloc (by simp) _
 have u3 : w3.heap[w2.heap.size]? = some (.cells (trC x kb).toArray 160 (0, 0)) := by
  rw [hw3]; exact (Below.heap_alloc _ _ _ (by simp)).trans (heap_alloc_new w2 _)
 have u4 : w3.heap[w2.heap.size + 1]? = some (.cells #[.func (.func 105) #[] #[.pointer (some ⟨w1.heap.size + 1, 0, none⟩)]] 101 (0, 0)) := by
  rw [hw3]
  have := heap_alloc_new (w2.alloc (.cells (trC x kb).toArray 160)) (.cells #[.func (.func 105) #[] #[.pointer (some ⟨w1.heap.size + 1, 0, none⟩)]] 101)
  rw [World.size_alloc] at this
  exact this
 have hkl2 := HK2.out.lt
 have hK3 : KnM x.cs Kn kb w3 := HK2.out.same (hb3.block kb hkl2)
 have hH := HHH.out
 have hUp : UpH x kb w2.heap.size (w2.heap.size + 1) Kn [a] 105 #[.pointer (some ⟨w1.heap.size + 1, 0, none⟩)] w3 := ⟨(HPR.out.below HB2.out).below hb3, hH.cl, hH.is, hH.kl, hH.ks, (fun s hs => by rw [List.mem_singleton] at hs; subst hs; exact HA.out), hH.kc, hK3.map, u3, u4, HN.out.eg, HN.out.sq w3 (BelM.of hb3 hkl2)⟩
 have HSO := zh (sorted_w hUp hK3)
 have HB3 := zh (show Below W.heap.size W w3 from HB2.out.trans (hb3.mono HB2.out.size))
 clear hw3 hb3 u3 u4 hkl2 hK3 hH hUp
 go_wp2_with fail
 refine HSO.out.mono ?_
 rintro e w4 ⟨⟨A, c, rfl, hcA, hrA⟩, hq4⟩
 have HRR := zh hrA; have HCA := zh hcA
 have HE := zh (show Below w.heap.size w w4 from by
  have h1 := HAL.out.trans (HB3.out.mono HAL.out.size)
  have h2 := HAL.out.size
  exact ⟨hq4.os.trans h1.os, hq4.tape.trans h1.tape, hq4.output.trans h1.output, Nat.le_trans h1.size hq4.size, fun k hk => (hq4.block k (by have := h1.size; omega) (by have := HKB.out; omega)).trans (h1.block k hk)⟩)
 clear hrA hcA hq4
 go_wp2
 go_ret
 exact ⟨⟨A, c, rfl, HCA.out, HRR.out⟩, HE.out⟩
end Go.Proofs.Ytdifmgeicnndfaa.prg
namespace Go.Proofs.Ytdifmgeicnndfaa.prg
open Go.RowKit Go.Maps Go.Shelf
open words kindp opp op kind word
set_option maxRecDepth 100000
set_option maxHeartbeats 4000000
set_option linter.all false
end Go.Proofs.Ytdifmgeicnndfaa.prg

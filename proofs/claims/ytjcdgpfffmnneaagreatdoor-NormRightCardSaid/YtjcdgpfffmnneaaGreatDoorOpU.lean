/-
 Layer 7: the registers that an instruction names, letter by letter; the registers that it reads: the program's answers.
-/
import Derived.RangeFuncNested
import Derived.RangeFuncBound
import Derived.RangeFuncCalls
import Derived.RangeFuncLeaves
import Derived.RangeFuncBox
import Derived.Shelf.Abstract
import Derived.Shelf.RegionOpen
import Derived.WalkKit
import Derived.OwnWalkIn
import Derived.TacticsInMore
import Derived.LoopNIn
import Derived.LoopIn
import Derived.Maps.AppendAt
import Derived.Test.YtjcdgpfffmnneaaGreatDoorOpS
/- Layer 7: the registers that an instruction has, in the order of its shape, yielded one by one: the program's iterator. -/
namespace Go.Proofs.YtjcdgpfffmnneaaGreatDoor.op
open Go.RowKit Go.Shelf
open words kindp opp
attribute [local go_sem] Oper.semAt_some

def encR (x : UInt8 × Int) : Array Value := #[.int .i32 ((x.1.toNat : Nat) : Int), .int .i64 x.2]
/-- what a round that goes on keeps -/
def RK (n₀ b : Nat) (W W' : World) : Prop := Below n₀ W W' ∧ KeepsWalks W W' ∧ W'.heap[b]? = W.heap[b]?
theorem rk_t {n₀ b : Nat} {A B C : World} (h : RK n₀ b A B) (k : RK n₀ b B C) : RK n₀ b A C := ⟨h.1.trans k.1, h.2.1.trans k.2.1, k.2.2.trans h.2.2⟩
theorem rk_b {n₀ b : Nat} {w : World} (hn : n₀ ≤ w.heap.size) (hb : b < w.heap.size) (W : World) (l : Nat) (o o' : Obj) (hl : w.heap.size ≤ l) (h : W.heap[l]? = some o) (hc : o.isCells = false) (hw : o.isWalk = false) : RK n₀ b W (W.putObj l o') :=
 ⟨belowK_b hn W l o o' hl h hc hw, walksK_b (w := w) W l o o' hl h hc hw, (grownBy_putObj' W l o').block b (by have := (Array.getElem?_eq_some_iff.1 h).1; omega) (by intro e; cases e; omega)⟩
theorem grown_below {W W' : World} (h : Below W.heap.size W W') : W.grownBy W' none := ⟨h.os, h.tape, h.output, h.size, fun k hk _ => h.block k hk⟩
/-- what has come when so many letters are over -/
def flat (i : In) (s : Tx) : List (UInt8 × Int) := s.flatMap fun c => (lettered i c).map fun r => (c, r)
theorem flat_snoc (i : In) {s : Tx} {k : Nat} {x : UInt8} (h : s[k]? = some x) : flat i (s.take (k + 1)) = flat i (s.take k) ++ (lettered i x).map fun r => (x, r) := by
 unfold flat; rw [List.take_add_one, h]; simp
theorem flat_pre (i : In) (s : Tx) (k : Nat) : flat i (s.take k) <+: flat i s := by
 unfold flat
 conv => rhs; rw [← List.take_append_drop k s, List.flatMap_append]
 exact List.prefix_append _ _
theorem short_let {i : In} {x : UInt8} (h : x ≠ 118) : (lettered i x).length ≤ 1 := by
 unfold lettered
 split
 ·exact Nat.le_refl _
 split
 ·exact Nat.le_refl _
 split
 ·exact Nat.le_refl _
 exact Nat.zero_le _
theorem let_v (i : In) : lettered i 118 = i.ar := rfl

set_option maxRecDepth 100000 in
set_option maxHeartbeats 2000000 in
theorem regs_in (n : Nat) (hn : 1 ≤ n) (l Bn : Nat) (i : In) (A : Option Addr) (c : Nat) (w : World) (hs : Sh w) (hr : Rd w A (IL i.ar)) (hc : i.ar.length ≤ c) (hz : i.ar.length ≤ 281474976710656) (J Jx : List (UInt8 × Int) → World → Prop) (W : World) (hJ : AbidesFrom W.heap.size J)
  (hY : ∀ pre x W1, J pre W1 → pre.length < (regsL i).length → YieldAt Fence.wide (n - 1) Tryz.prog l (encR x) W1 fun e W' =>
   (e = .returned (.bool true) ∧ J (pre ++ [x]) W' ∧ RK w.heap.size Bn W1 W') ∨ (e = .returned (.bool false) ∧ Jx (pre ++ [x]) W'))
  (hBn : W.heap[Bn]? = some (.cells (InV i A c) 49 (0, 0))) (hbl : Below w.heap.size w W) (h0 : J [] W) :
  CallsIn Fence.wide n Tryz.prog 166 #[.func (.yield l) #[] #[], .pointer (some ⟨Bn, 0, none⟩)] W fun e W' => (∃ v, e = .returned v) ∧
   ((∃ ys, ys = regsL i ∧ J ys W') ∨ (∃ pre, pre <+: regsL i ∧ Jx pre W')) := by
 have HS := Lib.hid (fun w hs => shape_w i.o w hs)
 have HSW := Lib.hid (hs.below hbl)
 obtain ⟨L, hL⟩ : ∃ L, L = shapeL i.o := ⟨_, rfl⟩
 have HRG := Lib.hid (show flat i L = regsL i by rw [hL]; rfl)
 rw [← hL] at HS
 have HL := Lib.hid (show ∀ c ∈ L, c.toNat < 128 from by rw [hL]; exact (shape_letters i.o).2)
 have HJ := Lib.hid hJ; have HR := Lib.hid hr; have HY := Lib.hid hY
 obtain ⟨m, hm⟩ : ∃ m, m = L.length := ⟨_, rfl⟩
 have HM := Lib.hid hm
 obtain ⟨g0, g1, g2, g3, g4, g5, g6, g7, g8⟩ := in_cells hBn
 have HBn := Lib.hid hBn; have HBL := Lib.hid hbl; have HLT := Lib.hid (blk_lt hBn)
 clear hL hs hJ hr hY hm hBn hbl
 refine callsIn_of_wp Tryz.func166 rfl trivial ?_ rfl
 simp only [Tryz.ntmps166, List.size_toArray, List.length_cons, List.length_nil, Nat.reduceAdd, Nat.reduceSub, Array.replicate_succ, Array.replicate_zero, List.push_toArray, List.append_toArray, List.nil_append, List.cons_append]
 gi_wp2_with fail
 refine ⟨trivial, callsIn_wide.2 ((HS.out _ HSW.out).mono ?_)⟩
 rintro e W ⟨rfl, rfl⟩
 clear g1 g2 g3 g4 g5 g6 g7 g8 HS HSW
 gi_wp2_with fail
 obtain ⟨X, hX⟩ : ∃ X, X = W.heap.size := ⟨_, rfl⟩
 have hbs : Bn < X := by rw [hX]; exact HLT.out
 have hw0 : w.heap.size ≤ X := by rw [hX]; exact HBL.out.size
 rw [← hX] at HJ
 have HST : Hid ((W.iter ⟨L.toArray⟩ 0).heap[X]? = some (.stringIter ⟨L.toArray⟩ 0)) := Lib.hid (by rw [hX]; exact World.iter_heap W _ 0)
 have HSB : Hid ((W.iter ⟨L.toArray⟩ 0).heap[Bn]? = some (.cells (InV i A c) 49 (0, 0))) := Lib.hid ((Below.heap_alloc _ _ _ HLT.out).trans HBn.out)
 have HSL : Hid (Below w.heap.size w (W.iter ⟨L.toArray⟩ 0)) := Lib.hid (HBL.out.alloc HBL.out.size _)
 have HSJ : Hid (J [] (W.iter ⟨L.toArray⟩ 0)) := Lib.hid (HJ.out [] _ _ none h0 (grown_below ((Below.refl _ W).alloc (Nat.le_refl _) _)) (fun r e => by cases e))
 have HX := Lib.hid hX
 clear h0 HBn HBL HLT
 rw [← hX]
 clear hX
 gi_loopw [4] (fun _ wr => ∃ pos, pos ≤ m ∧ wr.heap[X]? = some (.stringIter ⟨L.toArray⟩ pos) ∧ wr.heap[Bn]? = some (.cells (InV i A c) 49 (0, 0)) ∧ Below w.heap.size w wr ∧ J (flat i (L.take pos)) wr) (fun _ wr => m - wr.iterPos X)
 case atStart => exact ⟨0, Nat.zero_le _, HST.out, HSB.out, HSL.out, HSJ.out⟩
 case round =>
  obtain ⟨pos, hpm, hit, hBn, hbl, hJp⟩ := hrel
  by_cases hp : pos < m
  ·obtain ⟨x, hx⟩ : ∃ x, L[pos]? = some x := ⟨L[pos]'(by rw [← HM.out]; exact hp), List.getElem?_eq_getElem _⟩
   obtain ⟨w1, hnx, hit1, hsz1, hoth, hbw⟩ := next_at (P := Tryz.prog) wr X L pos x hit hx (HL.out x (List.mem_of_getElem? hx))
   have hb1 := (hoth Bn (by omega)).trans hBn
   have hbl1 := hbl.trans (hbw w.heap.size hw0)
   have hg1 : wr.grownBy w1 (some X) := ⟨(hbw 0 (Nat.zero_le _)).os, (hbw 0 (Nat.zero_le _)).tape, (hbw 0 (Nat.zero_le _)).output, (by rw [hsz1]; exact Nat.le_refl _), fun k hk hne => hoth k (fun e => hne (by rw [e]))⟩
   have hJ1 := HJ.out _ _ _ (some X) hJp hg1 (fun r e => by cases e; exact ⟨Nat.le_refl _, _, hit, rfl⟩)
   obtain ⟨g0, g1, g2, g3, g4, g5, g6, g7, g8⟩ := in_cells hb1
   have hlet := lettered_w i A c x w1 (HR.out.below hbl1) hc
   have hpos : wr.iterPos X = pos := by simp [World.iterPos, hit]
   have HLE := Lib.hid hlet; have HI1 := Lib.hid hit1; have HB1 := Lib.hid hb1; have HL1 := Lib.hid hbl1; have HJ1 := Lib.hid hJ1; have HPO := Lib.hid hpos; have HXX := Lib.hid hx
   clear hlet hit hBn hbl hJp hit1 hb1 hbl1 hJ1 hoth hbw hg1 hpos hsz1 hx
   gi_wp2_with fail
   refine ⟨trivial, callsIn_wide.2 (HLE.out.mono ?_)⟩
   rintro e w2 ⟨⟨A2, c2, rfl, hlc, hr2, hv2⟩, hb2⟩
   have HI2 := Lib.hid ((hb2.block X (blk_lt HI1.out)).trans HI1.out); have HB2 := Lib.hid ((hb2.block Bn (blk_lt HB1.out)).trans HB1.out); have HL2 := Lib.hid (HL1.out.trans (hb2.mono HL1.out.size))
   have HJ2 := Lib.hid (HJ.out _ _ _ none HJ1.out (grown_below hb2) (fun r e => by cases e))
   have HR2 := Lib.hid hr2; have HV2 := Lib.hid hv2
   obtain ⟨k2, hk2⟩ : ∃ k2, k2 = (lettered i x).length := ⟨_, rfl⟩
   have HK2 := Lib.hid hk2
   rw [← hk2] at hlc ⊢
   have hkz : (k2 : Int) ≤ 281474976710656 := by
    by_cases hx8 : x = 118
    ·have : k2 = i.ar.length := by rw [HK2.out, hx8]; rfl
     omega
    ·have := short_let (i := i) hx8
     omega
   clear hb2 hr2 hv2 hk2 g0 g1 g2 g3 g4 g5 g6 g7 g8 HLE HI1 HB1 HL1 HJ1 hnx
   gi_wp2_with fail
   gi_loopw [6, 18] (fun _ v wr2 => ∃ k : Nat, v = .int .i64 (k : Int) ∧ k ≤ k2 ∧ wr2.heap[X]? = some (.stringIter ⟨L.toArray⟩ (pos + 1)) ∧ wr2.heap[Bn]? = some (.cells (InV i A c) 49 (0, 0)) ∧ Below w.heap.size w wr2 ∧ J (flat i (L.take pos) ++ ((lettered i x).take k).map fun r => (x, r)) wr2 ∧
    (∀ z, (lettered i x)[k]? = some z → ∃ a, A2 = some a ∧ wr2.cell? (a.add k) = some (.int .i64 z))) (fun _ v _ => k2 - (intOf v).toNat)
   case atStart =>
    refine ⟨0, rfl, Nat.zero_le _, HI2.out, HB2.out, HL2.out, ?_, fun z hz => ?_⟩
    ·rw [List.take_zero, List.map_nil, List.append_nil]; exact HJ2.out
    ·obtain ⟨a, e, _, h⟩ := HR2.out.at_ (IL_at hz)
     exact ⟨a, e, h⟩
   case round =>
    obtain ⟨k, rfl, hk, hit, hBn, hbl, hJk, hcell⟩ := hrel
    have hfl := flat_snoc i HXX.out
    have hfp := flat_pre i L (pos + 1)
    rw [hfl, HRG.out] at hfp
    by_cases hlt : k < k2
    ·have hltI : (k : Int) < (k2 : Int) := by omega
     obtain ⟨z, hzz⟩ : ∃ z, (lettered i x)[k]? = some z := ⟨(lettered i x)[k]'(by rw [← HK2.out]; exact hlt), List.getElem?_eq_getElem _⟩
     obtain ⟨a, rfl, hc1⟩ := hcell z hzz
     have htk : ((lettered i x).take (k + 1)).map (fun r => (x, r)) = ((lettered i x).take k).map (fun r => (x, r)) ++ [(x, z)] := by rw [List.take_add_one, hzz]; simp
     have hpre : flat i (L.take pos) ++ ((lettered i x).take k).map (fun r => (x, r)) ++ [(x, z)] <+: regsL i := by
      rw [List.append_assoc, ← htk]
      refine List.IsPrefix.trans ?_ hfp
      rw [List.prefix_append_right_inj]
      exact List.IsPrefix.map _ (List.take_prefix _ _)
     have hlen := hpre.length_le
     rw [List.length_append, List.length_singleton] at hlen
     obtain ⟨fn, tmps, assign, body, hy, hR⟩ := HY.out _ (x, z) wr hJk (by omega)
     have HT := Lib.hid htk; have HP := Lib.hid hpre; have HF := Lib.hid hfl; have HZ := Lib.hid hzz
     have HIT := Lib.hid hit; have HBB := Lib.hid hBn; have HBE := Lib.hid hbl
     clear htk hpre hfl hfp hlen hzz hJk hcell hit hBn hbl
     dsimp only [encR] at hy
     gi_wp2
     refine hR.mono ?_
     rintro e W3 (⟨rfl, hJ3, hk3⟩ | ⟨rfl, hJx3⟩)
     ·have hnext : ∀ z', (lettered i x)[k + 1]? = some z' → ∃ a', some a = some a' ∧ W3.cell? (a'.add (k + 1)) = some (.int .i64 z') := by
       intro z' hz'
       by_cases hx8 : x = 118
       ·have hA := HV2.out hx8
        rw [hx8, let_v] at hz'
        obtain ⟨a', e, _, h⟩ := (HR.out.below (HBE.out.trans hk3.1)).at_ (IL_at hz')
        exact ⟨a', hA.trans e, h⟩
       ·have := short_let (i := i) hx8
        rw [List.getElem?_eq_none (by omega)] at hz'; cases hz'
      have HNX := Lib.hid hnext
      clear hnext
      gi_wp2
      go_roundw
      case rel => exact ⟨k + 1, by go_num, by omega, hk3.2.1.same X _ HIT.out rfl, hk3.2.2.trans HBB.out, HBE.out.trans hk3.1, by rw [HT.out, ← List.append_assoc]; exact hJ3, HNX.out⟩
      case measure => simp [intOf]; omega
     ·gi_wp2
      refine bodyPost_ret (results_none rfl _ _ _) rfl ?_
      exact ⟨⟨_, rfl⟩, .inr ⟨_, HP.out, hJx3⟩⟩
    ·obtain rfl : k = k2 := by omega
     have hltI : ¬ (k : Int) < (k : Int) := by omega
     have HIT := Lib.hid hit; have HBB := Lib.hid hBn; have HBE := Lib.hid hbl; have HF := Lib.hid hfl; have HJK := Lib.hid hJk
     clear hfl hfp hJk hcell hit hBn hbl hlt
     gi_wp2
     go_roundw
     case rel => exact ⟨pos + 1, by omega, HIT.out, HBB.out, HBE.out, by have := HJK.out; rw [HK2.out, List.take_length] at this; rw [HF.out]; exact this⟩
     case measure =>
      rw [HPO.out, show wr.iterPos X = pos + 1 by simp [World.iterPos, HIT.out]]; omega
  ·obtain rfl : pos = m := by omega
   have hnx := next_none (P := Tryz.prog) wr X L pos hit (by rw [← HM.out]; exact Nat.le_refl _)
   have HJP := Lib.hid hJp
   clear hit hBn hbl hJp
   gi_wp2
   go_end0
   exact ⟨⟨_, rfl⟩, .inl ⟨_, by rw [← HRG.out, HM.out, List.take_length], HJP.out⟩⟩

set_option maxRecDepth 100000 in
set_option maxHeartbeats 400000 in
theorem maker_in (n : Nat) (i : In) (A : Option Addr) (c : Nat) (w : World) :
  CallsIn Fence.wide n Tryz.prog 153 #[.agg (InV i A c)] w fun e w' => e = .returned (.func (.func 166) #[] #[.pointer (some ⟨w.heap.size, 0, none⟩)]) ∧ w' = w.alloc (.cells (InV i A c) 49) := by
 unfold InV
 refine callsIn_of_wp Tryz.func153 rfl trivial ?_ rfl
 simp only [Tryz.ntmps153, List.size_toArray, List.length_cons, List.length_nil, Nat.reduceAdd, Nat.reduceSub, Array.replicate_succ, Array.replicate_zero, List.push_toArray, List.append_toArray, List.nil_append, List.cons_append]
 gi_wp2
 go_ret
 exact ⟨rfl, rfl⟩

theorem regs_stops (n : Nat) (hn : 1 ≤ n) (Bn : Nat) (i : In) (A : Option Addr) (c : Nat) (w ws : World) (hs : Sh w) (hr : Rd w A (IL i.ar)) (hc : i.ar.length ≤ c) (hz : i.ar.length ≤ 281474976710656)
  (hBn : ws.heap[Bn]? = some (.cells (InV i A c) 49 (0, 0))) (hbl : Below w.heap.size w ws) :
  SeqStopsK Fence.wide n Tryz.prog 166 #[.pointer (some ⟨Bn, 0, none⟩)] encR (RK w.heap.size Bn) (fun ys => ys = regsL i) (fun pre => pre <+: regsL i) (regsL i).length ws := fun l J Jx W hW hJ _ hY h0 =>
 regs_in n hn l Bn i A c w hs hr hc hz J Jx W hJ hY ((hW.block Bn (blk_lt hBn)).trans hBn) (hbl.trans (hW.mono hbl.size)) h0
end Go.Proofs.YtjcdgpfffmnneaaGreatDoor.op

/- Layer 7: the registers that an instruction reads: the program's answer. -/
namespace Go.Proofs.YtjcdgpfffmnneaaGreatDoor.op
open Go.RowKit Go.Shelf
open words kindp opp
attribute [local go_sem] Oper.semAt_some
theorem row_own2 {β : Type} (B : Nat) (cs : Array Value) (t : TypeId) (fz : Nat × Nat) : Own (fun (_ : β) W => W.heap[B]? = some (.cells cs t fz)) := by
 intro s A A' row h hg hr
 refine (hg.block B (Array.getElem?_eq_some_iff.1 h).1 (fun e => ?_)).trans h
 obtain ⟨o, ho, hc⟩ := hr B e.symm
 rw [h] at ho; cases ho; cases hc
end Go.Proofs.YtjcdgpfffmnneaaGreatDoor.op

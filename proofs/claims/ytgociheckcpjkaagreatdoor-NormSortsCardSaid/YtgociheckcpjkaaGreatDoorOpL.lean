/- OpL -/
import Derived.Test.YtgociheckcpjkaaGreatDoorOpU
import Derived.Test.YtgociheckcpjkaaGreatDoorOpF
import Derived.Test.YtgociheckcpjkaaGreatDoorOpG
import Derived.Test.YtgociheckcpjkaaGreatDoorOpB
namespace Go.Proofs.YtgociheckcpjkaaGreatDoor.op
open Go.RowKit Go.Shelf
open words kindp opp kind
set_option maxRecDepth 100000
set_option maxHeartbeats 4000000
attribute [local go_sem] Oper.semAt_some
def okR (regs : Int) (x : UInt8 × Int) : Bool := decide (0 ≤ x.2) && decide (x.2 < regs)
def fitsE (i : In) (regs code : Int) : Int :=
 if formedB i = false then 1 else if isCall i.o = true ∧ descE i ≠ 0 then descE i else if (regsL i).all (okR regs) = false then 12 else if countedB i code = false then 12 else 0
def FitP (i : In) (regs code : Int) (w : World) (e : Ending) (w' : World) : Prop := e = .returned (.int .i64 (fitsE i regs code)) ∧ Below w.heap.size w w'
theorem fit_1 {i : In} {regs code : Int} (h : formedB i = false) : fitsE i regs code = 1 := by unfold fitsE; rw [if_pos h]
theorem fit_2 {i : In} {regs code : Int} (h : formedB i = true) (hc : isCall i.o = true) (hd : descE i ≠ 0) : fitsE i regs code = descE i := by unfold fitsE; rw [if_neg (by rw [h]; simp), if_pos ⟨hc, hd⟩]
theorem fit_3 {i : In} {regs code : Int} (h : formedB i = true) (hc : ¬ (isCall i.o = true ∧ descE i ≠ 0)) (hr : (regsL i).all (okR regs) = false) : fitsE i regs code = 12 := by unfold fitsE; rw [if_neg (by rw [h]; simp), if_neg hc, if_pos hr]
theorem fit_4 {i : In} {regs code : Int} (h : formedB i = true) (hc : ¬ (isCall i.o = true ∧ descE i ≠ 0)) (hr : (regsL i).all (okR regs) = true) : fitsE i regs code = if countedB i code = false then 12 else 0 := by unfold fitsE; rw [if_neg (by rw [h]; simp), if_neg hc, if_neg (by rw [hr]; simp)]
def FHeld (i : In) (A : Option Addr) (c : Nat) (regs : Int) (w : World) (N : Nat) (pre : List (UInt8 × Int)) (W : World) : Prop :=
 (W.heap[w.heap.size]? = some (.cells (InV i A c) 42 (0, 0)) ∧ W.heap[w.heap.size + 1]? = some (.cells #[.int .i64 regs] 3 (0, 0)) ∧ W.heap[w.heap.size + 1 + 1]? = some (.cells #[.int .i64 0] 44 (0, 0)) ∧
  W.heap[N]? = some (.cells (InV i A c) 42 (0, 0))) ∧ (∀ x ∈ pre, okR regs x = true) ∧ Below w.heap.size w W
def FLeft (regs : Int) (w : World) (c : Code) (pre : List (UInt8 × Int)) (W : World) : Prop :=
 (c = .ret ∧ (∃ x ∈ pre, okR regs x = false) ∧ W.heap[w.heap.size + 1 + 1]? = some (.cells #[.int .i64 12] 44 (0, 0))) ∧ Below w.heap.size w W
theorem fheld_own (i : In) (A : Option Addr) (c : Nat) (regs : Int) (w : World) (N B : Nat) (hB : w.heap.size ≤ B) : OwnFrom B (FHeld i A c regs w N) :=
 OwnFrom.and (OwnFrom.and (Own.from (row_own2 _ _ _ _) _) (OwnFrom.and (Own.from (row_own2 _ _ _ _) _) (OwnFrom.and (Own.from (row_own2 _ _ _ _) _) (Own.from (row_own2 _ _ _ _) _)))) (OwnFrom.and (fun _ _ _ _ h _ _ => h) (ownFrom_below (Nat.le_refl _) hB))
theorem fleft_own (regs : Int) (w : World) (B : Nat) (hB : w.heap.size ≤ B) (c : Code) : OwnFrom B (FLeft regs w c) :=
 OwnFrom.and (OwnFrom.and (fun _ _ _ _ h _ _ => h) (OwnFrom.and (fun _ _ _ _ h _ _ => h) (Own.from (row_own2 _ _ _ _) _))) (ownFrom_below (Nat.le_refl _) hB)
theorem fleft_mk {regs : Int} {w W : World} {pre : List (UInt8 × Int)} {x : UInt8 × Int} (h : okR regs x = false) (hb : W.heap[w.heap.size + 1 + 1]? = some (.cells #[.int .i64 0] 44 (0, 0))) (hB : Below w.heap.size w W) (B0 : Nat) :
  KeepsFrom B0 W (W.setCell ⟨w.heap.size + 1 + 1, 0, none⟩ (.int .i64 12)) ∧ FLeft regs w .ret (pre ++ [x]) (W.setCell ⟨w.heap.size + 1 + 1, 0, none⟩ (.int .i64 12)) :=
 ⟨(KeepsOthers.setCell _ _ _).from _, ⟨rfl, ⟨x, by simp, h⟩, (show Boxed W _ _ _ from hb).set _⟩, hB.setCell (p := ⟨w.heap.size + 1 + 1, 0, none⟩) (by simp; omega) _⟩
theorem stop_facts {w W : World} {D : Nat} {v : Value} {t : TypeId} (hb : W.heap[w.heap.size + 1 + 1]? = some (.cells #[v] t (0, 0))) (hK : W.heap[D]? = some (.deferred (some []))) (hB : Below w.heap.size w W) (hD : w.heap.size + 1 + 1 < D) :
  (W.putObj D (.deferred none)).cell? ⟨w.heap.size + 1 + 1, 0, none⟩ = some v ∧ Below w.heap.size w (W.putObj D (.deferred none)) := by
 have h1 := ((grownBy_putObj' W D (.deferred none)).block _ (Array.getElem?_eq_some_iff.1 hb).1 (fun e => by cases e; omega)).trans hb
 exact ⟨(show Boxed _ _ _ _ from h1).cell, hB.trans (belowK_b (w := w) (Nat.le_refl _) W D _ _ (by omega) hK rfl rfl)⟩
theorem fin_facts {w W : World} {D : Nat} {u v : Value} {t : TypeId} (hb : W.heap[w.heap.size + 1 + 1]? = some (.cells #[u] t (0, 0))) (hK : W.heap[D]? = some (.deferred (some []))) (hB : Below w.heap.size w W) (hD : w.heap.size + 1 + 1 < D) :
  ((W.setCell ⟨w.heap.size + 1 + 1, 0, none⟩ v).putObj D (.deferred none)).cell? ⟨w.heap.size + 1 + 1, 0, none⟩ = some v ∧ (W.setCell ⟨w.heap.size + 1 + 1, 0, none⟩ v).heap[D]? = some (.deferred (some [])) ∧
   Below w.heap.size w ((W.setCell ⟨w.heap.size + 1 + 1, 0, none⟩ v).putObj D (.deferred none)) := by
 have h1 : Boxed (W.setCell ⟨w.heap.size + 1 + 1, 0, none⟩ v) _ _ _ := (show Boxed W _ _ _ from hb).set v
 have h2 := (KeepsOthers.setCell W ⟨w.heap.size + 1 + 1, 0, none⟩ v).same D _ hK rfl
 have h3 := stop_facts h1 h2 (hB.setCell (p := ⟨w.heap.size + 1 + 1, 0, none⟩) (by simp; omega) v) hD
 exact ⟨h3.1, h2, h3.2⟩
theorem fits_in (i : In) (A : Option Addr) (c : Nat) (regs code : Int) (w : World) (hs : Sh w) (hr : Rd w A (IL i.ar)) (hc : i.ar.length ≤ c) (hz : i.ar.length ≤ 281474976710656) (hcl : i.cl.length ≤ 281474976710656) (hnm : i.nm.length ≤ 281474976710656) (hd : i.ds.length ≤ 65536) (hm : Mx w) (hv : Vd w) :
  CallsIn Fence.wide 3 Tryz.prog 130 #[.agg (InV i A c), .int .i64 regs, .int .i64 code] w (FitP i regs code w) := by
 obtain ⟨W, hW⟩ : ∃ W, W = ((w.alloc (.cells (InV i A c) 42)).alloc (.cells #[.int .i64 regs] 3)).alloc (.cells #[.int .i64 0] 44) := ⟨_, rfl⟩
 have hal : Below w.heap.size w W := by rw [hW]; exact ((((Below.refl _ w).alloc (Nat.le_refl _) _).alloc (by simp) _).alloc (by simp; omega) _)
 have hsz : W.heap.size = w.heap.size + 3 := by rw [hW]; simp
 have hblk : W.heap[w.heap.size]? = some (.cells (InV i A c) 42 (0, 0)) := by
  rw [hW]; exact (Below.heap_alloc _ _ _ (by simp; omega)).trans ((Below.heap_alloc _ _ _ (by simp)).trans (heap_alloc_new w _))
 have hb1 : Boxed W (w.heap.size + 1) 3 (.int .i64 regs) := by
  rw [hW]; have := Boxed.new (w.alloc (.cells (InV i A c) 42)) 3 (.int .i64 regs); rw [World.size_alloc] at this; exact this.alloc _
 have hb2 : Boxed W (w.heap.size + 1 + 1) 44 (.int .i64 0) := by
  rw [hW]; have := Boxed.new ((w.alloc (.cells (InV i A c) 42)).alloc (.cells #[.int .i64 regs] 3)) 44 (.int .i64 0); rw [World.size_alloc, World.size_alloc] at this; exact this
 have HAL := hh hal
 have HBK := hh hblk; have HLT := hh (blk_lt hblk); have HB1 := hh hb1; have HB2 := hh hb2; have HSZ := hh hsz
 obtain ⟨g0, g1, g2, g3, g4, g5, g6, g7, g8⟩ := in_cells hblk
 have HSH := hh (hs.below hal); have HM := hh (hm.below hal); have HV := hh (hv.below hal); have HRD := hh (hr.below hal)
 have HS0 := hh hs; have HR0 := hh hr
 have HF := hh (fun w hs hr => formed_w i A c w hs hr hc hz hcl hnm)
 have HIC := hh (fun w hs => call_w i.o w hs)
 have HD := hh (fun w hm hv => fitsDesc_w i A c w hz hd hm hv)
 have HCO := hh (fun w hs => counted_w i A c code w hs)
 have HMK := hh (fun w => maker_in 2 i A c w)
 dsimp only [InV] at hW HF HD HCO HMK ⊢
 have HW := hh hW
 have k0 := hb2.cell; have f0 := hb2.frozen
 clear hs hr hcl hnm hd hm hv hal hsz hblk hb1 hb2 hW
 cases hfm : formedB i with
 | false =>
  have HP := hh (fit_1 (regs := regs) (code := code) hfm)
  rw [hfm] at HF
  clear hfm HMK HCO HD HIC
  refine callsIn_of_wp_marks Tryz.func130 rfl trivial ?_ rfl
  simp only [Tryz.ntmps130, List.size_toArray, List.length_cons, List.length_nil, Nat.reduceAdd, Nat.reduceSub, Array.replicate_succ, Array.replicate_zero, List.push_toArray, List.append_toArray, List.nil_append, List.cons_append]
  gi_wp2_with fail
  rw [← HW.out]
  refine ⟨trivial, callsIn_wide.2 ((HF.out _ HSH.out HRD.out).mono ?_)⟩
  rintro e v1 ⟨rfl, k1⟩
  have hx2 : Boxed v1 (w.heap.size + 1 + 1) 44 (.int .i64 0) := (k1.block _ HB2.out.lt).trans HB2.out
  have x2 := hx2.cell; have y2 := hx2.frozen
  have HX := hh (hx2.set (.int .i64 1)); have K1 := hh (HAL.out.trans (k1.mono HAL.out.size))
  clear k1 hx2 g0 g1 g2 g3 g4 g5 g6 g7 g8 k0 f0
  gi_wp2
  have h1 := HX.out.cell
  refine ⟨.int .i64 1, ?_, by rw [HP.out], K1.out.setCell (p := ⟨w.heap.size + 1 + 1, 0, none⟩) (by simp; omega) _⟩
  simp [results, Tryz.results130, go_sem, h1]
 | true =>
  cases hic : isCall i.o with
  | false =>
   have hne : ¬ (isCall i.o = true ∧ descE i ≠ 0) := fun h => by rw [hic] at h; cases h.1
   have HP3 := hh (fun h => fit_3 (regs := regs) (code := code) hfm hne h)
   have HP4 := hh (fun h => fit_4 (regs := regs) (code := code) hfm hne h)
   rw [hfm] at HF
   rw [hic] at HIC
   clear hfm hic hne HD
   refine callsIn_of_wp_marks Tryz.func130 rfl trivial ?_ rfl
   simp only [Tryz.ntmps130, List.size_toArray, List.length_cons, List.length_nil, Nat.reduceAdd, Nat.reduceSub, Array.replicate_succ, Array.replicate_zero, List.push_toArray, List.append_toArray, List.nil_append, List.cons_append]
   gi_wp2_with fail
   rw [← HW.out]
   refine ⟨trivial, callsIn_wide.2 ((HF.out _ HSH.out HRD.out).mono ?_)⟩
   rintro e v1 ⟨rfl, k1⟩
   obtain ⟨a0x1, a1x1, a2x1, a3x1, a4x1, a5x1, a6x1, a7x1, a8x1⟩ := in_cells ((k1.block _ HLT.out).trans HBK.out)
   have K1 := hh k1
   clear k1 g0 g1 g2 g3 g4 g5 g6 g7 g8 k0 f0
   gi_wp2_with fail
   refine ⟨trivial, callsIn_wide.2 ((HIC.out _ (HSH.out.below K1.out)).mono ?_)⟩
   rintro e v2 ⟨rfl, hb2⟩
   have k2 : Below W.heap.size W v2 := then' K1.out hb2
   obtain ⟨a0x2, a1x2, a2x2, a3x2, a4x2, a5x2, a6x2, a7x2, a8x2⟩ := in_cells ((k2.block _ HLT.out).trans HBK.out)
   have K2 := hh k2
   clear k2 hb2 a0x1 a1x1 a2x1 a3x1 a4x1 a5x1 a6x1 a7x1 a8x1
   gi_wp2_with (refine ⟨trivial, ?_⟩; gi_at_call 144; refine (HMK.out _).mono ?_; rintro e w' ⟨rfl, rfl⟩)
   clear HMK HF HIC 
   have hkk := K2.out
   have hN0 : W.heap.size ≤ v2.heap.size := hkk.size
   have hW0 : ∃ W0, v2.alloc (.cells #[.int .i64 i.o, .int .i64 i.a, .int .i64 i.b, .int .i64 i.c, .int .i64 i.k, .string ⟨i.cl.toArray⟩, .string ⟨i.nm.toArray⟩, .string ⟨i.ds.toArray⟩, .slice A i.ar.length c] 42) = W0 := ⟨_, rfl⟩
   have hk1 : Below W.heap.size W (v2.alloc (.cells #[.int .i64 i.o, .int .i64 i.a, .int .i64 i.b, .int .i64 i.c, .int .i64 i.k, .string ⟨i.cl.toArray⟩, .string ⟨i.nm.toArray⟩, .string ⟨i.ds.toArray⟩, .slice A i.ar.length c] 42)) := hkk.alloc hkk.size _
   have r2 : (v2.alloc (.cells #[.int .i64 i.o, .int .i64 i.a, .int .i64 i.b, .int .i64 i.c, .int .i64 i.k, .string ⟨i.cl.toArray⟩, .string ⟨i.nm.toArray⟩, .string ⟨i.ds.toArray⟩, .slice A i.ar.length c] 42)).heap[v2.heap.size]? = some (.cells (InV i A c) 42 (0, 0)) := heap_alloc_new v2 _
   have hsz : (v2.alloc (.cells #[.int .i64 i.o, .int .i64 i.a, .int .i64 i.b, .int .i64 i.c, .int .i64 i.k, .string ⟨i.cl.toArray⟩, .string ⟨i.nm.toArray⟩, .string ⟨i.ds.toArray⟩, .slice A i.ar.length c] 42)).heap.size = v2.heap.size + 1 := by simp
   obtain ⟨W0, hW0⟩ := hW0
   rw [hW0] at hk1 r2 hsz ⊢
   obtain ⟨N, hN⟩ : ∃ N, N = v2.heap.size := ⟨_, rfl⟩
   rw [← hN] at hN0 r2 hsz ⊢
   have hSZ := HSZ.out
   have hBel : Below w.heap.size w W0 := HAL.out.trans (hk1.mono HAL.out.size)
   have hHeld : FHeld i A c regs w N [] W0 := ⟨⟨(hk1.block _ HLT.out).trans HBK.out, (hk1.block _ HB1.out.lt).trans HB1.out, (hk1.block _ HB2.out.lt).trans HB2.out, r2⟩, by simp, hBel⟩
   have HR2 := hh r2; have HBE := hh hBel
   clear hW0 hk1 r2 hkk hN K1 K2 a0x2 a1x2 a2x2 a3x2 a4x2 a5x2 a6x2 a7x2 a8x2
   refine wpIn_rangeFunc_ownG rfl (by omega) (gf := 153) (lb := #[.pointer (some ⟨N, 0, none⟩)]) rfl trivial (enters_of Tryz.func153 (by kernel_rfl) rfl)
    (regs_stops 2 (by omega) N i A c w W0 HS0.out HR0.out hc hz HR2.out hBel) rk_t (fun W l o o' hl h h1 h2 => rk_b (w := W0) (by omega) (by omega) W l o o' hl h h1 h2) (Below.refl _ _) (fun _ => rfl)
    (FHeld i A c regs w N) (FLeft regs w) (fheld_own i A c regs w N _ (by omega)) (fleft_own regs w _ (by omega)) hHeld
    (fun x => { tmps := #[.agg #[.int .i64 i.o, .int .i64 i.a, .int .i64 i.b, .int .i64 i.c, .int .i64 i.k, .string ⟨i.cl.toArray⟩, .string ⟨i.nm.toArray⟩, .string ⟨i.ds.toArray⟩, .slice A i.ar.length c], .int .i64 regs, .int .i64 code, .pointer (some ⟨w.heap.size, 0, none⟩), .pointer (some ⟨w.heap.size + 1, 0, none⟩), undef, .pointer (some ⟨w.heap.size + 1 + 1, 0, none⟩), undef, undef, .int .i64 x.2, .agg #[.int .i64 i.o, .int .i64 i.a, .int .i64 i.b, .int .i64 i.c, .int .i64 i.k, .string ⟨i.cl.toArray⟩, .string ⟨i.nm.toArray⟩, .string ⟨i.ds.toArray⟩, .slice A i.ar.length c], .bool true, .bool false, .pointer (some ⟨w.heap.size, 0, none⟩), .int .i64 i.o, .bool false, undef, undef, undef, undef, undef, .agg #[.int .i64 i.o, .int .i64 i.a, .int .i64 i.b, .int .i64 i.c, .int .i64 i.k, .string ⟨i.cl.toArray⟩, .string ⟨i.nm.toArray⟩, .string ⟨i.ds.toArray⟩, .slice A i.ar.length c], .func (.func 153) #[] #[.pointer (some ⟨N, 0, none⟩)], .int .i32 ((x.1.toNat : Nat) : Int), .int .i64 x.2, undef, undef, undef, undef, undef, undef, undef, undef, undef, undef, undef], defers := [] }) ?assign ?body ?done ?stop
   case assign =>
    intro l x W K hK
    dsimp only [encR]
    gi_wp2
    exact hK
   case body =>
    rintro l pre ⟨x, z⟩ W ⟨⟨hr0, hb1, hb2, hr3⟩, hall, hB⟩ hlt
    dsimp only
    have c1 := (show Boxed W _ _ _ from hb1).cell
    have c2 := (show Boxed W _ _ _ from hb2).cell; have f2 := (show Boxed W _ _ _ from hb2).frozen
    by_cases h0 : 0 ≤ z
    ·by_cases h1 : z < regs
     ·have hge : ¬ regs ≤ z := by omega
      have h0' : ¬ z < 0 := by omega
      gi_wp2
      exact ⟨(KeepsOthers.refl _).from _, ⟨Below.refl _ _, KeepsWalks.refl _, rfl⟩, ⟨⟨hr0, hb1, hb2, hr3⟩, fun y hy => (List.mem_append.1 hy).elim (hall y) (fun h => by rw [List.mem_singleton.1 h]; simp [okR, h0, h1]), hB⟩⟩
     ·have hge : regs ≤ z := by omega
      have h0' : ¬ z < 0 := by omega
      have HL := hh (fleft_mk (regs := regs) (pre := pre) (x := (x, z)) (by simp [okR, h1]) hb2 hB)
      gi_wp2
      exact HL.out _
    ·have h0' : z < 0 := by omega
     have HL := hh (fleft_mk (regs := regs) (pre := pre) (x := (x, z)) (by simp [okR, h0]) hb2 hB)
     gi_wp2
     exact HL.out _
   case done =>
    rintro D ys W9 hD rfl ⟨⟨hr0, hb1, hb2, hr3⟩, hall, hB⟩ hK
    obtain ⟨g0, g1, g2, g3, g4, g5, g6, g7, g8⟩ := in_cells hr0
    have HP := hh (HP4.out (List.all_eq_true.2 hall))
    have hDw : w.heap.size + 1 + 1 < D := by omega
    gi_wp2_with fail
    refine ⟨trivial, callsIn_wide.2 ((HCO.out _ (HS0.out.below hB)).mono ?_)⟩
    rintro e v9 ⟨rfl, hb9⟩
    have hbx : Boxed v9 (w.heap.size + 1 + 1) 44 (.int .i64 0) := (hb9.block _ (blk_lt hb2)).trans hb2
    have hK9 : v9.heap[D]? = some (.deferred (some [])) := (hb9.block _ (blk_lt hK)).trans hK
    have hB9 : Below w.heap.size w v9 := hB.trans (hb9.mono hB.size)
    have c2 := hbx.cell; have f2 := hbx.frozen
    cases hcn : countedB i code with
    | false =>
     rw [hcn, if_pos rfl] at HP
     have HE := hh (fin_facts (v := .int .i64 12) hbx hK9 hB9 hDw)
     clear hbx hK9 hB9 hb9 hb1 hb2 hr0 hr3 hall hB hK hD hcn
     gi_wp2
     obtain ⟨e1, e2, e3⟩ := HE.out
     refine ⟨by simp, .inl ⟨_, _, rfl, run_takeDeferred e2, ?_⟩⟩
     refine ⟨.int .i64 12, ?_, by rw [HP.out], e3⟩
     simp [results, Tryz.results130, go_sem, e1]
    | true =>
     rw [hcn, if_neg (by simp)] at HP
     have HE := hh (fin_facts (v := .int .i64 0) hbx hK9 hB9 hDw)
     clear hbx hK9 hB9 hb9 hb1 hb2 hr0 hr3 hall hB hK hD hcn
     gi_wp2
     obtain ⟨e1, e2, e3⟩ := HE.out
     refine ⟨by simp, .inl ⟨_, _, rfl, run_takeDeferred e2, ?_⟩⟩
     refine ⟨.int .i64 0, ?_, by rw [HP.out], e3⟩
     simp [results, Tryz.results130, go_sem, e1]
   case stop =>
    rintro D c pre W9 hD hpre ⟨⟨rfl, ⟨x, hx, hbad⟩, hb2⟩, hB⟩ hK
    have hDw : w.heap.size + 1 + 1 < D := by omega
    have hfa : (regsL i).all (okR regs) = false := by
     rw [List.all_eq_false]
     exact ⟨x, hpre.subset hx, by rw [hbad]; simp⟩
    have HP := hh (HP3.out hfa)
    obtain ⟨e1, e3⟩ := stop_facts hb2 hK hB hDw
    gi_wp2
    refine ⟨by simp, .inl ⟨_, _, rfl, run_takeDeferred hK, ?_⟩⟩
    refine ⟨.int .i64 12, ?_, by rw [HP.out], e3⟩
    simp [results, Tryz.results130, go_sem, e1]
  | true =>
   by_cases hde : descE i = 0
   ·have hne : ¬ (isCall i.o = true ∧ descE i ≠ 0) := fun h => h.2 hde
    have HP3 := hh (fun h => fit_3 (regs := regs) (code := code) hfm hne h)
    have HP4 := hh (fun h => fit_4 (regs := regs) (code := code) hfm hne h)
    rw [hfm] at HF
    rw [hic] at HIC
    rw [hde] at HD
    clear hfm hic hne hde
    refine callsIn_of_wp_marks Tryz.func130 rfl trivial ?_ rfl
    simp only [Tryz.ntmps130, List.size_toArray, List.length_cons, List.length_nil, Nat.reduceAdd, Nat.reduceSub, Array.replicate_succ, Array.replicate_zero, List.push_toArray, List.append_toArray, List.nil_append, List.cons_append]
    gi_wp2_with fail
    rw [← HW.out]
    refine ⟨trivial, callsIn_wide.2 ((HF.out _ HSH.out HRD.out).mono ?_)⟩
    rintro e v1 ⟨rfl, k1⟩
    obtain ⟨a0x1, a1x1, a2x1, a3x1, a4x1, a5x1, a6x1, a7x1, a8x1⟩ := in_cells ((k1.block _ HLT.out).trans HBK.out)
    have K1 := hh k1
    clear k1 g0 g1 g2 g3 g4 g5 g6 g7 g8 k0 f0
    gi_wp2_with fail
    refine ⟨trivial, callsIn_wide.2 ((HIC.out _ (HSH.out.below K1.out)).mono ?_)⟩
    rintro e v2 ⟨rfl, hb2⟩
    have k2 : Below W.heap.size W v2 := then' K1.out hb2
    obtain ⟨a0x2, a1x2, a2x2, a3x2, a4x2, a5x2, a6x2, a7x2, a8x2⟩ := in_cells ((k2.block _ HLT.out).trans HBK.out)
    have K2 := hh k2
    clear k2 hb2 a0x1 a1x1 a2x1 a3x1 a4x1 a5x1 a6x1 a7x1 a8x1
    gi_wp2_with fail
    refine ⟨trivial, callsIn_wide.2 ((HD.out _ (HM.out.below K2.out) (HV.out.below K2.out)).mono ?_)⟩
    rintro e v3 ⟨rfl, hb3⟩
    have k3 : Below W.heap.size W v3 := then' K2.out hb3
    obtain ⟨a0x3, a1x3, a2x3, a3x3, a4x3, a5x3, a6x3, a7x3, a8x3⟩ := in_cells ((k3.block _ HLT.out).trans HBK.out)
    have K3 := hh k3
    clear k3 hb3 a0x2 a1x2 a2x2 a3x2 a4x2 a5x2 a6x2 a7x2 a8x2
    gi_wp2_with (refine ⟨trivial, ?_⟩; gi_at_call 144; refine (HMK.out _).mono ?_; rintro e w' ⟨rfl, rfl⟩)
    clear HMK HF HIC HD
    have hkk := K3.out
    have hN0 : W.heap.size ≤ v3.heap.size := hkk.size
    have hW0 : ∃ W0, v3.alloc (.cells #[.int .i64 i.o, .int .i64 i.a, .int .i64 i.b, .int .i64 i.c, .int .i64 i.k, .string ⟨i.cl.toArray⟩, .string ⟨i.nm.toArray⟩, .string ⟨i.ds.toArray⟩, .slice A i.ar.length c] 42) = W0 := ⟨_, rfl⟩
    have hk1 : Below W.heap.size W (v3.alloc (.cells #[.int .i64 i.o, .int .i64 i.a, .int .i64 i.b, .int .i64 i.c, .int .i64 i.k, .string ⟨i.cl.toArray⟩, .string ⟨i.nm.toArray⟩, .string ⟨i.ds.toArray⟩, .slice A i.ar.length c] 42)) := hkk.alloc hkk.size _
    have r2 : (v3.alloc (.cells #[.int .i64 i.o, .int .i64 i.a, .int .i64 i.b, .int .i64 i.c, .int .i64 i.k, .string ⟨i.cl.toArray⟩, .string ⟨i.nm.toArray⟩, .string ⟨i.ds.toArray⟩, .slice A i.ar.length c] 42)).heap[v3.heap.size]? = some (.cells (InV i A c) 42 (0, 0)) := heap_alloc_new v3 _
    have hsz : (v3.alloc (.cells #[.int .i64 i.o, .int .i64 i.a, .int .i64 i.b, .int .i64 i.c, .int .i64 i.k, .string ⟨i.cl.toArray⟩, .string ⟨i.nm.toArray⟩, .string ⟨i.ds.toArray⟩, .slice A i.ar.length c] 42)).heap.size = v3.heap.size + 1 := by simp
    obtain ⟨W0, hW0⟩ := hW0
    rw [hW0] at hk1 r2 hsz ⊢
    obtain ⟨N, hN⟩ : ∃ N, N = v3.heap.size := ⟨_, rfl⟩
    rw [← hN] at hN0 r2 hsz ⊢
    have hSZ := HSZ.out
    have hBel : Below w.heap.size w W0 := HAL.out.trans (hk1.mono HAL.out.size)
    have hHeld : FHeld i A c regs w N [] W0 := ⟨⟨(hk1.block _ HLT.out).trans HBK.out, (hk1.block _ HB1.out.lt).trans HB1.out, (hk1.block _ HB2.out.lt).trans HB2.out, r2⟩, by simp, hBel⟩
    have HR2 := hh r2; have HBE := hh hBel
    clear hW0 hk1 r2 hkk hN K1 K2 K3 a0x3 a1x3 a2x3 a3x3 a4x3 a5x3 a6x3 a7x3 a8x3
    refine wpIn_rangeFunc_ownG rfl (by omega) (gf := 153) (lb := #[.pointer (some ⟨N, 0, none⟩)]) rfl trivial (enters_of Tryz.func153 (by kernel_rfl) rfl)
     (regs_stops 2 (by omega) N i A c w W0 HS0.out HR0.out hc hz HR2.out hBel) rk_t (fun W l o o' hl h h1 h2 => rk_b (w := W0) (by omega) (by omega) W l o o' hl h h1 h2) (Below.refl _ _) (fun _ => rfl)
     (FHeld i A c regs w N) (FLeft regs w) (fheld_own i A c regs w N _ (by omega)) (fleft_own regs w _ (by omega)) hHeld
     (fun x => { tmps := #[.agg #[.int .i64 i.o, .int .i64 i.a, .int .i64 i.b, .int .i64 i.c, .int .i64 i.k, .string ⟨i.cl.toArray⟩, .string ⟨i.nm.toArray⟩, .string ⟨i.ds.toArray⟩, .slice A i.ar.length c], .int .i64 regs, .int .i64 code, .pointer (some ⟨w.heap.size, 0, none⟩), .pointer (some ⟨w.heap.size + 1, 0, none⟩), undef, .pointer (some ⟨w.heap.size + 1 + 1, 0, none⟩), .int .i64 0, undef, .int .i64 x.2, .agg #[.int .i64 i.o, .int .i64 i.a, .int .i64 i.b, .int .i64 i.c, .int .i64 i.k, .string ⟨i.cl.toArray⟩, .string ⟨i.nm.toArray⟩, .string ⟨i.ds.toArray⟩, .slice A i.ar.length c], .bool true, .bool false, .pointer (some ⟨w.heap.size, 0, none⟩), .int .i64 i.o, .bool true, .agg #[.int .i64 i.o, .int .i64 i.a, .int .i64 i.b, .int .i64 i.c, .int .i64 i.k, .string ⟨i.cl.toArray⟩, .string ⟨i.nm.toArray⟩, .string ⟨i.ds.toArray⟩, .slice A i.ar.length c], .int .i64 0, .int .i64 0, .bool false, undef, .agg #[.int .i64 i.o, .int .i64 i.a, .int .i64 i.b, .int .i64 i.c, .int .i64 i.k, .string ⟨i.cl.toArray⟩, .string ⟨i.nm.toArray⟩, .string ⟨i.ds.toArray⟩, .slice A i.ar.length c], .func (.func 153) #[] #[.pointer (some ⟨N, 0, none⟩)], .int .i32 ((x.1.toNat : Nat) : Int), .int .i64 x.2, undef, undef, undef, undef, undef, undef, undef, undef, undef, undef, undef], defers := [] }) ?assign ?body ?done ?stop
    case assign =>
     intro l x W K hK
     dsimp only [encR]
     gi_wp2
     exact hK
    case body =>
     rintro l pre ⟨x, z⟩ W ⟨⟨hr0, hb1, hb2, hr3⟩, hall, hB⟩ hlt
     dsimp only
     have c1 := (show Boxed W _ _ _ from hb1).cell
     have c2 := (show Boxed W _ _ _ from hb2).cell; have f2 := (show Boxed W _ _ _ from hb2).frozen
     by_cases h0 : 0 ≤ z
     ·by_cases h1 : z < regs
      ·have hge : ¬ regs ≤ z := by omega
       have h0' : ¬ z < 0 := by omega
       gi_wp2
       exact ⟨(KeepsOthers.refl _).from _, ⟨Below.refl _ _, KeepsWalks.refl _, rfl⟩, ⟨⟨hr0, hb1, hb2, hr3⟩, fun y hy => (List.mem_append.1 hy).elim (hall y) (fun h => by rw [List.mem_singleton.1 h]; simp [okR, h0, h1]), hB⟩⟩
      ·have hge : regs ≤ z := by omega
       have h0' : ¬ z < 0 := by omega
       have HL := hh (fleft_mk (regs := regs) (pre := pre) (x := (x, z)) (by simp [okR, h1]) hb2 hB)
       gi_wp2
       exact HL.out _
     ·have h0' : z < 0 := by omega
      have HL := hh (fleft_mk (regs := regs) (pre := pre) (x := (x, z)) (by simp [okR, h0]) hb2 hB)
      gi_wp2
      exact HL.out _
    case done =>
     rintro D ys W9 hD rfl ⟨⟨hr0, hb1, hb2, hr3⟩, hall, hB⟩ hK
     obtain ⟨g0, g1, g2, g3, g4, g5, g6, g7, g8⟩ := in_cells hr0
     have HP := hh (HP4.out (List.all_eq_true.2 hall))
     have hDw : w.heap.size + 1 + 1 < D := by omega
     gi_wp2_with fail
     refine ⟨trivial, callsIn_wide.2 ((HCO.out _ (HS0.out.below hB)).mono ?_)⟩
     rintro e v9 ⟨rfl, hb9⟩
     have hbx : Boxed v9 (w.heap.size + 1 + 1) 44 (.int .i64 0) := (hb9.block _ (blk_lt hb2)).trans hb2
     have hK9 : v9.heap[D]? = some (.deferred (some [])) := (hb9.block _ (blk_lt hK)).trans hK
     have hB9 : Below w.heap.size w v9 := hB.trans (hb9.mono hB.size)
     have c2 := hbx.cell; have f2 := hbx.frozen
     cases hcn : countedB i code with
     | false =>
      rw [hcn, if_pos rfl] at HP
      have HE := hh (fin_facts (v := .int .i64 12) hbx hK9 hB9 hDw)
      clear hbx hK9 hB9 hb9 hb1 hb2 hr0 hr3 hall hB hK hD hcn
      gi_wp2
      obtain ⟨e1, e2, e3⟩ := HE.out
      refine ⟨by simp, .inl ⟨_, _, rfl, run_takeDeferred e2, ?_⟩⟩
      refine ⟨.int .i64 12, ?_, by rw [HP.out], e3⟩
      simp [results, Tryz.results130, go_sem, e1]
     | true =>
      rw [hcn, if_neg (by simp)] at HP
      have HE := hh (fin_facts (v := .int .i64 0) hbx hK9 hB9 hDw)
      clear hbx hK9 hB9 hb9 hb1 hb2 hr0 hr3 hall hB hK hD hcn
      gi_wp2
      obtain ⟨e1, e2, e3⟩ := HE.out
      refine ⟨by simp, .inl ⟨_, _, rfl, run_takeDeferred e2, ?_⟩⟩
      refine ⟨.int .i64 0, ?_, by rw [HP.out], e3⟩
      simp [results, Tryz.results130, go_sem, e1]
    case stop =>
     rintro D c pre W9 hD hpre ⟨⟨rfl, ⟨x, hx, hbad⟩, hb2⟩, hB⟩ hK
     have hDw : w.heap.size + 1 + 1 < D := by omega
     have hfa : (regsL i).all (okR regs) = false := by
      rw [List.all_eq_false]
      exact ⟨x, hpre.subset hx, by rw [hbad]; simp⟩
     have HP := hh (HP3.out hfa)
     obtain ⟨e1, e3⟩ := stop_facts hb2 hK hB hDw
     gi_wp2
     refine ⟨by simp, .inl ⟨_, _, rfl, run_takeDeferred hK, ?_⟩⟩
     refine ⟨.int .i64 12, ?_, by rw [HP.out], e3⟩
     simp [results, Tryz.results130, go_sem, e1]
   ·have HP := hh (fit_2 (regs := regs) (code := code) hfm hic hde)
    have hb1 : (descE i != 0) = true := by simpa using hde
    rw [hfm] at HF
    rw [hic] at HIC
    clear hfm hic hde HMK HCO
    generalize descE i = dE at *
    refine callsIn_of_wp_marks Tryz.func130 rfl trivial ?_ rfl
    simp only [Tryz.ntmps130, List.size_toArray, List.length_cons, List.length_nil, Nat.reduceAdd, Nat.reduceSub, Array.replicate_succ, Array.replicate_zero, List.push_toArray, List.append_toArray, List.nil_append, List.cons_append]
    gi_wp2_with fail
    rw [← HW.out]
    refine ⟨trivial, callsIn_wide.2 ((HF.out _ HSH.out HRD.out).mono ?_)⟩
    rintro e v1 ⟨rfl, k1⟩
    obtain ⟨a0x1, a1x1, a2x1, a3x1, a4x1, a5x1, a6x1, a7x1, a8x1⟩ := in_cells ((k1.block _ HLT.out).trans HBK.out)
    have K1 := hh k1
    clear k1 g0 g1 g2 g3 g4 g5 g6 g7 g8 k0 f0
    gi_wp2_with fail
    refine ⟨trivial, callsIn_wide.2 ((HIC.out _ (HSH.out.below K1.out)).mono ?_)⟩
    rintro e v2 ⟨rfl, hb2⟩
    have k2 : Below W.heap.size W v2 := then' K1.out hb2
    obtain ⟨a0x2, a1x2, a2x2, a3x2, a4x2, a5x2, a6x2, a7x2, a8x2⟩ := in_cells ((k2.block _ HLT.out).trans HBK.out)
    have K2 := hh k2
    clear k2 hb2 a0x1 a1x1 a2x1 a3x1 a4x1 a5x1 a6x1 a7x1 a8x1
    gi_wp2_with fail
    refine ⟨trivial, callsIn_wide.2 ((HD.out _ (HM.out.below K2.out) (HV.out.below K2.out)).mono ?_)⟩
    rintro e v3 ⟨rfl, hb3⟩
    have k3 : Below W.heap.size W v3 := then' K2.out hb3
    obtain ⟨a0x3, a1x3, a2x3, a3x3, a4x3, a5x3, a6x3, a7x3, a8x3⟩ := in_cells ((k3.block _ HLT.out).trans HBK.out)
    have K3 := hh k3
    clear k3 hb3 a0x2 a1x2 a2x2 a3x2 a4x2 a5x2 a6x2 a7x2 a8x2
    have hx2 : Boxed v3 (w.heap.size + 1 + 1) 44 (.int .i64 0) := (K3.out.block _ HB2.out.lt).trans HB2.out
    have x2 := hx2.cell; have y2 := hx2.frozen
    have HX := hh (hx2.set (.int .i64 dE)); have KE := hh (HAL.out.trans (K3.out.mono HAL.out.size))
    clear hx2
    gi_wp2
    have h1 := HX.out.cell
    refine ⟨.int .i64 dE, ?_, by rw [HP.out], KE.out.setCell (p := ⟨w.heap.size + 1 + 1, 0, none⟩) (by simp; omega) _⟩
    simp [results, Tryz.results130, go_sem, h1]
theorem fits_w (i : In) (A : Option Addr) (c : Nat) (regs code : Int) (w : World) (hs : Sh w) (hr : Rd w A (IL i.ar)) (hc : i.ar.length ≤ c) (hz : i.ar.length ≤ 281474976710656) (hcl : i.cl.length ≤ 281474976710656) (hnm : i.nm.length ≤ 281474976710656) (hd : i.ds.length ≤ 65536) (hm : Mx w) (hv : Vd w) :
  Calls Tryz.prog 130 #[.agg (InV i A c), .int .i64 regs, .int .i64 code] w (FitP i regs code w) := (callsIn_wide (n := 3)).1 (fits_in i A c regs code w hs hr hc hz hcl hnm hd hm hv)
end Go.Proofs.YtgociheckcpjkaaGreatDoor.op
namespace Go.Proofs.YtgociheckcpjkaaGreatDoor.op
open Go.RowKit
open words kindp opp kind
set_option maxRecDepth 100000
set_option maxHeartbeats 4000000
end Go.Proofs.YtgociheckcpjkaaGreatDoor.op
namespace Go.Proofs.YtgociheckcpjkaaGreatDoor.op
open Go.RowKit
open words kindp opp
set_option maxRecDepth 100000
set_option maxHeartbeats 4000000
end Go.Proofs.YtgociheckcpjkaaGreatDoor.op
namespace Go.Proofs.YtgociheckcpjkaaGreatDoor.op
open Go.RowKit
open words kindp opp kind
set_option maxRecDepth 100000
set_option maxHeartbeats 4000000
theorem mk_sz (c : Tx) : (⟨c.toArray⟩ : ByteArray).size = c.length := by show c.toArray.size = _; simp
end Go.Proofs.YtgociheckcpjkaaGreatDoor.op

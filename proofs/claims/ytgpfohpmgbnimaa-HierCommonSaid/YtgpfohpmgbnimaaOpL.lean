/-
 Layer 7: whether an instruction can stand in a method of so many registers, and so much code; that the program lives; the document's shapes; what is long.
-/
import Derived.Test.YtgpfohpmgbnimaaOpU
import Derived.Test.YtgpfohpmgbnimaaOpF
import Derived.Test.YtgpfohpmgbnimaaOpG
import Derived.Test.YtgpfohpmgbnimaaOp
/- Layer 7: whether an instruction can stand in a method of so many registers, and so much code: the program's answer. -/
namespace Go.Proofs.Ytgpfohpmgbnimaa.op
open Go.RowKit Go.Shelf
open words kindp opp kind
attribute [local go_sem] Oper.semAt_some

def okR (regs : Int) (x : UInt8 × Int) : Bool := decide (0 ≤ x.2) && decide (x.2 < regs)
/-- what is wrong with an instruction -/
def fitsE (i : In) (regs code : Int) : Int :=
 if formedB i = false then 1 else if isCall i.o = true ∧ descE i ≠ 0 then descE i else if (regsL i).all (okR regs) = false then 12 else if countedB i code = false then 12 else 0
def FitP (i : In) (regs code : Int) (w : World) (e : Ending) (w' : World) : Prop := e = .returned (.int .i64 (fitsE i regs code)) ∧ Below w.heap.size w w'
theorem fit_1 {i : In} {regs code : Int} (h : formedB i = false) : fitsE i regs code = 1 := by unfold fitsE; rw [if_pos h]
theorem fit_2 {i : In} {regs code : Int} (h : formedB i = true) (hc : isCall i.o = true) (hd : descE i ≠ 0) : fitsE i regs code = descE i := by unfold fitsE; rw [if_neg (by rw [h]; simp), if_pos ⟨hc, hd⟩]
theorem fit_3 {i : In} {regs code : Int} (h : formedB i = true) (hc : ¬ (isCall i.o = true ∧ descE i ≠ 0)) (hr : (regsL i).all (okR regs) = false) : fitsE i regs code = 12 := by unfold fitsE; rw [if_neg (by rw [h]; simp), if_neg hc, if_pos hr]
theorem fit_4 {i : In} {regs code : Int} (h : formedB i = true) (hc : ¬ (isCall i.o = true ∧ descE i ≠ 0)) (hr : (regsL i).all (okR regs) = true) : fitsE i regs code = if countedB i code = false then 12 else 0 := by unfold fitsE; rw [if_neg (by rw [h]; simp), if_neg hc, if_neg (by rw [hr]; simp)]

/-- what holds between two rounds -/
def FHeld (i : In) (A : Option Addr) (c : Nat) (regs : Int) (w : World) (N : Nat) (pre : List (UInt8 × Int)) (W : World) : Prop :=
 (W.heap[w.heap.size]? = some (.cells (InV i A c) 55 (0, 0)) ∧ W.heap[w.heap.size + 1]? = some (.cells #[.int .i64 regs] 3 (0, 0)) ∧ W.heap[w.heap.size + 1 + 1]? = some (.cells #[.int .i64 0] 32 (0, 0)) ∧
  W.heap[N]? = some (.cells (InV i A c) 55 (0, 0))) ∧ (∀ x ∈ pre, okR regs x = true) ∧ Below w.heap.size w W
/-- what holds where a round has left -/
def FLeft (regs : Int) (w : World) (c : Code) (pre : List (UInt8 × Int)) (W : World) : Prop :=
 (c = .ret ∧ (∃ x ∈ pre, okR regs x = false) ∧ W.heap[w.heap.size + 1 + 1]? = some (.cells #[.int .i64 12] 32 (0, 0))) ∧ Below w.heap.size w W
theorem fheld_own (i : In) (A : Option Addr) (c : Nat) (regs : Int) (w : World) (N B : Nat) (hB : w.heap.size ≤ B) : OwnFrom B (FHeld i A c regs w N) :=
 OwnFrom.and (OwnFrom.and (Own.from (row_own2 _ _ _ _) _) (OwnFrom.and (Own.from (row_own2 _ _ _ _) _) (OwnFrom.and (Own.from (row_own2 _ _ _ _) _) (Own.from (row_own2 _ _ _ _) _)))) (OwnFrom.and (fun _ _ _ _ h _ _ => h) (ownFrom_below (Nat.le_refl _) hB))
theorem fleft_own (regs : Int) (w : World) (B : Nat) (hB : w.heap.size ≤ B) (c : Code) : OwnFrom B (FLeft regs w c) :=
 OwnFrom.and (OwnFrom.and (fun _ _ _ _ h _ _ => h) (OwnFrom.and (fun _ _ _ _ h _ _ => h) (Own.from (row_own2 _ _ _ _) _))) (ownFrom_below (Nat.le_refl _) hB)
theorem fleft_mk {regs : Int} {w W : World} {pre : List (UInt8 × Int)} {x : UInt8 × Int} (h : okR regs x = false) (hb : W.heap[w.heap.size + 1 + 1]? = some (.cells #[.int .i64 0] 32 (0, 0))) (hB : Below w.heap.size w W) (B0 : Nat) :
  KeepsFrom B0 W (W.setCell ⟨w.heap.size + 1 + 1, 0, none⟩ (.int .i64 12)) ∧ FLeft regs w .ret (pre ++ [x]) (W.setCell ⟨w.heap.size + 1 + 1, 0, none⟩ (.int .i64 12)) :=
 ⟨(KeepsOthers.setCell _ _ _).from _, ⟨rfl, ⟨x, by simp, h⟩, (show Boxed W _ _ _ from hb).set _⟩, hB.setCell (p := ⟨w.heap.size + 1 + 1, 0, none⟩) (by simp; omega) _⟩
theorem stop_facts {w W : World} {D : Nat} {v : Value} {t : TypeId} (hb : W.heap[w.heap.size + 1 + 1]? = some (.cells #[v] t (0, 0))) (hK : W.heap[D]? = some (.deferred (some []))) (hB : Below w.heap.size w W) (hD : w.heap.size + 1 + 1 < D) :
  (W.putObj D (.deferred none)).cell? ⟨w.heap.size + 1 + 1, 0, none⟩ = some v ∧ Below w.heap.size w (W.putObj D (.deferred none)) := by
 have h1 := ((grownBy_putObj' W D (.deferred none)).block _ (Array.getElem?_eq_some_iff.1 hb).1 (fun e => by cases e; omega)).trans hb
 exact ⟨(show Boxed _ _ _ _ from h1).cell, hB.trans (belowK_b (w := w) (Nat.le_refl _) W D _ _ (by omega) hK rfl rfl)⟩
theorem fin_facts {w W : World} {D : Nat} {u v : Value} {t : TypeId} (hb : W.heap[w.heap.size + 1 + 1]? = some (.cells #[u] t (0, 0))) (hK : W.heap[D]? = some (.deferred (some []))) (hB : Below w.heap.size w W) (hD : w.heap.size + 1 + 1 < D) :
  ((W.setCell ⟨w.heap.size + 1 + 1, 0, none⟩ v).putObj D (.deferred none)).cell? ⟨w.heap.size + 1 + 1, 0, none⟩ = some v ∧ (W.setCell ⟨w.heap.size + 1 + 1, 0, none⟩ v).heap[D]? = some (.deferred (some [])) ∧
   Below w.heap.size w ((W.setCell ⟨w.heap.size + 1 + 1, 0, none⟩ v).putObj D (.deferred none)) := by
 have h1 : Boxed (W.setCell ⟨w.heap.size + 1 + 1, 0, none⟩ v) _ _ _ := (show Boxed W _ _ _ from hb).set v
 have h2 := (KeepsOthers.setCell W ⟨w.heap.size + 1 + 1, 0, none⟩ v).same D _ hK rfl
 have h3 := stop_facts h1 h2 (hB.setCell (p := ⟨w.heap.size + 1 + 1, 0, none⟩) (by simp; omega) v) hD
 exact ⟨h3.1, h2, h3.2⟩

end Go.Proofs.Ytgpfohpmgbnimaa.op

/- Layer 7: what must be whatever is asked. -/
namespace Go.Proofs.Ytgpfohpmgbnimaa.op
open Go.RowKit
open words kindp opp kind
def iCall : In := ⟨20, 0, 0, 0, 0, [65], [109], [40, 73, 41, 86], [0, 1]⟩
def iMove : In := ⟨4, 2, 1, 0, 0, [], [], [], []⟩
def iBranch : In := ⟨7, 0, 1, 0, 4, [], [], [], []⟩
def iJump : In := ⟨6, 0, 0, 0, 5, [], [], [], []⟩
theorem lv1 : setsL iMove = (2, true) := by decide +kernel
theorem lv2 : setsL iCall = (0, false) := by decide +kernel
theorem lv3 : targetL iBranch = (4, true) := by decide +kernel
theorem lv4 : fitsE iCall 2 1 = 0 := by decide +kernel
theorem lv5 : fitsE iJump 0 5 = 12 := by decide +kernel
theorem lv6 : shapeL 14 = [97, 98, 99] := by decide +kernel
theorem lv7 : usesL iCall = [0, 1] := by decide +kernel
end Go.Proofs.Ytgpfohpmgbnimaa.op

/- Layer 7: the document's answers: shapes, letters of them, which are calls, and which fall through. -/
namespace Go.Proofs.Ytgpfohpmgbnimaa.op
open Go.RowKit
open words kindp opp
theorem ne_of_unknown {o : Int} (h : known o = false) (k : Int) (h1 : 0 < k) (h2 : k ≤ 32) : (o == k) = false := by
 have := known_not h
 rw [beq_eq_false_iff_ne]; omega
def withB (n m : Int) : Bool := decide (0 ≤ n) && decide (n < m)
end Go.Proofs.Ytgpfohpmgbnimaa.op

/- Layer 7: what is too much for the laws; and what follows where an instruction fits. -/
namespace Go.Proofs.Ytgpfohpmgbnimaa.op
open Go.RowKit
open words kindp opp kind

def longB (i : In) : Bool := decide (60 < i.ar.length) || (decide (300 < i.cl.length) || (decide (300 < i.nm.length) || decide (300 < i.ds.length)))
theorem long_not {i : In} (h : longB i = false) : i.ar.length ≤ 60 ∧ i.cl.length ≤ 300 ∧ i.nm.length ≤ 300 ∧ i.ds.length ≤ 300 := by
 unfold longB at h
 simp only [Bool.or_eq_false_iff, decide_eq_false_iff_not] at h
 omega
theorem mk_sz (c : Tx) : (⟨c.toArray⟩ : ByteArray).size = c.length := by show c.toArray.size = _; simp
/-- an instruction fits: what that says -/
theorem fits_zero {i : In} {regs code : Int} (h : fitsE i regs code = 0) : formedB i = true ∧ ¬ (isCall i.o = true ∧ descE i ≠ 0) ∧ (regsL i).all (okR regs) = true ∧ countedB i code = true := by
 unfold fitsE at h
 cases hf : formedB i with
 | false => rw [hf, if_pos rfl] at h; exact absurd h (by decide)
 | true =>
  rw [if_neg (by rw [hf]; simp)] at h
  by_cases hc : isCall i.o = true ∧ descE i ≠ 0
  ·rw [if_pos hc] at h; exact absurd h hc.2
  ·rw [if_neg hc] at h
   cases hr : (regsL i).all (okR regs) with
   | false => rw [hr, if_pos rfl] at h; exact absurd h (by decide)
   | true =>
    rw [if_neg (by rw [hr]; simp)] at h
    cases hn : countedB i code with
    | false => rw [hn, if_pos rfl] at h; exact absurd h (by decide)
    | true => exact ⟨rfl, hc, rfl, rfl⟩
theorem zero_fits {i : In} {regs code : Int} (h1 : formedB i = true) (h2 : ¬ (isCall i.o = true ∧ descE i ≠ 0)) (h3 : (regsL i).all (okR regs) = true) (h4 : countedB i code = true) : fitsE i regs code = 0 := by
 unfold fitsE; rw [if_neg (by rw [h1]; simp), if_neg h2, if_neg (by rw [h3]; simp), if_neg (by rw [h4]; simp)]
theorem fits_more {i : In} {regs code : Int} (h : fitsE i regs code = 0) : fitsE i (regs + 1) code = 0 ∧ fitsE i regs (code + 1) = 0 := by
 obtain ⟨h1, h2, h3, h4⟩ := fits_zero h
 refine ⟨zero_fits h1 h2 (List.all_eq_true.2 fun x hx => ?_) h4, zero_fits h1 h2 h3 ?_⟩
 ·have := List.all_eq_true.1 h3 x hx
  simp only [okR, Bool.and_eq_true, decide_eq_true_eq] at this ⊢
  omega
 ·unfold countedB at h4 ⊢
  simp only [Bool.and_eq_true, Bool.or_eq_true, Bool.not_eq_true', decide_eq_true_eq] at h4 ⊢
  refine ⟨h4.1.imp id (fun h => ⟨h.1, by omega⟩), h4.2⟩
theorem uses_within {i : In} {regs code : Int} (h : fitsE i regs code = 0) {z : Int} (hz : z ∈ usesL i) : 0 ≤ z ∧ z < regs := by
 obtain ⟨_, _, h3, _⟩ := fits_zero h
 unfold usesL at hz
 obtain ⟨x, hx, rfl⟩ := List.mem_map.1 hz
 have := List.all_eq_true.1 h3 x (List.mem_filter.1 hx).1
 simpa [okR] using this
theorem sets_within {i : In} {regs code : Int} (h : fitsE i regs code = 0) (hs : (setsL i).2 = true) : 0 ≤ (setsL i).1 ∧ (setsL i).1 < regs := by
 obtain ⟨_, _, h3, _⟩ := fits_zero h
 unfold setsL at hs ⊢
 split at hs
 ·cases hs
 ·rename_i hn
  rw [if_neg hn]
  split at hs
  ·cases hs
  ·rename_i hc
   rw [if_neg hc]
   have ha : hasL (shapeL i.o) 97 = true := by
    cases hh : hasL (shapeL i.o) 97 with
    | true => rfl
    | false => exact absurd (.inl hh) hn
   have hm : ((97 : UInt8), i.a) ∈ regsL i := by
    unfold regsL
    rw [List.mem_flatMap]
    exact ⟨97, List.contains_iff_mem.1 ha, by simp [lettered]⟩
   have := List.all_eq_true.1 h3 _ hm
   simpa [okR] using this
theorem jumps_within {i : In} {regs code : Int} (h : fitsE i regs code = 0) (hs : (targetL i).2 = true) : (targetL i).1 < code := by
 obtain ⟨_, _, _, h4⟩ := fits_zero h
 unfold targetL at hs ⊢
 split at hs
 ·rename_i ht
  rw [if_pos ht]
  unfold countedB at h4
  rw [ht.1] at h4
  simp only [Bool.not_true, Bool.false_or, Bool.and_eq_true, decide_eq_true_eq] at h4
  exact h4.1.2
 ·cases hs
end Go.Proofs.Ytgpfohpmgbnimaa.op

/- NormRe -/
import Derived.Test.YtgociheckcpjkaaGreatDoorNormRd
namespace Go.Proofs.YtgociheckcpjkaaGreatDoor.prg
open Go.RowKit
open words kindp opp op kind word keep sorts
structure InvP (v : World) (hv B : Nat) (PX ZX : Array Value) (w : World) (z : PrM) : Prop where
 box : w.heap[B]? = some (.cells PX 27 (0, 0))
 ans : w.heap[v.heap.size + 1]? = some (.cells ZX 27 (0, 0))
 own : OwP hv w z
 bel : Below v.heap.size v w
 siz : hv ≤ w.heap.size
theorem InvP.below {v w u : World} {hv B : Nat} {PX ZX : Array Value} {z : PrM} (h : InvP v hv B PX ZX w z) (k : Below w.heap.size w u) : InvP v hv B PX ZX u z :=
 ⟨(k.block _ (blk_lt h.box)).trans h.box, (k.block _ (blk_lt h.ans)).trans h.ans, h.own.below k, h.bel.trans (k.mono h.bel.size), Nat.le_trans h.siz k.size⟩
theorem InvP.drew {v w : World} {hv B : Nat} {PX ZX : Array Value} {z : PrM} (h : InvP v hv B PX ZX w z) : InvP v hv B PX ZX w.drew z := h.below ⟨rfl, rfl, rfl, Nat.le_refl _, fun _ _ => rfl⟩
theorem OwP.gb {b g : Nat} {w w' : World} {y : PrM} (h : OwP b w y) (hg : g < b) (k : w.grownBy w' (some g)) : OwP b w' y := ⟨own_gb h.1 hg k, own_gb h.2.1 hg k, fun z hz => (h.2.2 z hz).gb hg k⟩
theorem OwP.mono {b c : Nat} {w : World} {y : PrM} (h : OwP b w y) (hc : c ≤ b) : OwP c w y := ⟨own_base h.1 hc, own_base h.2.1 hc, fun z hz => (h.2.2 z hz).mono hc⟩
theorem ne_box {w : World} {g B T S : Nat} {c d : Array Value} {f k : Nat × Nat} (hg : w.heap[g]? = some (.cells c T f)) (hB : w.heap[B]? = some (.cells d S k)) (h : S ≠ T) : B ≠ g := by
 intro e; subst e; rw [hg] at hB
 simp only [Option.some.injEq, Obj.cells.injEq] at hB
 exact h hB.2.1.symm
theorem InvP.cs1 {v w u : World} {hv B g : Nat} {PX ZX : Array Value} {z : PrM} {L : List ClM} (h : InvP v hv B PX ZX w z) (hn : L.length = z.cs.length) (hA : z.A1 = some ⟨g, 0, none⟩) (hl : hv ≤ g) (hv1 : v.heap.size + 1 < hv) (gb : w.grownBy u (some g))
  (hm : ∀ y ∈ L, OwC hv w y) (ho : Row 35 7 clC hv g z.cs.length z.c1 u L) : InvP v hv B PX ZX u { z with cs := L } := by
 have k := h.own.1; rw [hA] at k
 obtain ⟨-, cur, hg⟩ := own_blk k
 refine ⟨gb_at gb h.box (ne_box hg h.box (by decide)), gb_at gb h.ans (by omega), ⟨?_, ?_, fun y hy => ?_⟩, h.bel.grown gb h.bel.size (fun b hb => by cases hb; omega), Nat.le_trans h.siz gb.size⟩
 ·dsimp only; rw [hA, hn]; exact ho.own
 ·exact own_ne h.own.2.1 (ne_type h.own.2.1 hg (by decide)) gb
 ·have hy' := hm y hy
  exact hy'.ne hg (by decide) (by decide) (ne_type hy'.1 hg (by decide)) (ne_type hy'.2.1 hg (by decide)) (ne_type hy'.2.2.1 hg (by decide)) gb
theorem InvP.row {v u : World} {hv B g n : Nat} {PX ZX : Array Value} {z : PrM} {L : List ClM} (h : InvP v hv B PX ZX u { z with cs := L }) (hA : z.A1 = some ⟨g, 0, none⟩) (hn : L.length = n) : Row 35 7 clC hv g n z.c1 u L :=
 ⟨hn, by have k := h.own.1; dsimp only at k; rw [hA, hn] at k; exact k⟩
theorem sw_cs {v u : World} {hv B g : Nat} {PX ZX : Array Value} {z : PrM} {L : List ClM} {p q : Nat} {x y : ClM} (hi : InvP v hv B PX ZX u { z with cs := L }) (hA : z.A1 = some ⟨g, 0, none⟩) (hl : hv ≤ g) (hv1 : v.heap.size + 1 < hv) (hp : p < L.length) (hq : q < L.length) (hx : x ∈ L) (hy : y ∈ L) :
  Row 35 7 clC hv g L.length z.c1 u L ∧ u.grownBy (u.setCells g (q * 7) (clC y)) (some g) ∧ Row 35 7 clC hv g L.length z.c1 (u.setCells g (q * 7) (clC y)) (L.set q y) ∧ InvP v hv B PX ZX ((u.setCells g (q * 7) (clC y)).setCells g (p * 7) (clC x)) { z with cs := (L.set q y).set p x } := by
 have hr : Row 35 7 clC hv g L.length z.c1 u L := hi.row hA rfl
 obtain ⟨r1, g1⟩ := hr.set len_cl y hq
 obtain ⟨r2, g2⟩ := r1.set len_cl x hp
 have hm : ∀ a ∈ (L.set q y).set p x, OwC hv u a := fun a ha => hi.own.2.2 a (by dsimp only; exact set_mem hx hy ha)
 exact ⟨hr, g1, r1, hi.cs1 (z := { z with cs := L }) (by simp) hA hl hv1 (gt_trans g1 g2) hm r2⟩
theorem st_cs {v u : World} {hv B g : Nat} {PX ZX : Array Value} {z : PrM} {L : List ClM} {q : Nat} {y : ClM} (hi : InvP v hv B PX ZX u { z with cs := L }) (hA : z.A1 = some ⟨g, 0, none⟩) (hl : hv ≤ g) (hv1 : v.heap.size + 1 < hv) (hq : q < L.length) (hy : OwC hv u y) :
  InvP v hv B PX ZX (u.setCells g (q * 7) (clC y)) { z with cs := L.set q y } := by
 have hr : Row 35 7 clC hv g L.length z.c1 u L := hi.row hA rfl
 obtain ⟨r1, g1⟩ := hr.set len_cl y hq
 refine hi.cs1 (z := { z with cs := L }) (by simp) hA hl hv1 g1 (fun a ha => ?_) r1
 rcases List.mem_or_eq_of_mem_set ha with h | h
 ·exact hi.own.2.2 a h
 ·rw [h]; exact hy
theorem grM_of {a b : MeM} (h : pM a = pM b) (hg : GrM b) : GrM a := by
 have e1 : a.nm = b.nm := congrArg MeP.nm h
 have e2 : a.ds = b.ds := congrArg MeP.ds h
 have e3 : a.co.map pI = b.co.map pI := congrArg MeP.co h
 have e4 : a.co.length = b.co.length := by have := congrArg List.length e3; simpa using this
 refine ⟨by rw [e1, e2, e4]; exact hg.1, fun x hx => ?_⟩
 have : pI x ∈ b.co.map pI := by rw [← e3]; exact List.mem_map_of_mem hx
 obtain ⟨x', hx', e⟩ := List.mem_map.1 this
 have k := hg.2 x' hx'
 unfold GrI at k ⊢
 have e' : x'.i = x.i := e
 rw [← e']; exact k
theorem grC_of {a b : ClM} (h : pC a = pC b) (hg : GrC b) : GrC a := by
 have e1 : a.nm = b.nm := congrArg ClP.nm h
 have e2 : a.su = b.su := congrArg ClP.su h
 have e3 : a.is = b.is := congrArg ClP.is h
 have e4 : a.fs.length = b.fs.length := by have := congrArg (fun p => (ClP.fs p).length) h; simpa [pC] using this
 have e5 : a.ms.map pM = b.ms.map pM := congrArg ClP.ms h
 have e6 : a.ms.length = b.ms.length := by have := congrArg List.length e5; simpa using this
 refine ⟨by rw [e1, e2, e3, e4, e6]; exact hg.1, fun m hm => ?_⟩
 have : pM m ∈ b.ms.map pM := by rw [← e5]; exact List.mem_map_of_mem hm
 obtain ⟨m', hm', e⟩ := List.mem_map.1 this
 exact grM_of e.symm (hg.2 m' hm')
theorem grP_of {a b : PrM} (h : pP a = pP b) (hg : GrP b) : GrP a := by
 have e1 : a.cs.map pC = b.cs.map pC := congrArg PrP.cs h
 have e2 : a.ns = b.ns := congrArg PrP.ns h
 have e4 : a.cs.length = b.cs.length := by have := congrArg List.length e1; simpa using this
 refine ⟨by rw [e2, e4]; exact hg.1, fun c hc => ?_⟩
 have : pC c ∈ b.cs.map pC := by rw [← e1]; exact List.mem_map_of_mem hc
 obtain ⟨c', hc', e⟩ := List.mem_map.1 this
 exact grC_of e.symm (hg.2 c' hc')
def doneL (P : List ClP) (k : Nat) : List ClP := (P.take k).map sortCP ++ P.drop k
theorem doneL_zero (P : List ClP) : doneL P 0 = P := by simp [doneL]
theorem doneL_all {P : List ClP} {k : Nat} (h : P.length ≤ k) : doneL P k = P.map sortCP := by unfold doneL; rw [List.take_of_length_le h, List.drop_eq_nil_of_le h, List.append_nil]
theorem doneL_at {P : List ClP} {k : Nat} (h : k < P.length) : (doneL P k)[k]? = P[k]? := by
 unfold doneL
 rw [List.getElem?_append_right (by simp; omega)]
 simp [Nat.min_eq_left (Nat.le_of_lt h)]
theorem doneL_next {P : List ClP} {k : Nat} {c : ClP} (h : P[k]? = some c) : (doneL P k).set k (sortCP c) = doneL P (k + 1) := by
 obtain ⟨hk, e⟩ := List.getElem?_eq_some_iff.1 h
 have hl : ((P.take k).map sortCP).length = k := by simp; omega
 unfold doneL
 rw [List.set_append_right _ _ (by omega), hl, Nat.sub_self, List.drop_eq_getElem_cons hk, List.set_cons_zero, List.take_add_one, h]
 simp
end Go.Proofs.YtgociheckcpjkaaGreatDoor.prg

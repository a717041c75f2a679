/- NormRc -/
import Derived.Test.YtgociheckcpjkaaGreatDoorOpTellsW
import Derived.Test.YtgociheckcpjkaaGreatDoorNormRy
import Derived.Test.YtgociheckcpjkaaGreatDoorNormRw
import Derived.Test.YtgociheckcpjkaaGreatDoorNormRt
namespace Go.Proofs.YtgociheckcpjkaaGreatDoor.prg
open Go.RowKit
open words kindp opp op kind word keep sorts
structure InvC (v : World) (hv : Nat) (BX ZX : Array Value) (w : World) (z : ClM) : Prop where
 box : w.heap[v.heap.size]? = some (.cells BX 35 (0, 0))
 ans : w.heap[v.heap.size + 1]? = some (.cells ZX 35 (0, 0))
 own : OwC hv w z
 bel : Below v.heap.size v w
 siz : hv ≤ w.heap.size
theorem InvC.below {v w u : World} {hv : Nat} {BX ZX : Array Value} {z : ClM} (h : InvC v hv BX ZX w z) (k : Below w.heap.size w u) : InvC v hv BX ZX u z :=
 ⟨(k.block _ (blk_lt h.box)).trans h.box, (k.block _ (blk_lt h.ans)).trans h.ans, h.own.below k, h.bel.trans (k.mono h.bel.size), Nat.le_trans h.siz k.size⟩
theorem InvC.drew {v w : World} {hv : Nat} {BX ZX : Array Value} {z : ClM} (h : InvC v hv BX ZX w z) : InvC v hv BX ZX w.drew z := h.below ⟨rfl, rfl, rfl, Nat.le_refl _, fun _ _ => rfl⟩
theorem InvC.gb {v w u : World} {hv g : Nat} {BX ZX : Array Value} {z z' : ClM} (h : InvC v hv BX ZX w z) (hl : hv ≤ g) (hv1 : v.heap.size + 1 < hv) (k : w.grownBy u (some g)) (ho : OwC hv u z') : InvC v hv BX ZX u z' :=
 ⟨gb_at k h.box (by omega), gb_at k h.ans (by omega), ho, h.bel.grown k h.bel.size (fun b hb => by cases hb; omega), Nat.le_trans h.siz k.size⟩
theorem own_blk {w : World} {b e size n c g : Nat} {xs : List Value} (h : w.ownsRow b e size (.slice (some ⟨g, 0, none⟩) n c) n xs) : b ≤ g ∧ ∃ cur, w.heap[g]? = some (.cells cur e (0, 0)) := by
 rcases h.2 with ⟨hn, _⟩ | ⟨g', cap, cur, hv, hb, hg, _⟩
 ·cases hn
 ·cases hv; exact ⟨hb, cur, hg⟩
theorem OwC.fs1 {b g : Nat} {w w' : World} {c : ClM} (h : OwC b w c) (s : List FiM) (hs : s.length = c.fs.length) (hA : c.A2 = some ⟨g, 0, none⟩) (gb : w.grownBy w' (some g)) (ho : w'.ownsRow b 58 4 (.slice c.A2 c.fs.length c.c2) c.fs.length (s.flatMap fiC)) : OwC b w' { c with fs := s } := by
 have k := h.2.1; rw [hA] at k
 have st : St b w [c] := ⟨fun y hy => by rw [List.mem_singleton.1 hy]; exact h, apL_of (List.pairwise_singleton _ _)⟩
 obtain ⟨-, cur, hg⟩ := own_blk k
 exact (St.fs (k := 0) st rfl hA s hs ⟨cur, _, hg⟩ gb ho).1 _ (by simp)
theorem OwC.ms1 {b g : Nat} {w w' : World} {c : ClM} (h : OwC b w c) (s : List MeM) (hs : s.length = c.ms.length) (hm : ∀ m ∈ s, m ∈ c.ms) (hA : c.A3 = some ⟨g, 0, none⟩) (gb : w.grownBy w' (some g)) (ho : w'.ownsRow b 38 6 (.slice c.A3 c.ms.length c.c3) c.ms.length (s.flatMap meC)) : OwC b w' { c with ms := s } := by
 have k := h.2.2.1; rw [hA] at k
 have st : St b w [c] := ⟨fun y hy => by rw [List.mem_singleton.1 hy]; exact h, apL_of (List.pairwise_singleton _ _)⟩
 obtain ⟨-, cur, hg⟩ := own_blk k
 exact (St.ms (k := 0) st rfl hA s hs hm ⟨cur, _, hg⟩ gb ho).1 _ (by simp)
theorem OwC.is1 {b g : Nat} {w w' : World} {c : ClM} (h : OwC b w c) (s : List Tx) (hs : s.length = c.is.length) (hA : c.A1 = some ⟨g, 0, none⟩) (gb : w.grownBy w' (some g)) (ho : w'.ownsRow b 9 1 (.slice c.A1 c.is.length c.c1) c.is.length (SX s)) : OwC b w' { c with is := s } := by
 have k := h.1; rw [hA] at k
 have st : St b w [c] := ⟨fun y hy => by rw [List.mem_singleton.1 hy]; exact h, apL_of (List.pairwise_singleton _ _)⟩
 obtain ⟨-, cur, hg⟩ := own_blk k
 exact (St.is (k := 0) st rfl hA s hs ⟨cur, _, hg⟩ gb ho).1 _ (by simp)
theorem sx_set (l : List Tx) (i : Nat) (s : Tx) : (SX l).set i (.string ⟨s.toArray⟩) = SX (l.set i s) := by unfold SX; rw [List.map_set]
theorem set_mem {α : Type} {L : List α} {p q : Nat} {x y m : α} (hx : x ∈ L) (hy : y ∈ L) (hm : m ∈ (L.set q y).set p x) : m ∈ L := by
 rcases List.mem_or_eq_of_mem_set hm with h | h
 ·rcases List.mem_or_eq_of_mem_set h with h | h
  ·exact h
  ·rw [h]; exact hy
 ·rw [h]; exact hx
theorem sw_fs {v u : World} {hv g : Nat} {BX ZX : Array Value} {c : ClM} {L : List FiM} {p q : Nat} {x y : FiM} (hi : InvC v hv BX ZX u { c with fs := L }) (hA : c.A2 = some ⟨g, 0, none⟩) (hl : hv ≤ g) (hv1 : v.heap.size + 1 < hv) (hp : p < L.length) (hq : q < L.length) :
  Row 58 4 fiC hv g L.length c.c2 u L ∧ u.grownBy (u.setCells g (q * 4) (fiC y)) (some g) ∧ Row 58 4 fiC hv g L.length c.c2 (u.setCells g (q * 4) (fiC y)) (L.set q y) ∧ InvC v hv BX ZX ((u.setCells g (q * 4) (fiC y)).setCells g (p * 4) (fiC x)) { c with fs := (L.set q y).set p x } := by
 have hr : Row 58 4 fiC hv g L.length c.c2 u L := ⟨rfl, by have h := hi.own.2.1; dsimp only at h; rw [hA] at h; exact h⟩
 obtain ⟨r1, g1⟩ := hr.set len_fi y hq
 obtain ⟨r2, g2⟩ := r1.set len_fi x hp
 refine ⟨hr, g1, r1, hi.gb hl hv1 (gt_trans g1 g2) ?_⟩
 have ho := OwC.fs1 (c := { c with fs := L }) hi.own ((L.set q y).set p x) (by simp) hA (gt_trans g1 g2) (by dsimp only; rw [hA]; exact r2.own)
 exact ho
theorem sw_ms {v u : World} {hv g : Nat} {BX ZX : Array Value} {c : ClM} {L : List MeM} {p q : Nat} {x y : MeM} (hi : InvC v hv BX ZX u { c with ms := L }) (hA : c.A3 = some ⟨g, 0, none⟩) (hl : hv ≤ g) (hv1 : v.heap.size + 1 < hv) (hp : p < L.length) (hq : q < L.length) (hx : x ∈ L) (hy : y ∈ L) :
  Row 38 6 meC hv g L.length c.c3 u L ∧ u.grownBy (u.setCells g (q * 6) (meC y)) (some g) ∧ Row 38 6 meC hv g L.length c.c3 (u.setCells g (q * 6) (meC y)) (L.set q y) ∧ InvC v hv BX ZX ((u.setCells g (q * 6) (meC y)).setCells g (p * 6) (meC x)) { c with ms := (L.set q y).set p x } := by
 have hr : Row 38 6 meC hv g L.length c.c3 u L := ⟨rfl, by have h := hi.own.2.2.1; dsimp only at h; rw [hA] at h; exact h⟩
 obtain ⟨r1, g1⟩ := hr.set len_me y hq
 obtain ⟨r2, g2⟩ := r1.set len_me x hp
 refine ⟨hr, g1, r1, hi.gb hl hv1 (gt_trans g1 g2) ?_⟩
 have ho := OwC.ms1 (c := { c with ms := L }) hi.own ((L.set q y).set p x) (by simp) (fun m hm => set_mem hx hy hm) hA (gt_trans g1 g2) (by dsimp only; rw [hA]; exact r2.own)
 exact ho
theorem one_sort {α : Type} (lt : α → α → Bool) (X : List α) : sortS lt (X.take 1) ++ X.drop 1 = X := by
 cases X with
 | nil => rfl
 | cons x X => simp [sortS, nil_mrg]
end Go.Proofs.YtgociheckcpjkaaGreatDoor.prg

/-
 Layer 6: descriptors of any types, their renamings, and the classes they name: the program.
-/
import Derived.Test.YtgpfohpmgbnimaaKindV
import Derived.Laws.OwnMore
/- Layer 6: which of some types is the first wrong one, and a descriptor: the program's answers. -/
namespace Go.Proofs.Ytgpfohpmgbnimaa.kind
open Go.RowKit
open words kindp word rdr
/-- the first of a list that is so -/
def Idx {α : Type} (P : α → Bool) (p : List α) (r : Int) : Prop := (r = -1 ∧ ∀ x ∈ p, P x = false) ∨ ∃ (i : Nat) (x : α), r = (i : Int) ∧ p[i]? = some x ∧ P x = true ∧ ∀ y ∈ p.take i, P y = false
theorem idx_any {α : Type} {P : α → Bool} {p : List α} {r : Int} (h : Idx P p r) : p.any P = decide (0 ≤ r) := by
 rcases h with ⟨rfl, h⟩ | ⟨i, x, rfl, hx, hp, -⟩
 ·rw [show decide ((0 : Int) ≤ -1) = false from rfl, List.any_eq_false]
  intro y hy; rw [h y hy]; simp
 ·rw [decide_eq_true (by omega), List.any_eq_true]
  exact ⟨x, List.mem_of_getElem? hx, hp⟩
theorem take_more {α : Type} {P : α → Bool} {p : List α} {k : Nat} {x : α} (h : ∀ y ∈ p.take k, P y = false) (hx : p[k]? = some x) (hp : P x = false) : ∀ y ∈ p.take (k + 1), P y = false := by
 intro y hy
 rw [List.take_add_one, hx] at hy
 rcases List.mem_append.1 hy with h1 | h1
 ·exact h y h1
 ·simp at h1; rw [h1]; exact hp

end Go.Proofs.Ytgpfohpmgbnimaa.kind

/- Layer 6: a descriptor of any types: the program's answer. -/
namespace Go.Proofs.Ytgpfohpmgbnimaa.kind
open Go.RowKit
open words kindp word rdr

theorem body_le : ∀ p : List Ty, (bodyT p).length ≤ 35 * p.length
 | [] => Nat.le_refl _
 | t :: p => by
  have := body_le p; have := text_le t
  show (textT t ++ bodyT p).length ≤ 35 * (p.length + 1)
  rw [List.length_append]; omega
theorem body_take {p : List Ty} {k : Nat} {t : Ty} (h : p[k]? = some t) : bodyT (p.take (k + 1)) = bodyT (p.take k) ++ textT t := by
 unfold bodyT; rw [List.take_add_one, h]; simp
/-- what Desc answers -/
def DescW (x : Tx × Nat) (w : World) (e : Ending) (w' : World) : Prop := e = .returned (.tuple #[.string ⟨x.1.toArray⟩, .int .i64 (x.2 : Int)]) ∧ Below w.heap.size w w'

end Go.Proofs.Ytgpfohpmgbnimaa.kind

/- Layer 6: types with other classes' names: the program's answer. -/
namespace Go.Proofs.Ytgpfohpmgbnimaa.kind
open Go.RowKit
open words kindp word rdr

/-- pairs, cell by cell -/
def PL (l : List Pr) : List Value := l.flatMap fun q => [.string ⟨q.1.toArray⟩, .string ⟨q.2.toArray⟩]
theorem PL_app (a b : List Pr) : PL (a ++ b) = PL a ++ PL b := by simp [PL]
theorem PL_len : ∀ l : List Pr, (PL l).length = l.length * 2
 | [] => rfl
 | t :: l => by
  have := PL_len l
  show (PL ([t] ++ l)).length = _
  rw [PL_app, List.length_append, this]
  show 2 + l.length * 2 = (l.length + 1) * 2
  omega
theorem PL_at : ∀ {l : List Pr} {i : Nat} {t : Pr}, l[i]? = some t → (PL l)[i * 2]? = some (.string ⟨t.1.toArray⟩) ∧ (PL l)[i * 2 + 1]? = some (.string ⟨t.2.toArray⟩)
 | [], _, _, h => by simp at h
 | x :: l, 0, t, h => by simp at h; subst h; exact ⟨rfl, rfl⟩
 | x :: l, i + 1, t, h => by
  have h2 : l[i]? = some t := by simpa using h
  have ih := PL_at h2
  have e : PL (x :: l) = [.string ⟨x.1.toArray⟩, .string ⟨x.2.toArray⟩] ++ PL l := rfl
  rw [e, show (i + 1) * 2 = i * 2 + 2 by omega, show i * 2 + 2 + 1 = (i * 2 + 1) + 2 by omega]
  simpa using ih
theorem pl_cell {w : World} {A : Option Addr} {l : List Pr} (h : Rd w A (PL l)) {i : Nat} {t : Pr} (hi : l[i]? = some t) :
  ∃ a, A = some a ∧ a.block < w.heap.size ∧ w.cell? (a.add (i * 2)) = some (.string ⟨t.1.toArray⟩) ∧ w.cell? ⟨(a.add (i * 2)).block, (a.add (i * 2)).off + 1, none⟩ = some (.string ⟨t.2.toArray⟩) := by
 obtain ⟨h0, h1⟩ := PL_at hi
 obtain ⟨a, rfl, hb, hc⟩ := h.at_ h0
 obtain ⟨a', e, _, hc1⟩ := h.at_ h1
 cases e
 exact ⟨a, rfl, hb, hc, by rw [← add_add] at hc1; exact hc1⟩
/-- a pair of that name -/
def olds (c : Tx) (q : Pr) : Bool := decide (q.1 = c)
theorem beq_tx (a b : Tx) : (a == b) = decide (a = b) := by
 by_cases h : a = b
 ·subst h; simp
 ·rw [decide_eq_false h]; simpa using h
theorem find_idx {α : Type} {P : α → Bool} : ∀ {l : List α} {i : Nat} {x : α}, l[i]? = some x → P x = true → (∀ y ∈ l.take i, P y = false) → l.find? P = some x
 | [], _, _, h, _, _ => by simp at h
 | y :: l, 0, x, h, hp, _ => by simp at h; subst h; simp [hp]
 | y :: l, i + 1, x, h, hp, ha => by
  have h2 : l[i]? = some x := by simpa using h
  have hy := ha y (by simp)
  rw [List.find?_cons_of_neg (by rw [hy]; simp)]
  exact find_idx h2 hp (fun z hz => ha z (by simp [hz]))
theorem look_idx {l : List Pr} {c : Tx} {r : Int} (h : Idx (olds c) l r) : (r = -1 ∧ lookT l c = none) ∨ ∃ (i : Nat) (q : Pr), r = (i : Int) ∧ l[i]? = some q ∧ lookT l c = some q.2 := by
 rcases h with ⟨rfl, h⟩ | ⟨i, q, rfl, hq, hp, hall⟩
 ·refine .inl ⟨rfl, ?_⟩
  unfold lookT
  rw [List.find?_eq_none.2 (fun x hx => by have := h x hx; unfold olds at this; rw [this]; simp)]; rfl
 ·refine .inr ⟨i, q, rfl, hq, ?_⟩
  unfold lookT
  rw [show (fun q : Pr => decide (q.1 = c)) = olds c from rfl, find_idx hq hp hall]; rfl

/-- THE PROGRAM's TYPE WITH ANOTHER CLASS's NAME. -/
def RenW (x : Ty) (w : World) (e : Ending) (w' : World) : Prop := e = .returned (.agg #[.int .i64 x.1, .string ⟨x.2.toArray⟩]) ∧ Below w.heap.size w w'

end Go.Proofs.Ytgpfohpmgbnimaa.kind

/- Layer 6: a descriptor with other classes' names: the program's answer. -/
namespace Go.Proofs.Ytgpfohpmgbnimaa.kind
open Go.RowKit
open words kindp word rdr

theorem TL_set : ∀ {l : List Ty} {j : Nat} (y : Ty), j < l.length → ((TL l).set (j * 2) (.int .i64 y.1)).set (j * 2 + 1) (.string ⟨y.2.toArray⟩) = TL (l.set j y)
 | [], _, _, h => by simp at h
 | x :: l, 0, y, _ => rfl
 | x :: l, j + 1, y, h => by
  have ih := TL_set (l := l) (j := j) y (by simpa using h)
  rw [show (j + 1) * 2 = (j * 2) + 1 + 1 by omega]
  have e : TL (x :: l) = .int .i64 x.1 :: .string ⟨x.2.toArray⟩ :: TL l := rfl
  have e2 : TL ((x :: l).set (j + 1) y) = .int .i64 x.1 :: .string ⟨x.2.toArray⟩ :: TL (l.set j y) := rfl
  rw [e, e2, ← ih]
  rfl
/-- the first of them are renamed -/
def mixT (l : List Pr) (p : List Ty) (j : Nat) : List Ty := (p.take j).map (renT l) ++ p.drop j
theorem mix_len (l : List Pr) (p : List Ty) (j : Nat) : (mixT l p j).length = p.length := by
 unfold mixT; rw [List.length_append, List.length_map, List.length_take, List.length_drop]; omega
theorem mix_at {l : List Pr} {p : List Ty} {j : Nat} {x : Ty} (h : p[j]? = some x) : (mixT l p j)[j]? = some x := by
 have hj : j < p.length := by
  rcases Nat.lt_or_ge j p.length with h1 | h1
  ·exact h1
  ·rw [List.getElem?_eq_none h1] at h; cases h
 unfold mixT
 rw [List.getElem?_append_right (by rw [List.length_map, List.length_take]; omega), List.length_map, List.length_take, List.getElem?_drop, show j + (j - min j p.length) = j by omega]
 exact h
theorem mix_next {l : List Pr} {p : List Ty} {j : Nat} {x : Ty} (h : p[j]? = some x) : (mixT l p j).set j (renT l x) = mixT l p (j + 1) := by
 have hj : j < p.length := by
  rcases Nat.lt_or_ge j p.length with h1 | h1
  ·exact h1
  ·rw [List.getElem?_eq_none h1] at h; cases h
 unfold mixT
 have e : p.drop j = x :: p.drop (j + 1) := by
  rw [List.getElem?_eq_some_iff] at h
  obtain ⟨h1, h2⟩ := h
  rw [List.drop_eq_getElem_cons h1, h2]
 rw [e, List.take_add_one, h, List.set_append_right _ _ (by rw [List.length_map, List.length_take]; omega), List.length_map, List.length_take, show j - min j p.length = 0 by omega]
 simp
theorem mix_zero (l : List Pr) (p : List Ty) : mixT l p 0 = p := by simp [mixT]
theorem mix_all (l : List Pr) (p : List Ty) : mixT l p p.length = p.map (renT l) := by simp [mixT]
theorem split_small {d : Tx} (he : (splitT d).2.2 = 0) : (splitT d).2.1.2.length ≤ 32 ∧ ∀ x ∈ (splitT d).1, x.2.length ≤ 32 := by
 have h := desc_split (d := d) (t := (splitT d).2.1) (p := (splitT d).1) (Prod.ext rfl (Prod.ext rfl he))
 have hr : ∀ t : Ty, rightT t = true → t.2.length ≤ 32 := by
  intro t ht
  rcases right_cases ht with rfl | rfl | rfl | ⟨c, rfl, hc⟩ | ⟨c, rfl, hc⟩
  ·simp
  ·simp
  ·simp
  ·exact (cls_no hc).2.2
  ·exact (cls_no hc).2.2
 refine ⟨hr _ h.2.1, fun x hx => hr _ ?_⟩
 have := h.2.2 x hx
 unfold wrongT at this
 rw [Bool.or_eq_false_iff, Bool.not_eq_false'] at this
 exact this.2
theorem ren_small {l : List Pr} (hz : ∀ q ∈ l, q.2.length ≤ 281474976710656) {t : Ty} (ht : t.2.length ≤ 281474976710656) : (renT l t).2.length ≤ 281474976710656 := by
 unfold renT
 split
 ·cases hk : lookT l t.2 with
  | none => exact ht
  | some n => exact hz _ (look_mem hk)
 ·exact ht

end Go.Proofs.Ytgpfohpmgbnimaa.kind

/- Layer 6: the classes that a descriptor names: the program's answer. -/
namespace Go.Proofs.Ytgpfohpmgbnimaa.kind
open Go.RowKit
open words kindp word rdr

/-- texts, cell by cell -/
def SX (l : List Tx) : List Value := l.map fun x => .string ⟨x.toArray⟩
theorem SX_app (a b : List Tx) : SX (a ++ b) = SX a ++ SX b := by simp [SX]
theorem SX_len (l : List Tx) : (SX l).length = l.length := by simp [SX]
theorem new_rdg {W : World} (g : Nat) (cs : Array Value) (t : TypeId) (k : Nat) (hW : W.heap.size = g) (xs : List Value) (hx : cs.toList.take k = xs) : Rd (W.alloc (.cells cs t)) (some ⟨g, 0, none⟩) xs := by
 rw [← hW]; exact rd_blk (heap_alloc_new W _) hx
/-- some texts, anywhere -/
def ClsW (l : List Tx) (w : World) (e : Ending) (w' : World) : Prop := (∃ A c, e = .returned (.slice A l.length c) ∧ Rd w' A (SX l)) ∧ Below w.heap.size w w'
/-- the classes of some types -/
def clsL (l : List Ty) : List Tx := (l.filter fun t => hasB t.1).map (·.2)
theorem cls_take {l : List Ty} {j : Nat} {t : Ty} (h : l[j]? = some t) : clsL (l.take (j + 1)) = clsL (l.take j) ++ (if hasB t.1 = true then [t.2] else []) := by
 unfold clsL
 rw [List.take_add_one, h]
 simp only [Option.toList, List.filter_append, List.map_append]
 by_cases hb : hasB t.1 = true
 ·rw [if_pos hb]; simp [hb]
 ·rw [if_neg hb]; simp [hb]
theorem cls_len (l : List Ty) : (clsL l).length ≤ l.length := by unfold clsL; rw [List.length_map]; exact List.length_filter_le _ _
set_option maxRecDepth 100000 in
theorem infoX : (Try.prog.info? 9).map (fun i => (i.zero, i.size, i.bytes)) = some (some (.string ⟨#[]⟩), 1, 16) := by kernel_rfl

end Go.Proofs.Ytgpfohpmgbnimaa.kind

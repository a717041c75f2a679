/- SortP -/
import Derived.Test.YtjejmlpjifhmmaaGreatDoorFindF
import Derived.Test.YtjejmlpjifhmmaaGreatDoorWordA
import Derived.Laws.OwnMore
import Derived.Deep.MidRow
import Derived.Deep.RegionHeld3
namespace Go.Proofs.YtjejmlpjifhmmaaGreatDoor.find
open Go.RowKit
open words kindp opp op kind word prg
set_option maxRecDepth 100000
set_option maxHeartbeats 4000000
set_option linter.all false
def SeqP (L : List Tx) (w : World) (e : Ending) (w' : World) : Prop := (∃ B A c, e = .returned (.func (.func 199) #[] #[.pointer (some ⟨B, 0, none⟩)]) ∧ w'.cell? ⟨B, 0, none⟩ = some (.slice A L.length c) ∧ Rd w' A (SX L)) ∧ Below w.heap.size w w'
theorem only_w (s : Tx) (w : World) : Calls Tryz.prog 101 #[.string ⟨s.toArray⟩] w (SeqP [s] w) := by
 go_enter Tryz.func101, Tryz.ntmps101
 go_wp2_with fail
 refine (vals_w _ _ _ _).mono ?_
 rintro e w2 ⟨rfl, rfl⟩
 obtain ⟨w1, h1⟩ : ∃ u, u = w.alloc (.cells #[.string ⟨s.toArray⟩] 9) := ⟨_, rfl⟩
 have hal : Below w.heap.size w w1 := by rw [h1]; exact (Below.refl _ w).alloc (Nat.le_refl _) _
 have hb2 : Below w1.heap.size w1 (w1.alloc (.cells #[.slice (some ⟨w.heap.size, 0, none⟩) 1 1] 32)) := (Below.refl _ _).alloc (Nat.le_refl _) _
 have hrd : Rd w1 (some ⟨w.heap.size, 0, none⟩) (SX [s]) := by rw [h1]; exact rd_blk (heap_alloc_new w _) (k := 1) rfl
 have HP := zh (show SeqP [s] w (.returned (.func (.func 199) #[] #[.pointer (some ⟨w1.heap.size, 0, none⟩)])) (w1.alloc (.cells #[.slice (some ⟨w.heap.size, 0, none⟩) 1 1] 32)) from ⟨⟨_, _, _, rfl, cell_of_row _ _ 0 _ _ _ (heap_alloc_new w1 _), hrd.below hb2⟩, hal.trans (hb2.mono hal.size)⟩)
 clear hb2 hal hrd
 rw [← h1]
 clear h1
 go_wp2
 go_ret
 exact HP.out
def declR (may : MeM → Bool) (cs : List ClM) (L : List Tx) (s d : Tx) : Option Tx := match firstM cs L s d with
 | none => none
 | some (c, k) => match c.ms[k]? with
  | none => none
  | some m => if may m then some c.nm else none
def refV (o : Option Tx) (s d : Tx) : Value := match o with
 | none => .tuple #[.agg #[.string ⟨#[]⟩, .string ⟨#[]⟩, .string ⟨#[]⟩], .bool false]
 | some n => .tuple #[.agg #[.string ⟨n.toArray⟩, .string ⟨s.toArray⟩, .string ⟨d.toArray⟩], .bool true]
end Go.Proofs.YtjejmlpjifhmmaaGreatDoor.find
namespace Go.Proofs.YtjejmlpjifhmmaaGreatDoor.sorts
open Go.RowKit
open words
set_option linter.all false
variable {α : Type}
structure Swo (lt : α → α → Bool) : Prop where
 asymm : ∀ a b, lt a b = true → lt b a = false
 split : ∀ a b c, lt a c = true → lt a b = true ∨ lt b c = true
theorem Swo.trans {lt : α → α → Bool} (h : Swo lt) {a b c : α} (h1 : lt a b = true) (h2 : lt b c = true) : lt a c = true := by
 rcases h.split a c b h1 with h3 | h3
 ·exact h3
 ·rw [h.asymm b c h2] at h3; cases h3
def Asc (lt : α → α → Bool) (l : List α) : Prop := l.Pairwise fun a b => lt b a = false
theorem Asc.left {lt : α → α → Bool} {l r : List α} (h : Asc lt (l ++ r)) : Asc lt l := (List.pairwise_append.1 h).1
theorem Asc.right {lt : α → α → Bool} {l r : List α} (h : Asc lt (l ++ r)) : Asc lt r := (List.pairwise_append.1 h).2.1
structure Row (T : TypeId) (k : Nat) (f : α → List Value) (b g n c : Nat) (w : World) (xs : List α) : Prop where
 len : xs.length = n
 own : w.ownsRow b T k (.slice (some ⟨g, 0, none⟩) n c) n (xs.flatMap f)
section
variable {T : TypeId} {k : Nat} {f : α → List Value} {b g n c : Nat} {w w' : World} {xs : List α}
theorem flat_get (hf : ∀ x, (f x).length = k) : ∀ {l : List α} {i : Nat} {x : α} {t : Nat} {u : Value}, l[i]? = some x → (f x)[t]? = some u → (l.flatMap f)[i * k + t]? = some u
 | [], _, _, _, _, h, _ => by simp at h
 | y :: l, 0, x, t, u, h, hu => by
  simp at h; subst h
  rw [List.flatMap_cons, Nat.zero_mul, Nat.zero_add, List.getElem?_append_left (List.getElem?_eq_some_iff.1 hu).1]
  exact hu
 | y :: l, i + 1, x, t, u, h, hu => by
  rw [List.flatMap_cons, List.getElem?_append_right (by rw [hf, Nat.succ_mul]; omega), hf, show (i + 1) * k + t - k = i * k + t by rw [Nat.succ_mul]; omega]
  exact flat_get hf (by simpa using h) hu
theorem flat_size (hf : ∀ x, (f x).length = k) : ∀ l : List α, (l.flatMap f).length = l.length * k
 | [] => by simp
 | x :: l => by rw [List.flatMap_cons, List.length_append, hf, flat_size hf l, List.length_cons, Nat.succ_mul, Nat.add_comm]
def setsAt (L : List Value) (o : Nat) : List Value → List Value
 | [] => L
 | v :: vs => setsAt (L.set o v) (o + 1) vs
theorem setsAt_app : ∀ (vs P M Q : List Value), M.length = vs.length → setsAt (P ++ (M ++ Q)) P.length vs = P ++ (vs ++ Q)
 | [], P, M, Q, h => by
  have : M = [] := List.length_eq_zero_iff.1 (by simpa using h)
  subst this; rfl
 | v :: vs, P, m :: M, Q, h => by
  rw [setsAt, List.set_append_right _ _ (Nat.le_refl _), Nat.sub_self]
  have := setsAt_app vs (P ++ [v]) M Q (by simpa using h)
  simp only [List.append_assoc, List.cons_append, List.nil_append, List.length_append, List.length_cons, List.length_nil, Nat.zero_add] at this
  simpa using this
 | v :: vs, P, [], Q, h => by simp at h
theorem flat_set (hf : ∀ x, (f x).length = k) (l : List α) (i : Nat) (y : α) (hi : i < l.length) : (l.set i y).flatMap f = setsAt (l.flatMap f) (i * k) (f y) := by
 have e : l = l.take i ++ (l[i] :: l.drop (i + 1)) := by rw [← List.drop_eq_getElem_cons hi, List.take_append_drop]
 have e2 : l.set i y = l.take i ++ (y :: l.drop (i + 1)) := by
  conv => lhs; rw [e]
  rw [List.set_append_right _ _ (by rw [List.length_take]; omega), List.length_take, Nat.min_eq_left (by omega), Nat.sub_self, List.set_cons_zero]
 rw [e2]
 conv => rhs; rw [e]
 rw [List.flatMap_append, List.flatMap_append, List.flatMap_cons, List.flatMap_cons]
 have hl : ((l.take i).flatMap f).length = i * k := by rw [flat_size hf, List.length_take, Nat.min_eq_left (by omega)]
 rw [← hl, setsAt_app _ _ _ _ (by rw [hf, hf])]
theorem own_sets (vs : List Value) : ∀ {w : World} {L : List Value} {o : Nat}, w.ownsRow b T k (.slice (some ⟨g, 0, none⟩) n c) n L → (w.setCells g o vs).ownsRow b T k (.slice (some ⟨g, 0, none⟩) n c) n (setsAt L o vs) ∧ w.grownBy (w.setCells g o vs) (some g) := by
 induction vs with
 | nil => intro w L o h; exact ⟨h, rfl, rfl, rfl, Nat.le_refl _, fun _ _ _ => rfl⟩
 | cons v vs ih =>
  intro w L o h
  obtain ⟨h1, g1⟩ := h.stored o v
  obtain ⟨h2, g2⟩ := ih (o := o + 1) h1
  refine ⟨h2, ?_⟩
  exact ⟨g2.os.trans g1.os, g2.tape.trans g1.tape, g2.output.trans g1.output, Nat.le_trans g1.size g2.size, fun k hk hn => (g2.block k (Nat.lt_of_lt_of_le hk g1.size) hn).trans (g1.block k hk hn)⟩
theorem Row.range (h : Row T k f b g n c w xs) (hf : ∀ x, (f x).length = k) {i : Nat} {x : α} (hi : xs[i]? = some x) : w.rangeAt g (i * k) (f x) := fun j v hv => by
 have hl := flat_get hf hi hv
 rw [h.own.cellAt (i * k + j) (by rw [← h.len, ← flat_size hf]; exact (List.getElem?_eq_some_iff.1 hl).1)]
 exact hl
theorem Row.there (h : Row T k f b g n c w xs) (hf : ∀ x, (f x).length = k) {i : Nat} (hi : i < n) : w.there g (i * k) k := fun j hj => by
 obtain ⟨x, hx⟩ : ∃ x, xs[i]? = some x := ⟨xs[i]'(by rw [h.len]; exact hi), List.getElem?_eq_getElem _⟩
 obtain ⟨v, hv⟩ : ∃ v, (f x)[j]? = some v := ⟨(f x)[j]'(by rw [hf]; exact hj), List.getElem?_eq_getElem _⟩
 exact ⟨by rw [h.range hf hx j v hv]; rfl, h.own.frozenAt _⟩
theorem Row.set (h : Row T k f b g n c w xs) (hf : ∀ x, (f x).length = k) {i : Nat} (y : α) (hi : i < n) : Row T k f b g n c (w.setCells g (i * k) (f y)) (xs.set i y) ∧ w.grownBy (w.setCells g (i * k) (f y)) (some g) := by
 obtain ⟨h1, h2⟩ := own_sets (f y) (o := i * k) h.own
 rw [← flat_set hf xs i y (by rw [h.len]; exact hi)] at h1
 exact ⟨⟨by rw [List.length_set]; exact h.len, h1⟩, h2⟩
theorem Row.below (h : Row T k f b g n c w xs) (hb : Below w.heap.size w w') : Row T k f b g n c w' xs := ⟨h.len, own_below h.own hb⟩
theorem Row.drew (h : Row T k f b g n c w xs) : Row T k f b g n c w.drew xs := ⟨h.len, h.own⟩
theorem Row.drewN (h : Row T k f b g n c w xs) (q : Nat) : Row T k f b g n c (w.drewN q) xs := ⟨h.len, h.own⟩
theorem gt_trans {w v u : World} {g : Nat} (h : w.grownBy v (some g)) (k : v.grownBy u (some g)) : w.grownBy u (some g) :=
 ⟨k.os.trans h.os, k.tape.trans h.tape, k.output.trans h.output, Nat.le_trans h.size k.size, fun b hb hn => (k.block b (Nat.lt_of_lt_of_le hb h.size) hn).trans (h.block b hb hn)⟩
theorem gt_undrew {w v : World} {g : Nat} (h : w.drew.grownBy v (some g)) : w.grownBy v (some g) := ⟨h.os, h.tape, h.output, h.size, h.block⟩
theorem Row.two (h : Row T k f b g n c w xs) (hf : ∀ x, (f x).length = k) {i j : Nat} (x y : α) (hi : i < n) (hj : j < n) : Row T k f b g n c ((w.drew.setCells g (i * k) (f y)).setCells g (j * k) (f x)) ((xs.set i y).set j x) ∧ w.grownBy ((w.drew.setCells g (i * k) (f y)).setCells g (j * k) (f x)) (some g) := by
 obtain ⟨h1, g1⟩ := h.drew.set hf y hi
 obtain ⟨h2, g2⟩ := h1.set hf x hj
 exact ⟨h2, gt_undrew (gt_trans g1 g2)⟩
end
section
variable {P : Program} {md : Region.Mode} {ops : Array Oper} {Q : Exit → Act → World → Prop} {S : World → Prop} {oi : Oper} {fuel : Nat} {listed : Array Bool} {a : Act} {w : World}
theorem tst (i : Nat) (b o : Nat) (cs : List Value) {ty : TypeId} {x y : Operand} (hi : ops[i]? = some oi) (ho : oi.op = .store ty x y) (hx : a.eval x = .pointer (some ⟨b, o, none⟩)) (hy : a.eval y = .agg cs.toArray) (ht : w.there b o cs.length)
  (hn : (P.info? ty).map (·.size) = some cs.length) (h1 : ∀ v ∈ cs, v.oneCell' = true) (hS : S (w.setCells b o cs)) (h : S (w.setCells b o cs) → wpAnyH P md ops Q S fuel (listed.setIfInBounds i true) (a.put oi.dst undef) (w.setCells b o cs))
  (hr : Region.ready md ops listed = [i] := by kernel_rfl) (hw : Region.wanted oi (yielded ops a.tmps) = true := by kernel_rfl) : wpAnyH P md ops Q S (fuel + 1) listed a w := by
 refine wpAnyH_ready hr (by simp) (AllReadyH.cons hi (fun K hK => ?_) AllReadyH.nil)
 rw [if_pos hw]
 refine wp_store_mid ty x y ho b o cs.toArray hx hy (by simpa using ht) (by simpa using hn) (all_oneCell_toArray h1) ?_
 have e : cs.toArray.toList = cs := by simp
 rw [e]
 exact hK.out _ _ hS h
end
end Go.Proofs.YtjejmlpjifhmmaaGreatDoor.sorts

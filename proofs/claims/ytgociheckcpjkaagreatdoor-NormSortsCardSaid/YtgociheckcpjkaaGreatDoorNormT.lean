/- NormT -/
import Derived.Test.YtgociheckcpjkaaGreatDoorSortP
import Derived.Test.YtgociheckcpjkaaGreatDoorRef
import Derived.Test.YtgociheckcpjkaaGreatDoorNormXs
import Derived.Test.YtgociheckcpjkaaGreatDoorNormX
import Derived.Test.YtgociheckcpjkaaGreatDoorNormK
namespace Go.Proofs.YtgociheckcpjkaaGreatDoor.prg
open Go.RowKit
open words kindp opp op kind sorts
set_option linter.all false
theorem ltT_asymm {a b : Tx} (h : ltT a b = true) : ltT b a = false := by
 unfold ltT at *
 have h' := of_decide_eq_true h
 exact decide_eq_false (fun k => List.lt_irrefl a (List.lt_trans h' k))
theorem ltT_split {a b c : Tx} (h : ltT a c = true) : ltT a b = true ∨ ltT b c = true := by
 unfold ltT at *
 have h' := of_decide_eq_true h
 by_cases k : a < b
 ·exact .inl (decide_eq_true k)
 ·exact .inr (decide_eq_true (List.lt_of_le_of_lt (List.not_lt.1 k) h'))
theorem ltT_eq {a b : Tx} (h : ltT a b = false) (k : ltT b a = false) : a = b := by
 unfold ltT at *
 exact List.le_antisymm (List.not_lt.1 (of_decide_eq_false k)) (List.not_lt.1 (of_decide_eq_false h))
theorem swo_text : Swo ltT := ⟨fun _ _ h => ltT_asymm h, fun _ _ _ h => ltT_split h⟩
theorem swo_fi : Swo ltF := ⟨fun _ _ h => ltT_asymm h, fun _ _ _ h => ltT_split h⟩
theorem swo_cl : Swo ltC := ⟨fun _ _ h => ltT_asymm h, fun _ _ _ h => ltT_split h⟩
theorem swo_me : Swo ltM := by
 refine ⟨fun a b h => ?_, fun a b c h => ?_⟩
 ·unfold ltM at *
  cases h1 : ltT a.nm b.nm with
  | true => rw [ltT_asymm h1]; have e : (b.nm == a.nm) = false := by
              cases e : (b.nm == a.nm) with
              | false => rfl
              | true => rw [eq_of_beq e, swo_text.irr] at h1; cases h1
            rw [e]; rfl
  | false =>
   rw [h1, Bool.false_or, Bool.and_eq_true] at h
   rw [← eq_of_beq h.1, swo_text.irr, ltT_asymm h.2]; simp
 ·unfold ltM at *
  cases h1 : ltT a.nm c.nm with
  | true =>
   rcases ltT_split (b := b.nm) h1 with h2 | h2
   ·left; rw [h2]; rfl
   ·right; rw [h2]; rfl
  | false =>
   rw [h1, Bool.false_or, Bool.and_eq_true] at h
   have e := eq_of_beq h.1
   cases h2 : ltT a.nm b.nm with
   | true => left; rfl
   | false =>
    cases h3 : ltT b.nm a.nm with
    | true => right; rw [← e, h3]; rfl
    | false =>
     have e2 := ltT_eq h2 h3
     rcases ltT_split (b := b.ds) h.2 with h4 | h4
     ·left; rw [e2, h4]; simp
     ·right; rw [← e, e2, h4]; simp
end Go.Proofs.YtgociheckcpjkaaGreatDoor.prg
namespace Go.Proofs.YtgociheckcpjkaaGreatDoor.sorts
open Go.RowKit
open words
set_option linter.all false
variable {α : Type}
theorem asc_ge {lt : α → α → Bool} (h : Swo lt) {l : List α} (hl : Asc lt l) {i j : Nat} {x y : α} (hi : l[i]? = some x) (hj : l[j]? = some y) (hij : i ≤ j) : lt y x = false := by
 rcases Nat.lt_or_eq_of_le hij with h1 | h1
 ·have hil := (List.getElem?_eq_some_iff.1 hi).1
  have hjl := (List.getElem?_eq_some_iff.1 hj).1
  have k := List.pairwise_iff_getElem.1 hl i j hil hjl h1
  rw [(List.getElem?_eq_some_iff.1 hi).2, (List.getElem?_eq_some_iff.1 hj).2] at k
  exact k
 ·subst h1; rw [hi] at hj; cases hj; exact h.irr _
theorem sym_split {lt : α → α → Bool} (h : Swo lt) (L R : List α) (hL : Asc lt L) (hR : Asc lt R) (u v : Nat) (hu : u ≤ L.length) (hv : v ≤ R.length)
  (h1 : u = 0 ∨ v = R.length ∨ ∃ x y, L[u - 1]? = some x ∧ R[v]? = some y ∧ lt y x = false)
  (h2 : u = L.length ∨ v = 0 ∨ ∃ x y, L[u]? = some x ∧ R[v - 1]? = some y ∧ lt y x = true) :
  mrg lt L R = mrg lt (L.take u) (R.take v) ++ mrg lt (L.drop u) (R.drop v) := by
 conv => lhs; rw [← List.take_append_drop u L, ← List.take_append_drop v R]
 refine mrg_split _ _ _ _ (fun r hr l hl => ?_) (fun l hl r hr => ?_)
 ·obtain ⟨a, ha⟩ := List.mem_iff_getElem?.1 hr
  obtain ⟨b, hb⟩ := List.mem_iff_getElem?.1 hl
  have hal := (List.getElem?_eq_some_iff.1 ha).1
  have hbl := (List.getElem?_eq_some_iff.1 hb).1
  rw [List.length_take] at hal
  rw [List.length_drop] at hbl
  rw [List.getElem?_take_of_lt (by omega)] at ha
  rw [List.getElem?_drop] at hb
  rcases h2 with h2 | h2 | ⟨x, y, hx, hy, hxy⟩
  ·omega
  ·omega
  ·exact h.le_lt (asc_ge h hR ha hy (by omega)) (h.lt_le hxy (asc_ge h hL hx hb (by omega)))
 ·obtain ⟨b, hb⟩ := List.mem_iff_getElem?.1 hr
  obtain ⟨a, ha⟩ := List.mem_iff_getElem?.1 hl
  have hal := (List.getElem?_eq_some_iff.1 ha).1
  have hbl := (List.getElem?_eq_some_iff.1 hb).1
  rw [List.length_take] at hal
  rw [List.length_drop] at hbl
  rw [List.getElem?_take_of_lt (by omega)] at ha
  rw [List.getElem?_drop] at hb
  rcases h1 with h1 | h1 | ⟨x, y, hx, hy, hxy⟩
  ·omega
  ·omega
  ·exact h.le (h.le (asc_ge h hL ha hx (by omega)) hxy) (asc_ge h hR hy hb (by omega))
theorem mrg_none {lt : α → α → Bool} {L R : List α} (h : L.length = 0 ∨ R.length = 0) : mrg lt L R = L ++ R := by
 rcases h with h | h
 ·rw [List.length_eq_zero_iff.1 h, nil_mrg]; rfl
 ·rw [List.length_eq_zero_iff.1 h, mrg_nil, List.append_nil]
theorem app_none {L R : List α} (h : L.length = 0 ∨ R.length = 0) : L ++ R = R ++ L := by
 rcases h with h | h <;> rw [List.length_eq_zero_iff.1 h] <;> simp
theorem chunk_next (lt : α → α → Bool) {s : Nat} (hs : 0 < s) (q a : Nat) (X : List α) (ha : a = q * s) (hl : a ≤ X.length) : chunked lt s (X.take (a + s)) = chunked lt s (X.take a) ++ sortS lt ((X.drop a).take s) := by
 rw [List.take_add, chunked_app lt hs q _ _ (by rw [List.length_take]; omega), chunked_short lt hs ((X.drop a).take s) (by rw [List.length_take]; omega)]
theorem chunk_end (lt : α → α → Bool) {s : Nat} (hs : 0 < s) (q a : Nat) (X : List α) (ha : a = q * s) (hl : a ≤ X.length) (hX : X.length ≤ a + s) : chunked lt s (X.take a) ++ sortS lt (X.drop a) = chunked lt s X := by
 conv => rhs; rw [← List.take_append_drop a X]
 rw [chunked_app lt hs q _ _ (by rw [List.length_take]; omega), chunked_short lt hs (X.drop a) (by rw [List.length_drop]; omega)]
theorem chunk_pair {lt : α → α → Bool} (h : Swo lt) {s : Nat} (hs : 0 < s) (q a : Nat) (X : List α) (ha : a = q * (2 * s)) (hl : a ≤ X.length) : ∃ x y z, chunked lt s (X.drop a) = x ++ (y ++ z) ∧ Asc lt x ∧ Asc lt y ∧ x.length = min s (X.length - a) ∧ y.length = min s (X.length - a - s) ∧ z = chunked lt s (X.drop (a + 2 * s)) ∧
  chunked lt (2 * s) (X.take a) ++ mrg lt x y = chunked lt (2 * s) (X.take (a + 2 * s)) := by
 obtain ⟨x, y, z, h1, h2, h3, h4, h5⟩ := chunked_two h hs (X.drop a)
 refine ⟨x, y, z, by rw [h1, List.append_assoc], by rw [h2]; exact asc_sortS h _, by rw [h3]; exact asc_sortS h _, ?_, ?_, by rw [h4, List.drop_drop], ?_⟩
 ·rw [h2, sortS_length, List.length_take, List.length_drop]
 ·rw [h3, sortS_length, List.length_take, List.length_drop, List.length_drop]
 ·rw [h5, chunk_next lt (by omega) q a X ha hl]
end Go.Proofs.YtgociheckcpjkaaGreatDoor.sorts
namespace Go.Proofs.YtgociheckcpjkaaGreatDoor.prg
open Go.RowKit
open words kindp opp op kind word keep sorts
set_option linter.all false
theorem mrg_perm {α : Type} (lt : α → α → Bool) (l r : List α) : (mrg lt l r).Perm (l ++ r) := by
 fun_induction mrg lt l r with
 | case1 r => exact List.Perm.refl _
 | case2 a l => simp
 | case3 a l b r h ih => exact (ih.cons b).trans (List.perm_middle (l₁ := a :: l) (l₂ := r) (a := b)).symm
 | case4 a l b r h ih => exact ih.cons a
theorem sort_perm {α : Type} (lt : α → α → Bool) (l : List α) : (sortS lt l).Perm l := by
 induction l using snoc_rec with
 | h0 => exact List.Perm.refl _
 | h1 l x ih => rw [sortS_snoc]; exact (mrg_perm lt _ _).trans (ih.append_right [x])
theorem asc_one_way {α : Type} {lt : α → α → Bool} (h : Swo lt) (ha : ∀ a b, lt a b = false → lt b a = false → a = b) : ∀ {l r : List α}, l.Perm r → Asc lt l → Asc lt r → l = r
 | [], r, hp, _, _ => (List.Perm.nil_eq hp)
 | a :: l, r, hp, hl, hr => by
  have har : a ∈ r := hp.subset (List.mem_cons_self ..)
  cases r with
  | nil => cases har
  | cons b r =>
   have hbl : b ∈ a :: l := hp.symm.subset (List.mem_cons_self ..)
   have e : a = b := ha a b (asc_first h hr a har) (asc_first h hl b hbl)
   subst e
   rw [asc_one_way h ha (List.Perm.cons_inv hp) (List.pairwise_cons.1 hl).2 (List.pairwise_cons.1 hr).2]
def sortC (c : ClM) : ClM := { c with is := sortS ltT c.is, fs := sortS ltF c.fs, ms := sortS ltM c.ms }
theorem own_ne {w w' : World} {b e size n c g : Nat} {A : Option Addr} {xs : List Value} (h : w.ownsRow b e size (.slice A n c) n xs) (hne : ∀ q, A = some q → q.block ≠ g) (k : w.grownBy w' (some g)) : w'.ownsRow b e size (.slice A n c) n xs := by
 rcases h.2 with hn | ⟨g', cap, cur, hv, hb, hg, rest⟩
 ·exact ⟨h.1, .inl hn⟩
 ·have hA : A = some ⟨g', 0, none⟩ := by simp only [Value.slice.injEq] at hv; exact hv.1
  exact ⟨h.1, .inr ⟨g', cap, cur, hv, hb, (k.block g' (blk_lt hg) (by intro e; cases e; exact hne _ hA rfl)).trans hg, rest⟩⟩
theorem ne_type {w : World} {b e size n c g T : Nat} {A : Option Addr} {xs : List Value} {cur : Array Value} {fz : Nat × Nat} (h : w.ownsRow b e size (.slice A n c) n xs) (hg : w.heap[g]? = some (.cells cur T fz)) (hT : e ≠ T) : ∀ q, A = some q → q.block ≠ g := by
 intro q hq
 rcases h.2 with ⟨hn, _⟩ | ⟨g', cap, cur', hv, hb, hg', rest⟩
 ·simp only [Value.slice.injEq] at hn; rw [hn.1] at hq; cases hq
 ·simp only [Value.slice.injEq] at hv
  rw [hv.1] at hq; cases hq
  intro e'
  rw [show (⟨g', 0, none⟩ : Addr).block = g' from rfl] at e'
  subst e'
  rw [hg'] at hg
  simp only [Option.some.injEq, Obj.cells.injEq] at hg
  exact hT hg.2.1
theorem OwM.ne {w w' : World} {b g T : Nat} {m : MeM} {cur : Array Value} {fz : Nat × Nat} (h : OwM b w m) (hg : w.heap[g]? = some (.cells cur T fz)) (h1 : 42 ≠ T) (h2 : 3 ≠ T) (k : w.grownBy w' (some g)) : OwM b w' m :=
 ⟨own_ne h.1 (ne_type h.1 hg h1) k, fun y hy => own_ne (h.2 y hy) (ne_type (h.2 y hy) hg h2) k⟩
theorem OwC.ne {w w' : World} {b g T : Nat} {c : ClM} {cur : Array Value} {fz : Nat × Nat} (h : OwC b w c) (hg : w.heap[g]? = some (.cells cur T fz)) (h1 : 42 ≠ T) (h2 : 3 ≠ T)
  (k1 : ∀ q, c.A1 = some q → q.block ≠ g) (k2 : ∀ q, c.A2 = some q → q.block ≠ g) (k3 : ∀ q, c.A3 = some q → q.block ≠ g) (k : w.grownBy w' (some g)) : OwC b w' c :=
 ⟨own_ne h.1 k1 k, own_ne h.2.1 k2 k, own_ne h.2.2.1 k3 k, fun m hm => (h.2.2.2 m hm).ne hg h1 h2 k⟩
def ApL (L : List ClM) : Prop := ∀ (i j : Nat) (a b : ClM), i ≠ j → L[i]? = some a → L[j]? = some b → ApC a b
theorem ApC.symm {a b : ClM} (h : ApC a b) : ApC b a := fun p q => ⟨fun k1 k2 e => (h q p).1 k2 k1 e.symm, fun k1 k2 e => (h q p).2.1 k2 k1 e.symm, fun k1 k2 e => (h q p).2.2 k2 k1 e.symm⟩
theorem apL_of {L : List ClM} (h : L.Pairwise ApC) : ApL L := fun i j a b hij ha hb => by
 obtain ⟨hi, ei⟩ := List.getElem?_eq_some_iff.1 ha
 obtain ⟨hj, ej⟩ := List.getElem?_eq_some_iff.1 hb
 rcases Nat.lt_or_gt_of_ne hij with k | k
 ·have := List.pairwise_iff_getElem.1 h i j hi hj k; rw [ei, ej] at this; exact this
 ·have := List.pairwise_iff_getElem.1 h j i hj hi k; rw [ei, ej] at this; exact this.symm
def St (b : Nat) (w : World) (L : List ClM) : Prop := (∀ y ∈ L, OwC b w y) ∧ ApL L
theorem St.perm {b : Nat} {w : World} {L L' : List ClM} (h : ∀ y ∈ L, OwC b w y) (hp : L.Pairwise ApC) (k : L'.Perm L) : St b w L' :=
 ⟨fun y hy => h y (k.subset hy), apL_of (List.Perm.pairwise k.symm hp (fun h => h.symm))⟩
theorem St.row {b g T : Nat} {w w' : World} {L : List ClM} {cur : Array Value} {fz : Nat × Nat} (h : St b w L) (hg : w.heap[g]? = some (.cells cur T fz))
  (h1 : 42 ≠ T) (h2 : 3 ≠ T) (h3 : 9 ≠ T) (h4 : 58 ≠ T) (h5 : 38 ≠ T) (k : w.grownBy w' (some g)) : St b w' L :=
 ⟨fun y hy => (h.1 y hy).ne hg h1 h2 (ne_type (h.1 y hy).1 hg h3) (ne_type (h.1 y hy).2.1 hg h4) (ne_type (h.1 y hy).2.2.1 hg h5) k, h.2⟩
theorem set_cases {L : List ClM} {k : Nat} {c1 y : ClM} (hy : y ∈ L.set k c1) : y = c1 ∨ ∃ j, j ≠ k ∧ L[j]? = some y := by
 obtain ⟨j, hj⟩ := List.mem_iff_getElem?.1 hy
 rw [List.getElem?_set] at hj
 split at hj
 ·rename_i e
  split at hj
  ·cases hj; exact .inl rfl
  ·cases hj
 ·rename_i e; exact .inr ⟨j, fun h => e h.symm, hj⟩
theorem apL_set {L : List ClM} {k : Nat} {c c1 : ClM} (h : ApL L) (hc : L[k]? = some c) (e1 : c1.A1 = c.A1) (e2 : c1.A2 = c.A2) (e3 : c1.A3 = c.A3) : ApL (L.set k c1) := by
 have key : ∀ (i : Nat) (a : ClM), (L.set k c1)[i]? = some a → ∃ a' : ClM, L[i]? = some a' ∧ a.A1 = a'.A1 ∧ a.A2 = a'.A2 ∧ a.A3 = a'.A3 := fun i a ha => by
  rw [List.getElem?_set] at ha
  split at ha
  ·rename_i e
   subst e
   split at ha
   ·cases ha; exact ⟨c, hc, e1, e2, e3⟩
   ·cases ha
  ·exact ⟨a, ha, rfl, rfl, rfl⟩
 intro i j a b hij ha hb
 obtain ⟨a', h1, a1, a2, a3⟩ := key i a ha
 obtain ⟨b', h2, b1, b2, b3⟩ := key j b hb
 have := h i j a' b' hij h1 h2
 intro p q
 rw [a1, a2, a3, b1, b2, b3]
 exact this p q
section
variable {b g k : Nat} {w w' : World} {L : List ClM} {c : ClM}
theorem St.is (h : St b w L) (hc : L[k]? = some c) (hA : c.A1 = some ⟨g, 0, none⟩) (s : List Tx) (hs : s.length = c.is.length) (hg : ∃ cur fz, w.heap[g]? = some (.cells cur 9 fz)) (gb : w.grownBy w' (some g))
  (ho : w'.ownsRow b 9 1 (.slice c.A1 c.is.length c.c1) c.is.length (SX s)) : St b w' (L.set k { c with is := s }) := by
 obtain ⟨cur, fz, hg⟩ := hg
 have hcm := h.1 c (List.mem_of_getElem? hc)
 refine ⟨fun y hy => ?_, apL_set h.2 hc rfl rfl rfl⟩
 rcases set_cases hy with rfl | ⟨j, hj, hyj⟩
 ·refine ⟨by dsimp only; rw [hs]; exact ho, own_ne hcm.2.1 (ne_type hcm.2.1 hg (by decide)) gb, own_ne hcm.2.2.1 (ne_type hcm.2.2.1 hg (by decide)) gb, fun m hm => (hcm.2.2.2 m hm).ne hg (by decide) (by decide) gb⟩
 ·have hym := h.1 y (List.mem_of_getElem? hyj)
  exact hym.ne hg (by decide) (by decide) (fun q hq => (h.2 j k y c hj hyj hc q ⟨g, 0, none⟩).1 hq hA) (ne_type hym.2.1 hg (by decide)) (ne_type hym.2.2.1 hg (by decide)) gb
theorem St.fs (h : St b w L) (hc : L[k]? = some c) (hA : c.A2 = some ⟨g, 0, none⟩) (s : List FiM) (hs : s.length = c.fs.length) (hg : ∃ cur fz, w.heap[g]? = some (.cells cur 58 fz)) (gb : w.grownBy w' (some g))
  (ho : w'.ownsRow b 58 4 (.slice c.A2 c.fs.length c.c2) c.fs.length (s.flatMap fiC)) : St b w' (L.set k { c with fs := s }) := by
 obtain ⟨cur, fz, hg⟩ := hg
 have hcm := h.1 c (List.mem_of_getElem? hc)
 refine ⟨fun y hy => ?_, apL_set h.2 hc rfl rfl rfl⟩
 rcases set_cases hy with rfl | ⟨j, hj, hyj⟩
 ·refine ⟨own_ne hcm.1 (ne_type hcm.1 hg (by decide)) gb, by dsimp only; rw [hs]; exact ho, own_ne hcm.2.2.1 (ne_type hcm.2.2.1 hg (by decide)) gb, fun m hm => (hcm.2.2.2 m hm).ne hg (by decide) (by decide) gb⟩
 ·have hym := h.1 y (List.mem_of_getElem? hyj)
  exact hym.ne hg (by decide) (by decide) (ne_type hym.1 hg (by decide)) (fun q hq => (h.2 j k y c hj hyj hc q ⟨g, 0, none⟩).2.1 hq hA) (ne_type hym.2.2.1 hg (by decide)) gb
theorem St.ms (h : St b w L) (hc : L[k]? = some c) (hA : c.A3 = some ⟨g, 0, none⟩) (s : List MeM) (hs : s.length = c.ms.length) (hm : ∀ m ∈ s, m ∈ c.ms) (hg : ∃ cur fz, w.heap[g]? = some (.cells cur 38 fz)) (gb : w.grownBy w' (some g))
  (ho : w'.ownsRow b 38 6 (.slice c.A3 c.ms.length c.c3) c.ms.length (s.flatMap meC)) : St b w' (L.set k { c with ms := s }) := by
 obtain ⟨cur, fz, hg⟩ := hg
 have hcm := h.1 c (List.mem_of_getElem? hc)
 refine ⟨fun y hy => ?_, apL_set h.2 hc rfl rfl rfl⟩
 rcases set_cases hy with rfl | ⟨j, hj, hyj⟩
 ·refine ⟨own_ne hcm.1 (ne_type hcm.1 hg (by decide)) gb, own_ne hcm.2.1 (ne_type hcm.2.1 hg (by decide)) gb, by dsimp only; rw [hs]; exact ho, fun m hm' => (hcm.2.2.2 m (hm m hm')).ne hg (by decide) (by decide) gb⟩
 ·have hym := h.1 y (List.mem_of_getElem? hyj)
  exact hym.ne hg (by decide) (by decide) (ne_type hym.1 hg (by decide)) (ne_type hym.2.1 hg (by decide)) (fun q hq => (h.2 j k y c hj hyj hc q ⟨g, 0, none⟩).2.2 hq hA) gb
end
end Go.Proofs.YtgociheckcpjkaaGreatDoor.prg
namespace Go.Proofs.YtgociheckcpjkaaGreatDoor.prg
open Go.RowKit
open words kindp opp op kind word
set_option maxRecDepth 100000
set_option maxHeartbeats 1000000
set_option linter.all false
theorem gb_at {w w' : World} {g b : Nat} {o : Obj} (h : w.grownBy w' (some g)) (hb : w.heap[b]? = some o) (hne : b ≠ g) : w'.heap[b]? = some o := (h.block b (blk_lt hb) (by intro e; cases e; exact hne rfl)).trans hb
theorem stable_cl (A : Option Addr) (n c : Nat) (w : World) (Q : World → Prop) (hn : n < 20) (HI : Calls Tryz.prog 87 #[.slice A n c, .int .i64 0, .int .i64 (n : Int), .func (.func 19) #[] #[]] w fun e w' => e = .returned (.tuple #[]) ∧ Q w') :
  Calls Tryz.prog 59 #[.slice A n c, .int .i64 (n : Int), .func (.func 19) #[] #[]] w fun e w' => e = .returned (.tuple #[]) ∧ Q w' := by
 have HII := hh HI
 have h1 : ¬ (20 : Int) ≤ (n : Int) := by omega
 have h2 : ¬ (20 : Int) < (n : Int) := by omega
 clear HI
 go_enter Tryz.func59, Tryz.ntmps59
 go_wp2
 go_loopw [7, 8] (fun a b wr => a = .int .i64 0 ∧ b = .int .i64 20 ∧ Hid (wr = w)) (fun _ _ _ => 0)
 case atStart => exact ⟨rfl, rfl, hh rfl⟩
 case round =>
  obtain ⟨rfl, rfl, hw⟩ := hrel
  have hw' := hw.out
  subst hw'
  clear hw
  go_wp2_with fail
  refine HII.out.mono ?_
  rintro e v ⟨rfl, hq⟩
  have HQ := hh hq
  clear hq HII
  go_wp2
  go_loopw [6] (fun a wr => a = .int .i64 20 ∧ Hid (wr = v)) (fun _ _ => 0)
  case atStart => exact ⟨rfl, hh rfl⟩
  case round =>
   obtain ⟨rfl, hw⟩ := hrel
   have hw' := hw.out
   subst hw'
   clear hw
   go_wp2
   refine bodyPost_end (v := .tuple #[]) (by simp [results, Tryz.results59, go_sem]) rfl ?_
   exact ⟨rfl, HQ.out⟩
theorem sorted_cl (A : Option Addr) (n c : Nat) (w : World) (Q : World → Prop) (hn : n < 20) (HI : Calls Tryz.prog 87 #[.slice A n c, .int .i64 0, .int .i64 (n : Int), .func (.func 19) #[] #[]] w fun e w' => e = .returned (.tuple #[]) ∧ Q w') :
  Calls Tryz.prog 18 #[.slice A n c, .func (.func 19) #[] #[]] w fun e w' => e = .returned (.tuple #[]) ∧ Q w' := by
 have HII := hh (stable_cl A n c w Q hn HI)
 clear HI
 go_enter Tryz.func18, Tryz.ntmps18
 go_wp2_with fail
 refine HII.out.mono ?_
 rintro e v ⟨rfl, hq⟩
 have HQ := hh hq
 clear hq HII
 go_wp2
 refine bodyPost_end (v := .tuple #[]) (by simp [results, Tryz.results18, go_sem]) rfl ?_
 exact ⟨rfl, HQ.out⟩
theorem ins_none_cl (A : Option Addr) (c : Nat) (w : World) : Calls Tryz.prog 87 #[.slice A 0 c, .int .i64 0, .int .i64 ((0 : Nat) : Int), .func (.func 19) #[] #[]] w fun e w' => e = .returned (.tuple #[]) ∧ Below w.heap.size w w' := by
 go_enter Tryz.func87, Tryz.ntmps87
 go_wp2
 go_loopw [8] (fun i wr => i = .int .i64 1 ∧ Below w.heap.size w wr) (fun _ _ => 0)
 case atStart => exact ⟨rfl, Below.refl _ _⟩
 case round =>
  obtain ⟨rfl, hb⟩ := hrel
  go_wp2
  refine bodyPost_end (v := .tuple #[]) (by simp [results, Tryz.results87, go_sem]) rfl ?_
  exact ⟨rfl, hb⟩
theorem stable_fi (A : Option Addr) (n c : Nat) (w : World) (Q : World → Prop) (hn : n < 20) (HI : Calls Tryz.prog 100 #[.slice A n c, .int .i64 0, .int .i64 (n : Int), .func (.func 22) #[] #[]] w fun e w' => e = .returned (.tuple #[]) ∧ Q w') :
  Calls Tryz.prog 62 #[.slice A n c, .int .i64 (n : Int), .func (.func 22) #[] #[]] w fun e w' => e = .returned (.tuple #[]) ∧ Q w' := by
 have HII := hh HI
 have h1 : ¬ (20 : Int) ≤ (n : Int) := by omega
 have h2 : ¬ (20 : Int) < (n : Int) := by omega
 clear HI
 go_enter Tryz.func62, Tryz.ntmps62
 go_wp2
 go_loopw [7, 8] (fun a b wr => a = .int .i64 0 ∧ b = .int .i64 20 ∧ Hid (wr = w)) (fun _ _ _ => 0)
 case atStart => exact ⟨rfl, rfl, hh rfl⟩
 case round =>
  obtain ⟨rfl, rfl, hw⟩ := hrel
  have hw' := hw.out
  subst hw'
  clear hw
  go_wp2_with fail
  refine HII.out.mono ?_
  rintro e v ⟨rfl, hq⟩
  have HQ := hh hq
  clear hq HII
  go_wp2
  go_loopw [6] (fun a wr => a = .int .i64 20 ∧ Hid (wr = v)) (fun _ _ => 0)
  case atStart => exact ⟨rfl, hh rfl⟩
  case round =>
   obtain ⟨rfl, hw⟩ := hrel
   have hw' := hw.out
   subst hw'
   clear hw
   go_wp2
   refine bodyPost_end (v := .tuple #[]) (by simp [results, Tryz.results62, go_sem]) rfl ?_
   exact ⟨rfl, HQ.out⟩
theorem sorted_fi (A : Option Addr) (n c : Nat) (w : World) (Q : World → Prop) (hn : n < 20) (HI : Calls Tryz.prog 100 #[.slice A n c, .int .i64 0, .int .i64 (n : Int), .func (.func 22) #[] #[]] w fun e w' => e = .returned (.tuple #[]) ∧ Q w') :
  Calls Tryz.prog 21 #[.slice A n c, .func (.func 22) #[] #[]] w fun e w' => e = .returned (.tuple #[]) ∧ Q w' := by
 have HII := hh (stable_fi A n c w Q hn HI)
 clear HI
 go_enter Tryz.func21, Tryz.ntmps21
 go_wp2_with fail
 refine HII.out.mono ?_
 rintro e v ⟨rfl, hq⟩
 have HQ := hh hq
 clear hq HII
 go_wp2
 refine bodyPost_end (v := .tuple #[]) (by simp [results, Tryz.results21, go_sem]) rfl ?_
 exact ⟨rfl, HQ.out⟩
theorem ins_none_fi (A : Option Addr) (c : Nat) (w : World) : Calls Tryz.prog 100 #[.slice A 0 c, .int .i64 0, .int .i64 ((0 : Nat) : Int), .func (.func 22) #[] #[]] w fun e w' => e = .returned (.tuple #[]) ∧ Below w.heap.size w w' := by
 go_enter Tryz.func100, Tryz.ntmps100
 go_wp2
 go_loopw [8] (fun i wr => i = .int .i64 1 ∧ Below w.heap.size w wr) (fun _ _ => 0)
 case atStart => exact ⟨rfl, Below.refl _ _⟩
 case round =>
  obtain ⟨rfl, hb⟩ := hrel
  go_wp2
  refine bodyPost_end (v := .tuple #[]) (by simp [results, Tryz.results100, go_sem]) rfl ?_
  exact ⟨rfl, hb⟩
theorem stable_me (A : Option Addr) (n c : Nat) (w : World) (Q : World → Prop) (hn : n < 20) (HI : Calls Tryz.prog 102 #[.slice A n c, .int .i64 0, .int .i64 (n : Int), .func (.func 24) #[] #[]] w fun e w' => e = .returned (.tuple #[]) ∧ Q w') :
  Calls Tryz.prog 63 #[.slice A n c, .int .i64 (n : Int), .func (.func 24) #[] #[]] w fun e w' => e = .returned (.tuple #[]) ∧ Q w' := by
 have HII := hh HI
 have h1 : ¬ (20 : Int) ≤ (n : Int) := by omega
 have h2 : ¬ (20 : Int) < (n : Int) := by omega
 clear HI
 go_enter Tryz.func63, Tryz.ntmps63
 go_wp2
 go_loopw [7, 8] (fun a b wr => a = .int .i64 0 ∧ b = .int .i64 20 ∧ Hid (wr = w)) (fun _ _ _ => 0)
 case atStart => exact ⟨rfl, rfl, hh rfl⟩
 case round =>
  obtain ⟨rfl, rfl, hw⟩ := hrel
  have hw' := hw.out
  subst hw'
  clear hw
  go_wp2_with fail
  refine HII.out.mono ?_
  rintro e v ⟨rfl, hq⟩
  have HQ := hh hq
  clear hq HII
  go_wp2
  go_loopw [6] (fun a wr => a = .int .i64 20 ∧ Hid (wr = v)) (fun _ _ => 0)
  case atStart => exact ⟨rfl, hh rfl⟩
  case round =>
   obtain ⟨rfl, hw⟩ := hrel
   have hw' := hw.out
   subst hw'
   clear hw
   go_wp2
   refine bodyPost_end (v := .tuple #[]) (by simp [results, Tryz.results63, go_sem]) rfl ?_
   exact ⟨rfl, HQ.out⟩
theorem sorted_me (A : Option Addr) (n c : Nat) (w : World) (Q : World → Prop) (hn : n < 20) (HI : Calls Tryz.prog 102 #[.slice A n c, .int .i64 0, .int .i64 (n : Int), .func (.func 24) #[] #[]] w fun e w' => e = .returned (.tuple #[]) ∧ Q w') :
  Calls Tryz.prog 23 #[.slice A n c, .func (.func 24) #[] #[]] w fun e w' => e = .returned (.tuple #[]) ∧ Q w' := by
 have HII := hh (stable_me A n c w Q hn HI)
 clear HI
 go_enter Tryz.func23, Tryz.ntmps23
 go_wp2_with fail
 refine HII.out.mono ?_
 rintro e v ⟨rfl, hq⟩
 have HQ := hh hq
 clear hq HII
 go_wp2
 refine bodyPost_end (v := .tuple #[]) (by simp [results, Tryz.results23, go_sem]) rfl ?_
 exact ⟨rfl, HQ.out⟩
theorem ins_none_me (A : Option Addr) (c : Nat) (w : World) : Calls Tryz.prog 102 #[.slice A 0 c, .int .i64 0, .int .i64 ((0 : Nat) : Int), .func (.func 24) #[] #[]] w fun e w' => e = .returned (.tuple #[]) ∧ Below w.heap.size w w' := by
 go_enter Tryz.func102, Tryz.ntmps102
 go_wp2
 go_loopw [8] (fun i wr => i = .int .i64 1 ∧ Below w.heap.size w wr) (fun _ _ => 0)
 case atStart => exact ⟨rfl, Below.refl _ _⟩
 case round =>
  obtain ⟨rfl, hb⟩ := hrel
  go_wp2
  refine bodyPost_end (v := .tuple #[]) (by simp [results, Tryz.results102, go_sem]) rfl ?_
  exact ⟨rfl, hb⟩
end Go.Proofs.YtgociheckcpjkaaGreatDoor.prg
namespace Go.Proofs.YtgociheckcpjkaaGreatDoor.prg
open Go.RowKit
open words kindp opp op kind word
set_option maxRecDepth 100000
set_option maxHeartbeats 1000000
set_option linter.all false
end Go.Proofs.YtgociheckcpjkaaGreatDoor.prg
namespace Go.Proofs.YtgociheckcpjkaaGreatDoor.prg
open Go.RowKit
open words kindp opp op kind word
set_option maxRecDepth 100000
set_option maxHeartbeats 1000000
set_option linter.all false
end Go.Proofs.YtgociheckcpjkaaGreatDoor.prg

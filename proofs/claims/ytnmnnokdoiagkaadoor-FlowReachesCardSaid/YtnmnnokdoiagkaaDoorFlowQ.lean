/-
 Layer 14, of no program: by how few steps places are reached: what tells such a list from all others, and how it comes about.
-/
import Derived.Test.YtnmnnokdoiagkaaDoorFlowP
namespace Go.Proofs.YtnmnnokdoiagkaaDoor.flowp
open kindp opp

def dl (D : List Int) (i : Nat) : Int := (D[i]?).getD (-1)
/-- a list that tells by how few steps each place is reached -/
structure DistOk (l : List In) (D : List Int) : Prop where
 len : D.length = l.length
 z : 0 < l.length → dl D 0 = 0
 ge : ∀ i, -1 ≤ dl D i
 back : ∀ i, 0 ≤ dl D i → i ≠ 0 → ∃ b, 0 ≤ dl D b ∧ dl D i = dl D b + 1 ∧ (i : Int) ∈ onL l (b : Int)
 fwd : ∀ i, 0 ≤ dl D i → ∀ t ∈ onL l (i : Int), 0 ≤ dl D t.toNat ∧ dl D t.toNat ≤ dl D i + 1
theorem dl_at {D : List Int} {i : Nat} {v : Int} (h : D[i]? = some v) : dl D i = v := by unfold dl; rw [h]; rfl
theorem dl_lt {D : List Int} {i : Nat} (h : 0 ≤ dl D i) : i < D.length := by
 rcases Nat.lt_or_ge i D.length with h1 | h1
 ·exact h1
 ·unfold dl at h; rw [List.getElem?_eq_none h1] at h; exact absurd h (by decide)
theorem dl_get {D : List Int} {i : Nat} (h : i < D.length) : D[i]? = some (dl D i) := by
 unfold dl; rw [List.getElem?_eq_getElem h]; rfl
theorem dl_set {D : List Int} {i : Nat} (v : Int) (h : i < D.length) (j : Nat) : dl (D.set i v) j = if i = j then v else dl D j := by
 unfold dl
 rw [List.getElem?_set]
 by_cases e : i = j
 ·subst e; rw [if_pos rfl, if_pos rfl, if_pos h]; rfl
 ·rw [if_neg e, if_neg e]
theorem dist_le {l : List In} {D E : List Int} (hD : DistOk l D) (hE : DistOk l E) : ∀ (d : Nat) (i : Nat), dl D i = (d : Int) → 0 ≤ dl E i ∧ dl E i ≤ (d : Int) := by
 intro d
 induction d with
 | zero =>
  intro i hi
  by_cases h0 : i = 0
  ·subst h0
   have := hE.z (by have := dl_lt (D := D) (i := 0) (by omega); rw [hD.len] at this; exact this)
   omega
  ·obtain ⟨b, h1, h2, -⟩ := hD.back i (by omega) h0
   omega
 | succ d ih =>
  intro i hi
  by_cases h0 : i = 0
  ·subst h0
   have := hE.z (by have := dl_lt (D := D) (i := 0) (by omega); rw [hD.len] at this; exact this)
   omega
  ·obtain ⟨b, h1, h2, h3⟩ := hD.back i (by omega) h0
   obtain ⟨h4, h5⟩ := ih b (by omega)
   have := hE.fwd b h4 _ h3
   rw [Int.toNat_natCast] at this
   omega
theorem dist_unique {l : List In} {D E : List Int} (hD : DistOk l D) (hE : DistOk l E) : D = E := by
 refine List.ext_getElem? fun i => ?_
 rcases Nat.lt_or_ge i l.length with h | h
 ·rw [dl_get (by rw [hD.len]; exact h), dl_get (by rw [hE.len]; exact h)]
  congr 1
  have g1 := hD.ge i
  have g2 := hE.ge i
  by_cases h1 : 0 ≤ dl D i
  ·have a := dist_le hD hE (dl D i).toNat i (by omega)
   have b := dist_le hE hD (dl E i).toNat i (by omega)
   omega
  ·by_cases h2 : 0 ≤ dl E i
   ·have b := dist_le hE hD (dl E i).toNat i (by omega)
    omega
   ·omega
 ·rw [List.getElem?_eq_none (by rw [hD.len]; exact h), List.getElem?_eq_none (by rw [hE.len]; exact h)]
/-- places that stand once, all below n, are n at most -/
theorem pigeon : ∀ (n : Nat) (R : List Nat), R.Nodup → (∀ p ∈ R, p < n) → R.length ≤ n
 | 0, R, _, h => by
  cases R with
  | nil => exact Nat.le_refl _
  | cons x r => have := h x (List.mem_cons_self ..); omega
 | n + 1, R, hn, h => by
  have h1 := pigeon n (R.filter fun x => decide (x ≠ n)) (List.Pairwise.filter _ hn) (fun p hp => by
   rw [List.mem_filter, decide_eq_true_eq] at hp
   have := h p hp.1; omega)
  have h2 : R.length ≤ (R.filter fun x => decide (x ≠ n)).length + 1 := by
   clear h h1
   induction R with
   | nil => simp
   | cons x r ih =>
    unfold List.Nodup at hn ih
    rw [List.pairwise_cons] at hn
    by_cases hx : x = n
    ·subst hx
     rw [List.filter_cons_of_neg (by simp), List.filter_eq_self.2 (fun y hy => by have := hn.1 y hy; simp; omega)]
     simp
    ·rw [List.filter_cons_of_pos (by simpa using hx)]
     have := ih hn.2
     simp only [List.length_cons]; omega
  omega
theorem pigeon_all {n : Nat} {R : List Nat} (hn : R.Nodup) (h : ∀ p ∈ R, p < n) (hl : R.length = n) : ∀ p, p < n → p ∈ R := by
 intro p hp
 by_cases hm : p ∈ R
 ·exact hm
 ·have := pigeon n (p :: R) (List.nodup_cons.2 ⟨hm, hn⟩) (fun q hq => by
   rcases List.mem_cons.1 hq with rfl | hq
   ·exact hp
   ·exact h q hq)
  simp only [List.length_cons] at this; omega

/-- WHAT HOLDS WHILE PLACES ARE GONE THROUGH AS THEY ARE REACHED: R are those reached, i how many of these are done; of the next one those of pre are done -/
structure BInv (l : List In) (D : List Int) (R : List Nat) (i : Nat) (pre : List Int) : Prop where
 len : D.length = l.length
 pos : 0 < l.length
 nd : R.Nodup
 lt : ∀ p ∈ R, p < l.length
 h0 : 0 ∈ R
 z : dl D 0 = 0
 ge : ∀ p, -1 ≤ dl D p
 mem : ∀ p, 0 ≤ dl D p ↔ p ∈ R
 back : ∀ p ∈ R, p ≠ 0 → ∃ b ∈ R, dl D p = dl D b + 1 ∧ (p : Int) ∈ onL l (b : Int)
 mono : ∀ (a b p q : Nat), R[a]? = some p → R[b]? = some q → a ≤ b → dl D p ≤ dl D q
 near : ∀ (a p q : Nat), R[a]? = some p → i ≤ a → q ∈ R → dl D q ≤ dl D p + 1
 done : ∀ (a p : Nat), R[a]? = some p → a < i → ∀ t ∈ onL l (p : Int), 0 ≤ dl D t.toNat ∧ dl D t.toNat ≤ dl D p + 1
 now : ∀ (p : Nat), R[i]? = some p → ∀ t ∈ pre, 0 ≤ dl D t.toNat ∧ dl D t.toNat ≤ dl D p + 1
theorem BInv.start (l : List In) (h : 0 < l.length) : BInv l ((List.replicate l.length (-1)).set 0 0) [0] 0 [] := by
 have hd : ∀ p, dl ((List.replicate l.length (-1 : Int)).set 0 0) p = if 0 = p then 0 else -1 := by
  intro p
  rw [dl_set _ (by simpa using h)]
  split
  ·rfl
  ·unfold dl; rw [List.getElem?_replicate]; split <;> rfl
 refine ⟨by simp, h, by simp, by simp; exact h, by simp, by rw [hd]; rfl, fun p => by rw [hd]; split <;> omega, fun p => ?_, ?_, ?_, ?_, fun a p _ ha => by omega, fun p _ t ht => by cases ht⟩
 ·rw [hd, List.mem_singleton]; split <;> omega
 ·intro p hp h0; rw [List.mem_singleton] at hp; omega
 ·intro a b p q ha hb _
  have : p = 0 := List.mem_singleton.1 (List.mem_of_getElem? ha)
  have : q = 0 := List.mem_singleton.1 (List.mem_of_getElem? hb)
  subst p q; exact Int.le_refl _
 ·intro a p q ha _ hq
  have : p = 0 := List.mem_singleton.1 (List.mem_of_getElem? ha)
  rw [List.mem_singleton] at hq
  subst p q; omega
theorem BInv.size {l : List In} {D : List Int} {R : List Nat} {i : Nat} {pre : List Int} (h : BInv l D R i pre) : R.length ≤ l.length := pigeon _ _ h.nd h.lt
/-- one that is reached already -/
theorem BInv.old {l : List In} {D : List Int} {R : List Nat} {i p : Nat} {pre : List Int} {t : Int} (h : BInv l D R i pre) (hp : R[i]? = some p) (ht : dl D t.toNat ≠ -1) : BInv l D R i (pre ++ [t]) := by
 have hg := h.ge t.toNat
 have hm := (h.mem t.toNat).1 (by omega)
 refine { h with now := fun p' hp' t' ht' => ?_ }
 rw [hp] at hp'; cases hp'
 rcases List.mem_append.1 ht' with h1 | h1
 ·exact h.now p hp t' h1
 ·rw [List.mem_singleton] at h1; subst h1
  exact ⟨by omega, h.near i p _ hp (Nat.le_refl _) hm⟩
/-- one that is new -/
theorem BInv.new {l : List In} {D : List Int} {R : List Nat} {i p : Nat} {pre : List Int} {t : Int} (h : BInv l D R i pre) (hp : R[i]? = some p) (ht : dl D t.toNat = -1) (hon : t ∈ onL l (p : Int)) : BInv l (D.set t.toNat (dl D p + 1)) (R ++ [t.toNat]) i (pre ++ [t]) := by
 obtain ⟨ht0, htl, -, -⟩ := onL_in hon
 have htR : t.toNat ∉ R := fun hm => by have := (h.mem _).2 hm; omega
 have hpR : p ∈ R := List.mem_of_getElem? hp
 have hp0 : 0 ≤ dl D p := (h.mem p).2 hpR
 have hd : ∀ q, dl (D.set t.toNat (dl D p + 1)) q = if t.toNat = q then dl D p + 1 else dl D q := fun q => dl_set _ (by rw [h.len]; omega) q
 have hold : ∀ q ∈ R, dl (D.set t.toNat (dl D p + 1)) q = dl D q := fun q hq => by rw [hd, if_neg (fun e => htR (by rw [e]; exact hq))]
 have hnew : dl (D.set t.toNat (dl D p + 1)) t.toNat = dl D p + 1 := by rw [hd, if_pos rfl]
 have htz : t.toNat ≠ 0 := fun e => htR (by rw [e]; exact h.h0)
 have get : ∀ {a : Nat} {q : Nat}, (R ++ [t.toNat])[a]? = some q → R[a]? = some q ∨ (a = R.length ∧ q = t.toNat) := by
  intro a q ha
  rw [List.getElem?_append] at ha
  split at ha
  ·exact .inl ha
  ·right
   have hl := (List.getElem?_eq_some_iff.1 ha).1
   have : a - R.length = 0 := by simpa using hl
   rw [this] at ha
   simp only [List.getElem?_cons_zero, Option.some.injEq] at ha
   exact ⟨by omega, ha.symm⟩
 have hiR : i < R.length := (List.getElem?_eq_some_iff.1 hp).1
 have hpi : (R ++ [t.toNat])[i]? = some p := by rw [List.getElem?_append_left hiR]; exact hp
 have keep : ∀ {u : Int} {c : Int}, 0 ≤ dl D u.toNat ∧ dl D u.toNat ≤ c → 0 ≤ dl (D.set t.toNat (dl D p + 1)) u.toNat ∧ dl (D.set t.toNat (dl D p + 1)) u.toNat ≤ c := by
  intro u c hu
  rw [hold _ ((h.mem _).1 hu.1)]; exact hu
 refine ⟨by rw [List.length_set]; exact h.len, h.pos, ?_, ?_, List.mem_append_left _ h.h0, by rw [hold 0 h.h0]; exact h.z, ?_, ?_, ?_, ?_, ?_, ?_, ?_⟩
 ·rw [List.nodup_append]
  exact ⟨h.nd, by simp, fun a ha b hb e => by rw [List.mem_singleton] at hb; subst e; subst hb; exact htR ha⟩
 ·intro q hq
  rcases List.mem_append.1 hq with hq | hq
  ·exact h.lt q hq
  ·rw [List.mem_singleton] at hq; omega
 ·intro q; rw [hd]; split
  ·omega
  ·exact h.ge q
 ·intro q
  rw [hd, List.mem_append, List.mem_singleton]
  split
  ·rename_i e
   exact ⟨fun _ => .inr e.symm, fun _ => by omega⟩
  ·rename_i e
   rw [h.mem q]
   exact ⟨.inl, fun hh => by rcases hh with hh | hh; exact hh; exact absurd hh.symm e⟩
 ·intro q hq hq0
  rcases List.mem_append.1 hq with hq | hq
  ·obtain ⟨b, hb, h1, h2⟩ := h.back q hq hq0
   exact ⟨b, List.mem_append_left _ hb, by rw [hold q hq, hold b hb]; exact h1, h2⟩
  ·rw [List.mem_singleton] at hq; subst hq
   exact ⟨p, List.mem_append_left _ hpR, by rw [hnew, hold p hpR], by rw [Int.toNat_of_nonneg ht0]; exact hon⟩
 ·intro a b q r ha hb hab
  rcases get ha with ha | ⟨ha, rfl⟩ <;> rcases get hb with hb | ⟨hb, rfl⟩
  ·rw [hold q (List.mem_of_getElem? ha), hold r (List.mem_of_getElem? hb)]; exact h.mono a b q r ha hb hab
  ·rw [hold q (List.mem_of_getElem? ha), hnew]; exact h.near i p q hp (Nat.le_refl _) (List.mem_of_getElem? ha)
  ·have := (List.getElem?_eq_some_iff.1 hb).1; omega
  ·exact Int.le_refl _
 ·intro a q r ha hia hr
  have hq : dl D p ≤ dl (D.set t.toNat (dl D p + 1)) q := by
   rcases get ha with ha | ⟨ha, rfl⟩
   ·rw [hold q (List.mem_of_getElem? ha)]; exact h.mono i a p q hp ha hia
   ·rw [hnew]; omega
  have hr2 : dl (D.set t.toNat (dl D p + 1)) r ≤ dl D p + 1 := by
   rcases List.mem_append.1 hr with hr | hr
   ·rw [hold r hr]; exact h.near i p r hp (Nat.le_refl _) hr
   ·rw [List.mem_singleton] at hr; subst hr; rw [hnew]; exact Int.le_refl _
  omega
 ·intro a q ha hai u hu
  rcases get ha with ha | ⟨ha, rfl⟩
  ·rw [hold q (List.mem_of_getElem? ha)]; exact keep (h.done a q ha hai u hu)
  ·omega
 ·intro q hq u hu
  rw [hpi] at hq; cases hq
  rw [hold p hpR]
  rcases List.mem_append.1 hu with hu | hu
  ·exact keep (h.now p hp u hu)
  ·rw [List.mem_singleton] at hu; subst hu
   rw [hnew]; omega
/-- the next one -/
theorem BInv.step {l : List In} {D : List Int} {R : List Nat} {i p : Nat} (h : BInv l D R i (onL l (p : Int))) (hp : R[i]? = some p) : BInv l D R (i + 1) [] :=
 { h with
  near := fun a q r ha hia hr => h.near a q r ha (by omega) hr
  done := fun a q ha hai => by
   rcases Nat.lt_or_ge a i with h1 | h1
   ·exact h.done a q ha h1
   ·have e : a = i := by omega
    subst e
    rw [hp] at ha; cases ha
    exact h.now p hp
  now := fun q _ t ht => by cases ht }
theorem BInv.over {l : List In} {D : List Int} {R : List Nat} {i : Nat} {pre : List Int} (h : BInv l D R i pre) (hd : ∀ p ∈ R, ∀ t ∈ onL l (p : Int), 0 ≤ dl D t.toNat ∧ dl D t.toNat ≤ dl D p + 1) : DistOk l D :=
 ⟨h.len, fun _ => h.z, h.ge, fun i hi h0 => by
   obtain ⟨b, hb, h1, h2⟩ := h.back i ((h.mem i).1 hi) h0
   exact ⟨b, (h.mem b).2 hb, h1, h2⟩, fun i hi => hd i ((h.mem i).1 hi)⟩
/-- all are done -/
theorem BInv.all {l : List In} {D : List Int} {R : List Nat} {i : Nat} {pre : List Int} (h : BInv l D R i pre) (hi : R.length ≤ i) : DistOk l D := by
 refine h.over fun p hp => ?_
 obtain ⟨a, ha, rfl⟩ := List.getElem_of_mem hp
 exact h.done a _ (List.getElem?_eq_getElem ha) (by omega)
/-- all are reached -/
theorem BInv.full {l : List In} {D : List Int} {R : List Nat} {i : Nat} {pre : List Int} (h : BInv l D R i pre) (hi : R.length = l.length) : DistOk l D := by
 refine h.over fun p hp t ht => ?_
 obtain ⟨ht0, htl, -, -⟩ := onL_in ht
 have htR := pigeon_all h.nd h.lt hi t.toNat (by omega)
 obtain ⟨a, ha, rfl⟩ := List.getElem_of_mem hp
 rcases Nat.lt_or_ge a i with h1 | h1
 ·exact h.done a _ (List.getElem?_eq_getElem ha) h1 t ht
 ·exact ⟨(h.mem _).2 htR, h.near a _ _ (List.getElem?_eq_getElem ha) h1 htR⟩

/-- the document's way: level by level. At level d, of which the first i places are looked at; of place i those of pre are done -/
structure LInv (l : List In) (D : List Int) (d i : Nat) (pre : List Int) : Prop where
 len : D.length = l.length
 z : 0 < l.length → dl D 0 = 0
 ge : ∀ p, -1 ≤ dl D p
 top : ∀ p, dl D p ≤ (d : Int) + 1
 back : ∀ p, 0 ≤ dl D p → p ≠ 0 → ∃ b, 0 ≤ dl D b ∧ dl D p = dl D b + 1 ∧ (p : Int) ∈ onL l (b : Int)
 low : ∀ p, 0 ≤ dl D p → (dl D p < (d : Int) ∨ (dl D p = (d : Int) ∧ p < i)) → ∀ t ∈ onL l (p : Int), 0 ≤ dl D t.toNat ∧ dl D t.toNat ≤ dl D p + 1
 now : dl D i = (d : Int) → ∀ t ∈ pre, 0 ≤ dl D t.toNat ∧ dl D t.toNat ≤ (d : Int) + 1
theorem LInv.start (l : List In) : LInv l ((List.replicate l.length (-1)).set 0 0) 0 0 [] := by
 have hd : ∀ p, 0 < l.length → dl ((List.replicate l.length (-1 : Int)).set 0 0) p = if 0 = p then 0 else -1 := by
  intro p h
  rw [dl_set _ (by simpa using h)]
  split
  ·rfl
  ·unfold dl; rw [List.getElem?_replicate]; split <;> rfl
 have hn : ¬ 0 < l.length → ∀ p, dl ((List.replicate l.length (-1 : Int)).set 0 0) p = -1 := by
  intro h p
  rw [show l.length = 0 by omega]; rfl
 have hdd : ∀ p, dl ((List.replicate l.length (-1 : Int)).set 0 0) p = -1 ∨ (p = 0 ∧ dl ((List.replicate l.length (-1 : Int)).set 0 0) p = 0) := by
  intro p
  by_cases h : 0 < l.length
  ·rw [hd p h]; split
   ·rename_i e; exact .inr ⟨e.symm, rfl⟩
   ·exact .inl rfl
  ·exact .inl (hn h p)
 refine ⟨by simp, fun h => by rw [hd 0 h]; rfl, fun p => ?_, fun p => ?_, fun p hp h0 => ?_, fun p hp h => ?_, fun _ t ht => by cases ht⟩
 ·rcases hdd p with h | ⟨-, h⟩ <;> omega
 ·rcases hdd p with h | ⟨-, h⟩ <;> omega
 ·rcases hdd p with h | ⟨h, -⟩
  ·omega
  ·exact absurd h h0
 ·rcases hdd p with h1 | ⟨h1, h2⟩ <;> omega
theorem LInv.old {l : List In} {D : List Int} {d i : Nat} {pre : List Int} {t : Int} (h : LInv l D d i pre) (ht : dl D t.toNat ≠ -1) : LInv l D d i (pre ++ [t]) :=
 { h with
  now := fun hi u hu => by
   rcases List.mem_append.1 hu with h1 | h1
   ·exact h.now hi u h1
   ·rw [List.mem_singleton] at h1; subst h1
    exact ⟨by have := h.ge u.toNat; omega, h.top _⟩ }
theorem LInv.new {l : List In} {D : List Int} {d i : Nat} {pre : List Int} {t : Int} (h : LInv l D d i pre) (hi : dl D i = (d : Int)) (ht : dl D t.toNat = -1) (hon : t ∈ onL l (i : Int)) : LInv l (D.set t.toNat ((d : Int) + 1)) d i (pre ++ [t]) := by
 obtain ⟨ht0, htl, -, -⟩ := onL_in hon
 have hd : ∀ q, dl (D.set t.toNat ((d : Int) + 1)) q = if t.toNat = q then (d : Int) + 1 else dl D q := fun q => dl_set _ (by rw [h.len]; omega) q
 have hold : ∀ q, 0 ≤ dl D q → dl (D.set t.toNat ((d : Int) + 1)) q = dl D q := fun q hq => by rw [hd, if_neg (fun e => by rw [e] at ht; omega)]
 have keep : ∀ {u : Int} {c : Int}, 0 ≤ dl D u.toNat ∧ dl D u.toNat ≤ c → 0 ≤ dl (D.set t.toNat ((d : Int) + 1)) u.toNat ∧ dl (D.set t.toNat ((d : Int) + 1)) u.toNat ≤ c := by
  intro u c hu
  rw [hold _ hu.1]; exact hu
 refine ⟨by rw [List.length_set]; exact h.len, fun hl => by rw [hold 0 (by rw [h.z hl]; exact Int.le_refl _)]; exact h.z hl, ?_, ?_, ?_, ?_, ?_⟩
 ·intro q; rw [hd]; split
  ·omega
  ·exact h.ge q
 ·intro q; rw [hd]; split
  ·omega
  ·exact h.top q
 ·intro q hq hq0
  rw [hd] at hq
  split at hq
  ·rename_i e; subst e
   exact ⟨i, by rw [hold i (by omega)]; omega, by rw [hd, if_pos rfl, hold i (by omega), hi], by rw [Int.toNat_of_nonneg ht0]; exact hon⟩
  ·obtain ⟨b, h1, h2, h3⟩ := h.back q hq hq0
   exact ⟨b, by rw [hold b h1]; exact h1, by rw [hold q hq, hold b h1]; exact h2, h3⟩
 ·intro q hq hq2 u hu
  rw [hd] at hq hq2
  split at hq
  ·rename_i e
   rw [if_pos e] at hq2; omega
  ·rename_i e
   rw [if_neg e] at hq2
   rw [hold q hq]
   exact keep (h.low q hq hq2 u hu)
 ·intro hi2 u hu
  rcases List.mem_append.1 hu with hu | hu
  ·exact keep (h.now hi u hu)
  ·rw [List.mem_singleton] at hu; subst hu
   rw [hd, if_pos rfl]; omega
/-- the next place: of another level, or done -/
theorem LInv.skip {l : List In} {D : List Int} {d i : Nat} (h : LInv l D d i []) (hi : dl D i ≠ (d : Int)) : LInv l D d (i + 1) [] :=
 { h with
  low := fun p hp hh => h.low p hp (by rcases hh with hh | ⟨h1, h2⟩; exact .inl hh; exact .inr ⟨h1, by by_cases e : p = i; (subst e; exact absurd h1 hi); omega⟩)
  now := fun _ t ht => by cases ht }
theorem LInv.step {l : List In} {D : List Int} {d i : Nat} (h : LInv l D d i (nextL l (i : Int))) (hi : dl D i = (d : Int)) : LInv l D d (i + 1) [] :=
 { h with
  low := fun p hp hh t ht => by
   by_cases e : p = i
   ·subst e
    have := h.now hi t (nextL_mem.2 ht)
    omega
   ·exact h.low p hp (by rcases hh with hh | ⟨h1, h2⟩; exact .inl hh; exact .inr ⟨h1, by omega⟩) t ht
  now := fun _ t ht => by cases ht }
theorem LInv.up {l : List In} {D : List Int} {d : Nat} (h : LInv l D d l.length []) : LInv l D (d + 1) 0 [] :=
 { h with
  top := fun p => by have := h.top p; omega
  low := fun p hp hh => h.low p hp (by
   have := dl_lt hp
   rw [h.len] at this
   omega)
  now := fun _ t ht => by cases ht }
/-- who is reached is reached by each number of steps below -/
theorem levels {l : List In} {D : List Int} (hb : ∀ p, 0 ≤ dl D p → p ≠ 0 → ∃ b, 0 ≤ dl D b ∧ dl D p = dl D b + 1 ∧ (p : Int) ∈ onL l (b : Int)) (hz : 0 < D.length → dl D 0 = 0) : ∀ (m : Nat) (p : Nat), dl D p = (m : Int) → ∃ R : List Nat, R.length = m + 1 ∧ R.Nodup ∧ (∀ q ∈ R, q < D.length) ∧ ∀ q ∈ R, dl D q ≤ (m : Int) := by
 intro m
 induction m with
 | zero =>
  intro p hp
  exact ⟨[p], rfl, by simp, fun q hq => by rw [List.mem_singleton] at hq; subst hq; exact dl_lt (by omega), fun q hq => by rw [List.mem_singleton] at hq; subst hq; omega⟩
 | succ m ih =>
  intro p hp
  have hpl := dl_lt (D := D) (i := p) (by omega)
  by_cases h0 : p = 0
  ·subst h0
   have := hz hpl; omega
  ·obtain ⟨b, h1, h2, -⟩ := hb p (by omega) h0
   obtain ⟨R, r1, r2, r3, r4⟩ := ih b (by omega)
   refine ⟨p :: R, by simp [r1], List.nodup_cons.2 ⟨fun hm => by have := r4 p hm; omega, r2⟩, ?_, ?_⟩
   ·intro q hq
    rcases List.mem_cons.1 hq with rfl | hq
    ·exact hpl
    ·exact r3 q hq
   ·intro q hq
    rcases List.mem_cons.1 hq with rfl | hq
    ·omega
    ·have := r4 q hq; omega
theorem LInv.end_ {l : List In} {D : List Int} (h : LInv l D l.length 0 []) : DistOk l D := by
 refine ⟨h.len, h.z, h.ge, h.back, fun i hi => h.low i hi (.inl ?_)⟩
 rcases Int.lt_or_le (dl D i) (l.length : Int) with h1 | h1
 ·exact h1
 ·exfalso
  obtain ⟨R, r1, r2, r3, -⟩ := levels (l := l) h.back (fun hh => h.z (by rw [h.len] at hh; exact hh)) (dl D i).toNat i (by omega)
  have := pigeon _ R r2 r3
  rw [h.len] at this
  omega
/-- no place is reached by more steps than there are places -/
theorem BInv.small {l : List In} {D : List Int} {R : List Nat} {i : Nat} {pre : List Int} (h : BInv l D R i pre) (p : Nat) : dl D p < (l.length : Int) := by
 have hg := h.ge p
 have hpos := h.pos
 by_cases h0 : 0 ≤ dl D p
 ·obtain ⟨R', r1, r2, r3, -⟩ := levels (l := l) (fun q hq hq0 => by
   obtain ⟨b, hb, h1, h2⟩ := h.back q ((h.mem q).1 hq) hq0
   exact ⟨b, (h.mem b).2 hb, h1, h2⟩) (fun _ => h.z) (dl D p).toNat p (by omega)
  have := pigeon _ R' r2 r3
  rw [h.len] at this
  omega
 ·omega
def deadL (D : List Int) : List Int := selL D.length fun i => decide (dl D i = -1)
end Go.Proofs.YtnmnnokdoiagkaaDoor.flowp

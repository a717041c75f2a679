/- SortP -/
import Derived.Test.YtgociheckcpjkaaGreatDoorKind
import Derived.Laws.OwnMore
import Derived.Deep.MidRow
import Derived.Deep.RegionHeld3
namespace Go.Proofs.YtgociheckcpjkaaGreatDoor.sorts
open Go.RowKit
open words
set_option linter.all false
variable {α : Type}
structure Swo (lt : α → α → Bool) : Prop where
 asymm : ∀ a b, lt a b = true → lt b a = false
 split : ∀ a b c, lt a c = true → lt a b = true ∨ lt b c = true
theorem Swo.irr {lt : α → α → Bool} (h : Swo lt) (a : α) : lt a a = false := by
 cases e : lt a a with
 | false => rfl
 | true => rw [h.asymm a a e] at e; cases e
theorem Swo.trans {lt : α → α → Bool} (h : Swo lt) {a b c : α} (h1 : lt a b = true) (h2 : lt b c = true) : lt a c = true := by
 rcases h.split a c b h1 with h3 | h3
 ·exact h3
 ·rw [h.asymm b c h2] at h3; cases h3
theorem Swo.le {lt : α → α → Bool} (h : Swo lt) {a b c : α} (h1 : lt b a = false) (h2 : lt c b = false) : lt c a = false := by
 cases e : lt c a with
 | false => rfl
 | true => rcases h.split c b a e with h3 | h3
           ·rw [h3] at h2; cases h2
           ·rw [h3] at h1; cases h1
theorem Swo.lt_le {lt : α → α → Bool} (h : Swo lt) {a b c : α} (h1 : lt a b = true) (h2 : lt c b = false) : lt a c = true := by
 rcases h.split a c b h1 with h3 | h3
 ·exact h3
 ·rw [h3] at h2; cases h2
theorem Swo.le_lt {lt : α → α → Bool} (h : Swo lt) {a b c : α} (h1 : lt b a = false) (h2 : lt b c = true) : lt a c = true := by
 rcases h.split b a c h2 with h3 | h3
 ·rw [h3] at h1; cases h1
 ·exact h3
def mrg (lt : α → α → Bool) : List α → List α → List α
 | [], r => r
 | a :: l, [] => a :: l
 | a :: l, b :: r => if lt b a = true then b :: mrg lt (a :: l) r else a :: mrg lt l (b :: r)
termination_by l r => l.length + r.length
theorem mrg_nil (lt : α → α → Bool) (l : List α) : mrg lt l [] = l := by cases l <;> simp [mrg]
theorem nil_mrg (lt : α → α → Bool) (l : List α) : mrg lt [] l = l := by cases l <;> simp [mrg]
theorem mrg_right {lt : α → α → Bool} {a b : α} (h : lt b a = true) (l r : List α) : mrg lt (a :: l) (b :: r) = b :: mrg lt (a :: l) r := by rw [mrg, if_pos h]
theorem mrg_left {lt : α → α → Bool} {a b : α} (h : lt b a = false) (l r : List α) : mrg lt (a :: l) (b :: r) = a :: mrg lt l (b :: r) := by rw [mrg, if_neg (by simp [h])]
theorem mrg_length (lt : α → α → Bool) (l r : List α) : (mrg lt l r).length = l.length + r.length := by
 fun_induction mrg lt l r <;> simp_all <;> omega
theorem mem_mrg {lt : α → α → Bool} {x : α} (l r : List α) : x ∈ mrg lt l r ↔ x ∈ l ∨ x ∈ r := by
 fun_induction mrg lt l r with
 | case1 r => simp
 | case2 a l => simp
 | case3 a l b r h ih => simp only [List.mem_cons, ih]; constructor <;> (rintro h; rcases h with h | h) <;> grind
 | case4 a l b r h ih => simp only [List.mem_cons, ih]; constructor <;> (rintro h; rcases h with h | h) <;> grind
theorem mrg_split {lt : α → α → Bool} (L1 R1 L2 R2 : List α) (h1 : ∀ r ∈ R1, ∀ l ∈ L2, lt r l = true) (h2 : ∀ l ∈ L1, ∀ r ∈ R2, lt r l = false) :
  mrg lt (L1 ++ L2) (R1 ++ R2) = mrg lt L1 R1 ++ mrg lt L2 R2 := by
 induction hn : L1.length + R1.length generalizing L1 R1 with
 | zero =>
  have e1 : L1 = [] := List.length_eq_zero_iff.1 (by omega)
  have e2 : R1 = [] := List.length_eq_zero_iff.1 (by omega)
  subst e1; subst e2
  rw [nil_mrg]; rfl
 | succ n ih =>
  cases L1 with
  | nil =>
   cases R1 with
   | nil => simp at hn
   | cons r R1 =>
    have k := ih [] R1 (fun x hx => h1 x (List.mem_cons_of_mem _ hx)) (by simp) (by simp at hn; simp; omega)
    rw [nil_mrg] at k
    rw [nil_mrg]
    cases L2 with
    | nil => simp [nil_mrg]
    | cons l L2 =>
     simp only [List.nil_append, List.cons_append] at *
     rw [mrg_right (h1 r (List.mem_cons_self ..) l (List.mem_cons_self ..)), k]
  | cons l L1 =>
   cases R1 with
   | nil =>
    have k := ih L1 [] (by simp) (fun x hx => h2 x (List.mem_cons_of_mem _ hx)) (by simp at hn; simp; omega)
    rw [mrg_nil] at k
    rw [mrg_nil]
    cases R2 with
    | nil => simp [mrg_nil]
    | cons r R2 =>
     simp only [List.nil_append, List.cons_append] at *
     rw [mrg_left (h2 l (List.mem_cons_self ..) r (List.mem_cons_self ..)), k]
   | cons r R1 =>
    simp only [List.cons_append]
    cases e : lt r l with
    | true =>
     rw [mrg_right e, mrg_right e]
     have k := ih (l :: L1) R1 (fun x hx => h1 x (List.mem_cons_of_mem _ hx)) h2 (by simp at hn; simp; omega)
     simp only [List.cons_append] at k
     rw [k]; rfl
    | false =>
     rw [mrg_left e, mrg_left e]
     have k := ih L1 (r :: R1) h1 (fun x hx => h2 x (List.mem_cons_of_mem _ hx)) (by simp at hn; simp; omega)
     simp only [List.cons_append] at k
     rw [k]; rfl
theorem mrg_assoc {lt : α → α → Bool} (h : Swo lt) (A B C : List α) : mrg lt (mrg lt A B) C = mrg lt A (mrg lt B C) := by
 induction hn : A.length + B.length + C.length generalizing A B C with
 | zero =>
  have e1 : A = [] := List.length_eq_zero_iff.1 (by omega)
  have e2 : B = [] := List.length_eq_zero_iff.1 (by omega)
  subst e1; subst e2
  simp [nil_mrg]
 | succ n ih =>
  cases A with
  | nil => simp [nil_mrg]
  | cons a A =>
   cases B with
   | nil => simp [nil_mrg, mrg_nil]
   | cons b B =>
    cases C with
    | nil => simp [mrg_nil]
    | cons c C =>
     simp only [List.length_cons] at hn
     cases hba : lt b a with
     | true =>
      rw [mrg_right hba]
      cases hcb : lt c b with
      | true =>
       have hca := h.trans hcb hba
       rw [mrg_right hcb, mrg_right hcb, mrg_right hca, ← mrg_right hba, ih (a :: A) (b :: B) C (by simp; omega)]
      | false =>
       rw [mrg_left hcb, mrg_left hcb, mrg_right hba, ih (a :: A) B (c :: C) (by simp; omega)]
     | false =>
      rw [mrg_left hba]
      cases hcb : lt c b with
      | true =>
       cases hca : lt c a with
       | true => rw [mrg_right hcb, mrg_right hca, mrg_right hca, ← mrg_left hba, ih (a :: A) (b :: B) C (by simp; omega)]
       | false => rw [mrg_right hcb, mrg_left hca, mrg_left hca, ← mrg_right hcb, ih A (b :: B) (c :: C) (by simp; omega)]
      | false =>
       have hca : lt c a = false := h.le hba hcb
       rw [mrg_left hca, mrg_left hcb, mrg_left hba, ← mrg_left hcb, ih A (b :: B) (c :: C) (by simp; omega)]
def Asc (lt : α → α → Bool) (l : List α) : Prop := l.Pairwise fun a b => lt b a = false
theorem asc_mrg {lt : α → α → Bool} (h : Swo lt) (l r : List α) (hl : Asc lt l) (hr : Asc lt r) : Asc lt (mrg lt l r) := by
 fun_induction mrg lt l r with
 | case1 r => exact hr
 | case2 a l => exact hl
 | case3 a l b r e ih =>
  have hr' := List.pairwise_cons.1 hr
  refine List.pairwise_cons.2 ⟨fun x hx => ?_, ih hl hr'.2⟩
  rcases (mem_mrg _ _).1 hx with hx | hx
  ·rcases List.mem_cons.1 hx with rfl | hx
   ·exact h.asymm _ _ e
   ·exact h.le (h.asymm _ _ e) ((List.pairwise_cons.1 hl).1 x hx)
  ·exact hr'.1 x hx
 | case4 a l b r e ih =>
  have hl' := List.pairwise_cons.1 hl
  have e' : lt b a = false := by simpa using e
  refine List.pairwise_cons.2 ⟨fun x hx => ?_, ih hl'.2 hr⟩
  rcases (mem_mrg _ _).1 hx with hx | hx
  ·exact hl'.1 x hx
  ·rcases List.mem_cons.1 hx with rfl | hx
   ·exact e'
   ·exact h.le e' ((List.pairwise_cons.1 hr).1 x hx)
theorem Asc.left {lt : α → α → Bool} {l r : List α} (h : Asc lt (l ++ r)) : Asc lt l := (List.pairwise_append.1 h).1
theorem Asc.right {lt : α → α → Bool} {l r : List α} (h : Asc lt (l ++ r)) : Asc lt r := (List.pairwise_append.1 h).2.1
theorem asc_one (lt : α → α → Bool) (x : α) : Asc lt [x] := List.pairwise_singleton ..
theorem asc_nil (lt : α → α → Bool) : Asc lt ([] : List α) := List.Pairwise.nil
theorem asc_last {lt : α → α → Bool} (h : Swo lt) {l : List α} {z : α} (hl : Asc lt (l ++ [z])) : ∀ x ∈ l ++ [z], lt z x = false := by
 intro x hx
 rcases List.mem_append.1 hx with hx | hx
 ·exact (List.pairwise_append.1 hl).2.2 x hx z (List.mem_singleton.2 rfl)
 ·rw [List.mem_singleton.1 hx]; exact h.irr z
theorem asc_first {lt : α → α → Bool} (h : Swo lt) {l : List α} {z : α} (hl : Asc lt (z :: l)) : ∀ x ∈ z :: l, lt x z = false := by
 intro x hx
 rcases List.mem_cons.1 hx with rfl | hx
 ·exact h.irr _
 ·exact (List.pairwise_cons.1 hl).1 x hx
def sortS (lt : α → α → Bool) (l : List α) : List α := l.foldl (fun s x => mrg lt s [x]) []
theorem sortS_nil (lt : α → α → Bool) : sortS lt [] = [] := rfl
theorem sortS_snoc (lt : α → α → Bool) (l : List α) (x : α) : sortS lt (l ++ [x]) = mrg lt (sortS lt l) [x] := by simp [sortS]
theorem snoc_rec {P : List α → Prop} (h0 : P []) (h1 : ∀ l x, P l → P (l ++ [x])) (l : List α) : P l := by
 rw [← List.reverse_reverse l]
 induction l.reverse with
 | nil => exact h0
 | cons a l ih => rw [List.reverse_cons]; exact h1 _ _ ih
theorem sortS_length (lt : α → α → Bool) (l : List α) : (sortS lt l).length = l.length := by
 induction l using snoc_rec with
 | h0 => rfl
 | h1 l x ih => rw [sortS_snoc, mrg_length, ih]; simp
theorem mem_sortS {lt : α → α → Bool} {x : α} (l : List α) : x ∈ sortS lt l ↔ x ∈ l := by
 induction l using snoc_rec with
 | h0 => simp [sortS]
 | h1 l y ih => rw [sortS_snoc, mem_mrg, ih]; simp
theorem asc_sortS {lt : α → α → Bool} (h : Swo lt) (l : List α) : Asc lt (sortS lt l) := by
 induction l using snoc_rec with
 | h0 => exact asc_nil _
 | h1 l x ih => rw [sortS_snoc]; exact asc_mrg h _ _ ih (asc_one _ _)
theorem sortS_app {lt : α → α → Bool} (h : Swo lt) (a b : List α) : sortS lt (a ++ b) = mrg lt (sortS lt a) (sortS lt b) := by
 induction b using snoc_rec with
 | h0 => rw [List.append_nil, sortS_nil, mrg_nil]
 | h1 b x ih => rw [← List.append_assoc, sortS_snoc, ih, sortS_snoc, mrg_assoc h]
theorem sortS_asc {lt : α → α → Bool} (h : Swo lt) (l : List α) (hl : Asc lt l) : sortS lt l = l := by
 induction l using snoc_rec with
 | h0 => rfl
 | h1 l x ih =>
  rw [sortS_snoc, ih hl.left]
  have k := mrg_split (lt := lt) l [] [] [x] (by simp) (fun y hy r hr => by
   rw [List.mem_singleton.1 hr]
   exact (List.pairwise_append.1 hl).2.2 y hy x (List.mem_singleton.2 rfl))
  rw [List.append_nil, List.nil_append, mrg_nil, nil_mrg] at k
  exact k
theorem sortS_sortS {lt : α → α → Bool} (h : Swo lt) (l : List α) : sortS lt (sortS lt l) = sortS lt l := sortS_asc h _ (asc_sortS h l)
theorem ins_at {lt : α → α → Bool} (l1 l2 : List α) (x : α) (h1 : ∀ y ∈ l1, lt x y = false) (h2 : ∀ y ∈ l2, lt x y = true) : mrg lt (l1 ++ l2) [x] = l1 ++ x :: l2 := by
 have k := mrg_split (lt := lt) l1 [x] l2 [] (fun r hr l hl => by rw [List.mem_singleton.1 hr]; exact h2 l hl) (by simp)
 rw [List.append_nil, mrg_nil] at k
 rw [k]
 have k2 := mrg_split (lt := lt) l1 [] [] [x] (by simp) (fun y hy r hr => by rw [List.mem_singleton.1 hr]; exact h1 y hy)
 rw [List.append_nil, List.nil_append, mrg_nil, nil_mrg] at k2
 rw [k2]; simp
theorem ins_front {lt : α → α → Bool} (r1 r2 : List α) (x : α) (h1 : ∀ y ∈ r1, lt y x = true) (h2 : ∀ y ∈ r2, lt y x = false) : mrg lt [x] (r1 ++ r2) = r1 ++ x :: r2 := by
 have k := mrg_split (lt := lt) [] r1 [x] r2 (fun r hr l hl => by rw [List.mem_singleton.1 hl]; exact h1 r hr) (by simp)
 rw [List.nil_append, nil_mrg] at k
 rw [k]
 have k2 := mrg_split (lt := lt) [x] [] [] r2 (by simp) (fun y hy r hr => by rw [List.mem_singleton.1 hy]; exact h2 r hr)
 rw [List.append_nil, List.nil_append, mrg_nil, nil_mrg] at k2
 rw [k2]; simp
def chunked (lt : α → α → Bool) (s : Nat) (l : List α) : List α :=
 if h : l = [] ∨ s = 0 then [] else sortS lt (l.take s) ++ chunked lt s (l.drop s)
termination_by l.length
decreasing_by
 have : l.length ≠ 0 := fun e => h (.inl (List.length_eq_zero_iff.1 e))
 simp only [List.length_drop]; omega
theorem chunked_nil (lt : α → α → Bool) (s : Nat) : chunked lt s [] = [] := by rw [chunked]; simp
theorem chunked_cut (lt : α → α → Bool) {s : Nat} (hs : 0 < s) (l : List α) : chunked lt s l = sortS lt (l.take s) ++ chunked lt s (l.drop s) := by
 cases l with
 | nil => simp [chunked_nil, sortS]
 | cons a l => conv => lhs; rw [chunked]; rw [dif_neg (by simp; omega)]
theorem chunked_short (lt : α → α → Bool) {s : Nat} (hs : 0 < s) (l : List α) (h : l.length ≤ s) : chunked lt s l = sortS lt l := by
 rw [chunked_cut lt hs, List.take_of_length_le h, List.drop_eq_nil_of_le h, chunked_nil, List.append_nil]
theorem chunked_app (lt : α → α → Bool) {s : Nat} (hs : 0 < s) (q : Nat) (a b : List α) (h : a.length = q * s) : chunked lt s (a ++ b) = chunked lt s a ++ chunked lt s b := by
 induction q generalizing a with
 | zero =>
  have e : a = [] := List.length_eq_zero_iff.1 (by omega)
  subst e; simp [chunked_nil]
 | succ q ih =>
  have hl : s ≤ a.length := by rw [h, Nat.succ_mul]; omega
  rw [chunked_cut lt hs (a ++ b), chunked_cut lt hs a, List.take_append_of_le_length hl, List.drop_append_of_le_length hl, ih (a.drop s) (by rw [List.length_drop, h, Nat.succ_mul]; omega), List.append_assoc]
theorem chunked_length (lt : α → α → Bool) {s : Nat} (hs : 0 < s) (l : List α) : (chunked lt s l).length = l.length := by
 induction hn : l.length using Nat.strongRecOn generalizing l with
 | _ n ih =>
  cases l with
  | nil => simp [chunked_nil] at *; omega
  | cons a l =>
   rw [chunked_cut lt hs, List.length_append, sortS_length, ih ((a :: l).drop s).length (by rw [List.length_drop]; simp at *; omega) _ rfl, ← List.length_append, List.take_append_drop, hn]
theorem chunked_two {lt : α → α → Bool} (h : Swo lt) {s : Nat} (hs : 0 < s) (l : List α) : ∃ x y z, chunked lt s l = x ++ y ++ z ∧ x = sortS lt (l.take s) ∧ y = sortS lt ((l.drop s).take s) ∧ z = chunked lt s (l.drop (2 * s)) ∧ mrg lt x y = sortS lt (l.take (2 * s)) := by
 refine ⟨_, _, _, ?_, rfl, rfl, rfl, ?_⟩
 ·rw [chunked_cut lt hs l, chunked_cut lt hs (l.drop s), List.drop_drop, List.append_assoc]
  rw [Nat.two_mul]
 ·rw [← sortS_app h, Nat.two_mul, List.take_add]
theorem set_two (P M Q : List α) (x y : α) : ((P ++ x :: (M ++ y :: Q)).set P.length y).set (P.length + 1 + M.length) x = P ++ y :: (M ++ x :: Q) := by
 rw [List.set_append_right _ _ (Nat.le_refl _), Nat.sub_self, List.set_cons_zero, List.set_append_right _ _ (by omega)]
 rw [show P.length + 1 + M.length - P.length = M.length + 1 by omega, List.set_cons_succ, List.set_append_right _ _ (Nat.le_refl _), Nat.sub_self, List.set_cons_zero]
theorem set_back (P Q : List α) (x y : α) : ((P ++ x :: y :: Q).set (P.length + 1) x).set P.length y = P ++ y :: x :: Q := by
 rw [List.set_append_right _ _ (by omega), show P.length + 1 - P.length = 1 by omega, List.set_cons_succ, List.set_cons_zero, List.set_append_right _ _ (Nat.le_refl _), Nat.sub_self, List.set_cons_zero]
theorem set_forth (P Q : List α) (x y : α) : ((P ++ x :: y :: Q).set P.length y).set (P.length + 1) x = P ++ y :: x :: Q := by
 have h := set_two P [] Q x y
 simp only [List.nil_append, List.length_nil, Nat.add_zero] at h
 exact h
theorem at_len (P Q : List α) (x : α) : (P ++ x :: Q)[P.length]? = some x := by simp
def swp (P A M B Q : List α) (i : Nat) : List α := P ++ (B.take i ++ (A.drop i ++ (M ++ (A.take i ++ (B.drop i ++ Q)))))
theorem swp_zero (P A M B Q : List α) : swp P A M B Q 0 = P ++ (A ++ (M ++ (B ++ Q))) := by simp [swp]
theorem swp_end (P A M B Q : List α) (i : Nat) (ha : A.length = i) (hb : B.length = i) : swp P A M B Q i = P ++ (B ++ (M ++ (A ++ Q))) := by
 unfold swp
 rw [List.take_of_length_le (by omega), List.take_of_length_le (by omega), List.drop_eq_nil_of_le (by omega), List.drop_eq_nil_of_le (by omega), List.nil_append, List.nil_append]
theorem swp_step (P A M B Q : List α) (i : Nat) (x y : α) (hx : A[i]? = some x) (hy : B[i]? = some y) (hl : A.length = B.length) :
  (swp P A M B Q i)[P.length + i]? = some x ∧ (swp P A M B Q i)[P.length + A.length + M.length + i]? = some y ∧
  ((swp P A M B Q i).set (P.length + i) y).set (P.length + A.length + M.length + i) x = swp P A M B Q (i + 1) := by
 have hxi := (List.getElem?_eq_some_iff.1 hx).1
 have hyi := (List.getElem?_eq_some_iff.1 hy).1
 have ea : A.drop i = x :: A.drop (i + 1) := by rw [List.drop_eq_getElem_cons hxi]; congr 1; exact (List.getElem?_eq_some_iff.1 hx).2
 have eb : B.drop i = y :: B.drop (i + 1) := by rw [List.drop_eq_getElem_cons hyi]; congr 1; exact (List.getElem?_eq_some_iff.1 hy).2
 have e : swp P A M B Q i = (P ++ B.take i) ++ x :: ((A.drop (i + 1) ++ (M ++ A.take i)) ++ y :: (B.drop (i + 1) ++ Q)) := by
  unfold swp; rw [ea, eb]; simp only [List.append_assoc, List.cons_append]
 have l1 : (P ++ B.take i).length = P.length + i := by rw [List.length_append, List.length_take]; omega
 have l2 : (P ++ B.take i).length + 1 + (A.drop (i + 1) ++ (M ++ A.take i)).length = P.length + A.length + M.length + i := by
  rw [l1]; simp only [List.length_append, List.length_drop, List.length_take]; omega
 refine ⟨?_, ?_, ?_⟩
 ·rw [e, ← l1]; exact at_len _ _ _
 ·rw [e, ← l2]
  rw [List.getElem?_append_right (by omega), show (P ++ B.take i).length + 1 + (A.drop (i + 1) ++ (M ++ A.take i)).length - (P ++ B.take i).length = (A.drop (i + 1) ++ (M ++ A.take i)).length + 1 by omega, List.getElem?_cons_succ]
  exact at_len _ _ _
 ·rw [e, ← l1]
  have l3 : P.length + A.length + M.length + i = (P ++ B.take i).length + 1 + (A.drop (i + 1) ++ (M ++ A.take i)).length := l2.symm
  rw [l3, set_two]
  unfold swp
  rw [List.take_add_one, hy, List.take_add_one, hx]
  simp only [List.append_assoc, List.cons_append, Option.toList_some, List.nil_append]
structure Row (T : TypeId) (k : Nat) (f : α → List Value) (b g n c : Nat) (w : World) (xs : List α) : Prop where
 len : xs.length = n
 own : w.ownsRow b T k (.slice (some ⟨g, 0, none⟩) n c) n (xs.flatMap f)
section
variable {T : TypeId} {k : Nat} {f : α → List Value} {b g n c : Nat} {w w' : World} {xs : List α}
theorem flat_get (hf : ∀ x, (f x).length = k) : ∀ {l : List α} {i : Nat} {x : α} {t : Nat} {u : Value}, l[i]? = some x → (f x)[t]? = some u → (l.flatMap f)[i * k + t]? = some u
 | [], _, _, _, _, h, _ => by simp at h
 | y :: l, 0, x, t, u, h, hu => by
  simp at h; subst h
  rw [List.flatMap_cons, Nat.zero_mul, Nat.zero_add, List.getElem?_append_left (List.getElem?_eq_some_iff.1 hu).1]
  exact hu
 | y :: l, i + 1, x, t, u, h, hu => by
  rw [List.flatMap_cons, List.getElem?_append_right (by rw [hf, Nat.succ_mul]; omega), hf, show (i + 1) * k + t - k = i * k + t by rw [Nat.succ_mul]; omega]
  exact flat_get hf (by simpa using h) hu
theorem flat_size (hf : ∀ x, (f x).length = k) : ∀ l : List α, (l.flatMap f).length = l.length * k
 | [] => by simp
 | x :: l => by rw [List.flatMap_cons, List.length_append, hf, flat_size hf l, List.length_cons, Nat.succ_mul, Nat.add_comm]
def setsAt (L : List Value) (o : Nat) : List Value → List Value
 | [] => L
 | v :: vs => setsAt (L.set o v) (o + 1) vs
theorem setsAt_app : ∀ (vs P M Q : List Value), M.length = vs.length → setsAt (P ++ (M ++ Q)) P.length vs = P ++ (vs ++ Q)
 | [], P, M, Q, h => by
  have : M = [] := List.length_eq_zero_iff.1 (by simpa using h)
  subst this; rfl
 | v :: vs, P, m :: M, Q, h => by
  rw [setsAt, List.set_append_right _ _ (Nat.le_refl _), Nat.sub_self]
  have := setsAt_app vs (P ++ [v]) M Q (by simpa using h)
  simp only [List.append_assoc, List.cons_append, List.nil_append, List.length_append, List.length_cons, List.length_nil, Nat.zero_add] at this
  simpa using this
 | v :: vs, P, [], Q, h => by simp at h
theorem flat_set (hf : ∀ x, (f x).length = k) (l : List α) (i : Nat) (y : α) (hi : i < l.length) : (l.set i y).flatMap f = setsAt (l.flatMap f) (i * k) (f y) := by
 have e : l = l.take i ++ (l[i] :: l.drop (i + 1)) := by rw [← List.drop_eq_getElem_cons hi, List.take_append_drop]
 have e2 : l.set i y = l.take i ++ (y :: l.drop (i + 1)) := by
  conv => lhs; rw [e]
  rw [List.set_append_right _ _ (by rw [List.length_take]; omega), List.length_take, Nat.min_eq_left (by omega), Nat.sub_self, List.set_cons_zero]
 rw [e2]
 conv => rhs; rw [e]
 rw [List.flatMap_append, List.flatMap_append, List.flatMap_cons, List.flatMap_cons]
 have hl : ((l.take i).flatMap f).length = i * k := by rw [flat_size hf, List.length_take, Nat.min_eq_left (by omega)]
 rw [← hl, setsAt_app _ _ _ _ (by rw [hf, hf])]
theorem own_sets (vs : List Value) : ∀ {w : World} {L : List Value} {o : Nat}, w.ownsRow b T k (.slice (some ⟨g, 0, none⟩) n c) n L → (w.setCells g o vs).ownsRow b T k (.slice (some ⟨g, 0, none⟩) n c) n (setsAt L o vs) ∧ w.grownBy (w.setCells g o vs) (some g) := by
 induction vs with
 | nil => intro w L o h; exact ⟨h, rfl, rfl, rfl, Nat.le_refl _, fun _ _ _ => rfl⟩
 | cons v vs ih =>
  intro w L o h
  obtain ⟨h1, g1⟩ := h.stored o v
  obtain ⟨h2, g2⟩ := ih (o := o + 1) h1
  refine ⟨h2, ?_⟩
  exact ⟨g2.os.trans g1.os, g2.tape.trans g1.tape, g2.output.trans g1.output, Nat.le_trans g1.size g2.size, fun k hk hn => (g2.block k (Nat.lt_of_lt_of_le hk g1.size) hn).trans (g1.block k hk hn)⟩
theorem Row.range (h : Row T k f b g n c w xs) (hf : ∀ x, (f x).length = k) {i : Nat} {x : α} (hi : xs[i]? = some x) : w.rangeAt g (i * k) (f x) := fun j v hv => by
 have hl := flat_get hf hi hv
 rw [h.own.cellAt (i * k + j) (by rw [← h.len, ← flat_size hf]; exact (List.getElem?_eq_some_iff.1 hl).1)]
 exact hl
theorem Row.there (h : Row T k f b g n c w xs) (hf : ∀ x, (f x).length = k) {i : Nat} (hi : i < n) : w.there g (i * k) k := fun j hj => by
 obtain ⟨x, hx⟩ : ∃ x, xs[i]? = some x := ⟨xs[i]'(by rw [h.len]; exact hi), List.getElem?_eq_getElem _⟩
 obtain ⟨v, hv⟩ : ∃ v, (f x)[j]? = some v := ⟨(f x)[j]'(by rw [hf]; exact hj), List.getElem?_eq_getElem _⟩
 exact ⟨by rw [h.range hf hx j v hv]; rfl, h.own.frozenAt _⟩
theorem Row.set (h : Row T k f b g n c w xs) (hf : ∀ x, (f x).length = k) {i : Nat} (y : α) (hi : i < n) : Row T k f b g n c (w.setCells g (i * k) (f y)) (xs.set i y) ∧ w.grownBy (w.setCells g (i * k) (f y)) (some g) := by
 obtain ⟨h1, h2⟩ := own_sets (f y) (o := i * k) h.own
 rw [← flat_set hf xs i y (by rw [h.len]; exact hi)] at h1
 exact ⟨⟨by rw [List.length_set]; exact h.len, h1⟩, h2⟩
theorem Row.below (h : Row T k f b g n c w xs) (hb : Below w.heap.size w w') : Row T k f b g n c w' xs := ⟨h.len, own_below h.own hb⟩
theorem Row.drew (h : Row T k f b g n c w xs) : Row T k f b g n c w.drew xs := ⟨h.len, h.own⟩
theorem gt_refl (w : World) (g : Nat) : w.grownBy w (some g) := ⟨rfl, rfl, rfl, Nat.le_refl _, fun _ _ _ => rfl⟩
theorem gt_trans {w v u : World} {g : Nat} (h : w.grownBy v (some g)) (k : v.grownBy u (some g)) : w.grownBy u (some g) :=
 ⟨k.os.trans h.os, k.tape.trans h.tape, k.output.trans h.output, Nat.le_trans h.size k.size, fun b hb hn => (k.block b (Nat.lt_of_lt_of_le hb h.size) hn).trans (h.block b hb hn)⟩
theorem gt_below {w w' : World} (h : Below w.heap.size w w') (g : Nat) : w.grownBy w' (some g) := ⟨h.os, h.tape, h.output, h.size, fun k hk _ => h.block k hk⟩
theorem gt_drew {w v : World} {g : Nat} (h : w.grownBy v (some g)) : w.grownBy v.drew (some g) := ⟨h.os, h.tape, h.output, h.size, h.block⟩
theorem gt_undrew {w v : World} {g : Nat} (h : w.drew.grownBy v (some g)) : w.grownBy v (some g) := ⟨h.os, h.tape, h.output, h.size, h.block⟩
theorem Row.two (h : Row T k f b g n c w xs) (hf : ∀ x, (f x).length = k) {i j : Nat} (x y : α) (hi : i < n) (hj : j < n) : Row T k f b g n c ((w.drew.setCells g (i * k) (f y)).setCells g (j * k) (f x)) ((xs.set i y).set j x) ∧ w.grownBy ((w.drew.setCells g (i * k) (f y)).setCells g (j * k) (f x)) (some g) := by
 obtain ⟨h1, g1⟩ := h.drew.set hf y hi
 obtain ⟨h2, g2⟩ := h1.set hf x hj
 exact ⟨h2, gt_undrew (gt_trans g1 g2)⟩
end
section
variable {P : Program} {md : Region.Mode} {ops : Array Oper} {Q : Exit → Act → World → Prop} {S : World → Prop} {oi : Oper} {fuel : Nat} {listed : Array Bool} {a : Act} {w : World}
theorem tld (i : Nat) (b o : Nat) (cs : List Value) {ty : TypeId} {x : Operand} {d : TypeDesc} (hi : ops[i]? = some oi) (ho : oi.op = .load ty x) (hx : a.eval x = .pointer (some ⟨b, o, none⟩)) (hc : ∀ w, S w → w.rangeAt b o cs)
  (hu : P.underlying ty = some d) (hn : (P.info? ty).map (·.size) = some cs.length) (h : wpAnyH P md ops Q S fuel (listed.setIfInBounds i true) (a.put oi.dst (.agg cs.toArray)) w)
  (hr : d.isRow = true := by rfl)
  (hd : (Region.noSelect ops && (Region.free md ops listed i && ((Region.ready md ops listed).contains i && Region.wanted oi (yielded ops a.tmps)))) = true := by kernel_rfl)
  (hQ : ∀ c a w, Q (.panic c) (a.put oi.dst (.agg cs.toArray)) w → Q (.panic c) a w := by exact fun _ _ _ h => h) (hS : S w := by assumption) : wpAnyH P md ops Q S (fuel + 1) listed a w := by
 simp only [Bool.and_eq_true] at hd
 exact wpAnyH_take hi hd.1 hd.2.1 hd.2.2.1 hQ (yieldsIf_load_mid hd.2.2.2 ty x ho b o hx cs d hc hu hr hn) hS h
theorem tst (i : Nat) (b o : Nat) (cs : List Value) {ty : TypeId} {x y : Operand} (hi : ops[i]? = some oi) (ho : oi.op = .store ty x y) (hx : a.eval x = .pointer (some ⟨b, o, none⟩)) (hy : a.eval y = .agg cs.toArray) (ht : w.there b o cs.length)
  (hn : (P.info? ty).map (·.size) = some cs.length) (h1 : ∀ v ∈ cs, v.oneCell' = true) (hS : S (w.setCells b o cs)) (h : S (w.setCells b o cs) → wpAnyH P md ops Q S fuel (listed.setIfInBounds i true) (a.put oi.dst undef) (w.setCells b o cs))
  (hr : Region.ready md ops listed = [i] := by kernel_rfl) (hw : Region.wanted oi (yielded ops a.tmps) = true := by kernel_rfl) : wpAnyH P md ops Q S (fuel + 1) listed a w := by
 refine wpAnyH_ready hr (by simp) (AllReadyH.cons hi (fun K hK => ?_) AllReadyH.nil)
 rw [if_pos hw]
 refine wp_store_mid ty x y ho b o cs.toArray hx hy (by simpa using ht) (by simpa using hn) (all_oneCell_toArray h1) ?_
 have e : cs.toArray.toList = cs := by simp
 rw [e]
 exact hK.out _ _ hS h
theorem put_comm (a : Act) {s t : Tmp} (h : s ≠ t) (u v : Value) : (a.put (some s) u).put (some t) v = (a.put (some t) v).put (some s) u := by
 unfold Act.put
 simp only
 congr 1
 exact Array.setIfInBounds_comm _ _ h
theorem ld_mid {op : Oper} {a : Act} {w : World} {K : Act → World → Prop} {Q : Exit → Act → World → Prop} {ty : TypeId} {x : Operand} (ho : op.op = .load ty x)
  {b o : Nat} (hx : a.eval x = .pointer (some ⟨b, o, none⟩)) {cs : List Value} {d : TypeDesc} (hc : w.rangeAt b o cs)
  (hu : P.underlying ty = some d) (hd : d.isRow = true) (hn : (P.info? ty).map (·.size) = some cs.length)
  (h : K (a.put op.dst (.agg cs.toArray)) w) : op.wp P a w K Q := wp_load_mid ty x ho b o hx cs d hc hu hd hn h
theorem tld2 (i j : Nat) {oi oj : Oper} {ti tj : Tmp} (b o b' o' : Nat) (cs cs' : List Value) {ty : TypeId} {x x' : Operand} {d : TypeDesc} (hi : ops[i]? = some oi) (hj : ops[j]? = some oj) (ho : oi.op = .load ty x) (ho' : oj.op = .load ty x')
  (di : oi.dst = some ti) (dj : oj.dst = some tj) (hx : a.eval x = .pointer (some ⟨b, o, none⟩)) (hx' : a.eval x' = .pointer (some ⟨b', o', none⟩))
  (ex : ∀ v, (a.put (some tj) v).eval x = .pointer (some ⟨b, o, none⟩)) (ex' : ∀ v, (a.put (some ti) v).eval x' = .pointer (some ⟨b', o', none⟩))
  (hc : w.rangeAt b o cs) (hc' : w.rangeAt b' o' cs')
  (hu : P.underlying ty = some d) (hn : (P.info? ty).map (·.size) = some cs.length) (hn' : (P.info? ty).map (·.size) = some cs'.length) (hS : S w)
  (h : wpAnyH P md ops Q S fuel ((listed.setIfInBounds i true).setIfInBounds j true) ((a.put (some ti) (.agg cs.toArray)).put (some tj) (.agg cs'.toArray)) w)
  (hij : i ≠ j) (htij : ti ≠ tj) (hr : d.isRow = true := by rfl)
  (r0 : Region.ready md ops listed = [i, j] := by kernel_rfl) (r1 : Region.ready md ops (listed.setIfInBounds i true) = [j] := by kernel_rfl) (r2 : Region.ready md ops (listed.setIfInBounds j true) = [i] := by kernel_rfl)
  (w0 : Region.wanted oi (yielded ops a.tmps) = true := by kernel_rfl) (w1 : Region.wanted oj (yielded ops a.tmps) = true := by kernel_rfl)
  (w2 : ∀ v, Region.wanted oj (yielded ops (a.put (some ti) v).tmps) = true := by (intro v; kernel_rfl)) (w3 : ∀ v, Region.wanted oi (yielded ops (a.put (some tj) v).tmps) = true := by (intro v; kernel_rfl)) : wpAnyH P md ops Q S (fuel + 1 + 1) listed a w := by
 refine wpAnyH_ready r0 (by simp) (AllReadyH.cons hi (fun K hK => ?_) (AllReadyH.cons hj (fun K hK => ?_) AllReadyH.nil))
 ·rw [if_pos w0]
  refine ld_mid ho hx hc hu hr hn (hK.out _ _ hS fun _ => ?_)
  rw [di]
  refine wpAnyH_ready r1 (by simp) (AllReadyH.cons hj (fun K hK => ?_) AllReadyH.nil)
  rw [if_pos (w2 _)]
  refine ld_mid ho' (ex' _) hc' hu hr hn' (hK.out _ _ hS fun _ => ?_)
  rw [dj]
  exact h
 ·rw [if_pos w1]
  refine ld_mid ho' hx' hc' hu hr hn' (hK.out _ _ hS fun _ => ?_)
  rw [dj]
  refine wpAnyH_ready r2 (by simp) (AllReadyH.cons hi (fun K hK => ?_) AllReadyH.nil)
  rw [if_pos (w3 _)]
  refine ld_mid ho (ex _) hc hu hr hn (hK.out _ _ hS fun _ => ?_)
  rw [di, put_comm a (fun e => htij e.symm), Array.setIfInBounds_comm _ _ (fun e => hij e.symm)]
  exact h
end
end Go.Proofs.YtgociheckcpjkaaGreatDoor.sorts

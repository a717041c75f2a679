/-
 Layer 21, of no program: two patterns, of which one has no star, and two that have some.
-/
import Derived.Test.YtcaaljioennnnabDoorGlobL
namespace Go.Proofs.YtcaaljioennnnabDoor.glob
def noStar (p : List UInt8) : Prop := ∀ c ∈ p, ¬ c = 42
theorem noStar_cons {c : UInt8} {p : List UInt8} (h : noStar (c :: p)) : ¬ c = 42 ∧ noStar p := ⟨h c List.mem_cons_self, fun d hd => h d (List.mem_cons_of_mem _ hd)⟩
theorem meets_matF : ∀ (n : Nat) (a b : List UInt8), a.length + b.length ≤ n → noStar b → meets a b = matF comG a b := by
  intro n
  induction n with
  | zero =>
    intro a b h _
    obtain rfl : a = [] := List.eq_nil_of_length_eq_zero (by omega)
    obtain rfl : b = [] := List.eq_nil_of_length_eq_zero (by omega)
    simp [meets, matF]
  | succ n ih =>
    intro a b h hb
    rcases a with _ | ⟨c, a⟩
    · rcases b with _ | ⟨d, b⟩
      · simp [meets, matF]
      · have := (noStar_cons hb).1
        simp [meets, matF, this]
    · rcases b with _ | ⟨d, b⟩
      · by_cases hc : c = 42
        · subst hc
          rw [matF_star0, ← ih a [] (by simp at h ⊢; omega) hb]
          simp [meets]
        · rw [matF_one0 hc]; simp [meets, hc]
      · have hd := noStar_cons hb
        by_cases hc : c = 42
        · subst hc
          rw [matF_star, ← ih a (d :: b) (by simp at h ⊢; omega) hb, ← ih (42 :: a) b (by simp at h ⊢; omega) hd.2]
          simp only [meets, if_true]
        · rw [matF_one hc, ← ih a b (by simp at h ⊢; omega) hd.2]
          simp only [meets, if_neg hc, if_neg hd.1, comG]
theorem meets_one {a b : List UInt8} (h : noStar b) : meets a b = matF comG a b := meets_matF _ a b (Nat.le_refl _) h
theorem mat_some : ∀ p : List UInt8, ∃ s, mat p s = true
  | [] => ⟨[], by simp [mat]⟩
  | c :: p => by
    obtain ⟨s, h⟩ := mat_some p
    by_cases hc : c = 42
    · subst hc; exact ⟨s, (mat_star _ _).2 ⟨[], s, rfl, h⟩⟩
    · exact ⟨c :: s, (mat_one hc _ _).2 ⟨c, s, rfl, .inr rfl, h⟩⟩
theorem mat_len : ∀ (p s : List UInt8), noStar p → mat p s = true → s.length = p.length
  | [], s, _, h => by rw [(mat_nil s).1 h]
  | c :: p, s, hp, h => by
    obtain ⟨x, t, rfl, -, ht⟩ := (mat_one (noStar_cons hp).1 _ _).1 h
    simp only [List.length_cons, mat_len p t (noStar_cons hp).2 ht]
theorem meets_ahead {a b : List UInt8} (x y : List UInt8) (ha : noStar a) (hb : noStar b) (hl : a.length = b.length) : meets (a ++ x) (b ++ y) = (meets a b && meets x y) := by
  rw [Bool.eq_iff_iff, Bool.and_eq_true, meets_iff, meets_iff, meets_iff]
  constructor
  · rintro ⟨s, h1, h2⟩
    obtain ⟨u, v, rfl, h3, h4⟩ := (mat_app _ _ _).1 h1
    obtain ⟨u', v', e, h5, h6⟩ := (mat_app _ _ _).1 h2
    have := List.append_inj e (by rw [mat_len _ _ ha h3, mat_len _ _ hb h5, hl])
    obtain ⟨rfl, rfl⟩ := this
    exact ⟨⟨u, h3, h5⟩, ⟨v, h4, h6⟩⟩
  · rintro ⟨⟨u, h1, h2⟩, ⟨v, h3, h4⟩⟩
    exact ⟨u ++ v, (mat_app _ _ _).2 ⟨u, v, rfl, h1, h3⟩, (mat_app _ _ _).2 ⟨u, v, rfl, h2, h4⟩⟩
theorem meets_behind {a b : List UInt8} (x y : List UInt8) (ha : noStar a) (hb : noStar b) (hl : a.length = b.length) : meets (x ++ a) (y ++ b) = (meets x y && meets a b) := by
  rw [Bool.eq_iff_iff, Bool.and_eq_true, meets_iff, meets_iff, meets_iff]
  constructor
  · rintro ⟨s, h1, h2⟩
    obtain ⟨u, v, rfl, h3, h4⟩ := (mat_app _ _ _).1 h1
    obtain ⟨u', v', e, h5, h6⟩ := (mat_app _ _ _).1 h2
    have := List.append_inj' e (by rw [mat_len _ _ ha h4, mat_len _ _ hb h6, hl])
    obtain ⟨rfl, rfl⟩ := this
    exact ⟨⟨u, h3, h5⟩, ⟨v, h4, h6⟩⟩
  · rintro ⟨⟨u, h1, h2⟩, ⟨v, h3, h4⟩⟩
    exact ⟨u ++ v, (mat_app _ _ _).2 ⟨u, v, rfl, h1, h3⟩, (mat_app _ _ _).2 ⟨u, v, rfl, h2, h4⟩⟩
/-- one has a star at its beginning, one at its end -/
theorem meets_both {a b : List UInt8} (h1 : a[0]? = some 42) (h2 : a.getLast? = some 42) (hb : (42 : UInt8) ∈ b) : meets a b = true := by
  rw [meets_iff]
  rcases a with _ | ⟨c, a⟩
  · cases h1
  obtain rfl : c = 42 := by simpa using h1
  rcases List.eq_nil_or_concat a with rfl | ⟨a', d, rfl⟩
  · obtain ⟨s, hs⟩ := mat_some b
    exact ⟨s, star_all s, hs⟩
  · obtain rfl : d = 42 := by simpa [List.getLast?_cons, List.getLast?_concat] using h2
    obtain ⟨y, z, rfl⟩ := List.append_of_mem hb
    obtain ⟨s1, q1⟩ := mat_some y
    obtain ⟨s2, q2⟩ := mat_some a'
    obtain ⟨s3, q3⟩ := mat_some z
    refine ⟨s1 ++ (s2 ++ s3), ?_, (mat_app _ _ _).2 ⟨s1, s2 ++ s3, rfl, q1, mat_ahead s2 q3⟩⟩
    refine (mat_star _ _).2 ⟨s1, s2 ++ s3, rfl, ?_⟩
    simpa using mat_more s3 q2
theorem meets_cross {a b : List UInt8} (h1 : a[0]? = some 42) (h2 : b.getLast? = some 42) : meets a b = true := by
  rw [meets_iff]
  rcases a with _ | ⟨c, a⟩
  · cases h1
  obtain rfl : c = 42 := by simpa using h1
  rcases List.eq_nil_or_concat b with rfl | ⟨b', d, rfl⟩
  · cases h2
  · obtain rfl : d = 42 := by simpa [List.getLast?_concat] using h2
    obtain ⟨s1, q1⟩ := mat_some a
    obtain ⟨s2, q2⟩ := mat_some b'
    refine ⟨s2 ++ s1, mat_ahead s2 q1, ?_⟩
    simpa using mat_more s1 q2
theorem meets_mid {a b : List UInt8} (ha : (42 : UInt8) ∈ a) (hb : (42 : UInt8) ∈ b) (h1 : a[0]? = some 42 ∨ b[0]? = some 42) (h2 : a.getLast? = some 42 ∨ b.getLast? = some 42) : meets a b = true := by
  rcases h1 with h1 | h1 <;> rcases h2 with h2 | h2
  · exact meets_both h1 h2 hb
  · exact meets_cross h1 h2
  · rw [meets_comm]; exact meets_cross h1 h2
  · rw [meets_comm]; exact meets_both h1 h2 ha
/-- where the first star stands, and the last one -/
structure Stars (a : List UInt8) (f l : Nat) : Prop where
  first : a[f]? = some 42
  last : a[l]? = some 42
  ahead : ∀ k, k < f → ¬ a[k]? = some 42
  behind : ∀ k, l < k → ¬ a[k]? = some 42
theorem Stars.le {a f l} (h : Stars a f l) : f ≤ l ∧ l < a.length := by
  constructor
  · rcases Nat.lt_or_ge l f with h1 | h1
    · exact absurd h.last (h.ahead l h1)
    · exact h1
  · rcases Nat.lt_or_ge l a.length with h1 | h1
    · exact h1
    · have := h.last; rw [List.getElem?_eq_none h1] at this; cases this
theorem Stars.take {a f l} (h : Stars a f l) {n : Nat} (hn : n ≤ f) : noStar (a.take n) := by
  intro c hc e
  obtain ⟨k, hk, rfl⟩ := List.mem_iff_getElem.1 hc
  rw [List.length_take] at hk
  refine h.ahead k (by omega) ?_
  rw [List.getElem_take] at e
  rw [List.getElem?_eq_getElem (by omega), e]
theorem Stars.drop {a f l} (h : Stars a f l) {n : Nat} (hn : l < n) : noStar (a.drop n) := by
  intro c hc e
  obtain ⟨k, hk, rfl⟩ := List.mem_iff_getElem.1 hc
  rw [List.length_drop] at hk
  refine h.behind (n + k) (by omega) ?_
  rw [List.getElem_drop] at e
  rw [List.getElem?_eq_getElem (by omega), e]
theorem cut_three (a : List UInt8) {m n : Nat} (h : m ≤ n) : a = a.take m ++ ((a.drop m).take (n - m) ++ a.drop n) := by
  have h1 : a.drop n = (a.drop m).drop (n - m) := by rw [List.drop_drop]; congr 1; omega
  rw [h1, List.take_append_drop, List.take_append_drop]
theorem mid_at (a : List UInt8) {m n k : Nat} (h1 : m ≤ k) (h2 : k < n) : ((a.drop m).take (n - m))[k - m]? = a[k]? := by
  rw [List.getElem?_take, if_pos (by omega), List.getElem?_drop]; congr 1; omega
theorem mid_last (a : List UInt8) {m n : Nat} (h1 : m < n) (h2 : n ≤ a.length) : ((a.drop m).take (n - m)).getLast? = a[n - 1]? := by
  rw [List.getLast?_eq_getElem?]
  have : ((a.drop m).take (n - m)).length - 1 = n - 1 - m := by rw [List.length_take, List.length_drop]; omega
  rw [this, mid_at a (by omega) (by omega)]
theorem meets_stars {a b : List UInt8} {f l g m : Nat} (ha : Stars a f l) (hb : Stars b g m) :
    meets a b = (matF comG (a.take (min f g)) (b.take (min f g)) && matF comG (a.drop (a.length - (min (a.length - l) (b.length - m) - 1))) (b.drop (b.length - (min (a.length - l) (b.length - m) - 1)))) := by
  obtain ⟨a1, a2⟩ := ha.le
  obtain ⟨b1, b2⟩ := hb.le
  generalize hh : min f g = h
  generalize ht : min (a.length - l) (b.length - m) - 1 = t
  have q1 : h ≤ f := by omega
  have q2 : h ≤ g := by omega
  have q3 : t + 1 ≤ a.length - l := by omega
  have q4 : t + 1 ≤ b.length - m := by omega
  have q5 : h = f ∨ h = g := by omega
  have q6 : t + 1 = a.length - l ∨ t + 1 = b.length - m := by omega
  have na := ha.drop (n := a.length - t) (by omega)
  have nb := hb.drop (n := b.length - t) (by omega)
  rw [← meets_one (hb.take q2), ← meets_one nb]
  conv => lhs; rw [cut_three a (show h ≤ a.length - t by omega), cut_three b (show h ≤ b.length - t by omega)]
  rw [meets_ahead _ _ (ha.take q1) (hb.take q2) (by rw [List.length_take, List.length_take]; omega)]
  rw [meets_behind _ _ na nb (by rw [List.length_drop, List.length_drop]; omega)]
  have hm : meets ((a.drop h).take (a.length - t - h)) ((b.drop h).take (b.length - t - h)) = true := by
   apply meets_mid
   · apply List.mem_of_getElem? (i := f - h); rw [mid_at a q1 (by omega)]; exact ha.first
   · apply List.mem_of_getElem? (i := g - h); rw [mid_at b q2 (by omega)]; exact hb.first
   · rcases q5 with q | q
     · left; have := mid_at a (Nat.le_refl h) (show h < a.length - t by omega); rw [Nat.sub_self] at this; rw [this, q]; exact ha.first
     · right; have := mid_at b (Nat.le_refl h) (show h < b.length - t by omega); rw [Nat.sub_self] at this; rw [this, q]; exact hb.first
   · rcases q6 with q | q
     · left; rw [mid_last a (by omega) (by omega), show a.length - t - 1 = l by omega]; exact ha.last
     · right; rw [mid_last b (by omega) (by omega), show b.length - t - 1 = m by omega]; exact hb.last
  rw [hm, Bool.true_and]
end Go.Proofs.YtcaaljioennnnabDoor.glob

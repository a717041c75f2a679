/-
  Layer 5: a pool that is written is read as it was; what is read is written so: as plain mathematics.
-/
import Derived.Test.YtdenpefihplnoaaPoolT
import Derived.Test.YtdenpefihplnoaaBackNum
import Derived.Test.YtdenpefihplnoaaPool5W
namespace Go.Proofs.Ytdenpefihplnoaa.poolt
open Go.Proofs.Ytdenpefihplnoaa.num Go.Proofs.Ytdenpefihplnoaa.words Go.Proofs.Ytdenpefihplnoaa.poolp Go.Proofs.Ytdenpefihplnoaa.pool Go.Proofs.Ytdenpefihplnoaa.rdnum Go.Proofs.Ytdenpefihplnoaa.give Go.Proofs.Ytdenpefihplnoaa.write

theorem toS_NL (x : Str) : toS (NL x) = x := by
  unfold toS NL
  rw [List.map_map]
  have : (UInt8.ofNat ∘ fun (y : UInt8) => y.toNat) = id := by funext y; simp
  rw [this, List.map_id]
theorem NL_toS {v : List Nat} (h : ∀ c ∈ v, c < 256) : NL (toS v) = v := by
  unfold toS NL
  rw [List.map_map]
  conv => rhs; rw [← List.map_id v]
  refine List.map_congr_left fun c hc => ?_
  simp [Nat.mod_eq_of_lt (h c hc)]
theorem wrong_up {acc : List Str} {x : Str} {r : List Str} (h : Up (acc ++ x :: r)) : wrong acc x = false := by
  unfold wrong
  cases hl : acc.getLast? with
  | none => rfl
  | some y =>
    have hy := List.mem_of_getLast? hl
    have := (List.pairwise_append.1 h).2.2 y hy x List.mem_cons_self
    simp [this]
theorem takeP_put : ∀ (r acc : List Str) (pre : List Nat), (∀ x ∈ r, x.length ≤ 64) → Up (acc ++ r) →
    takeP r.length ⟨pre ++ bodyL r, pre.length, 0, 0⟩ acc = (⟨pre ++ bodyL r, (pre ++ bodyL r).length, 0, 0⟩, acc ++ r)
  | [], acc, pre, _, _ => by simp [takeP, bodyL]
  | x :: r, acc, pre, h64, hu => by
    have hb : pre ++ bodyL (x :: r) = pre ++ (putL (NL x).length ++ (NL x ++ bodyL r)) := by
      show pre ++ (textL (NL x) ++ bodyL r) = _
      unfold textL; rw [List.append_assoc]
    have ht := textT_put pre (bodyL r) (NL x) (by rw [NL_len]; exact h64 x List.mem_cons_self)
    have hb2 : pre ++ bodyL (x :: r) = (pre ++ textL (NL x)) ++ bodyL r := by show pre ++ (textL (NL x) ++ bodyL r) = _; rw [List.append_assoc]
    rw [← hb] at ht
    have hq : pre.length + (putL (NL x).length).length + (NL x).length = (pre ++ textL (NL x)).length := by unfold textL; simp; omega
    rw [hq] at ht
    have hs : nextS ⟨pre ++ bodyL (x :: r), pre.length, 0, 0⟩ = x := by unfold nextS; rw [ht, Rs.ans_ok rfl rfl]; exact toS_NL x
    have hr : nextR ⟨pre ++ bodyL (x :: r), pre.length, 0, 0⟩ = ⟨pre ++ bodyL (x :: r), (pre ++ textL (NL x)).length, 0, 0⟩ := by unfold nextR; rw [ht, Rs.go_ok rfl rfl]
    have hf : nextF ⟨pre ++ bodyL (x :: r), pre.length, 0, 0⟩ acc = ⟨pre ++ bodyL (x :: r), (pre ++ textL (NL x)).length, 0, 0⟩ := by
      unfold nextF; rw [hs, wrong_up hu, if_neg (by simp), hr]
    rw [List.length_cons, takeP_good (by rw [hf]), hf, hs]
    have ih := takeP_put r (acc ++ [x]) (pre ++ textL (NL x)) (fun y hy => h64 y (List.mem_cons_of_mem _ hy)) (by rw [List.append_assoc]; exact hu)
    rw [hb2, ih, List.append_assoc acc]; rfl
/-- A POOL THAT IS WRITTEN IS READ AS IT WAS. -/
theorem pool_read {p : List Str} (h : IsPool p) : poolT ⟨bytesL p, 0, 0, 0⟩ = (⟨bytesL p, (bytesL p).length, 0, 0⟩, p) := by
  have hn := numT_put [] (bodyL p) p.length 1024 (by have := h.2.1; omega) (by have := h.2.1; omega)
  have hl : ([] : List Nat) ++ (putL p.length ++ bodyL p) = bytesL p := rfl
  rw [hl] at hn
  unfold poolT
  simp only [List.length_nil, Nat.zero_add] at hn
  rw [hn, Rs.ans_ok rfl rfl, Rs.go_ok rfl rfl]
  exact takeP_put p [] (putL p.length) h.2.2 h.1

/-- a number that is read is what its bytes are -/
theorem numT_written {l : List Nat} {p : Nat} {m : Int} (hp : p ≤ l.length) (hl : ∀ c ∈ l, c < 256) (h : (numT l p m).e = 0) :
    putL (numT l p m).v = (l.drop p).take ((numT l p m).q - p) ∧ p ≤ (numT l p m).q ∧ (numT l p m).q ≤ l.length ∧ ((numT l p m).v : Int) ≤ m := by
  obtain ⟨h0, he, hv, _, hq, _⟩ := numT_ok hp hl h
  rw [he] at hq ⊢
  have h2 : (takeAt l p).2.2 = 0 := by
    unfold lebT at h0
    by_cases h1 : (takeAt l p).2.2 = 0
    · exact h1
    · rw [if_neg h1] at h0; exact absurd h0 h1
  have hin := takeAt_in hp
  have h1 : (takeGo 0 0 (l.drop p)).2.2 = 0 := by rw [hin] at h2; exact h2
  obtain ⟨a1, _, a3, _⟩ := put_take0 (l := l.drop p) (fun c hc => hl c (List.mem_of_mem_drop hc)) (x := (takeGo 0 0 (l.drop p)).1) (k := (takeGo 0 0 (l.drop p)).2.1) (Prod.ext rfl (Prod.ext rfl h1))
  have hv2 : (lebT l p).v = (takeGo 0 0 (l.drop p)).1 := by unfold lebT; rw [if_pos h2, hin]
  have hq2 : (lebT l p).q = p + (takeGo 0 0 (l.drop p)).2.1 := by unfold lebT; rw [if_pos h2, hin, if_pos h1]
  refine ⟨?_, by omega, hq, hv⟩
  rw [hv2, hq2, a1]
  congr 1; omega
theorem drop_join (l : List Nat) {p q r : Nat} (h1 : p ≤ q) (h2 : q ≤ r) : (l.drop p).take (q - p) ++ (l.drop q).take (r - q) = (l.drop p).take (r - p) := by
  have e : l.drop q = (l.drop p).drop (q - p) := by rw [List.drop_drop]; congr 1; omega
  rw [e, ← List.take_add]
  congr 1; omega
/-- a text that is read is what its bytes are -/
theorem textT_written {l : List Nat} {p : Nat} (hp : p ≤ l.length) (hl : ∀ c ∈ l, c < 256) (h : (textT l p).e = 0) :
    textL (textT l p).v = (l.drop p).take ((textT l p).q - p) ∧ p ≤ (textT l p).q ∧ (textT l p).q ≤ l.length ∧ (textT l p).v.length ≤ 64 ∧ ∀ c ∈ (textT l p).v, c < 256 := by
  unfold textT at h ⊢
  by_cases h0 : (numT l p 64).e = 0
  · rw [if_neg (by simpa using h0)] at h ⊢
    obtain ⟨a1, a2, a3, a4⟩ := numT_written hp hl h0
    unfold bytesT at h ⊢
    by_cases h1 : l.length - (numT l p 64).q < (numT l p 64).v
    · rw [if_pos h1] at h; cases h
    · rw [if_neg h1]
      have hlen : ((l.drop (numT l p 64).q).take (numT l p 64).v).length = (numT l p 64).v := by rw [List.length_take, List.length_drop]; omega
      refine ⟨?_, by dsimp only; omega, by dsimp only; omega, by dsimp only; omega, fun c hc => hl c (List.mem_of_mem_drop (List.mem_of_mem_take hc))⟩
      dsimp only
      unfold textL
      rw [hlen, a1]
      have := drop_join l a2 (show (numT l p 64).q ≤ (numT l p 64).q + (numT l p 64).v by omega)
      rw [show (numT l p 64).q + (numT l p 64).v - (numT l p 64).q = (numT l p 64).v by omega] at this
      exact this
  · rw [if_pos (by simpa using h0)] at h; exact absurd h h0
theorem right_up {acc : List Str} {x : Str} (h : Up acc) (hw : wrong acc x = false) : Up (acc ++ [x]) := by
  refine up_snoc h fun y hy => ?_
  unfold wrong at hw
  cases hl : acc.getLast? with
  | none => rw [List.getLast?_eq_none_iff] at hl; rw [hl] at hy; cases hy
  | some z =>
    rw [hl] at hw
    have hzx : z < x := by simpa using hw
    obtain ⟨i, hi⟩ := List.getElem?_of_mem hy
    have hz : acc[acc.length - 1]? = some z := by rw [← List.getLast?_eq_getElem?]; exact hl
    by_cases he : i = acc.length - 1
    · rw [he, hz] at hi; cases hi; exact hzx
    · have hlt : i < acc.length := by
        rcases Nat.lt_or_ge i acc.length with h1 | h1
        · exact h1
        · rw [List.getElem?_eq_none h1] at hi; cases hi
      exact List.lt_trans ((up_at h hi hz).1 (by omega)) hzx
theorem takeP_written : ∀ (k : Nat) (s : Rs) (acc : List Str), s.Ok → s.e = 0 → Up acc → (∀ x ∈ acc, x.length ≤ 64) → (takeP k s acc).1.e = 0 →
    ∃ r, (takeP k s acc).2 = acc ++ r ∧ r.length = k ∧ Up (acc ++ r) ∧ (∀ x ∈ acc ++ r, x.length ≤ 64) ∧ bodyL r = (s.l.drop s.p).take ((takeP k s acc).1.p - s.p) ∧ s.p ≤ (takeP k s acc).1.p ∧ (takeP k s acc).1.p ≤ s.l.length
  | 0, s, acc, ho, he, hu, h64, _ => ⟨[], by simp [takeP], rfl, by simpa using hu, by simpa using h64, by simp [takeP, bodyL], by simp [takeP], by simpa [takeP] using ho.le⟩
  | k + 1, s, acc, ho, he, hu, h64, h => by
    by_cases hf : (nextF s acc).e = 0
    · rw [takeP_good hf] at h ⊢
      have hw : wrong acc (nextS s) = false := by
        cases hw : wrong acc (nextS s) with
        | false => rfl
        | true => unfold nextF at hf; rw [if_pos hw] at hf; exact absurd hf fail_ne
      have hnf : nextF s acc = nextR s := by unfold nextF; rw [if_neg (by rw [hw]; simp)]
      rw [hnf] at hf h ⊢
      have ht : (textT s.l s.p).e = 0 := by
        by_cases h1 : (textT s.l s.p).e = 0
        · exact h1
        · unfold nextR at hf; rw [Rs.go_err he h1] at hf
          exact absurd (by simpa using hf) h1
      have hr : nextR s = { s with p := (textT s.l s.p).q } := by unfold nextR; rw [Rs.go_ok he ht]
      have hx : nextS s = toS (textT s.l s.p).v := by unfold nextS; rw [Rs.ans_ok he ht]
      obtain ⟨a1, a2, a3, a4, a5⟩ := textT_written ho.le ho.byte ht
      have hxl : (nextS s).length ≤ 64 := by rw [hx]; unfold toS; rw [List.length_map]; exact a4
      rw [hr] at h ⊢
      obtain ⟨r, b1, b2, b3, b4, b5, b6, b7⟩ := takeP_written k { s with p := (textT s.l s.p).q } (acc ++ [nextS s]) ⟨a3, ho.len, ho.byte, ho.fe⟩ he (right_up hu hw) (fun x hm => (List.mem_append.1 hm).elim (h64 x) (fun h1 => by rw [List.mem_singleton.1 h1]; exact hxl)) h
      refine ⟨nextS s :: r, by rw [b1, List.append_assoc]; rfl, by rw [List.length_cons, b2], by rw [List.append_assoc] at b3; exact b3, by rw [List.append_assoc] at b4; exact b4, ?_, by dsimp only at b6; omega, b7⟩
      show textL (NL (nextS s)) ++ bodyL r = _
      rw [b5, show NL (nextS s) = (textT s.l s.p).v by rw [hx]; exact NL_toS a5, a1]
      exact drop_join s.l a2 b6
    · rw [takeP_bad hf] at h; exact absurd h hf
/-- WHAT IS READ IS WRITTEN SO. -/
theorem pool_written {s : Rs} (ho : s.Ok) (he : s.e = 0) (hp : s.p = 0) (h : (poolT s).1.e = 0) : IsPool (poolT s).2 ∧ bytesL (poolT s).2 = s.l.take (poolT s).1.p ∧ (poolT s).1.p ≤ s.l.length := by
  unfold poolT at h ⊢
  by_cases hn : (numT s.l s.p 1024).e = 0
  · rw [Rs.ans_ok he hn, Rs.go_ok he hn] at h ⊢
    obtain ⟨a1, a2, a3, a4⟩ := numT_written ho.le ho.byte hn
    obtain ⟨r, b1, b2, b3, b4, b5, b6, b7⟩ := takeP_written (numT s.l s.p 1024).v { s with p := (numT s.l s.p 1024).q } [] ⟨a3, ho.len, ho.byte, ho.fe⟩ he List.Pairwise.nil (by simp) h
    rw [b1]
    simp only [List.nil_append] at b3 b4 ⊢
    refine ⟨⟨b3, by rw [b2]; omega, b4⟩, ?_, b7⟩
    unfold bytesL
    rw [b2, a1, b5]
    have := drop_join s.l a2 b6
    rw [hp] at this ⊢
    simpa using this
  · have hz : s.ans (numT s.l s.p 1024) 0 = 0 := Rs.ans_err hn
    rw [hz, Rs.go_err he hn] at h
    exact absurd (by simpa [takeP] using h) hn
end Go.Proofs.Ytdenpefihplnoaa.poolt

/-
 Layer 22: an argument that is some rules: what lies in it, and how it is bounded.
-/
import Derived.Test.YtcaaljioennnnabDoorFrameT
import Derived.Test.YtcaaljioennnnabDoorRulC
import Derived.Deep.Slices
import Derived.ChangeArms
namespace Go.Proofs.YtcaaljioennnnabDoor.framev
open Go.ChangeShapes Go.WideShapes Go.ChangeAt Go.RowKit Go.Deep
open Go.Proofs.YtcaaljioennnnabDoor.words Go.Proofs.YtcaaljioennnnabDoor.frame Go.Proofs.YtcaaljioennnnabDoor.rul
set_option linter.all false
theorem flat_len {α : Type} {f : α → List Value} {k : Nat} (hf : ∀ x, (f x).length = k) : ∀ l : List α, (l.flatMap f).length = l.length * k
 | [] => by simp
 | x :: l => by rw [List.flatMap_cons, List.length_append, hf, flat_len hf l, List.length_cons, Nat.succ_mul, Nat.add_comm]
theorem flat_at {α : Type} {f : α → List Value} {k : Nat} (hf : ∀ x, (f x).length = k) : ∀ {l : List α} {i : Nat} {x : α} {t : Nat} {u : Value}, l[i]? = some x → (f x)[t]? = some u → (l.flatMap f)[i * k + t]? = some u
 | [], _, _, _, _, h, _ => by simp at h
 | y :: l, 0, x, t, u, h, hu => by
  simp at h; subst h
  rw [List.flatMap_cons, Nat.zero_mul, Nat.zero_add, List.getElem?_append_left (List.getElem?_eq_some_iff.1 hu).1]
  exact hu
 | y :: l, i + 1, x, t, u, h, hu => by
  rw [List.flatMap_cons, List.getElem?_append_right (by rw [hf, Nat.succ_mul]; omega), hf, show (i + 1) * k + t - k = i * k + t by rw [Nat.succ_mul]; omega]
  exact flat_at hf (by simpa using h) hu
/-- all weights of a datum are within the reach -/
def Wt {H : Type} (P : Program) (t : TypeId) (d : DataW H) : Prop := ∀ m ∈ DataW.weights P t d, m ≤ 140737488351232
section
variable {H : Type} {enc : TypeId × Value → H} {W : World} {P : Program}
/-- A SLICE WHOSE ELEMENTS ARE OPENED ONE BY ONE -/
theorem open_rows {α : Type} [Inhabited α] {t e : TypeId} {k bytes : Nat} {f : α → List Value} {Ok Bd : α → Prop} (ht : P.underlying t = some (.slice e)) (hk : P.cellsOf e = k) (hby : P.bytesOf e = bytes) (hf : ∀ a, (f a).length = k) (h0 : 0 < k)
  (hone : ∀ {n : Nat} {cs : List Value} {x : DataW H × List MemPlace}, DataW.trod enc P W 0 (fun _ => true) true n e cs = some x → ∃ a, cs = f a ∧ Ok a ∧ (Wt P e x.1 → Bd a))
  {n : Nat} {cs : List Value} {x : DataW H × List MemPlace} (h : DataW.trod enc P W 0 (fun _ => true) true n t cs = some x) :
  ∃ (A : Option Addr) (c : Nat) (l : List α), cs = [.slice A l.length c] ∧ l.length ≤ c ∧ Rd W A (l.flatMap f) ∧ (∀ a ∈ l, Ok a) ∧ (Wt P t x.1 → l.length * bytes ≤ 140737488351232 ∧ ∀ a ∈ l, Bd a) := by
 rcases open_slice ht h with ⟨rfl, rfl⟩ | ⟨a, len, cap, m, n', D, Pl, rfl, -, hl, -, hm, rfl, hx⟩
 ·exact ⟨none, 0, [], rfl, Nat.le_refl _, .inl rfl, by simp, fun _ => by simp⟩
 ·have hmc : m = cap := by simpa using hm
  have each : ∀ i, i < len → ∃ q : α, (W.cells? 0 (a.add (i * k)) k = some (f q)) ∧ Ok q ∧ (Wt P e (D i) → Bd q) := by
   intro i hi
   obtain ⟨cs', h1, h2⟩ := hx i (by omega)
   rw [hk] at h1
   obtain ⟨q, rfl, hok, hbd⟩ := hone h2
   exact ⟨q, h1, hok, hbd⟩
  obtain ⟨q, hq⟩ := choose_lt each
  refine ⟨some a, cap, (List.range len).map q, by simp, by simpa using hl, ?_, ?_, ?_⟩
  ·by_cases hz : len = 0
   ·subst hz; exact .inl rfl
   ·have hc : ∀ i t u, i < len → t < k → (f (q i))[t]? = some u → W.cell? (a.add (i * k + t)) = some u := by
     intro i t u hi ht2 hu
     obtain ⟨-, hlen, hat⟩ := World.cells?_some (hq i hi).1
     rw [← words.add_add, hat t ht2]; exact hu
    refine .inr ⟨a, rfl, ?_, fun j u hu => ?_⟩
    ·obtain ⟨u, hu⟩ : ∃ u, (f (q 0))[0]? = some u := ⟨_, List.getElem?_eq_getElem (by rw [hf]; exact h0)⟩
     have := cell_lt (hc 0 0 u (by omega) h0 hu)
     rwa [add_block] at this
    ·have hjl : j < len * k := by
      have := (List.getElem?_eq_some_iff.1 hu).1
      rw [flat_len hf] at this; simpa using this
     have hi : j / k < len := Nat.div_lt_of_lt_mul (by rw [Nat.mul_comm]; exact hjl)
     have ht2 : j % k < k := Nat.mod_lt _ h0
     have hjj : j / k * k + j % k = j := by rw [Nat.mul_comm]; exact Nat.div_add_mod j k
     obtain ⟨v, hv⟩ : ∃ v, (f (q (j / k)))[j % k]? = some v := ⟨_, List.getElem?_eq_getElem (by rw [hf]; exact ht2)⟩
     have hg := flat_at hf (l := (List.range len).map q) (i := j / k) (x := q (j / k)) (by rw [List.getElem?_map, List.getElem?_range hi]; rfl) hv
     rw [hjj, hu] at hg
     cases hg
     have := hc _ _ _ hi ht2 hv
     rwa [hjj] at this
  ·intro y hy
   obtain ⟨i, hi, rfl⟩ := List.mem_map.1 hy
   exact (hq i (by simpa using hi)).2.1
  ·intro hw
   have hw2 : ∀ m', m' ∈ (((List.range len).map D).length + ((List.range (m - len)).map fun j => D (len + j)).length) * P.bytesOf e :: (DataW.weightsAll P e ((List.range len).map D) ++ DataW.weightsAll P e ((List.range (m - len)).map fun j => D (len + j))) → m' ≤ 140737488351232 := by
    intro m' hm'
    refine hw m' ?_
    simp only [DataW.weights, ht]
    exact hm'
   refine ⟨?_, ?_⟩
   ·have := hw2 _ (List.mem_cons_self ..)
    rw [hby] at this
    simp only [List.length_map, List.length_range] at this ⊢
    have h2 : len * bytes ≤ (len + (m - len)) * bytes := Nat.mul_le_mul_right _ (by omega)
    omega
   ·intro y hy
    obtain ⟨i, hi, rfl⟩ := List.mem_map.1 hy
    have hi2 : i < len := by simpa using hi
    refine (hq i hi2).2.2 fun m' hm' => hw2 m' (List.mem_cons_of_mem _ (List.mem_append_left _ (weights_all hm' (List.mem_map.2 ⟨i, List.mem_range.2 hi2, rfl⟩))))
end


instance : Inhabited Ru := ⟨⟨false, false, [], [], []⟩⟩
section
variable {H : Type} {enc : TypeId × Value → H} {W : World}
set_option maxRecDepth 100000 in
theorem one_rule {n : Nat} {cs : List Value} {x : DataW H × List MemPlace} (h : DataW.trod enc Tryd.prog W 0 (fun _ => true) true n 23 cs = some x) : ∃ y : Ru, cs = ruC y ∧ True ∧ (Wt Tryd.prog 23 x.1 → RuOk y) := by
  have hc : Tryd.prog.cellsOf 23 = 5 := by kernel_rfl
  obtain ⟨xs, m, _, hd, hlen, hn, hel⟩ := DataW.trod_struct Tryd.underlying23 h
  obtain ⟨c0, c1, c2, c3, c4, rfl⟩ : ∃ c0 c1 c2 c3 c4, cs = [c0, c1, c2, c3, c4] := by
    have hl : cs.length = 5 := hlen.trans hc
    match cs, hl with
    | [a, b, c, d, e], _ => exact ⟨a, b, c, d, e, rfl⟩
  have hs1 : Tryd.prog.cellsOf 9 = 1 := by kernel_rfl
  have hb1 : Tryd.prog.cellsOf 4 = 1 := by kernel_rfl
  obtain ⟨y0, y1, y2, y3, y4, rfl⟩ : ∃ y0 y1 y2 y3 y4, xs = [y0, y1, y2, y3, y4] := by
    match xs, hn with
    | [a, b, c, d, e], _ => exact ⟨a, b, c, d, e, rfl⟩
  have g0 : DataW.trod enc Tryd.prog W 0 (fun _ => true) true m 4 (([c0, c1, c2, c3, c4].drop 0).take (Tryd.prog.cellsOf 4)) = some y0 := hel 0 _ rfl
  have g1 : DataW.trod enc Tryd.prog W 0 (fun _ => true) true m 4 (([c0, c1, c2, c3, c4].drop 1).take (Tryd.prog.cellsOf 4)) = some y1 := hel 1 _ rfl
  have g2 : DataW.trod enc Tryd.prog W 0 (fun _ => true) true m 9 (([c0, c1, c2, c3, c4].drop 2).take (Tryd.prog.cellsOf 9)) = some y2 := hel 2 _ rfl
  have g3 : DataW.trod enc Tryd.prog W 0 (fun _ => true) true m 9 (([c0, c1, c2, c3, c4].drop 3).take (Tryd.prog.cellsOf 9)) = some y3 := hel 3 _ rfl
  have g4 : DataW.trod enc Tryd.prog W 0 (fun _ => true) true m 9 (([c0, c1, c2, c3, c4].drop 4).take (Tryd.prog.cellsOf 9)) = some y4 := hel 4 _ rfl
  rw [hb1] at g0 g1
  rw [hs1] at g2 g3 g4
  obtain ⟨b0, e0, x0⟩ := DataW.trod_bool Tryd.underlying4 g0
  obtain ⟨b1, e1, x1⟩ := DataW.trod_bool Tryd.underlying4 g1
  obtain ⟨s2, e2, x2, -⟩ := DataW.trod_string Tryd.underlying9 g2
  obtain ⟨s3, e3, x3, -⟩ := DataW.trod_string Tryd.underlying9 g3
  obtain ⟨s4, e4, x4, -⟩ := DataW.trod_string Tryd.underlying9 g4
  replace e0 : [c0] = [Value.bool b0] := e0
  replace e1 : [c1] = [Value.bool b1] := e1
  replace e2 : [c2] = [Value.string s2] := e2
  replace e3 : [c3] = [Value.string s3] := e3
  replace e4 : [c4] = [Value.string s4] := e4
  simp only [List.cons.injEq, and_true] at e0 e1 e2 e3 e4
  subst e0 e1 e2 e3 e4 x0 x1 x2 x3 x4
  refine ⟨⟨b0, b1, s2.data.toList, s3.data.toList, s4.data.toList⟩, rfl, trivial, fun hw => ?_⟩
  have hw' : Wt Tryd.prog 23 (DataW.agg (H := H) [.lit (.bool b0), .lit (.bool b1), .lit (.string s2.data.toList), .lit (.string s3.data.toList), .lit (.string s4.data.toList)]) := by rw [hd] at hw; exact hw
  unfold Wt at hw'
  simp [DataW.weights, DataW.weightsEach, Tryd.underlying23] at hw'
  exact ⟨by simpa using hw'.1, by simpa using hw'.2.1, by simpa using hw'.2.2⟩
set_option maxRecDepth 100000 in
theorem open_rules {base : Nat} {v : Value} {d : DataW H} {p : List MemPlace} (hok : Value.okWide Tryd.prog W .any base 32 v) (h : DataW.Trod enc Tryd.prog W 0 (fun _ => true) true 32 v d p) :
  ∃ (A : Option Addr) (c : Nat) (L : List Ru), v = .slice A L.length c ∧ L.length ≤ c ∧ Rd W A (L.flatMap ruC) ∧ (Wt Tryd.prog 32 d → L.length ≤ 140737488351232 ∧ ∀ r ∈ L, RuOk r) := by
 obtain ⟨A, n, c, rfl⟩ := okWide_slice Tryd.underlying32 hok
 obtain ⟨fuel, hf⟩ := h
 obtain ⟨A5, k5, z5, e5, l5, r5, o5, w5⟩ := open_rows (k := 5) (bytes := 56) Tryd.underlying32 (by kernel_rfl) (by kernel_rfl) (fun _ => rfl) (by omega) one_rule hf
 simp [Value.cells] at e5
 obtain ⟨rfl, rfl, rfl⟩ := e5
 exact ⟨_, _, z5, rfl, l5, r5, fun hw => ⟨by have := (w5 hw).1; omega, (w5 hw).2⟩⟩
theorem wt_reach {ts : List TypeId} {ds : List (DataW H)} (h : (DataW.weightsEach Tryd.prog ts ds).all (· ≤ reachBytes) = true) {j : Nat} {t : TypeId} {d : DataW H} (ht : ts[j]? = some t) (hj : ds[j]? = some d) : Wt Tryd.prog t d := by
 have h3 : reachBytes = 140737488351232 := by decide
 intro m hm
 have := List.all_eq_true.1 h _ (DataW.weights_mem_each ht hj _ hm)
 simp only [decide_eq_true_eq] at this
 omega
end
end Go.Proofs.YtcaaljioennnnabDoor.framev

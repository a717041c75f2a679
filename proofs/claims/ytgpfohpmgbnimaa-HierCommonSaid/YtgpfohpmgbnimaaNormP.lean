/-
 Layer 8, of no program: what a program must be to be right, and in order; all its strings.
-/
import Derived.Test.YtgpfohpmgbnimaaPrgM
import Derived.Test.YtgpfohpmgbnimaaOpL
/- Layer 8, of no program: what a program must be to be right, and in order. -/
namespace Go.Proofs.Ytgpfohpmgbnimaa.prg
open Go.RowKit
open words kindp opp op kind

def ltT (a b : Tx) : Bool := decide (a < b)
def initT : Tx := [60, 99, 108, 105, 110, 105, 116, 62]
/-- each member and the next one stand so -/
def risesB {α : Type} (lt : α → α → Bool) (l : List α) : Bool := (List.range l.length).all fun j => match l[j]?, l[j + 1]? with | some x, some y => lt x y | _, _ => true
theorem rises_yes {α : Type} {lt : α → α → Bool} {l : List α} (h : ∀ j x y, l[j]? = some x → l[j + 1]? = some y → lt x y = true) : risesB lt l = true := by
 unfold risesB
 rw [List.all_eq_true]
 intro j _
 cases h1 : l[j]? with
 | none => rfl
 | some x =>
  cases h2 : l[j + 1]? with
  | none => rfl
  | some y => exact h j x y h1 h2
theorem rises_no {α : Type} {lt : α → α → Bool} {l : List α} {j : Nat} {x y : α} (h1 : l[j]? = some x) (h2 : l[j + 1]? = some y) (h : lt x y = false) : risesB lt l = false := by
 cases hr : risesB lt l with
 | false => rfl
 | true =>
  unfold risesB at hr
  rw [List.all_eq_true] at hr
  have hj : j < l.length := (List.getElem?_eq_some_iff.1 h1).1
  have := hr j (List.mem_range.2 hj)
  rw [h1, h2] at this
  dsimp only at this
  rw [h] at this; cases this
theorem rises_at {α : Type} {lt : α → α → Bool} {l : List α} (h : risesB lt l = true) {j : Nat} {x y : α} (h1 : l[j]? = some x) (h2 : l[j + 1]? = some y) : lt x y = true := by
 cases hl : lt x y with
 | true => rfl
 | false => rw [rises_no h1 h2 hl] at h; cases h
def memberB (s : Tx) : Bool := nmL s && !(s == initT)
def fieldB (f : FiM) : Bool := memberB f.nm && (rightT (f.k, f.cl) && !(f.k == 1))
def handedN (m : MeM) (n : Nat) : Nat := if m.st then n else n + 1
def codeB (m : MeM) : Bool := decide (0 < m.co.length) && (decide (m.co.length ≤ 256) && m.co.all fun x => fitsE x.i m.rg (m.co.length : Int) == 0)
def abstractB (m : MeM) : Bool := !m.st && (!(m.nm == initT) && (decide (m.co.length = 0) && m.rg == 0))
def concreteB (m : MeM) : Bool := decide ((handedN m (splitT m.ds).1.length : Int) ≤ m.rg) && (codeB m && (!(m.nm == initT) || (m.st && m.ds == [40, 41, 86])))
def headB (m : MeM) : Bool := decide ((splitT m.ds).2.2 = 0) && (nmL m.nm && (decide (0 ≤ m.rg) && decide (m.rg ≤ 32)))
def methodB (m : MeM) : Bool := headB m && (if m.ab = true then abstractB m else concreteB m)
def superB (c : ClM) : Bool := (c.su == []) || (!(c.su == c.nm) && clsB c.su)
def bareIfaceB (c : ClM) : Bool := c.ab && ((c.su == []) && (decide (c.fs.length = 0) && c.ms.all (·.ab)))
def classB (c : ClM) : Bool := clsB c.nm && (superB c && (c.is.all clsB && ((!c.fc || bareIfaceB c) && (c.fs.all fieldB && (c.ms.all methodB && (c.ab || !c.ms.any (·.ab)))))))
def entryB (p : PrM) : Bool := ((p.ec == []) && ((p.en == []) && (p.ed == []))) || (clsB p.ec && (memberB p.en && ((p.ed == [40, 41, 73]) || (p.ed == [40, 41, 86]))))
def fewNamesB (l : List Tx) : Bool := decide (l.length ≤ 64) && l.all fun s => decide (s.length ≤ 64)
def fewB (c : ClM) : Bool := decide (c.is.length ≤ 8) && (decide (c.fs.length ≤ 32) && decide (c.ms.length ≤ 32))
def ltF (a b : FiM) : Bool := ltT a.nm b.nm
def ltM (a b : MeM) : Bool := ltT a.nm b.nm || ((a.nm == b.nm) && ltT a.ds b.ds)
def ltC (a b : ClM) : Bool := ltT a.nm b.nm
def orderC (c : ClM) : Bool := risesB ltT c.is && (risesB ltF c.fs && risesB ltM c.ms)
def orderB (p : PrM) : Bool := risesB ltC p.cs && p.cs.all orderC
def longP (p : PrM) : Bool := !fewNamesB p.ns || (decide (64 < p.cs.length) || !p.cs.all fewB)
def rightE (p : PrM) : Int := if longP p = true then 3 else if (!p.cs.all classB || !entryB p) = true then 1 else if orderB p = false then 5 else 0
end Go.Proofs.Ytgpfohpmgbnimaa.prg

/- Layer 8, of no program: all strings that a program has, and what of a program that can be is said of its code. -/
namespace Go.Proofs.Ytgpfohpmgbnimaa.prg
open Go.RowKit
open words kindp opp op kind

/-- those that are not empty -/
def filledL (l : List Tx) : List Tx := l.filter fun s => !(s == [])
def instrL (x : InM) : List Tx := filledL [x.i.cl, x.i.nm, x.i.ds]
def methL (m : MeM) : List Tx := [m.nm, m.ds] ++ m.co.flatMap instrL
def fieldL (f : FiM) : List Tx := [f.nm, textT (f.k, f.cl)]
def classL (c : ClM) : List Tx := [c.nm] ++ filledL [c.su] ++ c.is ++ c.fs.flatMap fieldL ++ c.ms.flatMap methL
def entryL (p : PrM) : List Tx := if ((p.ec == []) && ((p.en == []) && (p.ed == []))) = true then [] else [p.ec, p.en, p.ed]
def stringsL (p : PrM) : List Tx := p.cs.flatMap classL ++ p.ns ++ entryL p
theorem filled_len (l : List Tx) : (filledL l).length ≤ l.length := List.length_filter_le _ _
theorem filled_mem {l : List Tx} {s : Tx} (h : s ∈ l) : s = [] ∨ s ∈ filledL l := by
 by_cases h0 : s = []
 ·exact .inl h0
 ·exact .inr (List.mem_filter.2 ⟨h, by simpa using h0⟩)
theorem flat_snoc_at {α β : Type} {f : α → List β} {l : List α} {k : Nat} {x : α} (h : l[k]? = some x) : (l.take (k + 1)).flatMap f = (l.take k).flatMap f ++ f x := by
 rw [List.take_add_one, h, List.flatMap_append]; simp
theorem flat_take_len {α β : Type} {f : α → List β} {l : List α} {k : Nat} {x : α} (h : l[k]? = some x) : ((l.take k).flatMap f).length + (f x).length ≤ (l.flatMap f).length := by
 have e : l.flatMap f = (l.take (k + 1)).flatMap f ++ (l.drop (k + 1)).flatMap f := by rw [← List.flatMap_append, List.take_append_drop]
 rw [e, flat_snoc_at h, List.length_append, List.length_append]; omega
theorem flat_most {α β : Type} {f : α → List β} {n : Nat} : ∀ {l : List α}, (∀ x ∈ l, (f x).length ≤ n) → (l.flatMap f).length ≤ l.length * n
 | [], _ => by simp
 | x :: l, h => by
  rw [List.flatMap_cons, List.length_append, List.length_cons, Nat.succ_mul]
  have h1 := h x (by simp)
  have h2 := flat_most (l := l) (n := n) (fun y hy => h y (by simp [hy]))
  omega
/-- its strings are not too many -/
theorem instr_most (x : InM) : (instrL x).length ≤ 3 := filled_len _
theorem meth_most {m : MeM} {n : Nat} (h : m.co.length ≤ n) : (methL m).length ≤ 2 + n * 3 := by
 unfold methL
 rw [List.length_append]
 have h1 := flat_most (l := m.co) (f := instrL) (n := 3) (fun x _ => instr_most x)
 have h2 := Nat.mul_le_mul_right 3 h
 simp only [List.length_cons, List.length_nil]
 omega
theorem class_most {c : ClM} {a b d e : Nat} (h1 : c.is.length ≤ a) (h2 : c.fs.length ≤ b) (h3 : c.ms.length ≤ d) (h4 : ∀ m ∈ c.ms, m.co.length ≤ e) : (classL c).length ≤ 2 + a + b * 2 + d * (2 + e * 3) := by
 unfold classL
 simp only [List.length_append]
 have k1 := filled_len [c.su]
 have k2 := flat_most (l := c.fs) (f := fieldL) (n := 2) (fun x _ => by simp [fieldL])
 have k3 := flat_most (l := c.ms) (f := methL) (n := 2 + e * 3) (fun m hm => meth_most (h4 m hm))
 have k4 := Nat.mul_le_mul_right 2 h2
 have k5 := Nat.mul_le_mul_right (2 + e * 3) h3
 simp only [List.length_cons, List.length_nil] at k1 ⊢
 omega
theorem entry_most (p : PrM) : (entryL p).length ≤ 3 := by unfold entryL; split <;> simp
/-- what an instruction names is among them -/
theorem in_strings {p : PrM} {c : ClM} {m : MeM} {x : InM} {s : Tx} (h1 : c ∈ p.cs) (h2 : m ∈ c.ms) (h3 : x ∈ m.co) (h4 : s ∈ [x.i.cl, x.i.nm, x.i.ds]) : s = [] ∨ s ∈ stringsL p := by
 rcases filled_mem h4 with h | h
 ·exact .inl h
 ·refine .inr ?_
  unfold stringsL
  refine List.mem_append_left _ (List.mem_append_left _ (List.mem_flatMap.2 ⟨c, h1, ?_⟩))
  unfold classL
  refine List.mem_append_right _ (List.mem_flatMap.2 ⟨m, h2, ?_⟩)
  unfold methL
  exact List.mem_append_right _ (List.mem_flatMap.2 ⟨x, h3, h⟩)
/-- what is right -/
theorem right_zero {p : PrM} (h : rightE p = 0) : longP p = false ∧ p.cs.all classB = true ∧ entryB p = true ∧ orderB p = true := by
 unfold rightE at h
 split at h
 ·exact absurd h (by omega)
 ·rename_i h1
  split at h
  ·exact absurd h (by omega)
  ·rename_i h2
   split at h
   ·exact absurd h (by omega)
   ·rename_i h3
    simp only [Bool.or_eq_true, Bool.not_eq_true', not_or, Bool.not_eq_false] at h2
    exact ⟨by simpa using h1, h2.1, h2.2, by simpa using h3⟩
theorem long_no {p : PrM} (h : longP p = false) : p.ns.length ≤ 64 ∧ p.cs.length ≤ 64 ∧ ∀ c ∈ p.cs, c.is.length ≤ 8 ∧ c.fs.length ≤ 32 ∧ c.ms.length ≤ 32 := by
 unfold longP fewNamesB at h
 simp only [Bool.or_eq_false_iff, Bool.not_eq_false', Bool.and_eq_true, decide_eq_true_eq, decide_eq_false_iff_not, List.all_eq_true] at h
 refine ⟨h.1.1, by omega, fun c hc => ?_⟩
 have := h.2.2 c hc
 unfold fewB at this
 simp only [Bool.and_eq_true, decide_eq_true_eq] at this
 exact ⟨this.1, this.2.1, this.2.2⟩
theorem class_right {c : ClM} (h : classB c = true) : ∀ m ∈ c.ms, methodB m = true := by
 unfold classB at h
 simp only [Bool.and_eq_true] at h
 exact fun m hm => List.all_eq_true.1 h.2.2.2.2.2.1 m hm
theorem method_right {m : MeM} (h : methodB m = true) : m.co.length ≤ 256 ∧ 0 ≤ m.rg ∧ ∀ x ∈ m.co, fitsE x.i m.rg (m.co.length : Int) = 0 := by
 unfold methodB headB at h
 simp only [Bool.and_eq_true, decide_eq_true_eq] at h
 obtain ⟨⟨-, -, h0, -⟩, h⟩ := h
 split at h
 ·unfold abstractB at h
  simp only [Bool.and_eq_true, decide_eq_true_eq] at h
  have hl := h.2.2.1
  exact ⟨by omega, h0, fun x hx => by rw [List.length_eq_zero_iff.1 hl] at hx; cases hx⟩
 ·unfold concreteB codeB at h
  simp only [Bool.and_eq_true, decide_eq_true_eq] at h
  exact ⟨h.2.1.2.1, h0, fun x hx => by simpa using List.all_eq_true.1 h.2.1.2.2 x hx⟩
/-- of a program that can be all is bounded, and each instruction fits -/
theorem right_all {p : PrM} (h : rightE p = 0) : (stringsL p).length ≤ 4194304 ∧ ∀ c ∈ p.cs, ∀ m ∈ c.ms, ∀ x ∈ m.co, fitsE x.i m.rg (m.co.length : Int) = 0 := by
 obtain ⟨h1, h2, -, -⟩ := right_zero h
 obtain ⟨k1, k2, k3⟩ := long_no h1
 have hm := fun c (hc : c ∈ p.cs) m (hmm : m ∈ c.ms) => method_right (class_right (List.all_eq_true.1 h2 c hc) m hmm)
 refine ⟨?_, fun c hc m hmm x hx => (hm c hc m hmm).2.2 x hx⟩
 unfold stringsL
 rw [List.length_append, List.length_append]
 have e1 := flat_most (l := p.cs) (f := classL) (n := 2 + 8 + 32 * 2 + 32 * (2 + 256 * 3)) (fun c hc => class_most (k3 c hc).1 (k3 c hc).2.1 (k3 c hc).2.2 (fun m hmm => (hm c hc m hmm).1))
 have e2 := entry_most p
 have e3 := Nat.mul_le_mul_right (2 + 8 + 32 * 2 + 32 * (2 + 256 * 3)) k2
 omega
end Go.Proofs.Ytgpfohpmgbnimaa.prg

/- Ref -/
import Derived.Test.YtgociheckcpjkaaGreatDoorOpU
import Derived.Test.YtgociheckcpjkaaGreatDoorOpL
import Derived.Test.YtgociheckcpjkaaGreatDoorKind
import Derived.Test.YtgociheckcpjkaaGreatDoorKindV
import Derived.Deep.QuietTactic
import Derived.BigQuiet
namespace Go.Proofs.YtgociheckcpjkaaGreatDoor.prg
open Go.RowKit
open words kindp opp op kind
def ltT (a b : Tx) : Bool := decide (a < b)
def initT : Tx := [60, 99, 108, 105, 110, 105, 116, 62]
def risesB {α : Type} (lt : α → α → Bool) (l : List α) : Bool := (List.range l.length).all fun j => match l[j]?, l[j + 1]? with | some x, some y => lt x y | _, _ => true
theorem rises_yes {α : Type} {lt : α → α → Bool} {l : List α} (h : ∀ j x y, l[j]? = some x → l[j + 1]? = some y → lt x y = true) : risesB lt l = true := by
 unfold risesB
 rw [List.all_eq_true]
 intro j _
 cases h1 : l[j]? with
 | none => rfl
 | some x =>
  cases h2 : l[j + 1]? with
  | none => rfl
  | some y => exact h j x y h1 h2
theorem rises_no {α : Type} {lt : α → α → Bool} {l : List α} {j : Nat} {x y : α} (h1 : l[j]? = some x) (h2 : l[j + 1]? = some y) (h : lt x y = false) : risesB lt l = false := by
 cases hr : risesB lt l with
 | false => rfl
 | true =>
  unfold risesB at hr
  rw [List.all_eq_true] at hr
  have hj : j < l.length := (List.getElem?_eq_some_iff.1 h1).1
  have := hr j (List.mem_range.2 hj)
  rw [h1, h2] at this
  dsimp only at this
  rw [h] at this; cases this
theorem rises_at {α : Type} {lt : α → α → Bool} {l : List α} (h : risesB lt l = true) {j : Nat} {x y : α} (h1 : l[j]? = some x) (h2 : l[j + 1]? = some y) : lt x y = true := by
 cases hl : lt x y with
 | true => rfl
 | false => rw [rises_no h1 h2 hl] at h; cases h
def memberB (s : Tx) : Bool := nmL s && !(s == initT)
def fieldB (f : FiM) : Bool := memberB f.nm && (rightT (f.k, f.cl) && !(f.k == 1))
def handedN (m : MeM) (n : Nat) : Nat := if m.st then n else n + 1
def codeB (m : MeM) : Bool := decide (0 < m.co.length) && (decide (m.co.length ≤ 256) && m.co.all fun x => fitsE x.i m.rg (m.co.length : Int) == 0)
def abstractB (m : MeM) : Bool := !m.st && (!(m.nm == initT) && (decide (m.co.length = 0) && m.rg == 0))
def concreteB (m : MeM) : Bool := decide ((handedN m (splitT m.ds).1.length : Int) ≤ m.rg) && (codeB m && (!(m.nm == initT) || (m.st && m.ds == [40, 41, 86])))
def headB (m : MeM) : Bool := decide ((splitT m.ds).2.2 = 0) && (nmL m.nm && (decide (0 ≤ m.rg) && decide (m.rg ≤ 32)))
def methodB (m : MeM) : Bool := headB m && (if m.ab = true then abstractB m else concreteB m)
def superB (c : ClM) : Bool := (c.su == []) || (!(c.su == c.nm) && clsB c.su)
def bareIfaceB (c : ClM) : Bool := c.ab && ((c.su == []) && (decide (c.fs.length = 0) && c.ms.all (·.ab)))
def classB (c : ClM) : Bool := clsB c.nm && (superB c && (c.is.all clsB && ((!c.fc || bareIfaceB c) && (c.fs.all fieldB && (c.ms.all methodB && (c.ab || !c.ms.any (·.ab)))))))
def entryB (p : PrM) : Bool := ((p.ec == []) && ((p.en == []) && (p.ed == []))) || (clsB p.ec && (memberB p.en && ((p.ed == [40, 41, 73]) || (p.ed == [40, 41, 86]))))
def fewNamesB (l : List Tx) : Bool := decide (l.length ≤ 64) && l.all fun s => decide (s.length ≤ 64)
def fewB (c : ClM) : Bool := decide (c.is.length ≤ 8) && (decide (c.fs.length ≤ 32) && decide (c.ms.length ≤ 32))
def ltF (a b : FiM) : Bool := ltT a.nm b.nm
def ltM (a b : MeM) : Bool := ltT a.nm b.nm || ((a.nm == b.nm) && ltT a.ds b.ds)
def ltC (a b : ClM) : Bool := ltT a.nm b.nm
def orderC (c : ClM) : Bool := risesB ltT c.is && (risesB ltF c.fs && risesB ltM c.ms)
def orderB (p : PrM) : Bool := risesB ltC p.cs && p.cs.all orderC
def longP (p : PrM) : Bool := !fewNamesB p.ns || (decide (64 < p.cs.length) || !p.cs.all fewB)
def rightE (p : PrM) : Int := if longP p = true then 3 else if (!p.cs.all classB || !entryB p) = true then 1 else if orderB p = false then 5 else 0
end Go.Proofs.YtgociheckcpjkaaGreatDoor.prg
namespace Go.Proofs.YtgociheckcpjkaaGreatDoor.prg
open Go.RowKit
open words kindp opp op kind
def filledL (l : List Tx) : List Tx := l.filter fun s => !(s == [])
def instrL (x : InM) : List Tx := filledL [x.i.cl, x.i.nm, x.i.ds]
def methL (m : MeM) : List Tx := [m.nm, m.ds] ++ m.co.flatMap instrL
def fieldL (f : FiM) : List Tx := [f.nm, textT (f.k, f.cl)]
def classL (c : ClM) : List Tx := [c.nm] ++ filledL [c.su] ++ c.is ++ c.fs.flatMap fieldL ++ c.ms.flatMap methL
def entryL (p : PrM) : List Tx := if ((p.ec == []) && ((p.en == []) && (p.ed == []))) = true then [] else [p.ec, p.en, p.ed]
def stringsL (p : PrM) : List Tx := p.cs.flatMap classL ++ p.ns ++ entryL p
theorem filled_len (l : List Tx) : (filledL l).length ≤ l.length := List.length_filter_le _ _
theorem flat_snoc_at {α β : Type} {f : α → List β} {l : List α} {k : Nat} {x : α} (h : l[k]? = some x) : (l.take (k + 1)).flatMap f = (l.take k).flatMap f ++ f x := by
 rw [List.take_add_one, h, List.flatMap_append]; simp
theorem flat_take_len {α β : Type} {f : α → List β} {l : List α} {k : Nat} {x : α} (h : l[k]? = some x) : ((l.take k).flatMap f).length + (f x).length ≤ (l.flatMap f).length := by
 have e : l.flatMap f = (l.take (k + 1)).flatMap f ++ (l.drop (k + 1)).flatMap f := by rw [← List.flatMap_append, List.take_append_drop]
 rw [e, flat_snoc_at h, List.length_append, List.length_append]; omega
theorem entry_most (p : PrM) : (entryL p).length ≤ 3 := by unfold entryL; split <;> simp
end Go.Proofs.YtgociheckcpjkaaGreatDoor.prg
namespace Go.Proofs.YtgociheckcpjkaaGreatDoor.word
open Go.RowKit
open num words give write
end Go.Proofs.YtgociheckcpjkaaGreatDoor.word
namespace Go.Proofs.YtgociheckcpjkaaGreatDoor.kind
open Go.RowKit
open words kindp word piece write
end Go.Proofs.YtgociheckcpjkaaGreatDoor.kind
namespace Go.Proofs.YtgociheckcpjkaaGreatDoor.kind
open Go.RowKit
open words kindp word
end Go.Proofs.YtgociheckcpjkaaGreatDoor.kind
namespace Go.Proofs.YtgociheckcpjkaaGreatDoor.kind
open Go.RowKit
open words kindp word rdr
end Go.Proofs.YtgociheckcpjkaaGreatDoor.kind
namespace Go.Proofs.YtgociheckcpjkaaGreatDoor.kind
open Go.RowKit
open words kindp word rdr
end Go.Proofs.YtgociheckcpjkaaGreatDoor.kind
namespace Go.Proofs.YtgociheckcpjkaaGreatDoor.kind
open Go.RowKit
open words kindp word rdr
end Go.Proofs.YtgociheckcpjkaaGreatDoor.kind
namespace Go.Proofs.YtgociheckcpjkaaGreatDoor.kind
open Go.RowKit
open words kindp word rdr piece
end Go.Proofs.YtgociheckcpjkaaGreatDoor.kind
namespace Go.Proofs.YtgociheckcpjkaaGreatDoor.kind
open Go.RowKit
open words kindp word rdr piece
end Go.Proofs.YtgociheckcpjkaaGreatDoor.kind

/-
 Layer 8: whether a method, a class, an entry and a program can be: the program’s answers.
-/
import Derived.Test.YtgpfohpmgbnimaaNormE
/- Layer 8: which of two methods stands ahead, and whether a class, and a program, is in order: the program's answers. -/
namespace Go.Proofs.Ytgpfohpmgbnimaa.prg
open Go.RowKit
open words kindp opp op kind word
theorem or_sign (x y : MeM) : (0 ≤ (if cmpI x.nm y.nm = 0 then cmpI x.ds y.ds else cmpI x.nm y.nm)) ↔ ltM x y = false := by
 have e : ∀ a b : Tx, cmpI a b = 0 ↔ a = b := by
  intro a b
  unfold cmpI
  rcases tri a b with h | ⟨h, h1⟩ | ⟨h, h1, h2⟩
  ·rw [if_pos h]; constructor
   ·intro k; omega
   ·intro k; subst k; exact absurd h (List.lt_irrefl a)
  ·subst h1; rw [if_neg h]; simp
  ·rw [if_neg h]; constructor
   ·intro k; split at k <;> simp_all
   ·intro k; exact absurd k h1
 have s1 := cmp_sign x.nm y.nm
 have s2 := cmp_sign x.ds y.ds
 unfold ltM
 by_cases h : cmpI x.nm y.nm = 0
 ·have h' := (e _ _).1 h
  rw [if_pos h, s2]
  have h3 : ltT x.nm y.nm = false := s1.1 (by omega)
  rw [h3, h']; simp
 ·have h' : ¬ x.nm = y.nm := fun k => h ((e _ _).2 k)
  have h4 : (x.nm == y.nm) = false := by simpa using h'
  rw [if_neg h, s1, h4]; simp

end Go.Proofs.Ytgpfohpmgbnimaa.prg

/- Layer 8: whether a method's code can be: the program's answers. -/
namespace Go.Proofs.Ytgpfohpmgbnimaa.prg
open Go.RowKit
open words kindp opp op kind word

def InFit (x : InM) : Prop := x.i.ds.length ≤ 65536 ∧ x.i.ar.length ≤ 1000
def MeFit (m : MeM) : Prop := m.ds.length ≤ 65536 ∧ ∀ y ∈ m.co, InFit y
def ClFit (c : ClM) : Prop := ∀ m ∈ c.ms, MeFit m
def PrFit (p : PrM) : Prop := ∀ c ∈ p.cs, ClFit c

end Go.Proofs.Ytgpfohpmgbnimaa.prg

/- Layer 8: whether a method's code can be: the program's answer. -/
namespace Go.Proofs.Ytgpfohpmgbnimaa.prg
open Go.RowKit
open words kindp opp op kind word
end Go.Proofs.Ytgpfohpmgbnimaa.prg

/- Layer 8: whether a method can be: the program's answer. -/
namespace Go.Proofs.Ytgpfohpmgbnimaa.prg
open Go.RowKit
open words kindp opp op kind word

theorem ite_bool {b A B : Bool} : (if b = true then A else B) = ((b && A) || (!b && B)) := by cases b <;> cases A <;> cases B <;> rfl
end Go.Proofs.Ytgpfohpmgbnimaa.prg

/- Layer 8: whether a class, an entry and a program can be: the program's answers. -/
namespace Go.Proofs.Ytgpfohpmgbnimaa.prg
open Go.RowKit
open words kindp opp op kind word
def entryT (a b c : Tx) : Bool := ((a == []) && ((b == []) && (c == []))) || (clsB a && (memberB b && ((c == [40, 41, 73]) || (c == [40, 41, 86]))))
theorem cls_nil : clsB [] = false := by decide +kernel
end Go.Proofs.Ytgpfohpmgbnimaa.prg

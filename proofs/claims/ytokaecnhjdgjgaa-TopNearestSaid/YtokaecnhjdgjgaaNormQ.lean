/-
 Layer 8: whether two programs without fields are the same: the program's answers.
-/
import Derived.Test.YtokaecnhjdgjgaaNormE
import Derived.Test.YtokaecnhjdgjgaaOpS
import Derived.BigQuiet
namespace Go.Proofs.Ytokaecnhjdgjgaa.prg
open Go.RowKit
open words kindp opp op kind word

/-- what they are, without where they lie -/
def pI (x : InM) : In := x.i
structure FiP where
 nm : Tx
 k : Int
 cl : Tx
 st : Bool
deriving DecidableEq
structure MeP where
 nm : Tx
 ds : Tx
 st : Bool
 ab : Bool
 rg : Int
 co : List In
deriving DecidableEq
structure ClP where
 nm : Tx
 su : Tx
 fc : Bool
 ab : Bool
 is : List Tx
 fs : List FiP
 ms : List MeP
deriving DecidableEq
structure PrP where
 cs : List ClP
 ns : List Tx
 ec : Tx
 en : Tx
 ed : Tx
deriving DecidableEq
def pF (f : FiM) : FiP := ⟨f.nm, f.k, f.cl, f.st⟩
def pM (m : MeM) : MeP := ⟨m.nm, m.ds, m.st, m.ab, m.rg, m.co.map pI⟩
def pC (c : ClM) : ClP := ⟨c.nm, c.su, c.fc, c.ab, c.is, c.fs.map pF, c.ms.map pM⟩
def pP (p : PrM) : PrP := ⟨p.cs.map pC, p.ns, p.ec, p.en, p.ed⟩
theorem pM_eq (m k : MeM) : decide (pM m = pM k) = ((m.nm == k.nm) && ((m.ds == k.ds) && ((m.st == k.st) && ((m.ab == k.ab) && ((m.rg == k.rg) && decide (m.co.map pI = k.co.map pI)))))) := by
 rw [Bool.eq_iff_iff]; simp [pM]
theorem pC_eq (c d : ClM) (h : c.fs = []) (h' : d.fs = []) : decide (pC c = pC d) = ((c.nm == d.nm) && ((c.su == d.su) && ((c.fc == d.fc) && ((c.ab == d.ab) && (decide (c.is = d.is) && decide (c.ms.map pM = d.ms.map pM)))))) := by
 rw [Bool.eq_iff_iff]; simp [pC, h, h']
theorem pP_eq (p q : PrM) (h : p.ec = q.ec ∧ p.en = q.en ∧ p.ed = q.ed) : decide (pP p = pP q) = (decide (p.cs.map pC = q.cs.map pC) && decide (p.ns = q.ns)) := by
 rw [Bool.eq_iff_iff]; simp [pP, h.1, h.2.1, h.2.2]

end Go.Proofs.Ytokaecnhjdgjgaa.prg

/-
 Layer 12: whose code an object of a class has for a method; the method that a name tells: the program's answers.
-/
import Derived.Test.YtokaecnhjdgjgaaFindG
namespace Go.Proofs.Ytokaecnhjdgjgaa.find
open Go.RowKit
open words kindp opp op kind word prg sorts

def zeroM : MeM := ⟨[], [], false, false, 0, [], none, 0⟩
/-- what Get answers -/
def GetR (cs : List ClM) (cn s d : Tx) (k : MeM) (ok : Bool) : Prop := match firstM cs [cn] s d with
  | none => ok = false ∧ k = zeroM
  | some (c, j) => ok = true ∧ ∃ m, c.ms[j]? = some m ∧ pM k = pM m
def GetP (cs : List ClM) (cn s d : Tx) (w : World) (e : Ending) (w' : World) : Prop := (∃ k ok, e = .returned (.tuple #[.agg (meC k).toArray, .bool ok]) ∧ GetR cs cn s d k ok) ∧ Below w.heap.size w w'

end Go.Proofs.Ytokaecnhjdgjgaa.find


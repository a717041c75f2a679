/-
  What the reader's other methods answer: Section, Fail, Fault, At, Left.
-/
import Derived.Test.YtchhibicbgimcaaDoorMeth
namespace Go.Proofs.YtchhibicbgimcaaDoor.meth
open Go.RowKit
open Go.Proofs.YtchhibicbgimcaaDoor.num Go.Proofs.YtchhibicbgimcaaDoor.words Go.Proofs.YtchhibicbgimcaaDoor.rdnum Go.Proofs.YtchhibicbgimcaaDoor.rdr Go.Proofs.YtchhibicbgimcaaDoor.give Go.Proofs.YtchhibicbgimcaaDoor.reading

/-- how many are left -/
def left (s : Rs) : Int := if s.e ≠ 0 then 0 else (s.l.length : Int) - s.p
/-- a fault as a value -/
def fv (s : Rs) : Value := .agg #[.int .i64 s.e, .int .i64 (s.f : Int)]
end Go.Proofs.YtchhibicbgimcaaDoor.meth

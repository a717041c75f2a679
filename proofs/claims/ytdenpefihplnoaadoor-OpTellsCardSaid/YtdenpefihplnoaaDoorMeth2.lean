/-
  What the reader's other methods answer: Section, Fail, Fault, At, Left.
-/
import Derived.Test.YtdenpefihplnoaaDoorMeth
namespace Go.Proofs.YtdenpefihplnoaaDoor.meth
open Go.RowKit
open Go.Proofs.YtdenpefihplnoaaDoor.num Go.Proofs.YtdenpefihplnoaaDoor.words Go.Proofs.YtdenpefihplnoaaDoor.rdnum Go.Proofs.YtdenpefihplnoaaDoor.rdr Go.Proofs.YtdenpefihplnoaaDoor.give Go.Proofs.YtdenpefihplnoaaDoor.reading

/-- how many are left -/
def left (s : Rs) : Int := if s.e ≠ 0 then 0 else (s.l.length : Int) - s.p
/-- a fault as a value -/
def fv (s : Rs) : Value := .agg #[.int .i64 s.e, .int .i64 (s.f : Int)]
end Go.Proofs.YtdenpefihplnoaaDoor.meth

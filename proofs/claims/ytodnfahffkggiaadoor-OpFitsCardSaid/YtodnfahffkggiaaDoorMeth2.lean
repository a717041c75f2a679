/-
  What the reader's other methods answer: Section, Fail, Fault, At, Left.
-/
import Derived.Test.YtodnfahffkggiaaDoorMeth
namespace Go.Proofs.YtodnfahffkggiaaDoor.meth
open Go.RowKit
open Go.Proofs.YtodnfahffkggiaaDoor.num Go.Proofs.YtodnfahffkggiaaDoor.words Go.Proofs.YtodnfahffkggiaaDoor.rdnum Go.Proofs.YtodnfahffkggiaaDoor.rdr Go.Proofs.YtodnfahffkggiaaDoor.give Go.Proofs.YtodnfahffkggiaaDoor.reading

/-- how many are left -/
def left (s : Rs) : Int := if s.e ≠ 0 then 0 else (s.l.length : Int) - s.p
/-- a fault as a value -/
def fv (s : Rs) : Value := .agg #[.int .i64 s.e, .int .i64 (s.f : Int)]
end Go.Proofs.YtodnfahffkggiaaDoor.meth

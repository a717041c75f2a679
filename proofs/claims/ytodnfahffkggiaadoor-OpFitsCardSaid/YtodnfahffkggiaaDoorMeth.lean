/-
  What the reader's methods answer, and how they leave it.
-/
import Derived.Test.YtodnfahffkggiaaDoorRead
import Derived.Test.YtodnfahffkggiaaDoorZag
namespace Go.Proofs.YtodnfahffkggiaaDoor.meth
open Go.RowKit
open Go.Proofs.YtodnfahffkggiaaDoor.num Go.Proofs.YtodnfahffkggiaaDoor.words Go.Proofs.YtodnfahffkggiaaDoor.rdnum Go.Proofs.YtodnfahffkggiaaDoor.rdr Go.Proofs.YtodnfahffkggiaaDoor.give Go.Proofs.YtodnfahffkggiaaDoor.reading

theorem signed_v {l : List Nat} {p : Nat} (hp : p ≤ l.length) (hl : ∀ c ∈ l, c < 256) : (lebT l p).e = 0 → ((lebT l p).v : Int) ≤ 18446744073709551615 := fun h => by
  have := (lebT_ok hp hl h).2.1
  omega
end Go.Proofs.YtodnfahffkggiaaDoor.meth

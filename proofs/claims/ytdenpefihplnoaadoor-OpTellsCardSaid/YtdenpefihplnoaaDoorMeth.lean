/-
  What the reader's methods answer, and how they leave it.
-/
import Derived.Test.YtdenpefihplnoaaDoorRead
import Derived.Test.YtdenpefihplnoaaDoorZag
namespace Go.Proofs.YtdenpefihplnoaaDoor.meth
open Go.RowKit
open Go.Proofs.YtdenpefihplnoaaDoor.num Go.Proofs.YtdenpefihplnoaaDoor.words Go.Proofs.YtdenpefihplnoaaDoor.rdnum Go.Proofs.YtdenpefihplnoaaDoor.rdr Go.Proofs.YtdenpefihplnoaaDoor.give Go.Proofs.YtdenpefihplnoaaDoor.reading

theorem signed_v {l : List Nat} {p : Nat} (hp : p ≤ l.length) (hl : ∀ c ∈ l, c < 256) : (lebT l p).e = 0 → ((lebT l p).v : Int) ≤ 18446744073709551615 := fun h => by
  have := (lebT_ok hp hl h).2.1
  omega
end Go.Proofs.YtdenpefihplnoaaDoor.meth

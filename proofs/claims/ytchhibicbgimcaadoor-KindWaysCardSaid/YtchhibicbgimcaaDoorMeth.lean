/-
  What the reader's methods answer, and how they leave it.
-/
import Derived.Test.YtchhibicbgimcaaDoorRead
import Derived.Test.YtchhibicbgimcaaDoorZag
namespace Go.Proofs.YtchhibicbgimcaaDoor.meth
open Go.RowKit
open Go.Proofs.YtchhibicbgimcaaDoor.num Go.Proofs.YtchhibicbgimcaaDoor.words Go.Proofs.YtchhibicbgimcaaDoor.rdnum Go.Proofs.YtchhibicbgimcaaDoor.rdr Go.Proofs.YtchhibicbgimcaaDoor.give Go.Proofs.YtchhibicbgimcaaDoor.reading

theorem signed_v {l : List Nat} {p : Nat} (hp : p ≤ l.length) (hl : ∀ c ∈ l, c < 256) : (lebT l p).e = 0 → ((lebT l p).v : Int) ≤ 18446744073709551615 := fun h => by
  have := (lebT_ok hp hl h).2.1
  omega
end Go.Proofs.YtchhibicbgimcaaDoor.meth

/-
  What the reference's reader does: whether it is dead, that it fails, a number that is taken; and its reads.
-/
import Derived.Test.YtdenpefihplnoaaWrite
import Derived.Test.YtdenpefihplnoaaTakeR
namespace Go.Proofs.Ytdenpefihplnoaa.refr
open Go.RowKit
open Go.Proofs.Ytdenpefihplnoaa.num Go.Proofs.Ytdenpefihplnoaa.words Go.Proofs.Ytdenpefihplnoaa.rdnum Go.Proofs.Ytdenpefihplnoaa.rdr Go.Proofs.Ytdenpefihplnoaa.give

end Go.Proofs.Ytdenpefihplnoaa.refr

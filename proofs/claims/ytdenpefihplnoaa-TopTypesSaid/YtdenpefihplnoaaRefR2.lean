/-
  What the reference's reader answers: a byte, a number, one with a sign, a text, its end; where it stands, how many are left, what failed.
-/
import Derived.Test.YtdenpefihplnoaaRefR
namespace Go.Proofs.Ytdenpefihplnoaa.refr
open Go.RowKit
open Go.Proofs.Ytdenpefihplnoaa.num Go.Proofs.Ytdenpefihplnoaa.words Go.Proofs.Ytdenpefihplnoaa.rdnum Go.Proofs.Ytdenpefihplnoaa.rdr Go.Proofs.Ytdenpefihplnoaa.give
end Go.Proofs.Ytdenpefihplnoaa.refr

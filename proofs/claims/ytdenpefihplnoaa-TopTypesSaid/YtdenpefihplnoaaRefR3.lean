/-
  What the reference's reader answers, on: a number, a text; where it stands, how many are left, what failed; and both readers' Fail.
-/
import Derived.Test.YtdenpefihplnoaaRefR2
namespace Go.Proofs.Ytdenpefihplnoaa.refr
open Go.RowKit
open Go.Proofs.Ytdenpefihplnoaa.num Go.Proofs.Ytdenpefihplnoaa.words Go.Proofs.Ytdenpefihplnoaa.rdnum Go.Proofs.Ytdenpefihplnoaa.rdr Go.Proofs.Ytdenpefihplnoaa.give Go.Proofs.Ytdenpefihplnoaa.meth
end Go.Proofs.Ytdenpefihplnoaa.refr

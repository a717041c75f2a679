/-
  Layer 5, the document's answer: whether strings are a pool.
-/
import Derived.Test.YtdenpefihplnoaaLive5
import Derived.Deep.QuietTactic
import Derived.BigQuiet
namespace Go.Proofs.Ytdenpefihplnoaa.pool
open Go.RowKit Go.Maps
open Go.Proofs.Ytdenpefihplnoaa.num Go.Proofs.Ytdenpefihplnoaa.words Go.Proofs.Ytdenpefihplnoaa.poolp
end Go.Proofs.Ytdenpefihplnoaa.pool

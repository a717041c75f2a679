/- Laid7A -/
import Derived.Test.YtdifmgeicnndfaaOp
import Derived.ChangeMaps5
import Derived.Test.YtdifmgeicnndfaaProg
import Derived.Lib.Hide
import Derived.Deep.QuietTactic
import Derived.BigQuiet
import Derived.SliceStrings
import Derived.Test.YtdifmgeicnndfaaRows
import Derived.Test.YtdifmgeicnndfaaWordM
import Derived.ProofKit
import Derived.Deep.DeepHandedRow
import Derived.Lib.LaidTab
import Derived.Lib.SmallJoins
import Derived.Deep.Fields
namespace Go.Proofs.Ytdifmgeicnndfaa.frame
open Go.ChangeShapes Go.WideShapes Go.ChangeAt Go.RowKit
end Go.Proofs.Ytdifmgeicnndfaa.frame
namespace Go.Proofs.Ytdifmgeicnndfaa.texts
open Go.RowKit
open words
def S (l : List ByteArray) : List Value := l.map Value.string
end Go.Proofs.Ytdifmgeicnndfaa.texts
namespace Go.Proofs.Ytdifmgeicnndfaa.frame
open Go.ChangeShapes Go.WideShapes Go.ChangeAt Go.RowKit
open words texts
theorem weights_all {H : Type} {P : Program} {e : TypeId} {y : DataW H} {n : Nat} (hn : n ∈ y.weights P e) : ∀ {l : List (DataW H)}, y ∈ l → n ∈ DataW.weightsAll P e l
 | [], h => by cases h
 | d :: r, h => by
  simp only [DataW.weightsAll, List.mem_append]
  rcases List.mem_cons.1 h with rfl | h
  ·exact .inl hn
  ·exact .inr (weights_all hn h)
end Go.Proofs.Ytdifmgeicnndfaa.frame
namespace Go.Proofs.Ytdifmgeicnndfaa.frame7
open Go.Joins Go.ChangeShapes Go.WideShapes Go.ChangeAt Go.RowKit Go.Deep
open words frame kindp opp op kind
section
variable {H : Type} {enc : TypeId × Value → H} {P : Program} {w : World} {base : Nat} {spare : Nat → Bool} {held : Bool}
end
end Go.Proofs.Ytdifmgeicnndfaa.frame7
namespace Go.Proofs.Ytdifmgeicnndfaa.Laid7
open Go.ChangeShapes Go.WideShapes Go.ChangeAt Go.RowKit
open kindp opp op kind
theorem open_two {H : Type} {enc : TypeId × Value → H} {P : Program} {w : World} {base : Nat} {spare : Nat → Bool} {held : Bool} {t : TypeId} {f0 f1 : Field} {fuel : Nat} {cs : List Value} {x : DataW H × List MemPlace} (ht : P.underlying t = some (.struct #[f0, f1])) (ce : P.cellsOf t = 2)
  (o0 : f0.offset = 0) (o1 : f1.offset = 1) (c0 : P.cellsOf f0.type = 1) (c1 : P.cellsOf f1.type = 1) (h : DataW.trod enc P w base spare held fuel t cs = some x) :
  ∃ (n : Nat) (v0 v1 : Value) (y0 y1 : DataW H × List MemPlace), cs = [v0, v1] ∧ x = (.agg [y0.1, y1.1], y0.2 ++ y1.2) ∧ DataW.trod enc P w base spare held n f0.type [v0] = some y0 ∧ DataW.trod enc P w base spare held n f1.type [v1] = some y1 := by
 obtain ⟨xs, n, _, hxy, hl, hxl, hf⟩ := DataW.trod_struct ht h
 rw [ce] at hl
 match xs, hxl, cs, hl with
 | [y0, y1], _, [v0, v1], _ =>
  have g0 := hf 0 f0 rfl
  have g1 := hf 1 f1 rfl
  simp [o0, o1, c0, c1] at g0 g1
  exact ⟨n, v0, v1, y0, y1, rfl, by rw [hxy]; simp, g0, g1⟩
end Go.Proofs.Ytdifmgeicnndfaa.Laid7

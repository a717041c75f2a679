/-
  DERIVED. GIVEN WITH THE SEED: THE CARDS: each row of YtgociheckcpjkaaGreatDoorRows.lean that lists a variable, with what it lists TIED to the program's text (the seventh form; the later family's looks); each row that meets fmt, with fmt's text TOLD by the authors' own Lean function (tested against real Go, not proved from fmt's source: count such statements apart). THE CARD IS WHAT COUNTS. Prove the row's statement (the work); the ties are given (YtgociheckcpjkaaGreatDoorTie.lean); close each card by the builder's one call (the guide's Derived/Test/ToyasCard.lean, 'card_holds'). Laid BY PROGRAM, IN A SANDBOX (cutbox-door.mjs). By AI agents, Wed Nov 11 2026. No macro, syntax, notation, axiom, sorry.
-/
import Derived.Test.YtgociheckcpjkaaGreatDoorRows
import GoSem.ClaimSeven
namespace Go.Proofs.YtgociheckcpjkaaGreatDoor
namespace Rows

/-- THE TIED CARD OF 'secateurlaw08.NormSorts'. -/
def normSortsCard : Claim7 := { stood := { row := normSortsRow, standIns := [], harness := (true, "b610034d8d4fdb4ab6637a16fbc1a95c0e3fb33a081e7c39e194c14bc8ad44de"), looks := true }, kinds := [], alts := [], laidByText := true, laidKinds := [.data, .data], laidTests := true, laidLooks := .later }
def NormSortsCardSaid : Prop := Claim7.holds Tryz.pinned (.plain (OpenSpec.ofChange normSortsSpec)) normSortsCard

/-- THE SECOND FORM's CARD OF 'secateurlaw08.NormSorts'. -/
def normSortsUptoCard : Claim7 := { stood := { row := normSortsUptoRow, standIns := [], harness := (true, "b610034d8d4fdb4ab6637a16fbc1a95c0e3fb33a081e7c39e194c14bc8ad44de"), looks := true }, kinds := [], alts := [], laidByText := true, laidKinds := [.data, .data], laidTests := true, laidLooks := .later }
def NormSortsUptoCardSaid : Prop := Claim7.holds Tryz.pinned (.plain (OpenSpec.upto normSortsSpec)) normSortsUptoCard
end Rows
end Go.Proofs.YtgociheckcpjkaaGreatDoor

/-
  DERIVED. GIVEN WITH THE SEED: THE CARDS: each row of YtjcdgpfffmnneaaGreatDoorRows.lean that lists a variable, with what it lists TIED to the program's text (the seventh form; the later family's looks); each row that meets fmt, with fmt's text TOLD by the authors' own Lean function (tested against real Go, not proved from fmt's source: count such statements apart). THE CARD IS WHAT COUNTS. Prove the row's statement (the work); the ties are given (YtjcdgpfffmnneaaGreatDoorTie.lean); close each card by the builder's one call (the guide's Derived/Test/ToyasCard.lean, 'card_holds'). Laid BY PROGRAM, IN A SANDBOX (cutbox-door.mjs). By AI agents, Wed Nov 11 2026. No macro, syntax, notation, axiom, sorry.
-/
import Derived.Test.YtjcdgpfffmnneaaGreatDoorRows
import GoSem.ClaimSeven
namespace Go.Proofs.YtjcdgpfffmnneaaGreatDoor
namespace Rows

/-- THE TIED CARD OF 'secateurlaw08.NormRight'. -/
def normRightCard : Claim7 := { stood := { row := normRightRow, standIns := [], harness := (true, "e98cdc196326ccf373aa6584d9e1bf7773ebf5fadde71524e1ca4b508651e3ae"), looks := true }, kinds := [], alts := [], laidByText := true, laidKinds := [.data, .data], laidTests := true, laidLooks := .later }
def NormRightCardSaid : Prop := Claim7.holds Tryz.pinned (.plain (OpenSpec.ofChange normRightSpec)) normRightCard

/-- THE SECOND FORM's CARD OF 'secateurlaw08.NormRight'. -/
def normRightUptoCard : Claim7 := { stood := { row := normRightUptoRow, standIns := [], harness := (true, "e98cdc196326ccf373aa6584d9e1bf7773ebf5fadde71524e1ca4b508651e3ae"), looks := true }, kinds := [], alts := [], laidByText := true, laidKinds := [.data, .data], laidTests := true, laidLooks := .later }
def NormRightUptoCardSaid : Prop := Claim7.holds Tryz.pinned (.plain (OpenSpec.upto normRightSpec)) normRightUptoCard
end Rows
end Go.Proofs.YtjcdgpfffmnneaaGreatDoor

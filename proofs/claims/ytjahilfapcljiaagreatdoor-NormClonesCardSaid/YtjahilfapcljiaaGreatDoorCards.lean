/-
  DERIVED. GIVEN WITH THE SEED: THE CARDS: each row of YtjahilfapcljiaaGreatDoorRows.lean that lists a variable, with what it lists TIED to the program's text (the seventh form; the later family's looks); each row that meets fmt, with fmt's text TOLD by the authors' own Lean function (tested against real Go, not proved from fmt's source: count such statements apart). THE CARD IS WHAT COUNTS. Prove the row's statement (the work); the ties are given (YtjahilfapcljiaaGreatDoorTie.lean); close each card by the builder's one call (the guide's Derived/Test/ToyasCard.lean, 'card_holds'). Laid BY PROGRAM, IN A SANDBOX (cutbox-door.mjs). By AI agents, Wed Nov 11 2026. No macro, syntax, notation, axiom, sorry.
-/
import Derived.Test.YtjahilfapcljiaaGreatDoorRows
import GoSem.ClaimSeven
namespace Go.Proofs.YtjahilfapcljiaaGreatDoor
namespace Rows

/-- THE TIED CARD OF 'secateurlaw08.NormRight'. -/
def normRightCard : Claim7 := { stood := { row := normRightRow, standIns := [], harness := (true, "9d92e43b5297060c6eac90ea44c9856975880af73cb34f313198aa8ac6007f02"), looks := true }, kinds := [], alts := [], laidByText := true, laidKinds := [.data, .data], laidTests := true, laidLooks := .later }
def NormRightCardSaid : Prop := Claim7.holds Tryz.pinned (.plain (OpenSpec.ofChange normRightSpec)) normRightCard

/-- THE TIED CARD OF 'secateurlaw08.NormSorts'. -/
def normSortsCard : Claim7 := { stood := { row := normSortsRow, standIns := [], harness := (true, "9d92e43b5297060c6eac90ea44c9856975880af73cb34f313198aa8ac6007f02"), looks := true }, kinds := [], alts := [], laidByText := true, laidKinds := [.data, .data], laidTests := true, laidLooks := .later }
def NormSortsCardSaid : Prop := Claim7.holds Tryz.pinned (.plain (OpenSpec.ofChange normSortsSpec)) normSortsCard

/-- THE TIED CARD OF 'secateurlaw08.NormPlaces'. -/
def normPlacesCard : Claim7 := { stood := { row := normPlacesRow, standIns := [], harness := (true, "9d92e43b5297060c6eac90ea44c9856975880af73cb34f313198aa8ac6007f02"), looks := true }, kinds := [], alts := [], laidByText := true, laidKinds := [.data, .data], laidTests := true, laidLooks := .later }
def NormPlacesCardSaid : Prop := Claim7.holds Tryz.pinned (.plain (OpenSpec.ofChange normPlacesSpec)) normPlacesCard

/-- THE TIED CARD OF 'secateurlaw08.NormClones'. -/
def normClonesCard : Claim7 := { stood := { row := normClonesRow, standIns := [], harness := (true, "9d92e43b5297060c6eac90ea44c9856975880af73cb34f313198aa8ac6007f02"), looks := true }, kinds := [], alts := [], laidByText := true, laidKinds := [.data, .data], laidTests := true, laidLooks := .later }
def NormClonesCardSaid : Prop := Claim7.holds Tryz.pinned (.plain (OpenSpec.ofChange normClonesSpec)) normClonesCard

/-- THE SECOND FORM's CARD OF 'secateurlaw08.NormRight'. -/
def normRightUptoCard : Claim7 := { stood := { row := normRightUptoRow, standIns := [], harness := (true, "9d92e43b5297060c6eac90ea44c9856975880af73cb34f313198aa8ac6007f02"), looks := true }, kinds := [], alts := [], laidByText := true, laidKinds := [.data, .data], laidTests := true, laidLooks := .later }
def NormRightUptoCardSaid : Prop := Claim7.holds Tryz.pinned (.plain (OpenSpec.upto normRightSpec)) normRightUptoCard

/-- THE SECOND FORM's CARD OF 'secateurlaw08.NormSorts'. -/
def normSortsUptoCard : Claim7 := { stood := { row := normSortsUptoRow, standIns := [], harness := (true, "9d92e43b5297060c6eac90ea44c9856975880af73cb34f313198aa8ac6007f02"), looks := true }, kinds := [], alts := [], laidByText := true, laidKinds := [.data, .data], laidTests := true, laidLooks := .later }
def NormSortsUptoCardSaid : Prop := Claim7.holds Tryz.pinned (.plain (OpenSpec.upto normSortsSpec)) normSortsUptoCard

/-- THE SECOND FORM's CARD OF 'secateurlaw08.NormPlaces'. -/
def normPlacesUptoCard : Claim7 := { stood := { row := normPlacesUptoRow, standIns := [], harness := (true, "9d92e43b5297060c6eac90ea44c9856975880af73cb34f313198aa8ac6007f02"), looks := true }, kinds := [], alts := [], laidByText := true, laidKinds := [.data, .data], laidTests := true, laidLooks := .later }
def NormPlacesUptoCardSaid : Prop := Claim7.holds Tryz.pinned (.plain (OpenSpec.upto normPlacesSpec)) normPlacesUptoCard

/-- THE SECOND FORM's CARD OF 'secateurlaw08.NormClones'. -/
def normClonesUptoCard : Claim7 := { stood := { row := normClonesUptoRow, standIns := [], harness := (true, "9d92e43b5297060c6eac90ea44c9856975880af73cb34f313198aa8ac6007f02"), looks := true }, kinds := [], alts := [], laidByText := true, laidKinds := [.data, .data], laidTests := true, laidLooks := .later }
def NormClonesUptoCardSaid : Prop := Claim7.holds Tryz.pinned (.plain (OpenSpec.upto normClonesSpec)) normClonesUptoCard
end Rows
end Go.Proofs.YtjahilfapcljiaaGreatDoor

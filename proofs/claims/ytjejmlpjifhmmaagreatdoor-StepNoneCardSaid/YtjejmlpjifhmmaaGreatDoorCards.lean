/-
  DERIVED. GIVEN WITH THE SEED: THE CARDS: each row of YtjejmlpjifhmmaaGreatDoorRows.lean that lists a variable, with what it lists TIED to the program's text (the seventh form; the later family's looks); each row that meets fmt, with fmt's text TOLD by the authors' own Lean function (tested against real Go, not proved from fmt's source: count such statements apart). THE CARD IS WHAT COUNTS. Prove the row's statement (the work); the ties are given (YtjejmlpjifhmmaaGreatDoorTie.lean); close each card by the builder's one call (the guide's Derived/Test/ToyasCard.lean, 'card_holds'). Laid BY PROGRAM, IN A SANDBOX (cutbox-door.mjs). By AI agents, Wed Nov 11 2026. No macro, syntax, notation, axiom, sorry.
-/
import Derived.Test.YtjejmlpjifhmmaaGreatDoorRows
import GoSem.ClaimSeven
namespace Go.Proofs.YtjejmlpjifhmmaaGreatDoor
namespace Rows

/-- THE TIED CARD OF 'secateurlaw19.StepReckons'. -/
def stepReckonsCard : Claim7 := { stood := { row := stepReckonsRow, standIns := [], harness := (true, "52b453e35b58cbba81f826dab17b98bc7c0cef429b237bb8e3c006b350ed80e4"), looks := true }, kinds := [], alts := [], laidByText := true, laidKinds := [.data], laidTests := true, laidLooks := .later }
def StepReckonsCardSaid : Prop := Claim7.holds Tryz.pinned (.plain (OpenSpec.ofChange stepReckonsSpec)) stepReckonsCard

/-- THE TIED CARD OF 'secateurlaw19.StepNone'. -/
def stepNoneCard : Claim7 := { stood := { row := stepNoneRow, standIns := [], harness := (true, "52b453e35b58cbba81f826dab17b98bc7c0cef429b237bb8e3c006b350ed80e4"), looks := true }, kinds := [], alts := [], laidByText := true, laidKinds := [.data], laidTests := true, laidLooks := .later }
def StepNoneCardSaid : Prop := Claim7.holds Tryz.pinned (.plain (OpenSpec.ofChange stepNoneSpec)) stepNoneCard

/-- THE TIED CARD OF 'secateurlaw20.RunFuel'. -/
def runFuelCard : Claim7 := { stood := { row := runFuelRow, standIns := [], harness := (true, "52b453e35b58cbba81f826dab17b98bc7c0cef429b237bb8e3c006b350ed80e4"), looks := true }, kinds := [], alts := [], laidByText := true, laidKinds := [.data], laidTests := true, laidLooks := .later }
def RunFuelCardSaid : Prop := Claim7.holds Tryz.pinned (.plain (OpenSpec.ofChange runFuelSpec)) runFuelCard

/-- THE TIED CARD OF 'secateurlaw20.RunAlike'. -/
def runAlikeCard : Claim7 := { stood := { row := runAlikeRow, standIns := [], harness := (true, "52b453e35b58cbba81f826dab17b98bc7c0cef429b237bb8e3c006b350ed80e4"), looks := true }, kinds := [], alts := [], laidByText := true, laidKinds := [.data], laidTests := true, laidLooks := .later }
def RunAlikeCardSaid : Prop := Claim7.holds Tryz.pinned (.plain (OpenSpec.ofChange runAlikeSpec)) runAlikeCard

/-- THE SECOND FORM's CARD OF 'secateurlaw19.StepReckons'. -/
def stepReckonsUptoCard : Claim7 := { stood := { row := stepReckonsUptoRow, standIns := [], harness := (true, "52b453e35b58cbba81f826dab17b98bc7c0cef429b237bb8e3c006b350ed80e4"), looks := true }, kinds := [], alts := [], laidByText := true, laidKinds := [.data], laidTests := true, laidLooks := .later }
def StepReckonsUptoCardSaid : Prop := Claim7.holds Tryz.pinned (.plain (OpenSpec.upto stepReckonsSpec)) stepReckonsUptoCard

/-- THE SECOND FORM's CARD OF 'secateurlaw19.StepNone'. -/
def stepNoneUptoCard : Claim7 := { stood := { row := stepNoneUptoRow, standIns := [], harness := (true, "52b453e35b58cbba81f826dab17b98bc7c0cef429b237bb8e3c006b350ed80e4"), looks := true }, kinds := [], alts := [], laidByText := true, laidKinds := [.data], laidTests := true, laidLooks := .later }
def StepNoneUptoCardSaid : Prop := Claim7.holds Tryz.pinned (.plain (OpenSpec.upto stepNoneSpec)) stepNoneUptoCard

/-- THE SECOND FORM's CARD OF 'secateurlaw20.RunFuel'. -/
def runFuelUptoCard : Claim7 := { stood := { row := runFuelUptoRow, standIns := [], harness := (true, "52b453e35b58cbba81f826dab17b98bc7c0cef429b237bb8e3c006b350ed80e4"), looks := true }, kinds := [], alts := [], laidByText := true, laidKinds := [.data], laidTests := true, laidLooks := .later }
def RunFuelUptoCardSaid : Prop := Claim7.holds Tryz.pinned (.plain (OpenSpec.upto runFuelSpec)) runFuelUptoCard

/-- THE SECOND FORM's CARD OF 'secateurlaw20.RunAlike'. -/
def runAlikeUptoCard : Claim7 := { stood := { row := runAlikeUptoRow, standIns := [], harness := (true, "52b453e35b58cbba81f826dab17b98bc7c0cef429b237bb8e3c006b350ed80e4"), looks := true }, kinds := [], alts := [], laidByText := true, laidKinds := [.data], laidTests := true, laidLooks := .later }
def RunAlikeUptoCardSaid : Prop := Claim7.holds Tryz.pinned (.plain (OpenSpec.upto runAlikeSpec)) runAlikeUptoCard
end Rows
end Go.Proofs.YtjejmlpjifhmmaaGreatDoor

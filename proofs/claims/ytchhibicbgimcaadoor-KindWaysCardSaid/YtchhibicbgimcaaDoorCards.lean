/-
  DERIVED. GIVEN WITH THE SEED: THE CARDS: each row of YtchhibicbgimcaaDoorRows.lean that lists a variable, with what it lists TIED to the program's text (the seventh form; the later family's looks); each row that meets fmt, with fmt's text TOLD by the authors' own Lean function (tested against real Go, not proved from fmt's source: count such statements apart). THE CARD IS WHAT COUNTS. Prove the row's statement (the work); the ties are given (YtchhibicbgimcaaDoorTie.lean); close each card by the builder's one call (the guide's Derived/Test/ToyasCard.lean, 'card_holds'). Laid BY PROGRAM, IN A SANDBOX (cutbox-door.mjs). By AI agents, Wed Nov 11 2026. No macro, syntax, notation, axiom, sorry.
-/
import Derived.Test.YtchhibicbgimcaaDoorRows
import GoSem.ClaimSeven
namespace Go.Proofs.YtchhibicbgimcaaDoor
namespace Rows

/-- THE TIED CARD OF 'secateurlaw06.KindTypes'. -/
def kindTypesCard : Claim7 := { stood := { row := kindTypesRow, standIns := [], harness := (true, "6e977c461b0e47eb0dcf41207b25512df02c74b1ee16fd41d83f482227d45f52"), looks := true }, kinds := [], alts := [], laidByText := true, laidKinds := [.data], laidTests := true, laidLooks := .later }
def KindTypesCardSaid : Prop := Claim7.holds Tryd.pinned (.plain (OpenSpec.ofChange kindTypesSpec)) kindTypesCard

/-- THE TIED CARD OF 'secateurlaw06.KindBack'. -/
def kindBackCard : Claim7 := { stood := { row := kindBackRow, standIns := [], harness := (true, "6e977c461b0e47eb0dcf41207b25512df02c74b1ee16fd41d83f482227d45f52"), looks := true }, kinds := [], alts := [], laidByText := true, laidKinds := [.data], laidTests := true, laidLooks := .later }
def KindBackCardSaid : Prop := Claim7.holds Tryd.pinned (.plain (OpenSpec.ofChange kindBackSpec)) kindBackCard

/-- THE TIED CARD OF 'secateurlaw06.KindDescs'. -/
def kindDescsCard : Claim7 := { stood := { row := kindDescsRow, standIns := [], harness := (true, "6e977c461b0e47eb0dcf41207b25512df02c74b1ee16fd41d83f482227d45f52"), looks := true }, kinds := [], alts := [], laidByText := true, laidKinds := [.data], laidTests := true, laidLooks := .later }
def KindDescsCardSaid : Prop := Claim7.holds Tryd.pinned (.plain (OpenSpec.ofChange kindDescsSpec)) kindDescsCard

/-- THE TIED CARD OF 'secateurlaw06.KindRenames'. -/
def kindRenamesCard : Claim7 := { stood := { row := kindRenamesRow, standIns := [], harness := (true, "6e977c461b0e47eb0dcf41207b25512df02c74b1ee16fd41d83f482227d45f52"), looks := true }, kinds := [], alts := [], laidByText := true, laidKinds := [.data], laidTests := true, laidLooks := .later }
def KindRenamesCardSaid : Prop := Claim7.holds Tryd.pinned (.plain (OpenSpec.ofChange kindRenamesSpec)) kindRenamesCard

/-- THE TIED CARD OF 'secateurlaw06.KindWays'. -/
def kindWaysCard : Claim7 := { stood := { row := kindWaysRow, standIns := [], harness := (true, "6e977c461b0e47eb0dcf41207b25512df02c74b1ee16fd41d83f482227d45f52"), looks := true }, kinds := [], alts := [], laidByText := true, laidKinds := [.data], laidTests := true, laidLooks := .later }
def KindWaysCardSaid : Prop := Claim7.holds Tryd.pinned (.plain (OpenSpec.ofChange kindWaysSpec)) kindWaysCard

/-- THE SECOND FORM's CARD OF 'secateurlaw06.KindTypes'. -/
def kindTypesUptoCard : Claim7 := { stood := { row := kindTypesUptoRow, standIns := [], harness := (true, "6e977c461b0e47eb0dcf41207b25512df02c74b1ee16fd41d83f482227d45f52"), looks := true }, kinds := [], alts := [], laidByText := true, laidKinds := [.data], laidTests := true, laidLooks := .later }
def KindTypesUptoCardSaid : Prop := Claim7.holds Tryd.pinned (.plain (OpenSpec.upto kindTypesSpec)) kindTypesUptoCard

/-- THE SECOND FORM's CARD OF 'secateurlaw06.KindBack'. -/
def kindBackUptoCard : Claim7 := { stood := { row := kindBackUptoRow, standIns := [], harness := (true, "6e977c461b0e47eb0dcf41207b25512df02c74b1ee16fd41d83f482227d45f52"), looks := true }, kinds := [], alts := [], laidByText := true, laidKinds := [.data], laidTests := true, laidLooks := .later }
def KindBackUptoCardSaid : Prop := Claim7.holds Tryd.pinned (.plain (OpenSpec.upto kindBackSpec)) kindBackUptoCard

/-- THE SECOND FORM's CARD OF 'secateurlaw06.KindDescs'. -/
def kindDescsUptoCard : Claim7 := { stood := { row := kindDescsUptoRow, standIns := [], harness := (true, "6e977c461b0e47eb0dcf41207b25512df02c74b1ee16fd41d83f482227d45f52"), looks := true }, kinds := [], alts := [], laidByText := true, laidKinds := [.data], laidTests := true, laidLooks := .later }
def KindDescsUptoCardSaid : Prop := Claim7.holds Tryd.pinned (.plain (OpenSpec.upto kindDescsSpec)) kindDescsUptoCard

/-- THE SECOND FORM's CARD OF 'secateurlaw06.KindRenames'. -/
def kindRenamesUptoCard : Claim7 := { stood := { row := kindRenamesUptoRow, standIns := [], harness := (true, "6e977c461b0e47eb0dcf41207b25512df02c74b1ee16fd41d83f482227d45f52"), looks := true }, kinds := [], alts := [], laidByText := true, laidKinds := [.data], laidTests := true, laidLooks := .later }
def KindRenamesUptoCardSaid : Prop := Claim7.holds Tryd.pinned (.plain (OpenSpec.upto kindRenamesSpec)) kindRenamesUptoCard

/-- THE SECOND FORM's CARD OF 'secateurlaw06.KindWays'. -/
def kindWaysUptoCard : Claim7 := { stood := { row := kindWaysUptoRow, standIns := [], harness := (true, "6e977c461b0e47eb0dcf41207b25512df02c74b1ee16fd41d83f482227d45f52"), looks := true }, kinds := [], alts := [], laidByText := true, laidKinds := [.data], laidTests := true, laidLooks := .later }
def KindWaysUptoCardSaid : Prop := Claim7.holds Tryd.pinned (.plain (OpenSpec.upto kindWaysSpec)) kindWaysUptoCard
end Rows
end Go.Proofs.YtchhibicbgimcaaDoor

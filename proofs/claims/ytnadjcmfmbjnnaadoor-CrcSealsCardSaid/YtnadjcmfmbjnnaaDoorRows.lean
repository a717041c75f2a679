/-
  NARROWER THAN 'FOR EVERY INPUT', by the rows' own cells (each row's printed sentence says how): CrcSums: laid · CrcParts: laid · CrcSeals: laid · CrcFour: laid · CrcThree: laid · TopSealed: laid.
  DERIVED. THE GIVEN ROWS OF THIS SEAT. 6 by the template 'for every input the law returns true; each argument reads behind the call as it read before'; 0 by the template 'total and deterministic' (their statements: YtnadjcmfmbjnnaaDoorTotals.lean).
  GIVEN WITH THE SEED: the statements are not yours to turn. If you find one false, say at which input.
  Laid BY PROGRAM, IN A SANDBOX (cutbox-rows.mjs): the forced cells as the released guide's own fill.sh prints them over the translation 3ed48ac430f047f4… (all of the seat's roots in one cut). By AI agents, Wed Nov 11 2026. No macro, syntax, notation, axiom, sorry.
-/
import Derived.Test.YtnadjcmfmbjnnaaDoorChecked
import GoSem.Claim
import GoSem.ClaimJoined
import GoSem.ClaimMapViews
import Derived.JoinedTies
import Derived.KernelRfl
namespace Go.Proofs.YtnadjcmfmbjnnaaDoor
/- THE CELL 'sum', in the pinned program and in every row, IS THE sha256 OF THE DUMP (.gsa) THAT YtnadjcmfmbjnnaaDoorProg.lean LOADS. Nothing in Lean hashes anything: it is a label: what it is worth is what the hold of that sum in a sandbox is worth. -/
noncomputable def Tryd.pinned : Pinned := { name := "ytnadjcmfmbjnnaadoor", sum := "3ed48ac430f047f4d84a1ed5b2fe0b608b66787258b5d13f629e5eaee1299897", checked := Tryd.checked }
namespace Rows
def none {H : Type} : Left H := { results := [], args := [] }

/- WHAT THE LISTED PACKAGE-LEVEL VARIABLES READ AS WHEN THE CALL BEGINS. Each datum BY PROGRAM (the guide's laid-datum.mjs) off the statement by which the dump's own 'gosem.cut.vars' lays the variable. In a bare row this is a premise. The card (YtnadjcmfmbjnnaaDoorCards.lean) ties it to the program's text. -/
def laid_secateur_crc_four {H : Type} : DataW H := .agg [.lit (.int .u32 0), .lit (.int .u32 498536548), .lit (.int .u32 997073096), .lit (.int .u32 651767980), .lit (.int .u32 1994146192), .lit (.int .u32 1802195444), .lit (.int .u32 1303535960), .lit (.int .u32 1342533948), .lit (.int .u32 3988292384), .lit (.int .u32 4027552580), .lit (.int .u32 3604390888), .lit (.int .u32 3412177804), .lit (.int .u32 2607071920), .lit (.int .u32 2262029012), .lit (.int .u32 2685067896), .lit (.int .u32 3183342108)]

/-- 'secateurlaw02.CrcSums': WHATEVER THE INPUT: true; the input reads as it did. -/
def crcSumsSpec : ChangeSpec := { name := "crcSums", fn := fun _ => fun
  | [d1, d2] => { results := [.lit (.bool true)], args := [d1, d2] }
  | _ => none }
def crcSumsRow : OpenClaim := { program := "ytnadjcmfmbjnnaadoor", sum := "3ed48ac430f047f4d84a1ed5b2fe0b608b66787258b5d13f629e5eaee1299897", func := "secateur/secateurlaw02.CrcSums", spec := "crcSums", named := ["secateur/crc.four"], apart := false, laid := [("secateur/crc.four", laid_secateur_crc_four)] }
def CrcSumsSaid : Prop := crcSumsRow.holds Tryd.pinned (OpenSpec.ofChange crcSumsSpec)

/-- ITS FALSE NEIGHBOUR: 'it returns false'. Refute it at one input. -/
def crcSumsWrong : ChangeSpec := { name := "crcSums", fn := fun _ => fun
  | [d1, d2] => { results := [.lit (.bool false)], args := [d1, d2] }
  | _ => none }
def CrcSumsWrongFalsely : Prop := crcSumsRow.holds Tryd.pinned (OpenSpec.ofChange crcSumsWrong)

/-- 'secateurlaw02.CrcParts': WHATEVER THE INPUT: true; the input reads as it did. -/
def crcPartsSpec : ChangeSpec := { name := "crcParts", fn := fun _ => fun
  | [d1, d2, d3] => { results := [.lit (.bool true)], args := [d1, d2, d3] }
  | _ => none }
def crcPartsRow : OpenClaim := { program := "ytnadjcmfmbjnnaadoor", sum := "3ed48ac430f047f4d84a1ed5b2fe0b608b66787258b5d13f629e5eaee1299897", func := "secateur/secateurlaw02.CrcParts", spec := "crcParts", named := ["secateur/crc.four"], apart := false, laid := [("secateur/crc.four", laid_secateur_crc_four)] }
def CrcPartsSaid : Prop := crcPartsRow.holds Tryd.pinned (OpenSpec.ofChange crcPartsSpec)

/-- ITS FALSE NEIGHBOUR: 'it returns false'. Refute it at one input. -/
def crcPartsWrong : ChangeSpec := { name := "crcParts", fn := fun _ => fun
  | [d1, d2, d3] => { results := [.lit (.bool false)], args := [d1, d2, d3] }
  | _ => none }
def CrcPartsWrongFalsely : Prop := crcPartsRow.holds Tryd.pinned (OpenSpec.ofChange crcPartsWrong)

/-- 'secateurlaw02.CrcSeals': WHATEVER THE INPUT: true; the input reads as it did. -/
def crcSealsSpec : ChangeSpec := { name := "crcSeals", fn := fun _ => fun
  | [d1, d2] => { results := [.lit (.bool true)], args := [d1, d2] }
  | _ => none }
def crcSealsRow : OpenClaim := { program := "ytnadjcmfmbjnnaadoor", sum := "3ed48ac430f047f4d84a1ed5b2fe0b608b66787258b5d13f629e5eaee1299897", func := "secateur/secateurlaw02.CrcSeals", spec := "crcSeals", named := ["secateur/crc.four"], apart := false, laid := [("secateur/crc.four", laid_secateur_crc_four)] }
def CrcSealsSaid : Prop := crcSealsRow.holds Tryd.pinned (OpenSpec.ofChange crcSealsSpec)

/-- ITS FALSE NEIGHBOUR: 'it returns false'. Refute it at one input. -/
def crcSealsWrong : ChangeSpec := { name := "crcSeals", fn := fun _ => fun
  | [d1, d2] => { results := [.lit (.bool false)], args := [d1, d2] }
  | _ => none }
def CrcSealsWrongFalsely : Prop := crcSealsRow.holds Tryd.pinned (OpenSpec.ofChange crcSealsWrong)

/-- 'secateurlaw02.CrcFour': WHATEVER THE INPUT: true; the input reads as it did. -/
def crcFourSpec : ChangeSpec := { name := "crcFour", fn := fun _ => fun
  | [d1, d2, d3] => { results := [.lit (.bool true)], args := [d1, d2, d3] }
  | _ => none }
def crcFourRow : OpenClaim := { program := "ytnadjcmfmbjnnaadoor", sum := "3ed48ac430f047f4d84a1ed5b2fe0b608b66787258b5d13f629e5eaee1299897", func := "secateur/secateurlaw02.CrcFour", spec := "crcFour", named := ["secateur/crc.four"], apart := false, laid := [("secateur/crc.four", laid_secateur_crc_four)] }
def CrcFourSaid : Prop := crcFourRow.holds Tryd.pinned (OpenSpec.ofChange crcFourSpec)

/-- ITS FALSE NEIGHBOUR: 'it returns false'. Refute it at one input. -/
def crcFourWrong : ChangeSpec := { name := "crcFour", fn := fun _ => fun
  | [d1, d2, d3] => { results := [.lit (.bool false)], args := [d1, d2, d3] }
  | _ => none }
def CrcFourWrongFalsely : Prop := crcFourRow.holds Tryd.pinned (OpenSpec.ofChange crcFourWrong)

/-- 'secateurlaw02.CrcThree': WHATEVER THE INPUT: true; the input reads as it did. -/
def crcThreeSpec : ChangeSpec := { name := "crcThree", fn := fun _ => fun
  | [d1, d2, d3] => { results := [.lit (.bool true)], args := [d1, d2, d3] }
  | _ => none }
def crcThreeRow : OpenClaim := { program := "ytnadjcmfmbjnnaadoor", sum := "3ed48ac430f047f4d84a1ed5b2fe0b608b66787258b5d13f629e5eaee1299897", func := "secateur/secateurlaw02.CrcThree", spec := "crcThree", named := ["secateur/crc.four"], apart := false, laid := [("secateur/crc.four", laid_secateur_crc_four)] }
def CrcThreeSaid : Prop := crcThreeRow.holds Tryd.pinned (OpenSpec.ofChange crcThreeSpec)

/-- ITS FALSE NEIGHBOUR: 'it returns false'. Refute it at one input. -/
def crcThreeWrong : ChangeSpec := { name := "crcThree", fn := fun _ => fun
  | [d1, d2, d3] => { results := [.lit (.bool false)], args := [d1, d2, d3] }
  | _ => none }
def CrcThreeWrongFalsely : Prop := crcThreeRow.holds Tryd.pinned (OpenSpec.ofChange crcThreeWrong)

/-- 'secateurtop.TopSealed': WHATEVER THE INPUT: true; the input reads as it did. -/
def topSealedSpec : ChangeSpec := { name := "topSealed", fn := fun _ => fun
  | [d] => { results := [.lit (.bool true)], args := [d] }
  | _ => none }
def topSealedRow : OpenClaim := { program := "ytnadjcmfmbjnnaadoor", sum := "3ed48ac430f047f4d84a1ed5b2fe0b608b66787258b5d13f629e5eaee1299897", func := "secateur/secateurtop.TopSealed", spec := "topSealed", named := ["secateur/crc.four"], apart := false, laid := [("secateur/crc.four", laid_secateur_crc_four)] }
def TopSealedSaid : Prop := topSealedRow.holds Tryd.pinned (OpenSpec.ofChange topSealedSpec)

/-- ITS FALSE NEIGHBOUR: 'it returns false'. Refute it at one input. -/
def topSealedWrong : ChangeSpec := { name := "topSealed", fn := fun _ => fun
  | [d] => { results := [.lit (.bool false)], args := [d] }
  | _ => none }
def TopSealedWrongFalsely : Prop := topSealedRow.holds Tryd.pinned (OpenSpec.ofChange topSealedWrong)

/- THE SECOND FORM. 'bulk': how many values and letters a reading holds, each counted each time it is reached (what is shared counts as often as it is met; a slice's spare places count too). A statement '..UptoSaid' is the law's where the arguments, and the package variables that the reading takes, are together of bulk at most 1048576: NARROWER than '..Said'. Prove '..Said' where nothing that the law and all that it calls make is longer than what came in: it says more and counts as full. Else prove '..UptoSaid'. A law counts once. -/
mutual
def uptoBulk {H : Type} : DataW H → Nat
  | .lit (.string bytes) => bytes.length + 1
  | .lit _ => 1
  | .nil => 1
  | .ptr d => uptoBulk d + 1
  | .slice elems spare => uptoBulkAll elems + uptoBulkAll spare + 1
  | .agg parts => uptoBulkAll parts + 1
  | .iface _ d => uptoBulk d + 1
  | .map entries => uptoBulkEntries entries + 1
  | .held _ => 1
def uptoBulkAll {H : Type} : List (DataW H) → Nat
  | [] => 0
  | d :: r => uptoBulk d + uptoBulkAll r
def uptoBulkEntries {H : Type} : List (Lit × DataW H) → Nat
  | [] => 0
  | x :: r => uptoBulkEntry x + uptoBulkEntries r
def uptoBulkEntry {H : Type} : Lit × DataW H → Nat
  | (.string bytes, d) => bytes.length + uptoBulk d + 1
  | (_, d) => uptoBulk d + 1
 end
def uptoSmall : (H : Type) → List (DataW H) → Bool := fun _ ds => decide (uptoBulkAll ds ≤ 1048576)
def OpenSpec.upto (s : _root_.Go.ChangeSpec) : _root_.Go.OpenSpec := { _root_.Go.OpenSpec.ofChange s with cond := some uptoSmall }

/-- 'secateurlaw02.CrcSums', WHERE WHAT IT READS IS OF BULK AT MOST 1048576: true; the input reads as it did. -/
def crcSumsUptoRow : OpenClaim := { program := "ytnadjcmfmbjnnaadoor", sum := "3ed48ac430f047f4d84a1ed5b2fe0b608b66787258b5d13f629e5eaee1299897", func := "secateur/secateurlaw02.CrcSums", spec := "crcSums", named := ["secateur/crc.four"], apart := false, laid := [("secateur/crc.four", laid_secateur_crc_four)], narrowed := true }
def CrcSumsUptoSaid : Prop := crcSumsUptoRow.holds Tryd.pinned (OpenSpec.upto crcSumsSpec)

/-- 'secateurlaw02.CrcParts', WHERE WHAT IT READS IS OF BULK AT MOST 1048576: true; the input reads as it did. -/
def crcPartsUptoRow : OpenClaim := { program := "ytnadjcmfmbjnnaadoor", sum := "3ed48ac430f047f4d84a1ed5b2fe0b608b66787258b5d13f629e5eaee1299897", func := "secateur/secateurlaw02.CrcParts", spec := "crcParts", named := ["secateur/crc.four"], apart := false, laid := [("secateur/crc.four", laid_secateur_crc_four)], narrowed := true }
def CrcPartsUptoSaid : Prop := crcPartsUptoRow.holds Tryd.pinned (OpenSpec.upto crcPartsSpec)

/-- 'secateurlaw02.CrcSeals', WHERE WHAT IT READS IS OF BULK AT MOST 1048576: true; the input reads as it did. -/
def crcSealsUptoRow : OpenClaim := { program := "ytnadjcmfmbjnnaadoor", sum := "3ed48ac430f047f4d84a1ed5b2fe0b608b66787258b5d13f629e5eaee1299897", func := "secateur/secateurlaw02.CrcSeals", spec := "crcSeals", named := ["secateur/crc.four"], apart := false, laid := [("secateur/crc.four", laid_secateur_crc_four)], narrowed := true }
def CrcSealsUptoSaid : Prop := crcSealsUptoRow.holds Tryd.pinned (OpenSpec.upto crcSealsSpec)

/-- 'secateurlaw02.CrcFour', WHERE WHAT IT READS IS OF BULK AT MOST 1048576: true; the input reads as it did. -/
def crcFourUptoRow : OpenClaim := { program := "ytnadjcmfmbjnnaadoor", sum := "3ed48ac430f047f4d84a1ed5b2fe0b608b66787258b5d13f629e5eaee1299897", func := "secateur/secateurlaw02.CrcFour", spec := "crcFour", named := ["secateur/crc.four"], apart := false, laid := [("secateur/crc.four", laid_secateur_crc_four)], narrowed := true }
def CrcFourUptoSaid : Prop := crcFourUptoRow.holds Tryd.pinned (OpenSpec.upto crcFourSpec)

/-- 'secateurlaw02.CrcThree', WHERE WHAT IT READS IS OF BULK AT MOST 1048576: true; the input reads as it did. -/
def crcThreeUptoRow : OpenClaim := { program := "ytnadjcmfmbjnnaadoor", sum := "3ed48ac430f047f4d84a1ed5b2fe0b608b66787258b5d13f629e5eaee1299897", func := "secateur/secateurlaw02.CrcThree", spec := "crcThree", named := ["secateur/crc.four"], apart := false, laid := [("secateur/crc.four", laid_secateur_crc_four)], narrowed := true }
def CrcThreeUptoSaid : Prop := crcThreeUptoRow.holds Tryd.pinned (OpenSpec.upto crcThreeSpec)

/-- 'secateurtop.TopSealed', WHERE WHAT IT READS IS OF BULK AT MOST 1048576: true; the input reads as it did. -/
def topSealedUptoRow : OpenClaim := { program := "ytnadjcmfmbjnnaadoor", sum := "3ed48ac430f047f4d84a1ed5b2fe0b608b66787258b5d13f629e5eaee1299897", func := "secateur/secateurtop.TopSealed", spec := "topSealed", named := ["secateur/crc.four"], apart := false, laid := [("secateur/crc.four", laid_secateur_crc_four)], narrowed := true }
def TopSealedUptoSaid : Prop := topSealedUptoRow.holds Tryd.pinned (OpenSpec.upto topSealedSpec)

end Rows
end Go.Proofs.YtnadjcmfmbjnnaaDoor

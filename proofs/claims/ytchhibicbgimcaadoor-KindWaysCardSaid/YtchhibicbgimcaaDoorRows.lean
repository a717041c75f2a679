/-
  NARROWER THAN 'FOR EVERY INPUT', by the rows' own cells (each row's printed sentence says how): KindTypes: laid · KindBack: laid · KindDescs: laid · KindRenames: laid · KindWays: laid.
  DERIVED. THE GIVEN ROWS OF THIS SEAT. 5 by the template 'for every input the law returns true; each argument reads behind the call as it read before'; 0 by the template 'total and deterministic' (their statements: YtchhibicbgimcaaDoorTotals.lean).
  GIVEN WITH THE SEED: the statements are not yours to turn. If you find one false, say at which input.
  Laid BY PROGRAM, IN A SANDBOX (cutbox-rows.mjs): the forced cells as the released guide's own fill.sh prints them over the translation 04a410e751739d82… (all of the seat's roots in one cut). By AI agents, Wed Nov 11 2026. No macro, syntax, notation, axiom, sorry.
-/
import Derived.Test.YtchhibicbgimcaaDoorChecked
import GoSem.Claim
import GoSem.ClaimJoined
import GoSem.ClaimMapViews
import Derived.JoinedTies
import Derived.KernelRfl
namespace Go.Proofs.YtchhibicbgimcaaDoor
/- THE CELL 'sum', in the pinned program and in every row, IS THE sha256 OF THE DUMP (.gsa) THAT YtchhibicbgimcaaDoorProg.lean LOADS. Nothing in Lean hashes anything: it is a label: what it is worth is what the hold of that sum in a sandbox is worth. -/
noncomputable def Tryd.pinned : Pinned := { name := "ytchhibicbgimcaadoor", sum := "04a410e751739d82320957ea7f44d62bada516e9c95fdfdcee0cee8fe27dcf6c", checked := Tryd.checked }
namespace Rows
def none {H : Type} : Left H := { results := [], args := [] }

/- WHAT THE LISTED PACKAGE-LEVEL VARIABLES READ AS WHEN THE CALL BEGINS. Each datum BY PROGRAM (the guide's laid-datum.mjs) off the statement by which the dump's own 'gosem.cut.vars' lays the variable. In a bare row this is a premise. The card (YtchhibicbgimcaaDoorCards.lean) ties it to the program's text. -/
def laid_secateur_kind_void {H : Type} : DataW H := .agg [.lit (.int .i64 1), .lit (.string [])]

/-- 'secateurlaw06.KindTypes': WHATEVER THE INPUT: true; the input reads as it did. -/
def kindTypesSpec : ChangeSpec := { name := "kindTypes", fn := fun _ => fun
  | [d1, d2] => { results := [.lit (.bool true)], args := [d1, d2] }
  | _ => none }
def kindTypesRow : OpenClaim := { program := "ytchhibicbgimcaadoor", sum := "04a410e751739d82320957ea7f44d62bada516e9c95fdfdcee0cee8fe27dcf6c", func := "secateur/secateurlaw06.KindTypes", spec := "kindTypes", inPlace := ["internal/bytealg.IndexByteString", "internal/bytealg.IndexString"], unfollowed := true, recurses := true, named := ["secateur/kind.void", "internal/bytealg.MaxLen"], apart := false, laid := [("secateur/kind.void", laid_secateur_kind_void)] }
def KindTypesSaid : Prop := kindTypesRow.holds Tryd.pinned (OpenSpec.ofChange kindTypesSpec)

/-- ITS FALSE NEIGHBOUR: 'it returns false'. Refute it at one input. -/
def kindTypesWrong : ChangeSpec := { name := "kindTypes", fn := fun _ => fun
  | [d1, d2] => { results := [.lit (.bool false)], args := [d1, d2] }
  | _ => none }
def KindTypesWrongFalsely : Prop := kindTypesRow.holds Tryd.pinned (OpenSpec.ofChange kindTypesWrong)

/-- 'secateurlaw06.KindBack': WHATEVER THE INPUT: true; the input reads as it did. -/
def kindBackSpec : ChangeSpec := { name := "kindBack", fn := fun _ => fun
  | [d1, d2, d3] => { results := [.lit (.bool true)], args := [d1, d2, d3] }
  | _ => none }
def kindBackRow : OpenClaim := { program := "ytchhibicbgimcaadoor", sum := "04a410e751739d82320957ea7f44d62bada516e9c95fdfdcee0cee8fe27dcf6c", func := "secateur/secateurlaw06.KindBack", spec := "kindBack", inPlace := ["internal/bytealg.IndexByteString", "internal/bytealg.IndexString"], unfollowed := true, recurses := true, named := ["secateur/kind.void", "internal/bytealg.MaxLen"], apart := false, laid := [("secateur/kind.void", laid_secateur_kind_void)] }
def KindBackSaid : Prop := kindBackRow.holds Tryd.pinned (OpenSpec.ofChange kindBackSpec)

/-- ITS FALSE NEIGHBOUR: 'it returns false'. Refute it at one input. -/
def kindBackWrong : ChangeSpec := { name := "kindBack", fn := fun _ => fun
  | [d1, d2, d3] => { results := [.lit (.bool false)], args := [d1, d2, d3] }
  | _ => none }
def KindBackWrongFalsely : Prop := kindBackRow.holds Tryd.pinned (OpenSpec.ofChange kindBackWrong)

/-- 'secateurlaw06.KindDescs': WHATEVER THE INPUT: true; the input reads as it did. -/
def kindDescsSpec : ChangeSpec := { name := "kindDescs", fn := fun _ => fun
  | [d1, d2] => { results := [.lit (.bool true)], args := [d1, d2] }
  | _ => none }
def kindDescsRow : OpenClaim := { program := "ytchhibicbgimcaadoor", sum := "04a410e751739d82320957ea7f44d62bada516e9c95fdfdcee0cee8fe27dcf6c", func := "secateur/secateurlaw06.KindDescs", spec := "kindDescs", inPlace := ["internal/bytealg.IndexByteString", "internal/bytealg.IndexString"], unfollowed := true, recurses := true, named := ["secateur/kind.void", "internal/bytealg.MaxLen"], apart := false, laid := [("secateur/kind.void", laid_secateur_kind_void)] }
def KindDescsSaid : Prop := kindDescsRow.holds Tryd.pinned (OpenSpec.ofChange kindDescsSpec)

/-- ITS FALSE NEIGHBOUR: 'it returns false'. Refute it at one input. -/
def kindDescsWrong : ChangeSpec := { name := "kindDescs", fn := fun _ => fun
  | [d1, d2] => { results := [.lit (.bool false)], args := [d1, d2] }
  | _ => none }
def KindDescsWrongFalsely : Prop := kindDescsRow.holds Tryd.pinned (OpenSpec.ofChange kindDescsWrong)

/-- 'secateurlaw06.KindRenames': WHATEVER THE INPUT: true; the input reads as it did. -/
def kindRenamesSpec : ChangeSpec := { name := "kindRenames", fn := fun _ => fun
  | [d1, d2, d3] => { results := [.lit (.bool true)], args := [d1, d2, d3] }
  | _ => none }
def kindRenamesRow : OpenClaim := { program := "ytchhibicbgimcaadoor", sum := "04a410e751739d82320957ea7f44d62bada516e9c95fdfdcee0cee8fe27dcf6c", func := "secateur/secateurlaw06.KindRenames", spec := "kindRenames", inPlace := ["internal/bytealg.IndexByteString", "internal/bytealg.IndexString"], unfollowed := true, recurses := true, named := ["secateur/kind.void", "internal/bytealg.MaxLen"], apart := false, laid := [("secateur/kind.void", laid_secateur_kind_void)] }
def KindRenamesSaid : Prop := kindRenamesRow.holds Tryd.pinned (OpenSpec.ofChange kindRenamesSpec)

/-- ITS FALSE NEIGHBOUR: 'it returns false'. Refute it at one input. -/
def kindRenamesWrong : ChangeSpec := { name := "kindRenames", fn := fun _ => fun
  | [d1, d2, d3] => { results := [.lit (.bool false)], args := [d1, d2, d3] }
  | _ => none }
def KindRenamesWrongFalsely : Prop := kindRenamesRow.holds Tryd.pinned (OpenSpec.ofChange kindRenamesWrong)

/-- 'secateurlaw06.KindWays': WHATEVER THE INPUT: true; the input reads as it did. -/
def kindWaysSpec : ChangeSpec := { name := "kindWays", fn := fun _ => fun
  | [d1, d2] => { results := [.lit (.bool true)], args := [d1, d2] }
  | _ => none }
def kindWaysRow : OpenClaim := { program := "ytchhibicbgimcaadoor", sum := "04a410e751739d82320957ea7f44d62bada516e9c95fdfdcee0cee8fe27dcf6c", func := "secateur/secateurlaw06.KindWays", spec := "kindWays", inPlace := ["internal/bytealg.IndexByteString", "internal/bytealg.IndexString"], unfollowed := true, recurses := true, named := ["secateur/kind.void", "internal/bytealg.MaxLen"], apart := false, laid := [("secateur/kind.void", laid_secateur_kind_void)] }
def KindWaysSaid : Prop := kindWaysRow.holds Tryd.pinned (OpenSpec.ofChange kindWaysSpec)

/-- ITS FALSE NEIGHBOUR: 'it returns false'. Refute it at one input. -/
def kindWaysWrong : ChangeSpec := { name := "kindWays", fn := fun _ => fun
  | [d1, d2] => { results := [.lit (.bool false)], args := [d1, d2] }
  | _ => none }
def KindWaysWrongFalsely : Prop := kindWaysRow.holds Tryd.pinned (OpenSpec.ofChange kindWaysWrong)

/- THE SECOND FORM. 'bulk': how many values and letters a reading holds, each counted each time it is reached (what is shared counts as often as it is met; a slice's spare places count too). A statement '..UptoSaid' is the law's where the arguments, and the package variables that the reading takes, are together of bulk at most 1048576: NARROWER than '..Said'. Prove '..Said' where nothing that the law and all that it calls make is longer than what came in: it says more and counts as full. Else prove '..UptoSaid'. A law counts once. -/
mutual
def uptoBulk {H : Type} : DataW H → Nat
  | .lit (.string bytes) => bytes.length + 1
  | .lit _ => 1
  | .nil => 1
  | .ptr d => uptoBulk d + 1
  | .slice elems spare => uptoBulkAll elems + uptoBulkAll spare + 1
  | .agg parts => uptoBulkAll parts + 1
  | .iface _ d => uptoBulk d + 1
  | .map entries => uptoBulkEntries entries + 1
  | .held _ => 1
def uptoBulkAll {H : Type} : List (DataW H) → Nat
  | [] => 0
  | d :: r => uptoBulk d + uptoBulkAll r
def uptoBulkEntries {H : Type} : List (Lit × DataW H) → Nat
  | [] => 0
  | x :: r => uptoBulkEntry x + uptoBulkEntries r
def uptoBulkEntry {H : Type} : Lit × DataW H → Nat
  | (.string bytes, d) => bytes.length + uptoBulk d + 1
  | (_, d) => uptoBulk d + 1
 end
def uptoSmall : (H : Type) → List (DataW H) → Bool := fun _ ds => decide (uptoBulkAll ds ≤ 1048576)
def OpenSpec.upto (s : _root_.Go.ChangeSpec) : _root_.Go.OpenSpec := { _root_.Go.OpenSpec.ofChange s with cond := some uptoSmall }

/-- 'secateurlaw06.KindTypes', WHERE WHAT IT READS IS OF BULK AT MOST 1048576: true; the input reads as it did. -/
def kindTypesUptoRow : OpenClaim := { program := "ytchhibicbgimcaadoor", sum := "04a410e751739d82320957ea7f44d62bada516e9c95fdfdcee0cee8fe27dcf6c", func := "secateur/secateurlaw06.KindTypes", spec := "kindTypes", inPlace := ["internal/bytealg.IndexByteString", "internal/bytealg.IndexString"], unfollowed := true, recurses := true, named := ["secateur/kind.void", "internal/bytealg.MaxLen"], apart := false, laid := [("secateur/kind.void", laid_secateur_kind_void)], narrowed := true }
def KindTypesUptoSaid : Prop := kindTypesUptoRow.holds Tryd.pinned (OpenSpec.upto kindTypesSpec)

/-- 'secateurlaw06.KindBack', WHERE WHAT IT READS IS OF BULK AT MOST 1048576: true; the input reads as it did. -/
def kindBackUptoRow : OpenClaim := { program := "ytchhibicbgimcaadoor", sum := "04a410e751739d82320957ea7f44d62bada516e9c95fdfdcee0cee8fe27dcf6c", func := "secateur/secateurlaw06.KindBack", spec := "kindBack", inPlace := ["internal/bytealg.IndexByteString", "internal/bytealg.IndexString"], unfollowed := true, recurses := true, named := ["secateur/kind.void", "internal/bytealg.MaxLen"], apart := false, laid := [("secateur/kind.void", laid_secateur_kind_void)], narrowed := true }
def KindBackUptoSaid : Prop := kindBackUptoRow.holds Tryd.pinned (OpenSpec.upto kindBackSpec)

/-- 'secateurlaw06.KindDescs', WHERE WHAT IT READS IS OF BULK AT MOST 1048576: true; the input reads as it did. -/
def kindDescsUptoRow : OpenClaim := { program := "ytchhibicbgimcaadoor", sum := "04a410e751739d82320957ea7f44d62bada516e9c95fdfdcee0cee8fe27dcf6c", func := "secateur/secateurlaw06.KindDescs", spec := "kindDescs", inPlace := ["internal/bytealg.IndexByteString", "internal/bytealg.IndexString"], unfollowed := true, recurses := true, named := ["secateur/kind.void", "internal/bytealg.MaxLen"], apart := false, laid := [("secateur/kind.void", laid_secateur_kind_void)], narrowed := true }
def KindDescsUptoSaid : Prop := kindDescsUptoRow.holds Tryd.pinned (OpenSpec.upto kindDescsSpec)

/-- 'secateurlaw06.KindRenames', WHERE WHAT IT READS IS OF BULK AT MOST 1048576: true; the input reads as it did. -/
def kindRenamesUptoRow : OpenClaim := { program := "ytchhibicbgimcaadoor", sum := "04a410e751739d82320957ea7f44d62bada516e9c95fdfdcee0cee8fe27dcf6c", func := "secateur/secateurlaw06.KindRenames", spec := "kindRenames", inPlace := ["internal/bytealg.IndexByteString", "internal/bytealg.IndexString"], unfollowed := true, recurses := true, named := ["secateur/kind.void", "internal/bytealg.MaxLen"], apart := false, laid := [("secateur/kind.void", laid_secateur_kind_void)], narrowed := true }
def KindRenamesUptoSaid : Prop := kindRenamesUptoRow.holds Tryd.pinned (OpenSpec.upto kindRenamesSpec)

/-- 'secateurlaw06.KindWays', WHERE WHAT IT READS IS OF BULK AT MOST 1048576: true; the input reads as it did. -/
def kindWaysUptoRow : OpenClaim := { program := "ytchhibicbgimcaadoor", sum := "04a410e751739d82320957ea7f44d62bada516e9c95fdfdcee0cee8fe27dcf6c", func := "secateur/secateurlaw06.KindWays", spec := "kindWays", inPlace := ["internal/bytealg.IndexByteString", "internal/bytealg.IndexString"], unfollowed := true, recurses := true, named := ["secateur/kind.void", "internal/bytealg.MaxLen"], apart := false, laid := [("secateur/kind.void", laid_secateur_kind_void)], narrowed := true }
def KindWaysUptoSaid : Prop := kindWaysUptoRow.holds Tryd.pinned (OpenSpec.upto kindWaysSpec)

end Rows
end Go.Proofs.YtchhibicbgimcaaDoor

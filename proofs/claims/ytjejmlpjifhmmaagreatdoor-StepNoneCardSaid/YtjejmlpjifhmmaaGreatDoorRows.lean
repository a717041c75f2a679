/-
  NARROWER THAN 'FOR EVERY INPUT', by the rows' own cells (each row's printed sentence says how): StepReckons: laid · StepNone: laid · RunFuel: laid · RunAlike: laid.
  DERIVED. THE GIVEN ROWS OF THIS SEAT. 4 by the template 'for every input the law returns true; each argument reads behind the call as it read before'; 0 by the template 'total and deterministic' (their statements: YtjejmlpjifhmmaaGreatDoorTotals.lean).
  GIVEN WITH THE SEED: the statements are not yours to turn. If you find one false, say at which input.
  Laid BY PROGRAM, IN A SANDBOX (cutbox-rows.mjs): the forced cells as the released guide's own fill.sh prints them over the translation 53690ccf81c5d1b8… (all of the seat's roots in one cut). By AI agents, Wed Nov 11 2026. No macro, syntax, notation, axiom, sorry.
-/
import Derived.Test.YtjejmlpjifhmmaaGreatDoorChecked
import GoSem.Claim
import GoSem.ClaimJoined
import GoSem.ClaimMapViews
import Derived.JoinedTies
import Derived.KernelRfl
namespace Go.Proofs.YtjejmlpjifhmmaaGreatDoor
/- THE CELL 'sum', in the pinned program and in every row, IS THE sha256 OF THE DUMP (.gsa) THAT YtjejmlpjifhmmaaGreatDoorProg.lean LOADS. Nothing in Lean hashes anything: it is a label: what it is worth is what the hold of that sum in a sandbox is worth. -/
noncomputable def Tryz.pinned : Pinned := { name := "ytjejmlpjifhmmaagreatdoor", sum := "53690ccf81c5d1b8338c48785e16cfdb3eb3e6e5b83f0dda002efed21576709b", checked := Tryz.checked }
namespace Rows
def none {H : Type} : Left H := { results := [], args := [] }

/- WHAT THE LISTED PACKAGE-LEVEL VARIABLES READ AS WHEN THE CALL BEGINS. Each datum BY PROGRAM (the guide's laid-datum.mjs) off the statement by which the dump's own 'gosem.cut.vars' lays the variable. In a bare row this is a premise. The card (YtjejmlpjifhmmaaGreatDoorCards.lean) ties it to the program's text. -/
def laid_secateur_kind_void {H : Type} : DataW H := .agg [.lit (.int .i64 1), .lit (.string [])]

/-- 'secateurlaw19.StepReckons': WHATEVER THE INPUT: true; the input reads as it did. -/
def stepReckonsSpec : ChangeSpec := { name := "stepReckons", fn := fun _ => fun
  | [d1, d2, d3] => { results := [.lit (.bool true)], args := [d1, d2, d3] }
  | _ => none }
def stepReckonsRow : OpenClaim := { program := "ytjejmlpjifhmmaagreatdoor", sum := "53690ccf81c5d1b8338c48785e16cfdb3eb3e6e5b83f0dda002efed21576709b", func := "secateur/secateurlaw19.StepReckons", spec := "stepReckons", inPlace := ["internal/bytealg.IndexByteString", "internal/bytealg.IndexString"], unfollowed := true, recurses := true, named := ["secateur/kind.void", "internal/bytealg.MaxLen"], plainKeys := false, apart := false, laid := [("secateur/kind.void", laid_secateur_kind_void)] }
def StepReckonsSaid : Prop := stepReckonsRow.holds Tryz.pinned (OpenSpec.ofChange stepReckonsSpec)

/-- ITS FALSE NEIGHBOUR: 'it returns false'. Refute it at one input. -/
def stepReckonsWrong : ChangeSpec := { name := "stepReckons", fn := fun _ => fun
  | [d1, d2, d3] => { results := [.lit (.bool false)], args := [d1, d2, d3] }
  | _ => none }
def StepReckonsWrongFalsely : Prop := stepReckonsRow.holds Tryz.pinned (OpenSpec.ofChange stepReckonsWrong)

/-- 'secateurlaw19.StepNone': WHATEVER THE INPUT: true; the input reads as it did. -/
def stepNoneSpec : ChangeSpec := { name := "stepNone", fn := fun _ => fun
  | [d1, d2] => { results := [.lit (.bool true)], args := [d1, d2] }
  | _ => none }
def stepNoneRow : OpenClaim := { program := "ytjejmlpjifhmmaagreatdoor", sum := "53690ccf81c5d1b8338c48785e16cfdb3eb3e6e5b83f0dda002efed21576709b", func := "secateur/secateurlaw19.StepNone", spec := "stepNone", inPlace := ["internal/bytealg.IndexByteString", "internal/bytealg.IndexString"], unfollowed := true, recurses := true, named := ["secateur/kind.void", "internal/bytealg.MaxLen"], plainKeys := false, apart := false, laid := [("secateur/kind.void", laid_secateur_kind_void)] }
def StepNoneSaid : Prop := stepNoneRow.holds Tryz.pinned (OpenSpec.ofChange stepNoneSpec)

/-- ITS FALSE NEIGHBOUR: 'it returns false'. Refute it at one input. -/
def stepNoneWrong : ChangeSpec := { name := "stepNone", fn := fun _ => fun
  | [d1, d2] => { results := [.lit (.bool false)], args := [d1, d2] }
  | _ => none }
def StepNoneWrongFalsely : Prop := stepNoneRow.holds Tryz.pinned (OpenSpec.ofChange stepNoneWrong)

/-- 'secateurlaw20.RunFuel': WHATEVER THE INPUT: true; the input reads as it did. -/
def runFuelSpec : ChangeSpec := { name := "runFuel", fn := fun _ => fun
  | [d1, d2, d3] => { results := [.lit (.bool true)], args := [d1, d2, d3] }
  | _ => none }
def runFuelRow : OpenClaim := { program := "ytjejmlpjifhmmaagreatdoor", sum := "53690ccf81c5d1b8338c48785e16cfdb3eb3e6e5b83f0dda002efed21576709b", func := "secateur/secateurlaw20.RunFuel", spec := "runFuel", inPlace := ["internal/bytealg.IndexByteString", "internal/bytealg.IndexString"], unfollowed := true, recurses := true, named := ["secateur/kind.void", "internal/bytealg.MaxLen"], plainKeys := false, apart := false, laid := [("secateur/kind.void", laid_secateur_kind_void)] }
def RunFuelSaid : Prop := runFuelRow.holds Tryz.pinned (OpenSpec.ofChange runFuelSpec)

/-- ITS FALSE NEIGHBOUR: 'it returns false'. Refute it at one input. -/
def runFuelWrong : ChangeSpec := { name := "runFuel", fn := fun _ => fun
  | [d1, d2, d3] => { results := [.lit (.bool false)], args := [d1, d2, d3] }
  | _ => none }
def RunFuelWrongFalsely : Prop := runFuelRow.holds Tryz.pinned (OpenSpec.ofChange runFuelWrong)

/-- 'secateurlaw20.RunAlike': WHATEVER THE INPUT: true; the input reads as it did. -/
def runAlikeSpec : ChangeSpec := { name := "runAlike", fn := fun _ => fun
  | [d1, d2, d3] => { results := [.lit (.bool true)], args := [d1, d2, d3] }
  | _ => none }
def runAlikeRow : OpenClaim := { program := "ytjejmlpjifhmmaagreatdoor", sum := "53690ccf81c5d1b8338c48785e16cfdb3eb3e6e5b83f0dda002efed21576709b", func := "secateur/secateurlaw20.RunAlike", spec := "runAlike", inPlace := ["internal/bytealg.IndexByteString", "internal/bytealg.IndexString"], unfollowed := true, recurses := true, named := ["secateur/kind.void", "internal/bytealg.MaxLen"], plainKeys := false, apart := false, laid := [("secateur/kind.void", laid_secateur_kind_void)] }
def RunAlikeSaid : Prop := runAlikeRow.holds Tryz.pinned (OpenSpec.ofChange runAlikeSpec)

/-- ITS FALSE NEIGHBOUR: 'it returns false'. Refute it at one input. -/
def runAlikeWrong : ChangeSpec := { name := "runAlike", fn := fun _ => fun
  | [d1, d2, d3] => { results := [.lit (.bool false)], args := [d1, d2, d3] }
  | _ => none }
def RunAlikeWrongFalsely : Prop := runAlikeRow.holds Tryz.pinned (OpenSpec.ofChange runAlikeWrong)

/- THE SECOND FORM. 'bulk': how many values and letters a reading holds, each counted each time it is reached (what is shared counts as often as it is met; a slice's spare places count too). A statement '..UptoSaid' is the law's where the arguments, and the package variables that the reading takes, are together of bulk at most 1048576: NARROWER than '..Said'. Prove '..Said' where nothing that the law and all that it calls make is longer than what came in: it says more and counts as full. Else prove '..UptoSaid'. A law counts once. -/
mutual
def uptoBulk {H : Type} : DataW H → Nat
  | .lit (.string bytes) => bytes.length + 1
  | .lit _ => 1
  | .nil => 1
  | .ptr d => uptoBulk d + 1
  | .slice elems spare => uptoBulkAll elems + uptoBulkAll spare + 1
  | .agg parts => uptoBulkAll parts + 1
  | .iface _ d => uptoBulk d + 1
  | .map entries => uptoBulkEntries entries + 1
  | .held _ => 1
def uptoBulkAll {H : Type} : List (DataW H) → Nat
  | [] => 0
  | d :: r => uptoBulk d + uptoBulkAll r
def uptoBulkEntries {H : Type} : List (Lit × DataW H) → Nat
  | [] => 0
  | x :: r => uptoBulkEntry x + uptoBulkEntries r
def uptoBulkEntry {H : Type} : Lit × DataW H → Nat
  | (.string bytes, d) => bytes.length + uptoBulk d + 1
  | (_, d) => uptoBulk d + 1
 end
def uptoSmall : (H : Type) → List (DataW H) → Bool := fun _ ds => decide (uptoBulkAll ds ≤ 1048576)
def OpenSpec.upto (s : _root_.Go.ChangeSpec) : _root_.Go.OpenSpec := { _root_.Go.OpenSpec.ofChange s with cond := some uptoSmall }

/-- 'secateurlaw19.StepReckons', WHERE WHAT IT READS IS OF BULK AT MOST 1048576: true; the input reads as it did. -/
def stepReckonsUptoRow : OpenClaim := { program := "ytjejmlpjifhmmaagreatdoor", sum := "53690ccf81c5d1b8338c48785e16cfdb3eb3e6e5b83f0dda002efed21576709b", func := "secateur/secateurlaw19.StepReckons", spec := "stepReckons", inPlace := ["internal/bytealg.IndexByteString", "internal/bytealg.IndexString"], unfollowed := true, recurses := true, named := ["secateur/kind.void", "internal/bytealg.MaxLen"], plainKeys := false, apart := false, laid := [("secateur/kind.void", laid_secateur_kind_void)], narrowed := true }
def StepReckonsUptoSaid : Prop := stepReckonsUptoRow.holds Tryz.pinned (OpenSpec.upto stepReckonsSpec)

/-- 'secateurlaw19.StepNone', WHERE WHAT IT READS IS OF BULK AT MOST 1048576: true; the input reads as it did. -/
def stepNoneUptoRow : OpenClaim := { program := "ytjejmlpjifhmmaagreatdoor", sum := "53690ccf81c5d1b8338c48785e16cfdb3eb3e6e5b83f0dda002efed21576709b", func := "secateur/secateurlaw19.StepNone", spec := "stepNone", inPlace := ["internal/bytealg.IndexByteString", "internal/bytealg.IndexString"], unfollowed := true, recurses := true, named := ["secateur/kind.void", "internal/bytealg.MaxLen"], plainKeys := false, apart := false, laid := [("secateur/kind.void", laid_secateur_kind_void)], narrowed := true }
def StepNoneUptoSaid : Prop := stepNoneUptoRow.holds Tryz.pinned (OpenSpec.upto stepNoneSpec)

/-- 'secateurlaw20.RunFuel', WHERE WHAT IT READS IS OF BULK AT MOST 1048576: true; the input reads as it did. -/
def runFuelUptoRow : OpenClaim := { program := "ytjejmlpjifhmmaagreatdoor", sum := "53690ccf81c5d1b8338c48785e16cfdb3eb3e6e5b83f0dda002efed21576709b", func := "secateur/secateurlaw20.RunFuel", spec := "runFuel", inPlace := ["internal/bytealg.IndexByteString", "internal/bytealg.IndexString"], unfollowed := true, recurses := true, named := ["secateur/kind.void", "internal/bytealg.MaxLen"], plainKeys := false, apart := false, laid := [("secateur/kind.void", laid_secateur_kind_void)], narrowed := true }
def RunFuelUptoSaid : Prop := runFuelUptoRow.holds Tryz.pinned (OpenSpec.upto runFuelSpec)

/-- 'secateurlaw20.RunAlike', WHERE WHAT IT READS IS OF BULK AT MOST 1048576: true; the input reads as it did. -/
def runAlikeUptoRow : OpenClaim := { program := "ytjejmlpjifhmmaagreatdoor", sum := "53690ccf81c5d1b8338c48785e16cfdb3eb3e6e5b83f0dda002efed21576709b", func := "secateur/secateurlaw20.RunAlike", spec := "runAlike", inPlace := ["internal/bytealg.IndexByteString", "internal/bytealg.IndexString"], unfollowed := true, recurses := true, named := ["secateur/kind.void", "internal/bytealg.MaxLen"], plainKeys := false, apart := false, laid := [("secateur/kind.void", laid_secateur_kind_void)], narrowed := true }
def RunAlikeUptoSaid : Prop := runAlikeUptoRow.holds Tryz.pinned (OpenSpec.upto runAlikeSpec)

end Rows
end Go.Proofs.YtjejmlpjifhmmaaGreatDoor

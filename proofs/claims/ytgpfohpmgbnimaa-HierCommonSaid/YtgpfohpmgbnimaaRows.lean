/-
  No cell of these rows narrows 'for every input' (looked for: loops, veiled, ifaces, maps, wideKeys, modest, calm, conditions, laid).
  DERIVED. THE GIVEN ROWS OF THIS SEAT. 4 by the template 'for every input the law returns true; each argument reads behind the call as it read before'; 0 by the template 'total and deterministic' (their statements: YtgpfohpmgbnimaaTotals.lean).
  GIVEN WITH THE SEED: the statements are not yours to turn. If you find one false, say at which input.
  Laid BY PROGRAM, IN A SANDBOX (cutbox-rows.mjs): the forced cells as the released guide's own fill.sh prints them over the translation 6912655d9233a340… (all of the seat's roots in one cut). By AI agents, Wed Nov 11 2026. No macro, syntax, notation, axiom, sorry.
-/
import Derived.Test.YtgpfohpmgbnimaaChecked
import GoSem.Claim
import GoSem.ClaimJoined
import GoSem.ClaimMapViews
import Derived.JoinedTies
import Derived.KernelRfl
namespace Go.Proofs.Ytgpfohpmgbnimaa
/- THE CELL 'sum', in the pinned program and in every row, IS THE sha256 OF THE DUMP (.gsa) THAT YtgpfohpmgbnimaaProg.lean LOADS. Nothing in Lean hashes anything: it is a label: what it is worth is what the hold of that sum in a sandbox is worth. -/
noncomputable def Try.pinned : Pinned := { name := "ytgpfohpmgbnimaa", sum := "6912655d9233a340464b34acaa878c5e265656c46235b2f8ec2c492ba3a791d7", checked := Try.checked }
namespace Rows
def none {H : Type} : Left H := { results := [], args := [] }

/-- 'secateurlaw11.HierOrder': WHATEVER THE INPUT: true; the input reads as it did. -/
def hierOrderSpec : ChangeSpec := { name := "hierOrder", fn := fun _ => fun
  | [d1, d2] => { results := [.lit (.bool true)], args := [d1, d2] }
  | _ => none }
def hierOrderRow : OpenClaim := { program := "ytgpfohpmgbnimaa", sum := "6912655d9233a340464b34acaa878c5e265656c46235b2f8ec2c492ba3a791d7", func := "secateur/secateurlaw11.HierOrder", spec := "hierOrder", unfollowed := true, recurses := true, apart := false }
def HierOrderSaid : Prop := hierOrderRow.holds Try.pinned (OpenSpec.ofChange hierOrderSpec)

/-- ITS FALSE NEIGHBOUR: 'it returns false'. Refute it at one input. -/
def hierOrderWrong : ChangeSpec := { name := "hierOrder", fn := fun _ => fun
  | [d1, d2] => { results := [.lit (.bool false)], args := [d1, d2] }
  | _ => none }
def HierOrderWrongFalsely : Prop := hierOrderRow.holds Try.pinned (OpenSpec.ofChange hierOrderWrong)

/-- 'secateurlaw11.HierCommon': WHATEVER THE INPUT: true; the input reads as it did. -/
def hierCommonSpec : ChangeSpec := { name := "hierCommon", fn := fun _ => fun
  | [d1, d2] => { results := [.lit (.bool true)], args := [d1, d2] }
  | _ => none }
def hierCommonRow : OpenClaim := { program := "ytgpfohpmgbnimaa", sum := "6912655d9233a340464b34acaa878c5e265656c46235b2f8ec2c492ba3a791d7", func := "secateur/secateurlaw11.HierCommon", spec := "hierCommon", unfollowed := true, recurses := true, apart := false }
def HierCommonSaid : Prop := hierCommonRow.holds Try.pinned (OpenSpec.ofChange hierCommonSpec)

/-- ITS FALSE NEIGHBOUR: 'it returns false'. Refute it at one input. -/
def hierCommonWrong : ChangeSpec := { name := "hierCommon", fn := fun _ => fun
  | [d1, d2] => { results := [.lit (.bool false)], args := [d1, d2] }
  | _ => none }
def HierCommonWrongFalsely : Prop := hierCommonRow.holds Try.pinned (OpenSpec.ofChange hierCommonWrong)

/-- 'secateurlaw12.FindOverrides': WHATEVER THE INPUT: true; the input reads as it did. -/
def findOverridesSpec : ChangeSpec := { name := "findOverrides", fn := fun _ => fun
  | [d1, d2] => { results := [.lit (.bool true)], args := [d1, d2] }
  | _ => none }
def findOverridesRow : OpenClaim := { program := "ytgpfohpmgbnimaa", sum := "6912655d9233a340464b34acaa878c5e265656c46235b2f8ec2c492ba3a791d7", func := "secateur/secateurlaw12.FindOverrides", spec := "findOverrides", unfollowed := true, recurses := true, apart := false }
def FindOverridesSaid : Prop := findOverridesRow.holds Try.pinned (OpenSpec.ofChange findOverridesSpec)

/-- ITS FALSE NEIGHBOUR: 'it returns false'. Refute it at one input. -/
def findOverridesWrong : ChangeSpec := { name := "findOverrides", fn := fun _ => fun
  | [d1, d2] => { results := [.lit (.bool false)], args := [d1, d2] }
  | _ => none }
def FindOverridesWrongFalsely : Prop := findOverridesRow.holds Try.pinned (OpenSpec.ofChange findOverridesWrong)

/-- 'secateurtop.TopNearest': WHATEVER THE INPUT: true; the input reads as it did. -/
def topNearestSpec : ChangeSpec := { name := "topNearest", fn := fun _ => fun
  | [d1, d2] => { results := [.lit (.bool true)], args := [d1, d2] }
  | _ => none }
def topNearestRow : OpenClaim := { program := "ytgpfohpmgbnimaa", sum := "6912655d9233a340464b34acaa878c5e265656c46235b2f8ec2c492ba3a791d7", func := "secateur/secateurtop.TopNearest", spec := "topNearest", unfollowed := true, recurses := true, apart := false }
def TopNearestSaid : Prop := topNearestRow.holds Try.pinned (OpenSpec.ofChange topNearestSpec)

/-- ITS FALSE NEIGHBOUR: 'it returns false'. Refute it at one input. -/
def topNearestWrong : ChangeSpec := { name := "topNearest", fn := fun _ => fun
  | [d1, d2] => { results := [.lit (.bool false)], args := [d1, d2] }
  | _ => none }
def TopNearestWrongFalsely : Prop := topNearestRow.holds Try.pinned (OpenSpec.ofChange topNearestWrong)

/- THE SECOND FORM. 'bulk': how many values and letters a reading holds, each counted each time it is reached (what is shared counts as often as it is met; a slice's spare places count too). A statement '..UptoSaid' is the law's where the arguments, and the package variables that the reading takes, are together of bulk at most 1048576: NARROWER than '..Said'. Prove '..Said' where nothing that the law and all that it calls make is longer than what came in: it says more and counts as full. Else prove '..UptoSaid'. A law counts once. -/
mutual
def uptoBulk {H : Type} : DataW H → Nat
  | .lit (.string bytes) => bytes.length + 1
  | .lit _ => 1
  | .nil => 1
  | .ptr d => uptoBulk d + 1
  | .slice elems spare => uptoBulkAll elems + uptoBulkAll spare + 1
  | .agg parts => uptoBulkAll parts + 1
  | .iface _ d => uptoBulk d + 1
  | .map entries => uptoBulkEntries entries + 1
  | .held _ => 1
def uptoBulkAll {H : Type} : List (DataW H) → Nat
  | [] => 0
  | d :: r => uptoBulk d + uptoBulkAll r
def uptoBulkEntries {H : Type} : List (Lit × DataW H) → Nat
  | [] => 0
  | x :: r => uptoBulkEntry x + uptoBulkEntries r
def uptoBulkEntry {H : Type} : Lit × DataW H → Nat
  | (.string bytes, d) => bytes.length + uptoBulk d + 1
  | (_, d) => uptoBulk d + 1
 end
def uptoSmall : (H : Type) → List (DataW H) → Bool := fun _ ds => decide (uptoBulkAll ds ≤ 1048576)
def OpenSpec.upto (s : _root_.Go.ChangeSpec) : _root_.Go.OpenSpec := { _root_.Go.OpenSpec.ofChange s with cond := some uptoSmall }

/-- 'secateurlaw11.HierOrder', WHERE WHAT IT READS IS OF BULK AT MOST 1048576: true; the input reads as it did. -/
def hierOrderUptoRow : OpenClaim := { program := "ytgpfohpmgbnimaa", sum := "6912655d9233a340464b34acaa878c5e265656c46235b2f8ec2c492ba3a791d7", func := "secateur/secateurlaw11.HierOrder", spec := "hierOrder", unfollowed := true, recurses := true, apart := false, narrowed := true }
def HierOrderUptoSaid : Prop := hierOrderUptoRow.holds Try.pinned (OpenSpec.upto hierOrderSpec)

/-- 'secateurlaw11.HierCommon', WHERE WHAT IT READS IS OF BULK AT MOST 1048576: true; the input reads as it did. -/
def hierCommonUptoRow : OpenClaim := { program := "ytgpfohpmgbnimaa", sum := "6912655d9233a340464b34acaa878c5e265656c46235b2f8ec2c492ba3a791d7", func := "secateur/secateurlaw11.HierCommon", spec := "hierCommon", unfollowed := true, recurses := true, apart := false, narrowed := true }
def HierCommonUptoSaid : Prop := hierCommonUptoRow.holds Try.pinned (OpenSpec.upto hierCommonSpec)

/-- 'secateurlaw12.FindOverrides', WHERE WHAT IT READS IS OF BULK AT MOST 1048576: true; the input reads as it did. -/
def findOverridesUptoRow : OpenClaim := { program := "ytgpfohpmgbnimaa", sum := "6912655d9233a340464b34acaa878c5e265656c46235b2f8ec2c492ba3a791d7", func := "secateur/secateurlaw12.FindOverrides", spec := "findOverrides", unfollowed := true, recurses := true, apart := false, narrowed := true }
def FindOverridesUptoSaid : Prop := findOverridesUptoRow.holds Try.pinned (OpenSpec.upto findOverridesSpec)

/-- 'secateurtop.TopNearest', WHERE WHAT IT READS IS OF BULK AT MOST 1048576: true; the input reads as it did. -/
def topNearestUptoRow : OpenClaim := { program := "ytgpfohpmgbnimaa", sum := "6912655d9233a340464b34acaa878c5e265656c46235b2f8ec2c492ba3a791d7", func := "secateur/secateurtop.TopNearest", spec := "topNearest", unfollowed := true, recurses := true, apart := false, narrowed := true }
def TopNearestUptoSaid : Prop := topNearestUptoRow.holds Try.pinned (OpenSpec.upto topNearestSpec)

end Rows
end Go.Proofs.Ytgpfohpmgbnimaa

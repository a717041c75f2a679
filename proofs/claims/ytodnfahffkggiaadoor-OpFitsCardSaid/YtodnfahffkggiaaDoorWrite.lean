/-
  What the program and the reference write: a text's bytes, a section's; and a reader that is opened; what is cloned.
-/
import Derived.Test.YtodnfahffkggiaaDoorMeth2
import Derived.Test.YtodnfahffkggiaaDoorSealR
import Derived.Lib.AppendStr
namespace Go.Proofs.YtodnfahffkggiaaDoor.write
open Go.RowKit
open Go.Proofs.YtodnfahffkggiaaDoor.num Go.Proofs.YtodnfahffkggiaaDoor.words Go.Proofs.YtodnfahffkggiaaDoor.rdnum Go.Proofs.YtodnfahffkggiaaDoor.rdr Go.Proofs.YtodnfahffkggiaaDoor.give Go.Proofs.YtodnfahffkggiaaDoor.reading Go.Proofs.YtodnfahffkggiaaDoor.meth Go.Proofs.YtodnfahffkggiaaDoor.sealing Go.Proofs.YtodnfahffkggiaaDoor.crcnum

/-- a text's bytes, as numbers -/
def N (s : ByteArray) : List Nat := s.data.toList.map (·.toNat)
theorem N_len (s : ByteArray) : (N s).length = s.size := by unfold N; rw [List.length_map, Array.length_toList]; rfl
theorem N_byte (s : ByteArray) : ∀ x ∈ N s, x < 256 := by
  intro x hx
  obtain ⟨y, _, rfl⟩ := List.mem_map.1 hx
  exact y.toNat_lt
theorem N_cells (s : ByteArray) : Lib.strCells s = B (N s) := by
  simp [N, B, Lib.strCells, List.map_map]
theorem S_N (s : ByteArray) : S (N s) = .string s := by
  unfold S N
  rw [List.map_map]
  have : (UInt8.ofNat ∘ fun x : UInt8 => x.toNat) = id := by funext x; simp
  rw [this]
  simp

/-- A READER OF BYTES, in a new block. -/
def Opened (R : World → Nat → Rs → Prop) (l : List Nat) (w : World) (e : Ending) (w' : World) : Prop :=
  ∃ g, e = .returned (.pointer (some ⟨g, 0, none⟩)) ∧ w.heap.size ≤ g ∧ R w' g ⟨l, 0, 0, 0⟩ ∧ Below w.heap.size w w'

/-- a text's bytes -/
def textL (l : List Nat) : List Nat := putL l.length ++ l
/-- a section's bytes -/
def sectL (id : Nat) (l : List Nat) : List Nat := id :: (putL l.length ++ sealL l)

end Go.Proofs.YtodnfahffkggiaaDoor.write

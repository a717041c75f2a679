/-
 Layer 4: which texts are names, of members and of classes; the program's answers.
-/
import Derived.Test.YtcaaljioennnnabDoorWordA
namespace Go.Proofs.YtcaaljioennnnabDoor.word
open Go.RowKit
open num words give write

def fits (s : ByteArray) : Bool := decide (1 ≤ s.size ∧ s.size ≤ 32)
/-- a name of the bytes that may be -/
def namedB (p : Nat → Bool) (s : ByteArray) : Bool := fits s && (N s).all p
def initName : ByteArray := ⟨#[60, 99, 108, 105, 110, 105, 116, 62]⟩
def nameB (s : ByteArray) : Bool := decide (s = initName) || namedB letterB s

theorem ext_list {a b : ByteArray} (h : a.toList = b.toList) : a = b := by
 rw [Lib.toList_data, Lib.toList_data] at h
 exact ByteArray.ext (Array.toList_inj.1 h)
theorem not_empty {s : ByteArray} (h : ¬ s.size = 0) : s.toList.isEmpty = false := by
 rw [Lib.toList_data]
 cases hd : s.data.toList with
 | nil => exact absurd (by rw [← N_len]; unfold N; rw [hd]; rfl) h
 | cons a b => rfl

end Go.Proofs.YtcaaljioennnnabDoor.word

/-
  What Seal and Open of crc hand back: bytes with their sum behind them, and the bytes that were sealed.
-/
import Derived.Test.YtodnfahffkggiaaDoorProg
import Derived.Test.YtodnfahffkggiaaDoorCrc
import Derived.Test.YtodnfahffkggiaaDoorPut
import Derived.Test.YtodnfahffkggiaaDoorTake
import Derived.Lib.AppendZerosOnto
import Derived.Handy
namespace Go.Proofs.YtodnfahffkggiaaDoor.sealing
open Go.RowKit
open Go.Proofs.YtodnfahffkggiaaDoor.crcnum Go.Proofs.YtodnfahffkggiaaDoor.words

def fourL (s : Nat) : List Nat := [s % 256, s / 256 % 256, s / 65536 % 256, s / 16777216 % 256]
def sealL (l : List Nat) : List Nat := l ++ fourL (sumL l)
def openL (l : List Nat) : List Nat × Nat :=
  if l.length < 4 then ([], 2)
  else if l.drop (l.length - 4) = fourL (sumL (l.take (l.length - 4))) then (l.take (l.length - 4), 0) else ([], 4)
theorem fourL_byte (s : Nat) : ∀ x ∈ fourL s, x < 256 := by
  intro x hx
  simp only [fourL, List.mem_cons, List.not_mem_nil, or_false] at hx
  rcases hx with rfl | rfl | rfl | rfl <;> omega
theorem sealL_byte {l : List Nat} (h : ∀ x ∈ l, x < 256) : ∀ x ∈ sealL l, x < 256 := by
  intro x hx
  rcases List.mem_append.1 hx with hx | hx
  · exact h x hx
  · exact fourL_byte _ x hx
theorem sealL_len (l : List Nat) : (sealL l).length = l.length + 4 := by simp [sealL, fourL]
theorem open_seal (l : List Nat) : openL (sealL l) = (l, 0) := by
  unfold openL
  rw [if_neg (by rw [sealL_len]; omega)]
  have e : (sealL l).length - 4 = l.length := by rw [sealL_len]; omega
  rw [e]
  simp [sealL]
theorem seal_open {l : List Nat} (h : (openL l).2 = 0) : sealL (openL l).1 = l := by
  unfold openL at h ⊢
  by_cases h1 : l.length < 4
  · rw [if_pos h1] at h; simp at h
  · rw [if_neg h1] at h ⊢
    by_cases h2 : l.drop (l.length - 4) = fourL (sumL (l.take (l.length - 4)))
    · rw [if_pos h2]
      simp only [sealL]
      rw [← h2, List.take_append_drop]
    · rw [if_neg h2] at h; simp at h

/-- a sum's four bytes, as one array -/
def F (s : Nat) : Value := .agg #[.int .u8 ((s % 256 : Nat) : Int), .int .u8 ((s / 256 % 256 : Nat) : Int), .int .u8 ((s / 65536 % 256 : Nat) : Int), .int .u8 ((s / 16777216 % 256 : Nat) : Int)]
/-- a row with room, that holds nothing yet -/
theorem own_empty (w : World) (cur : Array Value) (cap : Nat) (hm : cap ≤ maxLen) (hs : cur.size = cap) : (w.alloc (.cells cur 5)).ownsRow w.heap.size 5 1 (.slice (some ⟨w.heap.size, 0, none⟩) 0 cap) 0 [] :=
  ⟨by simp, .inr ⟨w.heap.size, cap, cur, rfl, Nat.le_refl _, heap_alloc_new w _, Nat.zero_le _, hm, by rw [hs, Nat.mul_one], by simp⟩⟩
/-- SEAL: bytes, and the four bytes of their sum. -/
theorem F_cells (s : Nat) : (F s).cells = (B (fourL s)).toArray := rfl
end Go.Proofs.YtodnfahffkggiaaDoor.sealing

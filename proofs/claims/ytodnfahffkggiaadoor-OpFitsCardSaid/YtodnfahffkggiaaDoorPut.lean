/-
  What leb.Put and the reference's Put hand back: a new slice that holds a number's bytes. Both are what putL says.
-/
import Derived.Test.YtodnfahffkggiaaDoorProg
import Derived.Test.YtodnfahffkggiaaDoorNum
import Derived.Test.YtodnfahffkggiaaDoorWords
import Derived.Lib.Hide
import Derived.WalkSpells
namespace Go.Proofs.YtodnfahffkggiaaDoor.put
open Go.RowKit
open Go.Proofs.YtodnfahffkggiaaDoor.num Go.Proofs.YtodnfahffkggiaaDoor.words

set_option maxRecDepth 100000 in
theorem info5 : (Tryd.prog.info? 5).map (fun i => (i.zero, i.size, i.bytes)) = some (some (.int .u8 0), 1, 1) := by kernel_rfl

/-- a new slice of bytes: what it holds, and that nothing which was there has changed -/
def New (w : World) (l : List Nat) (e : Ending) (w' : World) : Prop :=
  ∃ v, e = .returned v ∧ w'.ownsRow w.heap.size 5 1 v l.length (B l) ∧ Below w.heap.size w w'

theorem or_byte_nat : ∀ x : Fin 256, x.val ||| 128 = x.val % 128 + 128 := by decide +kernel
theorem or_byte (m : Nat) : bits .or .u8 ((m : Int) % 256) 128 = ((m % 128 + 128 : Nat) : Int) := by
  have e : (m : Int) % 256 = ((m % 256 : Nat) : Int) := by omega
  have h := u8_or_nat (m % 256) 128 (by omega) (by omega)
  rw [show (((128 : Nat) : Int)) = 128 from rfl] at h
  rw [e, h, or_byte_nat ⟨m % 256, by omega⟩]
  congr 1
  show m % 256 % 128 + 128 = _
  omega
set_option maxRecDepth 100000 in
theorem size5 (w : World) : (sizeOf 5).run Tryd.prog w = .ok 1 w := by kernel_rfl
theorem take_set {cs : Array Value} {j : Nat} {xs : List Nat} {x : Nat} (hs : j < cs.size) (ht : cs.toList.take j = B xs) :
    (cs.setIfInBounds j (.int .u8 (x : Int))).toList.take (j + 1) = B (xs ++ [x]) := by
  rw [Array.toList_setIfInBounds, B_app, ← ht]
  rw [List.take_add_one, List.take_set_of_le (by omega)]
  simp [B, hs]
end Go.Proofs.YtodnfahffkggiaaDoor.put

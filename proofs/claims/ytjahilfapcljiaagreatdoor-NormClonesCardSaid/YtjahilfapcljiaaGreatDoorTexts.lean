/-
 What the reference's SameTexts answers of two slices that hold the same texts: true; it only reads.
-/
import Derived.Test.YtjahilfapcljiaaGreatDoorProg
import Derived.Test.YtjahilfapcljiaaGreatDoorWords
import Derived.Lib.Hide
import Derived.Deep.QuietTactic
import Derived.BigQuiet
namespace Go.Proofs.YtjahilfapcljiaaGreatDoor.texts
open Go.RowKit
open words

/-- texts, as cells -/
def S (l : List ByteArray) : List Value := l.map Value.string
theorem S_len (l : List ByteArray) : (S l).length = l.length := by simp [S]
theorem S_app (l r : List ByteArray) : S (l ++ r) = S l ++ S r := by simp [S]
theorem S_at {l : List ByteArray} {j : Nat} {c : ByteArray} (h : l[j]? = some c) : (S l)[j]? = some (.string c) := by simp [S, h]
theorem S_one (l : List ByteArray) : ∀ u ∈ S l, u.oneCell' = true := by
 intro u hu
 obtain ⟨x, _, rfl⟩ := List.mem_map.1 hu
 rfl

set_option maxRecDepth 100000 in
set_option maxHeartbeats 400000 in
theorem texts_same (A C : Option Addr) (n c d : Nat) (l : List ByteArray) (w : World) (h1 : Rd w A (S l)) (h2 : Rd w C (S l)) (hl : l.length = n) (hn : n ≤ 281474976710656) :
  Calls Tryz.prog 23 #[.slice A n c, .slice C n d] w fun e w' => e = .returned (.bool true) ∧ ∃ q, w' = w.drewN q := by
 have hnI : (n : Int) ≤ 281474976710656 := by omega
 have hnn : ((n : Int) != n) = false := by simp
 clear hn
 go_enter Tryz.func23, Tryz.ntmps23
 go_wp2
 go_loopw [5] (fun i wr => ∃ k : Nat, k ≤ n ∧ i = .int .i64 (k : Int) ∧ ∃ q, wr = w.drewN q) (fun i _ => n - (intOf i).toNat)
 case atStart => exact ⟨0, Nat.zero_le _, rfl, 0, rfl⟩
 case round =>
  obtain ⟨k, hk, rfl, q, rfl⟩ := hrel
  by_cases hlt : k < n
  ·obtain ⟨x, hx⟩ : ∃ x, l[k]? = some x := ⟨l[k]'(by omega), List.getElem?_eq_getElem (by omega)⟩
   obtain ⟨a, rfl, _, ha⟩ := h1.at_ (S_at hx)
   obtain ⟨b, rfl, _, hb⟩ := h2.at_ (S_at hx)
   have hxx : (x.toList != x.toList) = false := by simp
   clear h1 h2 hx hl
   go_wp2
   go_quiet (fail)
   go_wp2
   go_roundw
   case rel => exact ⟨k + 1, by omega, by go_num, _, rfl⟩
   case measure => simp [intOf]; omega
  ·go_wp2
   go_ret
   exact ⟨rfl, q, rfl⟩
end Go.Proofs.YtjahilfapcljiaaGreatDoor.texts

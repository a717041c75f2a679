/-
 Layer 21: the document's answers, walked.
-/
import Derived.Test.YtcaaljioennnnabDoorGlobQ
import Derived.Test.YtcaaljioennnnabDoorProg
import Derived.Test.YtcaaljioennnnabDoorWords
import Derived.IntWalk
import Derived.Lib.Hide
namespace Go.Proofs.YtcaaljioennnnabDoor.glob
open Go.RowKit
open Go.Proofs.YtcaaljioennnnabDoor.words
set_option linter.all false
/-- a text's bytes -/
def lb (s : ByteArray) : List UInt8 := s.data.toList
theorem lb_len (s : ByteArray) : (lb s).length = s.size := by unfold lb; rw [Array.length_toList]; rfl
theorem lb_some (s : ByteArray) (k : Nat) (h : k < s.size) : (lb s)[k]? = some (s[k]'h) := by
 unfold lb; rw [Array.getElem?_toList, Array.getElem?_eq_getElem (by exact h)]; rfl
theorem lb_at (s : ByteArray) (k : Nat) (h : k < s.size) : (lb s)[k]'(by rw [lb_len]; exact h) = s[k]'h := by
 have h1 := lb_some s k h
 rw [List.getElem?_eq_getElem (by rw [lb_len]; exact h)] at h1
 exact Option.some.inj h1
theorem lb_take (s : ByteArray) (k : Nat) (h : k < s.size) : (lb s).take (k + 1) = (lb s).take k ++ [s[k]'h] := by
 rw [List.take_add_one, lb_some s k h]; rfl
theorem lb_full (s : ByteArray) : (lb s).take s.size = lb s := by rw [← lb_len, List.take_length]
def okc (c : UInt8) : Bool := decide (33 ≤ c.toNat ∧ c.toNat ≤ 126)
theorem right_no {s : ByteArray} {k : Nat} (h : k < s.size) (hc : (s[k]'h).toNat < 33 ∨ 126 < (s[k]'h).toNat) : rightG (lb s) = false := by
 have : (lb s).all (fun c => decide (33 ≤ c.toNat ∧ c.toNat ≤ 126)) = false := by
  rw [List.all_eq_false]
  exact ⟨_, List.mem_of_getElem? (lb_some s k h), by simp only [decide_eq_true_eq]; omega⟩
 unfold rightG; rw [this]; rfl
theorem right_all {s : ByteArray} (h : ((lb s).take s.size).all okc = true) : rightG (lb s) = decide (1 ≤ s.size ∧ s.size ≤ 64) := by
 rw [lb_full] at h
 unfold rightG
 rw [show (lb s).all (fun c => decide (33 ≤ c.toNat ∧ c.toNat ≤ 126)) = true from h, lb_len]; rfl
theorem all_next {s : ByteArray} {k : Nat} {p : UInt8 → Bool} (h : k < s.size) (ha : ((lb s).take k).all p = true) (hp : p (s[k]'h) = true) : ((lb s).take (k + 1)).all p = true := by
 rw [lb_take s k h, List.all_append, ha]; simp [hp]
set_option maxRecDepth 100000 in
set_option maxHeartbeats 8000000 in
theorem right_r (s : ByteArray) (w : World) (hs : s.size ≤ 281474976710656) : Calls Tryd.prog 34 #[.string s] w fun e w' => e = .returned (.bool (rightG (lb s))) ∧ w' = w := by
 have hsI : (s.size : Int) ≤ 281474976710656 := by omega
 have HN := Lib.hid (fun (k : Nat) (h : k < s.size) hc => right_no (s := s) (k := k) h hc)
 have HT := Lib.hid (fun h => right_all (s := s) h)
 have HX := Lib.hid (fun (k : Nat) (h : k < s.size) ha hp => all_next (s := s) (k := k) (p := okc) h ha hp)
 go_enter Tryd.func34, Tryd.ntmps34
 go_wp2
 go_loopw [3] (fun i wr => ∃ k : Nat, k ≤ s.size ∧ i = .int .i64 (k : Int) ∧ wr = w ∧ ((lb s).take k).all okc = true) (fun i _ => s.size - (intOf i).toNat)
 case atStart => exact ⟨0, Nat.zero_le _, rfl, rfl, by simp⟩
 case round =>
  obtain ⟨k, hk, rfl, hw, hall⟩ := hrel
  have HA := Lib.hid hall
  clear hall
  subst hw
  by_cases hlt : k < s.size
  ·have hltI : (k : Int) < (s.size : Int) := by omega
   by_cases h1 : (s[k]'hlt).toNat < 33
   ·have h1I : ((s[k]'hlt).toNat : Int) < 33 := by omega
    have HE := Lib.hid (HN.out k hlt (.inl h1))
    clear HN HT HX h1
    go_wp2
    go_ret
    exact ⟨by rw [HE.out]; rfl, rfl⟩
   ·have h1I : ¬ ((s[k]'hlt).toNat : Int) < 33 := by omega
    by_cases h2 : 126 < (s[k]'hlt).toNat
    ·have h2I : 126 < ((s[k]'hlt).toNat : Int) := by omega
     have HE := Lib.hid (HN.out k hlt (.inr h2))
     clear HN HT HX h1 h2
     go_wp2
     go_ret
     exact ⟨by rw [HE.out]; rfl, rfl⟩
    ·have h2I : ¬ 126 < ((s[k]'hlt).toNat : Int) := by omega
     have HE := Lib.hid (HX.out k hlt HA.out (by unfold okc; simp only [decide_eq_true_eq]; omega))
     clear HN HT HX h1 h2
     go_wp2
     go_roundw
     case rel => exact ⟨k + 1, by omega, by go_num, by first | rfl | trivial, HE.out⟩
     case measure => simp [intOf]; omega
  ·have hltI : ¬ (k : Int) < (s.size : Int) := by omega
   obtain rfl : k = s.size := by omega
   have HE := Lib.hid (HT.out HA.out)
   clear HN HT HX
   by_cases h1 : 1 ≤ s.size
   ·have h1I : (1 : Int) ≤ (s.size : Int) := by omega
    by_cases h2 : s.size ≤ 64
    ·have h2I : (s.size : Int) ≤ 64 := by omega
     rw [decide_eq_true (show 1 ≤ s.size ∧ s.size ≤ 64 from ⟨h1, h2⟩)] at HE
     clear h1 h2
     go_wp2
     go_ret
     exact ⟨by rw [HE.out]; rfl, rfl⟩
    ·have h2I : ¬ (s.size : Int) ≤ 64 := by omega
     rw [decide_eq_false (show ¬ (1 ≤ s.size ∧ s.size ≤ 64) from by omega)] at HE
     clear h1 h2
     go_wp2
     go_ret
     exact ⟨by rw [HE.out]; rfl, rfl⟩
   ·have h1I : ¬ (1 : Int) ≤ (s.size : Int) := by omega
    rw [decide_eq_false (show ¬ (1 ≤ s.size ∧ s.size ≤ 64) from by omega)] at HE
    clear h1
    go_wp2
    go_ret
    exact ⟨by rw [HE.out]; rfl, rfl⟩
end Go.Proofs.YtcaaljioennnnabDoor.glob

/-
 Layer 4: whether each byte of a text may stand in a name.
-/
import Derived.Test.YtcaaljioennnnabDoorWord
import Derived.Test.YtcaaljioennnnabDoorWrite
namespace Go.Proofs.YtcaaljioennnnabDoor.word
open Go.RowKit
open num words give write

theorem N_at (s : ByteArray) (k : Nat) (h : k < s.size) : (N s)[k]? = some (s[k]'h).toNat := by
 unfold N
 rw [List.getElem?_map, Array.getElem?_toList, Array.getElem?_eq_getElem (by exact h)]
 rfl
theorem take_all (s : ByteArray) (p : Nat → Bool) (k : Nat) (h : k < s.size) (ha : ((N s).take k).all p = true) (hp : p (s[k]'h).toNat = true) : ((N s).take (k + 1)).all p = true := by
 rw [List.take_add_one, N_at s k h, List.all_append, ha]
 simp [hp]
theorem not_all (s : ByteArray) (p : Nat → Bool) (k : Nat) (h : k < s.size) (hp : p (s[k]'h).toNat = false) : (N s).all p = false := by
 rw [List.all_eq_false]
 exact ⟨_, List.mem_of_getElem? (N_at s k h), by simp [hp]⟩

set_option maxRecDepth 100000 in
set_option maxHeartbeats 400000 in
theorem all_w (s : ByteArray) (p : Nat → Bool) (f : Nat) (w : World) (hs : s.size ≤ 281474976710656)
  (hf : ∀ (c : Nat) (w : World), c < 256 → Calls Tryd.prog f #[.int .u8 (c : Int)] w fun e w' => e = .returned (.bool (p c)) ∧ w' = w)
  (ef : ∀ args w, (callFunc f args).run Tryd.prog w = .ok (.enter f args) w) :
  Calls Tryd.prog 40 #[.string s, .func (.func f) #[] #[]] w fun e w' => e = .returned (.bool ((N s).all p)) ∧ w' = w := by
 have HF := Lib.hid hf
 have hnI : (s.size : Int) ≤ 281474976710656 := by omega
 have HL := Lib.hid (N_len s)
 clear hf hs
 go_enter Tryd.func40, Tryd.ntmps40
 go_wp2
 go_loopw [8] (fun i wr => ∃ k : Nat, k ≤ s.size ∧ i = .int .i64 (k : Int) ∧ wr = w ∧ ((N s).take k).all p = true) (fun i _ => s.size - (intOf i).toNat)
 case atStart => exact ⟨0, Nat.zero_le _, rfl, rfl, by simp⟩
 case round =>
  obtain ⟨k, hk, rfl, rfl, hall⟩ := hrel
  have HA := Lib.hid hall
  clear hall
  by_cases hlt : k < s.size
  ·have hltI : (k : Int) < (s.size : Int) := by omega
   have hlt8 : (s[k]'hlt).toNat < 256 := UInt8.toNat_lt _
   have hk1 := take_all s p k hlt HA.out
   go_wp2_with fail
   refine (HF.out _ _ hlt8).mono ?_
   rintro e w' ⟨rfl, rfl⟩
   cases hp : p (s[k]'hlt).toNat
   ·have HN := Lib.hid (not_all s p k hlt hp)
    clear hk1 hp hlt8 HF HA ef
    go_wp2
    go_ret
    rw [HN.out]
    exact ⟨rfl, rfl⟩
   ·have HK := Lib.hid (hk1 hp)
    clear hk1 hp hlt8 HF HA
    go_wp2
    go_roundw
    case rel => exact ⟨k + 1, by omega, by go_num, by first | rfl | trivial, HK.out⟩
    case measure => simp [intOf]; omega
  ·have hltI : ¬ (k : Int) < (s.size : Int) := by omega
   have hks : k = s.size := by omega
   subst hks
   have ha := HA.out
   rw [← N_len, List.take_length] at ha
   have HA2 := Lib.hid ha
   clear ha HA HF ef
   go_wp2
   go_ret
   rw [HA2.out]
   exact ⟨rfl, rfl⟩
end Go.Proofs.YtcaaljioennnnabDoor.word

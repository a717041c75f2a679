/-
  Layer 4: what stands on both sides of the last point, where these are names.
-/
import Derived.Test.YtcpjllkfgoaamaaDoorWordM
import Derived.Test.YtcpjllkfgoaamaaDoorShelf
import Derived.OwnWalk
namespace Go.Proofs.YtcpjllkfgoaamaaDoor.word
open Go.RowKit
open Go.Proofs.YtcpjllkfgoaamaaDoor.num Go.Proofs.YtcpjllkfgoaamaaDoor.words Go.Proofs.YtcpjllkfgoaamaaDoor.give Go.Proofs.YtcpjllkfgoaamaaDoor.write

/-- the text's parts, where a point stands at k behind which there is none -/
def partsB (s : ByteArray) (k : Nat) : ByteArray × ByteArray × Bool :=
  if namedB classB (s.extract 0 k) && nameB (s.extract (k + 1) s.size) then (s.extract 0 k, s.extract (k + 1) s.size, true) else (⟨#[]⟩, ⟨#[]⟩, false)
def splitB (s : ByteArray) : ByteArray × ByteArray × Bool :=
  if Lib.lastIndexByte s 46 < 0 then (⟨#[]⟩, ⟨#[]⟩, false) else partsB s (Lib.lastIndexByte s 46).toNat
def tripleV (x : ByteArray × ByteArray × Bool) : Value := .tuple #[.string x.1, .string x.2.1, .bool x.2.2]
theorem splitB_none {s : ByteArray} (h : Lib.lastIndexByte s 46 = -1) : splitB s = (⟨#[]⟩, ⟨#[]⟩, false) := by unfold splitB; rw [h]; rfl
theorem splitB_at {s : ByteArray} {k : Nat} (h : Lib.lastIndexByte s 46 = (k : Int)) : splitB s = partsB s k := by
  unfold splitB; rw [h, if_neg (by omega)]; simp
theorem last_cases (s : ByteArray) : Lib.lastIndexByte s 46 = -1 ∨ ∃ k : Nat, k < s.size ∧ Lib.lastIndexByte s 46 = (k : Int) := by
  rcases Lib.lastIdx_spec s 46 s.size with ⟨h, _⟩ | ⟨i, hi, h, _⟩
  · exact .inl h
  · exact .inr ⟨i, hi, h⟩

set_option maxRecDepth 100000 in
set_option maxHeartbeats 800000 in
theorem split_w (s : ByteArray) (w : World) (hs : s.size ≤ 281474976710656) :
    Calls Tryd.prog 23 #[.string s] w fun e w' => e = .returned (tripleV (splitB s)) ∧ ∃ q, w' = w.drewN q := by
  have HL := Lib.hid (fun w => Tryd.strings_LastIndex_one s ⟨#[46]⟩ rfl (by omega) w)
  have hsI : (s.size : Int) ≤ 281474976710656 := by omega
  rcases last_cases s with h | ⟨k, hk, h⟩
  · rw [splitB_none h]
    have HL2 := Lib.hid (fun w => (show _ from h ▸ HL.out w : Calls Tryd.prog 42 #[.string s, .string ⟨#[46]⟩] w fun e w' => e = .returned (.int .i64 (-1)) ∧ w' = w))
    clear HL h hs
    go_enter Tryd.func23, Tryd.ntmps23
    go_wp2_with fail
    refine (HL2.out _).mono ?_
    rintro e w' ⟨rfl, rfl⟩
    go_wp2
    go_ret3
    exact ⟨rfl, 0, rfl⟩
  · rw [splitB_at h]
    have HL2 := Lib.hid (fun w => (show _ from h ▸ HL.out w : Calls Tryd.prog 42 #[.string s, .string ⟨#[46]⟩] w fun e w' => e = .returned (.int .i64 (k : Int)) ∧ w' = w))
    have HC := Lib.hid (fun w => class_name (s.extract 0 k) w (by rw [ByteArray.size_extract]; omega))
    have HN := Lib.hid (fun w => name_w (s.extract (k + 1) s.size) w (by rw [ByteArray.size_extract]; omega))
    have HP := Lib.hid (show partsB s k = if namedB classB (s.extract 0 k) && nameB (s.extract (k + 1) s.size) then (s.extract 0 k, s.extract (k + 1) s.size, true) else (⟨#[]⟩, ⟨#[]⟩, false) from rfl)
    have hk0 : ¬ (k : Int) < 0 := by omega
    have hkI : (k : Int) ≤ (s.size : Int) := by omega
    have hkJ : (k : Int) + 1 ≤ (s.size : Int) := by omega
    clear HL h hs
    rw [HP.out]
    clear HP
    generalize namedB classB (s.extract 0 k) = c1 at *
    generalize nameB (s.extract (k + 1) s.size) = c2 at *
    cases c1
    · rw [Bool.false_and, if_neg (by simp)]
      go_enter Tryd.func23, Tryd.ntmps23
      go_wp2_with fail
      refine (HL2.out _).mono ?_
      rintro e w' ⟨rfl, rfl⟩
      go_wp2_with fail
      refine (HC.out _).mono ?_
      rintro e w' ⟨rfl, rfl⟩
      clear HC HN HL2
      go_wp2
      go_ret3
      exact ⟨rfl, 0, rfl⟩
    · cases c2
      · rw [Bool.and_false, if_neg (by simp)]
        go_enter Tryd.func23, Tryd.ntmps23
        go_wp2_with fail
        refine (HL2.out _).mono ?_
        rintro e w' ⟨rfl, rfl⟩
        go_wp2_with fail
        refine (HC.out _).mono ?_
        rintro e w' ⟨rfl, rfl⟩
        go_wp2_with fail
        refine (HN.out _).mono ?_
        rintro e w' ⟨rfl, rfl⟩
        clear HC HN HL2
        go_wp2
        go_ret3
        exact ⟨rfl, 0, rfl⟩
      · rw [Bool.and_true, if_pos rfl]
        go_enter Tryd.func23, Tryd.ntmps23
        go_wp2_with fail
        refine (HL2.out _).mono ?_
        rintro e w' ⟨rfl, rfl⟩
        go_wp2_with fail
        refine (HC.out _).mono ?_
        rintro e w' ⟨rfl, rfl⟩
        go_wp2_with fail
        refine (HN.out _).mono ?_
        rintro e w' ⟨rfl, rfl⟩
        clear HC HN HL2
        go_wp2
        go_quiet (fail)
        go_wp2
        go_ret3
        exact ⟨rfl, _, rfl⟩
end Go.Proofs.YtcpjllkfgoaamaaDoor.word

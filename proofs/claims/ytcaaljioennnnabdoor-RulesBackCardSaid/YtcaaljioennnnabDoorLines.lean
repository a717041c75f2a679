/-
  Layer 4: the program's iterator over a text's lines: each line, and whether it is ended, in its order.
-/
import Derived.RangeFuncNested
import Derived.RangeFuncBound
import Derived.RangeFuncCalls
import Derived.RangeFuncLeaves
import Derived.RangeFuncBox
import Derived.Shelf.Abstract
import Derived.Shelf.RegionOpen
import Derived.WalkKit
import Derived.OwnWalkIn
import Derived.TacticsInMore
import Derived.LoopNIn
import Derived.LoopIn
import Derived.Maps.AppendAt
import Derived.Test.YtcaaljioennnnabDoorWordM
import Derived.Test.YtcaaljioennnnabDoorShelf
namespace Go.Proofs.YtcaaljioennnnabDoor.word
open Go.RowKit Go.Shelf
open Go.Proofs.YtcaaljioennnnabDoor.num Go.Proofs.YtcaaljioennnnabDoor.words Go.Proofs.YtcaaljioennnnabDoor.give Go.Proofs.YtcaaljioennnnabDoor.write
attribute [local go_sem] Oper.semAt_some

def lineB (s : ByteArray) : ByteArray := ⟨(Lib.cut s.data.toList [10]).1.toArray⟩
def restB (s : ByteArray) : ByteArray := ⟨(Lib.cut s.data.toList [10]).2.1.toArray⟩
def endB (s : ByteArray) : Bool := (Lib.cut s.data.toList [10]).2.2
theorem size_list (s : ByteArray) : s.data.toList.length = s.size := by rw [Array.length_toList]; rfl
theorem size_of (l : List UInt8) : (⟨l.toArray⟩ : ByteArray).size = l.length := by show l.toArray.size = _; simp
theorem line_le (s : ByteArray) : (lineB s).size ≤ s.size := by
  unfold lineB Lib.cut
  rw [size_of, ← size_list]
  split
  · rw [List.length_take]; omega
  · exact Nat.le_refl _
theorem rest_lt (s : ByteArray) (h : ¬ s.size = 0) : (restB s).size < s.size := by
  have h1 : 0 < s.data.toList.length := by rw [size_list]; omega
  have h2 : ([10] : List UInt8).length = 1 := rfl
  unfold restB Lib.cut
  rw [size_of, ← size_list]
  split
  · show (List.drop _ _).length < _
    rw [List.length_drop]; omega
  · exact h1
abbrev Ln := { x : ByteArray × Bool // x.1.size ≤ 65536 }
def rounds : Nat → (s : ByteArray) → s.size ≤ 65536 → List Ln
  | 0, _, _ => []
  | n + 1, s, h => if h0 : s.size = 0 then [] else ⟨(lineB s, endB s), Nat.le_trans (line_le s) h⟩ :: rounds n (restB s) (by have := rest_lt s h0; omega)
theorem rounds_len : ∀ (n : Nat) (s : ByteArray) (h : s.size ≤ 65536), (rounds n s h).length ≤ n
  | 0, _, _ => Nat.le_refl _
  | n + 1, s, h => by
    unfold rounds
    by_cases h0 : s.size = 0
    · rw [dif_pos h0]; exact Nat.zero_le _
    · rw [dif_neg h0, List.length_cons]
      exact Nat.succ_le_succ (rounds_len n _ _)
theorem rounds_fuel : ∀ (n m : Nat) (s : ByteArray) (h : s.size ≤ 65536), s.size ≤ n → s.size ≤ m → rounds n s h = rounds m s h
  | 0, 0, _, _, _, _ => rfl
  | 0, m + 1, s, h, h1, _ => by unfold rounds; rw [dif_pos (by omega)]
  | n + 1, 0, s, h, _, h2 => by unfold rounds; rw [dif_pos (by omega)]
  | n + 1, m + 1, s, h, h1, h2 => by
    unfold rounds
    by_cases h0 : s.size = 0
    · rw [dif_pos h0, dif_pos h0]
    · have := rest_lt s h0
      rw [dif_neg h0, dif_neg h0, rounds_fuel n m (restB s) _ (by omega) (by omega)]
def linesOf (s : ByteArray) (h : s.size ≤ 65536) : List Ln := rounds s.size s h
theorem linesOf_nil {s : ByteArray} {h : s.size ≤ 65536} (h0 : s.size = 0) : linesOf s h = [] := by
  unfold linesOf; rw [rounds_fuel s.size 1 s h (Nat.le_refl _) (by omega)]; unfold rounds; rw [dif_pos h0]
theorem linesOf_cons {s : ByteArray} {h : s.size ≤ 65536} (h0 : ¬ s.size = 0) : linesOf s h = ⟨(lineB s, endB s), Nat.le_trans (line_le s) h⟩ :: linesOf (restB s) (by have := rest_lt s h0; omega) := by
  have hr := rest_lt s h0
  unfold linesOf
  rw [rounds_fuel s.size (s.size + 1) s h (Nat.le_refl _) (by omega)]
  conv => lhs; unfold rounds
  rw [dif_neg h0, rounds_fuel s.size (restB s).size (restB s) _ (by omega) (Nat.le_refl _)]
def strSize : Value → Nat
  | .string s => s.size
  | _ => 0
def encLn (x : Ln) : Array Value := #[.string x.1.1, .bool x.1.2]

set_option maxRecDepth 100000 in
set_option maxHeartbeats 1000000 in
theorem lines_in (n : Nat) (hn : 1 ≤ n) (l Bn n₀ : Nat) (s : ByteArray) (hs : s.size ≤ 65536) (mx : Int) (J Jx : List Ln → World → Prop)
    (hJ : ∀ pre W W', J pre W → (∃ q, W' = W.drewN q) → J pre W')
    (hY : ∀ pre x W, J pre W → pre.length < (linesOf s hs).length → YieldAt Fence.wide (n - 1) Tryd.prog l (encLn x) W fun e W' =>
      (e = .returned (.bool true) ∧ J (pre ++ [x]) W' ∧ Below n₀ W W') ∨ (e = .returned (.bool false) ∧ Jx (pre ++ [x]) W'))
    (W : World) (hBn : W.cell? ⟨Bn, 0, none⟩ = some (.string s)) (hm : W.cell? ⟨0, 0, none⟩ = some (.int .i64 mx)) (hm0 : 0 < n₀) (h0 : J [] W) :
    CallsIn Fence.wide n Tryd.prog 47 #[.func (.yield l) #[] #[], .pointer (some ⟨Bn, 0, none⟩)] W fun e W' => (∃ v, e = .returned v) ∧
      ((∃ ys, ys = linesOf s hs ∧ J ys W') ∨ (∃ pre, pre <+: linesOf s hs ∧ Jx pre W')) := by
  refine callsIn_of_wp Tryd.func47 rfl trivial ?_ rfl
  simp only [Tryd.ntmps47, List.size_toArray, List.length_cons, List.length_nil, Nat.reduceAdd, Nat.reduceSub, Array.replicate_succ, Array.replicate_zero, List.push_toArray, List.append_toArray, List.nil_append, List.cons_append]
  gi_wp2
  gi_loopw [3] (fun p wr => ∃ (pre : List Ln) (r : ByteArray) (hr : r.size ≤ 65536), p = .string r ∧ linesOf s hs = pre ++ linesOf r hr ∧ wr.cell? ⟨0, 0, none⟩ = some (.int .i64 mx) ∧ J pre wr)
    (fun p _ => strSize p)
  case atStart =>
    exact ⟨[], s, hs, rfl, rfl, hm, h0⟩
  case round =>
    obtain ⟨pre, r, hr, rfl, hx, hmx, hJs⟩ := hrel
    by_cases hz : r.size = 0
    · obtain rfl : r = ⟨#[]⟩ := ByteArray.ext (Array.size_eq_zero_iff.1 hz)
      rw [linesOf_nil hz, List.append_nil] at hx
      gi_wp2
      go_end0
      exact ⟨⟨_, rfl⟩, .inl ⟨pre, hx.symm, hJs⟩⟩
    · have hne := not_empty hz
      have hne3 : ¬ r.toList = [] := by intro e; rw [e] at hne; cases hne
      rw [linesOf_cons hz] at hx
      have HC := Lib.hid (fun w (hm : w.cell? ⟨0, 0, none⟩ = some (.int .i64 mx)) => (show Calls Tryd.prog 48 #[.string r, .string ⟨#[10]⟩] w fun e w' => e = .returned (.tuple #[.string (lineB r), .string (restB r), .bool (endB r)]) ∧ ∃ q, w' = w.drewN q from Tryd.strings_Cut r ⟨#[10]⟩ mx w (by omega) hm))
      have hrl := rest_lt r hz
      have hlen : pre.length < (linesOf s hs).length := by rw [hx, List.length_append, List.length_cons]; omega
      have HX := Lib.hid hx
      clear hx
      gi_wp2_with fail
      refine ⟨trivial, callsIn_wide.2 ((HC.out _ hmx).mono ?_)⟩
      rintro e w' ⟨rfl, q, rfl⟩
      obtain ⟨fn, tmps, assign, body, hy, hR⟩ := hY pre ⟨(lineB r, endB r), Nat.le_trans (line_le r) hr⟩ (wr.drewN q) (hJ _ _ _ hJs ⟨q, rfl⟩) hlen
      dsimp only [encLn] at hy
      gi_wp2
      refine hR.mono ?_
      rintro e W3 (⟨rfl, hJ3, hk3⟩ | ⟨rfl, hJx3⟩)
      · have hm3 : W3.cell? ⟨0, 0, none⟩ = some (.int .i64 mx) := (hk3.cell (p := ⟨0, 0, none⟩) hm0).trans hmx
        gi_wp2
        go_roundw
        case rel => exact ⟨pre ++ [_], restB r, by omega, rfl, by rw [HX.out, List.append_assoc]; rfl, hm3, hJ3⟩
        case measure => exact hrl
      · gi_wp2
        refine bodyPost_ret (results_none rfl _ _ _) rfl ?_
        exact ⟨⟨_, rfl⟩, .inr ⟨pre ++ [_], ⟨linesOf (restB r) (by omega), by rw [HX.out, List.append_assoc]; rfl⟩, hJx3⟩⟩
theorem grown_drewN (W : World) (q : Nat) : W.grownBy (W.drewN q) none := ⟨rfl, rfl, rfl, Nat.le_refl _, fun _ _ _ => rfl⟩

set_option maxRecDepth 100000 in
set_option maxHeartbeats 400000 in
theorem maker_in (n : Nat) (s : ByteArray) (w : World) :
    CallsIn Fence.wide n Tryd.prog 39 #[.string s] w fun e w' => e = .returned (.func (.func 47) #[] #[.pointer (some ⟨w.heap.size, 0, none⟩)]) ∧ w' = w.alloc (.cells #[.string s] 9) := by
  refine callsIn_of_wp Tryd.func39 rfl trivial ?_ rfl
  simp only [Tryd.ntmps39, List.size_toArray, List.length_cons, List.length_nil, Nat.reduceAdd, Nat.reduceSub, Array.replicate_succ, Array.replicate_zero, List.push_toArray, List.append_toArray, List.nil_append, List.cons_append]
  gi_wp2
  go_ret
  exact ⟨rfl, rfl⟩

theorem lines_stops (n : Nat) (hn : 1 ≤ n) (Bn n₀ : Nat) (s : ByteArray) (hs : s.size ≤ 65536) (mx : Int) (w : World) (hB : Bn < w.heap.size) (hn₀ : n₀ ≤ w.heap.size) (hm0 : 0 < n₀)
    (hBn : w.cell? ⟨Bn, 0, none⟩ = some (.string s)) (hm : w.cell? ⟨0, 0, none⟩ = some (.int .i64 mx)) :
    SeqStopsK Fence.wide n Tryd.prog 47 #[.pointer (some ⟨Bn, 0, none⟩)] encLn (Below n₀) (fun ys => ys = linesOf s hs) (fun pre => pre <+: linesOf s hs) (linesOf s hs).length w := fun l J Jx W hW hJ _ hY h0 =>
  lines_in n hn l Bn n₀ s hs mx J Jx (fun pre A A' h ⟨q, e⟩ => hJ pre A A' none h (e ▸ grown_drewN A q) (fun r e => by cases e)) hY W
    ((hW.cell (p := ⟨Bn, 0, none⟩) hB).trans hBn) ((hW.cell (p := ⟨0, 0, none⟩) (Nat.lt_of_lt_of_le hm0 hn₀)).trans hm) hm0 h0
end Go.Proofs.YtcaaljioennnnabDoor.word

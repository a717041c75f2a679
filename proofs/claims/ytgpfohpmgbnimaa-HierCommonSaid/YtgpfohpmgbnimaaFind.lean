/-
 Layer 12: members that are found: the classes of a list, one by one, and the first that declares a method: the program's answers.
-/
import Derived.RangeFuncNested
import Derived.RangeFuncBound
import Derived.RangeFuncCalls
import Derived.RangeFuncLeaves
import Derived.RangeFuncBox
import Derived.Shelf.Abstract
import Derived.Shelf.RegionOpen
import Derived.WalkKit
import Derived.OwnWalkIn
import Derived.TacticsInMore
import Derived.LoopNIn
import Derived.LoopIn
import Derived.Test.YtgpfohpmgbnimaaHier
namespace Go.Proofs.Ytgpfohpmgbnimaa.find
open Go.RowKit Go.Shelf
open words kindp opp op kind word prg
attribute [local go_sem] Oper.semAt_some

set_option maxRecDepth 100000 in
set_option maxHeartbeats 4000000 in
/-- slices.Values's closure over texts -/
theorem vals1_in (n : Nat) (hn : 1 ≤ n) (l Bs n₀ : Nat) (A : Option Addr) (c : Nat) (L : List Tx) (W : World) (hA : ∀ W', Below n₀ W W' → Rd W' A (SX L)) (hz : L.length ≤ 281474976710656) (J Jx : List Tx → World → Prop)
    (hY : ∀ pre x W1, J pre W1 → pre.length < L.length → YieldAt Fence.wide (n - 1) Try.prog l #[.string ⟨x.toArray⟩] W1 fun e W' =>
      (e = .returned (.bool true) ∧ J (pre ++ [x]) W' ∧ Below n₀ W1 W') ∨ (e = .returned (.bool false) ∧ Jx (pre ++ [x]) W'))
    (hBs : W.cell? ⟨Bs, 0, none⟩ = some (.slice A L.length c)) (h0 : J [] W) :
    CallsIn Fence.wide n Try.prog 75 #[.func (.yield l) #[] #[], .pointer (some ⟨Bs, 0, none⟩)] W fun e W' => (∃ v, e = .returned v) ∧
      ((∃ ys, ys = L ∧ J ys W') ∨ (∃ pre, pre <+: L ∧ Jx pre W')) := by
  obtain ⟨m, hm⟩ : ∃ m, m = L.length := ⟨_, rfl⟩
  rw [← hm] at hBs hz
  have hzI : (m : Int) ≤ 281474976710656 := by omega
  have HM := Lib.hid hm; have HA := Lib.hid hA; have HY := Lib.hid hY
  clear hm hA hY hz
  refine callsIn_of_wp Try.func75 rfl trivial ?_ rfl
  simp only [Try.ntmps75, List.size_toArray, List.length_cons, List.length_nil, Nat.reduceAdd, Nat.reduceSub, Array.replicate_succ, Array.replicate_zero, List.push_toArray, List.append_toArray, List.nil_append, List.cons_append]
  gi_wp2
  gi_loopw [7] (fun i wr => ∃ k : Nat, k ≤ m ∧ i = .int .i64 (k : Int) ∧ J (L.take k) wr ∧ Below n₀ W wr) (fun i _ => m - (intOf i).toNat)
  case atStart => exact ⟨0, Nat.zero_le _, rfl, by rw [List.take_zero]; exact h0, Below.refl _ _⟩
  case round =>
    obtain ⟨k, hk, rfl, hJs, hbw⟩ := hrel
    by_cases hlt : k < m
    · have hltI : (k : Int) < (m : Int) := by omega
      obtain ⟨x, hx⟩ : ∃ x, L[k]? = some x := ⟨L[k]'(by rw [← HM.out]; exact hlt), List.getElem?_eq_getElem _⟩
      obtain ⟨a, rfl, -, hc⟩ := (HA.out wr hbw).at_ (sx_get hx)
      have HTK := Lib.hid (show L.take (k + 1) = L.take k ++ [x] from by rw [List.take_add_one, hx]; rfl)
      have HBW := Lib.hid hbw
      obtain ⟨fn, tmps, assign, body, hy, hR⟩ := HY.out _ x wr hJs (by rw [List.length_take, ← HM.out]; omega)
      clear hx hJs hbw
      gi_wp2
      refine hR.mono ?_
      rintro e W3 (⟨rfl, hJ3, hk3⟩ | ⟨rfl, hJx3⟩)
      · gi_wp2
        go_roundw
        case rel => exact ⟨k + 1, by omega, by go_num, by rw [HTK.out]; exact hJ3, HBW.out.trans hk3⟩
        case measure => simp [intOf]; omega
      · gi_wp2
        refine bodyPost_ret (results_none rfl _ _ _) rfl ?_
        exact ⟨⟨_, rfl⟩, .inr ⟨_, by rw [← HTK.out]; exact List.take_prefix _ _, hJx3⟩⟩
    · have hltI : ¬ (k : Int) < (m : Int) := by omega
      have HJ := Lib.hid (show J L wr from by rw [List.take_of_length_le (by rw [← HM.out]; omega)] at hJs; exact hJs)
      clear hJs hbw
      gi_wp2
      go_end0
      first | exact ⟨⟨_, rfl⟩, .inl ⟨_, rfl, HJ.out⟩⟩ | exact ⟨⟨_, rfl⟩, .inl HJ.out⟩

theorem vals_stops (n : Nat) (hn : 1 ≤ n) (Bs n₀ : Nat) (A : Option Addr) (c : Nat) (L : List Tx) (w : World) (hz : L.length ≤ 281474976710656) (hn₀ : w.heap.size ≤ n₀) (hBl : Bs < n₀) (hr : Rd w A (SX L)) (ws : World) (hws : Below w.heap.size w ws) (hsz : n₀ ≤ ws.heap.size)
    (hBs : ws.cell? ⟨Bs, 0, none⟩ = some (.slice A L.length c)) :
    SeqStopsK Fence.wide n Try.prog 75 #[.pointer (some ⟨Bs, 0, none⟩)] (fun x : Tx => #[Value.string ⟨x.toArray⟩]) (Below n₀) (fun ys => ys = L) (fun pre => pre <+: L) L.length ws := fun l J Jx W hW _ _ hY h0 => by
  have hb : Below w.heap.size w W := hws.trans (hW.mono hws.size)
  exact vals1_in n hn l Bs n₀ A c L W (fun W' h => hr.below (hb.trans (h.mono hn₀))) hz J Jx hY ((hW.cell (p := ⟨Bs, 0, none⟩) (by show Bs < _; omega)).trans hBs) h0

set_option maxRecDepth 100000 in
set_option maxHeartbeats 400000 in
theorem vals_w (A : Option Addr) (k c : Nat) (w : World) :
    Calls Try.prog 56 #[.slice A k c] w fun e w' => e = .returned (.func (.func 75) #[] #[.pointer (some ⟨w.heap.size, 0, none⟩)]) ∧ w' = w.alloc (.cells #[.slice A k c] 23) := by
  go_enter Try.func56, Try.ntmps56
  go_wp2
  go_ret
  exact ⟨rfl, rfl⟩

set_option maxRecDepth 100000 in
set_option maxHeartbeats 400000 in
theorem method_w (s d : Tx) (w : World) :
    Calls Try.prog 42 #[.string ⟨s.toArray⟩, .string ⟨d.toArray⟩] w fun e w' => e = .returned (.func (.func 63) #[] #[.pointer (some ⟨w.heap.size, 0, none⟩), .pointer (some ⟨w.heap.size + 1, 0, none⟩)]) ∧ w' = (w.alloc (.cells #[.string ⟨s.toArray⟩] 9)).alloc (.cells #[.string ⟨d.toArray⟩] 9) := by
  go_enter Try.func42, Try.ntmps42
  go_wp2
  go_ret
  exact ⟨rfl, rfl⟩

set_option maxRecDepth 100000 in
set_option maxHeartbeats 4000000 in
set_option linter.all false in
/-- where a class declares a method: the closure -/
theorem at_w (x : ClM) (g h : Nat) (s d : Tx) (w : World) (hr : Rd w x.A3 (x.ms.flatMap meC)) (hl : x.ms.length ≤ 281474976710656) (hg : w.cell? ⟨g, 0, none⟩ = some (.string ⟨s.toArray⟩)) (hh : w.cell? ⟨h, 0, none⟩ = some (.string ⟨d.toArray⟩)) :
    Calls Try.prog 63 #[.agg (clC x).toArray, .pointer (some ⟨g, 0, none⟩), .pointer (some ⟨h, 0, none⟩)] w fun e w' => ∃ r, e = .returned (.int .i64 r) ∧ Idx (fun y : MeM => ((y.nm == s) && (y.ds == d))) x.ms r ∧ Below w.heap.size w w' := by
  obtain ⟨W, hW⟩ : ∃ W, W = w.alloc (.cells (clC x).toArray 42) := ⟨_, rfl⟩
  have hal : Below w.heap.size w W := by rw [hW]; exact (Below.refl _ w).alloc (Nat.le_refl _) _
  have hblk : W.heap[w.heap.size]? = some (.cells (clC x).toArray 42 (0, 0)) := by rw [hW]; exact heap_alloc_new w _
  obtain ⟨x0, x1, x2, x3, x4, x5, x6⟩ := cl_cells hblk
  have kg := (hal.cell (World.block_lt_of_cell? _ _ hg)).trans hg
  have kh := (hal.cell (World.block_lt_of_cell? _ _ hh)).trans hh
  have HPM := Lib.hid (place_me x s d W (hr.below hal) hl)
  have HAL := Lib.hid hal
  unfold clC at hW HPM ⊢
  try dsimp only at hW HPM ⊢
  have ke := kg
  rw [hW] at ke
  have kf := kh
  rw [hW] at kf
  have HW := Lib.hid hW
  clear hal hblk hW hr hl hg hh
  go_enter Try.func63, Try.ntmps63
  go_wp2_with fail
  rw [← HW.out]
  (try go_wp2_with fail)
  refine HPM.out.mono ?_
  rintro e w1 ⟨r, rfl, hi, hb⟩
  have HI := Lib.hid hi; have HB := Lib.hid hb
  clear hi hb x0 x1 x2 x3 x4 x5 x6 kg kh ke kf
  go_wp2
  go_ret
  exact ⟨r, rfl, HI.out, HAL.out.trans (HB.out.mono HAL.out.size)⟩

/-- the first of some classes that declares a method, and its place -/
def declM (c : ClM) (s d : Tx) : Option Nat := c.ms.findIdx? fun y => (y.nm == s) && (y.ds == d)
def oneM (cs : List ClM) (s d : Tx) (nm : Tx) : Option (ClM × Nat) := match findC cs nm with
  | none => none
  | some c => match declM c s d with
    | none => none
    | some k => some (c, k)
def firstM (cs : List ClM) (L : List Tx) (s d : Tx) : Option (ClM × Nat) := L.findSome? (oneM cs s d)
theorem firstM_snoc (cs : List ClM) (pre : List Tx) (x s d : Tx) (h : firstM cs pre s d = none) : firstM cs (pre ++ [x]) s d = oneM cs s d x := by
  unfold firstM at h ⊢
  rw [List.findSome?_append, h]
  simp
theorem firstM_pre {cs : List ClM} {pre L : List Tx} {s d : Tx} {r : ClM × Nat} (h : pre <+: L) (hf : firstM cs pre s d = some r) : firstM cs L s d = some r := by
  obtain ⟨q, rfl⟩ := h
  unfold firstM at hf ⊢
  rw [List.findSome?_append, hf]; rfl
end Go.Proofs.Ytgpfohpmgbnimaa.find

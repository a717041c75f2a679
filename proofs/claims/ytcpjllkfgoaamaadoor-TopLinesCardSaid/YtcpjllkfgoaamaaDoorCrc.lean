/-
  What Add, Sum, Begin and End of crc answer, where the table of sixteen is as the program's text lays it; and the reference's Add and Sum: the states and the sums of crcnum.
-/
import Derived.Test.YtcpjllkfgoaamaaDoorProg
import Derived.Test.YtcpjllkfgoaamaaDoorCrcNum
import Derived.Test.YtcpjllkfgoaamaaDoorWords
import Derived.Lib.Hide
import Derived.Deep.QuietTactic
import Derived.BigQuiet
namespace Go.Proofs.YtcpjllkfgoaamaaDoor.crc
open Go.RowKit
open Go.Proofs.YtcpjllkfgoaamaaDoor.crcnum Go.Proofs.YtcpjllkfgoaamaaDoor.words

/-- the table lies in its block -/
def Tab (w : World) : Prop := 4 < w.heap.size ∧ ∀ k, k < 16 → w.cell? ⟨4, k, none⟩ = some (.int .u32 (T k : Int))
theorem Tab.below {w w' : World} (h : Tab w) (hb : Below w.heap.size w w') : Tab w' := ⟨Nat.lt_of_lt_of_le h.1 hb.size, fun k hk => (hb.cell (p := ⟨_, k, none⟩) h.1).trans (h.2 k hk)⟩
theorem Tab.drewN {w : World} (h : Tab w) (q : Nat) : Tab (w.drewN q) := h

theorem xor32 {a b : Nat} (ha : a < 4294967296) (hb : b < 4294967296) : bits .xor .u32 (a : Int) (b : Int) = ((a ^^^ b : Nat) : Int) := u32_xor_nat a b ha hb

set_option maxRecDepth 100000 in
set_option maxHeartbeats 800000 in
theorem add_any (s : Nat) (A : Option Addr) (n c : Nat) (l : List Nat) (w : World) (ht : Tab w) (hs : s < 4294967296) (hr : Rd w A (B l)) (hl : l.length = n) (hn : n ≤ 281474976710656) (hby : ∀ x ∈ l, x < 256) :
    Calls Tryd.prog 106 #[.int .u32 (s : Int), .slice A n c] w fun e w' => e = .returned (.int .u32 (addL s l : Int)) ∧ w = w' := by
  have hnI : (n : Int) ≤ 281474976710656 := by omega
  have HS := Lib.hid hs; have HT := Lib.hid ht; have HB := Lib.hid hby; have HL := Lib.hid hl
  clear hn hs ht hby hl
  go_enter Tryd.func106, Tryd.ntmps106
  go_wp2
  go_loop [0, 9] (fun x i => ∃ k t : Nat, k ≤ n ∧ t < 4294967296 ∧ i = .int .i64 (k : Int) ∧ x = .int .u32 (t : Int) ∧ addL t (l.drop k) = addL s l) (fun _ i => n - (intOf i).toNat)
  case atStart => exact ⟨0, s, Nat.zero_le _, HS.out, rfl, rfl, by simp⟩
  case round =>
    obtain ⟨k, t, hk, hlt32, rfl, rfl, ha⟩ := hrel
    have HA := Lib.hid ha; clear ha
    have H32 := Lib.hid hlt32; clear hlt32
    by_cases hlt : k < n
    · obtain ⟨d, hd, hdj⟩ := drop_at (l := l) (k := k) (by rw [HL.out]; exact hlt)
      obtain ⟨a, rfl, _, hcell⟩ := hr.at_ (B_at hdj)
      have hdb : d < 256 := HB.out d (List.mem_of_getElem? hdj)
      obtain ⟨x1, e1⟩ : ∃ x1, x1 = t ^^^ d := ⟨_, rfl⟩
      have l1 : x1 < 4294967296 := by rw [e1]; exact xor_lt H32.out (by omega)
      have f1 : bits .xor .u32 (t : Int) (d : Int) = (x1 : Int) := by rw [e1]; exact xor32 H32.out (by omega)
      have c1 := HT.out.2 (x1 % 16) (by omega)
      have m1 := T_lt (x1 % 16) (by omega)
      obtain ⟨t1, g1⟩ : ∃ t1, t1 = T (x1 % 16) := ⟨_, rfl⟩
      rw [← g1] at c1 m1
      obtain ⟨x2, e2⟩ : ∃ x2, x2 = x1 / 16 ^^^ t1 := ⟨_, rfl⟩
      have l2 : x2 < 4294967296 := by rw [e2]; exact xor_lt (by omega) m1
      have f2 : bits .xor .u32 ((x1 : Int) / 16) (t1 : Int) = (x2 : Int) := by rw [e2, ← xor32 (by omega) m1]; rfl
      have c2 := HT.out.2 (x2 % 16) (by omega)
      have m2 := T_lt (x2 % 16) (by omega)
      obtain ⟨t2, g2⟩ : ∃ t2, t2 = T (x2 % 16) := ⟨_, rfl⟩
      rw [← g2] at c2 m2
      obtain ⟨x3, e3⟩ : ∃ x3, x3 = x2 / 16 ^^^ t2 := ⟨_, rfl⟩
      have l3 : x3 < 4294967296 := by rw [e3]; exact xor_lt (by omega) m2
      have f3 : bits .xor .u32 ((x2 : Int) / 16) (t2 : Int) = (x3 : Int) := by rw [e3, ← xor32 (by omega) m2]; rfl
      have hst : crcnum.step t d = x3 := by rw [step_four, e3, g2, e2, g1, e1]
      have HST := Lib.hid hst; have HD := Lib.hid hd; have L3 := Lib.hid l3
      have l1' : (x1 : Int) ≤ 4294967295 := by omega
      have l2' : (x2 : Int) ≤ 4294967295 := by omega
      clear hst hd l3 e1 e2 e3 g1 g2 m1 m2 hdj l1 l2
      go_wp2
      go_round
      case rel => exact ⟨k + 1, x3, by omega, L3.out, by go_num, rfl, by rw [← HA.out, HD.out]; show _ = addL (crcnum.step t d) _; rw [HST.out]⟩
      case measure => simp [intOf]; omega
    · have hres : addL s l = t := by rw [← HA.out, List.drop_eq_nil_of_le (by rw [HL.out]; omega)]; rfl
      have HR := Lib.hid hres; clear hres
      go_wp2
      go_ret
      rw [HR.out]
      exact ⟨rfl, rfl⟩

theorem u32max : IntKind.u32.max = ((4294967295 : Nat) : Int) := by kernel_rfl
theorem unot {s : Nat} (h : s < 4294967296) : bits .xor .u32 IntKind.u32.max (s : Int) = (neg s : Int) := by
  rw [u32max, xor32 (by omega) h, neg_xor h, Nat.xor_comm]
set_option maxRecDepth 100000 in
set_option maxHeartbeats 400000 in
theorem end_any (s : Nat) (w : World) (hs : s < 4294967296) : Calls Tryd.prog 105 #[.int .u32 (s : Int)] w fun e w' => e = .returned (.int .u32 (neg s : Int)) ∧ w = w' := by
  have hI : (s : Int) ≤ 4294967295 := by omega
  have hn := unot hs
  clear hs
  go_enter Tryd.func105, Tryd.ntmps105
  go_wp2
  go_ret
  exact ⟨rfl, rfl⟩
set_option maxRecDepth 100000 in
set_option maxHeartbeats 400000 in
theorem begin_any (w : World) : Calls Tryd.prog 107 #[] w fun e w' => e = .returned (.int .u32 4294967295) ∧ w = w' := by
  go_enter Tryd.func107, Tryd.ntmps107
  go_wp2
  go_ret
  exact ⟨rfl, rfl⟩
set_option maxRecDepth 100000 in
set_option maxHeartbeats 400000 in
theorem sum_any (A : Option Addr) (n c : Nat) (l : List Nat) (w : World) (ht : Tab w) (hr : Rd w A (B l)) (hl : l.length = n) (hn : n ≤ 281474976710656) (hby : ∀ x ∈ l, x < 256) :
    Calls Tryd.prog 82 #[.slice A n c] w fun e w' => e = .returned (.int .u32 (sumL l : Int)) ∧ w = w' := by
  have h1 := add_any 4294967295 A n c l w ht (by omega) hr hl hn hby
  have h2 := end_any (addL 4294967295 l) w (addL_lt (by omega) l hby)
  have H1 := Lib.hid h1
  have H2 := Lib.hid h2
  clear h1 h2 ht hr hl hn hby
  go_enter Tryd.func82, Tryd.ntmps82
  go_wp2_with fail
  refine (begin_any _).mono ?_
  rintro e w' ⟨rfl, rfl⟩
  go_wp2_with fail
  refine H1.out.mono ?_
  rintro e w' ⟨rfl, rfl⟩
  go_wp2_with fail
  refine H2.out.mono ?_
  rintro e w' ⟨rfl, rfl⟩
  go_wp2
  go_ret
  exact ⟨rfl, rfl⟩

/-! THE REFERENCE -/
theorem half_odd {t : Nat} (h : 1 ≤ t % 2) (hl : t < 4294967296) : bits .xor .u32 ((t : Int) / 2) 3988292384 = (half t : Int) := by
  have e : ((t : Int) / 2) = ((t / 2 : Nat) : Int) := by omega
  have := xor32 (a := t / 2) (b := 3988292384) (by omega) (by omega)
  rw [e]
  unfold half
  rw [if_pos (by omega)]
  exact this
theorem half_evn {t : Nat} (h : t % 2 ≤ 0) : ((t : Int) / 2) = (half t : Int) := by
  unfold half
  rw [if_neg (by omega), Nat.xor_zero]; omega
end Go.Proofs.YtcpjllkfgoaamaaDoor.crc

/-
 Layer 21: where a place of a pattern leads without a byte: the program's answer.
-/
import Derived.Test.YtcaaljioennnnabDoorGlobS
import Derived.RangeFuncBox
import Derived.Test.YtcaaljioennnnabDoorGlobA
import Derived.Test.YtcaaljioennnnabDoorGlobN
namespace Go.Proofs.YtcaaljioennnnabDoor.glob
open Go.RowKit
open Go.Proofs.YtcaaljioennnnabDoor.words
set_option linter.all false
/-- places, as cells -/
def NL (l : List Nat) : List Value := l.map fun k : Nat => Value.int .i64 (k : Int)
theorem NL_app (a b : List Nat) : NL (a ++ b) = NL a ++ NL b := by simp [NL]
theorem NL_len (a : List Nat) : (NL a).length = a.length := by simp [NL]
theorem NL_at {l : List Nat} {j k : Nat} (h : l[j]? = some k) : (NL l)[j]? = some (.int .i64 (k : Int)) := by simp [NL, h]
theorem infoG : (Tryd.prog.info? 3).map (fun i => (i.zero, i.size, i.bytes)) = some (some (.int .i64 0), 1, 8) := by kernel_rfl
theorem info_parts' {i : Option TypeInfo} {z : Option Value} {n b : Nat} (h : i.map (fun i => (i.zero, i.size, i.bytes)) = some (z, n, b)) : ∃ j, i = some j ∧ j.zero = z ∧ j.size = n ∧ j.bytes = b := by
 rcases i with _ | j
 ·cases h
 ·simp only [Option.map_some, Option.some.injEq, Prod.mk.injEq] at h
  exact ⟨j, rfl, h.1, h.2.1, h.2.2⟩
def LandP (p : List UInt8) (a : Nat) (R : List Nat) (o : Option Nat) (base : Nat) (w : World) (e : Ending) (w' : World) : Prop :=
 ∃ v' R' b, e = .returned (.tuple #[v', .bool b]) ∧ w'.ownsRow base 3 1 v' R'.length (NL R') ∧ w.grownBy w' o ∧ Below base w w' ∧ (v'.ownBlock = o ∨ ∃ k, w.heap.size ≤ k ∧ v'.ownBlock = some k) ∧ Lands p a R R' b
theorem lb_star {s : ByteArray} {k : Nat} (h : k < s.size) : star (lb s) k = decide (s[k]'h = 42) := by
 unfold star
 rw [lb_some s k h, Bool.eq_iff_iff, beq_iff_eq, Option.some.injEq, decide_eq_true_eq]
theorem lb_star_end {s : ByteArray} {k : Nat} (h : s.size ≤ k) : star (lb s) k = false := by
 unfold star
 rw [List.getElem?_eq_none (by rw [lb_len]; exact h)]; rfl
theorem grown_alloc {w w' : World} {o : Obj} {row : Option Nat} (h : (w.alloc o).grownBy w' row) : w.grownBy w' row :=
 ⟨h.os, h.tape, h.output, Nat.le_trans (by simp) h.size, fun k hk hr => (h.block k (by simp; omega) hr).trans (heap_alloc_old w o hk)⟩
theorem below_alloc' {w w' : World} {o : Obj} {b : Nat} (hb : b ≤ w.heap.size) (h : Below b (w.alloc o) w') : Below b w w' := ((Below.refl _ w).alloc hb o).trans h
set_option maxRecDepth 100000 in
set_option maxHeartbeats 8000000 in
theorem land_w (p : ByteArray) (a : Nat) (v : Value) (R : List Nat) (base : Nat) (w : World) (hp : p.size ≤ 1000) (ha : a ≤ p.size) (hR : R.length ≤ 1010) (hown : w.ownsRow base 3 1 v R.length (NL R)) (hb : base ≤ w.heap.size) :
  Calls Tryd.prog 44 #[.string p, .int .i64 (a : Int), v] w (LandP (lb p) a R v.ownBlock base w) := by
 obtain ⟨i0, hi, hz0, hz1, hz2⟩ := info_parts' infoG
 have hpI : (p.size : Int) ≤ 1000 := by omega
 have haI : (a : Int) ≤ (p.size : Int) := by omega
 by_cases hs : star (lb p) a = true
 ·have hlt : a < p.size := by have := star_lt hs; rw [lb_len] at this; exact this
  have hltI : (a : Int) < (p.size : Int) := by omega
  have h0 : ((a : Int) == (p.size : Int)) = false := by rw [beq_eq_false_iff_ne]; omega
  have hs2 := hs
  rw [lb_star hlt, decide_eq_true_eq] at hs2
  have h1 : (((p[a]'hlt).toNat : Int) == 42) = true := by rw [hs2]; rfl
  have h1n : (((p[a]'hlt).toNat : Int) != 42) = false := by rw [bne, h1]; rfl
  have HS := Lib.hid (run_one hs)
  have HO := Lib.hid hown
  clear hs hs2 hown
  go_enter Tryd.func44, Tryd.ntmps44
  go_wp2
  go_loopw [1] (fun i wr => ∃ e : Nat, i = .int .i64 (e : Int) ∧ wr = w ∧ e < p.size ∧ run (lb p) a e) (fun i _ => p.size - (intOf i).toNat)
  case atStart => exact ⟨a, rfl, rfl, hlt, HS.out⟩
  case round =>
   obtain ⟨e, rfl, hw, he, hrun⟩ := hrel
   have HR := Lib.hid hrun
   clear hrun
   subst hw
   have heI : (e : Int) < (p.size : Int) := by omega
   by_cases hn : star (lb p) (e + 1) = true
   ·have hlt1 : e + 1 < p.size := by have := star_lt hn; rw [lb_len] at this; exact this
    have hlt1I : (e : Int) + 1 < (p.size : Int) := by omega
    have hn2 := hn
    rw [lb_star hlt1, decide_eq_true_eq] at hn2
    have h2 : (((p[e + 1]'hlt1).toNat : Int) == 42) = true := by rw [hn2]; rfl
    have HN := Lib.hid (run_more HR.out hn)
    clear hn hn2 h1 h1n
    go_wp2
    go_roundw
    case rel => exact ⟨e + 1, by go_num, by first | rfl | trivial, hlt1, HN.out⟩
    case measure => simp [intOf]; omega
   ·rw [Bool.not_eq_true] at hn
    have HN := Lib.hid hn
    by_cases hlt1 : e + 1 < p.size
    ·have hlt1I : (e : Int) + 1 < (p.size : Int) := by omega
     have hn2 := hn
     rw [lb_star hlt1, decide_eq_false_iff_not] at hn2
     have h2 : (((p[e + 1]'hlt1).toNat : Int) == 42) = false := by rw [show (42 : Int) = ((42 : Nat) : Int) from rfl, u8_eq (by omega)]; exact decide_eq_false hn2
     clear hn hn2 h1 h1n
     go_wp2_with (at_builtin; refine wpList_app _ rfl (.tmp 36) (.tmp 40) _ rfl base 3 i0 _ 1 8 Tryd.underlying76 hi hz0 hz1 hz2 rfl (by decide) v R.length (NL R) rfl (HO.out.alloc _) _ 2 2 [.int .i64 ((e : Int) + 1), .int .i64 (e : Int)] rfl rfl (rd_blk (heap_alloc_new wr _) (k := 2) rfl) (by simp [Value.oneCell']) (by unfold maxLen; omega) (by omega) (by simp; omega) ?_; intro v' w1 hown' hgrow hB hob)
     obtain ⟨g9, c9, rfl⟩ := ownsRow_succ (k := R.length + 1) hown'
     refine bodyPost_ret (v := .tuple #[.slice (some ⟨g9, 0, none⟩) (R.length + 2) c9, .bool true]) (by simp [results, Tryd.results44, go_sem]) rfl ?_
     exact ⟨_, R ++ [e + 1, e], true, rfl, by rw [NL_app, List.length_append]; exact hown', grown_alloc hgrow, below_alloc' hb hB, by rcases hob with h9 | h9; exact .inl h9; exact .inr ⟨_, by simp, h9⟩, .inr ⟨rfl, e, HR.out, HN.out, rfl⟩⟩
    ·have hlt1I : ¬ (e : Int) + 1 < (p.size : Int) := by omega
     clear hn h1 h1n
     go_wp2_with (at_builtin; refine wpList_app _ rfl (.tmp 36) (.tmp 40) _ rfl base 3 i0 _ 1 8 Tryd.underlying76 hi hz0 hz1 hz2 rfl (by decide) v R.length (NL R) rfl (HO.out.alloc _) _ 2 2 [.int .i64 ((e : Int) + 1), .int .i64 (e : Int)] rfl rfl (rd_blk (heap_alloc_new wr _) (k := 2) rfl) (by simp [Value.oneCell']) (by unfold maxLen; omega) (by omega) (by simp; omega) ?_; intro v' w1 hown' hgrow hB hob)
     obtain ⟨g9, c9, rfl⟩ := ownsRow_succ (k := R.length + 1) hown'
     refine bodyPost_ret (v := .tuple #[.slice (some ⟨g9, 0, none⟩) (R.length + 2) c9, .bool true]) (by simp [results, Tryd.results44, go_sem]) rfl ?_
     exact ⟨_, R ++ [e + 1, e], true, rfl, by rw [NL_app, List.length_append]; exact hown', grown_alloc hgrow, below_alloc' hb hB, by rcases hob with h9 | h9; exact .inl h9; exact .inr ⟨_, by simp, h9⟩, .inr ⟨rfl, e, HR.out, HN.out, rfl⟩⟩
 ·rw [Bool.not_eq_true] at hs
  have HS := Lib.hid hs
  have HO := Lib.hid hown
  clear hown
  by_cases h0 : a = p.size
  ·subst h0
   clear hs
   go_enter Tryd.func44, Tryd.ntmps44
   go_wp2_with (at_builtin; refine wpList_app _ rfl (.tmp 18) (.tmp 20) _ rfl base 3 i0 _ 1 8 Tryd.underlying76 hi hz0 hz1 hz2 rfl (by decide) v R.length (NL R) rfl (HO.out.alloc _) _ 1 1 [.int .i64 (p.size : Int)] rfl rfl (rd_blk (heap_alloc_new w _) (k := 1) rfl) (by simp [Value.oneCell']) (by unfold maxLen; omega) (by omega) (by simp; omega) ?_; intro v' w1 hown' hgrow hB hob)
   obtain ⟨g9, c9, rfl⟩ := ownsRow_succ (k := R.length) hown'
   refine bodyPost_ret (v := .tuple #[.slice (some ⟨g9, 0, none⟩) (R.length + 1) c9, .bool false]) (by simp [results, Tryd.results44, go_sem]) rfl ?_
   exact ⟨_, R ++ [p.size], false, rfl, by rw [NL_app, List.length_append]; exact hown', grown_alloc hgrow, below_alloc' hb hB, by rcases hob with h9 | h9; exact .inl h9; exact .inr ⟨_, by simp, h9⟩, .inl ⟨rfl, HS.out, rfl⟩⟩
  ·have hlt : a < p.size := by omega
   have hltI : (a : Int) < (p.size : Int) := by omega
   have h0I : ((a : Int) == (p.size : Int)) = false := by rw [beq_eq_false_iff_ne]; omega
   rw [lb_star hlt, decide_eq_false_iff_not] at hs
   have h1 : (((p[a]'hlt).toNat : Int) == 42) = false := by rw [show (42 : Int) = ((42 : Nat) : Int) from rfl, u8_eq (by omega)]; exact decide_eq_false hs
   clear hs h0
   go_enter Tryd.func44, Tryd.ntmps44
   go_wp2_with (at_builtin; refine wpList_app _ rfl (.tmp 18) (.tmp 20) _ rfl base 3 i0 _ 1 8 Tryd.underlying76 hi hz0 hz1 hz2 rfl (by decide) v R.length (NL R) rfl (HO.out.alloc _) _ 1 1 [.int .i64 (a : Int)] rfl rfl (rd_blk (heap_alloc_new w _) (k := 1) rfl) (by simp [Value.oneCell']) (by unfold maxLen; omega) (by omega) (by simp; omega) ?_; intro v' w1 hown' hgrow hB hob)
   obtain ⟨g9, c9, rfl⟩ := ownsRow_succ (k := R.length) hown'
   refine bodyPost_ret (v := .tuple #[.slice (some ⟨g9, 0, none⟩) (R.length + 1) c9, .bool false]) (by simp [results, Tryd.results44, go_sem]) rfl ?_
   exact ⟨_, R ++ [a], false, rfl, by rw [NL_app, List.length_append]; exact hown', grown_alloc hgrow, below_alloc' hb hB, by rcases hob with h9 | h9; exact .inl h9; exact .inr ⟨_, by simp, h9⟩, .inl ⟨rfl, HS.out, rfl⟩⟩
end Go.Proofs.YtcaaljioennnnabDoor.glob

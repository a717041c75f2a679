/-
 Layer 8: sorting of at most two: the library’s answers.
-/
import Derived.Test.YtjcdgpfffmnneaaGreatDoorNormX
import Derived.Test.YtjcdgpfffmnneaaGreatDoorNormK
/- Layer 8: sorting of at most two: the library's answers. -/
namespace Go.Proofs.YtjcdgpfffmnneaaGreatDoor.prg
open Go.RowKit
open words kindp opp op kind word

theorem gb_below {w w' : World} (h : Below w.heap.size w w') (g : Nat) : w.grownBy w' (some g) := ⟨h.os, h.tape, h.output, h.size, fun k hk _ => h.block k hk⟩
theorem gb_at {w w' : World} {g b : Nat} {o : Obj} (h : w.grownBy w' (some g)) (hb : w.heap[b]? = some o) (hne : b ≠ g) : w'.heap[b]? = some o := (h.block b (blk_lt hb) (by intro e; cases e; exact hne rfl)).trans hb

set_option maxRecDepth 100000 in
set_option maxHeartbeats 1000000 in
set_option linter.all false in
theorem stable_cl (A : Option Addr) (n c : Nat) (w : World) (Q : World → Prop) (hn : n < 20) (HI : Calls Tryz.prog 102 #[.slice A n c, .int .i64 0, .int .i64 (n : Int), .func (.func 26) #[] #[]] w fun e w' => e = .returned (.tuple #[]) ∧ Q w') :
  Calls Tryz.prog 82 #[.slice A n c, .int .i64 (n : Int), .func (.func 26) #[] #[]] w fun e w' => e = .returned (.tuple #[]) ∧ Q w' := by
 have HII := Lib.hid HI
 have h1 : ¬ (20 : Int) ≤ (n : Int) := by omega
 have h2 : ¬ (20 : Int) < (n : Int) := by omega
 clear HI
 go_enter Tryz.func82, Tryz.ntmps82
 go_wp2
 go_loopw [7, 8] (fun a b wr => a = .int .i64 0 ∧ b = .int .i64 20 ∧ Hid (wr = w)) (fun _ _ _ => 0)
 case atStart => exact ⟨rfl, rfl, Lib.hid rfl⟩
 case round =>
  obtain ⟨rfl, rfl, hw⟩ := hrel
  have hw' := hw.out
  subst hw'
  clear hw
  go_wp2_with fail
  refine HII.out.mono ?_
  rintro e v ⟨rfl, hq⟩
  have HQ := Lib.hid hq
  clear hq HII
  go_wp2
  go_loopw [6] (fun a wr => a = .int .i64 20 ∧ Hid (wr = v)) (fun _ _ => 0)
  case atStart => exact ⟨rfl, Lib.hid rfl⟩
  case round =>
   obtain ⟨rfl, hw⟩ := hrel
   have hw' := hw.out
   subst hw'
   clear hw
   go_wp2
   refine bodyPost_end (v := .tuple #[]) (by simp [results, Tryz.results82, go_sem]) rfl ?_
   exact ⟨rfl, HQ.out⟩

set_option maxRecDepth 100000 in
set_option maxHeartbeats 1000000 in
set_option linter.all false in
theorem sorted_cl (A : Option Addr) (n c : Nat) (w : World) (Q : World → Prop) (hn : n < 20) (HI : Calls Tryz.prog 102 #[.slice A n c, .int .i64 0, .int .i64 (n : Int), .func (.func 26) #[] #[]] w fun e w' => e = .returned (.tuple #[]) ∧ Q w') :
  Calls Tryz.prog 39 #[.slice A n c, .func (.func 26) #[] #[]] w fun e w' => e = .returned (.tuple #[]) ∧ Q w' := by
 have HII := Lib.hid (stable_cl A n c w Q hn HI)
 clear HI
 go_enter Tryz.func39, Tryz.ntmps39
 go_wp2_with fail
 refine HII.out.mono ?_
 rintro e v ⟨rfl, hq⟩
 have HQ := Lib.hid hq
 clear hq HII
 go_wp2
 refine bodyPost_end (v := .tuple #[]) (by simp [results, Tryz.results39, go_sem]) rfl ?_
 exact ⟨rfl, HQ.out⟩

set_option maxRecDepth 100000 in
set_option maxHeartbeats 1000000 in
set_option linter.all false in
theorem stable_fi (A : Option Addr) (n c : Nat) (w : World) (Q : World → Prop) (hn : n < 20) (HI : Calls Tryz.prog 115 #[.slice A n c, .int .i64 0, .int .i64 (n : Int), .func (.func 31) #[] #[]] w fun e w' => e = .returned (.tuple #[]) ∧ Q w') :
  Calls Tryz.prog 85 #[.slice A n c, .int .i64 (n : Int), .func (.func 31) #[] #[]] w fun e w' => e = .returned (.tuple #[]) ∧ Q w' := by
 have HII := Lib.hid HI
 have h1 : ¬ (20 : Int) ≤ (n : Int) := by omega
 have h2 : ¬ (20 : Int) < (n : Int) := by omega
 clear HI
 go_enter Tryz.func85, Tryz.ntmps85
 go_wp2
 go_loopw [7, 8] (fun a b wr => a = .int .i64 0 ∧ b = .int .i64 20 ∧ Hid (wr = w)) (fun _ _ _ => 0)
 case atStart => exact ⟨rfl, rfl, Lib.hid rfl⟩
 case round =>
  obtain ⟨rfl, rfl, hw⟩ := hrel
  have hw' := hw.out
  subst hw'
  clear hw
  go_wp2_with fail
  refine HII.out.mono ?_
  rintro e v ⟨rfl, hq⟩
  have HQ := Lib.hid hq
  clear hq HII
  go_wp2
  go_loopw [6] (fun a wr => a = .int .i64 20 ∧ Hid (wr = v)) (fun _ _ => 0)
  case atStart => exact ⟨rfl, Lib.hid rfl⟩
  case round =>
   obtain ⟨rfl, hw⟩ := hrel
   have hw' := hw.out
   subst hw'
   clear hw
   go_wp2
   refine bodyPost_end (v := .tuple #[]) (by simp [results, Tryz.results85, go_sem]) rfl ?_
   exact ⟨rfl, HQ.out⟩

set_option maxRecDepth 100000 in
set_option maxHeartbeats 1000000 in
set_option linter.all false in
theorem sorted_fi (A : Option Addr) (n c : Nat) (w : World) (Q : World → Prop) (hn : n < 20) (HI : Calls Tryz.prog 115 #[.slice A n c, .int .i64 0, .int .i64 (n : Int), .func (.func 31) #[] #[]] w fun e w' => e = .returned (.tuple #[]) ∧ Q w') :
  Calls Tryz.prog 41 #[.slice A n c, .func (.func 31) #[] #[]] w fun e w' => e = .returned (.tuple #[]) ∧ Q w' := by
 have HII := Lib.hid (stable_fi A n c w Q hn HI)
 clear HI
 go_enter Tryz.func41, Tryz.ntmps41
 go_wp2_with fail
 refine HII.out.mono ?_
 rintro e v ⟨rfl, hq⟩
 have HQ := Lib.hid hq
 clear hq HII
 go_wp2
 refine bodyPost_end (v := .tuple #[]) (by simp [results, Tryz.results41, go_sem]) rfl ?_
 exact ⟨rfl, HQ.out⟩

set_option maxRecDepth 100000 in
set_option maxHeartbeats 1000000 in
set_option linter.all false in
theorem ins_none_fi (A : Option Addr) (c : Nat) (w : World) : Calls Tryz.prog 115 #[.slice A 0 c, .int .i64 0, .int .i64 ((0 : Nat) : Int), .func (.func 31) #[] #[]] w fun e w' => e = .returned (.tuple #[]) ∧ Below w.heap.size w w' := by
 go_enter Tryz.func115, Tryz.ntmps115
 go_wp2
 go_loopw [8] (fun i wr => i = .int .i64 1 ∧ Below w.heap.size w wr) (fun _ _ => 0)
 case atStart => exact ⟨rfl, Below.refl _ _⟩
 case round =>
  obtain ⟨rfl, hb⟩ := hrel
  go_wp2
  refine bodyPost_end (v := .tuple #[]) (by simp [results, Tryz.results115, go_sem]) rfl ?_
  exact ⟨rfl, hb⟩

set_option maxRecDepth 100000 in
set_option maxHeartbeats 1000000 in
set_option linter.all false in
theorem stable_me (A : Option Addr) (n c : Nat) (w : World) (Q : World → Prop) (hn : n < 20) (HI : Calls Tryz.prog 117 #[.slice A n c, .int .i64 0, .int .i64 (n : Int), .func (.func 33) #[] #[]] w fun e w' => e = .returned (.tuple #[]) ∧ Q w') :
  Calls Tryz.prog 86 #[.slice A n c, .int .i64 (n : Int), .func (.func 33) #[] #[]] w fun e w' => e = .returned (.tuple #[]) ∧ Q w' := by
 have HII := Lib.hid HI
 have h1 : ¬ (20 : Int) ≤ (n : Int) := by omega
 have h2 : ¬ (20 : Int) < (n : Int) := by omega
 clear HI
 go_enter Tryz.func86, Tryz.ntmps86
 go_wp2
 go_loopw [7, 8] (fun a b wr => a = .int .i64 0 ∧ b = .int .i64 20 ∧ Hid (wr = w)) (fun _ _ _ => 0)
 case atStart => exact ⟨rfl, rfl, Lib.hid rfl⟩
 case round =>
  obtain ⟨rfl, rfl, hw⟩ := hrel
  have hw' := hw.out
  subst hw'
  clear hw
  go_wp2_with fail
  refine HII.out.mono ?_
  rintro e v ⟨rfl, hq⟩
  have HQ := Lib.hid hq
  clear hq HII
  go_wp2
  go_loopw [6] (fun a wr => a = .int .i64 20 ∧ Hid (wr = v)) (fun _ _ => 0)
  case atStart => exact ⟨rfl, Lib.hid rfl⟩
  case round =>
   obtain ⟨rfl, hw⟩ := hrel
   have hw' := hw.out
   subst hw'
   clear hw
   go_wp2
   refine bodyPost_end (v := .tuple #[]) (by simp [results, Tryz.results86, go_sem]) rfl ?_
   exact ⟨rfl, HQ.out⟩

set_option maxRecDepth 100000 in
set_option maxHeartbeats 1000000 in
set_option linter.all false in
theorem sorted_me (A : Option Addr) (n c : Nat) (w : World) (Q : World → Prop) (hn : n < 20) (HI : Calls Tryz.prog 117 #[.slice A n c, .int .i64 0, .int .i64 (n : Int), .func (.func 33) #[] #[]] w fun e w' => e = .returned (.tuple #[]) ∧ Q w') :
  Calls Tryz.prog 42 #[.slice A n c, .func (.func 33) #[] #[]] w fun e w' => e = .returned (.tuple #[]) ∧ Q w' := by
 have HII := Lib.hid (stable_me A n c w Q hn HI)
 clear HI
 go_enter Tryz.func42, Tryz.ntmps42
 go_wp2_with fail
 refine HII.out.mono ?_
 rintro e v ⟨rfl, hq⟩
 have HQ := Lib.hid hq
 clear hq HII
 go_wp2
 refine bodyPost_end (v := .tuple #[]) (by simp [results, Tryz.results42, go_sem]) rfl ?_
 exact ⟨rfl, HQ.out⟩

set_option maxRecDepth 100000 in
set_option maxHeartbeats 1000000 in
set_option linter.all false in
theorem ins_none_me (A : Option Addr) (c : Nat) (w : World) : Calls Tryz.prog 117 #[.slice A 0 c, .int .i64 0, .int .i64 ((0 : Nat) : Int), .func (.func 33) #[] #[]] w fun e w' => e = .returned (.tuple #[]) ∧ Below w.heap.size w w' := by
 go_enter Tryz.func117, Tryz.ntmps117
 go_wp2
 go_loopw [8] (fun i wr => i = .int .i64 1 ∧ Below w.heap.size w wr) (fun _ _ => 0)
 case atStart => exact ⟨rfl, Below.refl _ _⟩
 case round =>
  obtain ⟨rfl, hb⟩ := hrel
  go_wp2
  refine bodyPost_end (v := .tuple #[]) (by simp [results, Tryz.results117, go_sem]) rfl ?_
  exact ⟨rfl, hb⟩

end Go.Proofs.YtjcdgpfffmnneaaGreatDoor.prg

/- Layer 8: sorting of two methods that are in order: the library's answer. -/
namespace Go.Proofs.YtjcdgpfffmnneaaGreatDoor.prg
open Go.RowKit
open words kindp opp op kind word

set_option maxRecDepth 100000 in
set_option maxHeartbeats 2000000 in
set_option linter.all false in
theorem ins_two_me (x y : MeM) (A : Option Addr) (c : Nat) (w : World) (hr : Rd w A ([x, y].flatMap meC)) (hlt : ltM y x = false) : Calls Tryz.prog 117 #[.slice A 2 c, .int .i64 0, .int .i64 ((2 : Nat) : Int), .func (.func 33) #[] #[]] w fun e w' => e = .returned (.tuple #[]) ∧ Below w.heap.size w w' := by
 have HRD := Lib.hid hr
 have HCL := Lib.hid (fun w => byMethod_w y x w)
 rw [hlt] at HCL
 dsimp only [meC] at HCL
 obtain ⟨a, rfl, ha, -⟩ := me_at (i := 0) hr (x := x) rfl
 have EA0 := Lib.hid (show a.add (0 * 6) = a from by rw [Nat.zero_mul]; unfold Addr.add; rw [if_pos rfl])
 have EA1 := Lib.hid (show a.add (1 * 6) = ⟨a.block, a.off + 6, none⟩ from by unfold Addr.add; rw [if_neg (by omega)])
 have hw0 : IntKind.i64.wrap (0 : Int) = 0 := by decide
 clear hr hlt ha
 go_enter Tryz.func117, Tryz.ntmps117
 go_wp2
 go_loopw [8] (fun i wr => ∃ k : Nat, i = .int .i64 (k : Int) ∧ (k = 1 ∨ k = 2) ∧ Below w.heap.size w wr) (fun i _ => 2 - (intOf i).toNat)
 case atStart => exact ⟨1, rfl, .inl rfl, Below.refl _ _⟩
 case round =>
  obtain ⟨k, rfl, hk, hbw⟩ := hrel
  obtain ⟨wa, hwa⟩ : ∃ v, v = wr := ⟨_, rfl⟩
  subst hwa
  have HB := Lib.hid hbw
  rcases hk with rfl | rfl
  ·clear hbw
   go_wp2
   go_loopw [9] (fun i wr => i = .int .i64 1 ∧ Below w.heap.size w wr) (fun _ _ => 0)
   case atStart => exact ⟨rfl, HB.out⟩
   case round =>
    obtain ⟨rfl, hbw⟩ := hrel
    obtain ⟨wb, hwb⟩ : ∃ v, v = wr := ⟨_, rfl⟩
    subst hwb
    have HB2 := Lib.hid hbw
    obtain ⟨a1, q1, _, c0, c1, c2, c3, c4, c5⟩ := me_at (i := 1) (HRD.out.below hbw) (x := y) rfl
    cases q1
    rw [EA1.out] at c0 c1 c2 c3 c4 c5
    try dsimp only at c0 c1 c2 c3 c4 c5
    obtain ⟨a1, q1, _, d0, d1, d2, d3, d4, d5⟩ := me_at (i := 0) (HRD.out.below hbw) (x := x) rfl
    cases q1
    rw [EA0.out] at d0 d1 d2 d3 d4 d5
    try dsimp only at d0 d1 d2 d3 d4 d5
    clear hbw
    go_wp2_with fail
    refine wp_region_held_drew (S := (fun w' => w'.cell? ⟨a.block, a.off + 6, none⟩ = some (.string ⟨y.nm.toArray⟩) ∧ w'.cell? ⟨a.block, a.off + 6 + 1, none⟩ = some (.string ⟨y.ds.toArray⟩) ∧ w'.cell? ⟨a.block, a.off + 6 + 2, none⟩ = some (.bool y.st) ∧ w'.cell? ⟨a.block, a.off + 6 + 3, none⟩ = some (.bool y.ab) ∧ w'.cell? ⟨a.block, a.off + 6 + 4, none⟩ = some (.int .i64 y.rg) ∧ w'.cell? ⟨a.block, a.off + 6 + 5, none⟩ = some (.slice y.A y.co.length y.c) ∧ w'.cell? a = some (.string ⟨x.nm.toArray⟩) ∧ w'.cell? ⟨a.block, a.off + 1, none⟩ = some (.string ⟨x.ds.toArray⟩) ∧ w'.cell? ⟨a.block, a.off + 2, none⟩ = some (.bool x.st) ∧ w'.cell? ⟨a.block, a.off + 3, none⟩ = some (.bool x.ab) ∧ w'.cell? ⟨a.block, a.off + 4, none⟩ = some (.int .i64 x.rg) ∧ w'.cell? ⟨a.block, a.off + 5, none⟩ = some (.slice x.A x.co.length x.c))) (by kernel_rfl) ?_ (fun hHeld => ?_)
    ·exact ⟨c0, c1, c2, c3, c4, c5, d0, d1, d2, d3, d4, d5⟩
    refine tkv 0 rfl ?_
    try simp only [puts]
    refine tkv 1 rfl ?_
    try simp only [puts]
    refine tkv 2 rfl ?_
    try simp only [puts]
    refine tkv 3 rfl ?_
    try simp only [puts]
    refine tkv 4 rfl ?_
    try simp only [puts]
    refine tkv 5 rfl ?_
    try simp only [puts]
    refine tkv 6 rfl ?_
    try simp only [puts]
    refine tkv 7 rfl ?_
    try simp only [puts]
    refine tkv 8 rfl ?_
    try simp only [puts]
    refine tkv 9 rfl ?_
    try simp only [puts]
    refine tkv 10 rfl ?_
    try simp only [puts]
    refine tkv 11 rfl ?_
    try simp only [puts]
    refine tkv 12 rfl ?_
    try simp only [puts]
    refine tkv 13 rfl ?_
    try simp only [puts]
    refine wpAnyH_ready (rs := [14]) (by kernel_rfl) (by simp) (AllReadyH.cons rfl (fun K hK => ?_) AllReadyH.nil)
    go_simp
    refine (HCL.out _).mono ?_; rintro e v1 ⟨r, rfl, hs, hb⟩; have k1 : Below w.heap.size w v1 := (by first | exact HB2.out.trans (hb.mono HB2.out.size) | exact (overD HB2.out).trans (hb.mono (overD HB2.out).size)); (obtain ⟨a1, q1, _, e0, e1, e2, e3, e4, e5⟩ := me_at (i := 1) (HRD.out.below k1) (x := y) rfl); (cases q1); (rw [EA1.out] at e0 e1 e2 e3 e4 e5); (try dsimp only at e0 e1 e2 e3 e4 e5); (obtain ⟨a1, q1, _, f0, f1, f2, f3, f4, f5⟩ := me_at (i := 0) (HRD.out.below k1) (x := x) rfl); (cases q1); (rw [EA0.out] at f0 f1 f2 f3 f4 f5); (try dsimp only at f0 f1 f2 f3 f4 f5); have hr0 : (0 : Int) ≤ r := (by simpa using hs); have hrd : decide (r < (0 : Int)) = false := decide_eq_false (by omega); have K1 := Lib.hid k1; clear hb k1 hs; go_wp2_with fail
    refine hK.out _ _ ⟨e0, e1, e2, e3, e4, e5, f0, f1, f2, f3, f4, f5⟩ (fun hHeld => ?_)
    clear hK K
    try simp only [puts]
    refine tkv 15 rfl ?_
    try simp only [puts]
    refine tkv 16 rfl ?_
    try simp only [puts]
    refine wpAnyH_done (by kernel_rfl) ?_ _
    clear c0 c1 c2 c3 c4 c5 d0 d1 d2 d3 d4 d5 e0 e1 e2 e3 e4 e5 f0 f1 f2 f3 f4 f5
    go_wp2
    go_roundw
    case rel => exact ⟨2, by go_num, .inr rfl, K1.out⟩
    case measure => simp [intOf]
  ·clear hbw
   go_wp2
   refine bodyPost_end (v := .tuple #[]) (by simp [results, Tryz.results117, go_sem]) rfl ?_
   exact ⟨rfl, HB.out⟩

end Go.Proofs.YtjcdgpfffmnneaaGreatDoor.prg

/- Layer 8: sorting of two classes that change places: the library's answer. -/
namespace Go.Proofs.YtjcdgpfffmnneaaGreatDoor.prg
open Go.RowKit
open words kindp opp op kind word

theorem own_drew {w : World} {base : Nat} {e : TypeId} {size n : Nat} {v : Value} {xs : List Value} (h : w.ownsRow base e size v n xs) : w.drew.ownsRow base e size v n xs := h
theorem gb_drew {w v : World} {g : Option Nat} (h : w.grownBy v g) : w.grownBy v.drew g := ⟨h.os, h.tape, h.output, h.size, h.block⟩
set_option maxRecDepth 100000 in
set_option maxHeartbeats 2000000 in
set_option linter.all false in
theorem ins_two_cl (x y : ClM) (g c base : Nat) (w : World) (ho : w.ownsRow base 39 7 (.slice (some ⟨g, 0, none⟩) 2 c) 2 ([x, y].flatMap clC)) (hlt : ltC y x = true) : Calls Tryz.prog 102 #[.slice (some ⟨g, 0, none⟩) 2 c, .int .i64 0, .int .i64 2, .func (.func 26) #[] #[]] w fun e w' => e = .returned (.tuple #[]) ∧ w'.ownsRow base 39 7 (.slice (some ⟨g, 0, none⟩) 2 c) 2 ([y, x].flatMap clC) ∧ w.grownBy w' (some g) := by
 have HO := Lib.hid ho
 have HCL := Lib.hid (fun w => byClass_w y x w)
 rw [hlt] at HCL
 dsimp only [clC] at HCL
 have hw0 : IntKind.i64.wrap (0 : Int) = 0 := by decide
 have HG0 := Lib.hid (show w.grownBy w (some g) from ⟨rfl, rfl, rfl, Nat.le_refl _, fun _ _ _ => rfl⟩)
 clear ho hlt
 go_enter Tryz.func102, Tryz.ntmps102
 go_wp2
 go_loopw [8] (fun i wr => ((i = .int .i64 1 ∧ wr.ownsRow base 39 7 (.slice (some ⟨g, 0, none⟩) 2 c) 2 ([x, y].flatMap clC)) ∨ (i = .int .i64 2 ∧ wr.ownsRow base 39 7 (.slice (some ⟨g, 0, none⟩) 2 c) 2 ([y, x].flatMap clC))) ∧ w.grownBy wr (some g)) (fun i _ => 2 - (intOf i).toNat)
 case atStart => exact ⟨.inl ⟨rfl, HO.out⟩, HG0.out⟩
 case round =>
  obtain ⟨hk, hgw⟩ := hrel
  obtain ⟨wa, hwa⟩ : ∃ v, v = wr := ⟨_, rfl⟩
  subst hwa
  have HG := Lib.hid hgw
  rcases hk with ⟨rfl, hok⟩ | ⟨rfl, hok⟩
  ·have HOK := Lib.hid hok
   clear hgw hok
   go_wp2
   go_loopw [9] (fun i wr => ((i = .int .i64 1 ∧ wr.ownsRow base 39 7 (.slice (some ⟨g, 0, none⟩) 2 c) 2 ([x, y].flatMap clC)) ∨ (i = .int .i64 0 ∧ wr.ownsRow base 39 7 (.slice (some ⟨g, 0, none⟩) 2 c) 2 ([y, x].flatMap clC))) ∧ w.grownBy wr (some g)) (fun i _ => (intOf i).toNat)
   case atStart => exact ⟨.inl ⟨rfl, HOK.out⟩, HG.out⟩
   case round =>
    obtain ⟨hj, hgw⟩ := hrel
    obtain ⟨wb, hwb⟩ : ∃ v, v = wr := ⟨_, rfl⟩
    subst hwb
    have HG2 := Lib.hid hgw
    rcases hj with ⟨rfl, hok⟩ | ⟨rfl, hok⟩
    ·have HO2 := Lib.hid hok
     have c0 : wb.cell? ⟨g, 0, none⟩ = some (.string ⟨x.nm.toArray⟩) := hok.cellAt 0 (by omega)
     have c7 : wb.cell? ⟨g, 7, none⟩ = some (.string ⟨y.nm.toArray⟩) := hok.cellAt 7 (by omega)
     have c1 : wb.cell? ⟨g, 1, none⟩ = some (.string ⟨x.su.toArray⟩) := hok.cellAt 1 (by omega)
     have c8 : wb.cell? ⟨g, 8, none⟩ = some (.string ⟨y.su.toArray⟩) := hok.cellAt 8 (by omega)
     have c2 : wb.cell? ⟨g, 2, none⟩ = some (.bool x.fc) := hok.cellAt 2 (by omega)
     have c9 : wb.cell? ⟨g, 9, none⟩ = some (.bool y.fc) := hok.cellAt 9 (by omega)
     have c3 : wb.cell? ⟨g, 3, none⟩ = some (.bool x.ab) := hok.cellAt 3 (by omega)
     have c10 : wb.cell? ⟨g, 10, none⟩ = some (.bool y.ab) := hok.cellAt 10 (by omega)
     have c4 : wb.cell? ⟨g, 4, none⟩ = some (.slice x.A1 x.is.length x.c1) := hok.cellAt 4 (by omega)
     have c11 : wb.cell? ⟨g, 11, none⟩ = some (.slice y.A1 y.is.length y.c1) := hok.cellAt 11 (by omega)
     have c5 : wb.cell? ⟨g, 5, none⟩ = some (.slice x.A2 x.fs.length x.c2) := hok.cellAt 5 (by omega)
     have c12 : wb.cell? ⟨g, 12, none⟩ = some (.slice y.A2 y.fs.length y.c2) := hok.cellAt 12 (by omega)
     have c6 : wb.cell? ⟨g, 6, none⟩ = some (.slice x.A3 x.ms.length x.c3) := hok.cellAt 6 (by omega)
     have c13 : wb.cell? ⟨g, 13, none⟩ = some (.slice y.A3 y.ms.length y.c3) := hok.cellAt 13 (by omega)
     clear hgw hok
     go_wp2_with fail
     refine wp_region_held_drew (S := (fun w' => w'.cell? ⟨g, 7, none⟩ = some (.string ⟨y.nm.toArray⟩) ∧ w'.cell? ⟨g, 8, none⟩ = some (.string ⟨y.su.toArray⟩) ∧ w'.cell? ⟨g, 9, none⟩ = some (.bool y.fc) ∧ w'.cell? ⟨g, 10, none⟩ = some (.bool y.ab) ∧ w'.cell? ⟨g, 11, none⟩ = some (.slice y.A1 y.is.length y.c1) ∧ w'.cell? ⟨g, 12, none⟩ = some (.slice y.A2 y.fs.length y.c2) ∧ w'.cell? ⟨g, 13, none⟩ = some (.slice y.A3 y.ms.length y.c3) ∧ w'.cell? ⟨g, 0, none⟩ = some (.string ⟨x.nm.toArray⟩) ∧ w'.cell? ⟨g, 1, none⟩ = some (.string ⟨x.su.toArray⟩) ∧ w'.cell? ⟨g, 2, none⟩ = some (.bool x.fc) ∧ w'.cell? ⟨g, 3, none⟩ = some (.bool x.ab) ∧ w'.cell? ⟨g, 4, none⟩ = some (.slice x.A1 x.is.length x.c1) ∧ w'.cell? ⟨g, 5, none⟩ = some (.slice x.A2 x.fs.length x.c2) ∧ w'.cell? ⟨g, 6, none⟩ = some (.slice x.A3 x.ms.length x.c3))) (by kernel_rfl) ?_ (fun hHeld => ?_)
     ·exact ⟨c7, c8, c9, c10, c11, c12, c13, c0, c1, c2, c3, c4, c5, c6⟩
     refine tkv 0 rfl ?_
     try simp only [puts]
     refine tkv 1 rfl ?_
     try simp only [puts]
     refine tkv 2 rfl ?_
     try simp only [puts]
     refine tkv 3 rfl ?_
     try simp only [puts]
     refine tkv 4 rfl ?_
     try simp only [puts]
     refine tkv 5 rfl ?_
     try simp only [puts]
     refine tkv 6 rfl ?_
     try simp only [puts]
     refine tkv 7 rfl ?_
     try simp only [puts]
     refine tkv 8 rfl ?_
     try simp only [puts]
     refine tkv 9 rfl ?_
     try simp only [puts]
     refine tkv 10 rfl ?_
     try simp only [puts]
     refine tkv 11 rfl ?_
     try simp only [puts]
     refine tkv 12 rfl ?_
     try simp only [puts]
     refine tkv 13 rfl ?_
     try simp only [puts]
     refine wpAnyH_ready (rs := [14]) (by kernel_rfl) (by simp) (AllReadyH.cons rfl (fun K hK => ?_) AllReadyH.nil)
     go_simp
     refine (HCL.out _).mono ?_; rintro e v1 ⟨r, rfl, hs, hb⟩; have hbq : Below wb.heap.size wb v1 := (by first | exact hb | exact ⟨hb.os, hb.tape, hb.output, hb.size, hb.block⟩); have ho3 := own_below HO2.out hbq; (have e0 : v1.cell? ⟨g, 0, none⟩ = some (.string ⟨x.nm.toArray⟩) := ho3.cellAt 0 (by omega)); (have e7 : v1.cell? ⟨g, 7, none⟩ = some (.string ⟨y.nm.toArray⟩) := ho3.cellAt 7 (by omega)); (have e1 : v1.cell? ⟨g, 1, none⟩ = some (.string ⟨x.su.toArray⟩) := ho3.cellAt 1 (by omega)); (have e8 : v1.cell? ⟨g, 8, none⟩ = some (.string ⟨y.su.toArray⟩) := ho3.cellAt 8 (by omega)); (have e2 : v1.cell? ⟨g, 2, none⟩ = some (.bool x.fc) := ho3.cellAt 2 (by omega)); (have e9 : v1.cell? ⟨g, 9, none⟩ = some (.bool y.fc) := ho3.cellAt 9 (by omega)); (have e3 : v1.cell? ⟨g, 3, none⟩ = some (.bool x.ab) := ho3.cellAt 3 (by omega)); (have e10 : v1.cell? ⟨g, 10, none⟩ = some (.bool y.ab) := ho3.cellAt 10 (by omega)); (have e4 : v1.cell? ⟨g, 4, none⟩ = some (.slice x.A1 x.is.length x.c1) := ho3.cellAt 4 (by omega)); (have e11 : v1.cell? ⟨g, 11, none⟩ = some (.slice y.A1 y.is.length y.c1) := ho3.cellAt 11 (by omega)); (have e5 : v1.cell? ⟨g, 5, none⟩ = some (.slice x.A2 x.fs.length x.c2) := ho3.cellAt 5 (by omega)); (have e12 : v1.cell? ⟨g, 12, none⟩ = some (.slice y.A2 y.fs.length y.c2) := ho3.cellAt 12 (by omega)); (have e6 : v1.cell? ⟨g, 6, none⟩ = some (.slice x.A3 x.ms.length x.c3) := ho3.cellAt 6 (by omega)); (have e13 : v1.cell? ⟨g, 13, none⟩ = some (.slice y.A3 y.ms.length y.c3) := ho3.cellAt 13 (by omega)); have hr0 : ¬ (0 : Int) ≤ r := (by simpa using hs); have hrd : decide (r < (0 : Int)) = true := decide_eq_true (by omega); have HO3 := Lib.hid ho3; have HG3 := Lib.hid (gb_trans HG2.out (gb_below hbq g)); clear hb hbq hs ho3; go_wp2_with fail
     refine hK.out _ _ ⟨e7, e8, e9, e10, e11, e12, e13, e0, e1, e2, e3, e4, e5, e6⟩ (fun hHeld => ?_)
     clear hK K
     try simp only [puts]
     refine tkv 15 rfl ?_
     try simp only [puts]
     refine tkv 16 rfl ?_
     try simp only [puts]
     refine wpAnyH_done (by kernel_rfl) ?_ _
     clear c0 e0 c1 e1 c2 e2 c3 e3 c4 e4 c5 e5 c6 e6 c7 e7 c8 e8 c9 e9 c10 e10 c11 e11 c12 e12 c13 e13
     have ho4 := HO3.out
     have q0 : v1.cell? ⟨g, 0, none⟩ = some (.string ⟨x.nm.toArray⟩) := ho4.cellAt 0 (by omega)
     have q7 : v1.cell? ⟨g, 7, none⟩ = some (.string ⟨y.nm.toArray⟩) := ho4.cellAt 7 (by omega)
     have qf0 := ho4.frozenAt 0
     have qf7 := ho4.frozenAt 7
     have q1 : v1.cell? ⟨g, 1, none⟩ = some (.string ⟨x.su.toArray⟩) := ho4.cellAt 1 (by omega)
     have q8 : v1.cell? ⟨g, 8, none⟩ = some (.string ⟨y.su.toArray⟩) := ho4.cellAt 8 (by omega)
     have qf1 := ho4.frozenAt 1
     have qf8 := ho4.frozenAt 8
     have q2 : v1.cell? ⟨g, 2, none⟩ = some (.bool x.fc) := ho4.cellAt 2 (by omega)
     have q9 : v1.cell? ⟨g, 9, none⟩ = some (.bool y.fc) := ho4.cellAt 9 (by omega)
     have qf2 := ho4.frozenAt 2
     have qf9 := ho4.frozenAt 9
     have q3 : v1.cell? ⟨g, 3, none⟩ = some (.bool x.ab) := ho4.cellAt 3 (by omega)
     have q10 : v1.cell? ⟨g, 10, none⟩ = some (.bool y.ab) := ho4.cellAt 10 (by omega)
     have qf3 := ho4.frozenAt 3
     have qf10 := ho4.frozenAt 10
     have q4 : v1.cell? ⟨g, 4, none⟩ = some (.slice x.A1 x.is.length x.c1) := ho4.cellAt 4 (by omega)
     have q11 : v1.cell? ⟨g, 11, none⟩ = some (.slice y.A1 y.is.length y.c1) := ho4.cellAt 11 (by omega)
     have qf4 := ho4.frozenAt 4
     have qf11 := ho4.frozenAt 11
     have q5 : v1.cell? ⟨g, 5, none⟩ = some (.slice x.A2 x.fs.length x.c2) := ho4.cellAt 5 (by omega)
     have q12 : v1.cell? ⟨g, 12, none⟩ = some (.slice y.A2 y.fs.length y.c2) := ho4.cellAt 12 (by omega)
     have qf5 := ho4.frozenAt 5
     have qf12 := ho4.frozenAt 12
     have q6 : v1.cell? ⟨g, 6, none⟩ = some (.slice x.A3 x.ms.length x.c3) := ho4.cellAt 6 (by omega)
     have q13 : v1.cell? ⟨g, 13, none⟩ = some (.slice y.A3 y.ms.length y.c3) := ho4.cellAt 13 (by omega)
     have qf6 := ho4.frozenAt 6
     have qf13 := ho4.frozenAt 13
     obtain ⟨o1, g1⟩ := ho4.stored 7 (.string ⟨x.nm.toArray⟩)
     obtain ⟨o2, g2⟩ := o1.stored 8 (.string ⟨x.su.toArray⟩)
     obtain ⟨o3, g3⟩ := o2.stored 9 (.bool x.fc)
     obtain ⟨o4, g4⟩ := o3.stored 10 (.bool x.ab)
     obtain ⟨o5, g5⟩ := o4.stored 11 (.slice x.A1 x.is.length x.c1)
     obtain ⟨o6, g6⟩ := o5.stored 12 (.slice x.A2 x.fs.length x.c2)
     obtain ⟨o7, g7⟩ := o6.stored 13 (.slice x.A3 x.ms.length x.c3)
     obtain ⟨o8, g8⟩ := o7.stored 0 (.string ⟨y.nm.toArray⟩)
     obtain ⟨o9, g9⟩ := o8.stored 1 (.string ⟨y.su.toArray⟩)
     obtain ⟨o10, g10⟩ := o9.stored 2 (.bool y.fc)
     obtain ⟨o11, g11⟩ := o10.stored 3 (.bool y.ab)
     obtain ⟨o12, g12⟩ := o11.stored 4 (.slice y.A1 y.is.length y.c1)
     obtain ⟨o13, g13⟩ := o12.stored 5 (.slice y.A2 y.fs.length y.c2)
     obtain ⟨o14, g14⟩ := o13.stored 6 (.slice y.A3 y.ms.length y.c3)
     have o15 : ((((((((((((((v1.setCell ⟨g, 7, none⟩ (.string ⟨x.nm.toArray⟩)).setCell ⟨g, 8, none⟩ (.string ⟨x.su.toArray⟩)).setCell ⟨g, 9, none⟩ (.bool x.fc)).setCell ⟨g, 10, none⟩ (.bool x.ab)).setCell ⟨g, 11, none⟩ (.slice x.A1 x.is.length x.c1)).setCell ⟨g, 12, none⟩ (.slice x.A2 x.fs.length x.c2)).setCell ⟨g, 13, none⟩ (.slice x.A3 x.ms.length x.c3)).setCell ⟨g, 0, none⟩ (.string ⟨y.nm.toArray⟩)).setCell ⟨g, 1, none⟩ (.string ⟨y.su.toArray⟩)).setCell ⟨g, 2, none⟩ (.bool y.fc)).setCell ⟨g, 3, none⟩ (.bool y.ab)).setCell ⟨g, 4, none⟩ (.slice y.A1 y.is.length y.c1)).setCell ⟨g, 5, none⟩ (.slice y.A2 y.fs.length y.c2)).setCell ⟨g, 6, none⟩ (.slice y.A3 y.ms.length y.c3)).ownsRow base 39 7 (.slice (some ⟨g, 0, none⟩) 2 c) 2 ([y, x].flatMap clC) := by have h := o14; exact h
     have gall := gb_trans HG3.out (gb_trans (gb_trans (gb_trans (gb_trans (gb_trans (gb_trans (gb_trans (gb_trans (gb_trans (gb_trans (gb_trans (gb_trans (gb_trans g1 g2) g3) g4) g5) g6) g7) g8) g9) g10) g11) g12) g13) g14)
     have HO5 := Lib.hid (show ((((((((((((((v1.setCell ⟨g, 7, none⟩ (.string ⟨x.nm.toArray⟩)).setCell ⟨g, 8, none⟩ (.string ⟨x.su.toArray⟩)).setCell ⟨g, 9, none⟩ (.bool x.fc)).setCell ⟨g, 10, none⟩ (.bool x.ab)).setCell ⟨g, 11, none⟩ (.slice x.A1 x.is.length x.c1)).setCell ⟨g, 12, none⟩ (.slice x.A2 x.fs.length x.c2)).setCell ⟨g, 13, none⟩ (.slice x.A3 x.ms.length x.c3)).setCell ⟨g, 0, none⟩ (.string ⟨y.nm.toArray⟩)).setCell ⟨g, 1, none⟩ (.string ⟨y.su.toArray⟩)).setCell ⟨g, 2, none⟩ (.bool y.fc)).setCell ⟨g, 3, none⟩ (.bool y.ab)).setCell ⟨g, 4, none⟩ (.slice y.A1 y.is.length y.c1)).setCell ⟨g, 5, none⟩ (.slice y.A2 y.fs.length y.c2)).setCell ⟨g, 6, none⟩ (.slice y.A3 y.ms.length y.c3)).drew.ownsRow base 39 7 (.slice (some ⟨g, 0, none⟩) 2 c) 2 ([y, x].flatMap clC) ∧ w.grownBy ((((((((((((((v1.setCell ⟨g, 7, none⟩ (.string ⟨x.nm.toArray⟩)).setCell ⟨g, 8, none⟩ (.string ⟨x.su.toArray⟩)).setCell ⟨g, 9, none⟩ (.bool x.fc)).setCell ⟨g, 10, none⟩ (.bool x.ab)).setCell ⟨g, 11, none⟩ (.slice x.A1 x.is.length x.c1)).setCell ⟨g, 12, none⟩ (.slice x.A2 x.fs.length x.c2)).setCell ⟨g, 13, none⟩ (.slice x.A3 x.ms.length x.c3)).setCell ⟨g, 0, none⟩ (.string ⟨y.nm.toArray⟩)).setCell ⟨g, 1, none⟩ (.string ⟨y.su.toArray⟩)).setCell ⟨g, 2, none⟩ (.bool y.fc)).setCell ⟨g, 3, none⟩ (.bool y.ab)).setCell ⟨g, 4, none⟩ (.slice y.A1 y.is.length y.c1)).setCell ⟨g, 5, none⟩ (.slice y.A2 y.fs.length y.c2)).setCell ⟨g, 6, none⟩ (.slice y.A3 y.ms.length y.c3)).drew (some g) from ⟨own_drew o15, gb_drew gall⟩)
     clear ho4 o15 gall o1 g1 o2 g2 o3 g3 o4 g4 o5 g5 o6 g6 o7 g7 o8 g8 o9 g9 o10 g10 o11 g11 o12 g12 o13 g13 o14 g14
     go_wp2_with fail
     go_region
     clear q0 qf0 q1 qf1 q2 qf2 q3 qf3 q4 qf4 q5 qf5 q6 qf6 q7 qf7 q8 qf8 q9 qf9 q10 qf10 q11 qf11 q12 qf12 q13 qf13
     go_wp2
     go_roundw
     case rel => exact ⟨.inr ⟨rfl, HO5.out.1⟩, HO5.out.2⟩
     case measure => simp [intOf]
    ·have HO2 := Lib.hid hok
     clear hgw hok
     go_wp2_with fail
     refine wp_region_held_drew (S := (fun _ => True)) (by kernel_rfl) ?_ (fun hHeld => ?_)
     ·exact trivial
     refine tkv 0 rfl ?_
     try simp only [puts]
     refine tkv 1 rfl ?_
     try simp only [puts]
     refine tkv 2 rfl ?_
     try simp only [puts]
     refine tkv 3 rfl ?_
     try simp only [puts]
     refine tku 4 rfl ?_
     try simp only [puts]
     refine tku 5 rfl ?_
     try simp only [puts]
     refine tku 6 rfl ?_
     try simp only [puts]
     refine tku 7 rfl ?_
     try simp only [puts]
     refine tku 8 rfl ?_
     try simp only [puts]
     refine tku 9 rfl ?_
     try simp only [puts]
     refine tku 10 rfl ?_
     try simp only [puts]
     refine tku 11 rfl ?_
     try simp only [puts]
     refine tku 12 rfl ?_
     try simp only [puts]
     refine tku 13 rfl ?_
     try simp only [puts]
     refine tku 14 rfl ?_
     try simp only [puts]
     refine tku 15 rfl ?_
     try simp only [puts]
     refine tkv 16 rfl ?_
     try simp only [puts]
     refine wpAnyH_done (by kernel_rfl) ?_ _
     go_wp2
     go_roundw
     case rel => exact ⟨.inr ⟨rfl, own_drew HO2.out⟩, gb_drew HG2.out⟩
     case measure => simp [intOf]
  ·have HOK := Lib.hid hok
   clear hgw hok
   go_wp2
   refine bodyPost_end (v := .tuple #[]) (by simp [results, Tryz.results102, go_sem]) rfl ?_
   exact ⟨rfl, HOK.out, HG.out⟩

end Go.Proofs.YtjcdgpfffmnneaaGreatDoor.prg

/- StoL -/
import Derived.Test.YtjejmlpjifhmmaaGreatDoorNormXg
import Derived.IntWalk
import Derived.Laws.CopyOwn
import Derived.Laws.MakeOwn
import Derived.Deep.RegionLaw
import Derived.Test.YtjejmlpjifhmmaaGreatDoorShelf3
import Derived.Test.YtjejmlpjifhmmaaGreatDoorKindS
import Derived.Test.YtjejmlpjifhmmaaGreatDoorKeep
import Derived.Laws.OwnMore
import Derived.Maps.RangeRun
import Derived.Maps.Own
import Derived.RangeFuncNested
import Derived.RangeFuncBox
import Derived.RangeFuncKeeps
import Derived.RangeFuncGives
import Derived.OwnWalkIn
import Derived.TacticsInMore
import Derived.LoopIn
import Derived.LoopNIn
import Derived.Laws.IdiomRangeMap
import Derived.WalkKit
import Derived.Shelf.RegionOpen
namespace Go.Proofs.YtjejmlpjifhmmaaGreatDoor.stp
open Go.RowKit
open words kindp kind prg
set_option maxRecDepth 100000
set_option maxHeartbeats 8000000
set_option linter.all false
structure Kp (S : List Nat) (w w' : World) : Prop where
 os : w'.os = w.os
 tape : w'.tape = w.tape
 output : w'.output = w.output
 size : w.heap.size ≤ w'.heap.size
 block : ∀ k, k < w.heap.size → k ∉ S → w'.heap[k]? = w.heap[k]?
theorem Kp.below {S : List Nat} {w w' : World} (h : Below w.heap.size w w') : Kp S w w' := ⟨h.os, h.tape, h.output, h.size, fun k hk _ => h.block k hk⟩
theorem Kp.refl (S : List Nat) (w : World) : Kp S w w := Kp.below (Below.refl _ _)
theorem Kp.trans {S : List Nat} {w w1 w2 : World} (h : Kp S w w1) (k : Kp S w1 w2) : Kp S w w2 :=
 ⟨k.os.trans h.os, k.tape.trans h.tape, k.output.trans h.output, Nat.le_trans h.size k.size, fun j hj hn => (k.block j (Nat.lt_of_lt_of_le hj h.size) hn).trans (h.block j hj hn)⟩
theorem Kp.more {S R : List Nat} {w w' : World} (h : Kp S w w') (hs : ∀ k ∈ S, k < w.heap.size → k ∈ R) : Kp R w w' :=
 ⟨h.os, h.tape, h.output, h.size, fun k hk hn => h.block k hk (fun e => hn (hs k e hk))⟩
theorem Kp.since {S R : List Nat} {w w1 w2 : World} (h : Kp S w w1) (k : Kp R w1 w2) (hr : ∀ j ∈ R, j < w.heap.size → j ∈ S) : Kp S w w2 :=
 ⟨k.os.trans h.os, k.tape.trans h.tape, k.output.trans h.output, Nat.le_trans h.size k.size, fun j hj hn => (k.block j (Nat.lt_of_lt_of_le hj h.size) (fun e => hn (hr j e hj))).trans (h.block j hj hn)⟩
theorem Kp.at_ {S : List Nat} {w w' : World} {k : Nat} {o : Obj} (h : Kp S w w') (hk : w.heap[k]? = some o) (hn : k ∉ S) : w'.heap[k]? = some o := (h.block k (blk_lt hk) hn).trans hk
theorem Kp.toBelow {S : List Nat} {b : Nat} {w w' : World} (h : Kp S w w') (hb : b ≤ w.heap.size) (hs : ∀ k ∈ S, b ≤ k) : Below b w w' :=
 ⟨h.os, h.tape, h.output, h.size, fun k hk => h.block k (by omega) (fun e => by have := hs k e; omega)⟩
theorem Kp.alloc {S : List Nat} {w w1 : World} (h : Kp S w w1) (o : Obj) : Kp S w (w1.alloc o) := h.trans (Kp.below ((Below.refl _ _).alloc (Nat.le_refl _) _))
theorem Kp.of {S : List Nat} {w w1 : World} {r : Option Nat} (h : w.grownBy w1 r) (hr : ∀ b, r = some b → b < w.heap.size → b ∈ S) : Kp S w w1 :=
 ⟨h.os, h.tape, h.output, h.size, fun k hk hn => h.block k hk (fun e => hn (hr k e.symm hk))⟩
theorem Kp.set {S : List Nat} {w w1 : World} (h : Kp S w w1) {b i : Nat} (hb : b ∈ S) (v : Value) : Kp S w (w1.setCell ⟨b, i, none⟩ v) :=
 h.trans (Kp.of (Lib.grownBy_setCell w1 b i v) (fun c hc _ => by cases hc; exact hb))
theorem Kp.rd {S : List Nat} {w w' : World} {A : Option Addr} {xs : List Value} (h : Kp S w w') (hr : Rd w A xs) (hn : ∀ a, A = some a → a.block ∉ S) : Rd w' A xs := by
 rcases hr with rfl | ⟨a, rfl, hb, hc⟩
 ·exact .inl rfl
 ·exact .inr ⟨a, rfl, Nat.lt_of_lt_of_le hb h.size, fun j u hu => by
   have e : (a.add j).block = a.block := add_block a j
   have := h.block a.block hb (hn a rfl)
   exact (World.cell?_of_block (w := w) (by rw [e]; exact this)).trans (hc j u hu)⟩
theorem info_pair : (Tryz.prog.info? 70).map (fun i => (i.zero, i.size, i.bytes)) = some (some (.agg #[.string ⟨#[]⟩, .string ⟨#[]⟩]), 2, 32) := by kernel_rfl
theorem cln_pair (A : Option Addr) (n c : Nat) (xs : List Value) (w : World) (hr : Rd w A xs) (hl : xs.length = n * 2) (hn : n ≤ 100000) (h1 : ∀ u ∈ xs, u.oneCell' = true) :
  Calls Tryz.prog 29 #[.slice A n c] w (Cln 70 2 n xs w) := by
 obtain ⟨i0, hi0, hz0, hz1, hz2⟩ := info_parts info_pair
 have hlit := World.ownsRow_lit (base := w.heap.size) (e := 70) (size := 2) w #[] 0 (Nat.le_refl _) (by simp [maxLen]) rfl
 have heq := Lib.run_eql_slice_nil w 27 70 A n c 0 0 Tryz.underlying27
 have hL := zh hl; have hN := zh hn; have hO := zh h1
 clear hl hn h1
 rcases A with _ | a
 ·have hnil : xs = [] := by
   rcases hr with h | ⟨a, h, _⟩
   ·exact h
   ·cases h
  subst hnil
  have h0 : n = 0 := by have := hL.out; simp at this; omega
  subst h0
  have HR := zh (show Cln 70 2 0 [] w (.returned (.slice none 0 0)) w from ⟨⟨none, 0, rfl, World.ownsRow_nil _ _ _ _⟩, Below.refl _ _⟩)
  go_enter Tryz.func29, Tryz.ntmps29
  go_wp2
  go_ret
  exact HR.out
 ·go_enter Tryz.func29, Tryz.ntmps29
  go_wp2_with (at_builtin; refine wpList_app _ rfl (.tmp 5) (.tmp 6) _ rfl w.heap.size 70 i0 _ 2 32 Tryz.underlying27 hi0 hz0 hz1 hz2 rfl (by omega) _ 0 [] rfl hlit (some a) n c xs rfl hL.out (hr.below ((Below.refl _ _).alloc (Nat.le_refl _) _)) hO.out (by have := hN.out; simp only [maxLen]; omega) (by have := hN.out; omega) (by simp) ?_; intro v' w1 hown1 hg1 hb1 hat1)
  rw [Nat.zero_add, List.nil_append] at hown1
  obtain ⟨B, d, rfl, -, -, -⟩ := own_rd hown1
  have HB := zh (((Below.refl w.heap.size w).alloc (Nat.le_refl _) (.cells #[] 70)).trans hb1)
  have HO := zh hown1
  clear hown1 hg1 hb1 hat1
  go_ret
  exact ⟨⟨B, d, rfl, HO.out⟩, HB.out⟩
theorem info_i64 : (Tryz.prog.info? 2).map (fun i => (i.zero, i.size, i.bytes)) = some (some (.int .i64 0), 1, 8) := by kernel_rfl
theorem cln_i64 (A : Option Addr) (n c : Nat) (xs : List Value) (w : World) (hr : Rd w A xs) (hl : xs.length = n * 1) (hn : n ≤ 100000) (h1 : ∀ u ∈ xs, u.oneCell' = true) :
  Calls Tryz.prog 30 #[.slice A n c] w (Cln 2 1 n xs w) := by
 obtain ⟨i0, hi0, hz0, hz1, hz2⟩ := info_parts info_i64
 have hlit := World.ownsRow_lit (base := w.heap.size) (e := 2) (size := 1) w #[] 0 (Nat.le_refl _) (by simp [maxLen]) rfl
 have heq := Lib.run_eql_slice_nil w 28 2 A n c 0 0 Tryz.underlying28
 have hL := zh hl; have hN := zh hn; have hO := zh h1
 clear hl hn h1
 rcases A with _ | a
 ·have hnil : xs = [] := by
   rcases hr with h | ⟨a, h, _⟩
   ·exact h
   ·cases h
  subst hnil
  have h0 : n = 0 := by have := hL.out; simp at this; omega
  subst h0
  have HR := zh (show Cln 2 1 0 [] w (.returned (.slice none 0 0)) w from ⟨⟨none, 0, rfl, World.ownsRow_nil _ _ _ _⟩, Below.refl _ _⟩)
  go_enter Tryz.func30, Tryz.ntmps30
  go_wp2
  go_ret
  exact HR.out
 ·go_enter Tryz.func30, Tryz.ntmps30
  go_wp2_with (at_builtin; refine wpList_app _ rfl (.tmp 5) (.tmp 6) _ rfl w.heap.size 2 i0 _ 1 8 Tryz.underlying28 hi0 hz0 hz1 hz2 rfl (by omega) _ 0 [] rfl hlit (some a) n c xs rfl hL.out (hr.below ((Below.refl _ _).alloc (Nat.le_refl _) _)) hO.out (by have := hN.out; simp only [maxLen]; omega) (by have := hN.out; omega) (by simp) ?_; intro v' w1 hown1 hg1 hb1 hat1)
  rw [Nat.zero_add, List.nil_append] at hown1
  obtain ⟨B, d, rfl, -, -, -⟩ := own_rd hown1
  have HB := zh (((Below.refl w.heap.size w).alloc (Nat.le_refl _) (.cells #[] 2)).trans hb1)
  have HO := zh hown1
  clear hown1 hg1 hb1 hat1
  go_ret
  exact ⟨⟨B, d, rfl, HO.out⟩, HB.out⟩
theorem info_ev : (Tryz.prog.info? 66).map (fun i => (i.zero, i.size, i.bytes)) = some (some (.agg #[.bool false, .int .i64 0]), 2, 16) := by kernel_rfl
theorem cln_ev (A : Option Addr) (n c : Nat) (xs : List Value) (w : World) (hr : Rd w A xs) (hl : xs.length = n * 2) (hn : n ≤ 100000) (h1 : ∀ u ∈ xs, u.oneCell' = true) :
  Calls Tryz.prog 39 #[.slice A n c] w (Cln 66 2 n xs w) := by
 obtain ⟨i0, hi0, hz0, hz1, hz2⟩ := info_parts info_ev
 have hlit := World.ownsRow_lit (base := w.heap.size) (e := 66) (size := 2) w #[] 0 (Nat.le_refl _) (by simp [maxLen]) rfl
 have heq := Lib.run_eql_slice_nil w 43 66 A n c 0 0 Tryz.underlying43
 have hL := zh hl; have hN := zh hn; have hO := zh h1
 clear hl hn h1
 rcases A with _ | a
 ·have hnil : xs = [] := by
   rcases hr with h | ⟨a, h, _⟩
   ·exact h
   ·cases h
  subst hnil
  have h0 : n = 0 := by have := hL.out; simp at this; omega
  subst h0
  have HR := zh (show Cln 66 2 0 [] w (.returned (.slice none 0 0)) w from ⟨⟨none, 0, rfl, World.ownsRow_nil _ _ _ _⟩, Below.refl _ _⟩)
  go_enter Tryz.func39, Tryz.ntmps39
  go_wp2
  go_ret
  exact HR.out
 ·go_enter Tryz.func39, Tryz.ntmps39
  go_wp2_with (at_builtin; refine wpList_app _ rfl (.tmp 5) (.tmp 6) _ rfl w.heap.size 66 i0 _ 2 16 Tryz.underlying43 hi0 hz0 hz1 hz2 rfl (by omega) _ 0 [] rfl hlit (some a) n c xs rfl hL.out (hr.below ((Below.refl _ _).alloc (Nat.le_refl _) _)) hO.out (by have := hN.out; simp only [maxLen]; omega) (by have := hN.out; omega) (by simp) ?_; intro v' w1 hown1 hg1 hb1 hat1)
  rw [Nat.zero_add, List.nil_append] at hown1
  obtain ⟨B, d, rfl, -, -, -⟩ := own_rd hown1
  have HB := zh (((Below.refl w.heap.size w).alloc (Nat.le_refl _) (.cells #[] 66)).trans hb1)
  have HO := zh hown1
  clear hown1 hg1 hb1 hat1
  go_ret
  exact ⟨⟨B, d, rfl, HO.out⟩, HB.out⟩
theorem info_mref : (Tryz.prog.info? 34).map (fun i => (i.zero, i.size, i.bytes)) = some (some (.agg #[.string ⟨#[]⟩, .string ⟨#[]⟩, .string ⟨#[]⟩]), 3, 48) := by kernel_rfl
theorem cln_mref (A : Option Addr) (n c : Nat) (xs : List Value) (w : World) (hr : Rd w A xs) (hl : xs.length = n * 3) (hn : n ≤ 100000) (h1 : ∀ u ∈ xs, u.oneCell' = true) :
  Calls Tryz.prog 79 #[.slice A n c] w (Cln 34 3 n xs w) := by
 obtain ⟨i0, hi0, hz0, hz1, hz2⟩ := info_parts info_mref
 have hlit := World.ownsRow_lit (base := w.heap.size) (e := 34) (size := 3) w #[] 0 (Nat.le_refl _) (by simp [maxLen]) rfl
 have heq := Lib.run_eql_slice_nil w 44 34 A n c 0 0 Tryz.underlying44
 have hL := zh hl; have hN := zh hn; have hO := zh h1
 clear hl hn h1
 rcases A with _ | a
 ·have hnil : xs = [] := by
   rcases hr with h | ⟨a, h, _⟩
   ·exact h
   ·cases h
  subst hnil
  have h0 : n = 0 := by have := hL.out; simp at this; omega
  subst h0
  have HR := zh (show Cln 34 3 0 [] w (.returned (.slice none 0 0)) w from ⟨⟨none, 0, rfl, World.ownsRow_nil _ _ _ _⟩, Below.refl _ _⟩)
  go_enter Tryz.func79, Tryz.ntmps79
  go_wp2
  go_ret
  exact HR.out
 ·go_enter Tryz.func79, Tryz.ntmps79
  go_wp2_with (at_builtin; refine wpList_app _ rfl (.tmp 5) (.tmp 6) _ rfl w.heap.size 34 i0 _ 3 48 Tryz.underlying44 hi0 hz0 hz1 hz2 rfl (by omega) _ 0 [] rfl hlit (some a) n c xs rfl hL.out (hr.below ((Below.refl _ _).alloc (Nat.le_refl _) _)) hO.out (by have := hN.out; simp only [maxLen]; omega) (by have := hN.out; omega) (by simp) ?_; intro v' w1 hown1 hg1 hb1 hat1)
  rw [Nat.zero_add, List.nil_append] at hown1
  obtain ⟨B, d, rfl, -, -, -⟩ := own_rd hown1
  have HB := zh (((Below.refl w.heap.size w).alloc (Nat.le_refl _) (.cells #[] 34)).trans hb1)
  have HO := zh hown1
  clear hown1 hg1 hb1 hat1
  go_ret
  exact ⟨⟨B, d, rfl, HO.out⟩, HB.out⟩
theorem info_edge : (Tryz.prog.info? 197).map (fun i => (i.zero, i.size, i.bytes)) = some (some (.agg #[.string ⟨#[]⟩, .string ⟨#[]⟩, .string ⟨#[]⟩, .int .i64 0, .string ⟨#[]⟩, .string ⟨#[]⟩, .string ⟨#[]⟩]), 7, 104) := by kernel_rfl
theorem cln_edge (A : Option Addr) (n c : Nat) (xs : List Value) (w : World) (hr : Rd w A xs) (hl : xs.length = n * 7) (hn : n ≤ 100000) (h1 : ∀ u ∈ xs, u.oneCell' = true) :
  Calls Tryz.prog 80 #[.slice A n c] w (Cln 197 7 n xs w) := by
 obtain ⟨i0, hi0, hz0, hz1, hz2⟩ := info_parts info_edge
 have hlit := World.ownsRow_lit (base := w.heap.size) (e := 197) (size := 7) w #[] 0 (Nat.le_refl _) (by simp [maxLen]) rfl
 have heq := Lib.run_eql_slice_nil w 45 197 A n c 0 0 Tryz.underlying45
 have hL := zh hl; have hN := zh hn; have hO := zh h1
 clear hl hn h1
 rcases A with _ | a
 ·have hnil : xs = [] := by
   rcases hr with h | ⟨a, h, _⟩
   ·exact h
   ·cases h
  subst hnil
  have h0 : n = 0 := by have := hL.out; simp at this; omega
  subst h0
  have HR := zh (show Cln 197 7 0 [] w (.returned (.slice none 0 0)) w from ⟨⟨none, 0, rfl, World.ownsRow_nil _ _ _ _⟩, Below.refl _ _⟩)
  go_enter Tryz.func80, Tryz.ntmps80
  go_wp2
  go_ret
  exact HR.out
 ·go_enter Tryz.func80, Tryz.ntmps80
  go_wp2_with (at_builtin; refine wpList_app _ rfl (.tmp 5) (.tmp 6) _ rfl w.heap.size 197 i0 _ 7 104 Tryz.underlying45 hi0 hz0 hz1 hz2 rfl (by omega) _ 0 [] rfl hlit (some a) n c xs rfl hL.out (hr.below ((Below.refl _ _).alloc (Nat.le_refl _) _)) hO.out (by have := hN.out; simp only [maxLen]; omega) (by have := hN.out; omega) (by simp) ?_; intro v' w1 hown1 hg1 hb1 hat1)
  rw [Nat.zero_add, List.nil_append] at hown1
  obtain ⟨B, d, rfl, -, -, -⟩ := own_rd hown1
  have HB := zh (((Below.refl w.heap.size w).alloc (Nat.le_refl _) (.cells #[] 197)).trans hb1)
  have HO := zh hown1
  clear hown1 hg1 hb1 hat1
  go_ret
  exact ⟨⟨B, d, rfl, HO.out⟩, HB.out⟩
theorem info_site : (Tryz.prog.info? 139).map (fun i => (i.zero, i.size, i.bytes)) = some (some (.agg #[.string ⟨#[]⟩, .string ⟨#[]⟩, .string ⟨#[]⟩, .int .i64 0, .string ⟨#[]⟩]), 5, 72) := by kernel_rfl
theorem cln_site (A : Option Addr) (n c : Nat) (xs : List Value) (w : World) (hr : Rd w A xs) (hl : xs.length = n * 5) (hn : n ≤ 100000) (h1 : ∀ u ∈ xs, u.oneCell' = true) :
  Calls Tryz.prog 81 #[.slice A n c] w (Cln 139 5 n xs w) := by
 obtain ⟨i0, hi0, hz0, hz1, hz2⟩ := info_parts info_site
 have hlit := World.ownsRow_lit (base := w.heap.size) (e := 139) (size := 5) w #[] 0 (Nat.le_refl _) (by simp [maxLen]) rfl
 have heq := Lib.run_eql_slice_nil w 46 139 A n c 0 0 Tryz.underlying46
 have hL := zh hl; have hN := zh hn; have hO := zh h1
 clear hl hn h1
 rcases A with _ | a
 ·have hnil : xs = [] := by
   rcases hr with h | ⟨a, h, _⟩
   ·exact h
   ·cases h
  subst hnil
  have h0 : n = 0 := by have := hL.out; simp at this; omega
  subst h0
  have HR := zh (show Cln 139 5 0 [] w (.returned (.slice none 0 0)) w from ⟨⟨none, 0, rfl, World.ownsRow_nil _ _ _ _⟩, Below.refl _ _⟩)
  go_enter Tryz.func81, Tryz.ntmps81
  go_wp2
  go_ret
  exact HR.out
 ·go_enter Tryz.func81, Tryz.ntmps81
  go_wp2_with (at_builtin; refine wpList_app _ rfl (.tmp 5) (.tmp 6) _ rfl w.heap.size 139 i0 _ 5 72 Tryz.underlying46 hi0 hz0 hz1 hz2 rfl (by omega) _ 0 [] rfl hlit (some a) n c xs rfl hL.out (hr.below ((Below.refl _ _).alloc (Nat.le_refl _) _)) hO.out (by have := hN.out; simp only [maxLen]; omega) (by have := hN.out; omega) (by simp) ?_; intro v' w1 hown1 hg1 hb1 hat1)
  rw [Nat.zero_add, List.nil_append] at hown1
  obtain ⟨B, d, rfl, -, -, -⟩ := own_rd hown1
  have HB := zh (((Below.refl w.heap.size w).alloc (Nat.le_refl _) (.cells #[] 139)).trans hb1)
  have HO := zh hown1
  clear hown1 hg1 hb1 hat1
  go_ret
  exact ⟨⟨B, d, rfl, HO.out⟩, HB.out⟩
theorem info_fref : (Tryz.prog.info? 137).map (fun i => (i.zero, i.size, i.bytes)) = some (some (.agg #[.string ⟨#[]⟩, .string ⟨#[]⟩]), 2, 32) := by kernel_rfl
theorem cln_fref (A : Option Addr) (n c : Nat) (xs : List Value) (w : World) (hr : Rd w A xs) (hl : xs.length = n * 2) (hn : n ≤ 100000) (h1 : ∀ u ∈ xs, u.oneCell' = true) :
  Calls Tryz.prog 82 #[.slice A n c] w (Cln 137 2 n xs w) := by
 obtain ⟨i0, hi0, hz0, hz1, hz2⟩ := info_parts info_fref
 have hlit := World.ownsRow_lit (base := w.heap.size) (e := 137) (size := 2) w #[] 0 (Nat.le_refl _) (by simp [maxLen]) rfl
 have heq := Lib.run_eql_slice_nil w 47 137 A n c 0 0 Tryz.underlying47
 have hL := zh hl; have hN := zh hn; have hO := zh h1
 clear hl hn h1
 rcases A with _ | a
 ·have hnil : xs = [] := by
   rcases hr with h | ⟨a, h, _⟩
   ·exact h
   ·cases h
  subst hnil
  have h0 : n = 0 := by have := hL.out; simp at this; omega
  subst h0
  have HR := zh (show Cln 137 2 0 [] w (.returned (.slice none 0 0)) w from ⟨⟨none, 0, rfl, World.ownsRow_nil _ _ _ _⟩, Below.refl _ _⟩)
  go_enter Tryz.func82, Tryz.ntmps82
  go_wp2
  go_ret
  exact HR.out
 ·go_enter Tryz.func82, Tryz.ntmps82
  go_wp2_with (at_builtin; refine wpList_app _ rfl (.tmp 5) (.tmp 6) _ rfl w.heap.size 137 i0 _ 2 32 Tryz.underlying47 hi0 hz0 hz1 hz2 rfl (by omega) _ 0 [] rfl hlit (some a) n c xs rfl hL.out (hr.below ((Below.refl _ _).alloc (Nat.le_refl _) _)) hO.out (by have := hN.out; simp only [maxLen]; omega) (by have := hN.out; omega) (by simp) ?_; intro v' w1 hown1 hg1 hb1 hat1)
  rw [Nat.zero_add, List.nil_append] at hown1
  obtain ⟨B, d, rfl, -, -, -⟩ := own_rd hown1
  have HB := zh (((Below.refl w.heap.size w).alloc (Nat.le_refl _) (.cells #[] 137)).trans hb1)
  have HO := zh hown1
  clear hown1 hg1 hb1 hat1
  go_ret
  exact ⟨⟨B, d, rfl, HO.out⟩, HB.out⟩
end Go.Proofs.YtjejmlpjifhmmaaGreatDoor.stp
namespace Go.Proofs.YtjejmlpjifhmmaaGreatDoor.stp
open Go.RowKit
open words kindp kind prg
set_option maxRecDepth 100000
set_option maxHeartbeats 4000000
set_option linter.all false
def trapV (t c : Int) : Value := .iface 186 (.agg #[.int .i64 t, .int .i64 c])
theorem trapIf_y (t : Int) (ht : ¬ t = 0) (w : World) : Calls Tryz.prog 110 #[.int .i64 t] w fun e w' => e = .panicked [{ v := trapV t 0, recovered := false }] ∧ w' = w := by
 have hp : ∀ (t : TypeId) (v : Value) (w : World), (Instr.panic (.iface t v)).run Tryz.prog w = .halt (.panic (.iface t v)) w := fun _ _ _ => rfl
 unfold trapV
 go_enter Tryz.func110, Tryz.ntmps110
 go_wp2
 exact ⟨rfl, rfl, rfl⟩
theorem must_t (w : World) : Calls Tryz.prog 72 #[.bool true] w fun e w' => e = .returned (.tuple #[]) ∧ w' = w := by
 go_enter Tryz.func72, Tryz.ntmps72
 go_wp2
 refine bodyPost_end (results_none rfl _ _ _) rfl ?_
 exact ⟨rfl, rfl⟩
theorem must_f (w : World) : Calls Tryz.prog 72 #[.bool false] w fun e w' => e = .panicked [{ v := trapV 9 0, recovered := false }] ∧ w' = w := by
 have HT := zh (trapIf_y 9 (by omega) w)
 go_enter Tryz.func72, Tryz.ntmps72
 go_wp2_with fail
 refine HT.out.mono ?_
 rintro e v ⟨rfl, rfl⟩
 exact ⟨rfl, rfl, rfl⟩
theorem number_w (n : Int) (w : World) : Calls Tryz.prog 181 #[.int .i64 n] w fun e w' => e = .returned (.agg #[.int .i64 1, .int .i64 n]) ∧ Below w.heap.size w w' := by
 go_enter Tryz.func181, Tryz.ntmps181
 go_wp2
 exact bodyPost_ret (v := .agg #[.int .i64 1, .int .i64 n]) (by simp [results, Tryz.results181, go_sem]) rfl ⟨rfl, by repeat (first | exact Below.refl _ _ | refine Below.setCell ?_ (by simp; try omega) _ | refine Below.alloc ?_ (by simp; try omega) _)⟩
end Go.Proofs.YtjejmlpjifhmmaaGreatDoor.stp
namespace Go.Proofs.YtjejmlpjifhmmaaGreatDoor.sto
open Go.RowKit Go.Shelf
open words
def rep (x : List Value) (n : Nat) : List Value := (List.replicate n x).flatten
theorem rep_add (x : List Value) (a b : Nat) : rep x (a + b) = rep x a ++ rep x b := by
 unfold rep
 rw [← List.replicate_append_replicate, List.flatten_append]
theorem rep_one (x : List Value) : rep x 1 = x := by unfold rep; simp
def vo : List Value := [.int .i64 1, .int .i64 0]
section
variable {P : Program}
end
end Go.Proofs.YtjejmlpjifhmmaaGreatDoor.sto
namespace Go.Proofs.YtjejmlpjifhmmaaGreatDoor.sto
open Go.RowKit
open words kindp
structure ObM where
 cl : Tx
 mp : Option Nat
 ar : Bool
 A : Option Addr
 n : Nat
 c : Nat
def obC (o : ObM) : List Value := [.string ⟨o.cl.toArray⟩, .map o.mp, .bool o.ar, .slice o.A o.n o.c]
def StoM (sb : Nat) (os : List ObM) (rb : Option Nat) (w : World) : Prop := ∃ v, w.heap[sb]? = some (.cells #[v] 176 (0, 0)) ∧ v.ownBlock = rb ∧ w.ownsRow (sb + 1) 275 4 v os.length (os.flatMap obC)
structure Kept (sb : Nat) (rb : Option Nat) (w w' : World) : Prop where
 os : w'.os = w.os
 tape : w'.tape = w.tape
 output : w'.output = w.output
 size : w.heap.size ≤ w'.heap.size
 block : ∀ k, k < w.heap.size → k ≠ sb → rb ≠ some k → w'.heap[k]? = w.heap[k]?
theorem Kept.below {sb : Nat} {rb : Option Nat} {w w' : World} (h : Below w.heap.size w w') : Kept sb rb w w' := ⟨h.os, h.tape, h.output, h.size, fun k hk _ _ => h.block k hk⟩
theorem Kept.refl (sb : Nat) (rb : Option Nat) (w : World) : Kept sb rb w w := Kept.below (Below.refl _ _)
def Nxt (rb rb' : Option Nat) (n : Nat) : Prop := rb' = rb ∨ ∃ g, rb' = some g ∧ n ≤ g
theorem Kept.trans {sb : Nat} {rb rb' : Option Nat} {w w1 w2 : World} (h : Kept sb rb w w1) (hr : Nxt rb rb' w.heap.size) (k : Kept sb rb' w1 w2) : Kept sb rb w w2 :=
 ⟨k.os.trans h.os, k.tape.trans h.tape, k.output.trans h.output, Nat.le_trans h.size k.size, fun j hj h1 h2 => (k.block j (Nat.lt_of_lt_of_le hj h.size) h1 (by
  rcases hr with rfl | ⟨g, rfl, hg⟩
  ·exact h2
  ·intro e; injection e with e; omega)).trans (h.block j hj h1 h2)⟩
theorem Nxt.trans {rb rb' rb2 : Option Nat} {n m : Nat} (h : Nxt rb rb' n) (k : Nxt rb' rb2 m) (hm : n ≤ m) : Nxt rb rb2 n := by
 rcases k with rfl | ⟨g, rfl, hg⟩
 ·exact h
 ·exact .inr ⟨g, rfl, Nat.le_trans hm hg⟩
theorem Nxt.refl (rb : Option Nat) (n : Nat) : Nxt rb rb n := .inl rfl
theorem Kept.toBelow {sb b : Nat} {rb : Option Nat} {w w' : World} (h : Kept sb rb w w') (hb : b ≤ sb) (hw : b ≤ w.heap.size) (hr : ∀ g, rb = some g → b ≤ g) : Below b w w' :=
 ⟨h.os, h.tape, h.output, h.size, fun k hk => h.block k (by omega) (by omega) (fun e => by have := hr k e; omega)⟩
theorem StoM.lt {sb : Nat} {os : List ObM} {rb : Option Nat} {w : World} (h : StoM sb os rb w) : sb < w.heap.size := by obtain ⟨v, h1, -⟩ := h; exact blk_lt h1
theorem StoM.rb {sb : Nat} {os : List ObM} {rb : Option Nat} {w : World} (h : StoM sb os rb w) {g : Nat} (hg : rb = some g) : sb < g ∧ g < w.heap.size := by
 obtain ⟨v, h1, h2, h3⟩ := h
 have := h3.lt g (h2.trans hg)
 omega
theorem StoM.below {sb : Nat} {os : List ObM} {rb : Option Nat} {w w' : World} (h : StoM sb os rb w) (hb : Below w.heap.size w w') : StoM sb os rb w' := by
 obtain ⟨v, h1, h2, h3⟩ := h
 exact ⟨v, (hb.block _ (blk_lt h1)).trans h1, h2, own_below h3 hb⟩
theorem StoM.drewN {sb : Nat} {os : List ObM} {rb : Option Nat} {w : World} (h : StoM sb os rb w) (n : Nat) : StoM sb os rb (w.drewN n) := h
theorem overW {b : Nat} {a c : World} (h : Below b a c) : Below b a c.drew := ⟨h.os, h.tape, h.output, h.size, h.block⟩
theorem cutH {T G : Prop} (pf : T) (f : T → G) : G := f pf
theorem listedH {P : Program} {md : Region.Mode} {ops : Array Oper} {Q : Exit → Act → World → Prop} {S : World → Prop} {fuel : Nat} {l L : Array Bool} {a : Act} {w : World} (h : l = L) (H : wpAnyH P md ops Q S fuel L a w) : wpAnyH P md ops Q S fuel l a w := h ▸ H
end Go.Proofs.YtjejmlpjifhmmaaGreatDoor.sto
namespace Go.Proofs.YtjejmlpjifhmmaaGreatDoor.sto
open Go.RowKit
open words kindp kind
set_option maxRecDepth 100000
set_option maxHeartbeats 4000000
set_option linter.all false
def zeroK (k : Int) : Int := if k = 2 then 1 else if hasB k || (k == 4) then 2 else 0
theorem zero_w (k : Int) (c : Tx) (w : World) :
  Calls Tryz.prog 66 #[.agg #[.int .i64 k, .string ⟨c.toArray⟩]] w fun e w' => e = .returned (.agg #[.int .i64 (zeroK k), .int .i64 0]) ∧ Below w.heap.size w w' := by
 unfold zeroK
 by_cases h2 : k = 2
 ·subst h2
  rw [if_pos rfl]
  go_enter Tryz.func66, Tryz.ntmps66
  go_wp2
  exact bodyPost_ret (v := .agg #[.int .i64 1, .int .i64 0]) (by simp [results, Tryz.results66, go_sem]) rfl ⟨rfl, by repeat (first | exact Below.refl _ _ | refine Below.setCell ?_ (by simp; try omega) _ | refine Below.alloc ?_ (by simp; try omega) _)⟩
 ·rw [if_neg h2]
  have e2 : (k == 2) = false := by simpa using h2
  have HI := zh (fun v => isref_w k c v)
  generalize (hasB k || (k == 4)) = b at HI ⊢
  clear h2
  go_enter Tryz.func66, Tryz.ntmps66
  go_wp2_with fail
  refine (HI.out _).mono ?_
  rintro e v ⟨rfl, hb⟩
  have hW : ∃ W, W = (w.alloc (.cells #[.int .i64 k, .string ⟨c.toArray⟩] 165)).alloc (.cells #[.int .i64 0, .int .i64 0] 132) := ⟨_, rfl⟩
  obtain ⟨W, hW⟩ := hW
  rw [← hW] at hb
  have h1 : W.heap[w.heap.size + 1]? = some (.cells #[.int .i64 0, .int .i64 0] 132 (0, 0)) := by rw [hW]; simpa using heap_alloc_new (w.alloc (.cells #[.int .i64 k, .string ⟨c.toArray⟩] 165)) (.cells #[.int .i64 0, .int .i64 0] 132)
  have hal : Below w.heap.size w W := by rw [hW]; exact ((Below.refl _ w).alloc (Nat.le_refl _) _).alloc (by simp) _
  have h2 := (hb.block _ (blk_lt h1)).trans h1
  have HB := zh (then' hal hb)
  have d0 : v.cell? ⟨w.heap.size + 1, 0, none⟩ = some (.int .i64 0) := cell_of_row _ _ 0 _ _ _ h2
  have d1 : v.cell? ⟨w.heap.size + 1, 1, none⟩ = some (.int .i64 0) := cell_of_row _ _ 1 _ _ _ h2
  have g0 := frozen_of_row _ _ 0 _ _ h2; have g1 := frozen_of_row _ _ 1 _ _ h2
  clear hb h1 h2 hal hW HI
  cases b with
  | true =>
   go_wp2
   exact bodyPost_ret (v := .agg #[.int .i64 2, .int .i64 0]) (by simp [results, Tryz.results66, go_sem, d0, d1]) rfl ⟨rfl, by repeat (first | exact HB.out | refine Below.setCell ?_ (by simp; try omega) _)⟩
  | false =>
   go_wp2
   exact bodyPost_ret (v := .agg #[.int .i64 0, .int .i64 0]) (by simp [results, Tryz.results66, go_sem, d0, d1]) rfl ⟨rfl, by repeat (first | exact HB.out | refine Below.setCell ?_ (by simp; try omega) _)⟩
theorem sto_new (w : World) : StoM w.heap.size [] none (w.alloc (.cells #[.slice none 0 0] 176)) := ⟨_, heap_alloc_new _ _, rfl, World.ownsRow_nil _ _ _ _⟩
theorem new_w (w : World) : Calls Tryz.prog 31 #[] w fun e w' => e = .returned (.pointer (some ⟨w.heap.size, 0, none⟩)) ∧ StoM w.heap.size [] none w' ∧ Below w.heap.size w w' := by
 have HS := zh (sto_new w)
 have HB := zh ((Below.refl _ w).alloc (Nat.le_refl _) (.cells #[.slice none 0 0] 176))
 go_enter Tryz.func31, Tryz.ntmps31
 go_wp2
 go_ret
 exact ⟨rfl, HS.out, HB.out⟩
end Go.Proofs.YtjejmlpjifhmmaaGreatDoor.sto
namespace Go.Proofs.YtjejmlpjifhmmaaGreatDoor.sto
open Go.RowKit
open words kindp kind
def arO (g n : Nat) : ObM := ⟨[91, 73], none, true, some ⟨g, 0, none⟩, n, n⟩
end Go.Proofs.YtjejmlpjifhmmaaGreatDoor.sto
namespace Go.Proofs.YtjejmlpjifhmmaaGreatDoor.sto
open Go.RowKit
open words kindp kind prg
end Go.Proofs.YtjejmlpjifhmmaaGreatDoor.sto
namespace Go.Proofs.YtjejmlpjifhmmaaGreatDoor.sto
open Go.RowKit Go.MapKept Go.ChangeMaps
open words kindp kind prg
set_option maxRecDepth 100000
def kA : Value := .agg #[.string ⟨#[65]⟩, .string ⟨#[102]⟩]
def vA (x : Int) : Value := .agg #[.int .i64 1, .int .i64 x]
def mp0 : Obj := .map #[] 0
def mp1 (x : Int) : Obj := .map #[{ key := kA, val := vA x, born := 0 }] 1
theorem stays (w : World) : (Instr.keyThatStays kA kA).run Tryz.prog w = .ok kA w := by kernel_rfl
variable {w : World} {b : Nat}
end Go.Proofs.YtjejmlpjifhmmaaGreatDoor.sto
namespace Go.Proofs.YtjejmlpjifhmmaaGreatDoor.prg
open Go.RowKit
open words kindp opp op kind word
set_option maxRecDepth 100000
set_option maxHeartbeats 4000000
set_option linter.all false
theorem at_cl (x : ClM) (g : Nat) (s : Tx) (w : World) (hg : w.cell? ⟨g, 0, none⟩ = some (.string ⟨s.toArray⟩)) : Calls Tryz.prog 198 #[.agg (clC x).toArray, .pointer (some ⟨g, 0, none⟩)] w fun e w' => e = .returned (.bool (x.nm == s)) ∧ Below w.heap.size w w' := by
 obtain ⟨W, hW⟩ : ∃ W, W = w.alloc (.cells (clC x).toArray 159) := ⟨_, rfl⟩
 have hal : Below w.heap.size w W := by rw [hW]; exact (Below.refl _ w).alloc (Nat.le_refl _) _
 have HAL := zh hal
 have hblk : W.heap[w.heap.size]? = some (.cells (clC x).toArray 159 (0, 0)) := by rw [hW]; exact heap_alloc_new w _
 have HBK := zh hblk; have HLT := zh (blk_lt hblk)
 obtain ⟨x0_0, x0_1, x0_2, x0_3, x0_4, x0_5, x0_6⟩ := cl_cells hblk
 have K0 := zh (Below.refl W.heap.size W)
 have kg := (hal.cell (World.block_lt_of_cell? _ _ hg)).trans hg
 unfold clC at hW ⊢
 try dsimp only at hW ⊢
 have ke := kg
 rw [hW] at ke
 have HW := zh hW
 clear hal hblk hW
 cases h0 : (x.nm == s) with
 | false =>
  (try simp only [h0] at HW)
  go_enter Tryz.func198, Tryz.ntmps198
  go_wp2_with fail
  rw [← HW.out]
  (try go_wp2_with fail)
  go_ret
  exact ⟨by first | rfl | (simp only [h0, bls]; done) | (simp only [h0, bls]; rfl), HAL.out.trans (K0.out.mono HAL.out.size)⟩
 | true =>
  (try simp only [h0] at HW)
  go_enter Tryz.func198, Tryz.ntmps198
  go_wp2_with fail
  rw [← HW.out]
  (try go_wp2_with fail)
  go_ret
  exact ⟨by first | rfl | (simp only [h0, bls]; done) | (simp only [h0, bls]; rfl), HAL.out.trans (K0.out.mono HAL.out.size)⟩
theorem find_cl (g : Nat) (s : Tx) (A : Option Addr) (c : Nat) (l : List ClM) (w : World) (hr : Rd w A (l.flatMap clC)) (hl : l.length ≤ 281474976710656) (hg : w.cell? ⟨g, 0, none⟩ = some (.string ⟨s.toArray⟩)) :
  Calls Tryz.prog 197 #[.slice A l.length c, .func (.func 198) #[] #[.pointer (some ⟨g, 0, none⟩)]] w fun e w' => ∃ r, e = .returned (.int .i64 r) ∧ Idx (fun x : ClM => (x.nm == s)) l r ∧ Below w.heap.size w w' := by
 obtain ⟨n, hn⟩ : ∃ n, n = l.length := ⟨_, rfl⟩
 rw [← hn] at hl ⊢
 have hnI : (n : Int) ≤ 281474976710656 := by omega
 have HN := zh hn; have HRD := zh hr
 have HGG := zh hg
 clear hr hn hl
 go_enter Tryz.func197, Tryz.ntmps197
 go_wp2
 go_loopw [8] (fun i wr => ∃ k : Nat, i = .int .i64 (k : Int) ∧ k ≤ n ∧ (∀ t ∈ l.take k, (fun x : ClM => (x.nm == s)) t = false) ∧ Below w.heap.size w wr) (fun i _ => n - (intOf i).toNat)
 case atStart => exact ⟨0, rfl, Nat.zero_le _, by simp, Below.refl _ _⟩
 case round =>
  obtain ⟨k, rfl, hk, hall, hbw⟩ := hrel
  have HA := zh hall; have HB := zh hbw
  clear hall
  by_cases hlt : k < n
  ·have hltI : (k : Int) < (n : Int) := by omega
   obtain ⟨x, hx⟩ : ∃ x, l[k]? = some x := ⟨l[k]'(by rw [← HN.out]; exact hlt), List.getElem?_eq_getElem _⟩
   obtain ⟨a, rfl, ha, c0, c1, c2, c3, c4, c5, c6⟩ := cl_at (HRD.out.below hbw) hx
   have hgw := (hbw.cell (World.block_lt_of_cell? _ _ HGG.out)).trans HGG.out
   have HW := zh (at_cl x g s wr hgw)
   have HX := zh hx
   have hmt := take_more (P := (fun x : ClM => (x.nm == s))) HA.out hx
   dsimp only [clC] at HW
   cases hwr : (x.nm == s) with
   | true =>
    rw [hwr] at HW
    have HI := zh (show Idx (fun x : ClM => (x.nm == s)) l (k : Int) from .inr ⟨k, _, rfl, hx, hwr, HA.out⟩)
    clear hx hmt hwr hbw ha hgw
    go_wp2_with fail
    refine HW.out.mono ?_
    rintro e w1 ⟨rfl, hb1⟩
    have HB1 := zh (HB.out.trans (hb1.mono HB.out.size))
    clear hb1
    go_wp2
    go_ret
    exact ⟨_, rfl, HI.out, HB1.out⟩
   | false =>
    rw [hwr] at HW
    have HM := zh (hmt hwr)
    clear hx hmt hwr hbw ha hgw
    go_wp2_with fail
    refine HW.out.mono ?_
    rintro e w1 ⟨rfl, hb1⟩
    have HB1 := zh (HB.out.trans (hb1.mono HB.out.size))
    clear hb1
    go_wp2
    go_roundw
    case rel => exact ⟨k + 1, by go_num, by omega, HM.out, HB1.out⟩
    case measure => simp [intOf]; omega
  ·have hltI : ¬ (k : Int) < (n : Int) := by omega
   have hall := HA.out
   rw [List.take_of_length_le (by rw [← HN.out]; omega)] at hall
   have HI := zh (show Idx (fun x : ClM => (x.nm == s)) l (-1) from .inl ⟨rfl, hall⟩)
   clear hall hbw
   go_wp2
   go_ret
   exact ⟨_, rfl, HI.out, HB.out⟩
theorem at_me (x : MeM) (g h : Nat) (s d : Tx) (w : World) (hg : w.cell? ⟨g, 0, none⟩ = some (.string ⟨s.toArray⟩)) (hh : w.cell? ⟨h, 0, none⟩ = some (.string ⟨d.toArray⟩)) : Calls Tryz.prog 213 #[.agg (meC x).toArray, .pointer (some ⟨g, 0, none⟩), .pointer (some ⟨h, 0, none⟩)] w fun e w' => e = .returned (.bool ((x.nm == s) && (x.ds == d))) ∧ Below w.heap.size w w' := by
 obtain ⟨W, hW⟩ : ∃ W, W = w.alloc (.cells (meC x).toArray 155) := ⟨_, rfl⟩
 have hal : Below w.heap.size w W := by rw [hW]; exact (Below.refl _ w).alloc (Nat.le_refl _) _
 have HAL := zh hal
 have hblk : W.heap[w.heap.size]? = some (.cells (meC x).toArray 155 (0, 0)) := by rw [hW]; exact heap_alloc_new w _
 have HBK := zh hblk; have HLT := zh (blk_lt hblk)
 obtain ⟨x0_0, x0_1, x0_2, x0_3, x0_4, x0_5⟩ := me_cells hblk
 have K0 := zh (Below.refl W.heap.size W)
 have kg := (hal.cell (World.block_lt_of_cell? _ _ hg)).trans hg
 have kh := (hal.cell (World.block_lt_of_cell? _ _ hh)).trans hh
 unfold meC at hW ⊢
 try dsimp only at hW ⊢
 have ke := kg
 rw [hW] at ke
 have kf := kh
 rw [hW] at kf
 have HW := zh hW
 clear hal hblk hW
 cases h0 : (x.nm == s) with
 | false =>
  (try simp only [h0] at HW)
  go_enter Tryz.func213, Tryz.ntmps213
  go_wp2_with fail
  rw [← HW.out]
  (try go_wp2_with fail)
  go_ret
  exact ⟨by first | rfl | (simp only [h0, bls]; done) | (simp only [h0, bls]; rfl), HAL.out.trans (K0.out.mono HAL.out.size)⟩
 | true =>
  cases h1 : (x.ds == d) with
  | false =>
   (try simp only [h0, h1] at HW)
   go_enter Tryz.func213, Tryz.ntmps213
   go_wp2_with fail
   rw [← HW.out]
   (try go_wp2_with fail)
   go_ret
   exact ⟨by first | rfl | (simp only [h0, h1, bls]; done) | (simp only [h0, h1, bls]; rfl), HAL.out.trans (K0.out.mono HAL.out.size)⟩
  | true =>
   (try simp only [h0, h1] at HW)
   go_enter Tryz.func213, Tryz.ntmps213
   go_wp2_with fail
   rw [← HW.out]
   (try go_wp2_with fail)
   go_ret
   exact ⟨by first | rfl | (simp only [h0, h1, bls]; done) | (simp only [h0, h1, bls]; rfl), HAL.out.trans (K0.out.mono HAL.out.size)⟩
theorem find_me (g h : Nat) (s d : Tx) (A : Option Addr) (c : Nat) (l : List MeM) (w : World) (hr : Rd w A (l.flatMap meC)) (hl : l.length ≤ 281474976710656) (hg : w.cell? ⟨g, 0, none⟩ = some (.string ⟨s.toArray⟩)) (hh : w.cell? ⟨h, 0, none⟩ = some (.string ⟨d.toArray⟩)) :
  Calls Tryz.prog 212 #[.slice A l.length c, .func (.func 213) #[] #[.pointer (some ⟨g, 0, none⟩), .pointer (some ⟨h, 0, none⟩)]] w fun e w' => ∃ r, e = .returned (.int .i64 r) ∧ Idx (fun x : MeM => ((x.nm == s) && (x.ds == d))) l r ∧ Below w.heap.size w w' := by
 obtain ⟨n, hn⟩ : ∃ n, n = l.length := ⟨_, rfl⟩
 rw [← hn] at hl ⊢
 have hnI : (n : Int) ≤ 281474976710656 := by omega
 have HN := zh hn; have HRD := zh hr
 have HGG := zh hg; have HHH := zh hh
 clear hr hn hl
 go_enter Tryz.func212, Tryz.ntmps212
 go_wp2
 go_loopw [8] (fun i wr => ∃ k : Nat, i = .int .i64 (k : Int) ∧ k ≤ n ∧ (∀ t ∈ l.take k, (fun x : MeM => ((x.nm == s) && (x.ds == d))) t = false) ∧ Below w.heap.size w wr) (fun i _ => n - (intOf i).toNat)
 case atStart => exact ⟨0, rfl, Nat.zero_le _, by simp, Below.refl _ _⟩
 case round =>
  obtain ⟨k, rfl, hk, hall, hbw⟩ := hrel
  have HA := zh hall; have HB := zh hbw
  clear hall
  by_cases hlt : k < n
  ·have hltI : (k : Int) < (n : Int) := by omega
   obtain ⟨x, hx⟩ : ∃ x, l[k]? = some x := ⟨l[k]'(by rw [← HN.out]; exact hlt), List.getElem?_eq_getElem _⟩
   obtain ⟨a, rfl, ha, c0, c1, c2, c3, c4, c5⟩ := me_at (HRD.out.below hbw) hx
   have hgw := (hbw.cell (World.block_lt_of_cell? _ _ HGG.out)).trans HGG.out
   have hhw := (hbw.cell (World.block_lt_of_cell? _ _ HHH.out)).trans HHH.out
   have HW := zh (at_me x g h s d wr hgw hhw)
   have HX := zh hx
   have hmt := take_more (P := (fun x : MeM => ((x.nm == s) && (x.ds == d)))) HA.out hx
   dsimp only [meC] at HW
   cases hwr : ((x.nm == s) && (x.ds == d)) with
   | true =>
    rw [hwr] at HW
    have HI := zh (show Idx (fun x : MeM => ((x.nm == s) && (x.ds == d))) l (k : Int) from .inr ⟨k, _, rfl, hx, hwr, HA.out⟩)
    clear hx hmt hwr hbw ha hgw
    go_wp2_with fail
    refine HW.out.mono ?_
    rintro e w1 ⟨rfl, hb1⟩
    have HB1 := zh (HB.out.trans (hb1.mono HB.out.size))
    clear hb1
    go_wp2
    go_ret
    exact ⟨_, rfl, HI.out, HB1.out⟩
   | false =>
    rw [hwr] at HW
    have HM := zh (hmt hwr)
    clear hx hmt hwr hbw ha hgw
    go_wp2_with fail
    refine HW.out.mono ?_
    rintro e w1 ⟨rfl, hb1⟩
    have HB1 := zh (HB.out.trans (hb1.mono HB.out.size))
    clear hb1
    go_wp2
    go_roundw
    case rel => exact ⟨k + 1, by go_num, by omega, HM.out, HB1.out⟩
    case measure => simp [intOf]; omega
  ·have hltI : ¬ (k : Int) < (n : Int) := by omega
   have hall := HA.out
   rw [List.take_of_length_le (by rw [← HN.out]; omega)] at hall
   have HI := zh (show Idx (fun x : MeM => ((x.nm == s) && (x.ds == d))) l (-1) from .inl ⟨rfl, hall⟩)
   clear hall hbw
   go_wp2
   go_ret
   exact ⟨_, rfl, HI.out, HB.out⟩
theorem place_cl (x : PrM) (s : Tx) (w : World) (hr : Rd w x.A1 (x.cs.flatMap clC)) (hl : x.cs.length ≤ 281474976710656) : Calls Tryz.prog 149 #[.agg (prC x).toArray, .string ⟨s.toArray⟩] w fun e w' => ∃ r, e = .returned (.int .i64 r) ∧ Idx (fun y : ClM => (y.nm == s)) x.cs r ∧ Below w.heap.size w w' := by
 have hmf : ∀ (fn : Fn) (first cap : Array Value) (w : World), (Instr.makeFunc fn first cap).run Tryz.prog w = .ok (.func fn first cap) w := fun _ _ _ _ => rfl
 obtain ⟨W, hW⟩ : ∃ W, W = ((w.alloc (.cells (prC x).toArray 36)).alloc (.cells #[.string ⟨s.toArray⟩] 9)) := ⟨_, rfl⟩
 have hal : Below w.heap.size w W := by rw [hW]; exact (((Below.refl _ w).alloc (Nat.le_refl _) (.cells (prC x).toArray 36)).alloc (by simp; try omega) (.cells #[.string ⟨s.toArray⟩] 9))
 have HAL := zh hal
 have hblk : W.heap[w.heap.size]? = some (.cells (prC x).toArray 36 (0, 0)) := by rw [hW]; exact (Below.heap_alloc _ _ _ (by simp; try omega)).trans (heap_alloc_new w _)
 have hg : W.cell? ⟨w.heap.size + 1, 0, none⟩ = some (.string ⟨s.toArray⟩) := by
  have h := heap_alloc_new (w.alloc (.cells (prC x).toArray 36)) (.cells #[.string ⟨s.toArray⟩] 9)
  rw [World.size_alloc] at h
  have h2 : W.heap[w.heap.size + 1]? = some (.cells #[.string ⟨s.toArray⟩] 9 (0, 0)) := by rw [hW]; exact h
  exact cell_of_row _ _ 0 _ _ _ h2
 obtain ⟨x0_0, x0_1, x0_2, x0_3, x0_4⟩ := pr_cells hblk
 have HF := zh (find_cl (w.heap.size + 1) s x.A1 x.c1 x.cs W (hr.below hal) hl hg)
 unfold prC at hW ⊢
 try dsimp only at hW ⊢
 have HW := zh hW
 clear hal hblk hW hr hl hg
 go_enter Tryz.func149, Tryz.ntmps149
 go_wp2_with fail
 try simp only [World.size_alloc, Nat.add_assoc, Nat.reduceAdd]
 rw [← HW.out]
 (try go_wp2_with fail)
 refine HF.out.mono ?_
 rintro e v ⟨r, rfl, hi, hb⟩
 have HI := zh hi; have HB := zh hb
 clear hi hb
 (try go_wp2_with fail)
 go_ret
 exact ⟨r, rfl, HI.out, HAL.out.trans (HB.out.mono HAL.out.size)⟩
theorem place_me (x : ClM) (s d : Tx) (w : World) (hr : Rd w x.A3 (x.ms.flatMap meC)) (hl : x.ms.length ≤ 281474976710656) : Calls Tryz.prog 158 #[.agg (clC x).toArray, .string ⟨s.toArray⟩, .string ⟨d.toArray⟩] w fun e w' => ∃ r, e = .returned (.int .i64 r) ∧ Idx (fun y : MeM => ((y.nm == s) && (y.ds == d))) x.ms r ∧ Below w.heap.size w w' := by
 have hmf : ∀ (fn : Fn) (first cap : Array Value) (w : World), (Instr.makeFunc fn first cap).run Tryz.prog w = .ok (.func fn first cap) w := fun _ _ _ _ => rfl
 obtain ⟨W, hW⟩ : ∃ W, W = (((w.alloc (.cells (clC x).toArray 159)).alloc (.cells #[.string ⟨s.toArray⟩] 9)).alloc (.cells #[.string ⟨d.toArray⟩] 9)) := ⟨_, rfl⟩
 have hal : Below w.heap.size w W := by rw [hW]; exact ((((Below.refl _ w).alloc (Nat.le_refl _) (.cells (clC x).toArray 159)).alloc (by simp; try omega) (.cells #[.string ⟨s.toArray⟩] 9)).alloc (by simp; try omega) (.cells #[.string ⟨d.toArray⟩] 9))
 have HAL := zh hal
 have hblk : W.heap[w.heap.size]? = some (.cells (clC x).toArray 159 (0, 0)) := by rw [hW]; exact (Below.heap_alloc _ _ _ (by simp; try omega)).trans ((Below.heap_alloc _ _ _ (by simp; try omega)).trans (heap_alloc_new w _))
 have hg : W.cell? ⟨w.heap.size + 1, 0, none⟩ = some (.string ⟨s.toArray⟩) := by
  have h := heap_alloc_new (w.alloc (.cells (clC x).toArray 159)) (.cells #[.string ⟨s.toArray⟩] 9)
  rw [World.size_alloc] at h
  have h2 : W.heap[w.heap.size + 1]? = some (.cells #[.string ⟨s.toArray⟩] 9 (0, 0)) := by rw [hW]; exact (Below.heap_alloc _ _ _ (by simp)).trans h
  exact cell_of_row _ _ 0 _ _ _ h2
 have hh : W.cell? ⟨w.heap.size + 2, 0, none⟩ = some (.string ⟨d.toArray⟩) := by
  have h := heap_alloc_new ((w.alloc (.cells (clC x).toArray 159)).alloc (.cells #[.string ⟨s.toArray⟩] 9)) (.cells #[.string ⟨d.toArray⟩] 9)
  rw [World.size_alloc, World.size_alloc] at h
  have h2 : W.heap[w.heap.size + 2]? = some (.cells #[.string ⟨d.toArray⟩] 9 (0, 0)) := by rw [hW]; exact h
  exact cell_of_row _ _ 0 _ _ _ h2
 obtain ⟨x0_0, x0_1, x0_2, x0_3, x0_4, x0_5, x0_6⟩ := cl_cells hblk
 have HF := zh (find_me (w.heap.size + 1) (w.heap.size + 2) s d x.A3 x.c3 x.ms W (hr.below hal) hl hg hh)
 unfold clC at hW ⊢
 try dsimp only at hW ⊢
 have HW := zh hW
 clear hal hblk hW hr hl hg hh
 go_enter Tryz.func158, Tryz.ntmps158
 go_wp2_with fail
 try simp only [World.size_alloc, Nat.add_assoc, Nat.reduceAdd]
 rw [← HW.out]
 (try go_wp2_with fail)
 refine HF.out.mono ?_
 rintro e v ⟨r, rfl, hi, hb⟩
 have HI := zh hi; have HB := zh hb
 clear hi hb
 (try go_wp2_with fail)
 go_ret
 exact ⟨r, rfl, HI.out, HAL.out.trans (HB.out.mono HAL.out.size)⟩
end Go.Proofs.YtjejmlpjifhmmaaGreatDoor.prg
namespace Go.Proofs.YtjejmlpjifhmmaaGreatDoor.prg
open Go.RowKit
open words kindp opp op kind word
set_option maxRecDepth 100000
set_option maxHeartbeats 8000000
set_option linter.all false
def findC (cs : List ClM) (s : Tx) : Option ClM := cs.find? fun y => y.nm == s
theorem idx_at {α : Type} {P : α → Bool} : ∀ {l : List α} {k : Nat} {x : α}, l[k]? = some x → P x = true → (∀ t ∈ l.take k, P t = false) → l.findIdx? P = some k ∧ l.find? P = some x
 | [], _, _, h, _, _ => by simp at h
 | y :: l, 0, x, h, hp, _ => by
  simp at h; subst h
  exact ⟨by simp [List.findIdx?_cons, hp], by simp [hp]⟩
 | y :: l, k + 1, x, h, hp, ha => by
  have hy : P y = false := ha y (by simp)
  obtain ⟨h1, h2⟩ := idx_at (l := l) (k := k) (x := x) (by simpa using h) hp (fun t ht => ha t (by simp [ht]))
  exact ⟨by simp [List.findIdx?_cons, hy, h1], by simp [hy, h2]⟩
theorem idx_no {α : Type} {P : α → Bool} {l : List α} (h : ∀ t ∈ l, P t = false) : l.findIdx? P = none ∧ l.find? P = none := by
 induction l with
 | nil => exact ⟨rfl, rfl⟩
 | cons y l ih =>
  have hy : P y = false := h y (by simp)
  obtain ⟨h1, h2⟩ := ih fun t ht => h t (by simp [ht])
  exact ⟨by simp [List.findIdx?_cons, hy, h1], by simp [hy, h2]⟩
theorem idx_two {α : Type} {P : α → Bool} {l : List α} {r : Int} (h : Idx P l r) : (r = -1 ∧ l.findIdx? P = none ∧ l.find? P = none) ∨ ∃ k x, r = ((k : Nat) : Int) ∧ l[k]? = some x ∧ P x = true ∧ l.findIdx? P = some k ∧ l.find? P = some x := by
 rcases h with ⟨rfl, h⟩ | ⟨k, x, rfl, hx, hp, ha⟩
 ·exact .inl ⟨rfl, idx_no h⟩
 ·exact .inr ⟨k, x, rfl, hx, hp, idx_at hx hp ha⟩
def supS (cs : List ClM) : Nat → Tx → List Tx → List Tx
 | 0, _, l => l
 | f + 1, s, l => match findC cs s with
  | none => l
  | some c => if l.contains s then l else supS cs f c.su (l ++ [s])
def supersL (cs : List ClM) (s : Tx) : List Tx := supS cs (cs.length + 1) s []
theorem len_sub {α : Type} [BEq α] [LawfulBEq α] : ∀ {l m : List α}, l.Nodup → (∀ x ∈ l, x ∈ m) → l.length ≤ m.length
 | [], _, _, _ => Nat.zero_le _
 | x :: l, m, hn, hs => by
  rw [List.nodup_cons] at hn
  have hx : x ∈ m := hs x (by simp)
  have h1 := len_sub (l := l) (m := m.erase x) hn.2 fun y hy => (List.mem_erase_of_ne (fun e => hn.1 (by rw [← e]; exact hy))).2 (hs y (by simp [hy]))
  rw [List.length_erase_of_mem hx] at h1
  have := List.length_pos_of_mem hx
  simp only [List.length_cons]; omega
theorem findC_nm {cs : List ClM} {s : Tx} {c : ClM} (h : findC cs s = some c) : c.nm = s ∧ c ∈ cs := by
 have h1 := List.find?_some h
 exact ⟨by simpa using h1, List.mem_of_find?_eq_some h⟩
def SupI (cs : List ClM) (L : List Tx) (s : Tx) (out : List Tx) (f : Nat) : Prop := supS cs f s out = L ∧ out.length + f = cs.length + 1 ∧ out.Nodup ∧ ∀ o ∈ out, (findC cs o).isSome = true
theorem SupI.start (cs : List ClM) (s : Tx) : SupI cs (supersL cs s) s [] (cs.length + 1) := ⟨rfl, by simp, List.nodup_nil, by simp⟩
theorem SupI.len {cs : List ClM} {L : List Tx} {s : Tx} {out : List Tx} {f : Nat} (h : SupI cs L s out f) : out.length ≤ cs.length := by
 have := len_sub (m := cs.map (·.nm)) h.2.2.1 fun o ho => by
  obtain ⟨c, hc⟩ := Option.isSome_iff_exists.1 (h.2.2.2 o ho)
  obtain ⟨e, hm⟩ := findC_nm hc
  exact List.mem_map.2 ⟨c, hm, e⟩
 simpa using this
theorem SupI.pos {cs : List ClM} {L : List Tx} {s : Tx} {out : List Tx} {f : Nat} (h : SupI cs L s out f) : ∃ g, f = g + 1 := by
 have := h.len; have := h.2.1
 exact ⟨f - 1, by omega⟩
theorem SupI.none {cs : List ClM} {L : List Tx} {s : Tx} {out : List Tx} {f : Nat} (h : SupI cs L s out f) (hn : findC cs s = none) : out = L := by
 obtain ⟨g, rfl⟩ := h.pos
 have := h.1; unfold supS at this; rw [hn] at this; exact this
theorem SupI.had {cs : List ClM} {L : List Tx} {s : Tx} {out : List Tx} {f : Nat} (h : SupI cs L s out f) (hn : out.contains s = true) : out = L := by
 obtain ⟨g, rfl⟩ := h.pos
 have := h.1; unfold supS at this; rw [hn] at this
 cases hf : findC cs s with
 | none => rw [hf] at this; exact this
 | some c => rw [hf] at this; simpa using this
theorem SupI.next {cs : List ClM} {L : List Tx} {s : Tx} {out : List Tx} {f : Nat} {c : ClM} (h : SupI cs L s out f) (hc : findC cs s = some c) (hn : out.contains s = false) : SupI cs L c.su (out ++ [s]) (f - 1) := by
 obtain ⟨g, rfl⟩ := h.pos
 have h1 := h.1; unfold supS at h1; rw [hc, hn] at h1
 have hm : s ∉ out := fun hm => by rw [List.contains_iff_mem.2 hm] at hn; cases hn
 refine ⟨by simpa using h1, by have := h.2.1; simp; omega, ?_, fun o ho => ?_⟩
 ·rw [List.nodup_append]; exact ⟨h.2.2.1, by simp, fun a ha b hb e => by simp at hb; subst hb; subst e; exact hm ha⟩
 ·rcases List.mem_append.1 ho with h2 | h2
  ·exact h.2.2.2 o h2
  ·simp at h2; subst h2; rw [hc]; rfl
theorem index_s (A : Option Addr) (c : Nat) (l : List Tx) (s : Tx) (w : World) (hr : Rd w A (SX l)) (hl : l.length ≤ 281474976710656) :
  Calls Tryz.prog 94 #[.slice A l.length c, .string ⟨s.toArray⟩] w fun e w' => ∃ r, e = .returned (.int .i64 r) ∧ Idx (fun y : Tx => s == y) l r ∧ Below w.heap.size w w' := by
 obtain ⟨n, hn⟩ : ∃ n, n = l.length := ⟨_, rfl⟩
 rw [← hn] at hl ⊢
 have hnI : (n : Int) ≤ 281474976710656 := by omega
 have HN := zh hn; have HRD := zh hr
 clear hr hn hl
 go_enter Tryz.func94, Tryz.ntmps94
 go_wp2
 go_loopw [8] (fun i wr => ∃ k : Nat, i = .int .i64 (k : Int) ∧ k ≤ n ∧ (∀ t ∈ l.take k, (fun y : Tx => s == y) t = false) ∧ Below w.heap.size w wr) (fun i _ => n - (intOf i).toNat)
 case atStart => exact ⟨0, rfl, Nat.zero_le _, by simp, Below.refl _ _⟩
 case round =>
  obtain ⟨k, rfl, hk, hall, hbw⟩ := hrel
  have HA := zh hall; have HB := zh hbw
  clear hall
  by_cases hlt : k < n
  ·have hltI : (k : Int) < (n : Int) := by omega
   obtain ⟨y, hy⟩ : ∃ y, l[k]? = some y := ⟨l[k]'(by rw [← HN.out]; exact hlt), List.getElem?_eq_getElem _⟩
   obtain ⟨a, rfl, _, hcell⟩ := (HRD.out.below hbw).at_ (sx_get hy)
   have hmt := take_more (P := (fun y : Tx => s == y)) HA.out hy
   cases hsy : (s == y) with
   | true =>
    have HI := zh (show Idx (fun y : Tx => s == y) l (k : Int) from .inr ⟨k, _, rfl, hy, hsy, HA.out⟩)
    clear hy hmt hbw
    go_wp2
    go_ret
    exact ⟨_, rfl, HI.out, HB.out⟩
   | false =>
    have HM := zh (hmt hsy)
    clear hy hmt hbw
    go_wp2
    go_roundw
    case rel => exact ⟨k + 1, by go_num, by omega, HM.out, HB.out⟩
    case measure => simp [intOf]; omega
  ·have hltI : ¬ (k : Int) < (n : Int) := by omega
   have hall := HA.out
   rw [List.take_of_length_le (by rw [← HN.out]; omega)] at hall
   have HI := zh (show Idx (fun y : Tx => s == y) l (-1) from .inl ⟨rfl, hall⟩)
   clear hall hbw
   go_wp2
   go_ret
   exact ⟨_, rfl, HI.out, HB.out⟩
theorem has_two {l : List Tx} {s : Tx} {r : Int} (h : Idx (fun y : Tx => s == y) l r) : (r = -1 ∧ l.contains s = false) ∨ ∃ k : Nat, r = (k : Int) ∧ l.contains s = true := by
 rcases h with ⟨rfl, h⟩ | ⟨k, x, rfl, hx, hp, -⟩
 ·refine .inl ⟨rfl, ?_⟩
  cases hc : l.contains s with
  | false => rfl
  | true => have := h s (List.contains_iff_mem.1 hc); simp at this
 ·refine .inr ⟨k, rfl, List.contains_iff_mem.2 ?_⟩
  have e : s = x := by simpa using hp
  rw [e]; exact List.mem_of_getElem? hx
theorem has_s (A : Option Addr) (c : Nat) (l : List Tx) (s : Tx) (w : World) (hr : Rd w A (SX l)) (hl : l.length ≤ 281474976710656) :
  Calls Tryz.prog 54 #[.slice A l.length c, .string ⟨s.toArray⟩] w fun e w' => e = .returned (.bool (l.contains s)) ∧ Below w.heap.size w w' := by
 have HIX := zh (index_s A c l s w hr hl)
 clear hr hl
 go_enter Tryz.func54, Tryz.ntmps54
 go_wp2_with fail
 refine HIX.out.mono ?_
 rintro e w' ⟨r, rfl, hi, hb⟩
 have HB := zh hb
 clear hb
 rcases has_two hi with ⟨rfl, h⟩ | ⟨k, rfl, h⟩
 ·clear hi
  go_wp2
  go_ret
  exact ⟨by rw [h]; first | rfl | simp, HB.out⟩
 ·have hk : (0 : Int) ≤ (k : Int) := by omega
  clear hi
  go_wp2
  go_ret
  exact ⟨by rw [h]; first | rfl | simp, HB.out⟩
def lenV : Value → Nat
 | .slice _ n _ => n
 | _ => 0
theorem infoSt : (Tryz.prog.info? 9).map (fun i => (i.zero, i.size, i.bytes)) = some (some (.string ⟨#[]⟩), 1, 16) := by kernel_rfl
def SupP (cs : List ClM) (s : Tx) (w : World) (e : Ending) (w' : World) : Prop := (∃ A c, e = .returned (.slice A (supersL cs s).length c) ∧ (supersL cs s).length ≤ c ∧ Rd w' A (SX (supersL cs s))) ∧ Below w.heap.size w w'
theorem supers_w (x : PrM) (s0 : Tx) (w : World) (hk : PrOk w x) (hg : GrP x) : Calls Tryz.prog 116 #[.agg (prC x).toArray, .string ⟨s0.toArray⟩] w (SupP x.cs s0 w) := by
 obtain ⟨i0, hi0, hz0, hz1, hz2⟩ := info_parts infoSt
 obtain ⟨cs, A1, c1, ns, A2, c2, ec, en, ed⟩ := x
 obtain ⟨L, hL⟩ : ∃ L, L = supersL cs s0 := ⟨_, rfl⟩
 have HS0 := zh (show SupI cs L s0 [] (cs.length + 1) from by rw [hL]; exact SupI.start _ _)
 unfold SupP
 dsimp only
 rw [← hL]
 clear hL
 obtain ⟨W, hW⟩ : ∃ W, W = w.alloc (.cells (prC ⟨cs, A1, c1, ns, A2, c2, ec, en, ed⟩).toArray 36) := ⟨_, rfl⟩
 have hal : Below w.heap.size w W := by rw [hW]; exact (Below.refl _ w).alloc (Nat.le_refl _) _
 have hblk : W.heap[w.heap.size]? = some (.cells (prC ⟨cs, A1, c1, ns, A2, c2, ec, en, ed⟩).toArray 36 (0, 0)) := by rw [hW]; exact heap_alloc_new w _
 have HAL := zh hal; have HBK := zh hblk; have HLT := zh (blk_lt hblk)
 have HPL := zh (fun (s : Tx) (v : World) (hv : Below W.heap.size W v) => place_cl ⟨cs, A1, c1, ns, A2, c2, ec, en, ed⟩ s v ((hk.1.2.below hal).below hv) (by have := hg.1.1; omega))
 have HRD := zh (fun (v : World) (hv : Below W.heap.size W v) => show Rd v A1 (cs.flatMap clC) from (hk.1.2.below hal).below hv)
 obtain ⟨n, hn⟩ : ∃ n, n = cs.length := ⟨_, rfl⟩
 have HN := zh hn
 have nI : (n : Int) ≤ 70 := by have : cs.length ≤ 70 := hg.1.1; omega
 have HCE := zh (show ∀ v : World, Below W.heap.size W v → v.cell? ⟨w.heap.size, 0, none⟩ = some (.slice A1 n c1) ∧ v.cell? ⟨w.heap.size, 1, none⟩ = some (.slice A2 ns.length c2) ∧ v.cell? ⟨w.heap.size, 2, none⟩ = some (.string ⟨ec.toArray⟩) ∧ v.cell? ⟨w.heap.size, 3, none⟩ = some (.string ⟨en.toArray⟩) ∧ v.cell? ⟨w.heap.size, 4, none⟩ = some (.string ⟨ed.toArray⟩) from fun v hv => by rw [hn]; exact pr_cells ((hv.block _ HLT.out).trans HBK.out))
 have HLE := zh (fun s out f (h : SupI cs L s out f) => show out.length ≤ n from by rw [hn]; exact h.len)
 unfold prC at hW HPL ⊢
 try dsimp only at hW HPL ⊢
 rw [← hn] at hW HPL ⊢
 have HW := zh hW
 obtain ⟨x0, x1, x2, x3, x4⟩ := HCE.out _ (Below.refl _ _)
 clear hal hblk hW hk hg hn
 go_enter Tryz.func116, Tryz.ntmps116
 go_wp2_with fail
 rw [← HW.out]
 (try go_wp2_with fail)
 clear x0 x1 x2 x3 x4
 refine (HPL.out s0 W (Below.refl _ _)).mono ?_
 rintro e w1 ⟨r, rfl, hix, hb1⟩
 have HX1 := zh hix; have HB1 := zh hb1
 clear hix hb1
 go_wp2_with fail
 go_loopw [1, 5, 6] (fun nm v a wr => ∃ (s : Tx) (out : List Tx) (f : Nat) (r : Int), nm = .string ⟨s.toArray⟩ ∧ a = .int .i64 r ∧ Idx (fun y : ClM => y.nm == s) cs r ∧ SupI cs L s out f ∧ wr.ownsRow W.heap.size 9 1 v out.length (SX out) ∧ Below W.heap.size W wr) (fun _ v _ _ => n + 1 - lenV v)
 case atStart => exact ⟨s0, [], _, r, rfl, rfl, HX1.out, HS0.out, World.ownsRow_nil _ _ _ _, HB1.out⟩
 case round =>
  obtain ⟨s, out, f, r, rfl, rfl, hix, hsi, hown, hbw⟩ := hrel
  obtain ⟨wa, hwa⟩ : ∃ u, u = wr := ⟨_, rfl⟩
  subst hwa
  obtain ⟨B, d, rfl, hnd, -, hrd⟩ := own_rd hown
  have HO := zh hown; have HB := zh hbw; have HSI := zh hsi
  have hol := HLE.out _ _ _ hsi
  have hsz := hbw.size
  have hoI : (out.length : Int) ≤ 70 := by omega
  have HHS := zh (has_s B d out s wa hrd (by omega))
  obtain ⟨m, hm⟩ : ∃ m, m = out.length := ⟨_, rfl⟩
  rw [← hm] at HO HHS hol hoI hnd ⊢
  have HM := zh hm
  have HRT := zh (fun (u : World) (hu : Below wa.heap.size wa u) (e : out = L) => show (∃ A c, Ending.returned (.slice B m d) = .returned (.slice A L.length c) ∧ L.length ≤ c ∧ Rd u A (SX L)) ∧ Below w.heap.size w u from ⟨⟨B, d, by rw [← e, hm], by rw [← e, ← hm]; exact hnd, by rw [← e]; exact hrd.below hu⟩, HAL.out.trans ((hbw.mono HAL.out.size).trans (hu.mono (Nat.le_trans HAL.out.size hsz)))⟩)
  rcases idx_two hix with ⟨rfl, -, hf⟩ | ⟨k, y, rfl, hy, -, -, hf⟩
  ·have HRE := zh (HRT.out wa (Below.refl _ _) (hsi.none hf))
   clear hix hsi hown hbw hrd hm hf
   go_wp2
   go_ret
   exact HRE.out
  ·cases hh : out.contains s with
   | true =>
    rw [hh] at HHS
    have HRE := zh (fun u hu => HRT.out u hu (hsi.had hh))
    have hkI : ((k : Int) != -1) = true := by simp
    clear hix hsi hown hbw hrd hm hf hh hy
    go_wp2_with fail
    refine HHS.out.mono ?_
    rintro e w2 ⟨rfl, hb2⟩
    have HB2 := zh hb2
    clear hb2
    go_wp2
    go_ret
    exact HRE.out _ HB2.out
   | false =>
    rw [hh] at HHS
    have HNX := zh (hsi.next hf hh)
    have hkI : ((k : Int) != -1) = true := by simp
    have hkn : k < n := by rw [HN.out]; exact (List.getElem?_eq_some_iff.1 hy).1
    have hknI : (k : Int) < (n : Int) := by omega
    have HY := zh hy
    obtain ⟨a, rfl, -⟩ := cl_at (HRD.out _ hbw) hy
    clear hix hsi hown hbw hrd hm hf hh hy HRT
    go_wp2_with fail
    refine HHS.out.mono ?_
    rintro e w2 ⟨rfl, hb2⟩
    have HB2 := zh (HB.out.trans (hb2.mono hsz))
    have HO2 := zh (own_below HO.out hb2)
    have hs2 := HB2.out.size
    clear hb2
    go_wp2_with (at_builtin; refine wpList_app _ rfl (.tmp 21) (.tmp 23) _ rfl W.heap.size 9 i0 _ 1 16 Tryz.underlying32 hi0 hz0 hz1 hz2 rfl (by omega) _ m (SX out) rfl (HO2.out.alloc _) _ 1 1 [_] rfl rfl (rd_blk (heap_alloc_new w2 _) (k := 1) rfl) (by simp [Value.oneCell']) (by simp only [maxLen]; omega) (by omega) (by first | (simp; omega) | omega) ?_; intro v3 w3 hown3 hg3 hb3 hat3; clear hg3 hat3; have HB3 := zh ((HB2.out.alloc hs2 _).trans hb3); obtain ⟨y0, y1, y2, y3, y4⟩ := HCE.out _ HB3.out; obtain ⟨a', ea, ha, q0, q1, q2, q3, q4, q5, q6⟩ := cl_at (HRD.out _ HB3.out) HY.out; cases ea)
    have hown4 : w3.ownsRow W.heap.size 9 1 v3 (out ++ [s]).length (SX (out ++ [s])) := by rw [SX_app, List.length_append, ← HM.out]; exact hown3
    have HO4 := zh hown4
    have hl3 : lenV v3 = m + 1 := by
     obtain ⟨B', d', rfl, -, -, -⟩ := own_rd hown3
     rfl
    have HL3 := zh hl3
    obtain ⟨z0, z1, z2, z3, z4⟩ := HCE.out _ HB3.out
    clear y0 y1 y2 y3 y4 q0 q1 q2 q3 q4 q5 q6 hown3 hown4 hb3 hl3
    try go_wp2_with fail
    refine (HPL.out y.su w3 HB3.out).mono ?_
    rintro e w4 ⟨r4, rfl, hix4, hb4⟩
    have HX4 := zh hix4
    have HB4 := zh (HB3.out.trans (hb4.mono HB3.out.size))
    have HO5 := zh (own_below HO4.out hb4)
    clear hb4 hix4 z0 z1 z2 z3 z4
    go_wp2
    go_roundw
    case rel => exact ⟨y.su, out ++ [s], _, r4, rfl, rfl, HX4.out, HNX.out, HO5.out, HB4.out⟩
    case measure => first | (rw [HL3.out]; simp only [lenV]; omega) | (simp [lenV] at HL3 ⊢; omega)
end Go.Proofs.YtjejmlpjifhmmaaGreatDoor.prg
namespace Go.Proofs.YtjejmlpjifhmmaaGreatDoor.sto
open Go.RowKit Go.MapKept Go.ChangeMaps
open words kindp kind prg
end Go.Proofs.YtjejmlpjifhmmaaGreatDoor.sto
namespace Go.Proofs.YtjejmlpjifhmmaaGreatDoor.sto
open Go.RowKit Go.MapKept Go.ChangeMaps
open words kindp kind prg
def loO (mb : Nat) : ObM := ⟨[65], some mb, false, none, 0, 0⟩
def Lv (sb mb g : Nat) (x : Int) (w : World) : Prop := ∃ rb, StoM sb [loO mb, arO g 2] rb w ∧ w.heap[mb]? = some (mp1 x) ∧ w.heap[g]? = some (.cells (rep vo 2).toArray 132 (0, 0))
theorem Lv.below {sb mb g : Nat} {x : Int} {w w' : World} (h : Lv sb mb g x w) (hb : Below w.heap.size w w') : Lv sb mb g x w' := by
 obtain ⟨rb, h1, h2, h3⟩ := h
 exact ⟨rb, h1.below hb, (hb.block _ (blk_lt h2)).trans h2, (hb.block _ (blk_lt h3)).trans h3⟩
theorem since {w W v : World} (h : Below w.heap.size w W) (k : Below W.heap.size W v) : Below w.heap.size w v := then' h k
end Go.Proofs.YtjejmlpjifhmmaaGreatDoor.sto
namespace Go.Proofs.YtjejmlpjifhmmaaGreatDoor.sto
open Go.RowKit Go.MapKept Go.ChangeMaps
open words kindp kind prg
end Go.Proofs.YtjejmlpjifhmmaaGreatDoor.sto
namespace Go.Proofs.YtjejmlpjifhmmaaGreatDoor.sto
open Go.RowKit Go.MapKept Go.ChangeMaps
open words kindp kind prg
end Go.Proofs.YtjejmlpjifhmmaaGreatDoor.sto
namespace Go.Proofs.YtjejmlpjifhmmaaGreatDoor.prg
open Go.RowKit Go.Maps Go.Shelf
open words kindp opp op kind word
set_option linter.all false
attribute [local go_sem] Oper.semAt_some
end Go.Proofs.YtjejmlpjifhmmaaGreatDoor.prg
namespace Go.Proofs.YtjejmlpjifhmmaaGreatDoor.prg
open Go.RowKit Go.Maps Go.Shelf
open words kindp opp op kind word
set_option linter.all false
end Go.Proofs.YtjejmlpjifhmmaaGreatDoor.prg
namespace Go.Proofs.YtjejmlpjifhmmaaGreatDoor.sto
open Go.RowKit Go.MapKept Go.ChangeMaps
open words kindp kind prg
end Go.Proofs.YtjejmlpjifhmmaaGreatDoor.sto
namespace Go.Proofs.YtjejmlpjifhmmaaGreatDoor.sto
open Go.RowKit Go.MapKept Go.ChangeMaps
open words kindp kind prg
end Go.Proofs.YtjejmlpjifhmmaaGreatDoor.sto
namespace Go.Proofs.YtjejmlpjifhmmaaGreatDoor.sto
open Go.RowKit Go.MapKept Go.ChangeMaps Go.Shelf
open words kindp kind prg
attribute [local go_sem] Oper.semAt_some
end Go.Proofs.YtjejmlpjifhmmaaGreatDoor.sto

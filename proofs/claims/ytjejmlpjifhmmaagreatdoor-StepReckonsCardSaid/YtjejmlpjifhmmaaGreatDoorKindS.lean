/- KindS -/
import Derived.Test.YtjejmlpjifhmmaaGreatDoorWordA
import Derived.Deep.QuietTactic
import Derived.BigQuiet
import Derived.Shelf.Strings.Shaped
import Derived.Shelf.Small.Wraps
import Derived.Shelf.Strings.IndexAnyAll
import Derived.Test.YtjejmlpjifhmmaaGreatDoorProg
import Derived.Defers
import Derived.Recover
namespace Go.Proofs.YtjejmlpjifhmmaaGreatDoor.word
open Go.RowKit
open num words give write
set_option maxRecDepth 100000
set_option maxHeartbeats 400000
def fits (s : ByteArray) : Bool := decide (1 ≤ s.size ∧ s.size ≤ 32)
def namedB (p : Nat → Bool) (s : ByteArray) : Bool := fits s && (N s).all p
def initName : ByteArray := ⟨#[60, 99, 108, 105, 110, 105, 116, 62]⟩
def nameB (s : ByteArray) : Bool := decide (s = initName) || namedB letterB s
theorem not_empty {s : ByteArray} (h : ¬ s.size = 0) : s.toList.isEmpty = false := by
 rw [Lib.toList_data]
 cases hd : s.data.toList with
 | nil => exact absurd (by rw [← N_len]; unfold N; rw [hd]; rfl) h
 | cons a b => rfl
theorem named_w (s : ByteArray) (p : Nat → Bool) (f : Nat) (w : World) (hs : s.size ≤ 281474976710656)
  (hf : ∀ (c : Nat) (w : World), c < 256 → Calls Tryz.prog f #[.int .u8 (c : Int)] w fun e w' => e = .returned (.bool (p c)) ∧ w' = w)
  (ef : ∀ args w, (callFunc f args).run Tryz.prog w = .ok (.enter f args) w) :
  Calls Tryz.prog 263 #[.string s, .func (.func f) #[] #[]] w fun e w' => e = .returned (.bool (namedB p s)) ∧ w' = w := by
 have HA := zh (fun w => all_w s p f w hs hf ef)
 have hsI : (s.size : Int) ≤ 281474976710656 := by omega
 have HS := zh (show namedB p s = (fits s && (N s).all p) from rfl)
 generalize (N s).all p = b at HA HS
 clear hf ef hs
 by_cases h0 : s.size = 0
 ·obtain rfl : s = ⟨#[]⟩ := ByteArray.ext (Array.size_eq_zero_iff.1 h0)
  rw [HS.out, show fits (⟨#[]⟩ : ByteArray) = false from rfl, Bool.false_and]
  clear HS HA h0
  go_enter Tryz.func263, Tryz.ntmps263
  go_wp2
  go_ret
  exact ⟨rfl, rfl⟩
 ·have hne := not_empty h0
  have hne3 : ¬ s.toList = [] := by intro e; rw [e] at hne; cases hne
  by_cases h1 : s.size ≤ 32
  ·have h1I : (s.size : Int) ≤ 32 := by omega
   rw [HS.out, show fits s = true by simp [fits]; omega, Bool.true_and]
   clear HS h0 h1
   go_enter Tryz.func263, Tryz.ntmps263
   go_wp2_with (go_at_call 285; refine (HA.out _).mono ?_; rintro e w' ⟨rfl, rfl⟩)
   go_ret
   exact ⟨rfl, rfl⟩
  ·have h1I : ¬ (s.size : Int) ≤ 32 := by omega
   rw [HS.out, show fits s = false by simp [fits]; omega, Bool.false_and]
   clear HS h0 h1 HA
   go_enter Tryz.func263, Tryz.ntmps263
   go_wp2
   go_ret
   exact ⟨rfl, rfl⟩
theorem class_name (s : ByteArray) (w : World) (hs : s.size ≤ 281474976710656) :
  Calls Tryz.prog 223 #[.string s] w fun e w' => e = .returned (.bool (namedB classB s)) ∧ w' = w := by
 have HA := zh (fun w => named_w s classB 264 w hs (fun c w _ => class_w c w) (fun _ _ => rfl))
 clear hs
 go_enter Tryz.func223, Tryz.ntmps223
 go_wp2_with (go_at_call 263; refine (HA.out _).mono ?_; rintro e w' ⟨rfl, rfl⟩)
 go_ret
 exact ⟨rfl, rfl⟩
end Go.Proofs.YtjejmlpjifhmmaaGreatDoor.word
namespace Go.Proofs.YtjejmlpjifhmmaaGreatDoor.kindp
abbrev Pr := Tx × Tx
end Go.Proofs.YtjejmlpjifhmmaaGreatDoor.kindp
namespace Go.Proofs.YtjejmlpjifhmmaaGreatDoor.kind
open Go.RowKit
open words kindp word
set_option maxRecDepth 100000
def tyV (t : Ty) : Value := .agg #[.int .i64 t.1, .string ⟨t.2.toArray⟩]
theorem mk_len (c : Tx) : (⟨c.toArray⟩ : ByteArray).size = c.length := by show c.toArray.size = _; simp
theorem cls_eq (c : Tx) : namedB classB ⟨c.toArray⟩ = clsB c := by
 unfold namedB fits clsB
 rw [mk_len]
 rfl
theorem has_w (k : Int) (c : Tx) (w : World) :
  Calls Tryz.prog 153 #[.agg #[.int .i64 k, .string ⟨c.toArray⟩]] w fun e w' => e = .returned (.bool (hasB k)) ∧ Below w.heap.size w w' := by
 by_cases h3 : k = 3
 ·subst h3
  rw [show hasB 3 = true from rfl]
  go_enter Tryz.func153, Tryz.ntmps153
  go_wp2
  go_ret
  exact ⟨rfl, (Below.refl _ _).alloc (Nat.le_refl _) _⟩
 ·by_cases h5 : k = 5
  ·subst h5
   rw [show hasB 5 = true from rfl]
   clear h3
   go_enter Tryz.func153, Tryz.ntmps153
   go_wp2
   go_ret
   exact ⟨rfl, (Below.refl _ _).alloc (Nat.le_refl _) _⟩
  ·rw [show hasB k = false by unfold hasB; simp [h3, h5]]
   have e3 : (k == 3) = false := by simpa using h3
   have e5 : (k == 5) = false := by simpa using h5
   clear h3 h5
   go_enter Tryz.func153, Tryz.ntmps153
   go_wp2
   go_ret
   exact ⟨rfl, (Below.refl _ _).alloc (Nat.le_refl _) _⟩
theorem kinds (k : Int) : k = 1 ∨ k = 2 ∨ k = 3 ∨ k = 4 ∨ k = 5 ∨ ((k == 1) = false ∧ (k == 2) = false ∧ (k == 3) = false ∧ (k == 4) = false ∧ (k == 5) = false ∧ signL k = [] ∧ hasB k = false) := by
 by_cases h1 : k = 1
 ·exact .inl h1
 by_cases h2 : k = 2
 ·exact .inr (.inl h2)
 by_cases h3 : k = 3
 ·exact .inr (.inr (.inl h3))
 by_cases h4 : k = 4
 ·exact .inr (.inr (.inr (.inl h4)))
 by_cases h5 : k = 5
 ·exact .inr (.inr (.inr (.inr (.inl h5))))
 ·refine .inr (.inr (.inr (.inr (.inr ⟨by simpa using h1, by simpa using h2, by simpa using h3, by simpa using h4, by simpa using h5, ?_, ?_⟩))))
  ·unfold signL; rw [if_neg h1, if_neg h2, if_neg h3, if_neg h4, if_neg h5]
  ·unfold hasB; simp [h3, h5]
theorem sign_w (k : Int) (w : World) :
  Calls Tryz.prog 259 #[.int .i64 k] w fun e w' => e = .returned (.string ⟨(signL k).toArray⟩) ∧ w' = w := by
 rcases kinds k with rfl | rfl | rfl | rfl | rfl | ⟨e1, e2, e3, e4, e5, e6, -⟩
 ·rw [show signL 1 = [86] from rfl]
  go_enter Tryz.func259, Tryz.ntmps259
  go_wp2
  go_ret
  exact ⟨rfl, rfl⟩
 ·rw [show signL 2 = [73] from rfl]
  go_enter Tryz.func259, Tryz.ntmps259
  go_wp2
  go_ret
  exact ⟨rfl, rfl⟩
 ·rw [show signL 3 = [76] from rfl]
  go_enter Tryz.func259, Tryz.ntmps259
  go_wp2
  go_ret
  exact ⟨rfl, rfl⟩
 ·rw [show signL 4 = [91, 73] from rfl]
  go_enter Tryz.func259, Tryz.ntmps259
  go_wp2
  go_ret
  exact ⟨rfl, rfl⟩
 ·rw [show signL 5 = [91, 76] from rfl]
  go_enter Tryz.func259, Tryz.ntmps259
  go_wp2
  go_ret
  exact ⟨rfl, rfl⟩
 ·rw [e6]
  clear e6
  go_enter Tryz.func259, Tryz.ntmps259
  go_wp2
  go_ret
  exact ⟨rfl, rfl⟩
end Go.Proofs.YtjejmlpjifhmmaaGreatDoor.kind
namespace Go.Proofs.YtjejmlpjifhmmaaGreatDoor.kind
open Go.RowKit
open words kindp word
set_option maxRecDepth 100000
set_option maxHeartbeats 800000
theorem isref_w (k : Int) (c : Tx) (w : World) :
  Calls Tryz.prog 103 #[.agg #[.int .i64 k, .string ⟨c.toArray⟩]] w fun e w' => e = .returned (.bool (hasB k || (k == 4))) ∧ Below w.heap.size w w' := by
 have HH := zh (fun w => has_w k c w)
 cases hb : hasB k with
 | true =>
  rw [hb] at HH
  rw [Bool.true_or]
  clear hb
  go_enter Tryz.func103, Tryz.ntmps103
  go_wp2_with fail
  refine (HH.out _).mono ?_
  rintro e w1 ⟨rfl, hb1⟩
  have HB := zh (((Below.refl w.heap.size w).alloc (Nat.le_refl _) _).trans (hb1.mono (by simp)))
  clear hb1 HH
  go_wp2
  go_ret
  exact ⟨rfl, HB.out⟩
 | false =>
  rw [hb] at HH
  rw [Bool.false_or]
  obtain ⟨d, hd⟩ : ∃ d, (k == 4) = d := ⟨_, rfl⟩
  rw [hd]
  clear hb
  go_enter Tryz.func103, Tryz.ntmps103
  go_wp2_with fail
  refine (HH.out _).mono ?_
  rintro e w1 ⟨rfl, hb1⟩
  have c0 := (hb1.cell (p := ⟨w.heap.size, 0, none⟩) (by simp)).trans (show _ = some (.int .i64 k) by rw [cell_of_row _ _ _ _ _ _ (heap_alloc_new w _)]; rfl)
  have HB := zh (((Below.refl w.heap.size w).alloc (Nat.le_refl _) _).trans (hb1.mono (by simp)))
  clear hb1 HH
  go_wp2
  go_ret
  exact ⟨rfl, HB.out⟩
end Go.Proofs.YtjejmlpjifhmmaaGreatDoor.kind
namespace Go.Proofs
open Go.Shelf
def Tryz.lays103_ren : Go.Shelf.Ren := ⟨fun | 103 => 215 | 210 => 257 | 206 => 258 | n => n, fun | 9 => 9 | 4 => 4 | 24 => 193 | 3 => 3 | n => n, fun | n => n⟩
theorem Tryz.lays103 : Go.Proofs.Lays.n103 Tryz.prog Tryz.lays103_ren := {
 mixed := by kernel_rfl
 f103 := Tryz.func215.trans (congrArg some (by kernel_rfl))
 f206 := Tryz.func258.trans (congrArg some (by kernel_rfl))
 f210 := Tryz.func257.trans (congrArg some (by kernel_rfl))
 t3 := Tryz.underlying3
 a3 := Tryz.isAgg3
 z3 := Tryz.sizeOf3
 v3 := Tryz.zeroValue3
 t4 := Tryz.underlying4
 a4 := Tryz.isAgg4
 z4 := Tryz.sizeOf4
 v4 := Tryz.zeroValue4
 t9 := Tryz.underlying9
 a9 := Tryz.isAgg9
 z9 := Tryz.sizeOf9
 v9 := Tryz.zeroValue9
 t24 := Tryz.underlying193
 a24 := Tryz.isAgg193
 z24 := Tryz.sizeOf193
 v24 := Tryz.zeroValue193 }
open Go.RowKit in
theorem Tryz.strings_CutPrefix (s p : ByteArray) (w : World) :
  Calls Tryz.prog 215 #[.string s, .string p] w fun e w' => e = .returned (.tuple #[.string ⟨(Lib.trimPrefix s.data.toList p.data.toList).toArray⟩, .bool (Lib.hasPrefix s.data.toList p.data.toList)]) ∧ w' = w := Any.strings_CutPrefix Tryz.lays103 s p w
def Tryz.lays145_ren : Go.Shelf.Ren := ⟨fun | 145 => 283 | 220 => 294 | 219 => 299 | 217 => 301 | 225 => 302 | 224 => 303 | 267 => 304 | 266 => 305 | 314 => 306 | n => n, fun | 9 => 9 | 4 => 4 | 59 => 306 | 3 => 3 | 5 => 5 | 46 => 287 | 146 => 406 | 51 => 343 | n => n, fun | 1 => 1 | n => n⟩
theorem Tryz.lays145 : Go.Proofs.Lays.n145 Tryz.prog Tryz.lays145_ren := {
 mixed := by kernel_rfl
 f145 := Tryz.func283.trans (congrArg some (by kernel_rfl))
 f217 := Tryz.func301.trans (congrArg some (by kernel_rfl))
 f219 := Tryz.func299.trans (congrArg some (by kernel_rfl))
 f220 := Tryz.func294.trans (congrArg some (by kernel_rfl))
 f224 := Tryz.func303.trans (congrArg some (by kernel_rfl))
 f225 := Tryz.func302.trans (congrArg some (by kernel_rfl))
 f266 := Tryz.func305.trans (congrArg some (by kernel_rfl))
 f267 := Tryz.func304.trans (congrArg some (by kernel_rfl))
 f314 := Tryz.func306.trans (congrArg some (by kernel_rfl))
 t3 := Tryz.underlying3
 a3 := Tryz.isAgg3
 z3 := Tryz.sizeOf3
 v3 := Tryz.zeroValue3
 t4 := Tryz.underlying4
 a4 := Tryz.isAgg4
 z4 := Tryz.sizeOf4
 v4 := Tryz.zeroValue4
 t5 := Tryz.underlying5
 a5 := Tryz.isAgg5
 z5 := Tryz.sizeOf5
 v5 := Tryz.zeroValue5
 t9 := Tryz.underlying9
 a9 := Tryz.isAgg9
 z9 := Tryz.sizeOf9
 v9 := Tryz.zeroValue9
 t46 := Tryz.underlying287
 a46 := Tryz.isAgg287
 z46 := Tryz.sizeOf287
 v46 := Tryz.zeroValue287
 t51 := Tryz.underlying343
 a51 := Tryz.isAgg343
 z51 := Tryz.sizeOf343
 v51 := Tryz.zeroValue343
 t59 := Tryz.underlying306
 a59 := Tryz.isAgg306
 z59 := Tryz.sizeOf306
 v59 := Tryz.zeroValue306
 t146 := Tryz.underlying406
 a146 := Tryz.isAgg406
 z146 := Tryz.sizeOf406
 v146 := Tryz.zeroValue406
 g1 := by kernel_rfl }
open Go.RowKit Go.Lib in
theorem Tryz.strings_Cut (s sep : ByteArray) (m : Int) (w : World) (hs : s.size < 4294967281) (hm : w.cell? ⟨1, 0, none⟩ = some (.int .i64 m)) :
  Calls Tryz.prog 283 #[.string s, .string sep] w fun e w' => e = .returned (.tuple #[.string ⟨(Lib.cut s.data.toList sep.data.toList).1.toArray⟩, .string ⟨(Lib.cut s.data.toList sep.data.toList).2.1.toArray⟩, .bool (Lib.cut s.data.toList sep.data.toList).2.2]) ∧ ∃ n, w' = w.drewN n := Any.strings_Cut Tryz.lays145 s sep m w hs hm
def Tryz.laysM145_ren : Go.Shelf.Ren := ⟨fun | 145 => 283 | 220 => 294 | 219 => 299 | 217 => 301 | 225 => 302 | 224 => 303 | 267 => 304 | 266 => 305 | 314 => 306 | n => n, fun | 9 => 9 | 4 => 4 | 59 => 306 | 3 => 3 | 5 => 5 | 46 => 287 | 146 => 406 | 51 => 343 | n => n, fun | 1 => 1 | n => n⟩
theorem Tryz.laysM145 : Go.Proofs.LaysM.n145 Tryz.prog Tryz.laysM145_ren := {
 mixed := by kernel_rfl
 f145 := Tryz.func283.trans (congrArg some (by kernel_rfl))
 f217 := Tryz.func301.trans (congrArg some (by kernel_rfl))
 f219 := Tryz.func299.trans (congrArg some (by kernel_rfl))
 f220 := Tryz.func294.trans (congrArg some (by kernel_rfl))
 f224 := Tryz.func303.trans (congrArg some (by kernel_rfl))
 f225 := Tryz.func302.trans (congrArg some (by kernel_rfl))
 f266 := Tryz.func305.trans (congrArg some (by kernel_rfl))
 f267 := Tryz.func304.trans (congrArg some (by kernel_rfl))
 f314 := Tryz.func306.trans (congrArg some (by kernel_rfl))
 t3 := Tryz.underlying3
 a3 := Tryz.isAgg3
 z3 := Tryz.sizeOf3
 v3 := Tryz.zeroValue3
 t4 := Tryz.underlying4
 a4 := Tryz.isAgg4
 z4 := Tryz.sizeOf4
 v4 := Tryz.zeroValue4
 t5 := Tryz.underlying5
 a5 := Tryz.isAgg5
 z5 := Tryz.sizeOf5
 v5 := Tryz.zeroValue5
 t9 := Tryz.underlying9
 a9 := Tryz.isAgg9
 z9 := Tryz.sizeOf9
 v9 := Tryz.zeroValue9
 t46 := Tryz.underlying287
 a46 := Tryz.isAgg287
 z46 := Tryz.sizeOf287
 v46 := Tryz.zeroValue287
 t51 := Tryz.underlying343
 a51 := Tryz.isAgg343
 z51 := Tryz.sizeOf343
 v51 := Tryz.zeroValue343
 t59 := Tryz.underlying306
 a59 := Tryz.isAgg306
 z59 := Tryz.sizeOf306
 v59 := Tryz.zeroValue306
 t146 := Tryz.underlying406
 a146 := Tryz.isAgg406
 z146 := Tryz.sizeOf406
 v146 := Tryz.zeroValue406
 g1 := by kernel_rfl
 i3 := by kernel_rfl
 i4 := by kernel_rfl
 i5 := by kernel_rfl
 i9 := by kernel_rfl
 i46 := by kernel_rfl
 i51 := by kernel_rfl
 i59 := by kernel_rfl
 i146 := by kernel_rfl
 m1 := by kernel_rfl
 s1_3 := fun w h => Go.Proofs.cell_of_shapedOpen_int (zero := #[.int .i64 0]) (t := 3) h (of_decide_eq_true (by kernel_rfl)) (by kernel_rfl) rfl (by kernel_rfl) (by kernel_rfl) Tryz.underlying3 }
def Tryz.lays99_ren : Go.Shelf.Ren := ⟨fun | 99 => 216 | 206 => 258 | n => n, fun | 9 => 9 | 4 => 4 | 3 => 3 | n => n, fun | n => n⟩
theorem Tryz.lays99 : Go.Proofs.Lays.n99 Tryz.prog Tryz.lays99_ren := {
 mixed := by kernel_rfl
 f99 := Tryz.func216.trans (congrArg some (by kernel_rfl))
 f206 := Tryz.func258.trans (congrArg some (by kernel_rfl))
 t3 := Tryz.underlying3
 a3 := Tryz.isAgg3
 z3 := Tryz.sizeOf3
 v3 := Tryz.zeroValue3
 t4 := Tryz.underlying4
 a4 := Tryz.isAgg4
 z4 := Tryz.sizeOf4
 v4 := Tryz.zeroValue4
 t9 := Tryz.underlying9
 a9 := Tryz.isAgg9
 z9 := Tryz.sizeOf9
 v9 := Tryz.zeroValue9 }
open Go.RowKit Go.Lib in
theorem Tryz.strings_HasPrefix (s p : ByteArray) (w : World) :
  Calls Tryz.prog 216 #[.string s, .string p] w fun e w' => e = .returned (.bool (Lib.hasPrefix s.data.toList p.data.toList)) ∧ w' = w := Any.strings_HasPrefix Tryz.lays99 s p w
end Go.Proofs
namespace Go.Proofs.YtjejmlpjifhmmaaGreatDoor.kind
open Go.RowKit
open words kindp word
set_option maxRecDepth 100000
set_option maxHeartbeats 800000
def Mx (w : World) : Prop := ∃ m, w.cell? ⟨1, 0, none⟩ = some (.int .i64 m)
theorem Mx.below {w w' : World} (h : Mx w) (hb : Below w.heap.size w w') : Mx w' := by
 obtain ⟨m, hm⟩ := h
 exact ⟨m, (hb.cell (World.block_lt_of_cell? _ _ hm)).trans hm⟩
theorem Mx.drewN {w : World} {n : Nat} (h : Mx w) : Mx (w.drewN n) := h
def noV : Value := .iface 347 (.agg #[])
theorem cut_le (s : Tx) : (Lib.cut s [59]).1.length ≤ s.length := by
 unfold Lib.cut
 split
 ·dsimp only; rw [List.length_take]; omega
 ·exact Nat.le_refl _
theorem cut_w (s : Tx) (w : World) (hs : s.length < 4294967281) (hm : Mx w) :
  Calls Tryz.prog 283 #[.string ⟨s.toArray⟩, .string ⟨#[59]⟩] w fun e w' => e = .returned (.tuple #[.string ⟨(Lib.cut s [59]).1.toArray⟩, .string ⟨(Lib.cut s [59]).2.1.toArray⟩, .bool (Lib.cut s [59]).2.2]) ∧ ∃ n, w' = w.drewN n := by
 obtain ⟨m, hm⟩ := hm
 exact Tryz.strings_Cut ⟨s.toArray⟩ ⟨#[59]⟩ m w (by rw [mk_len]; exact hs) hm
theorem prefix_w (s p : Tx) (w : World) :
  Calls Tryz.prog 215 #[.string ⟨s.toArray⟩, .string ⟨p.toArray⟩] w fun e w' => e = .returned (.tuple #[.string ⟨(Lib.trimPrefix s p).toArray⟩, .bool (Lib.hasPrefix s p)]) ∧ w' = w :=
 Tryz.strings_CutPrefix ⟨s.toArray⟩ ⟨p.toArray⟩ w
theorem class_ok (s a b : Tx) (w : World) (hs : s.length < 4294967281) (hm : Mx w) (h : Lib.cut s [59] = (a, b, true)) (hc : clsB a = true) :
  Calls Tryz.prog 260 #[.string ⟨s.toArray⟩] w fun e w' => e = .returned (.tuple #[.string ⟨a.toArray⟩, .string ⟨b.toArray⟩]) ∧ ∃ n, w' = w.drewN n := by
 have hC := cut_w s w hs hm
 have hl := cut_le s
 rw [h] at hC hl
 dsimp only at hC hl
 have HC := zh hC
 have HN := zh (fun w => class_name ⟨a.toArray⟩ w (by rw [mk_len]; omega))
 rw [cls_eq, hc] at HN
 clear hC h hc hl hs hm
 go_enter Tryz.func260, Tryz.ntmps260
 go_wp2_with fail
 refine HC.out.mono ?_
 rintro e w1 ⟨rfl, q, rfl⟩
 go_wp2_with fail
 refine (HN.out _).mono ?_
 rintro e w1 ⟨rfl, rfl⟩
 go_wp2
 go_ret2
 exact ⟨rfl, q, rfl⟩
theorem class_no (s : Tx) (w : World) (hs : s.length < 4294967281) (hm : Mx w) (h : ((Lib.cut s [59]).2.2 && clsB (Lib.cut s [59]).1) = false) :
  Calls Tryz.prog 260 #[.string ⟨s.toArray⟩] w fun e w' => e = .panicked [{ v := noV, recovered := false }] ∧ ∃ n, w' = w.drewN n := by
 have hp : ∀ (t : TypeId) (v : Value) (w : World), (Instr.panic (.iface t v)).run Tryz.prog w = .halt (.panic (.iface t v)) w := fun _ _ _ => rfl
 have hC := cut_w s w hs hm
 have hl := cut_le s
 obtain ⟨r, hr⟩ : ∃ r, r = Lib.cut s [59] := ⟨_, rfl⟩
 rw [← hr] at hC hl h
 clear hr
 obtain ⟨a, b, f⟩ := r
 dsimp only at hC hl h
 have HC := zh hC
 cases f with
 | false =>
  clear hC hl hs hm h
  go_enter Tryz.func260, Tryz.ntmps260
  go_wp2_with fail
  refine HC.out.mono ?_
  rintro e w1 ⟨rfl, q, rfl⟩
  go_wp2
  exact ⟨rfl, rfl, q, rfl⟩
 | true =>
  rw [Bool.true_and] at h
  have HN := zh (fun w => class_name ⟨a.toArray⟩ w (by rw [mk_len]; omega))
  rw [cls_eq, h] at HN
  clear hC h hl hs hm
  go_enter Tryz.func260, Tryz.ntmps260
  go_wp2_with fail
  refine HC.out.mono ?_
  rintro e w1 ⟨rfl, q, rfl⟩
  go_wp2_with fail
  refine (HN.out _).mono ?_
  rintro e w1 ⟨rfl, rfl⟩
  go_wp2
  exact ⟨rfl, rfl, q, rfl⟩
end Go.Proofs.YtjejmlpjifhmmaaGreatDoor.kind
namespace Go.Proofs.YtjejmlpjifhmmaaGreatDoor.op
open Go.RowKit
open words kindp opp
def anyL (s l : Tx) : Bool := Lib.containsAny s l
end Go.Proofs.YtjejmlpjifhmmaaGreatDoor.op
namespace Go.Proofs.YtjejmlpjifhmmaaGreatDoor.op
open Go.RowKit
open words kindp opp
def IL (l : List Int) : List Value := l.map fun z => Value.int .i64 z
def InV (i : In) (A : Option Addr) (c : Nat) : Array Value := #[.int .i64 i.o, .int .i64 i.a, .int .i64 i.b, .int .i64 i.c, .int .i64 i.k, .string ⟨i.cl.toArray⟩, .string ⟨i.nm.toArray⟩, .string ⟨i.ds.toArray⟩, .slice A i.ar.length c]
section
variable {w : World} {b t : Nat} {j : In} {A : Option Addr} {c : Nat}
end
theorem letters (c : UInt8) : c = 97 ∨ c = 98 ∨ c = 99 ∨ c = 107 ∨ c = 116 ∨ c = 114 ∨ c = 67 ∨ c = 70 ∨ c = 77 ∨ c = 118 ∨ (c ≠ 97 ∧ c ≠ 98 ∧ c ≠ 99 ∧ c ≠ 107 ∧ c ≠ 116 ∧ c ≠ 114 ∧ c ≠ 67 ∧ c ≠ 70 ∧ c ≠ 77 ∧ c ≠ 118) := by
 by_cases e1 : c = 97
 ·exact .inl e1
 by_cases e2 : c = 98
 ·exact .inr (.inl e2)
 by_cases e3 : c = 99
 ·exact .inr (.inr (.inl e3))
 by_cases e4 : c = 107
 ·exact .inr (.inr (.inr (.inl e4)))
 by_cases e5 : c = 116
 ·exact .inr (.inr (.inr (.inr (.inl e5))))
 by_cases e6 : c = 114
 ·exact .inr (.inr (.inr (.inr (.inr (.inl e6)))))
 by_cases e7 : c = 67
 ·exact .inr (.inr (.inr (.inr (.inr (.inr (.inl e7))))))
 by_cases e8 : c = 70
 ·exact .inr (.inr (.inr (.inr (.inr (.inr (.inr (.inl e8)))))))
 by_cases e9 : c = 77
 ·exact .inr (.inr (.inr (.inr (.inr (.inr (.inr (.inr (.inl e9))))))))
 by_cases e10 : c = 118
 ·exact .inr (.inr (.inr (.inr (.inr (.inr (.inr (.inr (.inr (.inl e10)))))))))
 exact .inr (.inr (.inr (.inr (.inr (.inr (.inr (.inr (.inr (.inr ⟨e1, e2, e3, e4, e5, e6, e7, e8, e9, e10⟩)))))))))
end Go.Proofs.YtjejmlpjifhmmaaGreatDoor.op
namespace Go.Proofs.YtjejmlpjifhmmaaGreatDoor.kind
open Go.RowKit
open words kindp word
set_option maxRecDepth 100000
set_option maxHeartbeats 1600000
theorem trim_at {s p : Tx} (h : Lib.hasPrefix s p = true) : Lib.trimPrefix s p = s.drop p.length := by unfold Lib.trimPrefix; rw [if_pos h]
theorem pre_one {c : UInt8} {s : Tx} (h : Lib.hasPrefix s [c] = true) : ∃ r, s = c :: r := by
 unfold Lib.hasPrefix at h
 cases s with
 | nil => simp [List.isPrefixOf] at h
 | cons x r => simp [List.isPrefixOf] at h; exact ⟨r, by rw [h]⟩
theorem pre_two {c d : UInt8} {s : Tx} (h : Lib.hasPrefix s [c, d] = true) : ∃ r, s = c :: d :: r := by
 unfold Lib.hasPrefix at h
 cases s with
 | nil => simp [List.isPrefixOf] at h
 | cons x r =>
  cases r with
  | nil => simp [List.isPrefixOf] at h
  | cons y q => simp [List.isPrefixOf] at h; exact ⟨q, by rw [h.1, h.2]⟩
theorem type_at {k : Int} {s : Tx} (h1 : 1 ≤ k) (h2 : k ≤ 5) (hp : Lib.hasPrefix s (signL k) = true) :
  typeT s = if hasB k = true then classT k (Lib.trimPrefix s (signL k)) else some ((k, []), Lib.trimPrefix s (signL k)) := by
 rw [trim_at hp]
 have hk : k = 1 ∨ k = 2 ∨ k = 3 ∨ k = 4 ∨ k = 5 := by omega
 rcases hk with rfl | rfl | rfl | rfl | rfl
 ·obtain ⟨r, rfl⟩ := pre_one hp; rfl
 ·obtain ⟨r, rfl⟩ := pre_one hp; rfl
 ·obtain ⟨r, rfl⟩ := pre_one hp; rfl
 ·obtain ⟨r, rfl⟩ := pre_two hp; rfl
 ·obtain ⟨r, rfl⟩ := pre_two hp; rfl
theorem type_miss {s : Tx} (h : ∀ j : Int, 1 ≤ j → j < 6 → Lib.hasPrefix s (signL j) = false) : typeT s = none := by
 cases s with
 | nil => rfl
 | cons c r =>
  have g1 := h 1 (by decide) (by decide); have g2 := h 2 (by decide) (by decide); have g3 := h 3 (by decide) (by decide); have g4 := h 4 (by decide) (by decide); have g5 := h 5 (by decide) (by decide)
  rw [show signL 1 = [86] from rfl] at g1
  rw [show signL 2 = [73] from rfl] at g2
  rw [show signL 3 = [76] from rfl] at g3
  rw [show signL 4 = [91, 73] from rfl] at g4
  rw [show signL 5 = [91, 76] from rfl] at g5
  unfold Lib.hasPrefix at g1 g2 g3 g4 g5
  dsimp only [typeT]
  rw [if_neg (by rintro rfl; simp [List.isPrefixOf] at g1), if_neg (by rintro rfl; simp [List.isPrefixOf] at g2), if_neg (by rintro rfl; simp [List.isPrefixOf] at g3)]
  by_cases h4 : c = 91
  ·subst h4
   rw [if_pos rfl]
   cases r with
   | nil => rfl
   | cons d q =>
    dsimp only
    rw [if_neg (by rintro rfl; simp [List.isPrefixOf] at g4), if_neg (by rintro rfl; simp [List.isPrefixOf] at g5)]
  ·rw [if_neg h4]
def Took (s : Tx) (w : World) (e : Ending) (w' : World) : Prop :=
 (match typeT s with
  | some (t, r) => e = .returned (.tuple #[tyV t, .string ⟨r.toArray⟩])
  | none => e = .panicked [{ v := noV, recovered := false }]) ∧ Below w.heap.size w w'
theorem took_some {s r : Tx} {t : Ty} {w w' : World} {e : Ending} (h : typeT s = some (t, r)) (he : e = .returned (.tuple #[tyV t, .string ⟨r.toArray⟩])) (hb : Below w.heap.size w w') : Took s w e w' := by
 unfold Took; rw [h]; exact ⟨he, hb⟩
theorem took_none {s : Tx} {w w' : World} {e : Ending} (h : typeT s = none) (he : e = .panicked [{ v := noV, recovered := false }]) (hb : Below w.heap.size w w') : Took s w e w' := by
 unfold Took; rw [h]; exact ⟨he, hb⟩
theorem bcell {W w1 : World} (hb : Below W.heap.size W w1) : (∀ b o, b < W.heap.size → w1.cell? ⟨b, o, none⟩ = W.cell? ⟨b, o, none⟩) ∧ (∀ b o, b < W.heap.size → w1.frozen? ⟨b, o, none⟩ = W.frozen? ⟨b, o, none⟩) :=
 ⟨fun b o h => hb.cell (p := ⟨b, o, none⟩) h, fun b o h => hb.frozen (p := ⟨b, o, none⟩) h⟩
theorem two_set {w : World} {g : Nat} {a b : Value} {t : TypeId} (h : w.heap[g]? = some (.cells #[a, b] t (0, 0))) (x y : Value) :
  (w.setCell ⟨g, 0, none⟩ x).cell? ⟨g, 0, none⟩ = some x ∧ ((w.setCell ⟨g, 0, none⟩ x).setCell ⟨g, 1, none⟩ y).cell? ⟨g, 1, none⟩ = some y ∧ ((w.setCell ⟨g, 0, none⟩ x).setCell ⟨g, 1, none⟩ y).heap[g]? = some (.cells #[x, y] t (0, 0)) := by
 have h1 := heap_setCell_same w g 0 _ _ x h
 have h2 := heap_setCell_same _ g 1 _ _ y h1
 refine ⟨?_, ?_, h2⟩
 ·rw [cell_of_row _ _ _ _ _ _ h1]; rfl
 ·rw [cell_of_row _ _ _ _ _ _ h2]; rfl
theorem type_w (s : Tx) (w : World) (hs : s.length < 4294967281) (hm : Mx w) :
  Calls Tryz.prog 217 #[.string ⟨s.toArray⟩] w (Took s w) := by
 have hp : ∀ (t : TypeId) (v : Value) (w : World), (Instr.panic (.iface t v)).run Tryz.prog w = .halt (.panic (.iface t v)) w := fun _ _ _ => rfl
 have HM := zh hm
 have HS := zh hs
 clear hm hs
 go_enter Tryz.func217, Tryz.ntmps217
 go_wp2
 go_loopw [4] (fun i wr => ∃ k : Int, i = .int .i64 k ∧ 1 ≤ k ∧ k ≤ 6 ∧ (∀ j : Int, 1 ≤ j → j < k → Lib.hasPrefix s (signL j) = false) ∧ wr.heap[w.heap.size]? = some (.cells #[.int .i64 0, .string ⟨#[]⟩] 165 (0, 0)) ∧ Below w.heap.size w wr) (fun i _ => (6 - intOf i).toNat)
 case atStart => exact ⟨1, rfl, by decide, by decide, fun j h1 h2 => by omega, heap_alloc_new w _, (Below.refl _ _).alloc (Nat.le_refl _) _⟩
 case round =>
  obtain ⟨k, rfl, hk1, hk6, hmiss, hcell, hbw⟩ := hrel
  have c20 : wr.cell? ⟨w.heap.size, 0, none⟩ = some (.int .i64 0) := cell_of_row wr _ 0 _ _ _ hcell
  have c21 : wr.cell? ⟨w.heap.size, 1, none⟩ = some (.string ⟨#[]⟩) := cell_of_row wr _ 1 _ _ _ hcell
  have f20 := frozen_of_row wr _ 0 _ _ hcell
  have f21 := frozen_of_row wr _ 1 _ _ hcell
  have hgl := blk_lt hcell
  have HMS := zh hmiss; have HCE := zh hcell; have HB := zh hbw
  clear hmiss hcell hbw
  by_cases hk : k ≤ 5
  ·have HSG := zh (fun w => sign_w k w)
   have hPW := (fun w => prefix_w s (signL k) w)
   cases hpx : Lib.hasPrefix s (signL k) with
   | false =>
    rw [hpx] at hPW
    have HPW := zh hPW; clear hPW
    have HNX := zh (show ∀ j : Int, 1 ≤ j → j < k + 1 → Lib.hasPrefix s (signL j) = false from fun j h1 h2 => by
     by_cases hj : j = k
     ·rw [hj]; exact hpx
     ·exact HMS.out j h1 (by omega))
    clear hpx c20 c21 f20 f21
    go_wp2_with fail
    refine (HSG.out _).mono ?_
    rintro e w1 ⟨rfl, rfl⟩
    go_wp2_with fail
    refine (HPW.out _).mono ?_
    rintro e w1 ⟨rfl, rfl⟩
    go_wp2
    go_roundw
    case rel => exact ⟨k + 1, rfl, by omega, by omega, HNX.out, HCE.out, HB.out⟩
    case measure => simp [intOf]; omega
   | true =>
    have htp := type_at hk1 hk hpx
    rw [hpx] at hPW
    have htl : (Lib.trimPrefix s (signL k)).length < 4294967281 := Nat.lt_of_le_of_lt (Lib.trimPrefix_le s (signL k)) HS.out
    obtain ⟨q, hq⟩ : ∃ q, q = Lib.trimPrefix s (signL k) := ⟨_, rfl⟩
    rw [← hq] at htp htl hPW
    have HPW := zh hPW; clear hPW
    have hHW := (fun w => has_w k [] w)
    cases hb : hasB k with
    | false =>
     rw [hb] at htp hHW
     rw [if_neg (by simp)] at htp
     have HT := zh htp; have HHW := zh hHW; clear hHW
     clear hpx htp hq htl hb
     go_wp2_with fail
     refine (HSG.out _).mono ?_
     rintro e w1 ⟨rfl, rfl⟩
     go_wp2_with fail
     refine (HPW.out _).mono ?_
     rintro e w1 ⟨rfl, rfl⟩
     go_wp2_with fail
     refine (HHW.out _).mono ?_
     rintro e w2 ⟨rfl, hb2⟩
     obtain ⟨hc, hf⟩ := bcell hb2
     have hal : Below w1.heap.size w1 (w1.alloc (.cells #[.int .i64 k, .string ⟨#[]⟩] 165)) := (Below.refl _ _).alloc (Nat.le_refl _) _
     have hce2 := ((hal.trans (hb2.mono (Nat.le_of_lt (by simp)))).block _ hgl).trans HCE.out
     have HB2 := zh (HB.out.trans ((hal.trans (hb2.mono (Nat.le_of_lt (by simp)))).mono (by omega)))
     obtain ⟨z0, z1, -⟩ := two_set hce2 (.int .i64 k) (.string ⟨#[]⟩)
     clear hb2 hal hce2
     go_wp2
     exact bodyPost_ret (v := .tuple #[.agg #[.int .i64 k, .string ⟨#[]⟩], .string ⟨q.toArray⟩]) (by simp [results, Tryz.results217, go_sem, z0, z1]) rfl (took_some HT.out rfl ((HB2.out.setCell (by simp) _).setCell (by simp) _))
    | true =>
     rw [hb] at htp hHW
     rw [if_pos rfl] at htp
     have HHW := zh hHW; clear hHW
     by_cases hcl : ((Lib.cut q [59]).2.2 && clsB (Lib.cut q [59]).1) = true
     ·obtain ⟨a, b, hab, hca⟩ : ∃ a b, Lib.cut q [59] = (a, b, true) ∧ clsB a = true := by
       rw [Bool.and_eq_true] at hcl
       exact ⟨_, _, Prod.ext rfl (Prod.ext rfl hcl.1), hcl.2⟩
      have hty : typeT s = some ((k, a), b) := by rw [htp]; unfold classT; rw [if_pos hcl, hab]
      have HT := zh hty
      have HCL := zh (fun w hm => class_ok q a b w htl hm hab hca)
      clear hpx htp hq htl hb hcl hab hca hty
      go_wp2_with fail
      refine (HSG.out _).mono ?_
      rintro e w1 ⟨rfl, rfl⟩
      go_wp2_with fail
      refine (HPW.out _).mono ?_
      rintro e w1 ⟨rfl, rfl⟩
      go_wp2_with fail
      refine (HHW.out _).mono ?_
      rintro e w2 ⟨rfl, hb2⟩
      obtain ⟨hc, hf⟩ := bcell hb2
      have hal : Below w1.heap.size w1 (w1.alloc (.cells #[.int .i64 k, .string ⟨#[]⟩] 165)) := (Below.refl _ _).alloc (Nat.le_refl _) _
      have hce2 := ((hal.trans (hb2.mono (Nat.le_of_lt (by simp)))).block _ hgl).trans HCE.out
      have HB2 := zh (HB.out.trans ((hal.trans (hb2.mono (Nat.le_of_lt (by simp)))).mono (by omega)))
      have hlt2 := blk_lt hce2
      have hce3 := fun n => ((Lib.grownBy_setCell (w2.drewN n) w1.heap.size 1 (.string ⟨a.toArray⟩)).block w.heap.size hlt2 (fun e => absurd (Option.some.inj e) (by omega))).trans hce2
      have hz := fun n => two_set (hce3 n) (.int .i64 k) (.string ⟨a.toArray⟩)
      have HZ := zh hz
      have HM2 := zh (HM.out.below HB2.out)
      have hh1 : w1.heap.size < w2.heap.size := by have := hb2.size; simp at this; omega
      clear hb2 hal hce2 hce3 hz
      go_wp2_with fail
      refine (HCL.out _ HM2.out).mono ?_
      rintro e w3 ⟨rfl, n, rfl⟩
      obtain ⟨z0, z1, -⟩ := HZ.out n
      go_wp2
      exact bodyPost_ret (v := .tuple #[.agg #[.int .i64 k, .string ⟨a.toArray⟩], .string ⟨b.toArray⟩]) (by simp [results, Tryz.results217, go_sem, z0, z1]) rfl (took_some HT.out rfl ((((over HB2.out).setCell (Nat.le_of_lt hgl) _).setCell (by simp) _).setCell (by simp) _))
     ·have hty : typeT s = none := by rw [htp]; unfold classT; rw [if_neg hcl]
      have HT := zh hty
      have HCL := zh (fun w hm => class_no q w htl hm (by simpa using hcl))
      clear hpx htp hq htl hb hcl hty
      go_wp2_with fail
      refine (HSG.out _).mono ?_
      rintro e w1 ⟨rfl, rfl⟩
      go_wp2_with fail
      refine (HPW.out _).mono ?_
      rintro e w1 ⟨rfl, rfl⟩
      go_wp2_with fail
      refine (HHW.out _).mono ?_
      rintro e w2 ⟨rfl, hb2⟩
      have hal : Below w1.heap.size w1 (w1.alloc (.cells #[.int .i64 k, .string ⟨#[]⟩] 165)) := (Below.refl _ _).alloc (Nat.le_refl _) _
      have HB2 := zh (HB.out.trans ((hal.trans (hb2.mono (Nat.le_of_lt (by simp)))).mono (by omega)))
      have HM2 := zh (HM.out.below HB2.out)
      clear hb2 hal
      go_wp2_with fail
      refine (HCL.out _ HM2.out).mono ?_
      rintro e w3 ⟨rfl, n, rfl⟩
      go_wp2
      exact ⟨rfl, took_none HT.out rfl (over HB2.out)⟩
  ·have HT := zh (type_miss (s := s) (fun j h1 h2 => HMS.out j h1 (by omega)))
   clear c20 c21 f20 f21
   go_wp2
   exact ⟨rfl, took_none HT.out rfl HB.out⟩
end Go.Proofs.YtjejmlpjifhmmaaGreatDoor.kind
namespace Go.Proofs.YtjejmlpjifhmmaaGreatDoor.kind
open Go.RowKit
open words kindp word
set_option maxRecDepth 100000
set_option maxHeartbeats 1600000
def Gave (q : Option Ty) (w : World) (e : Ending) (w' : World) : Prop :=
 (match q with
  | some t => e = .returned (tyV t)
  | none => e = .panicked [{ v := noV, recovered := false }]) ∧ Below w.heap.size w w'
theorem gave_some {q : Option Ty} {t : Ty} {w w' : World} {e : Ending} (h : q = some t) (he : e = .returned (tyV t)) (hb : Below w.heap.size w w') : Gave q w e w' := by
 unfold Gave; rw [h]; exact ⟨he, hb⟩
theorem gave_none {q : Option Ty} {w w' : World} {e : Ending} (h : q = none) (he : e = .panicked [{ v := noV, recovered := false }]) (hb : Below w.heap.size w w') : Gave q w e w' := by
 unfold Gave; rw [h]; exact ⟨he, hb⟩
theorem type_some {s r : Tx} {t : Ty} (w : World) (hs : s.length < 4294967281) (hm : Mx w) (h : typeT s = some (t, r)) :
  Calls Tryz.prog 217 #[.string ⟨s.toArray⟩] w fun e w' => e = .returned (.tuple #[tyV t, .string ⟨r.toArray⟩]) ∧ Below w.heap.size w w' :=
 (type_w s w hs hm).mono fun e w' hh => by unfold Took at hh; rw [h] at hh; exact hh
theorem type_none {s : Tx} (w : World) (hs : s.length < 4294967281) (hm : Mx w) (h : typeT s = none) :
  Calls Tryz.prog 217 #[.string ⟨s.toArray⟩] w fun e w' => e = .panicked [{ v := noV, recovered := false }] ∧ Below w.heap.size w w' :=
 (type_w s w hs hm).mono fun e w' hh => by unfold Took at hh; rw [h] at hh; exact hh
theorem two_alloc {w : World} {g : Nat} {a b : Value} {t : TypeId} (h : w.heap[g]? = some (.cells #[a, b] t (0, 0))) (x y : Value) (o : Obj) :
  (((w.setCell ⟨g, 0, none⟩ x).setCell ⟨g, 1, none⟩ y).alloc o).cell? ⟨g, 0, none⟩ = some x ∧ (((w.setCell ⟨g, 0, none⟩ x).setCell ⟨g, 1, none⟩ y).alloc o).cell? ⟨g, 1, none⟩ = some y := by
 have h2 := (two_set h x y).2.2
 have h3 := (((Below.refl _ ((w.setCell ⟨g, 0, none⟩ x).setCell ⟨g, 1, none⟩ y)).alloc (Nat.le_refl _) o).block g (blk_lt h2)).trans h2
 exact ⟨by rw [cell_of_row _ _ _ _ _ _ h3]; rfl, by rw [cell_of_row _ _ _ _ _ _ h3]; rfl⟩
theorem all_k (s : Tx) (w : World) (hs : s.length < 4294967281) (hm : Mx w) :
  Calls Tryz.prog 218 #[.string ⟨s.toArray⟩] w (Gave (allT s) w) := by
 have hp : ∀ (t : TypeId) (v : Value) (w : World), (Instr.panic (.iface t v)).run Tryz.prog w = .halt (.panic (.iface t v)) w := fun _ _ _ => rfl
 have hal : Below w.heap.size w (w.alloc (.cells #[.int .i64 0, .string ⟨#[]⟩] 165)) := (Below.refl _ _).alloc (Nat.le_refl _) _
 have HAL := zh hal
 have HM := zh (hm.below hal)
 cases h : typeT s with
 | none =>
  have HT := zh (fun w hm => type_none w hs hm h)
  have HA := zh (show allT s = none by unfold allT; rw [h])
  clear h hs hm hal
  go_enter Tryz.func218, Tryz.ntmps218
  go_wp2_with fail
  refine (HT.out _ HM.out).mono ?_
  rintro e w1 ⟨rfl, hb1⟩
  have HB := zh (HAL.out.trans (hb1.mono (by simp)))
  clear hb1
  go_wp2
  exact ⟨rfl, gave_none HA.out rfl HB.out⟩
 | some tr =>
  obtain ⟨⟨k, c⟩, r⟩ := tr
  have HT := zh (fun w hm => type_some w hs hm h)
  have hcell0 := heap_alloc_new w (.cells #[.int .i64 0, .string ⟨#[]⟩] 165)
  cases r with
  | nil =>
   have HA := zh (show allT s = some (k, c) by unfold allT; rw [h])
   have HC := zh hcell0
   clear h hs hm hal hcell0
   go_enter Tryz.func218, Tryz.ntmps218
   go_wp2_with fail
   refine (HT.out _ HM.out).mono ?_
   rintro e w1 ⟨rfl, hb1⟩
   unfold tyV
   dsimp only
   have hh1 := hb1.size
   simp at hh1
   have hce := (hb1.block w.heap.size (by simp)).trans HC.out
   obtain ⟨z0, z1⟩ := two_alloc hce (.int .i64 k) (.string ⟨c.toArray⟩) (.cells #[.int .i64 k, .string ⟨c.toArray⟩] 165)
   have c0 : w1.cell? ⟨w.heap.size, 0, none⟩ = some (.int .i64 0) := cell_of_row _ _ _ _ _ _ hce
   have c1 : w1.cell? ⟨w.heap.size, 1, none⟩ = some (.string ⟨#[]⟩) := cell_of_row _ _ _ _ _ _ hce
   have f0 := frozen_of_row w1 _ 0 _ _ hce
   have f1 := frozen_of_row w1 _ 1 _ _ hce
   have HB := zh (HAL.out.trans (hb1.mono (by simp)))
   have hlt : w.heap.size < w1.heap.size := by omega
   clear hb1 hce hh1
   go_wp2
   exact bodyPost_ret (v := .agg #[.int .i64 k, .string ⟨c.toArray⟩]) (by simp [results, Tryz.results218, go_sem, z0, z1]) rfl (gave_some HA.out rfl (((HB.out.setCell (by simp) _).setCell (by simp) _).alloc (by simp; omega) _))
  | cons x r =>
   have HA := zh (show allT s = none by unfold allT; rw [h])
   clear h hs hm hal hcell0
   go_enter Tryz.func218, Tryz.ntmps218
   go_wp2_with fail
   refine (HT.out _ HM.out).mono ?_
   rintro e w1 ⟨rfl, hb1⟩
   unfold tyV
   dsimp only
   have HB := zh (HAL.out.trans (hb1.mono (by simp)))
   have hbl : w.heap.size ≤ w1.heap.size := by have := hb1.size; simp at this; omega
   clear hb1
   go_wp2
   exact ⟨rfl, gave_none HA.out rfl (HB.out.alloc hbl _)⟩
end Go.Proofs.YtjejmlpjifhmmaaGreatDoor.kind
namespace Go.Proofs.YtjejmlpjifhmmaaGreatDoor.kind
open Go.RowKit
open words kindp word rdr
set_option maxRecDepth 100000
def Caught (g : Nat) (t : TypeId) (w : World) (e : Ending) (u' : FrameMode) (w' : World) : Prop :=
 e = .returned (.tuple #[]) ∧ u' = .panicking [{ v := noV, recovered := true }] ∧ w'.heap[g]? = some (.cells #[.int .i64 1] t (0, 0)) ∧ But g w w'
theorem caught_at {g : Nat} {t u : TypeId} {w : World} (hg : w.heap[g]? = some (.cells #[.int .i64 0] t (0, 0))) :
  ((w.setCell ⟨g, 0, none⟩ (.int .i64 1)).alloc (.cells #[] u)).heap[g]? = some (.cells #[.int .i64 1] t (0, 0)) ∧ But g w ((w.setCell ⟨g, 0, none⟩ (.int .i64 1)).alloc (.cells #[] u)) := by
 have h1 := heap_setCell_same w g 0 _ _ (.int .i64 1) hg
 exact ⟨(((Below.refl _ (w.setCell ⟨g, 0, none⟩ (.int .i64 1))).alloc (Nat.le_refl _) _).block g (blk_lt h1)).trans h1, ((But.refl g w).set 0 _).alloc _⟩
theorem caught_at2 {g : Nat} {t u : TypeId} {w : World} (hg : w.heap[g]? = some (.cells #[.int .i64 0] t (0, 0))) :
  ((w.alloc (.cells #[] u)).setCell ⟨g, 0, none⟩ (.int .i64 1)).heap[g]? = some (.cells #[.int .i64 1] t (0, 0)) ∧ But g w ((w.alloc (.cells #[] u)).setCell ⟨g, 0, none⟩ (.int .i64 1)) := by
 have h0 := (((Below.refl _ w).alloc (Nat.le_refl _) (.cells #[] u)).block g (blk_lt hg)).trans hg
 exact ⟨heap_setCell_same _ g 0 _ _ (.int .i64 1) h0, ((But.refl g w).alloc _).set 0 _⟩
theorem two_new (w : World) (A B : Obj) : ((w.alloc A).alloc B).heap[w.heap.size]? = some A ∧ ((w.alloc A).alloc B).heap[w.heap.size + 1]? = some B := by
 have h1 := heap_alloc_new w A
 have h2 := heap_alloc_new (w.alloc A) B
 rw [show (w.alloc A).heap.size = w.heap.size + 1 by simp] at h2
 exact ⟨(((Below.refl _ (w.alloc A)).alloc (Nat.le_refl _) B).block _ (blk_lt h1)).trans h1, h2⟩
end Go.Proofs.YtjejmlpjifhmmaaGreatDoor.kind
namespace Go.Proofs.YtjejmlpjifhmmaaGreatDoor.kind
open Go.RowKit
open words kindp
set_option maxRecDepth 100000
def TL (l : List Ty) : List Value := l.flatMap fun t => [.int .i64 t.1, .string ⟨t.2.toArray⟩]
theorem TL_app (a b : List Ty) : TL (a ++ b) = TL a ++ TL b := by simp [TL]
theorem infoT : (Tryz.prog.info? 165).map (fun i => (i.zero, i.size, i.bytes)) = some (some (.agg #[.int .i64 0, .string ⟨#[]⟩]), 2, 24) := by kernel_rfl
end Go.Proofs.YtjejmlpjifhmmaaGreatDoor.kind
namespace Go.Proofs.YtjejmlpjifhmmaaGreatDoor.kind
open Go.RowKit
open words kindp word piece rdr
set_option maxRecDepth 100000
set_option maxHeartbeats 4000000
def Vd (w : World) : Prop := w.cell? ⟨0, 0, none⟩ = some (.int .i64 1) ∧ w.cell? ⟨0, 1, none⟩ = some (.string ⟨#[]⟩)
theorem Vd.below {w w' : World} (h : Vd w) (hb : Below w.heap.size w w') : Vd w' :=
 ⟨(hb.cell (World.block_lt_of_cell? _ _ h.1)).trans h.1, (hb.cell (World.block_lt_of_cell? _ _ h.2)).trans h.2⟩
def GaveS (q : Option (List Ty × Ty)) (w : World) (e : Ending) (w' : World) : Prop :=
 (match q with
  | some (p, t) => ∃ v, e = .returned (.agg #[v, .int .i64 t.1, .string ⟨t.2.toArray⟩]) ∧ w'.ownsRow w.heap.size 165 2 v p.length (TL p)
  | none => e = .panicked [{ v := noV, recovered := false }]) ∧ Below w.heap.size w w'
theorem gaveS_some {q : Option (List Ty × Ty)} {p : List Ty} {t : Ty} {w w' : World} {e : Ending} (h : q = some (p, t)) (v : Value) (he : e = .returned (.agg #[v, .int .i64 t.1, .string ⟨t.2.toArray⟩])) (ho : w'.ownsRow w.heap.size 165 2 v p.length (TL p)) (hb : Below w.heap.size w w') : GaveS q w e w' := by
 unfold GaveS; rw [h]; exact ⟨⟨v, he, ho⟩, hb⟩
theorem gaveS_none {q : Option (List Ty × Ty)} {w w' : World} {e : Ending} (h : q = none) (he : e = .panicked [{ v := noV, recovered := false }]) (hb : Below w.heap.size w w') : GaveS q w e w' := by
 unfold GaveS; rw [h]; exact ⟨he, hb⟩
theorem all_some {s : Tx} {t : Ty} (w : World) (hs : s.length < 4294967281) (hm : Mx w) (h : allT s = some t) :
  Calls Tryz.prog 218 #[.string ⟨s.toArray⟩] w fun e w' => e = .returned (.agg #[.int .i64 t.1, .string ⟨t.2.toArray⟩]) ∧ Below w.heap.size w w' :=
 (all_k s w hs hm).mono fun e w' hh => by unfold Gave at hh; rw [h] at hh; exact hh
theorem all_none {s : Tx} (w : World) (hs : s.length < 4294967281) (hm : Mx w) (h : allT s = none) :
  Calls Tryz.prog 218 #[.string ⟨s.toArray⟩] w fun e w' => e = .panicked [{ v := noV, recovered := false }] ∧ Below w.heap.size w w' :=
 (all_k s w hs hm).mono fun e w' hh => by unfold Gave at hh; rw [h] at hh; exact hh
theorem has_w2 (s p : Tx) (w : World) :
  Calls Tryz.prog 216 #[.string ⟨s.toArray⟩, .string ⟨p.toArray⟩] w fun e w' => e = .returned (.bool (Lib.hasPrefix s p)) ∧ w' = w :=
 Tryz.strings_HasPrefix ⟨s.toArray⟩ ⟨p.toArray⟩ w
theorem pre_head (s : Tx) (c : UInt8) : Lib.hasPrefix s [c] = decide (s.head? = some c) := by
 unfold Lib.hasPrefix
 cases s with
 | nil => rfl
 | cons x r => simp [List.isPrefixOf, eq_comm (a := x)]; rfl
def strLen (v : Value) : Nat := match v with | .string s => s.size | _ => 0
theorem ext_tail (r : Tx) : (⟨r.toArray⟩ : ByteArray).extract 1 r.length = ⟨r.tail.toArray⟩ := by
 apply ByteArray.ext
 rw [← Array.toList_inj, ext_data]
 show (r.drop 1).take (r.length - 1) = r.tail
 rw [List.drop_one, List.take_of_length_le (by simp)]
theorem three_set {w : World} {g : Nat} {a b c : Value} {t : TypeId} (h : w.heap[g]? = some (.cells #[a, b, c] t (0, 0))) (x y z : Value) :
  (w.setCell ⟨g, 0, none⟩ x).cell? ⟨g, 0, none⟩ = some x ∧ ((w.setCell ⟨g, 0, none⟩ x).setCell ⟨g, 1, none⟩ y).cell? ⟨g, 1, none⟩ = some y ∧ (((w.setCell ⟨g, 0, none⟩ x).setCell ⟨g, 1, none⟩ y).setCell ⟨g, 2, none⟩ z).cell? ⟨g, 2, none⟩ = some z := by
 have h1 := heap_setCell_same w g 0 _ _ x h
 have h2 := heap_setCell_same _ g 1 _ _ y h1
 have h3 := heap_setCell_same _ g 2 _ _ z h2
 exact ⟨by rw [cell_of_row _ _ _ _ _ _ h1]; rfl, by rw [cell_of_row _ _ _ _ _ _ h2]; rfl, by rw [cell_of_row _ _ _ _ _ _ h3]; rfl⟩
theorem last_set {w : World} {g : Nat} {a b c : Value} {t : TypeId} (h : w.heap[g]? = some (.cells #[a, b, c] t (0, 0))) (y z : Value) :
  ((w.setCell ⟨g, 1, none⟩ y).setCell ⟨g, 2, none⟩ z).heap[g]? = some (.cells #[a, y, z] t (0, 0)) ∧ But g w ((w.setCell ⟨g, 1, none⟩ y).setCell ⟨g, 2, none⟩ z) := by
 have h2 := heap_setCell_same w g 1 _ _ y h
 have h3 := heap_setCell_same _ g 2 _ _ z h2
 exact ⟨h3, ((But.refl g w).set 1 _).set 2 _⟩
theorem own_ne {w : World} {base : Nat} {e : TypeId} {size : Nat} {v : Value} {n : Nat} {xs : List Value} (h : w.ownsRow base e size v n xs) {b : Nat} (hb : b < base) : some b ≠ v.ownBlock := fun e1 => by
 have := (h.lt b e1.symm).1; omega
theorem own_but {w w' : World} {base : Nat} {e : TypeId} {size : Nat} {v : Value} {n : Nat} {xs : List Value} (h : w.ownsRow base e size v n xs) {b : Nat} (hb : b < base) (hg : But b w w') : w'.ownsRow base e size v n xs :=
 h.kept hg (.inr (own_ne h hb).symm)
theorem own_old {w : World} {base : Nat} {e : TypeId} {size : Nat} {v : Value} {n : Nat} {xs : List Value} (h : w.ownsRow base e size v n xs) {b : Nat} (hb : w.heap.size ≤ b) : some b ≠ v.ownBlock := fun e1 => by
 have := (h.lt b e1.symm).2; omega
theorem new_rd {w W : World} (cs : Array Value) (t : TypeId) (k : Nat) (hW : W.heap.size = w.heap.size) (xs : List Value) (hx : cs.toList.take k = xs) : Rd (W.alloc (.cells cs t)) (some ⟨w.heap.size, 0, none⟩) xs := by
 rw [← hW]; exact rd_blk (heap_alloc_new W _) hx
theorem but_ne {w w' : World} {b g : Nat} {o : Obj} (hg : But b w w') (h : w.heap[g]? = some o) (hne : g ≠ b) : w'.heap[g]? = some o := hg.heap h hne
def SigI (G : Option (List Ty × Ty)) (n : Nat) (acc : List Ty) (r : Tx) : Prop := sigT (r.length + 1) acc r = G ∧ acc.length + r.length ≤ n
theorem sig_w (s : Tx) (w : World) (hs : s.length ≤ 65536) (hm : Mx w) (hv : Vd w) :
  Calls Tryz.prog 161 #[.string ⟨s.toArray⟩] w (GaveS (sigD s) w) := by
 have hp : ∀ (t : TypeId) (v : Value) (w : World), (Instr.panic (.iface t v)).run Tryz.prog w = .halt (.panic (.iface t v)) w := fun _ _ _ => rfl
 have hal : Below w.heap.size w (w.alloc (.cells #[.slice none 0 0, .int .i64 0, .string ⟨#[]⟩] 290)) := (Below.refl _ _).alloc (Nat.le_refl _) _
 have HAL := zh hal
 have hP := (fun w => prefix_w s [40] w)
 rw [pre_head] at hP
 by_cases h40 : s.head? = some 40
 ·rw [decide_eq_true h40] at hP
  obtain ⟨r0, rfl⟩ : ∃ r, s = 40 :: r := by
   cases s with
   | nil => cases h40
   | cons x r => cases h40; exact ⟨r, rfl⟩
  rw [show Lib.trimPrefix (40 :: r0) [40] = r0 by rw [trim_at (by rw [pre_head]; rfl)]; rfl] at hP
  have hG : SigI (sigD (40 :: r0)) r0.length [] r0 := by
   refine ⟨?_, by simp⟩
   unfold sigD
   rw [if_pos (show (40 :: r0).head? = some 40 from rfl), List.tail_cons]
   exact sig_fuel _ _ _ _ (by omega) (by simp; omega)
  obtain ⟨G, hGG⟩ : ∃ G, G = sigD (40 :: r0) := ⟨_, rfl⟩
  rw [← hGG] at hG ⊢
  have hn : r0.length ≤ 65536 := by have : (40 :: r0).length = r0.length + 1 := rfl; omega
  obtain ⟨n, hnn⟩ : ∃ n, n = r0.length := ⟨_, rfl⟩
  rw [← hnn] at hG hn
  have HG := zh hG; have HP := zh hP
  have HM := zh hm; have HV := zh hv
  obtain ⟨i0, hi0, hz0, hz1, hz2⟩ := info_parts infoT
  clear hG hP h40 hs hal hGG hnn hm hv
  go_enter Tryz.func161, Tryz.ntmps161
  go_wp2_with fail
  refine (HP.out _).mono ?_
  rintro e w1 ⟨rfl, rfl⟩
  go_wp2
  go_loopw [3] (fun i wr => ∃ (r : Tx) (acc : List Ty) (v : Value), i = .string ⟨r.toArray⟩ ∧ SigI G n acc r ∧ wr.heap[w.heap.size]? = some (.cells #[.slice none 0 0, .int .i64 0, .string ⟨#[]⟩] 290 (0, 0)) ∧ wr.heap[w.heap.size + 1]? = some (.cells #[v, .int .i64 0, .string ⟨#[]⟩] 290 (0, 0)) ∧ wr.ownsRow (w.heap.size + 2) 165 2 v acc.length (TL acc) ∧ Below w.heap.size w wr) (fun i _ => strLen i)
  case atStart => exact ⟨r0, [], .slice none 0 0, rfl, HG.out, (two_new w _ _).1, (two_new w _ _).2, World.ownsRow_nil _ _ _ _, HAL.out.alloc (by simp) _⟩
  case round =>
   obtain ⟨r, acc, v, rfl, hsig, hg2, hg5, hown, hbw⟩ := hrel
   have HSI := zh hsig; have HG2 := zh hg2; have HG5 := zh hg5; have HO := zh hown; have HB := zh hbw
   have HMR := zh (HM.out.below hbw); have HVR := zh (HV.out.below hbw)
   have hrl : r.length < 4294967281 := by have := hsig.2; omega
   have HH := (fun w => has_w2 r [41] w)
   rw [pre_head] at HH
   by_cases h41 : r.head? = some 41
   ·rw [decide_eq_true h41] at HH
    have HHP := zh HH
    have HE := zh (ext_tail r)
    have htl : r.tail.length < 4294967281 := by rw [List.length_tail]; omega
    obtain ⟨q, rfl⟩ : ∃ q, r = 41 :: q := by
     cases r with
     | nil => cases h41
     | cons x q => cases h41; exact ⟨q, rfl⟩
    have hd := hsig.1
    rw [sig_done] at hd
    have hG5L := blk_lt hg5
    cases hall : allT q with
    | none =>
     have hA := (fun w hm => all_none (s := q) w (by simpa using htl) hm hall)
     rw [hall] at hd
     have HA := zh hA; have HD := zh hd.symm
     clear HH hsig hg2 hg5 hown hbw hA hd hall htl
     go_wp2_with fail
     refine (HHP.out _).mono ?_
     rintro e w1 ⟨rfl, rfl⟩
     go_wp2_with fail
     rw [show (⟨(41 :: q).toArray⟩ : ByteArray).extract 1 (q.length + 1) = ⟨q.toArray⟩ from HE.out]
     refine (HA.out _ HMR.out).mono ?_
     rintro e w2 ⟨rfl, hb2⟩
     exact ⟨rfl, gaveS_none HD.out rfl (HB.out.trans (hb2.mono HB.out.size))⟩
    | some t =>
     obtain ⟨k, c⟩ := t
     have hA := (fun w hm => all_some (s := q) w (by simpa using htl) hm hall)
     rw [hall] at hd
     have HA := zh hA; have HD := zh hd.symm
     clear HH hsig hg2 hg5 hown hbw hA hd hall htl
     go_wp2_with fail
     refine (HHP.out _).mono ?_
     rintro e w1 ⟨rfl, rfl⟩
     go_wp2_with fail
     rw [show (⟨(41 :: q).toArray⟩ : ByteArray).extract 1 (q.length + 1) = ⟨q.toArray⟩ from HE.out]
     refine (HA.out _ HMR.out).mono ?_
     rintro e w2 ⟨rfl, hb2⟩
     dsimp only
     have hg2 := (hb2.block _ (blk_lt HG2.out)).trans HG2.out
     have hg5 := (hb2.block _ (blk_lt HG5.out)).trans HG5.out
     have c50 : w2.cell? ⟨w.heap.size + 1, 0, none⟩ = some v := cell_of_row _ _ _ _ _ _ hg5
     have c51 : w2.cell? ⟨w.heap.size + 1, 1, none⟩ = some (.int .i64 0) := cell_of_row _ _ _ _ _ _ hg5
     have c52 : w2.cell? ⟨w.heap.size + 1, 2, none⟩ = some (.string ⟨#[]⟩) := cell_of_row _ _ _ _ _ _ hg5
     have f51 := frozen_of_row w2 _ 1 _ _ hg5
     have f52 := frozen_of_row w2 _ 2 _ _ hg5
     have c20 : w2.cell? ⟨w.heap.size, 0, none⟩ = some (.slice none 0 0) := cell_of_row _ _ _ _ _ _ hg2
     have c21 : w2.cell? ⟨w.heap.size, 1, none⟩ = some (.int .i64 0) := cell_of_row _ _ _ _ _ _ hg2
     have c22 : w2.cell? ⟨w.heap.size, 2, none⟩ = some (.string ⟨#[]⟩) := cell_of_row _ _ _ _ _ _ hg2
     have f20 := frozen_of_row w2 _ 0 _ _ hg2
     have f21 := frozen_of_row w2 _ 1 _ _ hg2
     have f22 := frozen_of_row w2 _ 2 _ _ hg2
     have HB2 := zh (HB.out.trans (hb2.mono HB.out.size))
     have HO2 := zh (own_below HO.out hb2)
     obtain ⟨A, cc, rfl, _, _, _⟩ := own_rd HO2.out
     obtain ⟨hq5, hbt5⟩ := last_set hg5 (.int .i64 k) (.string ⟨c.toArray⟩)
     have hq2 := but_ne hbt5 hg2 (by omega)
     obtain ⟨z0, z1, z2⟩ := three_set hq2 (.slice A acc.length cc) (.int .i64 k) (.string ⟨c.toArray⟩)
     have HO3 := zh (own_base (own_but (own_but HO2.out (b := w.heap.size + 1) (by omega) hbt5) (b := w.heap.size) (by omega) ((((But.refl w.heap.size _).set 0 (.slice A acc.length cc)).set 1 (.int .i64 k)).set 2 (.string ⟨c.toArray⟩))) (base' := w.heap.size) (by omega))
     clear hb2 hg2 hg5 hq5 hbt5 hq2
     go_wp2
     exact bodyPost_ret (v := .agg #[.slice A acc.length cc, .int .i64 k, .string ⟨c.toArray⟩]) (by simp [results, Tryz.results161, go_sem, z0, z1, z2]) rfl (gaveS_some HD.out _ rfl HO3.out (((((HB2.out.setCell (by simp) _).setCell (by simp) _).setCell (by simp) _).setCell (by simp) _).setCell (by simp) _))
   ·rw [decide_eq_false h41] at HH
    have HHP := zh HH
    obtain ⟨hsg, hln⟩ := hsig
    have hal6 : Below wr.heap.size wr (wr.alloc (.cells #[.int .i64 0, .string ⟨#[]⟩] 165)) := (Below.refl _ _).alloc (Nat.le_refl _) _
    have HM6 := zh (HMR.out.below hal6); have HV6 := zh (HVR.out.below hal6)
    have HAL6 := zh hal6
    cases htt : typeT r with
    | none =>
     rw [sig_none h41 htt] at hsg
     have HD := zh hsg.symm
     have HT := zh (fun w hm => type_none (s := r) w hrl hm htt)
     clear HH hg2 hg5 hown hbw hal6 hsg htt h41 hln
     go_wp2_with fail
     refine (HHP.out _).mono ?_
     rintro e w1 ⟨rfl, rfl⟩
     go_wp2_with fail
     refine (HT.out _ HM6.out).mono ?_
     rintro e w2 ⟨rfl, hb2⟩
     exact ⟨rfl, gaveS_none HD.out rfl (HB.out.trans ((HAL6.out.trans (hb2.mono (by simp))).mono HB.out.size))⟩
    | some tr =>
     obtain ⟨⟨k, c⟩, q⟩ := tr
     have hql := type_less htt
     have HT := zh (fun w hm => type_some (s := r) w hrl hm htt)
     by_cases hvd : ((k, c) : Ty) = (1, [])
     ·cases hvd
      rw [sig_void h41 htt] at hsg
      have HD := zh hsg.symm
      clear HH hg2 hg5 hown hbw hal6 hsg htt h41 hln hql
      go_wp2_with fail
      refine (HHP.out _).mono ?_
      rintro e w1 ⟨rfl, rfl⟩
      go_wp2_with fail
      refine (HT.out _ HM6.out).mono ?_
      rintro e w2 ⟨rfl, hb2⟩
      unfold tyV
      dsimp only
      have hg6 := (hb2.block w1.heap.size (by simp)).trans (heap_alloc_new w1 _)
      obtain ⟨z0, z1, hz6⟩ := two_set hg6 (.int .i64 1) (.string ⟨#[]⟩)
      have c60 : w2.cell? ⟨w1.heap.size, 0, none⟩ = some (.int .i64 0) := cell_of_row _ _ _ _ _ _ hg6
      have c61 : w2.cell? ⟨w1.heap.size, 1, none⟩ = some (.string ⟨#[]⟩) := cell_of_row _ _ _ _ _ _ hg6
      have f60 := frozen_of_row w2 _ 0 _ _ hg6
      have f61 := frozen_of_row w2 _ 1 _ _ hg6
      obtain ⟨v0, v1⟩ := HV6.out.below hb2
      have hgv : 0 < w1.heap.size := World.block_lt_of_cell? _ _ HVR.out.1
      have hgn : ¬ w1.heap.size = 0 := by omega
      have hb12 := HAL6.out.trans (hb2.mono (by simp))
      have HB2 := zh (HB.out.trans (hb12.mono HB.out.size))
      clear hb2 hg6 hz6 hb12
      go_wp2
      exact ⟨rfl, gaveS_none HD.out rfl ((HB2.out.setCell HB.out.size _).setCell HB.out.size _)⟩
     ·rw [sig_next h41 htt hvd] at hsg
      have HNX := zh (show SigI G n (acc ++ [(k, c)]) q from ⟨hsg, by rw [List.length_append]; show acc.length + 1 + q.length ≤ n; omega⟩)
      have hacc : acc.length ≤ 65536 := by omega
      have hk1 : (k = 1 ∧ c ≠ []) ∨ (k == 1) = false := by
       by_cases h : k = 1
       ·exact .inl ⟨h, fun h2 => hvd (by rw [h, h2])⟩
       ·exact .inr (by simpa using h)
      obtain ⟨A, cc, rfl, _, _, _⟩ := own_rd HO.out
      clear HH hg2 hg5 hown hbw hal6 hsg htt h41 hln hvd
      go_wp2_with fail
      refine (HHP.out _).mono ?_
      rintro e w1 ⟨rfl, rfl⟩
      go_wp2_with fail
      refine (HT.out _ HM6.out).mono ?_
      rintro e w2 ⟨rfl, hb2⟩
      unfold tyV
      dsimp only
      have hg6 := (hb2.block w1.heap.size (by simp)).trans (heap_alloc_new w1 _)
      obtain ⟨z0, z1, hz6⟩ := two_set hg6 (.int .i64 k) (.string ⟨c.toArray⟩)
      have c60 : w2.cell? ⟨w1.heap.size, 0, none⟩ = some (.int .i64 0) := cell_of_row _ _ _ _ _ _ hg6
      have c61 : w2.cell? ⟨w1.heap.size, 1, none⟩ = some (.string ⟨#[]⟩) := cell_of_row _ _ _ _ _ _ hg6
      have f60 := frozen_of_row w2 _ 0 _ _ hg6
      have f61 := frozen_of_row w2 _ 1 _ _ hg6
      obtain ⟨v0, v1⟩ := HV6.out.below hb2
      have hgv : 0 < w1.heap.size := World.block_lt_of_cell? _ _ HVR.out.1
      have hgn : ¬ w1.heap.size = 0 := by omega
      have hb12 := HAL6.out.trans (hb2.mono (by simp))
      have HB2 := zh (HB.out.trans (hb12.mono HB.out.size))
      have HO2 := own_below HO.out hb12
      have HO3 := HO2.kept (((But.refl w1.heap.size w2).set 0 (.int .i64 k)).set 1 (.string ⟨c.toArray⟩)) (.inr (own_old HO.out (Nat.le_refl _)).symm)
      have HO4 := zh (HO3.alloc (.cells #[.int .i64 k, .string ⟨c.toArray⟩] 165))
      have hq2 := (hb12.block _ (blk_lt HG2.out)).trans HG2.out
      have hq5 := (hb12.block _ (blk_lt HG5.out)).trans HG5.out
      have c50 : w2.cell? ⟨w.heap.size + 1, 0, none⟩ = some (.slice A acc.length cc) := cell_of_row _ _ _ _ _ _ hq5
      have f50 := frozen_of_row w2 _ 0 _ _ hq5
      have hl5 := blk_lt HG5.out
      have hl2 := blk_lt HG2.out
      have HQ2 := zh hq2; have HQ5 := zh hq5
      have hsz2 := hb12.size
      clear hb2 hg6 hb12 HO2 HO3 hq2 hq5 hz6
      have HQ2A := zh ((((Below.refl _ ((w2.setCell ⟨w1.heap.size, 0, none⟩ (.int .i64 k)).setCell ⟨w1.heap.size, 1, none⟩ (.string ⟨c.toArray⟩))).alloc (Nat.le_refl _) (.cells #[.int .i64 k, .string ⟨c.toArray⟩] 165)).block _ (by simp; omega)).trans (but_ne (((But.refl w1.heap.size w2).set 0 (.int .i64 k)).set 1 (.string ⟨c.toArray⟩)) HQ2.out (by omega)))
      have HQ5A := zh ((((Below.refl _ ((w2.setCell ⟨w1.heap.size, 0, none⟩ (.int .i64 k)).setCell ⟨w1.heap.size, 1, none⟩ (.string ⟨c.toArray⟩))).alloc (Nat.le_refl _) (.cells #[.int .i64 k, .string ⟨c.toArray⟩] 165)).block _ (by simp; omega)).trans (but_ne (((But.refl w1.heap.size w2).set 0 (.int .i64 k)).set 1 (.string ⟨c.toArray⟩)) HQ5.out (by omega)))
      have HB5 := zh (((HB2.out.setCell (p := ⟨w1.heap.size, 0, none⟩) HB.out.size (.int .i64 k)).setCell (p := ⟨w1.heap.size, 1, none⟩) HB.out.size (.string ⟨c.toArray⟩)).alloc (by simp; omega) (.cells #[.int .i64 k, .string ⟨c.toArray⟩] 165))
      have HRD := zh (new_rd (w := w2) (W := (w2.setCell ⟨w1.heap.size, 0, none⟩ (.int .i64 k)).setCell ⟨w1.heap.size, 1, none⟩ (.string ⟨c.toArray⟩)) #[.int .i64 k, .string ⟨c.toArray⟩] 165 2 (by simp) [.int .i64 k, .string ⟨c.toArray⟩] rfl)
      rcases hk1 with ⟨rfl, hc0⟩ | hk1
      ·go_wp2_with (at_builtin; refine wpList_app _ rfl (.tmp 30) (.tmp 32) _ rfl (w.heap.size + 2) 165 i0 _ 2 24 Tryz.underlying243 hi0 hz0 hz1 hz2 rfl (by omega) _ acc.length (TL acc) rfl HO4.out _ 1 1 [.int .i64 1, .string ⟨c.toArray⟩] rfl rfl HRD.out (by simp [Value.oneCell']) (by simp only [maxLen]; omega) (by omega) (by simp; omega) ?_; intro v7 w7 hown7 hg7 hb7 hat7; clear hat7; obtain ⟨A7, cc7, rfl, _, _, _⟩ := own_rd hown7; have hq7 := (hb7.block (w.heap.size + 1) (by omega)).trans HQ5A.out; have c57 : w7.cell? ⟨w.heap.size + 1, 0, none⟩ = some (.slice A acc.length cc) := cell_of_row _ _ _ _ _ _ hq7; have f57 := frozen_of_row w7 _ 0 _ _ hq7)
       have hown8 : w7.ownsRow (w.heap.size + 2) 165 2 (.slice A7 (acc.length + 1) cc7) (acc ++ [((1, c) : Ty)]).length (TL (acc ++ [(1, c)])) := by rw [List.length_append, TL_app]; exact hown7
       have hown9 := own_but hown8 (b := w.heap.size + 1) (by omega) ((But.refl (w.heap.size + 1) w7).set 0 (.slice A7 (acc.length + 1) cc7))
       have hq9 : (w7.setCell ⟨w.heap.size + 1, 0, none⟩ (.slice A7 (acc.length + 1) cc7)).heap[w.heap.size + 1]? = some (.cells #[.slice A7 (acc.length + 1) cc7, .int .i64 0, .string ⟨#[]⟩] 290 (0, 0)) := heap_setCell_same w7 (w.heap.size + 1) 0 _ _ (.slice A7 (acc.length + 1) cc7) hq7
       have hq29 := but_ne ((But.refl (w.heap.size + 1) w7).set 0 (.slice A7 (acc.length + 1) cc7)) ((hb7.block w.heap.size (by omega)).trans HQ2A.out) (by omega)
       have HB9 := zh ((HB5.out.trans (hb7.mono (by omega))).setCell (p := ⟨w.heap.size + 1, 0, none⟩) (by simp) (.slice A7 (acc.length + 1) cc7))
       have HO9 := zh hown9; have HQ9 := zh hq9; have HQ29 := zh hq29
       clear hown7 hg7 hb7 hown8 hown9 hq7 hq9 hq29 c57 f57
       go_roundw
       case rel => exact ⟨q, acc ++ [((1, c) : Ty)], _, rfl, HNX.out, HQ29.out, HQ9.out, HO9.out, HB9.out⟩
       case measure => first | (simp [strLen, mk_len]; omega) | (simp [strLen]; rw [mk_len, mk_len]; omega)
      ·go_wp2_with (at_builtin; refine wpList_app _ rfl (.tmp 30) (.tmp 32) _ rfl (w.heap.size + 2) 165 i0 _ 2 24 Tryz.underlying243 hi0 hz0 hz1 hz2 rfl (by omega) _ acc.length (TL acc) rfl HO4.out _ 1 1 [.int .i64 k, .string ⟨c.toArray⟩] rfl rfl HRD.out (by simp [Value.oneCell']) (by simp only [maxLen]; omega) (by omega) (by simp; omega) ?_; intro v7 w7 hown7 hg7 hb7 hat7; clear hat7; obtain ⟨A7, cc7, rfl, _, _, _⟩ := own_rd hown7; have hq7 := (hb7.block (w.heap.size + 1) (by omega)).trans HQ5A.out; have c57 : w7.cell? ⟨w.heap.size + 1, 0, none⟩ = some (.slice A acc.length cc) := cell_of_row _ _ _ _ _ _ hq7; have f57 := frozen_of_row w7 _ 0 _ _ hq7)
       have hown8 : w7.ownsRow (w.heap.size + 2) 165 2 (.slice A7 (acc.length + 1) cc7) (acc ++ [((k, c) : Ty)]).length (TL (acc ++ [(k, c)])) := by rw [List.length_append, TL_app]; exact hown7
       have hown9 := own_but hown8 (b := w.heap.size + 1) (by omega) ((But.refl (w.heap.size + 1) w7).set 0 (.slice A7 (acc.length + 1) cc7))
       have hq9 : (w7.setCell ⟨w.heap.size + 1, 0, none⟩ (.slice A7 (acc.length + 1) cc7)).heap[w.heap.size + 1]? = some (.cells #[.slice A7 (acc.length + 1) cc7, .int .i64 0, .string ⟨#[]⟩] 290 (0, 0)) := heap_setCell_same w7 (w.heap.size + 1) 0 _ _ (.slice A7 (acc.length + 1) cc7) hq7
       have hq29 := but_ne ((But.refl (w.heap.size + 1) w7).set 0 (.slice A7 (acc.length + 1) cc7)) ((hb7.block w.heap.size (by omega)).trans HQ2A.out) (by omega)
       have HB9 := zh ((HB5.out.trans (hb7.mono (by omega))).setCell (p := ⟨w.heap.size + 1, 0, none⟩) (by simp) (.slice A7 (acc.length + 1) cc7))
       have HO9 := zh hown9; have HQ9 := zh hq9; have HQ29 := zh hq29
       clear hown7 hg7 hb7 hown8 hown9 hq7 hq9 hq29 c57 f57
       go_roundw
       case rel => exact ⟨q, acc ++ [((k, c) : Ty)], _, rfl, HNX.out, HQ29.out, HQ9.out, HO9.out, HB9.out⟩
       case measure => first | (simp [strLen, mk_len]; omega) | (simp [strLen]; rw [mk_len, mk_len]; omega)
 ·rw [decide_eq_false h40] at hP
  have HP := zh hP
  have HG := zh (show sigD s = none by unfold sigD; rw [if_neg h40])
  clear hP h40 hs hal hm hv
  go_enter Tryz.func161, Tryz.ntmps161
  go_wp2_with fail
  refine (HP.out _).mono ?_
  rintro e w1 ⟨rfl, rfl⟩
  go_wp2
  exact ⟨rfl, gaveS_none HG.out rfl HAL.out⟩
end Go.Proofs.YtjejmlpjifhmmaaGreatDoor.kind

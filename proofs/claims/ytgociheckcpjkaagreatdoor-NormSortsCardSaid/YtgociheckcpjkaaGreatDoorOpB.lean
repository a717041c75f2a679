/- OpB -/
import Derived.Test.YtgociheckcpjkaaGreatDoorKind
import Derived.Shelf.Strings.Shaped
import Derived.Shelf.Small.Wraps
import Derived.Shelf.Strings.IndexAnyAll
import Derived.Shelf.Sort.Plain
import Derived.Shelf.Slices.In.SortNone
import Derived.Test.YtgociheckcpjkaaGreatDoorProg
import Derived.Deep.QuietTactic
import Derived.BigQuiet
namespace Go.Proofs.YtgociheckcpjkaaGreatDoor.kind
open Go.RowKit
open words kindp word
set_option maxRecDepth 100000
set_option maxHeartbeats 800000
theorem app_mk (a b : Tx) : (⟨a.toArray⟩ : ByteArray) ++ ⟨b.toArray⟩ = ⟨(a ++ b).toArray⟩ := by
 apply ByteArray.ext; rw [ByteArray.data_append]; simp
theorem right_has {k : Int} {c : Tx} (h : hasB k = true) : rightT (k, c) = clsB c := by unfold rightT; rw [if_pos h]
theorem right_no {k : Int} {c : Tx} (h : hasB k = false) : rightT (k, c) = decide ((k = 1 ∨ k = 2 ∨ k = 4) ∧ c = []) := by unfold rightT; rw [if_neg (by rw [h]; simp)]
theorem right_w (k : Int) (c : Tx) (w : World) (hc : c.length ≤ 281474976710656) :
  Calls Tryz.prog 84 #[.agg #[.int .i64 k, .string ⟨c.toArray⟩]] w fun e w' => e = .returned (.bool (rightT (k, c))) ∧ Below w.heap.size w w' := by
 have HH := hh (fun w => has_w k c w)
 cases hb : hasB k with
 | true =>
  rw [hb] at HH
  rw [right_has hb]
  have HC := hh (fun w => class_name ⟨c.toArray⟩ w (by rw [mk_len]; exact hc))
  rw [cls_eq] at HC
  clear hb hc
  go_enter Tryz.func84, Tryz.ntmps84
  go_wp2_with fail
  refine (HH.out _).mono ?_
  rintro e w1 ⟨rfl, hb1⟩
  have c1 := (hb1.cell (p := ⟨w.heap.size, 1, none⟩) (by simp)).trans (show _ = some (.string ⟨c.toArray⟩) by rw [cell_of_row _ _ _ _ _ _ (heap_alloc_new w _)]; rfl)
  have HB := hh (((Below.refl w.heap.size w).alloc (Nat.le_refl _) _).trans (hb1.mono (by simp)))
  clear hb1 HH
  go_wp2_with fail
  refine (HC.out _).mono ?_
  rintro e w2 ⟨rfl, rfl⟩
  go_wp2
  go_ret
  exact ⟨rfl, HB.out⟩
 | false =>
  rw [hb] at HH
  have HS := (fun w => sign_w k w)
  rcases kinds k with rfl | rfl | rfl | rfl | rfl | ⟨e1, e2, e3, e4, e5, e6, -⟩
  ·rw [right_no hb]
   rw [show signL 1 = [86] from rfl] at HS
   have HS := hh HS
   by_cases hc0 : c = []
   ·subst hc0
    rw [show decide (((1 : Int) = 1 ∨ (1 : Int) = 2 ∨ (1 : Int) = 4) ∧ ([] : Tx) = []) = true from rfl]
    clear hb hc
    go_enter Tryz.func84, Tryz.ntmps84
    go_wp2_with fail
    refine (HH.out _).mono ?_
    rintro e w1 ⟨rfl, hb1⟩
    have c0 := (hb1.cell (p := ⟨w.heap.size, 0, none⟩) (by simp)).trans (show _ = some (.int .i64 1) by rw [cell_of_row _ _ _ _ _ _ (heap_alloc_new w _)]; rfl)
    have c1 := (hb1.cell (p := ⟨w.heap.size, 1, none⟩) (by simp)).trans (show _ = some (.string ⟨#[]⟩) by rw [cell_of_row _ _ _ _ _ _ (heap_alloc_new w _)]; rfl)
    have HB := hh (((Below.refl w.heap.size w).alloc (Nat.le_refl _) _).trans (hb1.mono (by simp)))
    clear hb1 HH
    go_wp2_with fail
    refine (HS.out _).mono ?_
    rintro e w2 ⟨rfl, rfl⟩
    go_wp2
    go_ret
    exact ⟨rfl, HB.out⟩
   ·rw [show decide (((1 : Int) = 1 ∨ (1 : Int) = 2 ∨ (1 : Int) = 4) ∧ c = []) = false by simp [hc0]]
    clear hb hc
    go_enter Tryz.func84, Tryz.ntmps84
    go_wp2_with fail
    refine (HH.out _).mono ?_
    rintro e w1 ⟨rfl, hb1⟩
    have c0 := (hb1.cell (p := ⟨w.heap.size, 0, none⟩) (by simp)).trans (show _ = some (.int .i64 1) by rw [cell_of_row _ _ _ _ _ _ (heap_alloc_new w _)]; rfl)
    have c1 := (hb1.cell (p := ⟨w.heap.size, 1, none⟩) (by simp)).trans (show _ = some (.string ⟨c.toArray⟩) by rw [cell_of_row _ _ _ _ _ _ (heap_alloc_new w _)]; rfl)
    have HB := hh (((Below.refl w.heap.size w).alloc (Nat.le_refl _) _).trans (hb1.mono (by simp)))
    clear hb1 HH
    go_wp2_with fail
    refine (HS.out _).mono ?_
    rintro e w2 ⟨rfl, rfl⟩
    go_wp2
    go_ret
    exact ⟨rfl, HB.out⟩
  ·rw [right_no hb]
   rw [show signL 2 = [73] from rfl] at HS
   have HS := hh HS
   by_cases hc0 : c = []
   ·subst hc0
    rw [show decide (((2 : Int) = 1 ∨ (2 : Int) = 2 ∨ (2 : Int) = 4) ∧ ([] : Tx) = []) = true from rfl]
    clear hb hc
    go_enter Tryz.func84, Tryz.ntmps84
    go_wp2_with fail
    refine (HH.out _).mono ?_
    rintro e w1 ⟨rfl, hb1⟩
    have c0 := (hb1.cell (p := ⟨w.heap.size, 0, none⟩) (by simp)).trans (show _ = some (.int .i64 2) by rw [cell_of_row _ _ _ _ _ _ (heap_alloc_new w _)]; rfl)
    have c1 := (hb1.cell (p := ⟨w.heap.size, 1, none⟩) (by simp)).trans (show _ = some (.string ⟨#[]⟩) by rw [cell_of_row _ _ _ _ _ _ (heap_alloc_new w _)]; rfl)
    have HB := hh (((Below.refl w.heap.size w).alloc (Nat.le_refl _) _).trans (hb1.mono (by simp)))
    clear hb1 HH
    go_wp2_with fail
    refine (HS.out _).mono ?_
    rintro e w2 ⟨rfl, rfl⟩
    go_wp2
    go_ret
    exact ⟨rfl, HB.out⟩
   ·rw [show decide (((2 : Int) = 1 ∨ (2 : Int) = 2 ∨ (2 : Int) = 4) ∧ c = []) = false by simp [hc0]]
    clear hb hc
    go_enter Tryz.func84, Tryz.ntmps84
    go_wp2_with fail
    refine (HH.out _).mono ?_
    rintro e w1 ⟨rfl, hb1⟩
    have c0 := (hb1.cell (p := ⟨w.heap.size, 0, none⟩) (by simp)).trans (show _ = some (.int .i64 2) by rw [cell_of_row _ _ _ _ _ _ (heap_alloc_new w _)]; rfl)
    have c1 := (hb1.cell (p := ⟨w.heap.size, 1, none⟩) (by simp)).trans (show _ = some (.string ⟨c.toArray⟩) by rw [cell_of_row _ _ _ _ _ _ (heap_alloc_new w _)]; rfl)
    have HB := hh (((Below.refl w.heap.size w).alloc (Nat.le_refl _) _).trans (hb1.mono (by simp)))
    clear hb1 HH
    go_wp2_with fail
    refine (HS.out _).mono ?_
    rintro e w2 ⟨rfl, rfl⟩
    go_wp2
    go_ret
    exact ⟨rfl, HB.out⟩
  ·exact absurd hb (by decide)
  ·rw [right_no hb]
   rw [show signL 4 = [91, 73] from rfl] at HS
   have HS := hh HS
   by_cases hc0 : c = []
   ·subst hc0
    rw [show decide (((4 : Int) = 1 ∨ (4 : Int) = 2 ∨ (4 : Int) = 4) ∧ ([] : Tx) = []) = true from rfl]
    clear hb hc
    go_enter Tryz.func84, Tryz.ntmps84
    go_wp2_with fail
    refine (HH.out _).mono ?_
    rintro e w1 ⟨rfl, hb1⟩
    have c0 := (hb1.cell (p := ⟨w.heap.size, 0, none⟩) (by simp)).trans (show _ = some (.int .i64 4) by rw [cell_of_row _ _ _ _ _ _ (heap_alloc_new w _)]; rfl)
    have c1 := (hb1.cell (p := ⟨w.heap.size, 1, none⟩) (by simp)).trans (show _ = some (.string ⟨#[]⟩) by rw [cell_of_row _ _ _ _ _ _ (heap_alloc_new w _)]; rfl)
    have HB := hh (((Below.refl w.heap.size w).alloc (Nat.le_refl _) _).trans (hb1.mono (by simp)))
    clear hb1 HH
    go_wp2_with fail
    refine (HS.out _).mono ?_
    rintro e w2 ⟨rfl, rfl⟩
    go_wp2
    go_ret
    exact ⟨rfl, HB.out⟩
   ·rw [show decide (((4 : Int) = 1 ∨ (4 : Int) = 2 ∨ (4 : Int) = 4) ∧ c = []) = false by simp [hc0]]
    clear hb hc
    go_enter Tryz.func84, Tryz.ntmps84
    go_wp2_with fail
    refine (HH.out _).mono ?_
    rintro e w1 ⟨rfl, hb1⟩
    have c0 := (hb1.cell (p := ⟨w.heap.size, 0, none⟩) (by simp)).trans (show _ = some (.int .i64 4) by rw [cell_of_row _ _ _ _ _ _ (heap_alloc_new w _)]; rfl)
    have c1 := (hb1.cell (p := ⟨w.heap.size, 1, none⟩) (by simp)).trans (show _ = some (.string ⟨c.toArray⟩) by rw [cell_of_row _ _ _ _ _ _ (heap_alloc_new w _)]; rfl)
    have HB := hh (((Below.refl w.heap.size w).alloc (Nat.le_refl _) _).trans (hb1.mono (by simp)))
    clear hb1 HH
    go_wp2_with fail
    refine (HS.out _).mono ?_
    rintro e w2 ⟨rfl, rfl⟩
    go_wp2
    go_ret
    exact ⟨rfl, HB.out⟩
  ·exact absurd hb (by decide)
  ·rw [right_no hb]
   rw [e6] at HS
   have HS := hh HS
   have n1 : ¬ k = 1 := by simpa using e1
   have n2 : ¬ k = 2 := by simpa using e2
   have n4 : ¬ k = 4 := by simpa using e4
   rw [show decide ((k = 1 ∨ k = 2 ∨ k = 4) ∧ c = []) = false by simp [n1, n2, n4]]
   clear hb hc n1 n2 n4 e1 e2 e3 e4 e5 e6
   go_enter Tryz.func84, Tryz.ntmps84
   go_wp2_with fail
   refine (HH.out _).mono ?_
   rintro e w1 ⟨rfl, hb1⟩
   have c0 := (hb1.cell (p := ⟨w.heap.size, 0, none⟩) (by simp)).trans (show _ = some (.int .i64 k) by rw [cell_of_row _ _ _ _ _ _ (heap_alloc_new w _)]; rfl)
   have HB := hh (((Below.refl w.heap.size w).alloc (Nat.le_refl _) _).trans (hb1.mono (by simp)))
   clear hb1 HH
   go_wp2_with fail
   refine (HS.out _).mono ?_
   rintro e w2 ⟨rfl, rfl⟩
   go_wp2
   go_ret
   exact ⟨rfl, HB.out⟩
theorem text_has {k : Int} {c : Tx} (h : hasB k = true) (hc : clsB c = true) : textT (k, c) = signL k ++ c ++ [59] := by
 unfold textT; rw [right_has h, if_pos hc, if_pos h]
theorem text_no {k : Int} {c : Tx} (h : hasB k = false) (hr : rightT (k, c) = true) : textT (k, c) = signL k := by
 unfold textT; rw [if_pos hr, if_neg (by rw [h]; simp)]
theorem text_bad {t : Ty} (h : rightT t = false) : textT t = [] := by unfold textT; rw [if_neg (by rw [h]; simp)]
theorem sign_len (k : Int) : (signL k).length ≤ 2 := by unfold signL; (repeat' split) <;> simp
theorem text_w (k : Int) (c : Tx) (w : World) (hc : c.length ≤ 281474976710656) :
  Calls Tryz.prog 49 #[.agg #[.int .i64 k, .string ⟨c.toArray⟩]] w fun e w' => e = .returned (.string ⟨(textT (k, c)).toArray⟩) ∧ Below w.heap.size w w' := by
 have HR := hh (fun w => right_w k c w hc)
 have HH := hh (fun w => has_w k c w)
 have HS := hh (fun w => sign_w k w)
 cases hr : rightT (k, c) with
 | false =>
  rw [hr] at HR
  rw [text_bad hr]
  clear hr hc HH HS
  go_enter Tryz.func49, Tryz.ntmps49
  go_wp2_with fail
  refine (HR.out _).mono ?_
  rintro e w1 ⟨rfl, hb1⟩
  have HB := hh (((Below.refl w.heap.size w).alloc (Nat.le_refl _) _).trans (hb1.mono (by simp)))
  clear hb1 HR
  go_wp2
  go_ret
  exact ⟨rfl, HB.out⟩
 | true =>
  rw [hr] at HR
  cases hb : hasB k with
  | false =>
   rw [hb] at HH
   rw [text_no hb hr]
   clear hr hc hb
   go_enter Tryz.func49, Tryz.ntmps49
   go_wp2_with fail
   refine (HR.out _).mono ?_
   rintro e w1 ⟨rfl, hb1⟩
   have c0 := (hb1.cell (p := ⟨w.heap.size, 0, none⟩) (by simp)).trans (show _ = some (.int .i64 k) by rw [cell_of_row _ _ _ _ _ _ (heap_alloc_new w _)]; rfl)
   have c1 := (hb1.cell (p := ⟨w.heap.size, 1, none⟩) (by simp)).trans (show _ = some (.string ⟨c.toArray⟩) by rw [cell_of_row _ _ _ _ _ _ (heap_alloc_new w _)]; rfl)
   have hlt : w.heap.size < w1.heap.size := by have := hb1.size; simp at this; omega
   have HB := hh (((Below.refl w.heap.size w).alloc (Nat.le_refl _) _).trans (hb1.mono (by simp)))
   clear hb1 HR
   go_wp2_with fail
   refine (HH.out _).mono ?_
   rintro e w2 ⟨rfl, hb2⟩
   have k0 := (hb2.cell (p := ⟨w.heap.size, 0, none⟩) hlt).trans c0
   have HB2 := hh (then' HB.out hb2)
   clear hb2 HH c0 c1 HB
   go_wp2_with fail
   refine (HS.out _).mono ?_
   rintro e w3 ⟨rfl, rfl⟩
   go_wp2
   go_ret
   exact ⟨rfl, HB2.out⟩
  | true =>
   rw [hb] at HH
   rw [right_has hb] at hr
   rw [text_has hb hr]
   have h32 := (cls_no hr).2.2
   have hsg := sign_len k
   obtain ⟨g, hg⟩ : ∃ g, g = signL k := ⟨_, rfl⟩
   rw [← hg] at HS hsg ⊢
   have hz1 : ¬ 9223372036854775807 < g.length + c.length := by omega
   have hz2 : ¬ 9223372036854775807 < g.length + c.length + 1 := by omega
   have HE := hh (show (⟨g.toArray⟩ : ByteArray) ++ ⟨c.toArray⟩ ++ ⟨#[59]⟩ = ⟨(g ++ c ++ [59]).toArray⟩ by rw [app_mk g c]; exact app_mk (g ++ c) [59])
   clear hr hc hb hg h32 hsg
   go_enter Tryz.func49, Tryz.ntmps49
   go_wp2_with fail
   refine (HR.out _).mono ?_
   rintro e w1 ⟨rfl, hb1⟩
   have c0 := (hb1.cell (p := ⟨w.heap.size, 0, none⟩) (by simp)).trans (show _ = some (.int .i64 k) by rw [cell_of_row _ _ _ _ _ _ (heap_alloc_new w _)]; rfl)
   have c1 := (hb1.cell (p := ⟨w.heap.size, 1, none⟩) (by simp)).trans (show _ = some (.string ⟨c.toArray⟩) by rw [cell_of_row _ _ _ _ _ _ (heap_alloc_new w _)]; rfl)
   have hlt : w.heap.size < w1.heap.size := by have := hb1.size; simp at this; omega
   have HB := hh (((Below.refl w.heap.size w).alloc (Nat.le_refl _) _).trans (hb1.mono (by simp)))
   clear hb1 HR
   go_wp2_with fail
   refine (HH.out _).mono ?_
   rintro e w2 ⟨rfl, hb2⟩
   have k0 := (hb2.cell (p := ⟨w.heap.size, 0, none⟩) hlt).trans c0
   have k1 := (hb2.cell (p := ⟨w.heap.size, 1, none⟩) hlt).trans c1
   have HB2 := hh (then' HB.out hb2)
   clear hb2 HH c0 c1 HB
   go_wp2_with fail
   go_quiet ((go_at_call 86; exact Calls.quiet_of_same (HS.out _)))
   go_wp2
   go_ret
   exact ⟨congrArg (fun z => Ending.returned (Value.string z)) HE.out, over HB2.out⟩
end Go.Proofs.YtgociheckcpjkaaGreatDoor.kind
namespace Go.Proofs
open Go.Shelf
def Tryz.lays103_ren : Go.Shelf.Ren := ⟨fun | 103 => 137 | 210 => 146 | 206 => 147 | n => n, fun | 9 => 9 | 4 => 4 | 24 => 154 | 3 => 3 | n => n, fun | n => n⟩
theorem Tryz.lays103 : Go.Proofs.Lays.n103 Tryz.prog Tryz.lays103_ren := {
 mixed := by kernel_rfl
 f103 := Tryz.func137.trans (congrArg some (by kernel_rfl))
 f206 := Tryz.func147.trans (congrArg some (by kernel_rfl))
 f210 := Tryz.func146.trans (congrArg some (by kernel_rfl))
 t3 := Tryz.underlying3
 a3 := Tryz.isAgg3
 z3 := Tryz.sizeOf3
 v3 := Tryz.zeroValue3
 t4 := Tryz.underlying4
 a4 := Tryz.isAgg4
 z4 := Tryz.sizeOf4
 v4 := Tryz.zeroValue4
 t9 := Tryz.underlying9
 a9 := Tryz.isAgg9
 z9 := Tryz.sizeOf9
 v9 := Tryz.zeroValue9
 t24 := Tryz.underlying154
 a24 := Tryz.isAgg154
 z24 := Tryz.sizeOf154
 v24 := Tryz.zeroValue154 }
open Go.RowKit in
theorem Tryz.strings_CutPrefix (s p : ByteArray) (w : World) :
  Calls Tryz.prog 137 #[.string s, .string p] w fun e w' => e = .returned (.tuple #[.string ⟨(Lib.trimPrefix s.data.toList p.data.toList).toArray⟩, .bool (Lib.hasPrefix s.data.toList p.data.toList)]) ∧ w' = w := Any.strings_CutPrefix Tryz.lays103 s p w
def Tryz.lays145_ren : Go.Shelf.Ren := ⟨fun | 145 => 156 | 220 => 158 | 219 => 160 | 217 => 165 | 225 => 166 | 224 => 167 | 267 => 168 | 266 => 171 | 314 => 172 | n => n, fun | 9 => 9 | 4 => 4 | 59 => 172 | 3 => 3 | 5 => 5 | 46 => 93 | 146 => 185 | 51 => 118 | n => n, fun | 1 => 2 | n => n⟩
theorem Tryz.lays145 : Go.Proofs.Lays.n145 Tryz.prog Tryz.lays145_ren := {
 mixed := by kernel_rfl
 f145 := Tryz.func156.trans (congrArg some (by kernel_rfl))
 f217 := Tryz.func165.trans (congrArg some (by kernel_rfl))
 f219 := Tryz.func160.trans (congrArg some (by kernel_rfl))
 f220 := Tryz.func158.trans (congrArg some (by kernel_rfl))
 f224 := Tryz.func167.trans (congrArg some (by kernel_rfl))
 f225 := Tryz.func166.trans (congrArg some (by kernel_rfl))
 f266 := Tryz.func171.trans (congrArg some (by kernel_rfl))
 f267 := Tryz.func168.trans (congrArg some (by kernel_rfl))
 f314 := Tryz.func172.trans (congrArg some (by kernel_rfl))
 t3 := Tryz.underlying3
 a3 := Tryz.isAgg3
 z3 := Tryz.sizeOf3
 v3 := Tryz.zeroValue3
 t4 := Tryz.underlying4
 a4 := Tryz.isAgg4
 z4 := Tryz.sizeOf4
 v4 := Tryz.zeroValue4
 t5 := Tryz.underlying5
 a5 := Tryz.isAgg5
 z5 := Tryz.sizeOf5
 v5 := Tryz.zeroValue5
 t9 := Tryz.underlying9
 a9 := Tryz.isAgg9
 z9 := Tryz.sizeOf9
 v9 := Tryz.zeroValue9
 t46 := Tryz.underlying93
 a46 := Tryz.isAgg93
 z46 := Tryz.sizeOf93
 v46 := Tryz.zeroValue93
 t51 := Tryz.underlying118
 a51 := Tryz.isAgg118
 z51 := Tryz.sizeOf118
 v51 := Tryz.zeroValue118
 t59 := Tryz.underlying172
 a59 := Tryz.isAgg172
 z59 := Tryz.sizeOf172
 v59 := Tryz.zeroValue172
 t146 := Tryz.underlying185
 a146 := Tryz.isAgg185
 z146 := Tryz.sizeOf185
 v146 := Tryz.zeroValue185
 g1 := by kernel_rfl }
open Go.RowKit Go.Lib in
theorem Tryz.strings_Cut (s sep : ByteArray) (m : Int) (w : World) (hs : s.size < 4294967281) (hm : w.cell? ⟨2, 0, none⟩ = some (.int .i64 m)) :
  Calls Tryz.prog 156 #[.string s, .string sep] w fun e w' => e = .returned (.tuple #[.string ⟨(Lib.cut s.data.toList sep.data.toList).1.toArray⟩, .string ⟨(Lib.cut s.data.toList sep.data.toList).2.1.toArray⟩, .bool (Lib.cut s.data.toList sep.data.toList).2.2]) ∧ ∃ n, w' = w.drewN n := Any.strings_Cut Tryz.lays145 s sep m w hs hm
def Tryz.laysM145_ren : Go.Shelf.Ren := ⟨fun | 145 => 156 | 220 => 158 | 219 => 160 | 217 => 165 | 225 => 166 | 224 => 167 | 267 => 168 | 266 => 171 | 314 => 172 | n => n, fun | 9 => 9 | 4 => 4 | 59 => 172 | 3 => 3 | 5 => 5 | 46 => 93 | 146 => 185 | 51 => 118 | n => n, fun | 1 => 2 | n => n⟩
theorem Tryz.laysM145 : Go.Proofs.LaysM.n145 Tryz.prog Tryz.laysM145_ren := {
 mixed := by kernel_rfl
 f145 := Tryz.func156.trans (congrArg some (by kernel_rfl))
 f217 := Tryz.func165.trans (congrArg some (by kernel_rfl))
 f219 := Tryz.func160.trans (congrArg some (by kernel_rfl))
 f220 := Tryz.func158.trans (congrArg some (by kernel_rfl))
 f224 := Tryz.func167.trans (congrArg some (by kernel_rfl))
 f225 := Tryz.func166.trans (congrArg some (by kernel_rfl))
 f266 := Tryz.func171.trans (congrArg some (by kernel_rfl))
 f267 := Tryz.func168.trans (congrArg some (by kernel_rfl))
 f314 := Tryz.func172.trans (congrArg some (by kernel_rfl))
 t3 := Tryz.underlying3
 a3 := Tryz.isAgg3
 z3 := Tryz.sizeOf3
 v3 := Tryz.zeroValue3
 t4 := Tryz.underlying4
 a4 := Tryz.isAgg4
 z4 := Tryz.sizeOf4
 v4 := Tryz.zeroValue4
 t5 := Tryz.underlying5
 a5 := Tryz.isAgg5
 z5 := Tryz.sizeOf5
 v5 := Tryz.zeroValue5
 t9 := Tryz.underlying9
 a9 := Tryz.isAgg9
 z9 := Tryz.sizeOf9
 v9 := Tryz.zeroValue9
 t46 := Tryz.underlying93
 a46 := Tryz.isAgg93
 z46 := Tryz.sizeOf93
 v46 := Tryz.zeroValue93
 t51 := Tryz.underlying118
 a51 := Tryz.isAgg118
 z51 := Tryz.sizeOf118
 v51 := Tryz.zeroValue118
 t59 := Tryz.underlying172
 a59 := Tryz.isAgg172
 z59 := Tryz.sizeOf172
 v59 := Tryz.zeroValue172
 t146 := Tryz.underlying185
 a146 := Tryz.isAgg185
 z146 := Tryz.sizeOf185
 v146 := Tryz.zeroValue185
 g1 := by kernel_rfl
 i3 := by kernel_rfl
 i4 := by kernel_rfl
 i5 := by kernel_rfl
 i9 := by kernel_rfl
 i46 := by kernel_rfl
 i51 := by kernel_rfl
 i59 := by kernel_rfl
 i146 := by kernel_rfl
 m1 := by kernel_rfl
 s1_3 := fun w h => Go.Proofs.cell_of_shapedOpen_int (zero := #[.int .i64 0]) (t := 3) h (of_decide_eq_true (by kernel_rfl)) (by kernel_rfl) rfl (by kernel_rfl) (by kernel_rfl) Tryz.underlying3 }
def Tryz.lays190_ren : Go.Shelf.Ren := ⟨fun | 190 => 20 | 125 => 61 | 258 => 60 | 128 => 98 | 129 => 99 | 302 => 89 | 303 => 90 | 304 => 91 | 305 => 92 | 306 => 93 | 307 => 94 | 308 => 95 | 309 => 96 | 310 => 97 | 333 => 116 | 329 => 117 | 330 => 118 | 334 => 119 | 335 => 120 | 336 => 71 | 344 => 133 | n => n, fun | 31 => 23 | 9 => 9 | 3 => 3 | 46 => 93 | 0 => 0 | 51 => 118 | 53 => 120 | 4 => 4 | 183 => 110 | 182 => 109 | 131 => 115 | 5 => 5 | 218 => 133 | 222 => 137 | 228 => 149 | 229 => 150 | n => n, fun | n => n⟩
theorem Tryz.lays190 : Go.Proofs.Lays.n190 Tryz.prog Tryz.lays190_ren := {
 mixed := by kernel_rfl
 f125 := Tryz.func61.trans (congrArg some (by kernel_rfl))
 f128 := Tryz.func98.trans (congrArg some (by kernel_rfl))
 f129 := Tryz.func99.trans (congrArg some (by kernel_rfl))
 f190 := Tryz.func20.trans (congrArg some (by kernel_rfl))
 f258 := Tryz.func60.trans (congrArg some (by kernel_rfl))
 f302 := Tryz.func89.trans (congrArg some (by kernel_rfl))
 f303 := Tryz.func90.trans (congrArg some (by kernel_rfl))
 f304 := Tryz.func91.trans (congrArg some (by kernel_rfl))
 f305 := Tryz.func92.trans (congrArg some (by kernel_rfl))
 f306 := Tryz.func93.trans (congrArg some (by kernel_rfl))
 f307 := Tryz.func94.trans (congrArg some (by kernel_rfl))
 f308 := Tryz.func95.trans (congrArg some (by kernel_rfl))
 f309 := Tryz.func96.trans (congrArg some (by kernel_rfl))
 f310 := Tryz.func97.trans (congrArg some (by kernel_rfl))
 f329 := Tryz.func117.trans (congrArg some (by kernel_rfl))
 f330 := Tryz.func118.trans (congrArg some (by kernel_rfl))
 f333 := Tryz.func116.trans (congrArg some (by kernel_rfl))
 f334 := Tryz.func119.trans (congrArg some (by kernel_rfl))
 f335 := Tryz.func120.trans (congrArg some (by kernel_rfl))
 f336 := Tryz.func71.trans (congrArg some (by kernel_rfl))
 f344 := Tryz.func133.trans (congrArg some (by kernel_rfl))
 t0 := Tryz.underlying0
 a0 := Tryz.isAgg0
 z0 := Tryz.sizeOf0
 v0 := Tryz.zeroValue0
 t3 := Tryz.underlying3
 a3 := Tryz.isAgg3
 z3 := Tryz.sizeOf3
 v3 := Tryz.zeroValue3
 t4 := Tryz.underlying4
 a4 := Tryz.isAgg4
 z4 := Tryz.sizeOf4
 v4 := Tryz.zeroValue4
 t5 := Tryz.underlying5
 a5 := Tryz.isAgg5
 z5 := Tryz.sizeOf5
 v5 := Tryz.zeroValue5
 t9 := Tryz.underlying9
 a9 := Tryz.isAgg9
 z9 := Tryz.sizeOf9
 v9 := Tryz.zeroValue9
 t31 := Tryz.underlying23
 a31 := Tryz.isAgg23
 z31 := Tryz.sizeOf23
 v31 := Tryz.zeroValue23
 t46 := Tryz.underlying93
 a46 := Tryz.isAgg93
 z46 := Tryz.sizeOf93
 v46 := Tryz.zeroValue93
 t51 := Tryz.underlying118
 a51 := Tryz.isAgg118
 z51 := Tryz.sizeOf118
 v51 := Tryz.zeroValue118
 t53 := Tryz.underlying120
 a53 := Tryz.isAgg120
 z53 := Tryz.sizeOf120
 v53 := Tryz.zeroValue120
 t131 := Tryz.underlying115
 a131 := Tryz.isAgg115
 z131 := Tryz.sizeOf115
 v131 := Tryz.zeroValue115
 t182 := Tryz.underlying109
 a182 := Tryz.isAgg109
 z182 := Tryz.sizeOf109
 v182 := Tryz.zeroValue109
 t183 := Tryz.underlying110
 a183 := Tryz.isAgg110
 z183 := Tryz.sizeOf110
 v183 := Tryz.zeroValue110
 t218 := Tryz.underlying133
 a218 := Tryz.isAgg133
 z218 := Tryz.sizeOf133
 v218 := Tryz.zeroValue133
 t222 := Tryz.underlying137
 a222 := Tryz.isAgg137
 z222 := Tryz.sizeOf137
 v222 := Tryz.zeroValue137
 t228 := Tryz.underlying149
 a228 := Tryz.isAgg149
 z228 := Tryz.sizeOf149
 v228 := Tryz.zeroValue149
 t229 := Tryz.underlying150
 a229 := Tryz.isAgg150
 z229 := Tryz.sizeOf150
 v229 := Tryz.zeroValue150 }
open Go.Sort Go.RowKit in
theorem Tryz.slices_Sort_string (blk off cap : Nat) (ss : List (List UInt8)) (w : World) (hH : Holds encStr w blk off ss.toArray) (hblk : blk < w.heap.size) (hsz : ss.length < 4611686018427387904) :
  Calls Tryz.prog 20 #[.slice (some ⟨blk, off, none⟩) ss.length cap] w fun e w' =>
   e = .returned (.tuple #[]) ∧ ∃ n os, w' = grow (putRow encStr (Sort.ahead w n) blk off (ss.mergeSort fun x y => decide (x ≤ y)).toArray) os := Any.slices_Sort_string Tryz.lays190 blk off cap ss w hH hblk hsz
def Tryz.lays99_ren : Go.Shelf.Ren := ⟨fun | 99 => 138 | 206 => 147 | n => n, fun | 9 => 9 | 4 => 4 | 3 => 3 | n => n, fun | n => n⟩
theorem Tryz.lays99 : Go.Proofs.Lays.n99 Tryz.prog Tryz.lays99_ren := {
 mixed := by kernel_rfl
 f99 := Tryz.func138.trans (congrArg some (by kernel_rfl))
 f206 := Tryz.func147.trans (congrArg some (by kernel_rfl))
 t3 := Tryz.underlying3
 a3 := Tryz.isAgg3
 z3 := Tryz.sizeOf3
 v3 := Tryz.zeroValue3
 t4 := Tryz.underlying4
 a4 := Tryz.isAgg4
 z4 := Tryz.sizeOf4
 v4 := Tryz.zeroValue4
 t9 := Tryz.underlying9
 a9 := Tryz.isAgg9
 z9 := Tryz.sizeOf9
 v9 := Tryz.zeroValue9 }
open Go.RowKit Go.Lib in
theorem Tryz.strings_HasPrefix (s p : ByteArray) (w : World) :
  Calls Tryz.prog 138 #[.string s, .string p] w fun e w' => e = .returned (.bool (Lib.hasPrefix s.data.toList p.data.toList)) ∧ w' = w := Any.strings_HasPrefix Tryz.lays99 s p w
def Tryz.lays150_ren : Go.Shelf.Ren := ⟨fun | 150 => 157 | 153 => 159 | 152 => 161 | 226 => 162 | 227 => 163 | 228 => 164 | 137 => 169 | 119 => 170 | 224 => 167 | 225 => 166 | 217 => 165 | 266 => 171 | n => n, fun | 9 => 9 | 4 => 4 | 3 => 3 | 5 => 5 | 21 => 21 | 117 => 179 | 116 => 178 | 0 => 0 | 46 => 93 | 124 => 184 | n => n, fun | n => n⟩
theorem Tryz.lays150 : Go.Proofs.Lays.n150 Tryz.prog Tryz.lays150_ren := {
 mixed := by kernel_rfl
 f119 := Tryz.func170.trans (congrArg some (by kernel_rfl))
 f137 := Tryz.func169.trans (congrArg some (by kernel_rfl))
 f150 := Tryz.func157.trans (congrArg some (by kernel_rfl))
 f152 := Tryz.func161.trans (congrArg some (by kernel_rfl))
 f153 := Tryz.func159.trans (congrArg some (by kernel_rfl))
 f217 := Tryz.func165.trans (congrArg some (by kernel_rfl))
 f224 := Tryz.func167.trans (congrArg some (by kernel_rfl))
 f225 := Tryz.func166.trans (congrArg some (by kernel_rfl))
 f226 := Tryz.func162.trans (congrArg some (by kernel_rfl))
 f227 := Tryz.func163.trans (congrArg some (by kernel_rfl))
 f228 := Tryz.func164.trans (congrArg some (by kernel_rfl))
 f266 := Tryz.func171.trans (congrArg some (by kernel_rfl))
 t0 := Tryz.underlying0
 a0 := Tryz.isAgg0
 z0 := Tryz.sizeOf0
 v0 := Tryz.zeroValue0
 t3 := Tryz.underlying3
 a3 := Tryz.isAgg3
 z3 := Tryz.sizeOf3
 v3 := Tryz.zeroValue3
 t4 := Tryz.underlying4
 a4 := Tryz.isAgg4
 z4 := Tryz.sizeOf4
 v4 := Tryz.zeroValue4
 t5 := Tryz.underlying5
 a5 := Tryz.isAgg5
 z5 := Tryz.sizeOf5
 v5 := Tryz.zeroValue5
 t9 := Tryz.underlying9
 a9 := Tryz.isAgg9
 z9 := Tryz.sizeOf9
 v9 := Tryz.zeroValue9
 t21 := Tryz.underlying21
 a21 := Tryz.isAgg21
 z21 := Tryz.sizeOf21
 v21 := Tryz.zeroValue21
 t46 := Tryz.underlying93
 a46 := Tryz.isAgg93
 z46 := Tryz.sizeOf93
 v46 := Tryz.zeroValue93
 t116 := Tryz.underlying178
 a116 := Tryz.isAgg178
 z116 := Tryz.sizeOf178
 t117 := Tryz.underlying179
 a117 := Tryz.isAgg179
 z117 := Tryz.sizeOf179
 v117 := Tryz.zeroValue179
 t124 := Tryz.underlying184
 a124 := Tryz.isAgg184
 z124 := Tryz.sizeOf184
 v124 := Tryz.zeroValue184 }
open Go.RowKit Go.Lib in
theorem Tryz.strings_ContainsAny_laid (s chars : ByteArray) (w : World) (hs : s.size < 4294967281) (hcs : chars.size < 4294967281) (has : ∀ (j : Nat) b, s.data.toList[j]? = some b → b.toNat < 128) (hac : ∀ (j : Nat) b, chars.data.toList[j]? = some b → b.toNat < 128) :
  Calls Tryz.prog 157 #[.string s, .string chars] w fun e w' => e = .returned (.bool (Lib.containsAny s.data.toList chars.data.toList)) ∧ Below w.heap.size w w' := Any.strings_ContainsAny_laid Tryz.lays150 (by kernel_rfl) s chars w hs hcs has hac
open Go.RowKit Go.Sort in
theorem Tryz.slices_Sort_string_none (p : Option Addr) (cap : Nat) (w : World) :
  Calls Tryz.prog 20 #[.slice p 0 cap] w fun e w' => e = .returned (.tuple #[]) ∧ w' = w := Any.slices_Sort_string_none Tryz.lays190 p cap w
end Go.Proofs
namespace Go.Proofs.YtgociheckcpjkaaGreatDoor.kind
open Go.RowKit
open words kindp word
set_option maxRecDepth 100000
set_option maxHeartbeats 800000
def Mx (w : World) : Prop := ∃ m, w.cell? ⟨2, 0, none⟩ = some (.int .i64 m)
theorem Mx.below {w w' : World} (h : Mx w) (hb : Below w.heap.size w w') : Mx w' := by
 obtain ⟨m, hm⟩ := h
 exact ⟨m, (hb.cell (World.block_lt_of_cell? _ _ hm)).trans hm⟩
def noV : Value := .iface 153 (.agg #[])
theorem cut_le (s : Tx) : (Lib.cut s [59]).1.length ≤ s.length := by
 unfold Lib.cut
 split
 ·dsimp only; rw [List.length_take]; omega
 ·exact Nat.le_refl _
theorem cut_w (s : Tx) (w : World) (hs : s.length < 4294967281) (hm : Mx w) :
  Calls Tryz.prog 156 #[.string ⟨s.toArray⟩, .string ⟨#[59]⟩] w fun e w' => e = .returned (.tuple #[.string ⟨(Lib.cut s [59]).1.toArray⟩, .string ⟨(Lib.cut s [59]).2.1.toArray⟩, .bool (Lib.cut s [59]).2.2]) ∧ ∃ n, w' = w.drewN n := by
 obtain ⟨m, hm⟩ := hm
 exact Tryz.strings_Cut ⟨s.toArray⟩ ⟨#[59]⟩ m w (by rw [mk_len]; exact hs) hm
theorem prefix_w (s p : Tx) (w : World) :
  Calls Tryz.prog 137 #[.string ⟨s.toArray⟩, .string ⟨p.toArray⟩] w fun e w' => e = .returned (.tuple #[.string ⟨(Lib.trimPrefix s p).toArray⟩, .bool (Lib.hasPrefix s p)]) ∧ w' = w :=
 Tryz.strings_CutPrefix ⟨s.toArray⟩ ⟨p.toArray⟩ w
theorem class_ok (s a b : Tx) (w : World) (hs : s.length < 4294967281) (hm : Mx w) (h : Lib.cut s [59] = (a, b, true)) (hc : clsB a = true) :
  Calls Tryz.prog 148 #[.string ⟨s.toArray⟩] w fun e w' => e = .returned (.tuple #[.string ⟨a.toArray⟩, .string ⟨b.toArray⟩]) ∧ ∃ n, w' = w.drewN n := by
 have hC := cut_w s w hs hm
 have hl := cut_le s
 rw [h] at hC hl
 dsimp only at hC hl
 have HC := hh hC
 have HN := hh (fun w => class_name ⟨a.toArray⟩ w (by rw [mk_len]; omega))
 rw [cls_eq, hc] at HN
 clear hC h hc hl hs hm
 go_enter Tryz.func148, Tryz.ntmps148
 go_wp2_with fail
 refine HC.out.mono ?_
 rintro e w1 ⟨rfl, q, rfl⟩
 go_wp2_with fail
 refine (HN.out _).mono ?_
 rintro e w1 ⟨rfl, rfl⟩
 go_wp2
 go_ret2
 exact ⟨rfl, q, rfl⟩
theorem class_no (s : Tx) (w : World) (hs : s.length < 4294967281) (hm : Mx w) (h : ((Lib.cut s [59]).2.2 && clsB (Lib.cut s [59]).1) = false) :
  Calls Tryz.prog 148 #[.string ⟨s.toArray⟩] w fun e w' => e = .panicked [{ v := noV, recovered := false }] ∧ ∃ n, w' = w.drewN n := by
 have hp : ∀ (t : TypeId) (v : Value) (w : World), (Instr.panic (.iface t v)).run Tryz.prog w = .halt (.panic (.iface t v)) w := fun _ _ _ => rfl
 have hC := cut_w s w hs hm
 have hl := cut_le s
 obtain ⟨r, hr⟩ : ∃ r, r = Lib.cut s [59] := ⟨_, rfl⟩
 rw [← hr] at hC hl h
 clear hr
 obtain ⟨a, b, f⟩ := r
 dsimp only at hC hl h
 have HC := hh hC
 cases f with
 | false =>
  clear hC hl hs hm h
  go_enter Tryz.func148, Tryz.ntmps148
  go_wp2_with fail
  refine HC.out.mono ?_
  rintro e w1 ⟨rfl, q, rfl⟩
  go_wp2
  exact ⟨rfl, rfl, q, rfl⟩
 | true =>
  rw [Bool.true_and] at h
  have HN := hh (fun w => class_name ⟨a.toArray⟩ w (by rw [mk_len]; omega))
  rw [cls_eq, h] at HN
  clear hC h hl hs hm
  go_enter Tryz.func148, Tryz.ntmps148
  go_wp2_with fail
  refine HC.out.mono ?_
  rintro e w1 ⟨rfl, q, rfl⟩
  go_wp2_with fail
  refine (HN.out _).mono ?_
  rintro e w1 ⟨rfl, rfl⟩
  go_wp2
  exact ⟨rfl, rfl, q, rfl⟩
end Go.Proofs.YtgociheckcpjkaaGreatDoor.kind
namespace Go.Proofs.YtgociheckcpjkaaGreatDoor.op
open Go.RowKit
open words kindp opp
set_option maxRecDepth 100000
set_option maxHeartbeats 400000
def Sh (w : World) : Prop := 1 < w.heap.size ∧ ∀ j, j < 33 → w.cell? ⟨1, j, none⟩ = some (.string ⟨(shapes.getD j []).toArray⟩)
theorem Sh.below {w w' : World} (h : Sh w) (hb : Below w.heap.size w w') : Sh w' := ⟨Nat.lt_of_lt_of_le h.1 hb.size, fun k hk => (hb.cell (p := ⟨_, k, none⟩) h.1).trans (h.2 k hk)⟩
theorem known_nat {o : Int} (h : known o = true) : ∃ n : Nat, o = (n : Int) ∧ 0 < n ∧ n < 33 := by
 have := of_decide_eq_true h
 exact ⟨o.toNat, by omega, by omega, by omega⟩
theorem known_w (o : Int) (w : World) :
  Calls Tryz.prog 149 #[.int .i64 o] w fun e w' => e = .returned (.bool (known o)) ∧ w' = w := by
 by_cases h1 : 0 < o
 ·by_cases h2 : o ≤ 32
  ·rw [show known o = true from decide_eq_true ⟨h1, h2⟩]
   go_enter Tryz.func149, Tryz.ntmps149
   go_wp2
   go_ret
   exact ⟨rfl, rfl⟩
  ·rw [show known o = false from decide_eq_false (fun h => h2 h.2)]
   go_enter Tryz.func149, Tryz.ntmps149
   go_wp2
   go_ret
   exact ⟨rfl, rfl⟩
 ·rw [show known o = false from decide_eq_false (fun h => h1 h.1)]
  go_enter Tryz.func149, Tryz.ntmps149
  go_wp2
  go_ret
  exact ⟨rfl, rfl⟩
theorem shape_w (o : Int) (w : World) (hs : Sh w) :
  Calls Tryz.prog 154 #[.int .i64 o] w fun e w' => e = .returned (.string ⟨(shapeL o).toArray⟩) ∧ w' = w := by
 have HK := hh (fun w => known_w o w)
 cases hk : known o with
 | false =>
  rw [hk] at HK
  rw [show shapeL o = [] by unfold shapeL; rw [hk]; rfl]
  clear hk hs
  go_enter Tryz.func154, Tryz.ntmps154
  go_wp2_with fail
  refine (HK.out _).mono ?_
  rintro e w1 ⟨rfl, rfl⟩
  go_wp2
  go_ret
  exact ⟨rfl, rfl⟩
 | true =>
  rw [hk] at HK
  obtain ⟨n, rfl, h0, h1⟩ := known_nat hk
  have hL : shapeL (n : Int) = shapes.getD n [] := by unfold shapeL; rw [if_pos hk]; rfl
  have hc := hs.2 n h1
  rw [← hL] at hc
  generalize shapeL (n : Int) = L at *
  clear hL hk hs
  have hI : (n : Int) < 33 := by omega
  go_enter Tryz.func154, Tryz.ntmps154
  go_wp2_with fail
  refine (HK.out _).mono ?_
  rintro e w1 ⟨rfl, rfl⟩
  go_wp2
  go_ret
  exact ⟨rfl, rfl⟩
def anyL (s l : Tx) : Bool := Lib.containsAny s l
theorem has_w (o : Int) (l : Tx) (w : World) (hs : Sh w) (hl : ∀ c ∈ l, c.toNat < 128) (hz : l.length < 100) :
  Calls Tryz.prog 151 #[.int .i64 o, .string ⟨l.toArray⟩] w fun e w' => e = .returned (.bool (anyL (shapeL o) l)) ∧ Below w.heap.size w w' := by
 have HS := hh (fun w hs => shape_w o w hs)
 have HT := hh hs
 obtain ⟨h4, h128⟩ := shape_letters o
 have HC := hh (fun w => Tryz.strings_ContainsAny_laid ⟨(shapeL o).toArray⟩ ⟨l.toArray⟩ w (by show (shapeL o).toArray.size < _; simp; omega) (by show l.toArray.size < _; simp; omega) (fun j b hb => h128 b (List.mem_of_getElem? (by simpa using hb))) (fun j b hb => hl b (List.mem_of_getElem? (by simpa using hb))))
 unfold anyL
 generalize Lib.containsAny (shapeL o) l = B at *
 generalize shapeL o = L at *
 clear hs h4 h128 hl hz
 go_enter Tryz.func151, Tryz.ntmps151
 go_wp2_with fail
 refine (HS.out _ HT.out).mono ?_
 rintro e w1 ⟨rfl, rfl⟩
 go_wp2_with fail
 refine (HC.out _).mono ?_
 rintro e w2 ⟨rfl, hb⟩
 have HB := hh hb
 clear hb
 go_wp2
 go_ret
 exact ⟨rfl, HB.out⟩
theorem any_tail (s : Tx) (c : UInt8) (l : Tx) : anyL s (c :: l) = (hasL s c || anyL s l) := by
 unfold anyL hasL
 induction s with
 | nil => rfl
 | cons b s ih =>
  unfold Lib.containsAny at ih ⊢
  have h1 := Lib.indexAny_ge (c :: l) s
  have h2 := Lib.indexAny_ge l s
  have e1 : decide (0 ≤ Lib.indexAny (b :: s) (c :: l)) = ((c :: l).contains b || decide (0 ≤ Lib.indexAny s (c :: l))) := by
   conv => lhs; unfold Lib.indexAny
   by_cases h : (c :: l).contains b = true
   ·rw [if_pos h, h]; simp
   ·rw [if_neg h]
    rw [Bool.not_eq_true] at h
    rw [h, Bool.false_or]
    split <;> rename_i h3
    ·rw [beq_iff_eq] at h3; rw [h3]
    ·rw [beq_iff_eq] at h3; congr 1; apply propext; omega
  have e2 : decide (0 ≤ Lib.indexAny (b :: s) l) = (l.contains b || decide (0 ≤ Lib.indexAny s l)) := by
   conv => lhs; unfold Lib.indexAny
   by_cases h : l.contains b = true
   ·rw [if_pos h, h]; simp
   ·rw [if_neg h]
    rw [Bool.not_eq_true] at h
    rw [h, Bool.false_or]
    split <;> rename_i h3
    ·rw [beq_iff_eq] at h3; rw [h3]
    ·rw [beq_iff_eq] at h3; congr 1; apply propext; omega
  rw [e1, e2, ih, List.contains_cons, List.contains_cons, Bool.beq_comm (a := c)]
  cases b == c <;> cases l.contains b <;> cases s.contains c <;> simp
theorem any_none (s : Tx) : anyL s [] = false := by
 unfold anyL
 induction s with
 | nil => rfl
 | cons b l ih =>
  unfold Lib.containsAny at ih ⊢
  have h1 := of_decide_eq_false ih
  have h2 := Lib.indexAny_ge [] l
  unfold Lib.indexAny
  rw [show Lib.indexAny l [] = -1 by omega]; rfl
theorem any_one (s : Tx) (c : UInt8) : anyL s [c] = hasL s c := by rw [any_tail, any_none, Bool.or_false]
theorem call_w (o : Int) (w : World) (hs : Sh w) :
  Calls Tryz.prog 142 #[.int .i64 o] w fun e w' => e = .returned (.bool (isCall o)) ∧ Below w.heap.size w w' := by
 have HC := hh (fun w hs => has_w o [77] w hs (by decide) (by decide))
 rw [any_one, call_shape] at HC
 have HT := hh hs
 generalize isCall o = B at *
 clear hs
 go_enter Tryz.func142, Tryz.ntmps142
 go_wp2_with fail
 refine (HC.out _ HT.out).mono ?_
 rintro e w2 ⟨rfl, hb⟩
 have HB := hh hb
 clear hb
 go_wp2
 go_ret
 exact ⟨rfl, HB.out⟩
end Go.Proofs.YtgociheckcpjkaaGreatDoor.op
namespace Go.Proofs.YtgociheckcpjkaaGreatDoor.op
open Go.RowKit
open words kindp opp
set_option maxRecDepth 100000
set_option maxHeartbeats 2000000
def IL (l : List Int) : List Value := l.map fun z => Value.int .i64 z
theorem IL_at {l : List Int} {j : Nat} {c : Int} (h : l[j]? = some c) : (IL l)[j]? = some (.int .i64 c) := by simp [IL, h]
def InV (i : In) (A : Option Addr) (c : Nat) : Array Value := #[.int .i64 i.o, .int .i64 i.a, .int .i64 i.b, .int .i64 i.c, .int .i64 i.k, .string ⟨i.cl.toArray⟩, .string ⟨i.nm.toArray⟩, .string ⟨i.ds.toArray⟩, .slice A i.ar.length c]
theorem next_at {P : Program} (w : World) (b : Nat) (l : Tx) (pos : Nat) (x : UInt8) (hb : w.heap[b]? = some (.stringIter ⟨l.toArray⟩ pos)) (hx : l[pos]? = some x) (ha : x.toNat < 128) :
  ∃ w1, (∀ ty, (Instr.next (.pointer (some ⟨b, 0, none⟩)) true ty).run P w = .ok (.tuple #[.bool true, .int .i64 (pos : Int), .int .i32 ((x.toNat : Nat) : Int)]) w1) ∧ w1.heap[b]? = some (.stringIter ⟨l.toArray⟩ (pos + 1)) ∧ w1.heap.size = w.heap.size ∧
   (∀ g, g ≠ b → w1.heap[g]? = w.heap[g]?) ∧ (∀ B, B ≤ b → Below B w w1) := by
 have hlt := blk_lt hb
 obtain ⟨h0, h1⟩ := List.getElem?_eq_some_iff.1 hx
 have hsz : (⟨l.toArray⟩ : ByteArray).size = l.length := by show l.toArray.size = _; simp
 have h : pos < (⟨l.toArray⟩ : ByteArray).size := by rw [hsz]; exact h0
 have he : (⟨l.toArray⟩ : ByteArray)[pos]'h = x := by rw [← h1]; rfl
 refine ⟨{ w with heap := w.heap.setIfInBounds b (.stringIter ⟨l.toArray⟩ (pos + 1)) }, fun ty => ?_, ?_, ?_, ?_, ?_⟩
 ·simp only [Instr.next, getObj, setObj, Sem.run_bind, Sem.run, hb, Result.andThen, h, if_true, decode_ascii _ pos h (by rw [he]; exact ha), he]
  simp [goInt]
 ·simp [hlt]
 ·simp
 ·intro g hg; simp [Ne.symm hg]
 ·intro B hB
  exact ⟨rfl, rfl, rfl, by simp, fun k hk => by show (w.heap.setIfInBounds b _)[k]? = _; simp [show b ≠ k by omega]⟩
theorem next_none {P : Program} (w : World) (b : Nat) (l : Tx) (pos : Nat) (hb : w.heap[b]? = some (.stringIter ⟨l.toArray⟩ pos)) (h : l.length ≤ pos) (ty : TypeId) :
  (Instr.next (.pointer (some ⟨b, 0, none⟩)) true ty).run P w = .ok (.tuple #[.bool false]) w := by
 have hsz : (⟨l.toArray⟩ : ByteArray).size = l.length := by show l.toArray.size = _; simp
 have h2 : ¬ pos < (⟨l.toArray⟩ : ByteArray).size := by rw [hsz]; omega
 simp [Instr.next, getObj, Sem.run, hb, h2]
section
variable {w : World} {b t : Nat} {j : In} {A : Option Addr} {c : Nat}
theorem set_a (h : w.heap[b]? = some (.cells (InV j A c) t (0, 0))) : (w.setCell ⟨b, 1, none⟩ (.int .i64 0)).heap[b]? = some (.cells (InV { j with a := 0 } A c) t (0, 0)) := heap_setCell_same _ _ 1 _ _ _ h
theorem set_b (h : w.heap[b]? = some (.cells (InV j A c) t (0, 0))) : (w.setCell ⟨b, 2, none⟩ (.int .i64 0)).heap[b]? = some (.cells (InV { j with b := 0 } A c) t (0, 0)) := heap_setCell_same _ _ 2 _ _ _ h
theorem set_c (h : w.heap[b]? = some (.cells (InV j A c) t (0, 0))) : (w.setCell ⟨b, 3, none⟩ (.int .i64 0)).heap[b]? = some (.cells (InV { j with c := 0 } A c) t (0, 0)) := heap_setCell_same _ _ 3 _ _ _ h
theorem set_k (h : w.heap[b]? = some (.cells (InV j A c) t (0, 0))) : (w.setCell ⟨b, 4, none⟩ (.int .i64 0)).heap[b]? = some (.cells (InV { j with k := 0 } A c) t (0, 0)) := heap_setCell_same _ _ 4 _ _ _ h
theorem set_cl (h : w.heap[b]? = some (.cells (InV j A c) t (0, 0))) : (w.setCell ⟨b, 5, none⟩ (.string ⟨#[]⟩)).heap[b]? = some (.cells (InV { j with cl := [] } A c) t (0, 0)) := heap_setCell_same _ _ 5 _ _ _ h
theorem set_nm (h : w.heap[b]? = some (.cells (InV j A c) t (0, 0))) : (w.setCell ⟨b, 6, none⟩ (.string ⟨#[]⟩)).heap[b]? = some (.cells (InV { j with nm := [] } A c) t (0, 0)) := heap_setCell_same _ _ 6 _ _ _ h
theorem set_ds (h : w.heap[b]? = some (.cells (InV j A c) t (0, 0))) : (w.setCell ⟨b, 7, none⟩ (.string ⟨#[]⟩)).heap[b]? = some (.cells (InV { j with ds := [] } A c) t (0, 0)) := heap_setCell_same _ _ 7 _ _ _ h
theorem set_as (h : w.heap[b]? = some (.cells (InV j A c) t (0, 0))) : (w.setCell ⟨b, 8, none⟩ (.slice none 0 0)).heap[b]? = some (.cells (InV { j with ar := [] } none 0) t (0, 0)) := heap_setCell_same _ _ 8 _ _ _ h
end
def put9 (w : World) (b : Nat) (j : In) (A : Option Addr) (c : Nat) : World :=
 ((((((((w.setCell ⟨b, 0, none⟩ (.int .i64 j.o)).setCell ⟨b, 1, none⟩ (.int .i64 j.a)).setCell ⟨b, 2, none⟩ (.int .i64 j.b)).setCell ⟨b, 3, none⟩ (.int .i64 j.c)).setCell ⟨b, 4, none⟩ (.int .i64 j.k)).setCell
  ⟨b, 5, none⟩ (.string ⟨j.cl.toArray⟩)).setCell ⟨b, 6, none⟩ (.string ⟨j.nm.toArray⟩)).setCell ⟨b, 7, none⟩ (.string ⟨j.ds.toArray⟩)).setCell ⟨b, 8, none⟩ (.slice A j.ar.length c)
theorem put9_heap {w : World} {b t : Nat} {i j : In} {A C : Option Addr} {c d : Nat} (h : w.heap[b]? = some (.cells (InV i C d) t (0, 0))) : (put9 w b j A c).heap[b]? = some (.cells (InV j A c) t (0, 0)) := by
 have h0 := heap_setCell_same _ _ 0 _ _ (.int .i64 j.o) h
 have h1 := heap_setCell_same _ _ 1 _ _ (.int .i64 j.a) h0
 have h2 := heap_setCell_same _ _ 2 _ _ (.int .i64 j.b) h1
 have h3 := heap_setCell_same _ _ 3 _ _ (.int .i64 j.c) h2
 have h4 := heap_setCell_same _ _ 4 _ _ (.int .i64 j.k) h3
 have h5 := heap_setCell_same _ _ 5 _ _ (.string ⟨j.cl.toArray⟩) h4
 have h6 := heap_setCell_same _ _ 6 _ _ (.string ⟨j.nm.toArray⟩) h5
 have h7 := heap_setCell_same _ _ 7 _ _ (.string ⟨j.ds.toArray⟩) h6
 have h8 := heap_setCell_same _ _ 8 _ _ (.slice A j.ar.length c) h7
 unfold put9
 rw [h8]
 simp [InV]
theorem put9_below {w : World} {b B : Nat} {j : In} {A : Option Addr} {c : Nat} (hB : B ≤ b) : Below B w (put9 w b j A c) :=
 (((((((((Below.refl B w).setCell (p := ⟨b, 0, none⟩) hB _).setCell (p := ⟨b, 1, none⟩) hB _).setCell (p := ⟨b, 2, none⟩) hB _).setCell (p := ⟨b, 3, none⟩) hB _).setCell (p := ⟨b, 4, none⟩) hB _).setCell (p := ⟨b, 5, none⟩) hB _).setCell (p := ⟨b, 6, none⟩) hB _).setCell (p := ⟨b, 7, none⟩) hB _).setCell (p := ⟨b, 8, none⟩) hB _
def BInv (i : In) (L : Tx) (w : World) (pos : Nat) (wr : World) : Prop :=
 ∃ j A' c', (L.take pos).foldl bareS i = j ∧ wr.heap[w.heap.size]? = some (.cells (InV j A' c') 42 (0, 0)) ∧ Rd w A' (IL j.ar) ∧ j.ar.length ≤ c' ∧
  wr.heap[w.heap.size + 1]? = some (.cells (InV (emptyI 0) none 0) 42 (0, 0)) ∧ wr.heap[w.heap.size + 1 + 1]? = some (.stringIter ⟨L.toArray⟩ pos) ∧ Below w.heap.size w wr
theorem in_cells {w : World} {b t : Nat} {j : In} {A : Option Addr} {c : Nat} {fz : Nat × Nat} (h : w.heap[b]? = some (.cells (InV j A c) t fz)) :
  w.cell? ⟨b, 0, none⟩ = some (.int .i64 j.o) ∧ w.cell? ⟨b, 1, none⟩ = some (.int .i64 j.a) ∧ w.cell? ⟨b, 2, none⟩ = some (.int .i64 j.b) ∧ w.cell? ⟨b, 3, none⟩ = some (.int .i64 j.c) ∧ w.cell? ⟨b, 4, none⟩ = some (.int .i64 j.k) ∧
  w.cell? ⟨b, 5, none⟩ = some (.string ⟨j.cl.toArray⟩) ∧ w.cell? ⟨b, 6, none⟩ = some (.string ⟨j.nm.toArray⟩) ∧ w.cell? ⟨b, 7, none⟩ = some (.string ⟨j.ds.toArray⟩) ∧ w.cell? ⟨b, 8, none⟩ = some (.slice A j.ar.length c) :=
 ⟨cell_of_row _ _ 0 _ _ _ h, cell_of_row _ _ 1 _ _ _ h, cell_of_row _ _ 2 _ _ _ h, cell_of_row _ _ 3 _ _ _ h, cell_of_row _ _ 4 _ _ _ h, cell_of_row _ _ 5 _ _ _ h, cell_of_row _ _ 6 _ _ _ h, cell_of_row _ _ 7 _ _ _ h, cell_of_row _ _ 8 _ _ _ h⟩
theorem bare_end {i : In} {L : Tx} {w w1 wE wr : World} {pos n : Nat} {j' : In} {A1 : Option Addr} {c1 : Nat} (hp : pos < n) (hnext : (L.take (pos + 1)).foldl bareS i = j') (hb : wE.heap[w.heap.size]? = some (.cells (InV j' A1 c1) 42 (0, 0))) (hrd : Rd w A1 (IL j'.ar)) (hlen : j'.ar.length ≤ c1)
  (hE : ∀ g, g ≠ w.heap.size → wE.heap[g]? = w1.heap[g]?) (hbE : Below w.heap.size w1 wE) (hz : w1.heap[w.heap.size + 1]? = some (.cells (InV (emptyI 0) none 0) 42 (0, 0))) (hit : w1.heap[w.heap.size + 1 + 1]? = some (.stringIter ⟨L.toArray⟩ (pos + 1)))
  (hbel : Below w.heap.size w w1) (hwr : wr.iterPos (w.heap.size + 1 + 1) = pos) :
  (∃ pos, pos ≤ n ∧ BInv i L w pos wE) ∧ n - wE.iterPos (w.heap.size + 1 + 1) < n - wr.iterPos (w.heap.size + 1 + 1) := by
 have hi := (hE _ (by omega)).trans hit
 refine ⟨⟨pos + 1, hp, j', A1, c1, hnext, hb, hrd, hlen, (hE _ (by omega)).trans hz, hi, hbel.trans hbE⟩, ?_⟩
 rw [hwr, show wE.iterPos (w.heap.size + 1 + 1) = pos + 1 by simp [World.iterPos, hi]]
 omega
theorem bare_none {c : UInt8} {j : In} (e1 : c ≠ 97) (e2 : c ≠ 98) (e3 : c ≠ 99) (e4 : c ≠ 107) (e5 : c ≠ 116) (e6 : c ≠ 114) (e7 : c ≠ 67) (e8 : c ≠ 70) (e9 : c ≠ 77) (e10 : c ≠ 118) : bareS j c = j := by
 unfold bareS; rw [if_neg e1, if_neg e2, if_neg e3, if_neg (by rintro (h | h | h); exact e4 h; exact e5 h; exact e6 h), if_neg e7, if_neg e8, if_neg e9, if_neg e10]
theorem letters (c : UInt8) : c = 97 ∨ c = 98 ∨ c = 99 ∨ c = 107 ∨ c = 116 ∨ c = 114 ∨ c = 67 ∨ c = 70 ∨ c = 77 ∨ c = 118 ∨ (c ≠ 97 ∧ c ≠ 98 ∧ c ≠ 99 ∧ c ≠ 107 ∧ c ≠ 116 ∧ c ≠ 114 ∧ c ≠ 67 ∧ c ≠ 70 ∧ c ≠ 77 ∧ c ≠ 118) := by
 by_cases e1 : c = 97
 ·exact .inl e1
 by_cases e2 : c = 98
 ·exact .inr (.inl e2)
 by_cases e3 : c = 99
 ·exact .inr (.inr (.inl e3))
 by_cases e4 : c = 107
 ·exact .inr (.inr (.inr (.inl e4)))
 by_cases e5 : c = 116
 ·exact .inr (.inr (.inr (.inr (.inl e5))))
 by_cases e6 : c = 114
 ·exact .inr (.inr (.inr (.inr (.inr (.inl e6)))))
 by_cases e7 : c = 67
 ·exact .inr (.inr (.inr (.inr (.inr (.inr (.inl e7))))))
 by_cases e8 : c = 70
 ·exact .inr (.inr (.inr (.inr (.inr (.inr (.inr (.inl e8)))))))
 by_cases e9 : c = 77
 ·exact .inr (.inr (.inr (.inr (.inr (.inr (.inr (.inr (.inl e9))))))))
 by_cases e10 : c = 118
 ·exact .inr (.inr (.inr (.inr (.inr (.inr (.inr (.inr (.inr (.inl e10)))))))))
 exact .inr (.inr (.inr (.inr (.inr (.inr (.inr (.inr (.inr (.inr ⟨e1, e2, e3, e4, e5, e6, e7, e8, e9, e10⟩)))))))))
theorem ne_nat {c : UInt8} {n : Nat} (h : c ≠ UInt8.ofNat n) : (((c.toNat : Nat) : Int) == (n : Int)) = false := by
 rw [beq_eq_false_iff_ne]
 intro e
 refine h ?_
 have : c.toNat = n := by omega
 rw [← this]; simp
theorem equal_w (A C : Option Addr) (c d : Nat) (l k : List Int) (w : World) (hr : Rd w A (IL l)) (kr : Rd w C (IL k)) (hl : l.length ≤ 281474976710656) (hk : k.length ≤ 281474976710656) :
  Calls Tryz.prog 123 #[.slice A l.length c, .slice C k.length d] w fun e w' => e = .returned (.bool (decide (l = k))) ∧ ∃ q, w' = w.drewN q := by
 obtain ⟨n, hn⟩ : ∃ n, n = l.length := ⟨_, rfl⟩
 obtain ⟨m, hm⟩ : ∃ m, m = k.length := ⟨_, rfl⟩
 rw [← hn, ← hm]
 have hnI : (n : Int) ≤ 281474976710656 := by omega
 have hmI : (m : Int) ≤ 281474976710656 := by omega
 by_cases hnm : n = m
 ·subst hnm
  have hnn : ((n : Int) != n) = false := by simp
  obtain ⟨R, hR⟩ : ∃ R : Bool, R = decide (l = k) := ⟨_, rfl⟩
  rw [← hR]
  have HR := hh hR; have HN := hh hn; have HM := hh hm
  clear hl hk hR hn hm
  go_enter Tryz.func123, Tryz.ntmps123
  go_wp2
  go_loopw [13] (fun i wr => ∃ j : Nat, j ≤ n ∧ i = .int .i64 (j : Int) ∧ (∃ q, wr = w.drewN q) ∧ l.take j = k.take j) (fun i _ => n - (intOf i).toNat)
  case atStart => exact ⟨0, Nat.zero_le _, rfl, ⟨0, rfl⟩, rfl⟩
  case round =>
   obtain ⟨j, hj, rfl, ⟨q, rfl⟩, ht⟩ := hrel
   have HT := hh ht
   clear ht
   by_cases hlt : j < n
   ·obtain ⟨x, hx⟩ : ∃ x, l[j]? = some x := ⟨l[j]'(by have := HN.out; omega), List.getElem?_eq_getElem _⟩
    obtain ⟨y, hy⟩ : ∃ y, k[j]? = some y := ⟨k[j]'(by have := HM.out; omega), List.getElem?_eq_getElem _⟩
    have HX := hh hx; have HY := hh hy
    obtain ⟨a, rfl, _, ha⟩ := hr.at_ (IL_at hx)
    obtain ⟨b, rfl, _, hb⟩ := kr.at_ (IL_at hy)
    by_cases hxy : x = y
    ·subst hxy
     have hxx : (x != x) = false := by simp
     clear hr kr hx hy
     go_wp2
     go_quiet (fail)
     go_wp2
     go_roundw
     case rel => exact ⟨j + 1, by omega, by go_num, ⟨_, rfl⟩, by rw [List.take_add_one, List.take_add_one, HT.out, HX.out, HY.out]⟩
     case measure => simp [intOf]; omega
    ·have hxx : (x != y) = true := by simpa using hxy
     have hf : R = false := by
      rw [HR.out]
      refine decide_eq_false fun e => hxy ?_
      have h1 := HX.out
      rw [e, HY.out] at h1
      exact (Option.some.inj h1).symm
     subst hf
     clear hr kr hx hy hxy
     go_wp2
     go_quiet (fail)
     go_wp2
     go_ret
     exact ⟨rfl, _, World.drewN_drewN _ _ _⟩
   ·have hf : R = true := by
     rw [HR.out]
     refine decide_eq_true ?_
     have h1 := HT.out
     rwa [List.take_of_length_le (by have := HN.out; omega), List.take_of_length_le (by have := HM.out; omega)] at h1
    subst hf
    go_wp2
    go_ret
    exact ⟨rfl, q, rfl⟩
 ·have hne : ((n : Int) != (m : Int)) = true := by simp; omega
  rw [show decide (l = k) = false from decide_eq_false (fun e => hnm (by rw [hn, hm, e]))]
  clear hn hm hnm hr kr
  go_enter Tryz.func123, Tryz.ntmps123
  go_wp2
  go_ret
  exact ⟨rfl, 0, rfl⟩
def BareP (i : In) (w : World) (e : Ending) (w' : World) : Prop :=
 (∃ A' c', e = .returned (.agg (InV (bareL i (shapeL i.o)) A' c')) ∧ Rd w' A' (IL (bareL i (shapeL i.o)).ar) ∧ (bareL i (shapeL i.o)).ar.length ≤ c') ∧ Below w.heap.size w w'
theorem bareP_mk {i : In} {w w' : World} {j : In} {A' : Option Addr} {c' : Nat} (h : (shapeL i.o).foldl bareS i = j) (hr : Rd w A' (IL j.ar)) (hc : j.ar.length ≤ c') (hb : Below w.heap.size w w') : BareP i w (.returned (.agg (InV j A' c'))) w' := by
 rw [fold_bare] at h
 subst h
 exact ⟨⟨A', c', rfl, hr.below hb, hc⟩, hb⟩
theorem bare_w (i : In) (A : Option Addr) (c : Nat) (w : World) (hs : Sh w) (hr : Rd w A (IL i.ar)) (hc : i.ar.length ≤ c) :
  Calls Tryz.prog 150 #[.agg (InV i A c)] w (BareP i w) := by
 have HPO := hh (fun (j : In) (A' : Option Addr) (c' : Nat) (w' : World) (h : (shapeL i.o).foldl bareS i = j) (hr : Rd w A' (IL j.ar)) (hc : j.ar.length ≤ c') (hb : Below w.heap.size w w') => bareP_mk h hr hc hb)
 have HS := hh (fun w hs => shape_w i.o w hs)
 have h0 := hs.below ((((Below.refl _ w).alloc (Nat.le_refl _) (.cells (InV i A c) 42)).alloc (by simp) (.cells (InV (emptyI 0) none 0) 42)))
 have HT := hh h0
 unfold InV emptyI at HT
 dsimp only [List.length_nil] at HT
 obtain ⟨L, hL⟩ : ∃ L, L = shapeL i.o := ⟨_, rfl⟩
 rw [← hL] at HS HPO
 have HL := hh (show ∀ c ∈ L, c.toNat < 128 from by rw [hL]; exact (shape_letters i.o).2)
 have hstart : BInv i L w 0 (((w.alloc (.cells (InV i A c) 42)).alloc (.cells (InV (emptyI 0) none 0) 42)).iter ⟨L.toArray⟩ 0) := by
  refine ⟨i, A, c, rfl, ?_, hr, hc, ?_, ?_, ?_⟩
  ·exact (Below.heap_alloc _ _ _ (by simp; omega)).trans ((Below.heap_alloc _ _ _ (by simp)).trans (heap_alloc_new w _))
  ·have := heap_alloc_new (w.alloc (.cells (InV i A c) 42)) (.cells (InV (emptyI 0) none 0) 42)
   rw [World.size_alloc] at this
   exact (Below.heap_alloc _ _ _ (by simp)).trans this
  ·have := World.iter_heap ((w.alloc (.cells (InV i A c) 42)).alloc (.cells (InV (emptyI 0) none 0) 42)) ⟨L.toArray⟩ 0
   rwa [World.size_alloc, World.size_alloc] at this
  ·exact ((((Below.refl _ w).alloc (Nat.le_refl _) _).alloc (by simp) _).alloc (by simp; omega) _)
 have HST := hh hstart
 unfold InV emptyI at HST
 dsimp only [List.length_nil] at HST
 unfold InV at HPO ⊢
 obtain ⟨n, hn⟩ : ∃ n, n = L.length := ⟨_, rfl⟩
 have HN := hh hn
 clear hL hs hr hc h0 hstart hn
 go_enter Tryz.func150, Tryz.ntmps150
 go_wp2_with fail
 refine (HS.out _ HT.out).mono ?_
 rintro e w1 ⟨rfl, rfl⟩
 go_wp2_with fail
 go_loopw [4] (fun _ wr => ∃ pos, pos ≤ n ∧ BInv i L w pos wr) (fun _ wr => n - wr.iterPos (w.heap.size + 1 + 1))
 case atStart => exact ⟨0, Nat.zero_le _, HST.out⟩
 case round =>
  obtain ⟨pos, hpn, j, A', c', hf, hb, hrd, hlen, hz, hit, hbel⟩ := hrel
  by_cases hp : pos < n
  ·obtain ⟨x, hx⟩ : ∃ x, L[pos]? = some x := ⟨L[pos]'(by rw [← HN.out]; exact hp), List.getElem?_eq_getElem _⟩
   obtain ⟨w1, hnx, hit1, hsz1, hoth, hbw⟩ := next_at (P := Tryz.prog) wr _ L pos x hit hx (HL.out x (List.mem_of_getElem? hx))
   have hb1 := (hoth w.heap.size (by omega)).trans hb
   have hz1 := (hoth (w.heap.size + 1) (by omega)).trans hz
   have hbel1 := hbel.trans (hbw w.heap.size (by omega))
   have hpos : wr.iterPos (w.heap.size + 1 + 1) = pos := by simp [World.iterPos, hit]
   have hnext : (L.take (pos + 1)).foldl bareS i = bareS j x := by rw [List.take_add_one, hx, ← hf, List.foldl_append]; rfl
   have f1 := frozen_of_row _ _ 1 _ _ hb1
   have f2 := frozen_of_row _ _ 2 _ _ hb1
   have f3 := frozen_of_row _ _ 3 _ _ hb1
   have f4 := frozen_of_row _ _ 4 _ _ hb1
   have f5 := frozen_of_row _ _ 5 _ _ hb1
   have f6 := frozen_of_row _ _ 6 _ _ hb1
   have f7 := frozen_of_row _ _ 7 _ _ hb1
   have f8 := frozen_of_row _ _ 8 _ _ hb1
   have g1 : w1.cell? ⟨w.heap.size, 1, none⟩ = some _ := cell_of_row _ _ 1 _ _ _ hb1
   have g2 : w1.cell? ⟨w.heap.size, 2, none⟩ = some _ := cell_of_row _ _ 2 _ _ _ hb1
   have g3 : w1.cell? ⟨w.heap.size, 3, none⟩ = some _ := cell_of_row _ _ 3 _ _ _ hb1
   have g4 : w1.cell? ⟨w.heap.size, 4, none⟩ = some _ := cell_of_row _ _ 4 _ _ _ hb1
   have g5 : w1.cell? ⟨w.heap.size, 5, none⟩ = some _ := cell_of_row _ _ 5 _ _ _ hb1
   have g6 : w1.cell? ⟨w.heap.size, 6, none⟩ = some _ := cell_of_row _ _ 6 _ _ _ hb1
   have g7 : w1.cell? ⟨w.heap.size, 7, none⟩ = some _ := cell_of_row _ _ 7 _ _ _ hb1
   have g8 : w1.cell? ⟨w.heap.size, 8, none⟩ = some _ := cell_of_row _ _ 8 _ _ _ hb1
   have HB := hh hb1; have HZ := hh hz1; have HI := hh hit1; have HBL := hh hbel1; have HNX := hh hnext; have HP := hh hpos
   clear hb hz hit hbel hf hoth hbw hb1 hz1 hit1 hbel1 hnext hpos hx hsz1
   have hbl : ∀ k, w.heap.size ≤ (⟨w.heap.size, k, none⟩ : Addr).block := fun _ => Nat.le_refl _
   have HBK := hh hbl
   clear hbl
   rcases letters x with rfl | rfl | rfl | rfl | rfl | rfl | rfl | rfl | rfl | rfl | ⟨e1, e2, e3, e4, e5, e6, e7, e8, e9, e10⟩
   ·go_wp2
    go_roundw
    case rel => exact (bare_end hp HNX.out (set_a HB.out) hrd hlen (fun g hg => Below.heap_setCell _ _ _ g hg) ((Below.refl _ _).setCell (HBK.out 1) _) HZ.out HI.out HBL.out HP.out).1
    case measure => exact (bare_end hp HNX.out (set_a HB.out) hrd hlen (fun g hg => Below.heap_setCell _ _ _ g hg) ((Below.refl _ _).setCell (HBK.out 1) _) HZ.out HI.out HBL.out HP.out).2
   ·go_wp2
    go_roundw
    case rel => exact (bare_end hp HNX.out (set_b HB.out) hrd hlen (fun g hg => Below.heap_setCell _ _ _ g hg) ((Below.refl _ _).setCell (HBK.out 2) _) HZ.out HI.out HBL.out HP.out).1
    case measure => exact (bare_end hp HNX.out (set_b HB.out) hrd hlen (fun g hg => Below.heap_setCell _ _ _ g hg) ((Below.refl _ _).setCell (HBK.out 2) _) HZ.out HI.out HBL.out HP.out).2
   ·go_wp2
    go_roundw
    case rel => exact (bare_end hp HNX.out (set_c HB.out) hrd hlen (fun g hg => Below.heap_setCell _ _ _ g hg) ((Below.refl _ _).setCell (HBK.out 3) _) HZ.out HI.out HBL.out HP.out).1
    case measure => exact (bare_end hp HNX.out (set_c HB.out) hrd hlen (fun g hg => Below.heap_setCell _ _ _ g hg) ((Below.refl _ _).setCell (HBK.out 3) _) HZ.out HI.out HBL.out HP.out).2
   ·go_wp2
    go_roundw
    case rel => exact (bare_end hp HNX.out (set_k HB.out) hrd hlen (fun g hg => Below.heap_setCell _ _ _ g hg) ((Below.refl _ _).setCell (HBK.out 4) _) HZ.out HI.out HBL.out HP.out).1
    case measure => exact (bare_end hp HNX.out (set_k HB.out) hrd hlen (fun g hg => Below.heap_setCell _ _ _ g hg) ((Below.refl _ _).setCell (HBK.out 4) _) HZ.out HI.out HBL.out HP.out).2
   ·go_wp2
    go_roundw
    case rel => exact (bare_end hp HNX.out (set_k HB.out) hrd hlen (fun g hg => Below.heap_setCell _ _ _ g hg) ((Below.refl _ _).setCell (HBK.out 4) _) HZ.out HI.out HBL.out HP.out).1
    case measure => exact (bare_end hp HNX.out (set_k HB.out) hrd hlen (fun g hg => Below.heap_setCell _ _ _ g hg) ((Below.refl _ _).setCell (HBK.out 4) _) HZ.out HI.out HBL.out HP.out).2
   ·go_wp2
    go_roundw
    case rel => exact (bare_end hp HNX.out (set_k HB.out) hrd hlen (fun g hg => Below.heap_setCell _ _ _ g hg) ((Below.refl _ _).setCell (HBK.out 4) _) HZ.out HI.out HBL.out HP.out).1
    case measure => exact (bare_end hp HNX.out (set_k HB.out) hrd hlen (fun g hg => Below.heap_setCell _ _ _ g hg) ((Below.refl _ _).setCell (HBK.out 4) _) HZ.out HI.out HBL.out HP.out).2
   ·go_wp2
    go_roundw
    case rel => exact (bare_end hp HNX.out (set_cl HB.out) hrd hlen (fun g hg => Below.heap_setCell _ _ _ g hg) ((Below.refl _ _).setCell (HBK.out 5) _) HZ.out HI.out HBL.out HP.out).1
    case measure => exact (bare_end hp HNX.out (set_cl HB.out) hrd hlen (fun g hg => Below.heap_setCell _ _ _ g hg) ((Below.refl _ _).setCell (HBK.out 5) _) HZ.out HI.out HBL.out HP.out).2
   ·go_wp2
    go_roundw
    case rel => exact (bare_end hp HNX.out (set_nm (set_cl HB.out)) hrd hlen (fun g hg => (Below.heap_setCell _ _ _ g hg).trans (Below.heap_setCell _ _ _ g hg)) (((Below.refl _ _).setCell (HBK.out 5) _).setCell (HBK.out 6) _) HZ.out HI.out HBL.out HP.out).1
    case measure => exact (bare_end hp HNX.out (set_nm (set_cl HB.out)) hrd hlen (fun g hg => (Below.heap_setCell _ _ _ g hg).trans (Below.heap_setCell _ _ _ g hg)) (((Below.refl _ _).setCell (HBK.out 5) _).setCell (HBK.out 6) _) HZ.out HI.out HBL.out HP.out).2
   ·go_wp2
    go_roundw
    case rel => exact (bare_end hp HNX.out (set_ds (set_nm (set_cl HB.out))) hrd hlen (fun g hg => (Below.heap_setCell _ _ _ g hg).trans ((Below.heap_setCell _ _ _ g hg).trans (Below.heap_setCell _ _ _ g hg))) ((((Below.refl _ _).setCell (HBK.out 5) _).setCell (HBK.out 6) _).setCell (HBK.out 7) _) HZ.out HI.out HBL.out HP.out).1
    case measure => exact (bare_end hp HNX.out (set_ds (set_nm (set_cl HB.out))) hrd hlen (fun g hg => (Below.heap_setCell _ _ _ g hg).trans ((Below.heap_setCell _ _ _ g hg).trans (Below.heap_setCell _ _ _ g hg))) ((((Below.refl _ _).setCell (HBK.out 5) _).setCell (HBK.out 6) _).setCell (HBK.out 7) _) HZ.out HI.out HBL.out HP.out).2
   ·go_wp2
    go_roundw
    case rel => exact (bare_end hp HNX.out (set_as HB.out) (Rd.nil _ _) (Nat.le_refl _) (fun g hg => Below.heap_setCell _ _ _ g hg) ((Below.refl _ _).setCell (HBK.out 8) _) HZ.out HI.out HBL.out HP.out).1
    case measure => exact (bare_end hp HNX.out (set_as HB.out) (Rd.nil _ _) (Nat.le_refl _) (fun g hg => Below.heap_setCell _ _ _ g hg) ((Below.refl _ _).setCell (HBK.out 8) _) HZ.out HI.out HBL.out HP.out).2
   ·have n1 := ne_nat (n := 97) e1
    have n2 := ne_nat (n := 98) e2
    have n3 := ne_nat (n := 99) e3
    have n4 := ne_nat (n := 107) e4
    have n5 := ne_nat (n := 116) e5
    have n6 := ne_nat (n := 114) e6
    have n7 := ne_nat (n := 67) e7
    have n8 := ne_nat (n := 70) e8
    have n9 := ne_nat (n := 77) e9
    have n10 := ne_nat (n := 118) e10
    have HNB := hh (HNX.out.trans (bare_none e1 e2 e3 e4 e5 e6 e7 e8 e9 e10))
    clear e1 e2 e3 e4 e5 e6 e7 e8 e9 e10
    go_wp2
    go_roundw
    case rel => exact (bare_end hp HNB.out HB.out hrd hlen (fun g hg => rfl) (Below.refl _ _) HZ.out HI.out HBL.out HP.out).1
    case measure => exact (bare_end hp HNB.out HB.out hrd hlen (fun g hg => rfl) (Below.refl _ _) HZ.out HI.out HBL.out HP.out).2
  ·obtain rfl : pos = n := by omega
   have hnx := next_none (P := Tryz.prog) wr _ L pos hit (by rw [← HN.out]; exact Nat.le_refl _)
   have hfin : L.foldl bareS i = j := by rw [← hf, HN.out, List.take_length]
   have hW : ∃ WF, WF = put9 wr (w.heap.size + 1) j A' c' := ⟨_, rfl⟩
   obtain ⟨WF, hWF⟩ := hW
   have hbF : Below w.heap.size w WF := by rw [hWF]; exact hbel.trans (put9_below (by omega))
   have hF := HPO.out j A' c' WF hfin hrd hlen hbF
   have hcF := in_cells (by rw [hWF]; exact put9_heap hz : WF.heap[w.heap.size + 1]? = some (.cells (InV j A' c') 42 (0, 0)))
   unfold put9 at hWF
   have HF := hh hF; have HC := hh hcF; have HW := hh hWF
   obtain ⟨g0, g1, g2, g3, g4, g5, g6, g7, g8⟩ := in_cells hb
   have q0 := in_cells hz
   have z0 := frozen_of_row _ _ 0 _ _ hz
   have z1 := frozen_of_row _ _ 1 _ _ hz
   have z2 := frozen_of_row _ _ 2 _ _ hz
   have z3 := frozen_of_row _ _ 3 _ _ hz
   have z4 := frozen_of_row _ _ 4 _ _ hz
   have z5 := frozen_of_row _ _ 5 _ _ hz
   have z6 := frozen_of_row _ _ 6 _ _ hz
   have z7 := frozen_of_row _ _ 7 _ _ hz
   have z8 := frozen_of_row _ _ 8 _ _ hz
   dsimp only [emptyI, List.length_nil] at q0
   obtain ⟨y0, y1, y2, y3, y4, y5, y6, y7, y8⟩ := q0
   have HB := hh hbel; have HR := hh hrd
   clear hf hfin hb hz hit hbel hrd hWF hbF hF hcF
   go_wp2
   rw [← HW.out]
   obtain ⟨x0, x1, x2, x3, x4, x5, x6, x7, x8⟩ := HC.out
   refine bodyPost_ret (v := .agg (InV j A' c')) ?_ rfl HF.out
   simp [results, Tryz.results150, go_sem, x0, x1, x2, x3, x4, x5, x6, x7, x8, InV]
end Go.Proofs.YtgociheckcpjkaaGreatDoor.op

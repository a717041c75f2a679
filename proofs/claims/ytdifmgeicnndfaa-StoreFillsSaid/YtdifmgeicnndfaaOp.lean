/- Op -/
import Derived.Test.YtdifmgeicnndfaaKind
import Derived.Test.YtdifmgeicnndfaaProg
import Derived.Shelf.Strings.Shaped
import Derived.Shelf.Small.Wraps
import Derived.Shelf.Strings.IndexAnyAll
import Derived.Laws.CopyOwn
import Derived.Laws.MakeOwn
import Derived.Deep.RegionLaw
import Derived.Test.YtdifmgeicnndfaaShelf3
import Derived.RegionTactic
import Derived.Deep.RegionHeld3
import Derived.Laws.OwnMore
namespace Go.Proofs.Ytdifmgeicnndfaa.kind
open Go.RowKit
open words kindp word
set_option maxRecDepth 100000
set_option maxHeartbeats 800000
theorem app_mk (a b : Tx) : (⟨a.toArray⟩ : ByteArray) ++ ⟨b.toArray⟩ = ⟨(a ++ b).toArray⟩ := by
 apply ByteArray.ext; rw [ByteArray.data_append]; simp
theorem right_has {k : Int} {c : Tx} (h : hasB k = true) : rightT (k, c) = clsB c := by unfold rightT; rw [if_pos h]
theorem right_no {k : Int} {c : Tx} (h : hasB k = false) : rightT (k, c) = decide ((k = 1 ∨ k = 2 ∨ k = 4) ∧ c = []) := by unfold rightT; rw [if_neg (by rw [h]; simp)]
theorem right_w (k : Int) (c : Tx) (w : World) (hc : c.length ≤ 281474976710656) :
  Calls Try.prog 95 #[.agg #[.int .i64 k, .string ⟨c.toArray⟩]] w fun e w' => e = .returned (.bool (rightT (k, c))) ∧ Below w.heap.size w w' := by
 have HH := zh (fun w => has_w k c w)
 cases hb : hasB k with
 | true =>
  rw [hb] at HH
  rw [right_has hb]
  have HC := zh (fun w => class_name ⟨c.toArray⟩ w (by rw [mk_len]; exact hc))
  rw [cls_eq] at HC
  clear hb hc
  go_enter Try.func95, Try.ntmps95
  go_wp2_with fail
  refine (HH.out _).mono ?_
  rintro e w1 ⟨rfl, hb1⟩
  have c1 := (hb1.cell (p := ⟨w.heap.size, 1, none⟩) (by simp)).trans (show _ = some (.string ⟨c.toArray⟩) by rw [cell_of_row _ _ _ _ _ _ (heap_alloc_new w _)]; rfl)
  have HB := zh (((Below.refl w.heap.size w).alloc (Nat.le_refl _) _).trans (hb1.mono (by simp)))
  clear hb1 HH
  go_wp2_with fail
  refine (HC.out _).mono ?_
  rintro e w2 ⟨rfl, rfl⟩
  go_wp2
  go_ret
  exact ⟨rfl, HB.out⟩
 | false =>
  rw [hb] at HH
  have HS := (fun w => sign_w k w)
  rcases kinds k with rfl | rfl | rfl | rfl | rfl | ⟨e1, e2, e3, e4, e5, e6, -⟩
  ·rw [right_no hb]
   rw [show signL 1 = [86] from rfl] at HS
   have HS := zh HS
   by_cases hc0 : c = []
   ·subst hc0
    rw [show decide (((1 : Int) = 1 ∨ (1 : Int) = 2 ∨ (1 : Int) = 4) ∧ ([] : Tx) = []) = true from rfl]
    clear hb hc
    go_enter Try.func95, Try.ntmps95
    go_wp2_with fail
    refine (HH.out _).mono ?_
    rintro e w1 ⟨rfl, hb1⟩
    have c0 := (hb1.cell (p := ⟨w.heap.size, 0, none⟩) (by simp)).trans (show _ = some (.int .i64 1) by rw [cell_of_row _ _ _ _ _ _ (heap_alloc_new w _)]; rfl)
    have c1 := (hb1.cell (p := ⟨w.heap.size, 1, none⟩) (by simp)).trans (show _ = some (.string ⟨#[]⟩) by rw [cell_of_row _ _ _ _ _ _ (heap_alloc_new w _)]; rfl)
    have HB := zh (((Below.refl w.heap.size w).alloc (Nat.le_refl _) _).trans (hb1.mono (by simp)))
    clear hb1 HH
    go_wp2_with fail
    refine (HS.out _).mono ?_
    rintro e w2 ⟨rfl, rfl⟩
    go_wp2
    go_ret
    exact ⟨rfl, HB.out⟩
   ·rw [show decide (((1 : Int) = 1 ∨ (1 : Int) = 2 ∨ (1 : Int) = 4) ∧ c = []) = false by simp [hc0]]
    clear hb hc
    go_enter Try.func95, Try.ntmps95
    go_wp2_with fail
    refine (HH.out _).mono ?_
    rintro e w1 ⟨rfl, hb1⟩
    have c0 := (hb1.cell (p := ⟨w.heap.size, 0, none⟩) (by simp)).trans (show _ = some (.int .i64 1) by rw [cell_of_row _ _ _ _ _ _ (heap_alloc_new w _)]; rfl)
    have c1 := (hb1.cell (p := ⟨w.heap.size, 1, none⟩) (by simp)).trans (show _ = some (.string ⟨c.toArray⟩) by rw [cell_of_row _ _ _ _ _ _ (heap_alloc_new w _)]; rfl)
    have HB := zh (((Below.refl w.heap.size w).alloc (Nat.le_refl _) _).trans (hb1.mono (by simp)))
    clear hb1 HH
    go_wp2_with fail
    refine (HS.out _).mono ?_
    rintro e w2 ⟨rfl, rfl⟩
    go_wp2
    go_ret
    exact ⟨rfl, HB.out⟩
  ·rw [right_no hb]
   rw [show signL 2 = [73] from rfl] at HS
   have HS := zh HS
   by_cases hc0 : c = []
   ·subst hc0
    rw [show decide (((2 : Int) = 1 ∨ (2 : Int) = 2 ∨ (2 : Int) = 4) ∧ ([] : Tx) = []) = true from rfl]
    clear hb hc
    go_enter Try.func95, Try.ntmps95
    go_wp2_with fail
    refine (HH.out _).mono ?_
    rintro e w1 ⟨rfl, hb1⟩
    have c0 := (hb1.cell (p := ⟨w.heap.size, 0, none⟩) (by simp)).trans (show _ = some (.int .i64 2) by rw [cell_of_row _ _ _ _ _ _ (heap_alloc_new w _)]; rfl)
    have c1 := (hb1.cell (p := ⟨w.heap.size, 1, none⟩) (by simp)).trans (show _ = some (.string ⟨#[]⟩) by rw [cell_of_row _ _ _ _ _ _ (heap_alloc_new w _)]; rfl)
    have HB := zh (((Below.refl w.heap.size w).alloc (Nat.le_refl _) _).trans (hb1.mono (by simp)))
    clear hb1 HH
    go_wp2_with fail
    refine (HS.out _).mono ?_
    rintro e w2 ⟨rfl, rfl⟩
    go_wp2
    go_ret
    exact ⟨rfl, HB.out⟩
   ·rw [show decide (((2 : Int) = 1 ∨ (2 : Int) = 2 ∨ (2 : Int) = 4) ∧ c = []) = false by simp [hc0]]
    clear hb hc
    go_enter Try.func95, Try.ntmps95
    go_wp2_with fail
    refine (HH.out _).mono ?_
    rintro e w1 ⟨rfl, hb1⟩
    have c0 := (hb1.cell (p := ⟨w.heap.size, 0, none⟩) (by simp)).trans (show _ = some (.int .i64 2) by rw [cell_of_row _ _ _ _ _ _ (heap_alloc_new w _)]; rfl)
    have c1 := (hb1.cell (p := ⟨w.heap.size, 1, none⟩) (by simp)).trans (show _ = some (.string ⟨c.toArray⟩) by rw [cell_of_row _ _ _ _ _ _ (heap_alloc_new w _)]; rfl)
    have HB := zh (((Below.refl w.heap.size w).alloc (Nat.le_refl _) _).trans (hb1.mono (by simp)))
    clear hb1 HH
    go_wp2_with fail
    refine (HS.out _).mono ?_
    rintro e w2 ⟨rfl, rfl⟩
    go_wp2
    go_ret
    exact ⟨rfl, HB.out⟩
  ·exact absurd hb (by decide)
  ·rw [right_no hb]
   rw [show signL 4 = [91, 73] from rfl] at HS
   have HS := zh HS
   by_cases hc0 : c = []
   ·subst hc0
    rw [show decide (((4 : Int) = 1 ∨ (4 : Int) = 2 ∨ (4 : Int) = 4) ∧ ([] : Tx) = []) = true from rfl]
    clear hb hc
    go_enter Try.func95, Try.ntmps95
    go_wp2_with fail
    refine (HH.out _).mono ?_
    rintro e w1 ⟨rfl, hb1⟩
    have c0 := (hb1.cell (p := ⟨w.heap.size, 0, none⟩) (by simp)).trans (show _ = some (.int .i64 4) by rw [cell_of_row _ _ _ _ _ _ (heap_alloc_new w _)]; rfl)
    have c1 := (hb1.cell (p := ⟨w.heap.size, 1, none⟩) (by simp)).trans (show _ = some (.string ⟨#[]⟩) by rw [cell_of_row _ _ _ _ _ _ (heap_alloc_new w _)]; rfl)
    have HB := zh (((Below.refl w.heap.size w).alloc (Nat.le_refl _) _).trans (hb1.mono (by simp)))
    clear hb1 HH
    go_wp2_with fail
    refine (HS.out _).mono ?_
    rintro e w2 ⟨rfl, rfl⟩
    go_wp2
    go_ret
    exact ⟨rfl, HB.out⟩
   ·rw [show decide (((4 : Int) = 1 ∨ (4 : Int) = 2 ∨ (4 : Int) = 4) ∧ c = []) = false by simp [hc0]]
    clear hb hc
    go_enter Try.func95, Try.ntmps95
    go_wp2_with fail
    refine (HH.out _).mono ?_
    rintro e w1 ⟨rfl, hb1⟩
    have c0 := (hb1.cell (p := ⟨w.heap.size, 0, none⟩) (by simp)).trans (show _ = some (.int .i64 4) by rw [cell_of_row _ _ _ _ _ _ (heap_alloc_new w _)]; rfl)
    have c1 := (hb1.cell (p := ⟨w.heap.size, 1, none⟩) (by simp)).trans (show _ = some (.string ⟨c.toArray⟩) by rw [cell_of_row _ _ _ _ _ _ (heap_alloc_new w _)]; rfl)
    have HB := zh (((Below.refl w.heap.size w).alloc (Nat.le_refl _) _).trans (hb1.mono (by simp)))
    clear hb1 HH
    go_wp2_with fail
    refine (HS.out _).mono ?_
    rintro e w2 ⟨rfl, rfl⟩
    go_wp2
    go_ret
    exact ⟨rfl, HB.out⟩
  ·exact absurd hb (by decide)
  ·rw [right_no hb]
   rw [e6] at HS
   have HS := zh HS
   have n1 : ¬ k = 1 := by simpa using e1
   have n2 : ¬ k = 2 := by simpa using e2
   have n4 : ¬ k = 4 := by simpa using e4
   rw [show decide ((k = 1 ∨ k = 2 ∨ k = 4) ∧ c = []) = false by simp [n1, n2, n4]]
   clear hb hc n1 n2 n4 e1 e2 e3 e4 e5 e6
   go_enter Try.func95, Try.ntmps95
   go_wp2_with fail
   refine (HH.out _).mono ?_
   rintro e w1 ⟨rfl, hb1⟩
   have c0 := (hb1.cell (p := ⟨w.heap.size, 0, none⟩) (by simp)).trans (show _ = some (.int .i64 k) by rw [cell_of_row _ _ _ _ _ _ (heap_alloc_new w _)]; rfl)
   have HB := zh (((Below.refl w.heap.size w).alloc (Nat.le_refl _) _).trans (hb1.mono (by simp)))
   clear hb1 HH
   go_wp2_with fail
   refine (HS.out _).mono ?_
   rintro e w2 ⟨rfl, rfl⟩
   go_wp2
   go_ret
   exact ⟨rfl, HB.out⟩
theorem isref_w (k : Int) (c : Tx) (w : World) :
  Calls Try.prog 69 #[.agg #[.int .i64 k, .string ⟨c.toArray⟩]] w fun e w' => e = .returned (.bool (hasB k || (k == 4))) ∧ Below w.heap.size w w' := by
 have HH := zh (fun w => has_w k c w)
 cases hb : hasB k with
 | true =>
  rw [hb] at HH
  rw [Bool.true_or]
  clear hb
  go_enter Try.func69, Try.ntmps69
  go_wp2_with fail
  refine (HH.out _).mono ?_
  rintro e w1 ⟨rfl, hb1⟩
  have HB := zh (((Below.refl w.heap.size w).alloc (Nat.le_refl _) _).trans (hb1.mono (by simp)))
  clear hb1 HH
  go_wp2
  go_ret
  exact ⟨rfl, HB.out⟩
 | false =>
  rw [hb] at HH
  rw [Bool.false_or]
  obtain ⟨d, hd⟩ : ∃ d, (k == 4) = d := ⟨_, rfl⟩
  rw [hd]
  clear hb
  go_enter Try.func69, Try.ntmps69
  go_wp2_with fail
  refine (HH.out _).mono ?_
  rintro e w1 ⟨rfl, hb1⟩
  have c0 := (hb1.cell (p := ⟨w.heap.size, 0, none⟩) (by simp)).trans (show _ = some (.int .i64 k) by rw [cell_of_row _ _ _ _ _ _ (heap_alloc_new w _)]; rfl)
  have HB := zh (((Below.refl w.heap.size w).alloc (Nat.le_refl _) _).trans (hb1.mono (by simp)))
  clear hb1 HH
  go_wp2
  go_ret
  exact ⟨rfl, HB.out⟩
theorem text_has {k : Int} {c : Tx} (h : hasB k = true) (hc : clsB c = true) : textT (k, c) = signL k ++ c ++ [59] := by
 unfold textT; rw [right_has h, if_pos hc, if_pos h]
theorem text_no {k : Int} {c : Tx} (h : hasB k = false) (hr : rightT (k, c) = true) : textT (k, c) = signL k := by
 unfold textT; rw [if_pos hr, if_neg (by rw [h]; simp)]
theorem text_bad {t : Ty} (h : rightT t = false) : textT t = [] := by unfold textT; rw [if_neg (by rw [h]; simp)]
theorem sign_len (k : Int) : (signL k).length ≤ 2 := by unfold signL; (repeat' split) <;> simp
theorem text_w (k : Int) (c : Tx) (w : World) (hc : c.length ≤ 281474976710656) :
  Calls Try.prog 60 #[.agg #[.int .i64 k, .string ⟨c.toArray⟩]] w fun e w' => e = .returned (.string ⟨(textT (k, c)).toArray⟩) ∧ Below w.heap.size w w' := by
 have HR := zh (fun w => right_w k c w hc)
 have HH := zh (fun w => has_w k c w)
 have HS := zh (fun w => sign_w k w)
 cases hr : rightT (k, c) with
 | false =>
  rw [hr] at HR
  rw [text_bad hr]
  clear hr hc HH HS
  go_enter Try.func60, Try.ntmps60
  go_wp2_with fail
  refine (HR.out _).mono ?_
  rintro e w1 ⟨rfl, hb1⟩
  have HB := zh (((Below.refl w.heap.size w).alloc (Nat.le_refl _) _).trans (hb1.mono (by simp)))
  clear hb1 HR
  go_wp2
  go_ret
  exact ⟨rfl, HB.out⟩
 | true =>
  rw [hr] at HR
  cases hb : hasB k with
  | false =>
   rw [hb] at HH
   rw [text_no hb hr]
   clear hr hc hb
   go_enter Try.func60, Try.ntmps60
   go_wp2_with fail
   refine (HR.out _).mono ?_
   rintro e w1 ⟨rfl, hb1⟩
   have c0 := (hb1.cell (p := ⟨w.heap.size, 0, none⟩) (by simp)).trans (show _ = some (.int .i64 k) by rw [cell_of_row _ _ _ _ _ _ (heap_alloc_new w _)]; rfl)
   have c1 := (hb1.cell (p := ⟨w.heap.size, 1, none⟩) (by simp)).trans (show _ = some (.string ⟨c.toArray⟩) by rw [cell_of_row _ _ _ _ _ _ (heap_alloc_new w _)]; rfl)
   have hlt : w.heap.size < w1.heap.size := by have := hb1.size; simp at this; omega
   have HB := zh (((Below.refl w.heap.size w).alloc (Nat.le_refl _) _).trans (hb1.mono (by simp)))
   clear hb1 HR
   go_wp2_with fail
   refine (HH.out _).mono ?_
   rintro e w2 ⟨rfl, hb2⟩
   have k0 := (hb2.cell (p := ⟨w.heap.size, 0, none⟩) hlt).trans c0
   have HB2 := zh (then' HB.out hb2)
   clear hb2 HH c0 c1 HB
   go_wp2_with fail
   refine (HS.out _).mono ?_
   rintro e w3 ⟨rfl, rfl⟩
   go_wp2
   go_ret
   exact ⟨rfl, HB2.out⟩
  | true =>
   rw [hb] at HH
   rw [right_has hb] at hr
   rw [text_has hb hr]
   have h32 := (cls_no hr).2.2
   have hsg := sign_len k
   obtain ⟨g, hg⟩ : ∃ g, g = signL k := ⟨_, rfl⟩
   rw [← hg] at HS hsg ⊢
   have hz1 : ¬ 9223372036854775807 < g.length + c.length := by omega
   have hz2 : ¬ 9223372036854775807 < g.length + c.length + 1 := by omega
   have HE := zh (show (⟨g.toArray⟩ : ByteArray) ++ ⟨c.toArray⟩ ++ ⟨#[59]⟩ = ⟨(g ++ c ++ [59]).toArray⟩ by rw [app_mk g c]; exact app_mk (g ++ c) [59])
   clear hr hc hb hg h32 hsg
   go_enter Try.func60, Try.ntmps60
   go_wp2_with fail
   refine (HR.out _).mono ?_
   rintro e w1 ⟨rfl, hb1⟩
   have c0 := (hb1.cell (p := ⟨w.heap.size, 0, none⟩) (by simp)).trans (show _ = some (.int .i64 k) by rw [cell_of_row _ _ _ _ _ _ (heap_alloc_new w _)]; rfl)
   have c1 := (hb1.cell (p := ⟨w.heap.size, 1, none⟩) (by simp)).trans (show _ = some (.string ⟨c.toArray⟩) by rw [cell_of_row _ _ _ _ _ _ (heap_alloc_new w _)]; rfl)
   have hlt : w.heap.size < w1.heap.size := by have := hb1.size; simp at this; omega
   have HB := zh (((Below.refl w.heap.size w).alloc (Nat.le_refl _) _).trans (hb1.mono (by simp)))
   clear hb1 HR
   go_wp2_with fail
   refine (HH.out _).mono ?_
   rintro e w2 ⟨rfl, hb2⟩
   have k0 := (hb2.cell (p := ⟨w.heap.size, 0, none⟩) hlt).trans c0
   have k1 := (hb2.cell (p := ⟨w.heap.size, 1, none⟩) hlt).trans c1
   have HB2 := zh (then' HB.out hb2)
   clear hb2 HH c0 c1 HB
   go_wp2_with fail
   go_quiet ((go_at_call 97; exact Calls.quiet_of_same (HS.out _)))
   go_wp2
   go_ret
   exact ⟨congrArg (fun z => Ending.returned (Value.string z)) HE.out, over HB2.out⟩
end Go.Proofs.Ytdifmgeicnndfaa.kind

namespace Go.Proofs.Ytdifmgeicnndfaa.kind
open Go.RowKit
open words kindp word
set_option maxRecDepth 100000
set_option maxHeartbeats 800000
def elemT (t : Ty) : Ty := if t.1 = 4 then (2, []) else if t.1 = 5 then (3, t.2) else (0, [])
theorem elem_w (k : Int) (c : Tx) (w : World) :
  Calls Try.prog 58 #[.agg #[.int .i64 k, .string ⟨c.toArray⟩]] w fun e w' => e = .returned (tyV (elemT (k, c))) ∧ Below w.heap.size w w' := by
 unfold elemT tyV
 dsimp only
 by_cases h4 : k = 4
 ·subst h4
  rw [if_pos rfl]
  go_enter Try.func58, Try.ntmps58
  go_wp2
  exact bodyPost_ret (v := .agg #[.int .i64 2, .string ⟨#[]⟩]) (by simp [results, Try.results58, go_sem]) rfl ⟨rfl, by repeat (first | exact Below.refl _ _ | refine Below.setCell ?_ (by simp) _ | refine Below.alloc ?_ (by simp) _)⟩
 ·rw [if_neg h4]
  have e4 : (k == 4) = false := by simpa using h4
  by_cases h5 : k = 5
  ·subst h5
   rw [if_pos rfl]
   clear h4 e4
   go_enter Try.func58, Try.ntmps58
   go_wp2
   exact bodyPost_ret (v := .agg #[.int .i64 3, .string ⟨c.toArray⟩]) (by simp [results, Try.results58, go_sem]) rfl ⟨rfl, by repeat (first | exact Below.refl _ _ | refine Below.setCell ?_ (by simp) _ | refine Below.alloc ?_ (by simp) _)⟩
  ·rw [if_neg h5]
   have e5 : (k == 5) = false := by simpa using h5
   clear h4 h5
   go_enter Try.func58, Try.ntmps58
   go_wp2
   exact bodyPost_ret (v := .agg #[.int .i64 0, .string ⟨#[]⟩]) (by simp [results, Try.results58, go_sem]) rfl ⟨rfl, by repeat (first | exact Below.refl _ _ | refine Below.setCell ?_ (by simp) _ | refine Below.alloc ?_ (by simp) _)⟩
end Go.Proofs.Ytdifmgeicnndfaa.kind
namespace Go.Proofs.Ytdifmgeicnndfaa.sto
open Go.RowKit Go.Shelf
open words
set_option maxRecDepth 100000
set_option maxHeartbeats 4000000
set_option linter.all false
def rep (x : List Value) (n : Nat) : List Value := (List.replicate n x).flatten
theorem rep_add (x : List Value) (a b : Nat) : rep x (a + b) = rep x a ++ rep x b := by
 unfold rep
 rw [← List.replicate_append_replicate, List.flatten_append]
theorem rep_len (x : List Value) (n : Nat) : (rep x n).length = n * x.length := by
 unfold rep; simp [List.length_flatten]
theorem rep_one (x : List Value) : rep x 1 = x := by unfold rep; simp
theorem rep_zero (x : List Value) : rep x 0 = [] := rfl
theorem rep_mem {x : List Value} {n : Nat} {v : Value} (h : v ∈ rep x n) : v ∈ x := by
 unfold rep at h
 obtain ⟨l, hl, hv⟩ := List.mem_flatten.1 h
 rwa [List.eq_of_mem_replicate hl] at hv
def vo : List Value := [.int .i64 1, .int .i64 0]
def vz : List Value := [.int .i64 0, .int .i64 0]
def rowV (n k : Nat) : List Value := rep vo k ++ rep vz (n - k)
theorem vo_len (k : Nat) : (rep vo k).length = 2 * k := by rw [rep_len]; show k * 2 = _; omega
theorem vz_len (k : Nat) : (rep vz k).length = 2 * k := by rw [rep_len]; show k * 2 = _; omega
theorem vo_one {n : Nat} : ∀ v ∈ rep vo n, v.oneCell' = true := fun v hv => by
 have := rep_mem hv
 simp only [vo, List.mem_cons, List.not_mem_nil, or_false] at this
 rcases this with rfl | rfl <;> rfl
theorem rowV_len {n k : Nat} (h : k ≤ n) : (rowV n k).length = 2 * n := by unfold rowV; rw [List.length_append, vo_len, vz_len]; omega
theorem rowV_full (n : Nat) : rowV n n = rep vo n := by unfold rowV; rw [Nat.sub_self, rep_zero, List.append_nil]
theorem rowV_splice {n k j : Nat} (h : k + j ≤ n) : splice (rowV n k) (2 * k) (rep vo j) = rowV n (k + j) := by
 have hd : (rep vo k ++ rep vz (n - k)).drop (2 * k + 2 * j) = rep vz (n - (k + j)) := by
  rw [show n - k = j + (n - (k + j)) by omega, rep_add vz, ← List.append_assoc]
  exact List.drop_left' (by rw [List.length_append, vo_len, vz_len])
 unfold splice rowV
 rw [vo_len, hd, List.take_left' (vo_len k), rep_add, List.append_assoc]
theorem rowV_at {n k j i : Nat} {v : Value} (hj : j ≤ k) (h : (rep vo j)[i]? = some v) : (rowV n k)[i]? = some v := by
 obtain ⟨d, rfl⟩ := Nat.exists_eq_add_of_le hj
 have hi : i < (rep vo j).length := (List.getElem?_eq_some_iff.1 h).1
 unfold rowV
 rw [rep_add, List.append_assoc, List.getElem?_append_left hi]
 exact h
theorem vo_at {k i : Nat} {v : Value} (hk : k ≤ 1) (h : (rep vo k)[i]? = some v) : vo[i]? = some v := by
 rw [← rep_one vo]
 rcases Nat.le_one_iff_eq_zero_or_eq_one.1 hk with rfl | rfl
 ·simp [rep_zero] at h
 ·exact h
section
variable {P : Program}
theorem run_copyZ (w : World) (dT sT ty elem : TypeId) (z g o dLen dCap : Nat) (a : Addr) (sLen sCap : Nat) (cur : Array Value) (t : TypeId) (cs : List Value)
    (hu : P.underlying dT = some (.slice elem)) (hs : (P.info? elem).map (·.size) = some z)
    (hg : w.heap[g]? = some (.cells cur t (0, 0))) (hn : cs.length = Nat.min sLen dLen * z)
    (hsrc : ∀ j v, cs[j]? = some v → w.cell? (a.add j) = some v) (hfit : o + cs.length ≤ cur.size) (h1 : ∀ v ∈ cs, v.oneCell' = true) :
    (Builtin.copy_ #[dT, sT] ty #[.slice (some ⟨g, o, none⟩) dLen dCap, .slice (some a) sLen sCap]).run P w =
      .ok (goInt (Nat.min sLen dLen)) (w.setRow g (cur.toList.take o ++ cs ++ cur.toList.drop (o + cs.length)).toArray) := by
  have hl := run_loadCells_list (P := P) w a cs hsrc
  have hst := run_storeCells_at P g o t cs 0 cur w hg (by simpa using hfit) h1
  cases hq : P.info? elem with
  | none => simp [hq] at hs
  | some i =>
    have hi : i.size = z := by simpa [hq] using hs
    simp [Builtin.copy_, run_underlying hu, Builtin.lenOf, Builtin.firstCells, sizeOf, typeInfo, hq, hi, ← hn, hl, hst]
theorem wpList_copyZ {w : World} {ops : Array Oper} {rest : List Oper} {o : Oper} {a : Act} {Q : Exit → Act → World → Prop} (hgd : o.guard = none) (d s : Operand) (dT sT : TypeId)
    (ho : o.op = .call { callee := .builtin .copy, args := #[d, s], argTypes := #[dT, sT] }) (elem : TypeId) (z : Nat) (hu : P.underlying dT = some (.slice elem)) (hsz : (P.info? elem).map (·.size) = some z)
    (g off dLen dCap : Nat) (ad : Addr) (sLen sCap : Nat) (hd : a.eval d = .slice (some ⟨g, off, none⟩) dLen dCap) (hs : a.eval s = .slice (some ad) sLen sCap)
    (cur : List Value) (t : TypeId) (hg : w.heap[g]? = some (.cells cur.toArray t (0, 0))) (cs : List Value) (m : Nat) (hm : Nat.min sLen dLen = m) (hn : cs.length = m * z)
    (hsrc : ∀ j v, cs[j]? = some v → w.cell? (ad.add j) = some v) (hfit : off + cs.length ≤ cur.length) (h1 : ∀ v ∈ cs, v.oneCell' = true) (B : Nat) (w0 : World) (hb : Below B w0 w) (hBg : B ≤ g)
    (h : ∀ w', Hid (w'.heap[g]? = some (.cells (splice cur off cs).toArray t (0, 0))) → Below B w0 w' → wpList P ops Q rest (a.put o.dst (goInt (m : Nat))) w') : wpList P ops Q (o :: rest) a w := by
  subst hm
  refine wpList_plain hgd fun K hK => ?_
  have hrun := run_copyZ (P := P) w dT sT o.type elem z g off dLen dCap ad sLen sCap cur.toArray t cs hu hsz hg hn hsrc (by simpa using hfit) h1
  unfold Oper.wp
  simp [execOp, ho, resolve, invoke, builtin, hd, hs, hrun, Result.andThen]
  exact hK _ _ (h _ (zh (show _ = _ by simpa [splice] using setRow_heap w g _ _ t _ hg)) (below_setRow hb hBg _))
theorem step_copyZ {w : World} {ops : Array Oper} {o : Oper} {a : Act} {K : Act → World → Prop} {Q : Exit → Act → World → Prop} {E : Prop} (hgd : o.guard = none) (d s : Operand) (dT sT : TypeId)
    (ho : o.op = .call { callee := .builtin .copy, args := #[d, s], argTypes := #[dT, sT] }) (elem : TypeId) (z : Nat) (hu : P.underlying dT = some (.slice elem)) (hsz : (P.info? elem).map (·.size) = some z)
    (g off dLen dCap : Nat) (ad : Addr) (sLen sCap : Nat) (hd : a.eval d = .slice (some ⟨g, off, none⟩) dLen dCap) (hs : a.eval s = .slice (some ad) sLen sCap)
    (cur : List Value) (t : TypeId) (hg : w.heap[g]? = some (.cells cur.toArray t (0, 0))) (cs : List Value) (m : Nat) (hm : Nat.min sLen dLen = m) (hn : cs.length = m * z)
    (hsrc : ∀ j v, cs[j]? = some v → w.cell? (ad.add j) = some v) (hfit : off + cs.length ≤ cur.length) (h1 : ∀ v ∈ cs, v.oneCell' = true) (B : Nat) (w0 : World) (hb : Below B w0 w) (hBg : B ≤ g)
    (h : ∀ w', Hid (w'.heap[g]? = some (.cells (splice cur off cs).toArray t (0, 0))) → Below B w0 w' → K (a.put o.dst (goInt (m : Nat))) w') :
    if Region.wanted o (yielded ops a.tmps) = true then Oper.wp P o a w K Q else E := by
  subst hm
  have hw : Region.wanted o (yielded ops a.tmps) = true := by simp [Region.wanted, hgd]
  rw [if_pos hw]
  have hrun := run_copyZ (P := P) w dT sT o.type elem z g off dLen dCap ad sLen sCap cur.toArray t cs hu hsz hg hn hsrc (by simpa using hfit) h1
  unfold Oper.wp
  simp [execOp, ho, resolve, invoke, builtin, hd, hs, hrun, Result.andThen]
  exact h _ (zh (show _ = _ by simpa [splice] using setRow_heap w g _ _ t _ hg)) (below_setRow hb hBg _)
end
theorem infoV : (Try.prog.info? 70).map (fun i => (i.zero, i.size, i.bytes)) = some (some (.agg #[.int .i64 0, .int .i64 0]), 2, 16) := by kernel_rfl
theorem below_drewV {b : Nat} {a c : World} (h : Below b a c) : Below b a c.drew := ⟨h.os, h.tape, h.output, h.size, h.block⟩
theorem repeat_v (n : Nat) (hn : n ≤ 64) (b c : Nat) (w : World) (hx : w.heap[b]? = some (.cells vo.toArray 70 (0, 0))) :
  Calls Try.prog 57 #[.slice (some ⟨b, 0, none⟩) 1 c, .int .i64 (n : Int)] w fun e w' => e = .returned (.slice (some ⟨w.heap.size, 0, none⟩) n n) ∧ w'.heap[w.heap.size]? = some (.cells (rep vo n).toArray 70 (0, 0)) ∧ Below w.heap.size w w' := by
 obtain ⟨i0, hi, hz0, hz1, hz2⟩ := info_parts infoV
 have hsz1 : (Try.prog.info? 70).map (·.size) = some 2 := by rw [hi]; simp [hz1]
 have hnI : (n : Int) ≤ 64 := by omega
 have hmul := Try.bits_Mul 1 n (by omega) (by omega)
 rw [Nat.one_mul, Nat.div_eq_of_lt (by omega), Nat.mod_eq_of_lt (by omega)] at hmul
 have HMUL := zh (fun w => (show Calls Try.prog 94 #[.int .u64 1, .int .u64 (n : Int)] w fun e w' => e = .returned (.tuple #[.int .u64 0, .int .u64 (n : Int)]) ∧ w' = w from hmul w))
 have hmk : ∀ w, (Instr.makeSlice 83 (.int .i64 (n : Int)) (.int .i64 (n : Int))).run Try.prog w = .ok (.slice (some ⟨w.heap.size, 0, none⟩) n n) (w.alloc (.cells (rowV n 0).toArray 70)) := fun w => by
  have h := run_make (P := Try.prog) w 83 70 i0 (.agg #[.int .i64 0, .int .i64 0]) Try.underlying83 hi hz0 .i64 .i64 (n : Int) (n : Int) (by omega) (Int.le_refl _) (by rw [hz2]; omega) (by omega)
  rw [Int.toNat_natCast, hz1] at h
  rw [h]
  congr 3
  have e : ∀ m, (madeCells (Value.agg #[.int .i64 0, .int .i64 0]).cells (m * 2)) = (rowV m 0).toArray := fun m => by
   unfold madeCells rowV
   apply Array.ext'
   rw [rep_zero, List.nil_append, Nat.sub_zero]
   simp only [Value.cells, Array.toList_map, Array.toList_range, List.size_toArray, List.length_cons, List.length_nil, Nat.zero_add]
   apply List.ext_getElem?
   intro j
   by_cases hj : j < m * 2
   ·rw [List.getElem?_map, List.getElem?_range hj]
    have h2 : (rep vz m)[j]? = some (.int .i64 0) := by
     have hl : j < (rep vz m).length := by rw [vz_len]; omega
     rw [List.getElem?_eq_getElem hl]
     have := rep_mem (List.getElem_mem hl)
     simp only [vz, List.mem_cons, List.not_mem_nil, or_false, or_self] at this
     exact congrArg some this
    rw [h2]
    have h3 : j % 2 = 0 ∨ j % 2 = 1 := by omega
    rcases h3 with h3 | h3 <;> simp [h3]
   ·rw [List.getElem?_eq_none (by simp; omega), List.getElem?_eq_none (by rw [vz_len]; omega)]
  exact e n
 clear hmul
 have hn0 : ¬ (n : Int) < 0 := by omega
 have hn9 : ¬ 9223372036854775807 < (n : Int) := by omega
 have hbs := blk_lt hx
 obtain ⟨k0, hk0⟩ : ∃ k, Nat.min 1 n = k := ⟨_, rfl⟩
 have hk1 : k0 ≤ 1 := by rw [← hk0]; exact Nat.min_le_left _ _
 have hkn : k0 ≤ n := by rw [← hk0]; exact Nat.min_le_right _ _
 have hk2 : k0 = 0 → n = 0 := fun h => by rw [h] at hk0; have : min 1 n = 0 := hk0; omega
 have HX := zh hx
 have HK0 := zh hk0; have HK1 := zh hk1; have HKN := zh hkn; have HK2 := zh hk2
 clear hk0 hk1 hkn hk2
 go_enter Try.func57, Try.ntmps57
 go_wp2_with fail
 refine (HMUL.out _).mono ?_
 rintro e w1 ⟨rfl, hw1⟩; subst w1
 have hb1 : Below w.heap.size w (w.alloc (.cells (rowV n 0).toArray 70)) := (Below.refl _ w).alloc (Nat.le_refl _) _
 have hx1 := (hb1.block b hbs).trans hx
 have hg1 := heap_alloc_new w (.cells (rowV n 0).toArray 70)
 have HB1 := zh hb1; have HX1 := zh hx1; have HG1 := zh hg1
 have HSZ := zh hsz1
 obtain ⟨cs, hcs⟩ : ∃ cs, cs = rep vo k0 := ⟨_, rfl⟩
 have Q1 := zh (show cs.length = k0 * 2 from by rw [hcs, vo_len]; omega)
 have Q2 := zh (show 0 + cs.length ≤ (rowV n 0).length from by rw [rowV_len (Nat.zero_le _), hcs, vo_len]; have := HKN.out; omega)
 have Q3 := zh (show ∀ v ∈ cs, v.oneCell' = true from by rw [hcs]; exact vo_one)
 have QP := zh (show ∀ j v, cs[j]? = some v → (w.alloc (.cells (rowV n 0).toArray 70)).cell? ((⟨b, 0, none⟩ : Addr).add j) = some v from fun j v hj => by
  rw [hcs] at hj
  rw [add_zero_off]
  exact (cell_of_row _ _ _ _ _ _ HX1.out).trans (by simpa using vo_at HK1.out hj))
 have HCS := zh hcs
 clear hb1 hx1 hg1 hx hsz1 hcs hbs
 go_wp2_with (refine wpList_copyZ rfl (.tmp 31) (.tmp 32) 83 83 rfl 70 2 Try.underlying83 HSZ.out _ _ _ _ _ _ _ rfl rfl (rowV n 0) 70 HG1.out cs k0 HK0.out Q1.out QP.out Q2.out Q3.out w.heap.size w HB1.out (Nat.le_refl _) ?_; intro w2 HG2 hB2)
 have HG := zh (show w2.heap[w.heap.size]? = some (.cells (rowV n k0).toArray 70 (0, 0)) from by
  have h := HG2.out
  have e := rowV_splice (n := n) (k := 0) (j := k0) (by have := HKN.out; omega)
  rw [Nat.mul_zero, Nat.zero_add] at e
  rw [HCS.out, e] at h
  exact h)
 have HB := zh hB2
 clear HG2 hB2
 have he : Try.prog.elem 83 = 70 := by kernel_rfl
 have hso : ∀ w, (sizeOf 70).run Try.prog w = .ok 2 w := fun w => by simp [sizeOf, typeInfo, hi, hz1]
 obtain ⟨g, hg⟩ : ∃ g, g = w.heap.size := ⟨_, rfl⟩
 have HGG := zh hg
 have HE := zh he; have HSO := zh hso
 rw [← hg] at HG HB ⊢
 clear hmk HX HX1 HG1 HB1 QP Q1 Q2 Q3 he hso hg HMUL HCS cs
 go_loopw [8] (fun i wr => ∃ k : Nat, (k = 0 → n = 0) ∧ k ≤ n ∧ i = .int .i64 (k : Int) ∧ wr.heap[g]? = some (.cells (rowV n k).toArray 70 (0, 0)) ∧ Below g w wr) (fun i _ => n - (intOf i).toNat)
 case atStart => exact ⟨k0, HK2.out, HKN.out, rfl, HG.out, HB.out⟩
 case round =>
  obtain ⟨k, hk1, hk, rfl, hg, hb⟩ := hrel
  by_cases hlt : k < n
  ·have hltI : (k : Int) < (n : Int) := by omega
   have hk1' : 1 ≤ k := by omega
   have hcl : ∀ w, (Instr.sliceAt 83 (.slice (some ⟨g, 0, none⟩) n n) (some (.int .i64 (k : Int))) none none).run Try.prog w = .ok (.slice (some ⟨g, 2 * k, none⟩) (n - k) (n - k)) w := fun w => by
    rw [run_sliceAt_slice w _ _ _ _ _ (by rw [HE.out]; exact Try.underlying83), run_slice_l w _ _ n n (by rw [HE.out]; exact Try.underlying83) .i64 (k : Int) (by omega) (by omega), HE.out, HSO.out]
    simp only [Result.andThen_ok, sliced, Int.toNat_natCast]
    rw [if_neg (by omega), Option.map_some, add_zero_off, Nat.mul_comm k 2]
   have hch : ∀ w, (Instr.sliceAt 83 (.slice (some ⟨g, 0, none⟩) n n) none (some (.int .i64 (k : Int))) none).run Try.prog w = .ok (.slice (some ⟨g, 0, none⟩) k n) w := fun w => by
    rw [run_sliceAt_slice w _ _ _ _ _ (by rw [HE.out]; exact Try.underlying83), run_slice_h w _ _ n n (by rw [HE.out]; exact Try.underlying83) .i64 (k : Int) (by omega) (by omega), HE.out, HSO.out]
    simp only [Result.andThen_ok, sliced, Int.toNat_natCast, Nat.zero_mul, Nat.sub_zero]
    rw [if_neg (by omega), Option.map_some, add_zero_off]
   obtain ⟨j, hj⟩ : ∃ j, Nat.min k (n - k) = j := ⟨_, rfl⟩
   have hj2 : j ≤ n - k := by rw [← hj]; exact Nat.min_le_right _ _
   have hj3 : j ≤ k := by rw [← hj]; exact Nat.min_le_left _ _
   have hj1 : 1 ≤ j := by rw [← hj]; show 1 ≤ min k (n - k); omega
   obtain ⟨cs, hcs⟩ : ∃ cs, cs = rep vo j := ⟨_, rfl⟩
   have hcl2 : cs.length = 2 * j := by rw [hcs, vo_len]
   have Q0 := zh hj
   have Q1 := zh (show cs.length = j * 2 from by rw [hcl2]; omega)
   have Q2 := zh (show 2 * k + cs.length ≤ (rowV n k).length from by rw [rowV_len hk, hcl2]; omega)
   have Q3 := zh (show ∀ v ∈ cs, v.oneCell' = true from by rw [hcs]; exact vo_one)
   have QP := zh (show ∀ (i : Nat) v, cs[i]? = some v → wr.cell? ((⟨g, 0, none⟩ : Addr).add i) = some v from fun i v hv => by
    rw [hcs] at hv
    rw [add_zero_off]
    exact (cell_of_row _ _ _ _ _ _ hg).trans (by simpa using rowV_at (n := n) hj3 hv))
   have QG := zh hg; have QB := zh hb; have QC := zh hcs; have QL := zh hcl2
   have hjI : (k : Int) + (j : Int) ≤ (n : Int) := by omega
   clear hg hb hcs hj hcl2
   go_wp2_with fail
   go_region_law (refine step_copyZ rfl (.tmp 41) (.tmp 44) 83 83 rfl 70 2 Try.underlying83 HSZ.out _ _ _ _ _ _ _ (by simp [Act.eval, Act.put]; rfl) (by simp [Act.eval, Act.put]; rfl) (rowV n k) 70 QG.out cs j Q0.out Q1.out QP.out Q2.out Q3.out g w (below_drewV QB.out) (Nat.le_refl _) ?_; intro w2 HG2 hB2)
   have HGW := zh (show w2.heap[g]? = some (.cells (rowV n (k + j)).toArray 70 (0, 0)) from by
    have := HG2.out
    rw [QC.out, rowV_splice (by omega)] at this
    exact this)
   have HBW := zh hB2
   clear HG2 hB2
   simp only [puts]
   have hwr : IntKind.i64.wrap ((k : Int) + (j : Int)) = ((k + j : Nat) : Int) := by rw [IntKind.wrap_i64]; omega
   rw [hwr]
   clear hwr
   go_wp2
   go_roundw
   case rel => exact ⟨k + j, by omega, by omega, rfl, HGW.out, HBW.out⟩
   case measure => simp [intOf]; omega
  ·obtain rfl : k = n := by omega
   have QG := zh hg; have QB := zh hb
   clear hg hb
   have hltI : ¬ (k : Int) < (k : Int) := by omega
   go_wp2
   go_ret
   rw [← HGG.out]
   exact ⟨rfl, by rw [← rowV_full]; exact QG.out, QB.out⟩
end Go.Proofs.Ytdifmgeicnndfaa.sto
namespace Go.Proofs.Ytdifmgeicnndfaa.words
open Go.RowKit
theorem step_app {P : Program} (w : World) {ops : Array Oper} {o : Oper} {a : Act} {K : Act → World → Prop} {Q : Exit → Act → World → Prop} {E : Prop} (hgd : o.guard = none) (s x : Operand) (t : TypeId)
  (ho : o.op = .call { callee := .builtin .append, args := #[s, x], argTypes := #[t, t] })
  (base : Nat) (e : TypeId) (i : TypeInfo) (z : Value) (size bytes : Nat) (ht : P.underlying t = some (.slice e)) (hi : P.info? e = some i) (hz : i.zero = some z)
  (hsize : i.size = size) (hby : i.bytes = bytes) (hzs : z.cells.size = size) (hsz : 0 < size)
  (v : Value) (n : Nat) (xs : List Value) (hs : a.eval s = v) (hown : w.ownsRow base e size v n xs)
  (A : Option Addr) (m c : Nat) (news : List Value) (hx : a.eval x = .slice A m c) (hl : news.length = m * size) (hr : Rd w A news) (h1 : ∀ u ∈ news, u.oneCell' = true)
  (h63 : n + m ≤ maxLen) (hbytes : (n + m) * bytes ≤ 140737488355328) (hbase : base ≤ w.heap.size)
  (h : ∀ v' w', w'.ownsRow base e size v' (n + m) (xs ++ news) → w.grownBy w' v.ownBlock → Below base w w' → (v'.ownBlock = v.ownBlock ∨ v'.ownBlock = some w.heap.size) → K (a.put o.dst v') w') :
  if Region.wanted o (yielded ops a.tmps) = true then Oper.wp P o a w K Q else E := by
 have hw : Region.wanted o (yielded ops a.tmps) = true := by simp [Region.wanted, hgd]
 rw [if_pos hw]
 exact wp_app w s x t ho base e i z size bytes ht hi hz hsize hby hzs hsz v n xs hs hown A m c news hx hl hr h1 h63 hbytes hbase h
end Go.Proofs.Ytdifmgeicnndfaa.words
namespace Go.Proofs.Ytdifmgeicnndfaa.sto
open Go.RowKit
open words kindp
set_option maxRecDepth 100000
set_option maxHeartbeats 4000000
set_option linter.all false
structure ObM where
 cl : Tx
 mp : Option Nat
 ar : Bool
 A : Option Addr
 n : Nat
 c : Nat
def obC (o : ObM) : List Value := [.string ⟨o.cl.toArray⟩, .map o.mp, .bool o.ar, .slice o.A o.n o.c]
def obZ : ObM := ⟨[], none, false, none, 0, 0⟩
def StoM (sb : Nat) (os : List ObM) (rb : Option Nat) (w : World) : Prop := ∃ v, w.heap[sb]? = some (.cells #[v] 123 (0, 0)) ∧ v.ownBlock = rb ∧ w.ownsRow (sb + 1) 130 4 v os.length (os.flatMap obC)
structure Kept (sb : Nat) (rb : Option Nat) (w w' : World) : Prop where
 os : w'.os = w.os
 tape : w'.tape = w.tape
 output : w'.output = w.output
 size : w.heap.size ≤ w'.heap.size
 block : ∀ k, k < w.heap.size → k ≠ sb → rb ≠ some k → w'.heap[k]? = w.heap[k]?
theorem Kept.below {sb : Nat} {rb : Option Nat} {w w' : World} (h : Below w.heap.size w w') : Kept sb rb w w' := ⟨h.os, h.tape, h.output, h.size, fun k hk _ _ => h.block k hk⟩
theorem Kept.refl (sb : Nat) (rb : Option Nat) (w : World) : Kept sb rb w w := Kept.below (Below.refl _ _)
def Nxt (rb rb' : Option Nat) (n : Nat) : Prop := rb' = rb ∨ ∃ g, rb' = some g ∧ n ≤ g
theorem Kept.trans {sb : Nat} {rb rb' : Option Nat} {w w1 w2 : World} (h : Kept sb rb w w1) (hr : Nxt rb rb' w.heap.size) (k : Kept sb rb' w1 w2) : Kept sb rb w w2 :=
 ⟨k.os.trans h.os, k.tape.trans h.tape, k.output.trans h.output, Nat.le_trans h.size k.size, fun j hj h1 h2 => (k.block j (Nat.lt_of_lt_of_le hj h.size) h1 (by
  rcases hr with rfl | ⟨g, rfl, hg⟩
  ·exact h2
  ·intro e; injection e with e; omega)).trans (h.block j hj h1 h2)⟩
theorem Nxt.trans {rb rb' rb2 : Option Nat} {n m : Nat} (h : Nxt rb rb' n) (k : Nxt rb' rb2 m) (hm : n ≤ m) : Nxt rb rb2 n := by
 rcases k with rfl | ⟨g, rfl, hg⟩
 ·exact h
 ·exact .inr ⟨g, rfl, Nat.le_trans hm hg⟩
theorem Nxt.refl (rb : Option Nat) (n : Nat) : Nxt rb rb n := .inl rfl
theorem Kept.toBelow {sb b : Nat} {rb : Option Nat} {w w' : World} (h : Kept sb rb w w') (hb : b ≤ sb) (hw : b ≤ w.heap.size) (hr : ∀ g, rb = some g → b ≤ g) : Below b w w' :=
 ⟨h.os, h.tape, h.output, h.size, fun k hk => h.block k (by omega) (by omega) (fun e => by have := hr k e; omega)⟩
theorem StoM.lt {sb : Nat} {os : List ObM} {rb : Option Nat} {w : World} (h : StoM sb os rb w) : sb < w.heap.size := by obtain ⟨v, h1, -⟩ := h; exact blk_lt h1
theorem StoM.rb {sb : Nat} {os : List ObM} {rb : Option Nat} {w : World} (h : StoM sb os rb w) {g : Nat} (hg : rb = some g) : sb < g ∧ g < w.heap.size := by
 obtain ⟨v, h1, h2, h3⟩ := h
 have := h3.lt g (h2.trans hg)
 omega
theorem StoM.below {sb : Nat} {os : List ObM} {rb : Option Nat} {w w' : World} (h : StoM sb os rb w) (hb : Below w.heap.size w w') : StoM sb os rb w' := by
 obtain ⟨v, h1, h2, h3⟩ := h
 exact ⟨v, (hb.block _ (blk_lt h1)).trans h1, h2, own_below h3 hb⟩
theorem StoM.drewN {sb : Nat} {os : List ObM} {rb : Option Nat} {w : World} (h : StoM sb os rb w) (n : Nat) : StoM sb os rb (w.drewN n) := h
theorem overW {b : Nat} {a c : World} (h : Below b a c) : Below b a c.drew := ⟨h.os, h.tape, h.output, h.size, h.block⟩
theorem cutH {T G : Prop} (pf : T) (f : T → G) : G := f pf
theorem listedH {P : Program} {md : Region.Mode} {ops : Array Oper} {Q : Exit → Act → World → Prop} {S : World → Prop} {fuel : Nat} {l L : Array Bool} {a : Act} {w : World} (h : l = L) (H : wpAnyH P md ops Q S fuel L a w) : wpAnyH P md ops Q S fuel l a w := h ▸ H
theorem obC_one (o : ObM) : ∀ u ∈ obC o, u.oneCell' = true := by
 intro u hu
 simp only [obC, List.mem_cons, List.not_mem_nil, or_false] at hu
 rcases hu with rfl | rfl | rfl | rfl <;> rfl
theorem infoO : (Try.prog.info? 130).map (fun i => (i.zero, i.size, i.bytes)) = some (some (.agg (obC obZ).toArray), 4, 56) := by kernel_rfl
def AddP (sb : Nat) (os : List ObM) (o : ObM) (rb : Option Nat) (w : World) (e : Ending) (w' : World) : Prop := e = .returned (.tuple #[.int .i64 ((os.length : Int) + 1), .int .i64 0]) ∧ ∃ rb', StoM sb (os ++ [o]) rb' w' ∧ Nxt rb rb' w.heap.size ∧ Kept sb rb w w'
theorem add_w (sb : Nat) (os : List ObM) (rb : Option Nat) (o : ObM) (w : World) (H : StoM sb os rb w) (hl : os.length < 256) :
  Calls Try.prog 59 #[.pointer (some ⟨sb, 0, none⟩), .agg (obC o).toArray] w (AddP sb os o rb w) := by
 obtain ⟨i0, hi, hz0, hz1, hz2⟩ := info_parts infoO
 obtain ⟨v, hv, hvb, hown⟩ := H
 obtain ⟨A, c, rfl, hnc, hcm, hrd⟩ := own_rd hown
 obtain ⟨n, hn⟩ : ∃ n, n = os.length := ⟨_, rfl⟩
 unfold AddP
 rw [← hn] at hv hvb hown hnc hl ⊢
 have hnI : ¬ 256 ≤ (n : Int) := by omega
 obtain ⟨W, hW⟩ : ∃ W, W = w.alloc (.cells (obC o).toArray 130) := ⟨_, rfl⟩
 have hal : Below w.heap.size w W := by rw [hW]; exact (Below.refl _ w).alloc (Nat.le_refl _) _
 have hblk : W.heap[w.heap.size]? = some (.cells (obC o).toArray 130 (0, 0)) := by rw [hW]; exact heap_alloc_new w _
 have hv2 := (hal.block _ (blk_lt hv)).trans hv
 have ho2 := own_below hown hal
 have c0 : W.cell? ⟨sb, 0, none⟩ = some (.slice A n c) := cell_of_row _ _ 0 _ _ _ hv2
 have hBX : ∀ v : World, v.heap[w.heap.size]? = some (.cells (obC o).toArray 130 (0, 0)) → v.cell? ⟨w.heap.size, 0, none⟩ = some (.string ⟨o.cl.toArray⟩) ∧ v.cell? ⟨w.heap.size, 1, none⟩ = some (.map o.mp) ∧ v.cell? ⟨w.heap.size, 2, none⟩ = some (.bool o.ar) ∧ v.cell? ⟨w.heap.size, 3, none⟩ = some (.slice o.A o.n o.c) := fun v hv => ⟨cell_of_row _ _ 0 _ _ _ hv, cell_of_row _ _ 1 _ _ _ hv, cell_of_row _ _ 2 _ _ _ hv, cell_of_row _ _ 3 _ _ _ hv⟩
 have HBX := zh hBX; have HBL := zh hblk
 have HSZ := zh (show W.heap.size = w.heap.size + 1 from by rw [hW]; simp)
 have hrlt : ∀ g, (Value.slice A n c).ownBlock = some g → g < w.heap.size := fun g hg => (hown.lt g hg).2
 have HRL := zh hrlt
 have HV := zh hv2; have HO := zh ho2; have HN := zh hn; have HAL := zh hal; have HVB := zh hvb; have HLT := zh (blk_lt hv)
 unfold obC at hW ⊢
 have c0e : (w.alloc (.cells #[.string ⟨o.cl.toArray⟩, .map o.mp, .bool o.ar, .slice o.A o.n o.c] 130)).cell? ⟨sb, 0, none⟩ = some (.slice A n c) := by rw [← hW]; exact c0
 have HW := zh hW
 clear hv hown hrd hnc hcm hW hal hblk hv2 ho2 hn hvb hBX hrlt
 go_enter Try.func59, Try.ntmps59
 go_wp2_with fail
 rw [← HW.out]
 (try go_wp2_with fail)
 clear c0 c0e
 refine wp_region_held_drew (S := fun w' : World => w'.cell? ⟨w.heap.size, 0, none⟩ = some (.string ⟨o.cl.toArray⟩) ∧ w'.cell? ⟨w.heap.size, 1, none⟩ = some (.map o.mp) ∧ w'.cell? ⟨w.heap.size, 2, none⟩ = some (.bool o.ar) ∧ w'.cell? ⟨w.heap.size, 3, none⟩ = some (.slice o.A o.n o.c)) (by kernel_rfl) ?_ (fun hHeld => ?_)
 ·exact HBX.out _ HBL.out
 obtain ⟨U, hU⟩ : ∃ U, U = W.drew := ⟨_, rfl⟩
 have UB := zh (show U.heap[w.heap.size]? = some (.cells (obC o).toArray 130 (0, 0)) from by rw [hU]; exact HBL.out)
 have UV := zh (show U.heap[sb]? = some (.cells #[.slice A n c] 123 (0, 0)) from by rw [hU]; exact HV.out)
 have UO := zh (show U.ownsRow (sb + 1) 130 4 (.slice A n c) n (os.flatMap obC) from by rw [hU]; exact HO.out)
 have UA := zh (show Below w.heap.size w U from by rw [hU]; exact overW HAL.out)
 have US := zh (show U.heap.size = w.heap.size + 1 from by rw [hU]; exact HSZ.out)
 rw [← hU]
 clear hU HBL HV HO HAL HSZ HW
 obtain ⟨X, hX⟩ : ∃ X, X = U.alloc (.cells (obC o).toArray 130) := ⟨_, rfl⟩
 have XL : Below U.heap.size U X := by rw [hX]; exact (Below.refl _ _).alloc (Nat.le_refl _) _
 have XN := zh (show X.heap[U.heap.size]? = some (.cells (obC o).toArray 130 (0, 0)) from by rw [hX]; exact heap_alloc_new _ _)
 have XB := zh ((XL.block _ (blk_lt UB.out)).trans UB.out)
 have XV := zh ((XL.block _ (blk_lt UV.out)).trans UV.out)
 have XO := zh (own_below UO.out XL)
 have XA := zh (then' UA.out XL)
 unfold obC at hX
 have HX := zh hX
 clear hX XL
 refine' cutH (T := _) ?pK ?fK
 case' fK => intro KEY
 ·obtain ⟨b0, b1, b2, b3⟩ := HBX.out _ UB.out
  have c0 : U.cell? ⟨sb, 0, none⟩ = some (.slice A n c) := cell_of_row _ _ 0 _ _ _ UV.out
  have c0x : X.cell? ⟨sb, 0, none⟩ = some (.slice A n c) := cell_of_row _ _ 0 _ _ _ XV.out
  have hS0 := HBX.out _ UB.out
  refine tkp 0 rfl ?_
  refine tkp 1 rfl ?_
  refine tkp 2 rfl ?_
  refine tkp 3 rfl ?_
  refine tkp 5 rfl ?_
  refine wpAnyH_ready (rs := [4, 6]) (by kernel_rfl) (by simp) (AllReadyH.cons rfl (fun K hK => ?_) (AllReadyH.cons rfl (fun K hK => ?_) AllReadyH.nil))
  ·go_simp
   refine hK.out _ _ ⟨b0, b1, b2, b3⟩ (fun hHeld => ?_)
   clear hK K
   try simp only [puts]
   refine rdy 6 rfl (fun K hK => ?_)
   go_simp
   rw [← HX.out]
   refine hK.out _ _ (HBX.out _ XB.out) (fun hHeld => ?_)
   clear hK K
   try simp only [puts]
   refine listedH (L := #[true, true, true, true, true, true, true, false, false, false, false]) (by kernel_rfl) ?_
   exact KEY
  ·go_simp
   rw [← HX.out]
   refine hK.out _ _ (HBX.out _ XB.out) (fun hHeld => ?_)
   clear hK K
   try simp only [puts]
   refine rdy 4 rfl (fun K hK => ?_)
   go_simp
   refine hK.out _ _ (HBX.out _ XB.out) (fun hHeld => ?_)
   clear hK K
   try simp only [puts]
   refine listedH (L := #[true, true, true, true, true, true, true, false, false, false, false]) (by kernel_rfl) ?_
   exact KEY
 case pK =>
  refine rdy 7 rfl (fun K hK => ?_)
  refine step_app _ (by rfl) (.tmp 16) (.tmp 18) _ (by rfl) (sb + 1) 130 i0 _ 4 56 Try.underlying121 hi hz0 hz1 hz2 rfl (by omega) _ n (os.flatMap obC) (by rfl) (by exact XO.out) _ 1 1 (obC o) (by rfl) (by rfl) (rd_blk XN.out (k := 4) rfl) (obC_one o) (by simp only [maxLen]; omega) (by omega) (by have h1 := HLT.out; have h2 := XA.out.size; omega) ?_
  intro v5 w5 hown5 hg5 hb5 hat5
  replace hg5 : X.grownBy w5 (Value.slice A n c).ownBlock := hg5
  replace hat5 : v5.ownBlock = (Value.slice A n c).ownBlock ∨ v5.ownBlock = some X.heap.size := hat5
  obtain ⟨A5, c5, rfl, hnc5, hcm5, hrd5⟩ := own_rd hown5
  have v5s := (hb5.block sb (by omega)).trans XV.out
  have v5b : w5.heap[w.heap.size]? = some (.cells (obC o).toArray 130 (0, 0)) := (hg5.block _ (blk_lt XB.out) (fun e => by have h1 := HRL.out _ e.symm; omega)).trans XB.out
  have y0 : w5.cell? ⟨sb, 0, none⟩ = some (.slice A n c) := cell_of_row _ _ 0 _ _ _ v5s
  have f0 := frozen_of_row _ _ 0 _ _ v5s
  obtain ⟨Y, hY⟩ : ∃ Y, Y = w5.setCell ⟨sb, 0, none⟩ (.slice A5 (n + 1) c5) := ⟨_, rfl⟩
  have hYs : Y.heap[sb]? = some (.cells #[.slice A5 (n + 1) c5] 123 (0, 0)) := by rw [hY, heap_setCell_same _ _ _ _ _ _ v5s]; rfl
  have hYo : ∀ k, k ≠ sb → Y.heap[k]? = w5.heap[k]? := fun k hk => by rw [hY]; exact heap_setCell_other _ _ _ _ hk
  have hYz : Y.heap.size = w5.heap.size := by rw [hY]; simp
  have hgY : w5.grownBy Y (some sb) := ⟨by rw [hY]; rfl, by rw [hY]; rfl, by rw [hY]; rfl, by omega, fun k _ hne => hYo k (fun e => hne (by rw [e]))⟩
  have hoY : Y.ownsRow (sb + 1) 130 4 (.slice A5 (n + 1) c5) (n + 1) (os.flatMap obC ++ obC o) := hown5.kept hgY (by
   cases hq : (Value.slice A5 (n + 1) c5).ownBlock with
   | none => exact .inl rfl
   | some g =>
    refine .inr (fun e => ?_)
    injection e with e
    have := (hown5.lt g hq).1
    omega)
  have EN := zh (show (∃ rb', StoM sb (os ++ [o]) rb' Y ∧ Nxt rb rb' w.heap.size ∧ Kept sb rb w Y) from by
   refine ⟨(Value.slice A5 (n + 1) c5).ownBlock, ⟨_, hYs, rfl, ?_⟩, ?_, ?_⟩
   ·rw [List.length_append, ← HN.out, List.flatMap_append]
    simpa using hoY
   ·rcases hat5 with h | h
    ·exact .inl (h.trans HVB.out)
    ·exact .inr ⟨_, h, by have := XA.out.size; omega⟩
   ·refine ⟨hgY.os.trans (hg5.os.trans XA.out.os), hgY.tape.trans (hg5.tape.trans XA.out.tape), hgY.output.trans (hg5.output.trans XA.out.output), Nat.le_trans XA.out.size (Nat.le_trans hg5.size hgY.size), fun k hk h1 h2 => ?_⟩
    exact (hYo k h1).trans ((hg5.block k (Nat.lt_of_lt_of_le hk XA.out.size) (fun e => h2 (by rw [← HVB.out, ← e]))).trans (XA.out.block k hk)))
  have z0 : Y.cell? ⟨sb, 0, none⟩ = some (.slice A5 (n + 1) c5) := cell_of_row _ _ 0 _ _ _ hYs
  have SS := HBX.out _ v5b
  have SY := HBX.out Y ((hYo _ (by have := HLT.out; omega)).trans v5b)
  have HY := zh hY
  clear hown5 hg5 hb5 hat5 hrd5 hcm5 hnc5 v5s v5b hYs hYo hYz hgY hoY hY
  refine hK.out _ _ SS (fun hHeld => ?_)
  clear hK K
  try simp only [puts]
  have hS1 := SS
  refine tkp 8 rfl ?_
  refine tkp 9 rfl ?_
  refine rdy 10 rfl (fun K hK => ?_)
  go_simp
  rw [← HY.out]
  refine hK.out _ _ SY (fun hHeld => ?_)
  clear hK K SY y0 f0 SS hS1
  try simp only [puts]
  refine wpAnyH_done (by kernel_rfl) ?_ _
  go_wp2
  exact bodyPost_ret (v := .tuple #[.int .i64 ((n : Int) + 1), .int .i64 0]) (by simp [results, Try.results59, go_sem]) rfl ⟨rfl, EN.out⟩
end Go.Proofs.Ytdifmgeicnndfaa.sto
namespace Go.Proofs.Ytdifmgeicnndfaa.sto
open Go.RowKit
open words kindp kind
set_option maxRecDepth 100000
set_option maxHeartbeats 4000000
set_option linter.all false
def zeroK (k : Int) : Int := if k = 2 then 1 else if hasB k || (k == 4) then 2 else 0
theorem zero_w (k : Int) (c : Tx) (w : World) :
  Calls Try.prog 33 #[.agg #[.int .i64 k, .string ⟨c.toArray⟩]] w fun e w' => e = .returned (.agg #[.int .i64 (zeroK k), .int .i64 0]) ∧ Below w.heap.size w w' := by
 unfold zeroK
 by_cases h2 : k = 2
 ·subst h2
  rw [if_pos rfl]
  go_enter Try.func33, Try.ntmps33
  go_wp2
  exact bodyPost_ret (v := .agg #[.int .i64 1, .int .i64 0]) (by simp [results, Try.results33, go_sem]) rfl ⟨rfl, by repeat (first | exact Below.refl _ _ | refine Below.setCell ?_ (by simp; try omega) _ | refine Below.alloc ?_ (by simp; try omega) _)⟩
 ·rw [if_neg h2]
  have e2 : (k == 2) = false := by simpa using h2
  have HI := zh (fun v => isref_w k c v)
  generalize (hasB k || (k == 4)) = b at HI ⊢
  clear h2
  go_enter Try.func33, Try.ntmps33
  go_wp2_with fail
  refine (HI.out _).mono ?_
  rintro e v ⟨rfl, hb⟩
  have hW : ∃ W, W = (w.alloc (.cells #[.int .i64 k, .string ⟨c.toArray⟩] 63)).alloc (.cells #[.int .i64 0, .int .i64 0] 70) := ⟨_, rfl⟩
  obtain ⟨W, hW⟩ := hW
  rw [← hW] at hb
  have h1 : W.heap[w.heap.size + 1]? = some (.cells #[.int .i64 0, .int .i64 0] 70 (0, 0)) := by rw [hW]; simpa using heap_alloc_new (w.alloc (.cells #[.int .i64 k, .string ⟨c.toArray⟩] 63)) (.cells #[.int .i64 0, .int .i64 0] 70)
  have hal : Below w.heap.size w W := by rw [hW]; exact ((Below.refl _ w).alloc (Nat.le_refl _) _).alloc (by simp) _
  have h2 := (hb.block _ (blk_lt h1)).trans h1
  have HB := zh (then' hal hb)
  have d0 : v.cell? ⟨w.heap.size + 1, 0, none⟩ = some (.int .i64 0) := cell_of_row _ _ 0 _ _ _ h2
  have d1 : v.cell? ⟨w.heap.size + 1, 1, none⟩ = some (.int .i64 0) := cell_of_row _ _ 1 _ _ _ h2
  have g0 := frozen_of_row _ _ 0 _ _ h2; have g1 := frozen_of_row _ _ 1 _ _ h2
  clear hb h1 h2 hal hW HI
  cases b with
  | true =>
   go_wp2
   exact bodyPost_ret (v := .agg #[.int .i64 2, .int .i64 0]) (by simp [results, Try.results33, go_sem, d0, d1]) rfl ⟨rfl, by repeat (first | exact HB.out | refine Below.setCell ?_ (by simp; try omega) _)⟩
  | false =>
   go_wp2
   exact bodyPost_ret (v := .agg #[.int .i64 0, .int .i64 0]) (by simp [results, Try.results33, go_sem, d0, d1]) rfl ⟨rfl, by repeat (first | exact HB.out | refine Below.setCell ?_ (by simp; try omega) _)⟩
theorem zero_r (k : Int) (c : Tx) (w : World) :
  Calls Try.prog 34 #[.agg #[.int .i64 k, .string ⟨c.toArray⟩]] w fun e w' => e = .returned (.agg #[.int .i64 (zeroK k), .int .i64 0]) ∧ Below w.heap.size w w' := by
 rcases kinds k with rfl | rfl | rfl | rfl | rfl | ⟨e1, e2, e3, e4, e5, -, e6⟩
 ·go_enter Try.func34, Try.ntmps34
  go_wp2
  exact bodyPost_ret (v := .agg #[.int .i64 0, .int .i64 0]) (by simp [results, Try.results34, go_sem]) rfl ⟨rfl, by repeat (first | exact Below.refl _ _ | refine Below.setCell ?_ (by simp; try omega) _ | refine Below.alloc ?_ (by simp; try omega) _)⟩
 ·go_enter Try.func34, Try.ntmps34
  go_wp2
  exact bodyPost_ret (v := .agg #[.int .i64 1, .int .i64 0]) (by simp [results, Try.results34, go_sem]) rfl ⟨rfl, by repeat (first | exact Below.refl _ _ | refine Below.setCell ?_ (by simp; try omega) _ | refine Below.alloc ?_ (by simp; try omega) _)⟩
 ·go_enter Try.func34, Try.ntmps34
  go_wp2
  exact bodyPost_ret (v := .agg #[.int .i64 2, .int .i64 0]) (by simp [results, Try.results34, go_sem]) rfl ⟨rfl, by repeat (first | exact Below.refl _ _ | refine Below.setCell ?_ (by simp; try omega) _ | refine Below.alloc ?_ (by simp; try omega) _)⟩
 ·go_enter Try.func34, Try.ntmps34
  go_wp2
  exact bodyPost_ret (v := .agg #[.int .i64 2, .int .i64 0]) (by simp [results, Try.results34, go_sem]) rfl ⟨rfl, by repeat (first | exact Below.refl _ _ | refine Below.setCell ?_ (by simp; try omega) _ | refine Below.alloc ?_ (by simp; try omega) _)⟩
 ·go_enter Try.func34, Try.ntmps34
  go_wp2
  exact bodyPost_ret (v := .agg #[.int .i64 2, .int .i64 0]) (by simp [results, Try.results34, go_sem]) rfl ⟨rfl, by repeat (first | exact Below.refl _ _ | refine Below.setCell ?_ (by simp; try omega) _ | refine Below.alloc ?_ (by simp; try omega) _)⟩
 ·have hz : zeroK k = 0 := by
   unfold zeroK
   rw [if_neg (by simpa using e2), e6, e4]
   rfl
  rw [hz]
  clear hz e6 e1
  go_enter Try.func34, Try.ntmps34
  go_wp2
  exact bodyPost_ret (v := .agg #[.int .i64 0, .int .i64 0]) (by simp [results, Try.results34, go_sem]) rfl ⟨rfl, by repeat (first | exact Below.refl _ _ | refine Below.setCell ?_ (by simp; try omega) _ | refine Below.alloc ?_ (by simp; try omega) _)⟩
theorem sto_new (w : World) : StoM w.heap.size [] none (w.alloc (.cells #[.slice none 0 0] 123)) := ⟨_, heap_alloc_new _ _, rfl, World.ownsRow_nil _ _ _ _⟩
theorem new_w (w : World) : Calls Try.prog 20 #[] w fun e w' => e = .returned (.pointer (some ⟨w.heap.size, 0, none⟩)) ∧ StoM w.heap.size [] none w' ∧ Below w.heap.size w w' := by
 have HS := zh (sto_new w)
 have HB := zh ((Below.refl _ w).alloc (Nat.le_refl _) (.cells #[.slice none 0 0] 123))
 go_enter Try.func20, Try.ntmps20
 go_wp2
 go_ret
 exact ⟨rfl, HS.out, HB.out⟩
theorem add_full (sb : Nat) (os : List ObM) (rb : Option Nat) (o : ObM) (w : World) (H : StoM sb os rb w) (hl : 256 ≤ os.length) :
  Calls Try.prog 59 #[.pointer (some ⟨sb, 0, none⟩), .agg (obC o).toArray] w fun e w' => e = .returned (.tuple #[.int .i64 0, .int .i64 7]) ∧ Below w.heap.size w w' := by
 obtain ⟨v, hv, hvb, hown⟩ := H
 obtain ⟨A, c, rfl, hnc, hcm, hrd⟩ := own_rd hown
 obtain ⟨n, hn⟩ : ∃ n, n = os.length := ⟨_, rfl⟩
 rw [← hn] at hv hl
 have hnI : 256 ≤ (n : Int) := by omega
 have HAL := zh ((Below.refl _ w).alloc (Nat.le_refl _) (.cells (obC o).toArray 130))
 have c0e : (w.alloc (.cells (obC o).toArray 130)).cell? ⟨sb, 0, none⟩ = some (.slice A n c) := cell_of_row _ _ 0 _ _ _ ((HAL.out.block _ (blk_lt hv)).trans hv)
 unfold obC at c0e HAL ⊢
 clear hown hrd hnc hcm hn hvb hv
 go_enter Try.func59, Try.ntmps59
 go_wp2
 exact bodyPost_ret (v := .tuple #[.int .i64 0, .int .i64 7]) (by simp [results, Try.results59, go_sem]) rfl ⟨rfl, HAL.out⟩
end Go.Proofs.Ytdifmgeicnndfaa.sto
namespace Go.Proofs.Ytdifmgeicnndfaa.sto
open Go.RowKit
open words kindp kind
set_option maxRecDepth 100000
set_option maxHeartbeats 8000000
set_option linter.all false
def arO (g n : Nat) : ObM := ⟨[91, 73], none, true, some ⟨g, 0, none⟩, n, n⟩
theorem array_any (sb n : Nat) (hn : n ≤ 64) (w : World) (x y : Int) (R : Nat → World → World → Prop)
  (hadd : ∀ (g : Nat) (v : World), Below w.heap.size w v → w.heap.size ≤ g → v.heap[g]? = some (.cells (rep vo n).toArray 70 (0, 0)) → Calls Try.prog 59 #[.pointer (some ⟨sb, 0, none⟩), .agg (obC (arO g n)).toArray] v fun e w' => e = .returned (.tuple #[.int .i64 x, .int .i64 y]) ∧ R g v w') :
  Calls Try.prog 21 #[.pointer (some ⟨sb, 0, none⟩), .agg #[.int .i64 4, .string ⟨#[]⟩], .int .i64 (n : Int)] w fun e w' => e = .returned (.tuple #[.int .i64 x, .int .i64 y]) ∧ ∃ g v, Below w.heap.size w v ∧ w.heap.size ≤ g ∧ v.heap[g]? = some (.cells (rep vo n).toArray 70 (0, 0)) ∧ R g v w' := by
 have hn0 : ¬ (n : Int) < 0 := by omega
 have hn64 : ¬ 64 < (n : Int) := by omega
 obtain ⟨W, hW⟩ : ∃ W, W = w.alloc (.cells #[.int .i64 4, .string ⟨#[]⟩] 63) := ⟨_, rfl⟩
 have hal : Below w.heap.size w W := by rw [hW]; exact (Below.refl _ w).alloc (Nat.le_refl _) _
 have hblk : W.heap[w.heap.size]? = some (.cells #[.int .i64 4, .string ⟨#[]⟩] 63 (0, 0)) := by rw [hW]; exact heap_alloc_new w _
 have HCE := zh (show ∀ v : World, Below W.heap.size W v → v.cell? ⟨w.heap.size, 0, none⟩ = some (.int .i64 4) ∧ v.cell? ⟨w.heap.size, 1, none⟩ = some (.string ⟨#[]⟩) from fun v hv => by
  have s := (hv.block _ (blk_lt hblk)).trans hblk
  exact ⟨cell_of_row _ _ 0 _ _ _ s, cell_of_row _ _ 1 _ _ _ s⟩)
 have HE := zh (fun v => show Calls Try.prog 58 #[.agg #[.int .i64 4, .string ⟨#[]⟩]] v fun e w' => e = .returned (.agg #[.int .i64 2, .string ⟨#[]⟩]) ∧ Below v.heap.size v w' from elem_w 4 [] v)
 have HZ := zh (fun v => show Calls Try.prog 33 #[.agg #[.int .i64 2, .string ⟨#[]⟩]] v fun e w' => e = .returned (.agg #[.int .i64 1, .int .i64 0]) ∧ Below v.heap.size v w' from zero_w 2 [] v)
 have HT := zh (fun v => show Calls Try.prog 60 #[.agg #[.int .i64 4, .string ⟨#[]⟩]] v fun e w' => e = .returned (.string ⟨#[91, 73]⟩) ∧ Below v.heap.size v w' from text_w 4 [] v (by simp))
 have HAD := zh hadd
 have HAL := zh hal; have HW := zh hW
 obtain ⟨x0, x1⟩ := HCE.out W (Below.refl _ _)
 clear hadd hal hblk hW
 go_enter Try.func21, Try.ntmps21
 go_wp2_with fail
 rw [← HW.out]
 (try go_wp2_with fail)
 refine (HE.out _).mono ?_
 rintro e v1 ⟨rfl, hb⟩
 have K1 := zh hb
 clear hb x0 x1
 go_wp2_with fail
 refine (HZ.out _).mono ?_
 rintro e v2 ⟨rfl, hb⟩
 have K2 := zh (then' K1.out hb)
 clear hb
 obtain ⟨V, hV⟩ : ∃ V, V = v2.alloc (.cells #[.int .i64 1, .int .i64 0] 70) := ⟨_, rfl⟩
 have hl : Below v2.heap.size v2 V := by rw [hV]; exact (Below.refl _ _).alloc (Nat.le_refl _) _
 have hr := repeat_v n hn v2.heap.size 1 V (by rw [hV]; exact heap_alloc_new v2 _)
 have K3 := zh (then' K2.out hl)
 have HR := zh hr; have HV := zh hV
 clear hr hl hV
 go_wp2_with fail
 rw [← HV.out]
 (try go_wp2_with fail)
 refine HR.out.mono ?_
 rintro e v3 ⟨rfl, hg, hb⟩
 have K4 := zh (then' K3.out hb)
 obtain ⟨g, hgz⟩ : ∃ g, g = V.heap.size := ⟨_, rfl⟩
 have HGZ := zh (show w.heap.size ≤ g from by rw [hgz]; exact Nat.le_trans HAL.out.size K3.out.size)
 rw [← hgz] at hg ⊢
 have HG := zh hg
 clear hb hg hgz HR
 obtain ⟨x0, x1⟩ := HCE.out v3 K4.out
 go_wp2_with fail
 refine (HT.out _).mono ?_
 rintro e v4 ⟨rfl, hb⟩
 have K5 := zh (then' K4.out hb)
 have hg4 := (hb.block _ (blk_lt HG.out)).trans HG.out
 have hbw := HAL.out.trans (K5.out.mono HAL.out.size)
 have had := HAD.out g v4 hbw HGZ.out hg4
 have HG4 := zh hg4; have HBW := zh hbw
 unfold arO obC at had
 have HAA := zh had
 clear hb had hg4 hbw x0 x1
 go_wp2_with fail
 refine HAA.out.mono ?_
 rintro e v5 ⟨rfl, hR⟩
 have HRR := zh hR
 clear hR
 go_wp2
 exact bodyPost_ret (v := .tuple #[.int .i64 x, .int .i64 y]) (by simp [results, Try.results21, go_sem]) rfl ⟨rfl, g, v4, HBW.out, HGZ.out, HG4.out, HRR.out⟩
theorem array_w (sb : Nat) (os : List ObM) (rb : Option Nat) (n : Nat) (hn : n ≤ 64) (w : World) (H : StoM sb os rb w) (hl : os.length < 256) :
  Calls Try.prog 21 #[.pointer (some ⟨sb, 0, none⟩), .agg #[.int .i64 4, .string ⟨#[]⟩], .int .i64 (n : Int)] w fun e w' => e = .returned (.tuple #[.int .i64 ((os.length : Int) + 1), .int .i64 0]) ∧
   ∃ g rb', StoM sb (os ++ [arO g n]) rb' w' ∧ Nxt rb rb' w.heap.size ∧ Kept sb rb w w' ∧ w.heap.size ≤ g ∧ rb' ≠ some g ∧ w'.heap[g]? = some (.cells (rep vo n).toArray 70 (0, 0)) := by
 refine (array_any sb n hn w ((os.length : Int) + 1) 0 (fun g v w' => ∃ rb', StoM sb (os ++ [arO g n]) rb' w' ∧ Nxt rb rb' v.heap.size ∧ Kept sb rb v w') ?_).mono ?_
 ·intro g v hb hg hgv
  exact add_w sb os rb (arO g n) v (H.below hb) hl
 ·rintro e w' ⟨rfl, g, v, hb, hg, hgv, rb', hs, hx, hk⟩
  have hgs : g ≠ sb := by have := H.lt; omega
  have hgr : rb ≠ some g := fun e => by have := (H.rb e).2; omega
  refine ⟨rfl, g, rb', hs, ?_, (Kept.below hb).trans (Nxt.refl _ _) hk, hg, ?_, (hk.block g (blk_lt hgv) hgs hgr).trans hgv⟩
  ·rcases hx with h | ⟨q, h, hq⟩
   ·exact .inl h
   ·exact .inr ⟨q, h, Nat.le_trans hb.size hq⟩
  ·rcases hx with h | ⟨q, h, hq⟩
   ·rw [h]; exact hgr
   ·rw [h]; intro e; injection e with e; have := blk_lt hgv; omega
theorem array_full (sb : Nat) (os : List ObM) (rb : Option Nat) (n : Nat) (hn : n ≤ 64) (w : World) (H : StoM sb os rb w) (hl : 256 ≤ os.length) :
  Calls Try.prog 21 #[.pointer (some ⟨sb, 0, none⟩), .agg #[.int .i64 4, .string ⟨#[]⟩], .int .i64 (n : Int)] w fun e w' => e = .returned (.tuple #[.int .i64 0, .int .i64 7]) ∧ Below w.heap.size w w' := by
 refine (array_any sb n hn w 0 7 (fun g v w' => Below v.heap.size v w') ?_).mono ?_
 ·intro g v hb hg hgv
  exact add_full sb os rb (arO g n) v (H.below hb) hl
 ·rintro e w' ⟨rfl, g, v, hb, hg, hgv, hk⟩
  exact ⟨rfl, then' hb hk⟩
end Go.Proofs.Ytdifmgeicnndfaa.sto
namespace Go.Proofs.Ytdifmgeicnndfaa.opp
open kindp
structure In where
 o : Int
 a : Int
 b : Int
 c : Int
 k : Int
 cl : Tx
 nm : Tx
 ds : Tx
 ar : List Int
deriving DecidableEq
def shapes : List Tx := [[], [], [97, 107], [97], [97, 98], [97, 98, 99, 114], [116], [98, 116], [98, 116], [97, 67], [97, 98], [97, 98, 67], [97, 98], [97, 98, 99], [97, 98, 99], [97, 98, 70], [98, 99, 70], [97, 70], [99, 70], [97, 77, 118], [97, 77, 118], [97, 77, 118], [98], [], [97, 98, 67], [97, 98, 67], [97], [98], [97, 98], [97, 98], [107], [98], [67]]
def known (o : Int) : Bool := decide (0 < o ∧ o ≤ 32)
def shapeL (o : Int) : Tx := if known o = true then shapes.getD o.toNat [] else []
def isCall (o : Int) : Bool := decide (o = 19 ∨ o = 20 ∨ o = 21)
def hasL (s : Tx) (c : UInt8) : Bool := s.contains c
def bareL (i : In) (s : Tx) : In where
 o := i.o
 a := if hasL s 97 then 0 else i.a
 b := if hasL s 98 then 0 else i.b
 c := if hasL s 99 then 0 else i.c
 k := if hasL s 107 || hasL s 116 || hasL s 114 then 0 else i.k
 cl := if hasL s 67 || hasL s 70 || hasL s 77 then [] else i.cl
 nm := if hasL s 70 || hasL s 77 then [] else i.nm
 ds := if hasL s 77 then [] else i.ds
 ar := if hasL s 118 then [] else i.ar
def emptyI (o : Int) : In := ⟨o, 0, 0, 0, 0, [], [], [], []⟩
def emptyB (i : In) (s : Tx) : Bool := decide (bareL i s = emptyI i.o)
def lettered (i : In) (c : UInt8) : List Int := if c = 97 then [i.a] else if c = 98 then [i.b] else if c = 99 then [i.c] else if c = 118 then i.ar else []
def regsL (i : In) : List (UInt8 × Int) := (shapeL i.o).flatMap fun c => (lettered i c).map fun r => (c, r)
end Go.Proofs.Ytdifmgeicnndfaa.opp
namespace Go.Proofs.Ytdifmgeicnndfaa.op
open Go.RowKit
open words kindp opp
def anyL (s l : Tx) : Bool := Lib.containsAny s l
end Go.Proofs.Ytdifmgeicnndfaa.op

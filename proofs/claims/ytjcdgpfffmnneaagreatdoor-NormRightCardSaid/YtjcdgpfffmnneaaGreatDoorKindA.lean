/-
 Layer 6: the type of all of a text; a reading that gives up is caught.
-/
import Derived.Test.YtjcdgpfffmnneaaGreatDoorKindT
import Derived.Defers
import Derived.Recover
namespace Go.Proofs.YtjcdgpfffmnneaaGreatDoor.kind
open Go.RowKit
open words kindp word

/-- a reading that answers a type, or gives up -/
def Gave (q : Option Ty) (w : World) (e : Ending) (w' : World) : Prop :=
 (match q with
  | some t => e = .returned (tyV t)
  | none => e = .panicked [{ v := noV, recovered := false }]) ∧ Below w.heap.size w w'
theorem gave_some {q : Option Ty} {t : Ty} {w w' : World} {e : Ending} (h : q = some t) (he : e = .returned (tyV t)) (hb : Below w.heap.size w w') : Gave q w e w' := by
 unfold Gave; rw [h]; exact ⟨he, hb⟩
theorem gave_none {q : Option Ty} {w w' : World} {e : Ending} (h : q = none) (he : e = .panicked [{ v := noV, recovered := false }]) (hb : Below w.heap.size w w') : Gave q w e w' := by
 unfold Gave; rw [h]; exact ⟨he, hb⟩
theorem type_some {s r : Tx} {t : Ty} (w : World) (hs : s.length < 4294967281) (hm : Mx w) (h : typeT s = some (t, r)) :
  Calls Tryz.prog 148 #[.string ⟨s.toArray⟩] w fun e w' => e = .returned (.tuple #[tyV t, .string ⟨r.toArray⟩]) ∧ Below w.heap.size w w' :=
 (type_w s w hs hm).mono fun e w' hh => by unfold Took at hh; rw [h] at hh; exact hh
theorem type_none {s : Tx} (w : World) (hs : s.length < 4294967281) (hm : Mx w) (h : typeT s = none) :
  Calls Tryz.prog 148 #[.string ⟨s.toArray⟩] w fun e w' => e = .panicked [{ v := noV, recovered := false }] ∧ Below w.heap.size w w' :=
 (type_w s w hs hm).mono fun e w' hh => by unfold Took at hh; rw [h] at hh; exact hh

/-- two cells that are set, and a block that is made -/
theorem two_alloc {w : World} {g : Nat} {a b : Value} {t : TypeId} (h : w.heap[g]? = some (.cells #[a, b] t (0, 0))) (x y : Value) (o : Obj) :
  (((w.setCell ⟨g, 0, none⟩ x).setCell ⟨g, 1, none⟩ y).alloc o).cell? ⟨g, 0, none⟩ = some x ∧ (((w.setCell ⟨g, 0, none⟩ x).setCell ⟨g, 1, none⟩ y).alloc o).cell? ⟨g, 1, none⟩ = some y := by
 have h2 := (two_set h x y).2.2
 have h3 := (((Below.refl _ ((w.setCell ⟨g, 0, none⟩ x).setCell ⟨g, 1, none⟩ y)).alloc (Nat.le_refl _) o).block g (blk_lt h2)).trans h2
 exact ⟨by rw [cell_of_row _ _ _ _ _ _ h3]; rfl, by rw [cell_of_row _ _ _ _ _ _ h3]; rfl⟩

set_option maxRecDepth 100000 in
set_option maxHeartbeats 1600000 in
theorem all_k (s : Tx) (w : World) (hs : s.length < 4294967281) (hm : Mx w) :
  Calls Tryz.prog 149 #[.string ⟨s.toArray⟩] w (Gave (allT s) w) := by
 have hp : ∀ (t : TypeId) (v : Value) (w : World), (Instr.panic (.iface t v)).run Tryz.prog w = .halt (.panic (.iface t v)) w := fun _ _ _ => rfl
 have hal : Below w.heap.size w (w.alloc (.cells #[.int .i64 0, .string ⟨#[]⟩] 61)) := (Below.refl _ _).alloc (Nat.le_refl _) _
 have HAL := Lib.hid hal
 have HM := Lib.hid (hm.below hal)
 cases h : typeT s with
 | none =>
  have HT := Lib.hid (fun w hm => type_none w hs hm h)
  have HA := Lib.hid (show allT s = none by unfold allT; rw [h])
  clear h hs hm hal
  go_enter Tryz.func149, Tryz.ntmps149
  go_wp2_with fail
  refine (HT.out _ HM.out).mono ?_
  rintro e w1 ⟨rfl, hb1⟩
  have HB := Lib.hid (HAL.out.trans (hb1.mono (by simp)))
  clear hb1
  go_wp2
  exact ⟨rfl, gave_none HA.out rfl HB.out⟩
 | some tr =>
  obtain ⟨⟨k, c⟩, r⟩ := tr
  have HT := Lib.hid (fun w hm => type_some w hs hm h)
  have hcell0 := heap_alloc_new w (.cells #[.int .i64 0, .string ⟨#[]⟩] 61)
  cases r with
  | nil =>
   have HA := Lib.hid (show allT s = some (k, c) by unfold allT; rw [h])
   have HC := Lib.hid hcell0
   clear h hs hm hal hcell0
   go_enter Tryz.func149, Tryz.ntmps149
   go_wp2_with fail
   refine (HT.out _ HM.out).mono ?_
   rintro e w1 ⟨rfl, hb1⟩
   unfold tyV
   dsimp only
   have hh1 := hb1.size
   simp at hh1
   have hce := (hb1.block w.heap.size (by simp)).trans HC.out
   obtain ⟨z0, z1⟩ := two_alloc hce (.int .i64 k) (.string ⟨c.toArray⟩) (.cells #[.int .i64 k, .string ⟨c.toArray⟩] 61)
   have c0 : w1.cell? ⟨w.heap.size, 0, none⟩ = some (.int .i64 0) := cell_of_row _ _ _ _ _ _ hce
   have c1 : w1.cell? ⟨w.heap.size, 1, none⟩ = some (.string ⟨#[]⟩) := cell_of_row _ _ _ _ _ _ hce
   have f0 := frozen_of_row w1 _ 0 _ _ hce
   have f1 := frozen_of_row w1 _ 1 _ _ hce
   have HB := Lib.hid (HAL.out.trans (hb1.mono (by simp)))
   have hlt : w.heap.size < w1.heap.size := by omega
   clear hb1 hce hh1
   go_wp2
   exact bodyPost_ret (v := .agg #[.int .i64 k, .string ⟨c.toArray⟩]) (by simp [results, Tryz.results149, go_sem, z0, z1]) rfl (gave_some HA.out rfl (((HB.out.setCell (by simp) _).setCell (by simp) _).alloc (by simp; omega) _))
  | cons x r =>
   have HA := Lib.hid (show allT s = none by unfold allT; rw [h])
   clear h hs hm hal hcell0
   go_enter Tryz.func149, Tryz.ntmps149
   go_wp2_with fail
   refine (HT.out _ HM.out).mono ?_
   rintro e w1 ⟨rfl, hb1⟩
   unfold tyV
   dsimp only
   have HB := Lib.hid (HAL.out.trans (hb1.mono (by simp)))
   have hbl : w.heap.size ≤ w1.heap.size := by have := hb1.size; simp at this; omega
   clear hb1
   go_wp2
   exact ⟨rfl, gave_none HA.out rfl (HB.out.alloc hbl _)⟩
end Go.Proofs.YtjcdgpfffmnneaaGreatDoor.kind

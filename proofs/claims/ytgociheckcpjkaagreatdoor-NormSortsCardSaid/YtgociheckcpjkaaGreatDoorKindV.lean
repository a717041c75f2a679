/- KindV -/
import Derived.Test.YtgociheckcpjkaaGreatDoorOpB
import Derived.Defers
import Derived.Recover
namespace Go.Proofs.YtgociheckcpjkaaGreatDoor.kind
open Go.RowKit
open words kindp word
set_option maxRecDepth 100000
set_option maxHeartbeats 1600000
theorem trim_at {s p : Tx} (h : Lib.hasPrefix s p = true) : Lib.trimPrefix s p = s.drop p.length := by unfold Lib.trimPrefix; rw [if_pos h]
theorem pre_one {c : UInt8} {s : Tx} (h : Lib.hasPrefix s [c] = true) : ∃ r, s = c :: r := by
 unfold Lib.hasPrefix at h
 cases s with
 | nil => simp [List.isPrefixOf] at h
 | cons x r => simp [List.isPrefixOf] at h; exact ⟨r, by rw [h]⟩
theorem pre_two {c d : UInt8} {s : Tx} (h : Lib.hasPrefix s [c, d] = true) : ∃ r, s = c :: d :: r := by
 unfold Lib.hasPrefix at h
 cases s with
 | nil => simp [List.isPrefixOf] at h
 | cons x r =>
  cases r with
  | nil => simp [List.isPrefixOf] at h
  | cons y q => simp [List.isPrefixOf] at h; exact ⟨q, by rw [h.1, h.2]⟩
theorem type_at {k : Int} {s : Tx} (h1 : 1 ≤ k) (h2 : k ≤ 5) (hp : Lib.hasPrefix s (signL k) = true) :
  typeT s = if hasB k = true then classT k (Lib.trimPrefix s (signL k)) else some ((k, []), Lib.trimPrefix s (signL k)) := by
 rw [trim_at hp]
 have hk : k = 1 ∨ k = 2 ∨ k = 3 ∨ k = 4 ∨ k = 5 := by omega
 rcases hk with rfl | rfl | rfl | rfl | rfl
 ·obtain ⟨r, rfl⟩ := pre_one hp; rfl
 ·obtain ⟨r, rfl⟩ := pre_one hp; rfl
 ·obtain ⟨r, rfl⟩ := pre_one hp; rfl
 ·obtain ⟨r, rfl⟩ := pre_two hp; rfl
 ·obtain ⟨r, rfl⟩ := pre_two hp; rfl
theorem type_miss {s : Tx} (h : ∀ j : Int, 1 ≤ j → j < 6 → Lib.hasPrefix s (signL j) = false) : typeT s = none := by
 cases s with
 | nil => rfl
 | cons c r =>
  have g1 := h 1 (by decide) (by decide); have g2 := h 2 (by decide) (by decide); have g3 := h 3 (by decide) (by decide); have g4 := h 4 (by decide) (by decide); have g5 := h 5 (by decide) (by decide)
  rw [show signL 1 = [86] from rfl] at g1
  rw [show signL 2 = [73] from rfl] at g2
  rw [show signL 3 = [76] from rfl] at g3
  rw [show signL 4 = [91, 73] from rfl] at g4
  rw [show signL 5 = [91, 76] from rfl] at g5
  unfold Lib.hasPrefix at g1 g2 g3 g4 g5
  dsimp only [typeT]
  rw [if_neg (by rintro rfl; simp [List.isPrefixOf] at g1), if_neg (by rintro rfl; simp [List.isPrefixOf] at g2), if_neg (by rintro rfl; simp [List.isPrefixOf] at g3)]
  by_cases h4 : c = 91
  ·subst h4
   rw [if_pos rfl]
   cases r with
   | nil => rfl
   | cons d q =>
    dsimp only
    rw [if_neg (by rintro rfl; simp [List.isPrefixOf] at g4), if_neg (by rintro rfl; simp [List.isPrefixOf] at g5)]
  ·rw [if_neg h4]
def Took (s : Tx) (w : World) (e : Ending) (w' : World) : Prop :=
 (match typeT s with
  | some (t, r) => e = .returned (.tuple #[tyV t, .string ⟨r.toArray⟩])
  | none => e = .panicked [{ v := noV, recovered := false }]) ∧ Below w.heap.size w w'
theorem took_some {s r : Tx} {t : Ty} {w w' : World} {e : Ending} (h : typeT s = some (t, r)) (he : e = .returned (.tuple #[tyV t, .string ⟨r.toArray⟩])) (hb : Below w.heap.size w w') : Took s w e w' := by
 unfold Took; rw [h]; exact ⟨he, hb⟩
theorem took_none {s : Tx} {w w' : World} {e : Ending} (h : typeT s = none) (he : e = .panicked [{ v := noV, recovered := false }]) (hb : Below w.heap.size w w') : Took s w e w' := by
 unfold Took; rw [h]; exact ⟨he, hb⟩
theorem bcell {W w1 : World} (hb : Below W.heap.size W w1) : (∀ b o, b < W.heap.size → w1.cell? ⟨b, o, none⟩ = W.cell? ⟨b, o, none⟩) ∧ (∀ b o, b < W.heap.size → w1.frozen? ⟨b, o, none⟩ = W.frozen? ⟨b, o, none⟩) :=
 ⟨fun b o h => hb.cell (p := ⟨b, o, none⟩) h, fun b o h => hb.frozen (p := ⟨b, o, none⟩) h⟩
theorem two_set {w : World} {g : Nat} {a b : Value} {t : TypeId} (h : w.heap[g]? = some (.cells #[a, b] t (0, 0))) (x y : Value) :
  (w.setCell ⟨g, 0, none⟩ x).cell? ⟨g, 0, none⟩ = some x ∧ ((w.setCell ⟨g, 0, none⟩ x).setCell ⟨g, 1, none⟩ y).cell? ⟨g, 1, none⟩ = some y ∧ ((w.setCell ⟨g, 0, none⟩ x).setCell ⟨g, 1, none⟩ y).heap[g]? = some (.cells #[x, y] t (0, 0)) := by
 have h1 := heap_setCell_same w g 0 _ _ x h
 have h2 := heap_setCell_same _ g 1 _ _ y h1
 refine ⟨?_, ?_, h2⟩
 ·rw [cell_of_row _ _ _ _ _ _ h1]; rfl
 ·rw [cell_of_row _ _ _ _ _ _ h2]; rfl
theorem type_w (s : Tx) (w : World) (hs : s.length < 4294967281) (hm : Mx w) :
  Calls Tryz.prog 139 #[.string ⟨s.toArray⟩] w (Took s w) := by
 have hp : ∀ (t : TypeId) (v : Value) (w : World), (Instr.panic (.iface t v)).run Tryz.prog w = .halt (.panic (.iface t v)) w := fun _ _ _ => rfl
 have HM := hh hm
 have HS := hh hs
 clear hm hs
 go_enter Tryz.func139, Tryz.ntmps139
 go_wp2
 go_loopw [4] (fun i wr => ∃ k : Int, i = .int .i64 k ∧ 1 ≤ k ∧ k ≤ 6 ∧ (∀ j : Int, 1 ≤ j → j < k → Lib.hasPrefix s (signL j) = false) ∧ wr.heap[w.heap.size]? = some (.cells #[.int .i64 0, .string ⟨#[]⟩] 56 (0, 0)) ∧ Below w.heap.size w wr) (fun i _ => (6 - intOf i).toNat)
 case atStart => exact ⟨1, rfl, by decide, by decide, fun j h1 h2 => by omega, heap_alloc_new w _, (Below.refl _ _).alloc (Nat.le_refl _) _⟩
 case round =>
  obtain ⟨k, rfl, hk1, hk6, hmiss, hcell, hbw⟩ := hrel
  have c20 : wr.cell? ⟨w.heap.size, 0, none⟩ = some (.int .i64 0) := cell_of_row wr _ 0 _ _ _ hcell
  have c21 : wr.cell? ⟨w.heap.size, 1, none⟩ = some (.string ⟨#[]⟩) := cell_of_row wr _ 1 _ _ _ hcell
  have f20 := frozen_of_row wr _ 0 _ _ hcell
  have f21 := frozen_of_row wr _ 1 _ _ hcell
  have hgl := blk_lt hcell
  have HMS := hh hmiss; have HCE := hh hcell; have HB := hh hbw
  clear hmiss hcell hbw
  by_cases hk : k ≤ 5
  ·have HSG := hh (fun w => sign_w k w)
   have hPW := (fun w => prefix_w s (signL k) w)
   cases hpx : Lib.hasPrefix s (signL k) with
   | false =>
    rw [hpx] at hPW
    have HPW := hh hPW; clear hPW
    have HNX := hh (show ∀ j : Int, 1 ≤ j → j < k + 1 → Lib.hasPrefix s (signL j) = false from fun j h1 h2 => by
     by_cases hj : j = k
     ·rw [hj]; exact hpx
     ·exact HMS.out j h1 (by omega))
    clear hpx c20 c21 f20 f21
    go_wp2_with fail
    refine (HSG.out _).mono ?_
    rintro e w1 ⟨rfl, rfl⟩
    go_wp2_with fail
    refine (HPW.out _).mono ?_
    rintro e w1 ⟨rfl, rfl⟩
    go_wp2
    go_roundw
    case rel => exact ⟨k + 1, rfl, by omega, by omega, HNX.out, HCE.out, HB.out⟩
    case measure => simp [intOf]; omega
   | true =>
    have htp := type_at hk1 hk hpx
    rw [hpx] at hPW
    have htl : (Lib.trimPrefix s (signL k)).length < 4294967281 := Nat.lt_of_le_of_lt (Lib.trimPrefix_le s (signL k)) HS.out
    obtain ⟨q, hq⟩ : ∃ q, q = Lib.trimPrefix s (signL k) := ⟨_, rfl⟩
    rw [← hq] at htp htl hPW
    have HPW := hh hPW; clear hPW
    have hHW := (fun w => has_w k [] w)
    cases hb : hasB k with
    | false =>
     rw [hb] at htp hHW
     rw [if_neg (by simp)] at htp
     have HT := hh htp; have HHW := hh hHW; clear hHW
     clear hpx htp hq htl hb
     go_wp2_with fail
     refine (HSG.out _).mono ?_
     rintro e w1 ⟨rfl, rfl⟩
     go_wp2_with fail
     refine (HPW.out _).mono ?_
     rintro e w1 ⟨rfl, rfl⟩
     go_wp2_with fail
     refine (HHW.out _).mono ?_
     rintro e w2 ⟨rfl, hb2⟩
     obtain ⟨hc, hf⟩ := bcell hb2
     have hal : Below w1.heap.size w1 (w1.alloc (.cells #[.int .i64 k, .string ⟨#[]⟩] 56)) := (Below.refl _ _).alloc (Nat.le_refl _) _
     have hce2 := ((hal.trans (hb2.mono (Nat.le_of_lt (by simp)))).block _ hgl).trans HCE.out
     have HB2 := hh (HB.out.trans ((hal.trans (hb2.mono (Nat.le_of_lt (by simp)))).mono (by omega)))
     obtain ⟨z0, z1, -⟩ := two_set hce2 (.int .i64 k) (.string ⟨#[]⟩)
     clear hb2 hal hce2
     go_wp2
     exact bodyPost_ret (v := .tuple #[.agg #[.int .i64 k, .string ⟨#[]⟩], .string ⟨q.toArray⟩]) (by simp [results, Tryz.results139, go_sem, z0, z1]) rfl (took_some HT.out rfl ((HB2.out.setCell (by simp) _).setCell (by simp) _))
    | true =>
     rw [hb] at htp hHW
     rw [if_pos rfl] at htp
     have HHW := hh hHW; clear hHW
     by_cases hcl : ((Lib.cut q [59]).2.2 && clsB (Lib.cut q [59]).1) = true
     ·obtain ⟨a, b, hab, hca⟩ : ∃ a b, Lib.cut q [59] = (a, b, true) ∧ clsB a = true := by
       rw [Bool.and_eq_true] at hcl
       exact ⟨_, _, Prod.ext rfl (Prod.ext rfl hcl.1), hcl.2⟩
      have hty : typeT s = some ((k, a), b) := by rw [htp]; unfold classT; rw [if_pos hcl, hab]
      have HT := hh hty
      have HCL := hh (fun w hm => class_ok q a b w htl hm hab hca)
      clear hpx htp hq htl hb hcl hab hca hty
      go_wp2_with fail
      refine (HSG.out _).mono ?_
      rintro e w1 ⟨rfl, rfl⟩
      go_wp2_with fail
      refine (HPW.out _).mono ?_
      rintro e w1 ⟨rfl, rfl⟩
      go_wp2_with fail
      refine (HHW.out _).mono ?_
      rintro e w2 ⟨rfl, hb2⟩
      obtain ⟨hc, hf⟩ := bcell hb2
      have hal : Below w1.heap.size w1 (w1.alloc (.cells #[.int .i64 k, .string ⟨#[]⟩] 56)) := (Below.refl _ _).alloc (Nat.le_refl _) _
      have hce2 := ((hal.trans (hb2.mono (Nat.le_of_lt (by simp)))).block _ hgl).trans HCE.out
      have HB2 := hh (HB.out.trans ((hal.trans (hb2.mono (Nat.le_of_lt (by simp)))).mono (by omega)))
      have hlt2 := blk_lt hce2
      have hce3 := fun n => ((Lib.grownBy_setCell (w2.drewN n) w1.heap.size 1 (.string ⟨a.toArray⟩)).block w.heap.size hlt2 (fun e => absurd (Option.some.inj e) (by omega))).trans hce2
      have hz := fun n => two_set (hce3 n) (.int .i64 k) (.string ⟨a.toArray⟩)
      have HZ := hh hz
      have HM2 := hh (HM.out.below HB2.out)
      have hh1 : w1.heap.size < w2.heap.size := by have := hb2.size; simp at this; omega
      clear hb2 hal hce2 hce3 hz
      go_wp2_with fail
      refine (HCL.out _ HM2.out).mono ?_
      rintro e w3 ⟨rfl, n, rfl⟩
      obtain ⟨z0, z1, -⟩ := HZ.out n
      go_wp2
      exact bodyPost_ret (v := .tuple #[.agg #[.int .i64 k, .string ⟨a.toArray⟩], .string ⟨b.toArray⟩]) (by simp [results, Tryz.results139, go_sem, z0, z1]) rfl (took_some HT.out rfl ((((over HB2.out).setCell (Nat.le_of_lt hgl) _).setCell (by simp) _).setCell (by simp) _))
     ·have hty : typeT s = none := by rw [htp]; unfold classT; rw [if_neg hcl]
      have HT := hh hty
      have HCL := hh (fun w hm => class_no q w htl hm (by simpa using hcl))
      clear hpx htp hq htl hb hcl hty
      go_wp2_with fail
      refine (HSG.out _).mono ?_
      rintro e w1 ⟨rfl, rfl⟩
      go_wp2_with fail
      refine (HPW.out _).mono ?_
      rintro e w1 ⟨rfl, rfl⟩
      go_wp2_with fail
      refine (HHW.out _).mono ?_
      rintro e w2 ⟨rfl, hb2⟩
      have hal : Below w1.heap.size w1 (w1.alloc (.cells #[.int .i64 k, .string ⟨#[]⟩] 56)) := (Below.refl _ _).alloc (Nat.le_refl _) _
      have HB2 := hh (HB.out.trans ((hal.trans (hb2.mono (Nat.le_of_lt (by simp)))).mono (by omega)))
      have HM2 := hh (HM.out.below HB2.out)
      clear hb2 hal
      go_wp2_with fail
      refine (HCL.out _ HM2.out).mono ?_
      rintro e w3 ⟨rfl, n, rfl⟩
      go_wp2
      exact ⟨rfl, took_none HT.out rfl (over HB2.out)⟩
  ·have HT := hh (type_miss (s := s) (fun j h1 h2 => HMS.out j h1 (by omega)))
   clear c20 c21 f20 f21
   go_wp2
   exact ⟨rfl, took_none HT.out rfl HB.out⟩
end Go.Proofs.YtgociheckcpjkaaGreatDoor.kind
namespace Go.Proofs.YtgociheckcpjkaaGreatDoor.kind
open Go.RowKit
open words kindp word
set_option maxRecDepth 100000
set_option maxHeartbeats 1600000
def Gave (q : Option Ty) (w : World) (e : Ending) (w' : World) : Prop :=
 (match q with
  | some t => e = .returned (tyV t)
  | none => e = .panicked [{ v := noV, recovered := false }]) ∧ Below w.heap.size w w'
theorem gave_some {q : Option Ty} {t : Ty} {w w' : World} {e : Ending} (h : q = some t) (he : e = .returned (tyV t)) (hb : Below w.heap.size w w') : Gave q w e w' := by
 unfold Gave; rw [h]; exact ⟨he, hb⟩
theorem gave_none {q : Option Ty} {w w' : World} {e : Ending} (h : q = none) (he : e = .panicked [{ v := noV, recovered := false }]) (hb : Below w.heap.size w w') : Gave q w e w' := by
 unfold Gave; rw [h]; exact ⟨he, hb⟩
theorem type_some {s r : Tx} {t : Ty} (w : World) (hs : s.length < 4294967281) (hm : Mx w) (h : typeT s = some (t, r)) :
  Calls Tryz.prog 139 #[.string ⟨s.toArray⟩] w fun e w' => e = .returned (.tuple #[tyV t, .string ⟨r.toArray⟩]) ∧ Below w.heap.size w w' :=
 (type_w s w hs hm).mono fun e w' hh => by unfold Took at hh; rw [h] at hh; exact hh
theorem type_none {s : Tx} (w : World) (hs : s.length < 4294967281) (hm : Mx w) (h : typeT s = none) :
  Calls Tryz.prog 139 #[.string ⟨s.toArray⟩] w fun e w' => e = .panicked [{ v := noV, recovered := false }] ∧ Below w.heap.size w w' :=
 (type_w s w hs hm).mono fun e w' hh => by unfold Took at hh; rw [h] at hh; exact hh
theorem two_alloc {w : World} {g : Nat} {a b : Value} {t : TypeId} (h : w.heap[g]? = some (.cells #[a, b] t (0, 0))) (x y : Value) (o : Obj) :
  (((w.setCell ⟨g, 0, none⟩ x).setCell ⟨g, 1, none⟩ y).alloc o).cell? ⟨g, 0, none⟩ = some x ∧ (((w.setCell ⟨g, 0, none⟩ x).setCell ⟨g, 1, none⟩ y).alloc o).cell? ⟨g, 1, none⟩ = some y := by
 have h2 := (two_set h x y).2.2
 have h3 := (((Below.refl _ ((w.setCell ⟨g, 0, none⟩ x).setCell ⟨g, 1, none⟩ y)).alloc (Nat.le_refl _) o).block g (blk_lt h2)).trans h2
 exact ⟨by rw [cell_of_row _ _ _ _ _ _ h3]; rfl, by rw [cell_of_row _ _ _ _ _ _ h3]; rfl⟩
theorem all_k (s : Tx) (w : World) (hs : s.length < 4294967281) (hm : Mx w) :
  Calls Tryz.prog 140 #[.string ⟨s.toArray⟩] w (Gave (allT s) w) := by
 have hp : ∀ (t : TypeId) (v : Value) (w : World), (Instr.panic (.iface t v)).run Tryz.prog w = .halt (.panic (.iface t v)) w := fun _ _ _ => rfl
 have hal : Below w.heap.size w (w.alloc (.cells #[.int .i64 0, .string ⟨#[]⟩] 56)) := (Below.refl _ _).alloc (Nat.le_refl _) _
 have HAL := hh hal
 have HM := hh (hm.below hal)
 cases h : typeT s with
 | none =>
  have HT := hh (fun w hm => type_none w hs hm h)
  have HA := hh (show allT s = none by unfold allT; rw [h])
  clear h hs hm hal
  go_enter Tryz.func140, Tryz.ntmps140
  go_wp2_with fail
  refine (HT.out _ HM.out).mono ?_
  rintro e w1 ⟨rfl, hb1⟩
  have HB := hh (HAL.out.trans (hb1.mono (by simp)))
  clear hb1
  go_wp2
  exact ⟨rfl, gave_none HA.out rfl HB.out⟩
 | some tr =>
  obtain ⟨⟨k, c⟩, r⟩ := tr
  have HT := hh (fun w hm => type_some w hs hm h)
  have hcell0 := heap_alloc_new w (.cells #[.int .i64 0, .string ⟨#[]⟩] 56)
  cases r with
  | nil =>
   have HA := hh (show allT s = some (k, c) by unfold allT; rw [h])
   have HC := hh hcell0
   clear h hs hm hal hcell0
   go_enter Tryz.func140, Tryz.ntmps140
   go_wp2_with fail
   refine (HT.out _ HM.out).mono ?_
   rintro e w1 ⟨rfl, hb1⟩
   unfold tyV
   dsimp only
   have hh1 := hb1.size
   simp at hh1
   have hce := (hb1.block w.heap.size (by simp)).trans HC.out
   obtain ⟨z0, z1⟩ := two_alloc hce (.int .i64 k) (.string ⟨c.toArray⟩) (.cells #[.int .i64 k, .string ⟨c.toArray⟩] 56)
   have c0 : w1.cell? ⟨w.heap.size, 0, none⟩ = some (.int .i64 0) := cell_of_row _ _ _ _ _ _ hce
   have c1 : w1.cell? ⟨w.heap.size, 1, none⟩ = some (.string ⟨#[]⟩) := cell_of_row _ _ _ _ _ _ hce
   have f0 := frozen_of_row w1 _ 0 _ _ hce
   have f1 := frozen_of_row w1 _ 1 _ _ hce
   have HB := hh (HAL.out.trans (hb1.mono (by simp)))
   have hlt : w.heap.size < w1.heap.size := by omega
   clear hb1 hce hh1
   go_wp2
   exact bodyPost_ret (v := .agg #[.int .i64 k, .string ⟨c.toArray⟩]) (by simp [results, Tryz.results140, go_sem, z0, z1]) rfl (gave_some HA.out rfl (((HB.out.setCell (by simp) _).setCell (by simp) _).alloc (by simp; omega) _))
  | cons x r =>
   have HA := hh (show allT s = none by unfold allT; rw [h])
   clear h hs hm hal hcell0
   go_enter Tryz.func140, Tryz.ntmps140
   go_wp2_with fail
   refine (HT.out _ HM.out).mono ?_
   rintro e w1 ⟨rfl, hb1⟩
   unfold tyV
   dsimp only
   have HB := hh (HAL.out.trans (hb1.mono (by simp)))
   have hbl : w.heap.size ≤ w1.heap.size := by have := hb1.size; simp at this; omega
   clear hb1
   go_wp2
   exact ⟨rfl, gave_none HA.out rfl (HB.out.alloc hbl _)⟩
end Go.Proofs.YtgociheckcpjkaaGreatDoor.kind
namespace Go.Proofs.YtgociheckcpjkaaGreatDoor.kind
open Go.RowKit
open words kindp word rdr
set_option maxRecDepth 100000
def Caught (g : Nat) (t : TypeId) (w : World) (e : Ending) (u' : FrameMode) (w' : World) : Prop :=
 e = .returned (.tuple #[]) ∧ u' = .panicking [{ v := noV, recovered := true }] ∧ w'.heap[g]? = some (.cells #[.int .i64 1] t (0, 0)) ∧ But g w w'
theorem caught_at {g : Nat} {t u : TypeId} {w : World} (hg : w.heap[g]? = some (.cells #[.int .i64 0] t (0, 0))) :
  ((w.setCell ⟨g, 0, none⟩ (.int .i64 1)).alloc (.cells #[] u)).heap[g]? = some (.cells #[.int .i64 1] t (0, 0)) ∧ But g w ((w.setCell ⟨g, 0, none⟩ (.int .i64 1)).alloc (.cells #[] u)) := by
 have h1 := heap_setCell_same w g 0 _ _ (.int .i64 1) hg
 exact ⟨(((Below.refl _ (w.setCell ⟨g, 0, none⟩ (.int .i64 1))).alloc (Nat.le_refl _) _).block g (blk_lt h1)).trans h1, ((But.refl g w).set 0 _).alloc _⟩
theorem caught_at2 {g : Nat} {t u : TypeId} {w : World} (hg : w.heap[g]? = some (.cells #[.int .i64 0] t (0, 0))) :
  ((w.alloc (.cells #[] u)).setCell ⟨g, 0, none⟩ (.int .i64 1)).heap[g]? = some (.cells #[.int .i64 1] t (0, 0)) ∧ But g w ((w.alloc (.cells #[] u)).setCell ⟨g, 0, none⟩ (.int .i64 1)) := by
 have h0 := (((Below.refl _ w).alloc (Nat.le_refl _) (.cells #[] u)).block g (blk_lt hg)).trans hg
 exact ⟨heap_setCell_same _ g 0 _ _ (.int .i64 1) h0, ((But.refl g w).alloc _).set 0 _⟩
theorem two_new (w : World) (A B : Obj) : ((w.alloc A).alloc B).heap[w.heap.size]? = some A ∧ ((w.alloc A).alloc B).heap[w.heap.size + 1]? = some B := by
 have h1 := heap_alloc_new w A
 have h2 := heap_alloc_new (w.alloc A) B
 rw [show (w.alloc A).heap.size = w.heap.size + 1 by simp] at h2
 exact ⟨(((Below.refl _ (w.alloc A)).alloc (Nat.le_refl _) B).block _ (blk_lt h1)).trans h1, h2⟩
end Go.Proofs.YtgociheckcpjkaaGreatDoor.kind
namespace Go.Proofs.YtgociheckcpjkaaGreatDoor.kind
open Go.RowKit
open words kindp
set_option maxRecDepth 100000
def TL (l : List Ty) : List Value := l.flatMap fun t => [.int .i64 t.1, .string ⟨t.2.toArray⟩]
theorem TL_app (a b : List Ty) : TL (a ++ b) = TL a ++ TL b := by simp [TL]
theorem infoT : (Tryz.prog.info? 56).map (fun i => (i.zero, i.size, i.bytes)) = some (some (.agg #[.int .i64 0, .string ⟨#[]⟩]), 2, 24) := by kernel_rfl
end Go.Proofs.YtgociheckcpjkaaGreatDoor.kind
namespace Go.Proofs.YtgociheckcpjkaaGreatDoor.kind
open Go.RowKit
open words kindp word piece rdr
set_option maxRecDepth 100000
set_option maxHeartbeats 4000000
def Vd (w : World) : Prop := w.cell? ⟨0, 0, none⟩ = some (.int .i64 1) ∧ w.cell? ⟨0, 1, none⟩ = some (.string ⟨#[]⟩)
theorem Vd.below {w w' : World} (h : Vd w) (hb : Below w.heap.size w w') : Vd w' :=
 ⟨(hb.cell (World.block_lt_of_cell? _ _ h.1)).trans h.1, (hb.cell (World.block_lt_of_cell? _ _ h.2)).trans h.2⟩
def GaveS (q : Option (List Ty × Ty)) (w : World) (e : Ending) (w' : World) : Prop :=
 (match q with
  | some (p, t) => ∃ v, e = .returned (.agg #[v, .int .i64 t.1, .string ⟨t.2.toArray⟩]) ∧ w'.ownsRow w.heap.size 56 2 v p.length (TL p)
  | none => e = .panicked [{ v := noV, recovered := false }]) ∧ Below w.heap.size w w'
theorem gaveS_some {q : Option (List Ty × Ty)} {p : List Ty} {t : Ty} {w w' : World} {e : Ending} (h : q = some (p, t)) (v : Value) (he : e = .returned (.agg #[v, .int .i64 t.1, .string ⟨t.2.toArray⟩])) (ho : w'.ownsRow w.heap.size 56 2 v p.length (TL p)) (hb : Below w.heap.size w w') : GaveS q w e w' := by
 unfold GaveS; rw [h]; exact ⟨⟨v, he, ho⟩, hb⟩
theorem gaveS_none {q : Option (List Ty × Ty)} {w w' : World} {e : Ending} (h : q = none) (he : e = .panicked [{ v := noV, recovered := false }]) (hb : Below w.heap.size w w') : GaveS q w e w' := by
 unfold GaveS; rw [h]; exact ⟨he, hb⟩
theorem all_some {s : Tx} {t : Ty} (w : World) (hs : s.length < 4294967281) (hm : Mx w) (h : allT s = some t) :
  Calls Tryz.prog 140 #[.string ⟨s.toArray⟩] w fun e w' => e = .returned (.agg #[.int .i64 t.1, .string ⟨t.2.toArray⟩]) ∧ Below w.heap.size w w' :=
 (all_k s w hs hm).mono fun e w' hh => by unfold Gave at hh; rw [h] at hh; exact hh
theorem all_none {s : Tx} (w : World) (hs : s.length < 4294967281) (hm : Mx w) (h : allT s = none) :
  Calls Tryz.prog 140 #[.string ⟨s.toArray⟩] w fun e w' => e = .panicked [{ v := noV, recovered := false }] ∧ Below w.heap.size w w' :=
 (all_k s w hs hm).mono fun e w' hh => by unfold Gave at hh; rw [h] at hh; exact hh
theorem has_w2 (s p : Tx) (w : World) :
  Calls Tryz.prog 138 #[.string ⟨s.toArray⟩, .string ⟨p.toArray⟩] w fun e w' => e = .returned (.bool (Lib.hasPrefix s p)) ∧ w' = w :=
 Tryz.strings_HasPrefix ⟨s.toArray⟩ ⟨p.toArray⟩ w
theorem pre_head (s : Tx) (c : UInt8) : Lib.hasPrefix s [c] = decide (s.head? = some c) := by
 unfold Lib.hasPrefix
 cases s with
 | nil => rfl
 | cons x r => simp [List.isPrefixOf, eq_comm (a := x)]; rfl
def strLen (v : Value) : Nat := match v with | .string s => s.size | _ => 0
theorem ext_tail (r : Tx) : (⟨r.toArray⟩ : ByteArray).extract 1 r.length = ⟨r.tail.toArray⟩ := by
 apply ByteArray.ext
 rw [← Array.toList_inj, ext_data]
 show (r.drop 1).take (r.length - 1) = r.tail
 rw [List.drop_one, List.take_of_length_le (by simp)]
theorem three_set {w : World} {g : Nat} {a b c : Value} {t : TypeId} (h : w.heap[g]? = some (.cells #[a, b, c] t (0, 0))) (x y z : Value) :
  (w.setCell ⟨g, 0, none⟩ x).cell? ⟨g, 0, none⟩ = some x ∧ ((w.setCell ⟨g, 0, none⟩ x).setCell ⟨g, 1, none⟩ y).cell? ⟨g, 1, none⟩ = some y ∧ (((w.setCell ⟨g, 0, none⟩ x).setCell ⟨g, 1, none⟩ y).setCell ⟨g, 2, none⟩ z).cell? ⟨g, 2, none⟩ = some z := by
 have h1 := heap_setCell_same w g 0 _ _ x h
 have h2 := heap_setCell_same _ g 1 _ _ y h1
 have h3 := heap_setCell_same _ g 2 _ _ z h2
 exact ⟨by rw [cell_of_row _ _ _ _ _ _ h1]; rfl, by rw [cell_of_row _ _ _ _ _ _ h2]; rfl, by rw [cell_of_row _ _ _ _ _ _ h3]; rfl⟩
theorem last_set {w : World} {g : Nat} {a b c : Value} {t : TypeId} (h : w.heap[g]? = some (.cells #[a, b, c] t (0, 0))) (y z : Value) :
  ((w.setCell ⟨g, 1, none⟩ y).setCell ⟨g, 2, none⟩ z).heap[g]? = some (.cells #[a, y, z] t (0, 0)) ∧ But g w ((w.setCell ⟨g, 1, none⟩ y).setCell ⟨g, 2, none⟩ z) := by
 have h2 := heap_setCell_same w g 1 _ _ y h
 have h3 := heap_setCell_same _ g 2 _ _ z h2
 exact ⟨h3, ((But.refl g w).set 1 _).set 2 _⟩
theorem own_ne {w : World} {base : Nat} {e : TypeId} {size : Nat} {v : Value} {n : Nat} {xs : List Value} (h : w.ownsRow base e size v n xs) {b : Nat} (hb : b < base) : some b ≠ v.ownBlock := fun e1 => by
 have := (h.lt b e1.symm).1; omega
theorem own_but {w w' : World} {base : Nat} {e : TypeId} {size : Nat} {v : Value} {n : Nat} {xs : List Value} (h : w.ownsRow base e size v n xs) {b : Nat} (hb : b < base) (hg : But b w w') : w'.ownsRow base e size v n xs :=
 h.kept hg (.inr (own_ne h hb).symm)
theorem own_old {w : World} {base : Nat} {e : TypeId} {size : Nat} {v : Value} {n : Nat} {xs : List Value} (h : w.ownsRow base e size v n xs) {b : Nat} (hb : w.heap.size ≤ b) : some b ≠ v.ownBlock := fun e1 => by
 have := (h.lt b e1.symm).2; omega
theorem new_rd {w W : World} (cs : Array Value) (t : TypeId) (k : Nat) (hW : W.heap.size = w.heap.size) (xs : List Value) (hx : cs.toList.take k = xs) : Rd (W.alloc (.cells cs t)) (some ⟨w.heap.size, 0, none⟩) xs := by
 rw [← hW]; exact rd_blk (heap_alloc_new W _) hx
theorem but_ne {w w' : World} {b g : Nat} {o : Obj} (hg : But b w w') (h : w.heap[g]? = some o) (hne : g ≠ b) : w'.heap[g]? = some o := hg.heap h hne
def SigI (G : Option (List Ty × Ty)) (n : Nat) (acc : List Ty) (r : Tx) : Prop := sigT (r.length + 1) acc r = G ∧ acc.length + r.length ≤ n
theorem sig_w (s : Tx) (w : World) (hs : s.length ≤ 65536) (hm : Mx w) (hv : Vd w) :
  Calls Tryz.prog 128 #[.string ⟨s.toArray⟩] w (GaveS (sigD s) w) := by
 have hp : ∀ (t : TypeId) (v : Value) (w : World), (Instr.panic (.iface t v)).run Tryz.prog w = .halt (.panic (.iface t v)) w := fun _ _ _ => rfl
 have hal : Below w.heap.size w (w.alloc (.cells #[.slice none 0 0, .int .i64 0, .string ⟨#[]⟩] 141)) := (Below.refl _ _).alloc (Nat.le_refl _) _
 have HAL := hh hal
 have hP := (fun w => prefix_w s [40] w)
 rw [pre_head] at hP
 by_cases h40 : s.head? = some 40
 ·rw [decide_eq_true h40] at hP
  obtain ⟨r0, rfl⟩ : ∃ r, s = 40 :: r := by
   cases s with
   | nil => cases h40
   | cons x r => cases h40; exact ⟨r, rfl⟩
  rw [show Lib.trimPrefix (40 :: r0) [40] = r0 by rw [trim_at (by rw [pre_head]; rfl)]; rfl] at hP
  have hG : SigI (sigD (40 :: r0)) r0.length [] r0 := by
   refine ⟨?_, by simp⟩
   unfold sigD
   rw [if_pos (show (40 :: r0).head? = some 40 from rfl), List.tail_cons]
   exact sig_fuel _ _ _ _ (by omega) (by simp; omega)
  obtain ⟨G, hGG⟩ : ∃ G, G = sigD (40 :: r0) := ⟨_, rfl⟩
  rw [← hGG] at hG ⊢
  have hn : r0.length ≤ 65536 := by have : (40 :: r0).length = r0.length + 1 := rfl; omega
  obtain ⟨n, hnn⟩ : ∃ n, n = r0.length := ⟨_, rfl⟩
  rw [← hnn] at hG hn
  have HG := hh hG; have HP := hh hP
  have HM := hh hm; have HV := hh hv
  obtain ⟨i0, hi0, hz0, hz1, hz2⟩ := info_parts infoT
  clear hG hP h40 hs hal hGG hnn hm hv
  go_enter Tryz.func128, Tryz.ntmps128
  go_wp2_with fail
  refine (HP.out _).mono ?_
  rintro e w1 ⟨rfl, rfl⟩
  go_wp2
  go_loopw [3] (fun i wr => ∃ (r : Tx) (acc : List Ty) (v : Value), i = .string ⟨r.toArray⟩ ∧ SigI G n acc r ∧ wr.heap[w.heap.size]? = some (.cells #[.slice none 0 0, .int .i64 0, .string ⟨#[]⟩] 141 (0, 0)) ∧ wr.heap[w.heap.size + 1]? = some (.cells #[v, .int .i64 0, .string ⟨#[]⟩] 141 (0, 0)) ∧ wr.ownsRow (w.heap.size + 2) 56 2 v acc.length (TL acc) ∧ Below w.heap.size w wr) (fun i _ => strLen i)
  case atStart => exact ⟨r0, [], .slice none 0 0, rfl, HG.out, (two_new w _ _).1, (two_new w _ _).2, World.ownsRow_nil _ _ _ _, HAL.out.alloc (by simp) _⟩
  case round =>
   obtain ⟨r, acc, v, rfl, hsig, hg2, hg5, hown, hbw⟩ := hrel
   have HSI := hh hsig; have HG2 := hh hg2; have HG5 := hh hg5; have HO := hh hown; have HB := hh hbw
   have HMR := hh (HM.out.below hbw); have HVR := hh (HV.out.below hbw)
   have hrl : r.length < 4294967281 := by have := hsig.2; omega
   have HH := (fun w => has_w2 r [41] w)
   rw [pre_head] at HH
   by_cases h41 : r.head? = some 41
   ·rw [decide_eq_true h41] at HH
    have HHP := hh HH
    have HE := hh (ext_tail r)
    have htl : r.tail.length < 4294967281 := by rw [List.length_tail]; omega
    obtain ⟨q, rfl⟩ : ∃ q, r = 41 :: q := by
     cases r with
     | nil => cases h41
     | cons x q => cases h41; exact ⟨q, rfl⟩
    have hd := hsig.1
    rw [sig_done] at hd
    have hG5L := blk_lt hg5
    cases hall : allT q with
    | none =>
     have hA := (fun w hm => all_none (s := q) w (by simpa using htl) hm hall)
     rw [hall] at hd
     have HA := hh hA; have HD := hh hd.symm
     clear HH hsig hg2 hg5 hown hbw hA hd hall htl
     go_wp2_with fail
     refine (HHP.out _).mono ?_
     rintro e w1 ⟨rfl, rfl⟩
     go_wp2_with fail
     rw [show (⟨(41 :: q).toArray⟩ : ByteArray).extract 1 (q.length + 1) = ⟨q.toArray⟩ from HE.out]
     refine (HA.out _ HMR.out).mono ?_
     rintro e w2 ⟨rfl, hb2⟩
     exact ⟨rfl, gaveS_none HD.out rfl (HB.out.trans (hb2.mono HB.out.size))⟩
    | some t =>
     obtain ⟨k, c⟩ := t
     have hA := (fun w hm => all_some (s := q) w (by simpa using htl) hm hall)
     rw [hall] at hd
     have HA := hh hA; have HD := hh hd.symm
     clear HH hsig hg2 hg5 hown hbw hA hd hall htl
     go_wp2_with fail
     refine (HHP.out _).mono ?_
     rintro e w1 ⟨rfl, rfl⟩
     go_wp2_with fail
     rw [show (⟨(41 :: q).toArray⟩ : ByteArray).extract 1 (q.length + 1) = ⟨q.toArray⟩ from HE.out]
     refine (HA.out _ HMR.out).mono ?_
     rintro e w2 ⟨rfl, hb2⟩
     dsimp only
     have hg2 := (hb2.block _ (blk_lt HG2.out)).trans HG2.out
     have hg5 := (hb2.block _ (blk_lt HG5.out)).trans HG5.out
     have c50 : w2.cell? ⟨w.heap.size + 1, 0, none⟩ = some v := cell_of_row _ _ _ _ _ _ hg5
     have c51 : w2.cell? ⟨w.heap.size + 1, 1, none⟩ = some (.int .i64 0) := cell_of_row _ _ _ _ _ _ hg5
     have c52 : w2.cell? ⟨w.heap.size + 1, 2, none⟩ = some (.string ⟨#[]⟩) := cell_of_row _ _ _ _ _ _ hg5
     have f51 := frozen_of_row w2 _ 1 _ _ hg5
     have f52 := frozen_of_row w2 _ 2 _ _ hg5
     have c20 : w2.cell? ⟨w.heap.size, 0, none⟩ = some (.slice none 0 0) := cell_of_row _ _ _ _ _ _ hg2
     have c21 : w2.cell? ⟨w.heap.size, 1, none⟩ = some (.int .i64 0) := cell_of_row _ _ _ _ _ _ hg2
     have c22 : w2.cell? ⟨w.heap.size, 2, none⟩ = some (.string ⟨#[]⟩) := cell_of_row _ _ _ _ _ _ hg2
     have f20 := frozen_of_row w2 _ 0 _ _ hg2
     have f21 := frozen_of_row w2 _ 1 _ _ hg2
     have f22 := frozen_of_row w2 _ 2 _ _ hg2
     have HB2 := hh (HB.out.trans (hb2.mono HB.out.size))
     have HO2 := hh (own_below HO.out hb2)
     obtain ⟨A, cc, rfl, _, _, _⟩ := own_rd HO2.out
     obtain ⟨hq5, hbt5⟩ := last_set hg5 (.int .i64 k) (.string ⟨c.toArray⟩)
     have hq2 := but_ne hbt5 hg2 (by omega)
     obtain ⟨z0, z1, z2⟩ := three_set hq2 (.slice A acc.length cc) (.int .i64 k) (.string ⟨c.toArray⟩)
     have HO3 := hh (own_base (own_but (own_but HO2.out (b := w.heap.size + 1) (by omega) hbt5) (b := w.heap.size) (by omega) ((((But.refl w.heap.size _).set 0 (.slice A acc.length cc)).set 1 (.int .i64 k)).set 2 (.string ⟨c.toArray⟩))) (base' := w.heap.size) (by omega))
     clear hb2 hg2 hg5 hq5 hbt5 hq2
     go_wp2
     exact bodyPost_ret (v := .agg #[.slice A acc.length cc, .int .i64 k, .string ⟨c.toArray⟩]) (by simp [results, Tryz.results128, go_sem, z0, z1, z2]) rfl (gaveS_some HD.out _ rfl HO3.out (((((HB2.out.setCell (by simp) _).setCell (by simp) _).setCell (by simp) _).setCell (by simp) _).setCell (by simp) _))
   ·rw [decide_eq_false h41] at HH
    have HHP := hh HH
    obtain ⟨hsg, hln⟩ := hsig
    have hal6 : Below wr.heap.size wr (wr.alloc (.cells #[.int .i64 0, .string ⟨#[]⟩] 56)) := (Below.refl _ _).alloc (Nat.le_refl _) _
    have HM6 := hh (HMR.out.below hal6); have HV6 := hh (HVR.out.below hal6)
    have HAL6 := hh hal6
    cases htt : typeT r with
    | none =>
     rw [sig_none h41 htt] at hsg
     have HD := hh hsg.symm
     have HT := hh (fun w hm => type_none (s := r) w hrl hm htt)
     clear HH hg2 hg5 hown hbw hal6 hsg htt h41 hln
     go_wp2_with fail
     refine (HHP.out _).mono ?_
     rintro e w1 ⟨rfl, rfl⟩
     go_wp2_with fail
     refine (HT.out _ HM6.out).mono ?_
     rintro e w2 ⟨rfl, hb2⟩
     exact ⟨rfl, gaveS_none HD.out rfl (HB.out.trans ((HAL6.out.trans (hb2.mono (by simp))).mono HB.out.size))⟩
    | some tr =>
     obtain ⟨⟨k, c⟩, q⟩ := tr
     have hql := type_less htt
     have HT := hh (fun w hm => type_some (s := r) w hrl hm htt)
     by_cases hvd : ((k, c) : Ty) = (1, [])
     ·cases hvd
      rw [sig_void h41 htt] at hsg
      have HD := hh hsg.symm
      clear HH hg2 hg5 hown hbw hal6 hsg htt h41 hln hql
      go_wp2_with fail
      refine (HHP.out _).mono ?_
      rintro e w1 ⟨rfl, rfl⟩
      go_wp2_with fail
      refine (HT.out _ HM6.out).mono ?_
      rintro e w2 ⟨rfl, hb2⟩
      unfold tyV
      dsimp only
      have hg6 := (hb2.block w1.heap.size (by simp)).trans (heap_alloc_new w1 _)
      obtain ⟨z0, z1, hz6⟩ := two_set hg6 (.int .i64 1) (.string ⟨#[]⟩)
      have c60 : w2.cell? ⟨w1.heap.size, 0, none⟩ = some (.int .i64 0) := cell_of_row _ _ _ _ _ _ hg6
      have c61 : w2.cell? ⟨w1.heap.size, 1, none⟩ = some (.string ⟨#[]⟩) := cell_of_row _ _ _ _ _ _ hg6
      have f60 := frozen_of_row w2 _ 0 _ _ hg6
      have f61 := frozen_of_row w2 _ 1 _ _ hg6
      obtain ⟨v0, v1⟩ := HV6.out.below hb2
      have hgv : 0 < w1.heap.size := World.block_lt_of_cell? _ _ HVR.out.1
      have hgn : ¬ w1.heap.size = 0 := by omega
      have hb12 := HAL6.out.trans (hb2.mono (by simp))
      have HB2 := hh (HB.out.trans (hb12.mono HB.out.size))
      clear hb2 hg6 hz6 hb12
      go_wp2
      exact ⟨rfl, gaveS_none HD.out rfl ((HB2.out.setCell HB.out.size _).setCell HB.out.size _)⟩
     ·rw [sig_next h41 htt hvd] at hsg
      have HNX := hh (show SigI G n (acc ++ [(k, c)]) q from ⟨hsg, by rw [List.length_append]; show acc.length + 1 + q.length ≤ n; omega⟩)
      have hacc : acc.length ≤ 65536 := by omega
      have hk1 : (k = 1 ∧ c ≠ []) ∨ (k == 1) = false := by
       by_cases h : k = 1
       ·exact .inl ⟨h, fun h2 => hvd (by rw [h, h2])⟩
       ·exact .inr (by simpa using h)
      obtain ⟨A, cc, rfl, _, _, _⟩ := own_rd HO.out
      clear HH hg2 hg5 hown hbw hal6 hsg htt h41 hln hvd
      go_wp2_with fail
      refine (HHP.out _).mono ?_
      rintro e w1 ⟨rfl, rfl⟩
      go_wp2_with fail
      refine (HT.out _ HM6.out).mono ?_
      rintro e w2 ⟨rfl, hb2⟩
      unfold tyV
      dsimp only
      have hg6 := (hb2.block w1.heap.size (by simp)).trans (heap_alloc_new w1 _)
      obtain ⟨z0, z1, hz6⟩ := two_set hg6 (.int .i64 k) (.string ⟨c.toArray⟩)
      have c60 : w2.cell? ⟨w1.heap.size, 0, none⟩ = some (.int .i64 0) := cell_of_row _ _ _ _ _ _ hg6
      have c61 : w2.cell? ⟨w1.heap.size, 1, none⟩ = some (.string ⟨#[]⟩) := cell_of_row _ _ _ _ _ _ hg6
      have f60 := frozen_of_row w2 _ 0 _ _ hg6
      have f61 := frozen_of_row w2 _ 1 _ _ hg6
      obtain ⟨v0, v1⟩ := HV6.out.below hb2
      have hgv : 0 < w1.heap.size := World.block_lt_of_cell? _ _ HVR.out.1
      have hgn : ¬ w1.heap.size = 0 := by omega
      have hb12 := HAL6.out.trans (hb2.mono (by simp))
      have HB2 := hh (HB.out.trans (hb12.mono HB.out.size))
      have HO2 := own_below HO.out hb12
      have HO3 := HO2.kept (((But.refl w1.heap.size w2).set 0 (.int .i64 k)).set 1 (.string ⟨c.toArray⟩)) (.inr (own_old HO.out (Nat.le_refl _)).symm)
      have HO4 := hh (HO3.alloc (.cells #[.int .i64 k, .string ⟨c.toArray⟩] 56))
      have hq2 := (hb12.block _ (blk_lt HG2.out)).trans HG2.out
      have hq5 := (hb12.block _ (blk_lt HG5.out)).trans HG5.out
      have c50 : w2.cell? ⟨w.heap.size + 1, 0, none⟩ = some (.slice A acc.length cc) := cell_of_row _ _ _ _ _ _ hq5
      have f50 := frozen_of_row w2 _ 0 _ _ hq5
      have hl5 := blk_lt HG5.out
      have hl2 := blk_lt HG2.out
      have HQ2 := hh hq2; have HQ5 := hh hq5
      have hsz2 := hb12.size
      clear hb2 hg6 hb12 HO2 HO3 hq2 hq5 hz6
      have HQ2A := hh ((((Below.refl _ ((w2.setCell ⟨w1.heap.size, 0, none⟩ (.int .i64 k)).setCell ⟨w1.heap.size, 1, none⟩ (.string ⟨c.toArray⟩))).alloc (Nat.le_refl _) (.cells #[.int .i64 k, .string ⟨c.toArray⟩] 56)).block _ (by simp; omega)).trans (but_ne (((But.refl w1.heap.size w2).set 0 (.int .i64 k)).set 1 (.string ⟨c.toArray⟩)) HQ2.out (by omega)))
      have HQ5A := hh ((((Below.refl _ ((w2.setCell ⟨w1.heap.size, 0, none⟩ (.int .i64 k)).setCell ⟨w1.heap.size, 1, none⟩ (.string ⟨c.toArray⟩))).alloc (Nat.le_refl _) (.cells #[.int .i64 k, .string ⟨c.toArray⟩] 56)).block _ (by simp; omega)).trans (but_ne (((But.refl w1.heap.size w2).set 0 (.int .i64 k)).set 1 (.string ⟨c.toArray⟩)) HQ5.out (by omega)))
      have HB5 := hh (((HB2.out.setCell (p := ⟨w1.heap.size, 0, none⟩) HB.out.size (.int .i64 k)).setCell (p := ⟨w1.heap.size, 1, none⟩) HB.out.size (.string ⟨c.toArray⟩)).alloc (by simp; omega) (.cells #[.int .i64 k, .string ⟨c.toArray⟩] 56))
      have HRD := hh (new_rd (w := w2) (W := (w2.setCell ⟨w1.heap.size, 0, none⟩ (.int .i64 k)).setCell ⟨w1.heap.size, 1, none⟩ (.string ⟨c.toArray⟩)) #[.int .i64 k, .string ⟨c.toArray⟩] 56 2 (by simp) [.int .i64 k, .string ⟨c.toArray⟩] rfl)
      rcases hk1 with ⟨rfl, hc0⟩ | hk1
      ·go_wp2_with (at_builtin; refine wpList_app _ rfl (.tmp 30) (.tmp 32) _ rfl (w.heap.size + 2) 56 i0 _ 2 24 Tryz.underlying129 hi0 hz0 hz1 hz2 rfl (by omega) _ acc.length (TL acc) rfl HO4.out _ 1 1 [.int .i64 1, .string ⟨c.toArray⟩] rfl rfl HRD.out (by simp [Value.oneCell']) (by simp only [maxLen]; omega) (by omega) (by simp; omega) ?_; intro v7 w7 hown7 hg7 hb7 hat7; clear hat7; obtain ⟨A7, cc7, rfl, _, _, _⟩ := own_rd hown7; have hq7 := (hb7.block (w.heap.size + 1) (by omega)).trans HQ5A.out; have c57 : w7.cell? ⟨w.heap.size + 1, 0, none⟩ = some (.slice A acc.length cc) := cell_of_row _ _ _ _ _ _ hq7; have f57 := frozen_of_row w7 _ 0 _ _ hq7)
       have hown8 : w7.ownsRow (w.heap.size + 2) 56 2 (.slice A7 (acc.length + 1) cc7) (acc ++ [((1, c) : Ty)]).length (TL (acc ++ [(1, c)])) := by rw [List.length_append, TL_app]; exact hown7
       have hown9 := own_but hown8 (b := w.heap.size + 1) (by omega) ((But.refl (w.heap.size + 1) w7).set 0 (.slice A7 (acc.length + 1) cc7))
       have hq9 : (w7.setCell ⟨w.heap.size + 1, 0, none⟩ (.slice A7 (acc.length + 1) cc7)).heap[w.heap.size + 1]? = some (.cells #[.slice A7 (acc.length + 1) cc7, .int .i64 0, .string ⟨#[]⟩] 141 (0, 0)) := heap_setCell_same w7 (w.heap.size + 1) 0 _ _ (.slice A7 (acc.length + 1) cc7) hq7
       have hq29 := but_ne ((But.refl (w.heap.size + 1) w7).set 0 (.slice A7 (acc.length + 1) cc7)) ((hb7.block w.heap.size (by omega)).trans HQ2A.out) (by omega)
       have HB9 := hh ((HB5.out.trans (hb7.mono (by omega))).setCell (p := ⟨w.heap.size + 1, 0, none⟩) (by simp) (.slice A7 (acc.length + 1) cc7))
       have HO9 := hh hown9; have HQ9 := hh hq9; have HQ29 := hh hq29
       clear hown7 hg7 hb7 hown8 hown9 hq7 hq9 hq29 c57 f57
       go_roundw
       case rel => exact ⟨q, acc ++ [((1, c) : Ty)], _, rfl, HNX.out, HQ29.out, HQ9.out, HO9.out, HB9.out⟩
       case measure => first | (simp [strLen, mk_len]; omega) | (simp [strLen]; rw [mk_len, mk_len]; omega)
      ·go_wp2_with (at_builtin; refine wpList_app _ rfl (.tmp 30) (.tmp 32) _ rfl (w.heap.size + 2) 56 i0 _ 2 24 Tryz.underlying129 hi0 hz0 hz1 hz2 rfl (by omega) _ acc.length (TL acc) rfl HO4.out _ 1 1 [.int .i64 k, .string ⟨c.toArray⟩] rfl rfl HRD.out (by simp [Value.oneCell']) (by simp only [maxLen]; omega) (by omega) (by simp; omega) ?_; intro v7 w7 hown7 hg7 hb7 hat7; clear hat7; obtain ⟨A7, cc7, rfl, _, _, _⟩ := own_rd hown7; have hq7 := (hb7.block (w.heap.size + 1) (by omega)).trans HQ5A.out; have c57 : w7.cell? ⟨w.heap.size + 1, 0, none⟩ = some (.slice A acc.length cc) := cell_of_row _ _ _ _ _ _ hq7; have f57 := frozen_of_row w7 _ 0 _ _ hq7)
       have hown8 : w7.ownsRow (w.heap.size + 2) 56 2 (.slice A7 (acc.length + 1) cc7) (acc ++ [((k, c) : Ty)]).length (TL (acc ++ [(k, c)])) := by rw [List.length_append, TL_app]; exact hown7
       have hown9 := own_but hown8 (b := w.heap.size + 1) (by omega) ((But.refl (w.heap.size + 1) w7).set 0 (.slice A7 (acc.length + 1) cc7))
       have hq9 : (w7.setCell ⟨w.heap.size + 1, 0, none⟩ (.slice A7 (acc.length + 1) cc7)).heap[w.heap.size + 1]? = some (.cells #[.slice A7 (acc.length + 1) cc7, .int .i64 0, .string ⟨#[]⟩] 141 (0, 0)) := heap_setCell_same w7 (w.heap.size + 1) 0 _ _ (.slice A7 (acc.length + 1) cc7) hq7
       have hq29 := but_ne ((But.refl (w.heap.size + 1) w7).set 0 (.slice A7 (acc.length + 1) cc7)) ((hb7.block w.heap.size (by omega)).trans HQ2A.out) (by omega)
       have HB9 := hh ((HB5.out.trans (hb7.mono (by omega))).setCell (p := ⟨w.heap.size + 1, 0, none⟩) (by simp) (.slice A7 (acc.length + 1) cc7))
       have HO9 := hh hown9; have HQ9 := hh hq9; have HQ29 := hh hq29
       clear hown7 hg7 hb7 hown8 hown9 hq7 hq9 hq29 c57 f57
       go_roundw
       case rel => exact ⟨q, acc ++ [((k, c) : Ty)], _, rfl, HNX.out, HQ29.out, HQ9.out, HO9.out, HB9.out⟩
       case measure => first | (simp [strLen, mk_len]; omega) | (simp [strLen]; rw [mk_len, mk_len]; omega)
 ·rw [decide_eq_false h40] at hP
  have HP := hh hP
  have HG := hh (show sigD s = none by unfold sigD; rw [if_neg h40])
  clear hP h40 hs hal hm hv
  go_enter Tryz.func128, Tryz.ntmps128
  go_wp2_with fail
  refine (HP.out _).mono ?_
  rintro e w1 ⟨rfl, rfl⟩
  go_wp2
  exact ⟨rfl, gaveS_none HG.out rfl HAL.out⟩
end Go.Proofs.YtgociheckcpjkaaGreatDoor.kind
namespace Go.Proofs.YtgociheckcpjkaaGreatDoor.kind
open Go.RowKit
open words kindp word rdr
set_option maxRecDepth 100000
set_option maxHeartbeats 1600000
theorem idle_s (g : Nat) (w : World) :
    CallsD Tryz.prog 136 #[.pointer (some ⟨g, 0, none⟩)] .returning w fun e u' w' => e = .returned (.tuple #[]) ∧ u' = .returning ∧ w' = w := by
  refine callsD_of_wpS Tryz.func136 rfl fun c₀ cs hu => ?_
  simp only [Tryz.ntmps136, List.size_toArray, List.length_cons, List.length_nil, Nat.reduceAdd, Nat.reduceSub, Array.replicate_succ,
     Array.replicate_zero, List.push_toArray, List.append_toArray, List.nil_append, List.cons_append]
  apply wpS_seq
  apply wpS_region
  simp [wpOpsS, go_sem, recoverD, hu, Exit.thenS]
  refine wpS_of_wp ?_
  have hnn : ∀ w : World, (binOp .eql 20 .nilIface .nilIface).run Tryz.prog w = .ok (.bool true) w := fun _ => by kernel_rfl
  go_wp2
  cases c₀
  simp only at hu
  subst hu
  exact ⟨rfl, _, rfl, _, results_none rfl _ _ _, rfl, rfl, rfl⟩
theorem catch_s (g : Nat) (w : World) (t : TypeId) (hg : w.heap[g]? = some (.cells #[.int .i64 0] t (0, 0))) :
    CallsD Tryz.prog 136 #[.pointer (some ⟨g, 0, none⟩)] (.panicking [{ v := noV, recovered := false }]) w (Caught g t w) := by
  refine callsD_of_wpS Tryz.func136 rfl fun c₀ cs hu => ?_
  simp only [Tryz.ntmps136, List.size_toArray, List.length_cons, List.length_nil, Nat.reduceAdd, Nat.reduceSub, Array.replicate_succ,
     Array.replicate_zero, List.push_toArray, List.append_toArray, List.nil_append, List.cons_append]
  apply wpS_seq
  apply wpS_region
  simp [wpOpsS, go_sem, recoverD, hu, Exit.thenS]
  refine wpS_of_wp ?_
  unfold noV
  have hta : ∀ (v : Value) (w : World), (Instr.typeAssert (.iface 153 v) 20 153 true).run Tryz.prog w = .ok (.tuple #[v, .bool true]) w := fun _ _ => by kernel_rfl
  have hnn : ∀ (v : Value) (w : World), (binOp .eql 20 (.iface 153 v) .nilIface).run Tryz.prog w = .ok (.bool false) w := fun _ _ => by kernel_rfl
  have c0 : w.cell? ⟨g, 0, none⟩ = some (.int .i64 0) := cell_of_row w g 0 _ _ _ hg
  have f0 := frozen_of_row w g 0 _ _ hg
  have hlt := blk_lt hg
  have HA := hh (caught_at (u := 153) hg)
  have HA2 := hh (caught_at2 (u := 153) hg)
  clear hg
  go_wp2
  cases c₀
  exact ⟨rfl, _, rfl, _, results_none rfl _ _ _, rfl, rfl, by first | exact HA.out.1 | exact HA2.out.1, by first | exact HA.out.2 | exact HA2.out.2⟩
def outS (q : Option (List Ty × Ty)) : List Ty × Ty × Nat := match q with | some (p, t) => (p, t, 0) | none => ([], (0, []), 1)
def ReadS (x : List Ty × Ty × Nat) (w : World) (e : Ending) (w' : World) : Prop :=
  (∃ A c, e = .returned (.tuple #[.agg #[.slice A x.1.length c, .int .i64 x.2.1.1, .string ⟨x.2.1.2.toArray⟩], .int .i64 (x.2.2 : Int)]) ∧ w'.ownsRow w.heap.size 56 2 (.slice A x.1.length c) x.1.length (TL x.1)) ∧ Below w.heap.size w w'
theorem read_s (q : Option (List Ty × Ty)) (K : Nat) (fi ca : Array Value) (w : World)
    (hcf : ∀ (args : Array Value) (w : World), (callFunc K args).run Tryz.prog w = .ok (.enter K args) w) (hk : ∀ w1, Below w.heap.size w w1 → Calls Tryz.prog K (fi ++ ca) w1 (GaveS q w1)) :
    Calls Tryz.prog 126 #[.func (.func K) fi ca] w (ReadS (outS q) w) := by
  have hmf : ∀ (fn : Fn) (first cap : Array Value) (w : World), (Instr.makeFunc fn first cap).run Tryz.prog w = .ok (.func fn first cap) w := fun _ _ _ _ => rfl
  have hal : Below w.heap.size w ((w.alloc (.cells #[.slice none 0 0, .int .i64 0, .string ⟨#[]⟩] 141)).alloc (.cells #[.int .i64 0] 44)) := ((Below.refl _ _).alloc (Nat.le_refl _) _).alloc (by simp) _
  have HK := hh (hk _ hal)
  have HAL := hh hal
  clear hk hal
  cases q with
  | none =>
    go_enter_defers Tryz.func126, Tryz.ntmps126
    go_wp2_with fail
    refine HK.out.mono ?_
    rintro e w1 ⟨rfl, hb1⟩
    have hg0 := (hb1.block (w.heap.size) (by simp; omega)).trans (two_new w _ _).1
    have hg := (hb1.block (w.heap.size + 1) (by simp)).trans (two_new w _ _).2
    have HB := hh (HAL.out.trans (hb1.mono (by simp; omega)))
    have HG0 := hh hg0; have HG := hh hg
    clear hg hg0 hb1
    show Leaves _ _ _ _ _ _ _
    refine leaves_cons (f := 136) (args := #[.pointer (some ⟨w.heap.size + 1, 0, none⟩)]) (by simp) (by simp [go_sem]) ?_
    refine (catch_s (w.heap.size + 1) _ _ HG.out).mono ?_
    rintro e u' w2 ⟨rfl, rfl, hg2, hbt⟩
    have hg3 := (hbt.block _ (blk_lt HG0.out) (fun e => absurd (Option.some.inj e) (by omega))).trans HG0.out
    have c0 : w2.cell? ⟨w.heap.size, 0, none⟩ = some (.slice none 0 0) := cell_of_row _ _ _ _ _ _ hg3
    have c1 : w2.cell? ⟨w.heap.size, 1, none⟩ = some (.int .i64 0) := cell_of_row _ _ _ _ _ _ hg3
    have c3 : w2.cell? ⟨w.heap.size, 2, none⟩ = some (.string ⟨#[]⟩) := cell_of_row _ _ _ _ _ _ hg3
    have c2 : w2.cell? ⟨w.heap.size + 1, 0, none⟩ = some (.int .i64 1) := cell_of_row _ _ _ _ _ _ hg2
    exact ⟨.tuple #[.agg #[.slice none 0 0, .int .i64 0, .string ⟨#[]⟩], .int .i64 1], by simp [results, Tryz.results126, go_sem, c0, c1, c2, c3], ⟨none, 0, rfl, World.ownsRow_nil _ _ _ _⟩, HB.out.trans (hbt.below (by omega) HB.out.size)⟩
  | some pt =>
    obtain ⟨p, ⟨k, c⟩⟩ := pt
    go_enter_defers Tryz.func126, Tryz.ntmps126
    go_wp2_with fail
    refine HK.out.mono ?_
    rintro e w1 ⟨⟨v, rfl, hown⟩, hb1⟩
    obtain ⟨A, cc, rfl, _, _, _⟩ := own_rd hown
    dsimp only
    have hg0 := (hb1.block (w.heap.size) (by simp; omega)).trans (two_new w _ _).1
    have hg := (hb1.block (w.heap.size + 1) (by simp)).trans (two_new w _ _).2
    have c0 : w1.cell? ⟨w.heap.size, 0, none⟩ = some (.slice none 0 0) := cell_of_row _ _ _ _ _ _ hg0
    have c1 : w1.cell? ⟨w.heap.size, 1, none⟩ = some (.int .i64 0) := cell_of_row _ _ _ _ _ _ hg0
    have c3 : w1.cell? ⟨w.heap.size, 2, none⟩ = some (.string ⟨#[]⟩) := cell_of_row _ _ _ _ _ _ hg0
    have c2 : w1.cell? ⟨w.heap.size + 1, 0, none⟩ = some (.int .i64 0) := cell_of_row _ _ _ _ _ _ hg
    have f0 := frozen_of_row w1 _ 0 _ _ hg0
    have f1 := frozen_of_row w1 _ 1 _ _ hg0
    have f3 := frozen_of_row w1 _ 2 _ _ hg0
    have f2 := frozen_of_row w1 _ 0 _ _ hg
    have HB := hh (HAL.out.trans (hb1.mono (by simp; omega)))
    have HG0 := hh hg0; have HG := hh hg
    obtain ⟨z0, z1, z3⟩ := three_set HG0.out (.slice A p.length cc) (.int .i64 k) (.string ⟨c.toArray⟩)
    rw [show ((w.alloc (.cells #[.slice none 0 0, .int .i64 0, .string ⟨#[]⟩] 141)).alloc (.cells #[.int .i64 0] 44)).heap.size = w.heap.size + 2 by simp] at hown
    have HO := hh (own_base (own_but (own_but hown (b := w.heap.size) (by omega) ((((But.refl w.heap.size w1).set 0 (.slice A p.length cc)).set 1 (.int .i64 k)).set 2 (.string ⟨c.toArray⟩))) (b := w.heap.size + 1) (by omega) ((But.refl (w.heap.size + 1) _).set 0 (.int .i64 0))) (base' := w.heap.size) (by omega))
    clear hg hg0 hb1 hown
    go_wp2
    refine leaves_cons (f := 136) (args := #[.pointer (some ⟨w.heap.size + 1, 0, none⟩)]) (by simp) (by simp [go_sem]) ?_
    refine (idle_s _ _).mono ?_
    rintro e u' w2 ⟨rfl, rfl, rfl⟩
    exact ⟨.tuple #[.agg #[.slice A p.length cc, .int .i64 k, .string ⟨c.toArray⟩], .int .i64 0], by simp [results, Tryz.results126, go_sem, c2, z0, z1, z3], ⟨A, cc, rfl, HO.out⟩, (((HB.out.setCell (by simp) _).setCell (by simp) _).setCell (by simp) _).setCell (by simp) _⟩
theorem clo_s (g : Nat) (s : Tx) (w : World) (hs : s.length ≤ 65536) (hm : Mx w) (hv : Vd w) (hg : w.cell? ⟨g, 0, none⟩ = some (.string ⟨s.toArray⟩)) :
    Calls Tryz.prog 127 #[.pointer (some ⟨g, 0, none⟩)] w (GaveS (sigD s) w) := by
  have hal : Below w.heap.size w (w.alloc (.cells #[.slice none 0 0, .int .i64 0, .string ⟨#[]⟩] 141)) := (Below.refl _ _).alloc (Nat.le_refl _) _
  have hg2 := (hal.cell (World.block_lt_of_cell? _ _ hg)).trans hg
  have HK := hh (sig_w s _ hs (hm.below hal) (hv.below hal))
  have HAL := hh hal
  cases h : sigD s with
  | none =>
    rw [h] at HK
    clear h hs hm hv hal
    go_enter Tryz.func127, Tryz.ntmps127
    go_wp2_with fail
    refine HK.out.mono ?_
    rintro e w1 ⟨rfl, hb1⟩
    exact ⟨rfl, gaveS_none rfl rfl (HAL.out.trans (hb1.mono (by simp)))⟩
  | some pt =>
    obtain ⟨p, ⟨k, c⟩⟩ := pt
    rw [h] at HK
    clear h hs hm hv hal
    go_enter Tryz.func127, Tryz.ntmps127
    go_wp2_with fail
    refine HK.out.mono ?_
    rintro e w1 ⟨⟨v, rfl, hown⟩, hb1⟩
    obtain ⟨A, cc, rfl, _, _, _⟩ := own_rd hown
    dsimp only
    have hce := (hb1.block w.heap.size (by simp)).trans (heap_alloc_new w _)
    obtain ⟨z0, z1, z2⟩ := three_set hce (.slice A p.length cc) (.int .i64 k) (.string ⟨c.toArray⟩)
    have c0 : w1.cell? ⟨w.heap.size, 0, none⟩ = some (.slice none 0 0) := cell_of_row _ _ _ _ _ _ hce
    have c1 : w1.cell? ⟨w.heap.size, 1, none⟩ = some (.int .i64 0) := cell_of_row _ _ _ _ _ _ hce
    have c2 : w1.cell? ⟨w.heap.size, 2, none⟩ = some (.string ⟨#[]⟩) := cell_of_row _ _ _ _ _ _ hce
    have f0 := frozen_of_row w1 _ 0 _ _ hce
    have f1 := frozen_of_row w1 _ 1 _ _ hce
    have f2 := frozen_of_row w1 _ 2 _ _ hce
    have HB := hh (HAL.out.trans (hb1.mono (by simp)))
    rw [show (w.alloc (.cells #[.slice none 0 0, .int .i64 0, .string ⟨#[]⟩] 141)).heap.size = w.heap.size + 1 by simp] at hown
    have HO := hh (own_base (own_but hown (b := w.heap.size) (by omega) ((((But.refl w.heap.size w1).set 0 (.slice A p.length cc)).set 1 (.int .i64 k)).set 2 (.string ⟨c.toArray⟩))) (base' := w.heap.size) (by omega))
    clear hb1 hce hown
    go_wp2
    exact bodyPost_ret (v := .agg #[.slice A p.length cc, .int .i64 k, .string ⟨c.toArray⟩]) (by simp [results, Tryz.results127, go_sem, z0, z1, z2]) rfl (gaveS_some rfl _ rfl HO.out (((HB.out.setCell (by simp) _).setCell (by simp) _).setCell (by simp) _))
def SplitW (d : Tx) (w : World) (e : Ending) (w' : World) : Prop :=
  (∃ A c, e = .returned (.tuple #[.slice A (splitT d).1.length c, .agg #[.int .i64 (splitT d).2.1.1, .string ⟨(splitT d).2.1.2.toArray⟩], .int .i64 ((splitT d).2.2 : Int)]) ∧ w'.ownsRow w.heap.size 56 2 (.slice A (splitT d).1.length c) (splitT d).1.length (TL (splitT d).1)) ∧ Below w.heap.size w w'
theorem splitW_of {d : Tx} {p : List Ty} {t : Ty} {n : Nat} {w w' : World} {e : Ending} (h : splitT d = (p, t, n)) (A : Option Addr) (c : Nat) (he : e = .returned (.tuple #[.slice A p.length c, .agg #[.int .i64 t.1, .string ⟨t.2.toArray⟩], .int .i64 (n : Int)])) (ho : w'.ownsRow w.heap.size 56 2 (.slice A p.length c) p.length (TL p)) (hb : Below w.heap.size w w') : SplitW d w e w' := by
  unfold SplitW; rw [h]; exact ⟨⟨A, c, he, ho⟩, hb⟩
theorem split_out {d : Tx} (h : ¬ 64 < d.length) : splitT d = if 8 < (outS (sigD d)).1.length then ([], (0, []), 3) else outS (sigD d) := by
  unfold splitT
  rw [if_neg h]
  cases sigD d with
  | none => rfl
  | some q => rfl
theorem split_k (s : Tx) (w : World) (hs : s.length ≤ 65536) (hm : Mx w) (hv : Vd w) :
    Calls Tryz.prog 111 #[.string ⟨s.toArray⟩] w (SplitW s w) := by
  have hmf : ∀ (fn : Fn) (first cap : Array Value) (w : World), (Instr.makeFunc fn first cap).run Tryz.prog w = .ok (.func fn first cap) w := fun _ _ _ _ => rfl
  have hal : Below w.heap.size w ((w.alloc (.cells #[.string ⟨s.toArray⟩] 9)).alloc (.cells #[.int .i64 0, .string ⟨#[]⟩] 56)) := ((Below.refl _ _).alloc (Nat.le_refl _) _).alloc (by simp) _
  have HAL := hh hal
  by_cases h64 : 64 < s.length
  · have hI : (64 : Int) < (s.length : Int) := by omega
    have HS := hh (show splitT s = ([], (0, []), 3) by unfold splitT; rw [if_pos h64])
    clear hal hs hm hv h64
    go_enter Tryz.func111, Tryz.ntmps111
    go_wp2
    exact bodyPost_ret (v := .tuple #[.slice none 0 0, .agg #[.int .i64 0, .string ⟨#[]⟩], .int .i64 3]) (by simp [results, Tryz.results111, go_sem]) rfl (splitW_of HS.out none 0 rfl (World.ownsRow_nil _ _ _ _) HAL.out)
  · have hI : ¬ (64 : Int) < (s.length : Int) := by omega
    have hg : ((w.alloc (.cells #[.string ⟨s.toArray⟩] 9)).alloc (.cells #[.int .i64 0, .string ⟨#[]⟩] 56)).cell? ⟨w.heap.size, 0, none⟩ = some (.string ⟨s.toArray⟩) := cell_of_row _ _ _ _ _ _ (two_new w _ _).1
    have hr := read_s (sigD s) 127 #[] #[.pointer (some ⟨w.heap.size, 0, none⟩)] _ (fun _ _ => rfl) (fun w1 hb => clo_s w.heap.size s w1 hs ((hm.below hal).below hb) ((hv.below hal).below hb) ((hb.cell (World.block_lt_of_cell? _ _ hg)).trans hg))
    have HG := hh (two_new w (.cells #[.string ⟨s.toArray⟩] 9) (.cells #[.int .i64 0, .string ⟨#[]⟩] 56)).2
    have hsp := split_out h64
    obtain ⟨x, hx⟩ : ∃ x, x = outS (sigD s) := ⟨_, rfl⟩
    rw [← hx] at hr hsp
    obtain ⟨p, ⟨k, c⟩, n⟩ := x
    unfold ReadS at hr
    dsimp only at hr hsp
    have HR := hh hr
    clear hr hg hal hs hm hv hx h64
    by_cases h8 : 8 < p.length
    · have h8I : (8 : Int) < (p.length : Int) := by omega
      rw [if_pos h8] at hsp
      have HS := hh hsp
      clear hsp h8
      go_enter Tryz.func111, Tryz.ntmps111
      go_wp2_with fail
      refine HR.out.mono ?_
      rintro e w1 ⟨⟨A, cc, rfl, hown⟩, hb1⟩
      have hce := (hb1.block (w.heap.size + 1) (by simp)).trans HG.out
      have c0 : w1.cell? ⟨w.heap.size + 1, 0, none⟩ = some (.int .i64 0) := cell_of_row _ _ _ _ _ _ hce
      have c1 : w1.cell? ⟨w.heap.size + 1, 1, none⟩ = some (.string ⟨#[]⟩) := cell_of_row _ _ _ _ _ _ hce
      have f0 := frozen_of_row w1 _ 0 _ _ hce
      have f1 := frozen_of_row w1 _ 1 _ _ hce
      have hlt := blk_lt hce
      have HB := hh (HAL.out.trans (hb1.mono (by simp; omega)))
      obtain ⟨z0, z1⟩ := two_alloc hce (.int .i64 0) (.string ⟨#[]⟩) (.cells #[.slice A p.length cc, .int .i64 k, .string ⟨c.toArray⟩] 141)
      clear hb1 hce hown
      go_wp2
      exact bodyPost_ret (v := .tuple #[.slice none 0 0, .agg #[.int .i64 0, .string ⟨#[]⟩], .int .i64 3]) (by simp [results, Tryz.results111, go_sem, z0, z1]) rfl (splitW_of HS.out none 0 rfl (World.ownsRow_nil _ _ _ _) (((HB.out.setCell (by simp) _).setCell (by simp) _).alloc (by simp; omega) _))
    · have h8I : ¬ (8 : Int) < (p.length : Int) := by omega
      rw [if_neg h8] at hsp
      have HS := hh hsp
      clear hsp h8
      go_enter Tryz.func111, Tryz.ntmps111
      go_wp2_with fail
      refine HR.out.mono ?_
      rintro e w1 ⟨⟨A, cc, rfl, hown⟩, hb1⟩
      have hce := (hb1.block (w.heap.size + 1) (by simp)).trans HG.out
      have c0 : w1.cell? ⟨w.heap.size + 1, 0, none⟩ = some (.int .i64 0) := cell_of_row _ _ _ _ _ _ hce
      have c1 : w1.cell? ⟨w.heap.size + 1, 1, none⟩ = some (.string ⟨#[]⟩) := cell_of_row _ _ _ _ _ _ hce
      have f0 := frozen_of_row w1 _ 0 _ _ hce
      have f1 := frozen_of_row w1 _ 1 _ _ hce
      have hlt := blk_lt hce
      have HB := hh (HAL.out.trans (hb1.mono (by simp; omega)))
      have HO := hh hown
      have HCE := hh hce
      clear hb1 hce hown c0 c1 f0 f1
      go_wp2
      have hW := hh ((Below.refl w1.heap.size w1).alloc (Nat.le_refl _) (.cells #[.slice A p.length cc, .int .i64 k, .string ⟨c.toArray⟩] 141))
      have hn5 := heap_alloc_new w1 (.cells #[.slice A p.length cc, .int .i64 k, .string ⟨c.toArray⟩] 141)
      have hce := (hW.out.block _ hlt).trans HCE.out
      have HOW := hh (own_below HO.out hW.out)
      have HBW := hh (HB.out.trans (hW.out.mono HB.out.size))
      generalize hgW : w1.alloc (.cells #[.slice A p.length cc, .int .i64 k, .string ⟨c.toArray⟩] 141) = W at *
      have d0 : W.cell? ⟨w1.heap.size, 0, none⟩ = some (.slice A p.length cc) := cell_of_row _ _ _ _ _ _ hn5
      have d1 : W.cell? ⟨w1.heap.size, 1, none⟩ = some (.int .i64 k) := cell_of_row _ _ _ _ _ _ hn5
      have d2 : W.cell? ⟨w1.heap.size, 2, none⟩ = some (.string ⟨c.toArray⟩) := cell_of_row _ _ _ _ _ _ hn5
      have c0 : W.cell? ⟨w.heap.size + 1, 0, none⟩ = some (.int .i64 0) := cell_of_row _ _ _ _ _ _ hce
      have c1 : W.cell? ⟨w.heap.size + 1, 1, none⟩ = some (.string ⟨#[]⟩) := cell_of_row _ _ _ _ _ _ hce
      have f0 := frozen_of_row W _ 0 _ _ hce
      have f1 := frozen_of_row W _ 1 _ _ hce
      have hne : ¬ w1.heap.size = w.heap.size + 1 := by omega
      have hne' : ¬ w.heap.size + 1 = w1.heap.size := by omega
      obtain ⟨z0, z1, -⟩ := two_set hce (.int .i64 k) (.string ⟨c.toArray⟩)
      have HZ0 := hh z0; have HZ1 := hh z1
      clear hgW hn5 hce hlt hW z0 z1
      generalize w1.heap.size = g at *
      rw [show ((w.alloc (.cells #[.string ⟨s.toArray⟩] 9)).alloc (.cells #[.int .i64 0, .string ⟨#[]⟩] 56)).heap.size = w.heap.size + 2 by simp] at HOW
      have HO3 := hh (own_base (own_but HOW.out (b := w.heap.size + 1) (by omega) (((But.refl (w.heap.size + 1) W).set 0 (.int .i64 k)).set 1 (.string ⟨c.toArray⟩))) (base' := w.heap.size) (by omega))
      have HB3 := hh ((HBW.out.setCell (p := ⟨w.heap.size + 1, 0, none⟩) (by simp) (.int .i64 k)).setCell (p := ⟨w.heap.size + 1, 1, none⟩) (by simp) (.string ⟨c.toArray⟩))
      go_region
      have z0 := HZ0.out; have z1 := HZ1.out
      go_wp2
      exact bodyPost_ret (v := .tuple #[.slice A p.length cc, .agg #[.int .i64 k, .string ⟨c.toArray⟩], .int .i64 (n : Int)]) (by simp [results, Tryz.results111, go_sem, z0, z1]) rfl (splitW_of HS.out A cc rfl HO3.out (over (q := 1) HB3.out))
end Go.Proofs.YtgociheckcpjkaaGreatDoor.kind

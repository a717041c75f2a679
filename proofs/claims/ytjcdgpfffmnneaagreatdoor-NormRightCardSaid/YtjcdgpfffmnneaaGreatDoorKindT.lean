/-
 Layer 6: the type that stands first in a text, and what stands behind it: the program's answer.
-/
import Derived.Test.YtjcdgpfffmnneaaGreatDoorKindE
namespace Go.Proofs.YtjcdgpfffmnneaaGreatDoor.kind
open Go.RowKit
open words kindp word

theorem trim_at {s p : Tx} (h : Lib.hasPrefix s p = true) : Lib.trimPrefix s p = s.drop p.length := by unfold Lib.trimPrefix; rw [if_pos h]
theorem pre_one {c : UInt8} {s : Tx} (h : Lib.hasPrefix s [c] = true) : ∃ r, s = c :: r := by
 unfold Lib.hasPrefix at h
 cases s with
 | nil => simp [List.isPrefixOf] at h
 | cons x r => simp [List.isPrefixOf] at h; exact ⟨r, by rw [h]⟩
theorem pre_two {c d : UInt8} {s : Tx} (h : Lib.hasPrefix s [c, d] = true) : ∃ r, s = c :: d :: r := by
 unfold Lib.hasPrefix at h
 cases s with
 | nil => simp [List.isPrefixOf] at h
 | cons x r =>
  cases r with
  | nil => simp [List.isPrefixOf] at h
  | cons y q => simp [List.isPrefixOf] at h; exact ⟨q, by rw [h.1, h.2]⟩
/-- the kind whose text stands first tells the type -/
theorem type_at {k : Int} {s : Tx} (h1 : 1 ≤ k) (h2 : k ≤ 5) (hp : Lib.hasPrefix s (signL k) = true) :
  typeT s = if hasB k = true then classT k (Lib.trimPrefix s (signL k)) else some ((k, []), Lib.trimPrefix s (signL k)) := by
 rw [trim_at hp]
 have hk : k = 1 ∨ k = 2 ∨ k = 3 ∨ k = 4 ∨ k = 5 := by omega
 rcases hk with rfl | rfl | rfl | rfl | rfl
 ·obtain ⟨r, rfl⟩ := pre_one hp; rfl
 ·obtain ⟨r, rfl⟩ := pre_one hp; rfl
 ·obtain ⟨r, rfl⟩ := pre_one hp; rfl
 ·obtain ⟨r, rfl⟩ := pre_two hp; rfl
 ·obtain ⟨r, rfl⟩ := pre_two hp; rfl
theorem type_miss {s : Tx} (h : ∀ j : Int, 1 ≤ j → j < 6 → Lib.hasPrefix s (signL j) = false) : typeT s = none := by
 cases s with
 | nil => rfl
 | cons c r =>
  have g1 := h 1 (by decide) (by decide); have g2 := h 2 (by decide) (by decide); have g3 := h 3 (by decide) (by decide); have g4 := h 4 (by decide) (by decide); have g5 := h 5 (by decide) (by decide)
  rw [show signL 1 = [86] from rfl] at g1
  rw [show signL 2 = [73] from rfl] at g2
  rw [show signL 3 = [76] from rfl] at g3
  rw [show signL 4 = [91, 73] from rfl] at g4
  rw [show signL 5 = [91, 76] from rfl] at g5
  unfold Lib.hasPrefix at g1 g2 g3 g4 g5
  dsimp only [typeT]
  rw [if_neg (by rintro rfl; simp [List.isPrefixOf] at g1), if_neg (by rintro rfl; simp [List.isPrefixOf] at g2), if_neg (by rintro rfl; simp [List.isPrefixOf] at g3)]
  by_cases h4 : c = 91
  ·subst h4
   rw [if_pos rfl]
   cases r with
   | nil => rfl
   | cons d q =>
    dsimp only
    rw [if_neg (by rintro rfl; simp [List.isPrefixOf] at g4), if_neg (by rintro rfl; simp [List.isPrefixOf] at g5)]
  ·rw [if_neg h4]
/-- what takeType does -/
def Took (s : Tx) (w : World) (e : Ending) (w' : World) : Prop :=
 (match typeT s with
  | some (t, r) => e = .returned (.tuple #[tyV t, .string ⟨r.toArray⟩])
  | none => e = .panicked [{ v := noV, recovered := false }]) ∧ Below w.heap.size w w'
theorem took_some {s r : Tx} {t : Ty} {w w' : World} {e : Ending} (h : typeT s = some (t, r)) (he : e = .returned (.tuple #[tyV t, .string ⟨r.toArray⟩])) (hb : Below w.heap.size w w') : Took s w e w' := by
 unfold Took; rw [h]; exact ⟨he, hb⟩
theorem took_none {s : Tx} {w w' : World} {e : Ending} (h : typeT s = none) (he : e = .panicked [{ v := noV, recovered := false }]) (hb : Below w.heap.size w w') : Took s w e w' := by
 unfold Took; rw [h]; exact ⟨he, hb⟩
theorem bcell {W w1 : World} (hb : Below W.heap.size W w1) : (∀ b o, b < W.heap.size → w1.cell? ⟨b, o, none⟩ = W.cell? ⟨b, o, none⟩) ∧ (∀ b o, b < W.heap.size → w1.frozen? ⟨b, o, none⟩ = W.frozen? ⟨b, o, none⟩) :=
 ⟨fun b o h => hb.cell (p := ⟨b, o, none⟩) h, fun b o h => hb.frozen (p := ⟨b, o, none⟩) h⟩

/-- two cells that are set -/
theorem two_set {w : World} {g : Nat} {a b : Value} {t : TypeId} (h : w.heap[g]? = some (.cells #[a, b] t (0, 0))) (x y : Value) :
  (w.setCell ⟨g, 0, none⟩ x).cell? ⟨g, 0, none⟩ = some x ∧ ((w.setCell ⟨g, 0, none⟩ x).setCell ⟨g, 1, none⟩ y).cell? ⟨g, 1, none⟩ = some y ∧ ((w.setCell ⟨g, 0, none⟩ x).setCell ⟨g, 1, none⟩ y).heap[g]? = some (.cells #[x, y] t (0, 0)) := by
 have h1 := heap_setCell_same w g 0 _ _ x h
 have h2 := heap_setCell_same _ g 1 _ _ y h1
 refine ⟨?_, ?_, h2⟩
 ·rw [cell_of_row _ _ _ _ _ _ h1]; rfl
 ·rw [cell_of_row _ _ _ _ _ _ h2]; rfl

set_option maxRecDepth 100000 in
set_option maxHeartbeats 1600000 in
theorem type_w (s : Tx) (w : World) (hs : s.length < 4294967281) (hm : Mx w) :
  Calls Tryz.prog 148 #[.string ⟨s.toArray⟩] w (Took s w) := by
 have hp : ∀ (t : TypeId) (v : Value) (w : World), (Instr.panic (.iface t v)).run Tryz.prog w = .halt (.panic (.iface t v)) w := fun _ _ _ => rfl
 have HM := Lib.hid hm
 have HS := Lib.hid hs
 clear hm hs
 go_enter Tryz.func148, Tryz.ntmps148
 go_wp2
 go_loopw [4] (fun i wr => ∃ k : Int, i = .int .i64 k ∧ 1 ≤ k ∧ k ≤ 6 ∧ (∀ j : Int, 1 ≤ j → j < k → Lib.hasPrefix s (signL j) = false) ∧ wr.heap[w.heap.size]? = some (.cells #[.int .i64 0, .string ⟨#[]⟩] 61 (0, 0)) ∧ Below w.heap.size w wr) (fun i _ => (6 - intOf i).toNat)
 case atStart => exact ⟨1, rfl, by decide, by decide, fun j h1 h2 => by omega, heap_alloc_new w _, (Below.refl _ _).alloc (Nat.le_refl _) _⟩
 case round =>
  obtain ⟨k, rfl, hk1, hk6, hmiss, hcell, hbw⟩ := hrel
  have c20 : wr.cell? ⟨w.heap.size, 0, none⟩ = some (.int .i64 0) := cell_of_row wr _ 0 _ _ _ hcell
  have c21 : wr.cell? ⟨w.heap.size, 1, none⟩ = some (.string ⟨#[]⟩) := cell_of_row wr _ 1 _ _ _ hcell
  have f20 := frozen_of_row wr _ 0 _ _ hcell
  have f21 := frozen_of_row wr _ 1 _ _ hcell
  have hgl := blk_lt hcell
  have HMS := Lib.hid hmiss; have HCE := Lib.hid hcell; have HB := Lib.hid hbw
  clear hmiss hcell hbw
  by_cases hk : k ≤ 5
  ·have HSG := Lib.hid (fun w => sign_w k w)
   have hPW := (fun w => prefix_w s (signL k) w)
   cases hpx : Lib.hasPrefix s (signL k) with
   | false =>
    rw [hpx] at hPW
    have HPW := Lib.hid hPW; clear hPW
    have HNX := Lib.hid (show ∀ j : Int, 1 ≤ j → j < k + 1 → Lib.hasPrefix s (signL j) = false from fun j h1 h2 => by
     by_cases hj : j = k
     ·rw [hj]; exact hpx
     ·exact HMS.out j h1 (by omega))
    clear hpx c20 c21 f20 f21
    go_wp2_with fail
    refine (HSG.out _).mono ?_
    rintro e w1 ⟨rfl, rfl⟩
    go_wp2_with fail
    refine (HPW.out _).mono ?_
    rintro e w1 ⟨rfl, rfl⟩
    go_wp2
    go_roundw
    case rel => exact ⟨k + 1, rfl, by omega, by omega, HNX.out, HCE.out, HB.out⟩
    case measure => simp [intOf]; omega
   | true =>
    have htp := type_at hk1 hk hpx
    rw [hpx] at hPW
    have htl : (Lib.trimPrefix s (signL k)).length < 4294967281 := Nat.lt_of_le_of_lt (Lib.trimPrefix_le s (signL k)) HS.out
    obtain ⟨q, hq⟩ : ∃ q, q = Lib.trimPrefix s (signL k) := ⟨_, rfl⟩
    rw [← hq] at htp htl hPW
    have HPW := Lib.hid hPW; clear hPW
    have hHW := (fun w => has_w k [] w)
    cases hb : hasB k with
    | false =>
     rw [hb] at htp hHW
     rw [if_neg (by simp)] at htp
     have HT := Lib.hid htp; have HHW := Lib.hid hHW; clear hHW
     clear hpx htp hq htl hb
     go_wp2_with fail
     refine (HSG.out _).mono ?_
     rintro e w1 ⟨rfl, rfl⟩
     go_wp2_with fail
     refine (HPW.out _).mono ?_
     rintro e w1 ⟨rfl, rfl⟩
     go_wp2_with fail
     refine (HHW.out _).mono ?_
     rintro e w2 ⟨rfl, hb2⟩
     obtain ⟨hc, hf⟩ := bcell hb2
     have hal : Below w1.heap.size w1 (w1.alloc (.cells #[.int .i64 k, .string ⟨#[]⟩] 61)) := (Below.refl _ _).alloc (Nat.le_refl _) _
     have hce2 := ((hal.trans (hb2.mono (Nat.le_of_lt (by simp)))).block _ hgl).trans HCE.out
     have HB2 := Lib.hid (HB.out.trans ((hal.trans (hb2.mono (Nat.le_of_lt (by simp)))).mono (by omega)))
     obtain ⟨z0, z1, -⟩ := two_set hce2 (.int .i64 k) (.string ⟨#[]⟩)
     clear hb2 hal hce2
     go_wp2
     exact bodyPost_ret (v := .tuple #[.agg #[.int .i64 k, .string ⟨#[]⟩], .string ⟨q.toArray⟩]) (by simp [results, Tryz.results148, go_sem, z0, z1]) rfl (took_some HT.out rfl ((HB2.out.setCell (by simp) _).setCell (by simp) _))
    | true =>
     rw [hb] at htp hHW
     rw [if_pos rfl] at htp
     have HHW := Lib.hid hHW; clear hHW
     by_cases hcl : ((Lib.cut q [59]).2.2 && clsB (Lib.cut q [59]).1) = true
     ·obtain ⟨a, b, hab, hca⟩ : ∃ a b, Lib.cut q [59] = (a, b, true) ∧ clsB a = true := by
       rw [Bool.and_eq_true] at hcl
       exact ⟨_, _, Prod.ext rfl (Prod.ext rfl hcl.1), hcl.2⟩
      have hty : typeT s = some ((k, a), b) := by rw [htp]; unfold classT; rw [if_pos hcl, hab]
      have HT := Lib.hid hty
      have HCL := Lib.hid (fun w hm => class_ok q a b w htl hm hab hca)
      clear hpx htp hq htl hb hcl hab hca hty
      go_wp2_with fail
      refine (HSG.out _).mono ?_
      rintro e w1 ⟨rfl, rfl⟩
      go_wp2_with fail
      refine (HPW.out _).mono ?_
      rintro e w1 ⟨rfl, rfl⟩
      go_wp2_with fail
      refine (HHW.out _).mono ?_
      rintro e w2 ⟨rfl, hb2⟩
      obtain ⟨hc, hf⟩ := bcell hb2
      have hal : Below w1.heap.size w1 (w1.alloc (.cells #[.int .i64 k, .string ⟨#[]⟩] 61)) := (Below.refl _ _).alloc (Nat.le_refl _) _
      have hce2 := ((hal.trans (hb2.mono (Nat.le_of_lt (by simp)))).block _ hgl).trans HCE.out
      have HB2 := Lib.hid (HB.out.trans ((hal.trans (hb2.mono (Nat.le_of_lt (by simp)))).mono (by omega)))
      have hlt2 := blk_lt hce2
      have hce3 := fun n => ((Lib.grownBy_setCell (w2.drewN n) w1.heap.size 1 (.string ⟨a.toArray⟩)).block w.heap.size hlt2 (fun e => absurd (Option.some.inj e) (by omega))).trans hce2
      have hz := fun n => two_set (hce3 n) (.int .i64 k) (.string ⟨a.toArray⟩)
      have HZ := Lib.hid hz
      have HM2 := Lib.hid (HM.out.below HB2.out)
      have hh1 : w1.heap.size < w2.heap.size := by have := hb2.size; simp at this; omega
      clear hb2 hal hce2 hce3 hz
      go_wp2_with fail
      refine (HCL.out _ HM2.out).mono ?_
      rintro e w3 ⟨rfl, n, rfl⟩
      obtain ⟨z0, z1, -⟩ := HZ.out n
      go_wp2
      exact bodyPost_ret (v := .tuple #[.agg #[.int .i64 k, .string ⟨a.toArray⟩], .string ⟨b.toArray⟩]) (by simp [results, Tryz.results148, go_sem, z0, z1]) rfl (took_some HT.out rfl ((((over HB2.out).setCell (Nat.le_of_lt hgl) _).setCell (by simp) _).setCell (by simp) _))
     ·have hty : typeT s = none := by rw [htp]; unfold classT; rw [if_neg hcl]
      have HT := Lib.hid hty
      have HCL := Lib.hid (fun w hm => class_no q w htl hm (by simpa using hcl))
      clear hpx htp hq htl hb hcl hty
      go_wp2_with fail
      refine (HSG.out _).mono ?_
      rintro e w1 ⟨rfl, rfl⟩
      go_wp2_with fail
      refine (HPW.out _).mono ?_
      rintro e w1 ⟨rfl, rfl⟩
      go_wp2_with fail
      refine (HHW.out _).mono ?_
      rintro e w2 ⟨rfl, hb2⟩
      have hal : Below w1.heap.size w1 (w1.alloc (.cells #[.int .i64 k, .string ⟨#[]⟩] 61)) := (Below.refl _ _).alloc (Nat.le_refl _) _
      have HB2 := Lib.hid (HB.out.trans ((hal.trans (hb2.mono (Nat.le_of_lt (by simp)))).mono (by omega)))
      have HM2 := Lib.hid (HM.out.below HB2.out)
      clear hb2 hal
      go_wp2_with fail
      refine (HCL.out _ HM2.out).mono ?_
      rintro e w3 ⟨rfl, n, rfl⟩
      go_wp2
      exact ⟨rfl, took_none HT.out rfl (over HB2.out)⟩
  ·have HT := Lib.hid (type_miss (s := s) (fun j h1 h2 => HMS.out j h1 (by omega)))
   clear c20 c21 f20 f21
   go_wp2
   exact ⟨rfl, took_none HT.out rfl HB.out⟩
end Go.Proofs.YtjcdgpfffmnneaaGreatDoor.kind

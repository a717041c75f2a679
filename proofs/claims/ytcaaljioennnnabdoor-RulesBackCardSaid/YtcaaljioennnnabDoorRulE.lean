/-
 Layer 22: the rule that a line's fields tell: the program's answer.
-/
import Derived.Test.YtcaaljioennnnabDoorRulD
namespace Go.Proofs.YtcaaljioennnnabDoor.rul
open Go.RowKit
open Go.Proofs.YtcaaljioennnnabDoor.words Go.Proofs.YtcaaljioennnnabDoor.glob Go.Proofs.YtcaaljioennnnabDoor.texts Go.Proofs.YtcaaljioennnnabDoor.piece Go.Proofs.YtcaaljioennnnabDoor.word
set_option linter.all false
def SL (l : List (List UInt8)) : List Value := l.map fun x => Value.string ⟨x.toArray⟩
theorem SL_at {l : List (List UInt8)} {j : Nat} {x : List UInt8} (h : l[j]? = some x) : (SL l)[j]? = some (.string ⟨x.toArray⟩) := by simp [SL, h]
def RC (r : Ru) : Array Value := #[.bool r.nb, .bool r.me, .string ⟨r.cl.toArray⟩, .string ⟨r.nm.toArray⟩, .string ⟨r.ds.toArray⟩]
theorem readW_none {nb : Bool} {fs : List (List UInt8)} (h4 : ¬ fs.length = 4) (h2 : ¬ fs.length = 2) : readW nb fs = ⟨nb, false, [], [], []⟩ := by
 unfold readW
 split
 ·exact absurd rfl h2
 ·exact absurd rfl h4
 ·rfl
set_option maxRecDepth 100000 in
set_option maxHeartbeats 8000000 in
theorem what_none (nb : Bool) (A : Option Addr) (c : Nat) (fs : List (List UInt8)) (w : World) (hn : fs.length ≤ 100000) (h4 : ¬ fs.length = 4) (h2 : ¬ fs.length = 2) :
  Calls Tryd.prog 41 #[.agg #[.bool nb, .bool false, .string ⟨#[]⟩, .string ⟨#[]⟩, .string ⟨#[]⟩], .slice A fs.length c] w fun e w' => e = .returned (RuV (readW nb fs)) ∧ Below w.heap.size w w' := by
 rw [readW_none h4 h2]
 have h4I : ((fs.length : Int) == 4) = false := by rw [beq_eq_false_iff_ne]; omega
 have h2I : ((fs.length : Int) == 2) = false := by rw [beq_eq_false_iff_ne]; omega
 have B1 := Lib.hid (((Below.refl w.heap.size w).alloc (Nat.le_refl _) (.cells #[.bool nb, .bool false, .string ⟨#[]⟩, .string ⟨#[]⟩, .string ⟨#[]⟩] 23)).alloc (by simp) (.cells #[.bool nb, .bool false, .string ⟨#[]⟩, .string ⟨#[]⟩, .string ⟨#[]⟩] 23))
 clear h4 h2
 go_enter Tryd.func41, Tryd.ntmps41
 go_wp2
 exact bodyPost_ret (v := RuV ⟨nb, false, [], [], []⟩) (by simp [results, Tryd.results41, RuV, go_sem]) rfl ⟨rfl, B1.out⟩
theorem SL_cells {w : World} {A : Option Addr} {fs : List (List UInt8)} (h : Rd w A (SL fs)) (hne : fs ≠ []) : ∃ a, A = some a ∧ (∀ x, fs[0]? = some x → w.cell? a = some (.string ⟨x.toArray⟩)) ∧ ∀ j x, 0 < j → fs[j]? = some x → w.cell? ⟨a.block, a.off + j, none⟩ = some (.string ⟨x.toArray⟩) := by
 obtain ⟨y, hy⟩ : ∃ y, fs[0]? = some y := by
  rcases fs with _ | ⟨y, t⟩
  ·exact absurd rfl hne
  ·exact ⟨y, rfl⟩
 obtain ⟨a, rfl, -, h0⟩ := h.at_ (SL_at hy)
 refine ⟨a, rfl, fun x hx => ?_, fun j x hj hx => ?_⟩
 ·obtain ⟨a', e, -, hc⟩ := h.at_ (SL_at hx)
  cases e
  rw [Addr.add, if_pos rfl] at hc
  exact hc
 ·obtain ⟨a', e, -, hc⟩ := h.at_ (SL_at hx)
  cases e
  rw [Addr.add, if_neg (by omega)] at hc
  exact hc
theorem list_ne {m : List UInt8} {q : List UInt8} (h : ¬ m = q) : (m == q) = false := by rw [beq_eq_false_iff_ne]; exact h
set_option maxRecDepth 100000 in
set_option maxHeartbeats 8000000 in
theorem what_two (nb : Bool) (A : Option Addr) (cc : Nat) (m c : List UInt8) (w : World) (hr : Rd w A (SL [m, c])) :
  Calls Tryd.prog 41 #[.agg #[.bool nb, .bool false, .string ⟨#[]⟩, .string ⟨#[]⟩, .string ⟨#[]⟩], .slice A 2 cc] w fun e w' => e = .returned (RuV (readW nb [m, c])) ∧ Below w.heap.size w w' := by
 have hb1 := ((Below.refl w.heap.size w).alloc (Nat.le_refl _) (.cells #[.bool nb, .bool false, .string ⟨#[]⟩, .string ⟨#[]⟩, .string ⟨#[]⟩] 23)).alloc (by simp) (.cells #[.bool false, .bool false, .string ⟨#[]⟩, .string ⟨#[]⟩, .string ⟨#[]⟩] 23)
 obtain ⟨a, rfl, h0, h1⟩ := SL_cells (hr.below hb1) (by simp)
 have c0 := h0 m rfl
 have c1 := h1 1 c (by omega) rfl
 clear h0 h1 hr
 by_cases hm : m = wClass
 ·subst hm
  have HE := Lib.hid (show readW nb [wClass, c] = ⟨nb, false, c, [], []⟩ from by simp [readW])
  unfold wClass at c0
  have B1 := Lib.hid (fun o1 o2 => ((Below.refl w.heap.size w).alloc (Nat.le_refl _) o1).alloc (by simp) o2)
  clear hb1
  go_enter Tryd.func41, Tryd.ntmps41
  go_wp2
  rw [HE.out]
  exact bodyPost_ret (v := RuV ⟨nb, false, c, [], []⟩) (by simp [results, Tryd.results41, RuV, go_sem]) rfl ⟨rfl, B1.out _ _⟩
 ·have HE := Lib.hid (show readW nb [m, c] = ⟨nb, false, [], [], []⟩ from by simp [readW, hm])
  have hm2 := list_ne hm
  unfold wClass at hm2
  have B1 := Lib.hid (fun o1 o2 => ((Below.refl w.heap.size w).alloc (Nat.le_refl _) o1).alloc (by simp) o2)
  clear hb1 hm
  go_enter Tryd.func41, Tryd.ntmps41
  go_wp2
  rw [HE.out]
  exact bodyPost_ret (v := RuV ⟨nb, false, [], [], []⟩) (by simp [results, Tryd.results41, RuV, go_sem]) rfl ⟨rfl, B1.out _ _⟩
set_option maxRecDepth 100000 in
set_option maxHeartbeats 8000000 in
theorem what_four (nb : Bool) (A : Option Addr) (cc : Nat) (m c n d : List UInt8) (w : World) (hr : Rd w A (SL [m, c, n, d])) :
  Calls Tryd.prog 41 #[.agg #[.bool nb, .bool false, .string ⟨#[]⟩, .string ⟨#[]⟩, .string ⟨#[]⟩], .slice A 4 cc] w fun e w' => e = .returned (RuV (readW nb [m, c, n, d])) ∧ Below w.heap.size w w' := by
 have hb1 := fun o1 o2 => ((Below.refl w.heap.size w).alloc (Nat.le_refl _) o1).alloc (by simp) o2
 obtain ⟨a, rfl, h0, h1⟩ := SL_cells hr (by simp)
 have c0 := fun o1 o2 => ((hb1 o1 o2).cell (World.block_lt_of_cell? _ _ (h0 m rfl))).trans (h0 m rfl)
 have c1 := fun o1 o2 => ((hb1 o1 o2).cell (p := ⟨a.block, a.off + 1, none⟩) (World.block_lt_of_cell? _ _ (h1 1 c (by omega) rfl))).trans (h1 1 c (by omega) rfl)
 have c2 := fun o1 o2 => ((hb1 o1 o2).cell (p := ⟨a.block, a.off + 2, none⟩) (World.block_lt_of_cell? _ _ (h1 2 n (by omega) rfl))).trans (h1 2 n (by omega) rfl)
 have c3 := fun o1 o2 => ((hb1 o1 o2).cell (p := ⟨a.block, a.off + 3, none⟩) (World.block_lt_of_cell? _ _ (h1 3 d (by omega) rfl))).trans (h1 3 d (by omega) rfl)
 clear h0 h1 hr
 by_cases hm : m = wMember
 ·subst hm
  have HE := Lib.hid (show readW nb [wMember, c, n, d] = ⟨nb, true, c, n, d⟩ from by simp [readW])
  unfold wMember at c0
  have B1 := Lib.hid (fun o1 o2 => ((Below.refl w.heap.size w).alloc (Nat.le_refl _) o1).alloc (by simp) o2)
  clear hb1
  go_enter Tryd.func41, Tryd.ntmps41
  have d1 : ∀ o1 o2, ((w.alloc o1).alloc o2).drew.cell? ⟨a.block, a.off + 1, none⟩ = some (.string ⟨c.toArray⟩) := c1
  go_wp2
  go_region
  go_wp2
  rw [HE.out]
  refine bodyPost_ret (v := RuV ⟨nb, true, c, n, d⟩) (by simp [results, Tryd.results41, RuV, go_sem]) rfl ⟨rfl, over (q := 1) (B1.out _ _)⟩
 ·have HE := Lib.hid (show readW nb [m, c, n, d] = ⟨nb, false, [], [], []⟩ from by simp [readW, hm])
  have hm2 := list_ne hm
  unfold wMember at hm2
  have B1 := Lib.hid (fun o1 o2 => ((Below.refl w.heap.size w).alloc (Nat.le_refl _) o1).alloc (by simp) o2)
  clear hb1 hm
  go_enter Tryd.func41, Tryd.ntmps41
  go_wp2
  rw [HE.out]
  exact bodyPost_ret (v := RuV ⟨nb, false, [], [], []⟩) (by simp [results, Tryd.results41, RuV, go_sem]) rfl ⟨rfl, B1.out _ _⟩
theorem what_w (nb : Bool) (A : Option Addr) (c : Nat) (fs : List (List UInt8)) (w : World) (hn : fs.length ≤ 100000) (hr : Rd w A (SL fs)) :
  Calls Tryd.prog 41 #[.agg #[.bool nb, .bool false, .string ⟨#[]⟩, .string ⟨#[]⟩, .string ⟨#[]⟩], .slice A fs.length c] w fun e w' => e = .returned (RuV (readW nb fs)) ∧ Below w.heap.size w w' := by
 by_cases h4 : fs.length = 4
 ·obtain ⟨m, x, y, z, rfl⟩ : ∃ m x y z, fs = [m, x, y, z] := by
   rcases fs with _ | ⟨m, _ | ⟨x, _ | ⟨y, _ | ⟨z, _ | ⟨u, t⟩⟩⟩⟩⟩ <;> simp at h4 ⊢
  exact what_four nb A c m x y z w hr
 ·by_cases h2 : fs.length = 2
  ·obtain ⟨m, x, rfl⟩ : ∃ m x, fs = [m, x] := by
    rcases fs with _ | ⟨m, _ | ⟨x, _ | ⟨y, t⟩⟩⟩ <;> simp at h2 ⊢
   exact what_two nb A c m x w hr
  ·exact what_none nb A c fs w hn h4 h2
end Go.Proofs.YtcaaljioennnnabDoor.rul

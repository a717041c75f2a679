/-
 TopPatterns: the law's walk.
-/
import Derived.Test.YtcaaljioennnnabDoorRulK
namespace Go.Proofs.YtcaaljioennnnabDoor.topPatterns
open Go.RowKit
open Go.Proofs.YtcaaljioennnnabDoor.words Go.Proofs.YtcaaljioennnnabDoor.glob Go.Proofs.YtcaaljioennnnabDoor.rul Go.Proofs.YtcaaljioennnnabDoor.piece
set_option linter.all false
theorem star_s (s : ByteArray) (w : World) (hs : s.size ≤ 1000) : Calls Tryd.prog 21 #[.string ⟨#[42]⟩, .string s] w fun e w' => e = .returned (.bool true) ∧ Below w.heap.size w w' := by
 have h := match_w ⟨#[42]⟩ s w (by decide) hs
 rw [show mat (lb ⟨#[42]⟩) (lb s) = true from star_all _] at h
 exact h
theorem five {w : World} {A : Option Addr} {v0 v1 v2 v3 v4 : Value} (h : Rd w A [v0, v1, v2, v3, v4]) : ∃ a, A = some a ∧ a.block < w.heap.size ∧ w.cell? a = some v0 ∧ w.cell? ⟨a.block, a.off + 1, none⟩ = some v1 ∧ w.cell? ⟨a.block, a.off + 2, none⟩ = some v2 ∧ w.cell? ⟨a.block, a.off + 3, none⟩ = some v3 ∧ w.cell? ⟨a.block, a.off + 4, none⟩ = some v4 := by
 obtain ⟨a, rfl, hb, h0⟩ := h.at_ (j := 0) rfl
 have hh : ∀ j u, 0 < j → [v0, v1, v2, v3, v4][j]? = some u → w.cell? ⟨a.block, a.off + j, none⟩ = some u := fun j u hj hu => by
  obtain ⟨a', e, -, hc⟩ := h.at_ hu
  cases e
  rw [Addr.add, if_neg (by omega)] at hc
  exact hc
 rw [Addr.add, if_pos rfl] at h0
 exact ⟨a, rfl, hb, h0, hh 1 _ (by omega) rfl, hh 2 _ (by omega) rfl, hh 3 _ (by omega) rfl, hh 4 _ (by omega) rfl⟩
set_option maxRecDepth 100000 in
set_option maxHeartbeats 8000000 in
theorem walk (p s : ByteArray) (w : World) (hp : p.size ≤ 140737488351232) (hs : s.size ≤ 140737488351232) (hm : Mc w) :
  Calls Tryd.prog 6 #[.string p, .string s] w fun e w' => e = .returned (.bool true) ∧ Below w.heap.size w w' := by
 have hpI : (p.size : Int) ≤ 140737488351232 := by omega
 have hsI : (s.size : Int) ≤ 140737488351232 := by omega
 have M0 := Lib.hid (fun w => star_s ⟨#[97]⟩ w (by decide))
 by_cases h1 : 60 < p.size
 ·have h1I : (60 : Int) < (p.size : Int) := by omega
  clear h1 hp hs hm
  go_enter Tryd.func6, Tryd.ntmps6
  go_wp2_with fail
  refine (M0.out _).mono ?_
  rintro e w1 ⟨rfl, hb⟩
  have B1 := Lib.hid hb
  clear hb M0
  go_wp2
  go_ret
  exact ⟨rfl, B1.out⟩
 ·have h1I : ¬ (60 : Int) < (p.size : Int) := by omega
  by_cases h2 : 60 < s.size
  ·have h2I : (60 : Int) < (s.size : Int) := by omega
   clear h1 h2 hp hs hm
   go_enter Tryd.func6, Tryd.ntmps6
   go_wp2_with fail
   refine (M0.out _).mono ?_
   rintro e w1 ⟨rfl, hb⟩
   have B1 := Lib.hid hb
   clear hb M0
   go_wp2
   go_ret
   exact ⟨rfl, B1.out⟩
  ·have h2I : ¬ (60 : Int) < (s.size : Int) := by omega
   obtain ⟨r, hr⟩ : ∃ r : Ru, r = ⟨false, false, lb p, [], []⟩ := ⟨_, rfl⟩
   have hpl : (lb p).length = p.size := lb_len p
   have hok : ∀ x ∈ [r], RuOk x := fun x hx => by
    rw [List.mem_singleton.1 hx, hr]
    exact ⟨by dsimp only; omega, Nat.zero_le _, Nat.zero_le _⟩
   have hC : ruC r = [.bool false, .bool false, .string p, .string ⟨#[]⟩, .string ⟨#[]⟩] := by rw [hr]; simp [ruC, mk_lb]
   have HP := Lib.hid (fun A c w hr => print_w A c [r] w (by simp) hok hr)
   have hfm : [r].flatMap ruC = [.bool false, .bool false, .string p, .string ⟨#[]⟩, .string ⟨#[]⟩] := by rw [← hC]; simp
   have HR := Lib.hid (rd_blk (xs := [r].flatMap ruC) (heap_alloc_new w (.cells #[.bool false, .bool false, .string p, .string ⟨#[]⟩, .string ⟨#[]⟩] 23)) (k := 5) (by rw [hfm]; rfl))
   have M1 := Lib.hid (fun w => star_s s w (by omega))
   have hrr : rightR r = rightG (lb p) := by rw [hr]; simp [rightR]
   unfold PrintP at HP
   have B0 := Lib.hid ((Below.refl w.heap.size w).alloc (Nat.le_refl _) (.cells #[.bool false, .bool false, .string p, .string ⟨#[]⟩, .string ⟨#[]⟩] 23))
   have HRG := Lib.hid (fun w => right_w p w (by omega))
   cases hq : rightG (lb p) with
   | false =>
    have hpr : printR [r] = ([], 10) := by unfold printR; simp [hrr, hq]
    rw [hpr] at HP
    rw [hq] at HRG
    clear hq hrr hpr hok hC hfm hr h1 h2 hp hs hpl hm M0
    go_enter Tryd.func6, Tryd.ntmps6
    go_wp2_with fail
    refine (HP.out _ 1 _ HR.out).mono ?_
    rintro e w1 ⟨rfl, hb⟩
    have B1 := Lib.hid (then' B0.out hb)
    clear hb HP HR
    go_wp2_with fail
    refine (M1.out _).mono ?_
    rintro e w2 ⟨rfl, hb⟩
    have B2 := Lib.hid (then' B1.out hb)
    clear hb M1
    go_wp2_with fail
    refine (HRG.out _).mono ?_
    rintro e w3 ⟨rfl, hw⟩; subst hw
    go_wp2
    go_ret
    exact ⟨rfl, B2.out⟩
   | true =>
    rw [hq] at hrr
    have hall : [r].all rightR = true := by simp [hrr]
    have hpr : printR [r] = (textL ([r].map lineR), 0) := by unfold printR; rw [if_neg (by simp), if_pos hall]
    have hps := parse_print hall (by simp)
    rw [hpr] at HP
    obtain ⟨t, ht⟩ : ∃ t, t = textL ([r].map lineR) := ⟨_, rfl⟩
    rw [← ht] at HP hps
    have HPA := Lib.hid (fun w h => parse_w ⟨t.toArray⟩ w h)
    unfold ParseP at HPA
    rw [hps] at HPA
    dsimp only [List.length_cons, List.length_nil, Nat.zero_add] at HPA HP
    rw [show ((0 : Nat) : Int) = 0 from rfl] at HPA HP
    have HCL := Lib.hid (fun w => class_w r s w (hok r (by simp)) (by omega))
    have hcl : (!r.me && (rightR r && mat r.cl (lb s))) = mat (lb p) (lb s) := by rw [hrr, hr]; simp
    rw [hcl] at HCL
    have HMT := Lib.hid (fun w => match_w p s w (by omega) (by omega))
    obtain ⟨m, hmm⟩ : ∃ m, m = mat (lb p) (lb s) := ⟨_, rfl⟩
    rw [← hmm] at HCL HMT
    have HFM := Lib.hid hfm
    have HM := Lib.hid hm
    have hv : RuV r = .agg #[.bool false, .bool false, .string p, .string ⟨#[]⟩, .string ⟨#[]⟩] := by rw [hr]; simp [RuV, mk_lb]
    rw [hv] at HCL
    have hbb : (m == m) = true := by simp
    clear hq hrr hpr hok hC hfm hr h1 h2 hp hs hpl hm M0 hall hps ht hcl hmm hv
    go_enter Tryd.func6, Tryd.ntmps6
    go_wp2_with fail
    refine (HP.out _ 1 _ HR.out).mono ?_
    rintro e w1 ⟨rfl, hb⟩
    have B1 := Lib.hid (then' B0.out hb)
    clear hb HP HR
    go_wp2_with fail
    refine (HPA.out _ (HM.out.below B1.out HM.out.lt)).mono ?_
    rintro e w2 ⟨⟨A, c, rfl, hc, hrd⟩, hb⟩
    have B2 := Lib.hid (then' B1.out hb)
    dsimp only [Nat.zero_add]
    obtain ⟨W, hW⟩ : ∃ W, W = w2.alloc (.cells #[.int .i64 0, .int .i64 0] 37) := ⟨_, rfl⟩
    obtain ⟨b, hbk⟩ : ∃ b, b = w2.heap.size := ⟨_, rfl⟩
    have HG := Lib.hid (show W.heap[b]? = some (.cells #[.int .i64 0, .int .i64 0] 37 (0, 0)) from by rw [hW, hbk]; exact heap_alloc_new w2 _)
    have B3 := Lib.hid (show Below w.heap.size w W from by rw [hW]; exact B2.out.alloc B2.out.size _)
    have R3 := Lib.hid (show Rd W A ([r].flatMap ruC) from by rw [hW]; exact hrd.below ((Below.refl _ w2).alloc (Nat.le_refl _) _))
    have HW := Lib.hid hW; have HBK := Lib.hid hbk
    clear hb hc hrd HPA hW hbk B1 B2
    go_wp2_with fail
    rw [← HW.out, ← HBK.out]
    (try go_wp2_with fail)
    refine (M1.out _).mono ?_
    rintro e w3 ⟨rfl, hb⟩
    have B4 := Lib.hid (then' B3.out hb)
    have G4 := (hb.block _ (blk_lt HG.out)).trans HG.out
    have R4 := R3.out.below hb
    rw [HFM.out] at R4
    obtain ⟨a, rfl, hab, f0, f1, f2, f3, f4⟩ := five R4
    have p0 := cell_of_row w3 b 0 _ _ _ G4
    have p1 := cell_of_row w3 b 1 _ _ _ G4
    clear hb M1 G4 R3 R4 HG B3
    go_wp2_with fail
    refine (HCL.out _).mono ?_
    rintro e w4 ⟨rfl, hb⟩
    have B5 := Lib.hid (then' B4.out hb)
    clear hb HCL f0 f1 f2 f3 f4 p0 p1
    go_wp2_with fail
    refine (HMT.out _).mono ?_
    rintro e w5 ⟨rfl, hb⟩
    have B6 := Lib.hid (then' B5.out hb)
    clear hb HMT
    go_wp2
    go_ret
    exact ⟨by simp, B6.out⟩
end Go.Proofs.YtcaaljioennnnabDoor.topPatterns

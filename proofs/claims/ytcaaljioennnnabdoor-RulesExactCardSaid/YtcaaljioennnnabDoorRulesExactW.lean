/-
 RulesExact: the law's walk.
-/
import Derived.Test.YtcaaljioennnnabDoorLive22
import Derived.Test.YtcaaljioennnnabDoorWordM
namespace Go.Proofs.YtcaaljioennnnabDoor.rulesExact
open Go.RowKit
open Go.Proofs.YtcaaljioennnnabDoor.words Go.Proofs.YtcaaljioennnnabDoor.glob Go.Proofs.YtcaaljioennnnabDoor.rul Go.Proofs.YtcaaljioennnnabDoor.word Go.Proofs.YtcaaljioennnnabDoor.piece
set_option linter.all false
theorem byte_ok {c : UInt8} (h : classB c.toNat = true) : 33 ≤ c.toNat ∧ c.toNat ≤ 126 ∧ ¬ c = 42 ∧ ¬ c = 63 := by
 unfold classB letterB at h
 simp only [Bool.or_eq_true, beq_iff_eq, decide_eq_true_eq] at h
 refine ⟨by omega, by omega, fun e => ?_, fun e => ?_⟩
 ·rw [e] at h; revert h; decide
 ·rw [e] at h; revert h; decide
theorem named_ok {p : Nat → Bool} (hp : ∀ c, p c = true → classB c = true) {s : ByteArray} (h : namedB p s = true) : plainL (lb s) = true ∧ rightG (lb s) = true ∧ s.size ≤ 32 := by
 unfold namedB fits at h
 simp only [Bool.and_eq_true, decide_eq_true_eq] at h
 have hb : ∀ c ∈ lb s, classB c.toNat = true := fun c hc => by
  have h2 := h.2
  rw [List.all_eq_true] at h2
  exact hp _ (h2 _ (List.mem_map.2 ⟨c, hc, rfl⟩))
 refine ⟨?_, ?_, h.1.2⟩
 ·unfold plainL
  rw [List.all_eq_true]
  intro c hc
  have := byte_ok (hb c hc)
  simp [this.2.2.1, this.2.2.2]
 ·unfold rightG
  rw [Bool.and_eq_true, List.all_eq_true, decide_eq_true_eq, lb_len]
  refine ⟨fun c hc => ?_, by omega⟩
  have := byte_ok (hb c hc)
  rw [decide_eq_true_eq]; omega
theorem self_mat {l : List UInt8} (h : plainL l = true) : mat l l = true := (mat_plain l l h).2 rfl
theorem other_mat {a b : ByteArray} (h : plainL (lb a) = true) : mat (lb a) (lb b) = (b.toList == a.toList) := by
 rw [Bool.eq_iff_iff, mat_plain _ _ h, beq_iff_eq, Lib.toList_data, Lib.toList_data]
 exact eq_comm
theorem letter_class {c : Nat} (h : letterB c = true) : classB c = true := by unfold classB; rw [h, Bool.or_true]
def dI : List UInt8 := [40, 41, 73]

set_option maxRecDepth 100000 in
set_option maxHeartbeats 8000000 in
theorem walk (o0 o1 p0 p1 : ByteArray) (nb : Bool) (w : World) (h0 : o0.size ≤ 140737488351232) (h1 : o1.size ≤ 140737488351232) (h2 : p0.size ≤ 140737488351232) (h3 : p1.size ≤ 140737488351232) (hm : Mc w) :
  Calls Tryd.prog 5 #[.agg #[.string o0, .string o1], .agg #[.string p0, .string p1], .bool nb] w fun e w' => e = .returned (.bool true) ∧ Below w.heap.size w w' := by
 have HC := Lib.hid (fun w => class_r o0 w (by omega))
 have HN := Lib.hid (fun w => name_r o1 w (by omega))
 have HLV := Lib.hid (fun w h => live_w w h)
 have q0 : (p0.size : Int) ≤ 140737488351232 := by omega
 have q1 : (p1.size : Int) ≤ 140737488351232 := by omega
 obtain ⟨W, hW⟩ : ∃ W, W = (w.alloc (.cells #[.string o0, .string o1] 42)).alloc (.cells #[.string p0, .string p1] 42) := ⟨_, rfl⟩
 obtain ⟨b, hb⟩ : ∃ b, b = w.heap.size := ⟨_, rfl⟩
 obtain ⟨d, hd⟩ : ∃ d, d = w.heap.size + 1 := ⟨_, rfl⟩
 have hsz : (w.alloc (.cells #[.string o0, .string o1] 42)).heap.size = d := by rw [World.size_alloc, hd]
 have HGd := Lib.hid (show W.heap[d]? = some (.cells #[.string p0, .string p1] 42 (0, 0)) from by rw [hW, ← hsz]; exact heap_alloc_new _ _)
 have HGb := Lib.hid (show W.heap[b]? = some (.cells #[.string o0, .string o1] 42 (0, 0)) from by rw [hW, heap_alloc_old _ _ (by rw [hsz, hb, hd]; omega), hb]; exact heap_alloc_new w _)
 have B0 := Lib.hid (show Below w.heap.size w W from by rw [hW]; exact ((Below.refl _ w).alloc (Nat.le_refl _) _).alloc (by simp) _)
 have HM := Lib.hid (fun v (hv : Below w.heap.size w v) => hm.below hv hm.lt)
 have HW := Lib.hid hW; have HBb := Lib.hid hb; have HBd := Lib.hid hd
 have G0 := cell_of_row W b 0 _ _ _ HGb.out; have G1 := cell_of_row W b 1 _ _ _ HGb.out
 have G2 := cell_of_row W.drew d 0 _ _ _ HGd.out; have G3 := cell_of_row W.drew d 1 _ _ _ HGd.out
 simp only [List.getElem?_toArray, List.getElem?_cons_zero, List.getElem?_cons_succ] at G0 G1 G2 G3
 have HH := Lib.hid (And.intro h0 (And.intro h1 (And.intro h2 h3)))
 clear h0 h1 h2 h3 hW hb hd hsz hm
 cases hc : namedB classB o0 with
 | false =>
  rw [hc] at HC
  clear hc
  go_enter Tryd.func5, Tryd.ntmps5
  go_wp2_with fail
  rw [← HW.out, ← HBd.out, ← HBb.out]
  (try go_wp2_with fail)
  go_region
  go_wp2_with fail
  refine (HC.out _).mono ?_
  rintro e v ⟨rfl, hv⟩; subst hv
  go_wp2_with fail
  refine (HLV.out _ (HM.out _ (over (q := 1) B0.out))).mono ?_
  rintro e v2 ⟨rfl, hb⟩
  have B1 := Lib.hid (then' (over (q := 1) B0.out) hb)
  clear hb HLV
  go_wp2
  go_ret
  exact ⟨rfl, B1.out⟩
 | true =>
  rw [hc] at HC
  cases hn : nameB o1 with
  | false =>
   rw [hn] at HN
   clear hc hn
   go_enter Tryd.func5, Tryd.ntmps5
   go_wp2_with fail
   rw [← HW.out, ← HBd.out, ← HBb.out]
   (try go_wp2_with fail)
   go_region
   go_wp2_with fail
   refine (HC.out _).mono ?_
   rintro e v ⟨rfl, hv⟩; subst hv
   go_wp2_with fail
   refine (HN.out _).mono ?_
   rintro e v ⟨rfl, hv⟩; subst hv
   go_wp2_with fail
   refine (HLV.out _ (HM.out _ (over (q := 1) B0.out))).mono ?_
   rintro e v2 ⟨rfl, hb⟩
   have B1 := Lib.hid (then' (over (q := 1) B0.out) hb)
   clear hb HLV
   go_wp2
   go_ret
   exact ⟨rfl, B1.out⟩
  | true =>
   rw [hn] at HN
   have hinT : (o1.toList == initL) = (lb o1 == initL) := by rw [Lib.toList_data]; rfl
   cases hin : (lb o1 == initL) with
   | true =>
    rw [hin] at hinT
    unfold initL at hinT
    clear hc hn hin
    go_enter Tryd.func5, Tryd.ntmps5
    go_wp2_with fail
    rw [← HW.out, ← HBd.out, ← HBb.out]
    (try go_wp2_with fail)
    go_region
    go_wp2_with fail
    refine (HC.out _).mono ?_
    rintro e v ⟨rfl, hv⟩; subst hv
    go_wp2_with fail
    refine (HN.out _).mono ?_
    rintro e v ⟨rfl, hv⟩; subst hv
    go_wp2_with fail
    refine (HLV.out _ (HM.out _ (over (q := 1) B0.out))).mono ?_
    rintro e v2 ⟨rfl, hb⟩
    have B1 := Lib.hid (then' (over (q := 1) B0.out) hb)
    clear hb HLV
    go_wp2
    go_ret
    exact ⟨rfl, B1.out⟩
   | false =>
    rw [hin] at hinT
    unfold initL at hinT
    by_cases l0 : 60 < p0.size
    ·have l0I : (60 : Int) < (p0.size : Int) := by omega
     clear hc hn hin l0
     go_enter Tryd.func5, Tryd.ntmps5
     go_wp2_with fail
     rw [← HW.out, ← HBd.out, ← HBb.out]
     (try go_wp2_with fail)
     go_region
     go_wp2_with fail
     refine (HC.out _).mono ?_
     rintro e v ⟨rfl, hv⟩; subst hv
     go_wp2_with fail
     refine (HN.out _).mono ?_
     rintro e v ⟨rfl, hv⟩; subst hv
     go_wp2_with fail
     refine (HLV.out _ (HM.out _ (over (q := 1) B0.out))).mono ?_
     rintro e v2 ⟨rfl, hb⟩
     have B1 := Lib.hid (then' (over (q := 1) B0.out) hb)
     clear hb HLV
     go_wp2
     go_ret
     exact ⟨rfl, B1.out⟩
    ·have l0I : ¬ (60 : Int) < (p0.size : Int) := by omega
     by_cases l1 : 60 < p1.size
     ·have l1I : (60 : Int) < (p1.size : Int) := by omega
      clear hc hn hin l0 l1
      go_enter Tryd.func5, Tryd.ntmps5
      go_wp2_with fail
      rw [← HW.out, ← HBd.out, ← HBb.out]
      (try go_wp2_with fail)
      go_region
      go_wp2_with fail
      refine (HC.out _).mono ?_
      rintro e v ⟨rfl, hv⟩; subst hv
      go_wp2_with fail
      refine (HN.out _).mono ?_
      rintro e v ⟨rfl, hv⟩; subst hv
      go_wp2_with fail
      refine (HLV.out _ (HM.out _ (over (q := 1) B0.out))).mono ?_
      rintro e v2 ⟨rfl, hb⟩
      have B1 := Lib.hid (then' (over (q := 1) B0.out) hb)
      clear hb HLV
      go_wp2
      go_ret
      exact ⟨rfl, B1.out⟩
     ·have l1I : ¬ (60 : Int) < (p1.size : Int) := by omega
      have hnn : namedB letterB o1 = true := by
       unfold nameB at hn
       rw [Bool.or_eq_true, decide_eq_true_eq] at hn
       rcases hn with h | h
       ·rw [h] at hin; exact absurd hin (by decide)
       ·exact h
      have AC := named_ok (fun c h => h) hc
      have AN := named_ok (fun c h => letter_class h) hnn
      have hrI : rightG dI = true := by decide
      have hdI : mat dI (lb ⟨#[40, 41, 73]⟩) = true := self_mat (l := dI) (by decide)
      have hdV : mat dI (lb ⟨#[40, 41, 86]⟩) = false := by
       show mat (lb ⟨#[40, 41, 73]⟩) (lb ⟨#[40, 41, 86]⟩) = false
       rw [other_mat (a := ⟨#[40, 41, 73]⟩) (by decide)] ; decide +kernel
      obtain ⟨R1, hR1⟩ : ∃ R1, R1 = (⟨nb, false, lb o0, [], []⟩ : Ru) := ⟨_, rfl⟩
      obtain ⟨R2, hR2⟩ : ∃ R2, R2 = (⟨nb, true, lb o0, lb o1, dI⟩ : Ru) := ⟨_, rfl⟩
      have hV1 : RuV R1 = .agg #[.bool nb, .bool false, .string o0, .string ⟨#[]⟩, .string ⟨#[]⟩] := by rw [hR1]; unfold RuV; rw [mk_lb]
      have hV2 : RuV R2 = .agg #[.bool nb, .bool true, .string o0, .string o1, .string ⟨#[40, 41, 73]⟩] := by rw [hR2]; unfold RuV dI; rw [mk_lb, mk_lb]
      have hr1 : rightR R1 = true := by rw [hR1]; simp [rightR, AC.2.1]
      have hr2 : rightR R2 = true := by rw [hR2]; simp [rightR, AC.2.1, AN.2.1, hrI]
      have l32 := AC.2.2; have n32 := AN.2.2
      have ok1 : RuOk R1 := by rw [hR1]; exact ⟨by show (lb o0).length ≤ _; rw [lb_len]; omega, by simp, by simp⟩
      have ok2 : RuOk R2 := by rw [hR2]; exact ⟨by show (lb o0).length ≤ _; rw [lb_len]; omega, by show (lb o1).length ≤ _; rw [lb_len]; omega, by simp [dI]⟩
      obtain ⟨e2, he2⟩ : ∃ e2, (p0.toList == o0.toList) = e2 := ⟨_, rfl⟩
      obtain ⟨e4, he4⟩ : ∃ e4, (p1.toList == o1.toList) = e4 := ⟨_, rfl⟩
      have f1 : (!R1.me && (rightR R1 && mat R1.cl (lb o0))) = true := by rw [hr1, hR1]; show (!false && (true && mat (lb o0) (lb o0))) = true; rw [self_mat AC.1]; rfl
      have f2 : (!R1.me && (rightR R1 && mat R1.cl (lb p0))) = e2 := by rw [hr1, hR1]; show (!false && (true && mat (lb o0) (lb p0))) = e2; rw [other_mat AC.1, he2]; rfl
      have f3 : (R2.me && (rightR R2 && (!(lb o1 == initL) && (mat R2.cl (lb o0) && (mat R2.nm (lb o1) && mat R2.ds (lb ⟨#[40, 41, 73]⟩)))))) = true := by
       rw [hr2, hR2, hin]; show (true && (true && (!false && (mat (lb o0) (lb o0) && (mat (lb o1) (lb o1) && mat dI (lb ⟨#[40, 41, 73]⟩)))))) = true; rw [self_mat AC.1, self_mat AN.1, hdI]; rfl
      have f4 : (R2.me && (rightR R2 && (!(lb p1 == initL) && (mat R2.cl (lb o0) && (mat R2.nm (lb p1) && mat R2.ds (lb ⟨#[40, 41, 73]⟩)))))) = e4 := by
       rw [hr2, hR2]; show (true && (true && (!(lb p1 == initL) && (mat (lb o0) (lb o0) && (mat (lb o1) (lb p1) && mat dI (lb ⟨#[40, 41, 73]⟩)))))) = e4; rw [self_mat AC.1, other_mat AN.1, hdI, he4]
       cases hpi : (lb p1 == initL) with
       | false => cases e4 <;> rfl
       | true =>
        have h1 : lb p1 = initL := by simpa using hpi
        have h2 : e4 = false := by
         rw [← he4, Lib.toList_data, Lib.toList_data]
         show (lb p1 == lb o1) = false
         rw [h1, ← hin]
         exact BEq.comm
        rw [h2]; rfl
      have f5 : (R2.me && (rightR R2 && (!(lb o1 == initL) && (mat R2.cl (lb o0) && (mat R2.nm (lb o1) && mat R2.ds (lb ⟨#[40, 41, 86]⟩)))))) = false := by
       rw [hr2, hR2, hin]; show (true && (true && (!false && (mat (lb o0) (lb o0) && (mat (lb o1) (lb o1) && mat dI (lb ⟨#[40, 41, 86]⟩)))))) = false; rw [self_mat AC.1, self_mat AN.1, hdV]; rfl
      have HK1 := Lib.hid (fun w => class_w R1 o0 w ok1 (by omega)); rw [hV1, f1] at HK1
      have HK2 := Lib.hid (fun w => class_w R1 p0 w ok1 (by omega)); rw [hV1, f2] at HK2
      have HK3 := Lib.hid (fun w => member_w R2 o0 o1 ⟨#[40, 41, 73]⟩ w ok2 (by omega) (by omega) (by decide)); rw [hV2, f3] at HK3
      have HK4 := Lib.hid (fun w => member_w R2 o0 p1 ⟨#[40, 41, 73]⟩ w ok2 (by omega) (by omega) (by decide)); rw [hV2, f4] at HK4
      have HK5 := Lib.hid (fun w => member_w R2 o0 o1 ⟨#[40, 41, 86]⟩ w ok2 (by omega) (by omega) (by decide)); rw [hV2, f5] at HK5
      have HE := Lib.hid (fun w => exact_w (lb o0) nb w); rw [mk_lb, ← hR1, hV1] at HE
      have HEM := Lib.hid (fun w => exactm_w o0 o1 ⟨#[40, 41, 73]⟩ nb w)
      clear hc hn hnn hin l0 l1 AC AN hrI hdI hdV hR1 hR2 hV1 hV2 hr1 hr2 ok1 ok2 f1 f2 f3 f4 f5 l32 n32
      go_enter Tryd.func5, Tryd.ntmps5
      go_wp2_with fail
      rw [← HW.out, ← HBd.out, ← HBb.out]
      (try go_wp2_with fail)
      go_region
      go_wp2_with fail
      refine (HC.out _).mono ?_
      rintro e v ⟨rfl, hv⟩; subst hv
      go_wp2_with fail
      refine (HN.out _).mono ?_
      rintro e v ⟨rfl, hv⟩; subst hv
      go_wp2_with fail
      refine (HE.out _).mono ?_
      rintro e v1 ⟨rfl, hb1⟩
      obtain ⟨W1, hW1⟩ : ∃ W1, W1 = v1.alloc (.cells #[.bool nb, .bool false, .string o0, .string ⟨#[]⟩, .string ⟨#[]⟩] 23) := ⟨_, rfl⟩
      obtain ⟨p, hp⟩ : ∃ p, p = v1.heap.size := ⟨_, rfl⟩
      have hbA : Below v1.heap.size v1 W1 := by rw [hW1]; exact (Below.refl _ v1).alloc (Nat.le_refl _) _
      have hbD : Below W.heap.size W.drew W1 := then' (a := W.drew) hb1 hbA
      have P1 := Lib.hid (show W1.heap[p]? = some (.cells #[.bool nb, .bool false, .string o0, .string ⟨#[]⟩, .string ⟨#[]⟩] 23 (0, 0)) from by rw [hW1, hp]; exact heap_alloc_new v1 _)
      have D1 := Lib.hid (show W1.heap[d]? = some (.cells #[.string p0, .string p1] 42 (0, 0)) from (hbD.block d (blk_lt HGd.out)).trans HGd.out)
      have B1 := Lib.hid (show Below w.heap.size w W1 from then' (over (q := 1) B0.out) hbD)
      have H1W := Lib.hid hW1; have H1P := Lib.hid hp
      clear hb1 hbA hbD hW1 hp HE
      go_wp2_with fail
      rw [← H1W.out, ← H1P.out]
      (try go_wp2_with fail)
      refine (HEM.out _).mono ?_
      rintro e v2 ⟨rfl, hb2⟩
      obtain ⟨W2, hW2⟩ : ∃ W2, W2 = v2.alloc (.cells #[.bool nb, .bool true, .string o0, .string o1, .string ⟨#[40, 41, 73]⟩] 23) := ⟨_, rfl⟩
      obtain ⟨q, hq⟩ : ∃ q, q = v2.heap.size := ⟨_, rfl⟩
      have hbA : Below v2.heap.size v2 W2 := by rw [hW2]; exact (Below.refl _ v2).alloc (Nat.le_refl _) _
      have hbD : Below W1.heap.size W1 W2 := then' hb2 hbA
      have Q2 := Lib.hid (show W2.heap[q]? = some (.cells #[.bool nb, .bool true, .string o0, .string o1, .string ⟨#[40, 41, 73]⟩] 23 (0, 0)) from by rw [hW2, hq]; exact heap_alloc_new v2 _)
      have P2 := Lib.hid ((hbD.block _ (blk_lt P1.out)).trans P1.out)
      have D2 := Lib.hid ((hbD.block _ (blk_lt D1.out)).trans D1.out)
      have B2 := Lib.hid (show Below w.heap.size w W2 from then' B1.out hbD)
      have H2W := Lib.hid hW2; have H2Q := Lib.hid hq
      clear hb2 hbA hbD hW2 hq HEM P1 D1 B1
      go_wp2_with fail
      rw [← H2W.out, ← H2Q.out]
      (try go_wp2_with fail)
      clear G0 G1 G2 G3 H1W H1P H2W H2Q HW HBb HBd HGd HGb B0
      have HC := Lib.hid (show ∀ v : World, v.heap[p]? = some (.cells #[.bool nb, .bool false, .string o0, .string ⟨#[]⟩, .string ⟨#[]⟩] 23 (0, 0)) → v.heap[q]? = some (.cells #[.bool nb, .bool true, .string o0, .string o1, .string ⟨#[40, 41, 73]⟩] 23 (0, 0)) → v.heap[d]? = some (.cells #[.string p0, .string p1] 42 (0, 0)) → (fun w' : World => w'.cell? ⟨p, 0, none⟩ = some (.bool nb) ∧ w'.cell? ⟨p, 1, none⟩ = some (.bool false) ∧ w'.cell? ⟨p, 2, none⟩ = some (.string o0) ∧ w'.cell? ⟨p, 3, none⟩ = some (.string ⟨#[]⟩) ∧ w'.cell? ⟨p, 4, none⟩ = some (.string ⟨#[]⟩) ∧ w'.cell? ⟨q, 0, none⟩ = some (.bool nb) ∧ w'.cell? ⟨q, 1, none⟩ = some (.bool true) ∧ w'.cell? ⟨q, 2, none⟩ = some (.string o0) ∧ w'.cell? ⟨q, 3, none⟩ = some (.string o1) ∧ w'.cell? ⟨q, 4, none⟩ = some (.string ⟨#[40, 41, 73]⟩) ∧ w'.cell? ⟨d, 0, none⟩ = some (.string p0) ∧ w'.cell? ⟨d, 1, none⟩ = some (.string p1)) v from fun v hv hu ht => ⟨cell_of_row _ _ 0 _ _ _ hv, cell_of_row _ _ 1 _ _ _ hv, cell_of_row _ _ 2 _ _ _ hv, cell_of_row _ _ 3 _ _ _ hv, cell_of_row _ _ 4 _ _ _ hv, cell_of_row _ _ 0 _ _ _ hu, cell_of_row _ _ 1 _ _ _ hu, cell_of_row _ _ 2 _ _ _ hu, cell_of_row _ _ 3 _ _ _ hu, cell_of_row _ _ 4 _ _ _ hu, cell_of_row _ _ 0 _ _ _ ht, cell_of_row _ _ 1 _ _ _ ht⟩)
      refine wp_region_held_drew (S := fun w' : World => w'.cell? ⟨p, 0, none⟩ = some (.bool nb) ∧ w'.cell? ⟨p, 1, none⟩ = some (.bool false) ∧ w'.cell? ⟨p, 2, none⟩ = some (.string o0) ∧ w'.cell? ⟨p, 3, none⟩ = some (.string ⟨#[]⟩) ∧ w'.cell? ⟨p, 4, none⟩ = some (.string ⟨#[]⟩) ∧ w'.cell? ⟨q, 0, none⟩ = some (.bool nb) ∧ w'.cell? ⟨q, 1, none⟩ = some (.bool true) ∧ w'.cell? ⟨q, 2, none⟩ = some (.string o0) ∧ w'.cell? ⟨q, 3, none⟩ = some (.string o1) ∧ w'.cell? ⟨q, 4, none⟩ = some (.string ⟨#[40, 41, 73]⟩) ∧ w'.cell? ⟨d, 0, none⟩ = some (.string p0) ∧ w'.cell? ⟨d, 1, none⟩ = some (.string p1)) (by kernel_rfl) ?_ (fun hHeld => ?_)
      ·exact HC.out _ P2.out Q2.out D2.out
      obtain ⟨D, hD⟩ : ∃ u, u = W2.drew := ⟨_, rfl⟩
      have P0 := Lib.hid (show D.heap[p]? = some (.cells #[.bool nb, .bool false, .string o0, .string ⟨#[]⟩, .string ⟨#[]⟩] 23 (0, 0)) from by rw [hD]; exact P2.out)
      have Q0 := Lib.hid (show D.heap[q]? = some (.cells #[.bool nb, .bool true, .string o0, .string o1, .string ⟨#[40, 41, 73]⟩] 23 (0, 0)) from by rw [hD]; exact Q2.out)
      have D0 := Lib.hid (show D.heap[d]? = some (.cells #[.string p0, .string p1] 42 (0, 0)) from by rw [hD]; exact D2.out)
      have A0 := Lib.hid (show Below w.heap.size w D from by rw [hD]; exact over (q := 1) B2.out)
      rw [← hD]
      clear hD hHeld P2 Q2 D2 B2
      refine wpAnyH_ready (rs := [0]) (by kernel_rfl) (by simp) (AllReadyH.cons rfl (fun K hK => ?_) AllReadyH.nil)
      go_simp
      refine (HLV.out _ (HM.out _ A0.out)).mono ?_
      rintro e x1 ⟨rfl, hb⟩
      have P1 := Lib.hid ((hb.block _ (blk_lt P0.out)).trans P0.out)
      have Q1 := Lib.hid ((hb.block _ (blk_lt Q0.out)).trans Q0.out)
      have D1 := Lib.hid ((hb.block _ (blk_lt D0.out)).trans D0.out)
      have A1 := Lib.hid (then' A0.out hb)
      clear hb
      go_wp2_with fail
      refine hK.out _ _ (HC.out _ P1.out Q1.out D1.out) (fun hHeld => ?_)
      clear hK K
      try simp only [puts]
      clear P0 Q0 D0 A0
      have hS := HC.out _ P1.out Q1.out D1.out
      try dsimp only at hS
      refine tkv 1 rfl ?_
      try simp only [puts]
      refine tkv 2 rfl ?_
      try simp only [puts]
      refine tkv 3 rfl ?_
      try simp only [puts]
      clear hS
      refine wpAnyH_ready (rs := [4]) (by kernel_rfl) (by simp) (AllReadyH.cons rfl (fun K hK => ?_) AllReadyH.nil)
      go_simp
      refine (HK1.out _).mono ?_
      rintro e x2 ⟨rfl, hb⟩
      have P2 := Lib.hid ((hb.block _ (blk_lt P1.out)).trans P1.out)
      have Q2 := Lib.hid ((hb.block _ (blk_lt Q1.out)).trans Q1.out)
      have D2 := Lib.hid ((hb.block _ (blk_lt D1.out)).trans D1.out)
      have A2 := Lib.hid (then' A1.out hb)
      clear hb
      go_wp2_with fail
      refine hK.out _ _ (HC.out _ P2.out Q2.out D2.out) (fun hHeld => ?_)
      clear hK K
      try simp only [puts]
      clear P1 Q1 D1 A1
      have hS := HC.out _ P2.out Q2.out D2.out
      try dsimp only at hS
      refine tkv 5 rfl ?_
      try simp only [puts]
      refine tkv 6 rfl ?_
      try simp only [puts]
      refine tkv 7 rfl ?_
      try simp only [puts]
      refine tkv 8 rfl ?_
      try simp only [puts]
      refine tkv 9 rfl ?_
      try simp only [puts]
      refine tkv 11 rfl ?_
      try simp only [puts]
      refine tkv 12 rfl ?_
      try simp only [puts]
      refine tkv 13 rfl ?_
      try simp only [puts]
      refine tkv 14 rfl ?_
      try simp only [puts]
      clear hS
      refine wpAnyH_ready (rs := [10]) (by kernel_rfl) (by simp) (AllReadyH.cons rfl (fun K hK => ?_) AllReadyH.nil)
      go_simp
      refine (HK2.out _).mono ?_
      rintro e x3 ⟨rfl, hb⟩
      have P3 := Lib.hid ((hb.block _ (blk_lt P2.out)).trans P2.out)
      have Q3 := Lib.hid ((hb.block _ (blk_lt Q2.out)).trans Q2.out)
      have D3 := Lib.hid ((hb.block _ (blk_lt D2.out)).trans D2.out)
      have A3 := Lib.hid (then' A2.out hb)
      clear hb
      go_wp2_with fail
      refine hK.out _ _ (HC.out _ P3.out Q3.out D3.out) (fun hHeld => ?_)
      clear hK K
      try simp only [puts]
      clear P2 Q2 D2 A2
      have hS := HC.out _ P3.out Q3.out D3.out
      try dsimp only at hS
      refine tkv 15 rfl ?_
      try simp only [puts]
      refine tkv 16 rfl ?_
      try simp only [puts]
      refine tkv 17 rfl ?_
      try simp only [puts]
      refine tkv 18 rfl ?_
      try simp only [puts]
      refine tkv 19 rfl ?_
      try simp only [puts]
      refine tkv 20 rfl ?_
      try simp only [puts]
      clear hS
      refine wpAnyH_ready (rs := [21]) (by kernel_rfl) (by simp) (AllReadyH.cons rfl (fun K hK => ?_) AllReadyH.nil)
      go_simp
      refine (HK3.out _).mono ?_
      rintro e x4 ⟨rfl, hb⟩
      have P4 := Lib.hid ((hb.block _ (blk_lt P3.out)).trans P3.out)
      have Q4 := Lib.hid ((hb.block _ (blk_lt Q3.out)).trans Q3.out)
      have D4 := Lib.hid ((hb.block _ (blk_lt D3.out)).trans D3.out)
      have A4 := Lib.hid (then' A3.out hb)
      clear hb
      go_wp2_with fail
      refine hK.out _ _ (HC.out _ P4.out Q4.out D4.out) (fun hHeld => ?_)
      clear hK K
      try simp only [puts]
      clear P3 Q3 D3 A3
      have hS := HC.out _ P4.out Q4.out D4.out
      try dsimp only at hS
      refine tkv 22 rfl ?_
      try simp only [puts]
      refine tkv 23 rfl ?_
      try simp only [puts]
      refine tkv 24 rfl ?_
      try simp only [puts]
      refine tkv 25 rfl ?_
      try simp only [puts]
      refine tkv 26 rfl ?_
      try simp only [puts]
      refine tkv 27 rfl ?_
      try simp only [puts]
      refine tkv 29 rfl ?_
      try simp only [puts]
      refine tkv 30 rfl ?_
      try simp only [puts]
      refine tkv 31 rfl ?_
      try simp only [puts]
      refine tkv 32 rfl ?_
      try simp only [puts]
      clear hS
      refine wpAnyH_ready (rs := [28]) (by kernel_rfl) (by simp) (AllReadyH.cons rfl (fun K hK => ?_) AllReadyH.nil)
      go_simp
      refine (HK4.out _).mono ?_
      rintro e x5 ⟨rfl, hb⟩
      have P5 := Lib.hid ((hb.block _ (blk_lt P4.out)).trans P4.out)
      have Q5 := Lib.hid ((hb.block _ (blk_lt Q4.out)).trans Q4.out)
      have D5 := Lib.hid ((hb.block _ (blk_lt D4.out)).trans D4.out)
      have A5 := Lib.hid (then' A4.out hb)
      clear hb
      go_wp2_with fail
      refine hK.out _ _ (HC.out _ P5.out Q5.out D5.out) (fun hHeld => ?_)
      clear hK K
      try simp only [puts]
      clear P4 Q4 D4 A4
      have hS := HC.out _ P5.out Q5.out D5.out
      try dsimp only at hS
      refine tkv 33 rfl ?_
      try simp only [puts]
      refine tkv 34 rfl ?_
      try simp only [puts]
      refine tkv 35 rfl ?_
      try simp only [puts]
      refine tkv 36 rfl ?_
      try simp only [puts]
      refine tkv 37 rfl ?_
      try simp only [puts]
      refine tkv 38 rfl ?_
      try simp only [puts]
      clear hS
      refine wpAnyH_ready (rs := [39]) (by kernel_rfl) (by simp) (AllReadyH.cons rfl (fun K hK => ?_) AllReadyH.nil)
      go_simp
      refine (HK5.out _).mono ?_
      rintro e x6 ⟨rfl, hb⟩
      have P6 := Lib.hid ((hb.block _ (blk_lt P5.out)).trans P5.out)
      have Q6 := Lib.hid ((hb.block _ (blk_lt Q5.out)).trans Q5.out)
      have D6 := Lib.hid ((hb.block _ (blk_lt D5.out)).trans D5.out)
      have A6 := Lib.hid (then' A5.out hb)
      clear hb
      go_wp2_with fail
      refine hK.out _ _ (HC.out _ P6.out Q6.out D6.out) (fun hHeld => ?_)
      clear hK K
      try simp only [puts]
      clear P5 Q5 D5 A5
      have hS := HC.out _ P6.out Q6.out D6.out
      try dsimp only at hS
      refine tkv 40 rfl ?_
      try simp only [puts]
      refine tkv 41 rfl ?_
      try simp only [puts]
      refine tkv 42 rfl ?_
      try simp only [puts]
      refine tkv 43 rfl ?_
      try simp only [puts]
      refine tkv 44 rfl ?_
      try simp only [puts]
      refine tkv 45 rfl ?_
      try simp only [puts]
      refine tkv 46 rfl ?_
      try simp only [puts]
      refine tkv 47 rfl ?_
      try simp only [puts]
      refine tkv 48 rfl ?_
      try simp only [puts]
      refine wpAnyH_done (by kernel_rfl) ?_ _
      go_wp2
      go_ret
      exact ⟨by rfl, A6.out⟩
end Go.Proofs.YtcaaljioennnnabDoor.rulesExact

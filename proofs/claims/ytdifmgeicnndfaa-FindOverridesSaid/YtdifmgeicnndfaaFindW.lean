/- FindW -/
import Derived.LoopNIn
import Derived.Test.YtdifmgeicnndfaaFindV
namespace Go.Proofs.Ytdifmgeicnndfaa.find
open Go.RowKit Go.Shelf
open words kindp opp op kind word prg
set_option maxRecDepth 100000
set_option maxHeartbeats 8000000
set_option linter.all false
attribute [local go_sem] Oper.semAt_some
theorem PrOk.kcw {w v : World} {x : PrM} (h : PrOk w x) (k : KCW w v) : PrOk v x :=
 ⟨⟨h.1.1, k.rd h.1.2⟩, ⟨h.2.1.1, k.rd h.2.1.2⟩, fun y hy => by
  obtain ⟨h1, h2, h3, h4⟩ := h.2.2 y hy
  exact ⟨⟨h1.1, k.rd h1.2⟩, ⟨h2.1, k.rd h2.2⟩, ⟨h3.1, k.rd h3.2⟩, fun m hm => by
   obtain ⟨g1, g2, g3⟩ := h4 m hm
   exact ⟨g1, k.rd g2, fun i hi => ⟨(g3 i hi).1, k.rd (g3 i hi).2⟩⟩⟩⟩
def ListP (L : List Tx) (w : World) (e : Ending) (w' : World) : Prop := (∃ A c, e = .returned (.slice A L.length c) ∧ L.length ≤ c ∧ Rd w' A (SX L)) ∧ Below w.heap.size w w'
theorem supF_seq (x : PrM) (s : Tx) (B1 B2 : Nat) (L1 L2 : List Tx) (w : World) (hz1 : L1.length ≤ 1000) (hz2 : L2.length ≤ 1000)
  (hb1 : w.heap[B1]? = some (.cells (prC x).toArray 27 (0, 0))) (hb2 : w.heap[B2]? = some (.cells #[.string ⟨s.toArray⟩] 9 (0, 0)))
  (hsup : ∀ v, KCW w v → Calls Try.prog 75 #[.agg (prC x).toArray, .string ⟨s.toArray⟩] v (ListP L1 v))
  (hanc : ∀ v, KCW w v → Calls Try.prog 104 #[.agg (prC x).toArray, .string ⟨s.toArray⟩] v (ListP L2 v)) :
  SeqStopsK Fence.wide 2 Try.prog 103 #[.pointer (some ⟨B1, 0, none⟩), .pointer (some ⟨B2, 0, none⟩)] (fun y : Tx => #[.string ⟨y.toArray⟩]) KCW (fun ys => ys = L1 ++ L2) (fun pre => pre <+: L1 ++ L2) (L1 ++ L2).length w := fun l J Jx W hW hJ hJx hY h0 => by
 obtain ⟨cs, A1, c1, ns, A2, c2, ec, en, ed⟩ := x
 have hkw : KCW w W := KCW.of hW
 obtain ⟨W1, hW1⟩ : ∃ W1, W1 = W.alloc (.cells #[.func (.func 75) #[] #[], .func (.func 104) #[] #[]] 146) := ⟨_, rfl⟩
 have l1 : Below W.heap.size W W1 := by rw [hW1]; exact (Below.refl _ _).alloc (Nat.le_refl _) _
 have q1 : W1.heap[W.heap.size]? = some (.cells #[.func (.func 75) #[] #[], .func (.func 104) #[] #[]] 146 (0, 0)) := by rw [hW1]; exact heap_alloc_new _ _
 have hJ1 : J [] W1 := by rw [hW1]; exact hJ [] W _ none h0 (World.grownBy_alloc W _ none) (fun r e => by cases e)
 have hk1 := hkw.trans (KCW.of l1)
 have HJ := zh (show ∀ (pre : List Tx) (A B : World), J pre A → Below A.heap.size A B → J pre B from fun pre A B h k => hJ pre A B none h ⟨k.os, k.tape, k.output, k.size, fun j hj _ => k.block j hj⟩ (fun r e => by cases e))
 have HCE := zh (show ∀ v : World, KCW W1 v → v.cell? ⟨B1, 0, none⟩ = some (.slice A1 cs.length c1) ∧ v.cell? ⟨B1, 1, none⟩ = some (.slice A2 ns.length c2) ∧ v.cell? ⟨B1, 2, none⟩ = some (.string ⟨ec.toArray⟩) ∧ v.cell? ⟨B1, 3, none⟩ = some (.string ⟨en.toArray⟩) ∧ v.cell? ⟨B1, 4, none⟩ = some (.string ⟨ed.toArray⟩) ∧ v.cell? ⟨B2, 0, none⟩ = some (.string ⟨s.toArray⟩) ∧ v.cell? ⟨W.heap.size, 0, none⟩ = some (.func (.func 75) #[] #[]) ∧ v.cell? ⟨W.heap.size, 1, none⟩ = some (.func (.func 104) #[] #[]) from fun v hv => by
  have r1 := (hk1.trans hv).same _ _ hb1 (.inl rfl)
  have r2 := (hk1.trans hv).same _ _ hb2 (.inl rfl)
  have r3 := hv.same _ _ q1 (.inl rfl)
  obtain ⟨g0, g1, g2, g3, g4⟩ := pr_cells r1
  exact ⟨g0, g1, g2, g3, g4, cell_of_row _ _ 0 _ _ _ r2, cell_of_row _ _ 0 _ _ _ r3, cell_of_row _ _ 1 _ _ _ r3⟩)
 have hs1 := fun v (hv : KCW W1 v) => hsup v (hk1.trans hv)
 have ha1 := fun v (hv : KCW W1 v) => hanc v (hk1.trans hv)
 unfold prC at hs1 ha1
 try dsimp only at hs1 ha1
 have HSU := zh hs1; have HAN := zh ha1; have HY := zh hY; have HJ1 := zh hJ1; have HW1 := zh hW1
 have HZ1 := zh hz1; have HZ2 := zh hz2
 clear hkw l1 q1 hJ1 hk1 hs1 ha1 hY h0 hb1 hb2 hsup hanc hJ hJx hW1 hz1 hz2
 refine callsIn_of_wp Try.func103 rfl trivial ?_ rfl
 simp only [Try.ntmps103, List.size_toArray, List.length_cons, List.length_nil, Nat.reduceAdd, Nat.reduceSub, Array.replicate_succ, Array.replicate_zero, List.push_toArray, List.append_toArray, List.nil_append, List.cons_append]
 gi_wp2
 rw [← HW1.out]
 obtain ⟨x0, x1, x2, x3, x4, y0, z0, z1⟩ := HCE.out W1 (KCW.refl _)
 refine wpIn_loop_rounds 3 ?_
 rw [roundsIn_succ]
 gi_wp2_with fail
 refine ⟨trivial, (callsIn_wide.2 (HSU.out W1 (KCW.refl _))).mono ?_⟩
 rintro e W2 ⟨⟨Ax, cx, rfl, hcx, hrd⟩, hb⟩
 clear x0 x1 x2 x3 x4 y0 z0 z1
 have K2 := zh (show KCW W1 W2 from KCW.of hb)
 have J2 := zh (HJ.out [] W1 W2 HJ1.out hb)
 have HR2 := zh hrd
 obtain ⟨m1, hm1⟩ : ∃ m, m = L1.length := ⟨_, rfl⟩
 have M1 := zh hm1
 have hm1I : (m1 : Int) ≤ 1000 := by have := HZ1.out; omega
 rw [← hm1]
 clear hb hrd hcx hm1
 gi_wp2_with fail
 gi_loopw [19] (fun i wr => ∃ k : Nat, k ≤ m1 ∧ i = .int .i64 (k : Int) ∧ J (L1.take k) wr ∧ KCW W2 wr) (fun i _ => m1 - (intOf i).toNat)
 case atStart => exact ⟨0, Nat.zero_le _, rfl, by rw [List.take_zero]; exact J2.out, KCW.refl _⟩
 case round =>
  obtain ⟨k, hk, rfl, hJk, hkk⟩ := hrel
  by_cases hlt : k < m1
  ·have hltI : (k : Int) < (m1 : Int) := by omega
   obtain ⟨y, hy⟩ : ∃ y, L1[k]? = some y := ⟨L1[k]'(by rw [← M1.out]; exact hlt), List.getElem?_eq_getElem _⟩
   obtain ⟨a, rfl, -, hc⟩ := (hkk.rd HR2.out).at_ (sx_get hy)
   have HTK := zh (show L1.take (k + 1) = L1.take k ++ [y] from by rw [List.take_add_one, hy]; rfl)
   have HKK := zh hkk
   obtain ⟨fn, tmps, assign, body, hyy, hR⟩ := HY.out _ y wr hJk (by rw [List.length_take, List.length_append, ← M1.out]; omega)
   clear hy hJk hkk
   gi_wp2
   refine hR.mono ?_
   rintro e W3 (⟨rfl, hJ3, hk3⟩ | ⟨rfl, hJx3⟩)
   ·have J3 := zh hJ3; have K3 := zh hk3
    clear hJ3 hk3 hc hyy hR
    gi_wp2
    go_roundw
    case rel => exact ⟨k + 1, by omega, by go_num, by rw [HTK.out]; exact J3.out, HKK.out.trans K3.out⟩
    case measure => simp [intOf]; omega
   ·clear hc hyy hR
    gi_wp2
    refine bodyPost_ret (results_none rfl _ _ _) rfl ?_
    exact ⟨⟨_, rfl⟩, .inr ⟨_, by rw [← HTK.out]; exact (List.take_prefix _ _).trans (List.prefix_append _ _), hJx3⟩⟩
  ·have hltI : ¬ (k : Int) < (m1 : Int) := by omega
   have HJ3 := zh (show J L1 wr from by rw [List.take_of_length_le (by rw [← M1.out]; omega)] at hJk; exact hJk)
   obtain ⟨wa, hwa⟩ : ∃ u, u = wr := ⟨_, rfl⟩
   subst hwa
   have K3 := zh (K2.out.trans hkk)
   obtain ⟨x0, x1, x2, x3, x4, y0, z0, z1⟩ := HCE.out wa K3.out
   clear hJk hkk hk hlt
   gi_wp2_with fail
   rw [roundsIn_succ]
   gi_wp2_with fail
   refine ⟨trivial, (callsIn_wide.2 (HAN.out wa K3.out)).mono ?_⟩
   rintro e W4 ⟨⟨Ay, cy, rfl, hcy, hrd⟩, hb⟩
   clear x0 x1 x2 x3 x4 y0 z0 z1
   have K4 := zh (K3.out.trans (KCW.of hb))
   have J4 := zh (HJ.out L1 wa W4 HJ3.out hb)
   have HR4 := zh hrd
   obtain ⟨m2, hm2⟩ : ∃ m, m = L2.length := ⟨_, rfl⟩
   have M2 := zh hm2
   have hm2I : (m2 : Int) ≤ 1000 := by have := HZ2.out; omega
   rw [← hm2]
   clear hb hrd hcy hm2 hltI
   gi_wp2_with fail
   gi_loopw [19] (fun i wr => ∃ k : Nat, k ≤ m2 ∧ i = .int .i64 (k : Int) ∧ J (L1 ++ L2.take k) wr ∧ KCW W4 wr) (fun i _ => m2 - (intOf i).toNat)
   case atStart => exact ⟨0, Nat.zero_le _, rfl, by rw [List.take_zero, List.append_nil]; exact J4.out, KCW.refl _⟩
   case round =>
    obtain ⟨j, hj, rfl, hJk, hkk⟩ := hrel
    by_cases hlt : j < m2
    ·have hltI : (j : Int) < (m2 : Int) := by omega
     obtain ⟨y, hy⟩ : ∃ y, L2[j]? = some y := ⟨L2[j]'(by rw [← M2.out]; exact hlt), List.getElem?_eq_getElem _⟩
     obtain ⟨a, rfl, -, hc⟩ := (hkk.rd HR4.out).at_ (sx_get hy)
     have HTK := zh (show L1 ++ L2.take (j + 1) = (L1 ++ L2.take j) ++ [y] from by rw [List.take_add_one, hy, List.append_assoc]; rfl)
     have HKK := zh hkk
     obtain ⟨fn, tmps, assign, body, hyy, hR⟩ := HY.out _ y wr hJk (by rw [List.length_append, List.length_append, List.length_take, ← M2.out]; omega)
     clear hy hJk hkk
     gi_wp2
     refine hR.mono ?_
     rintro e W3 (⟨rfl, hJ3, hk3⟩ | ⟨rfl, hJx3⟩)
     ·have J3 := zh hJ3; have K5 := zh hk3
      clear hJ3 hk3 hc hyy hR
      gi_wp2
      go_roundw
      case rel => exact ⟨j + 1, by omega, by go_num, by rw [HTK.out]; exact J3.out, HKK.out.trans K5.out⟩
      case measure => simp [intOf]; omega
     ·clear hc hyy hR
      gi_wp2
      refine bodyPost_ret (results_none rfl _ _ _) rfl ?_
      exact ⟨⟨_, rfl⟩, .inr ⟨_, by rw [← HTK.out]; exact (List.prefix_append_right_inj _).2 (List.take_prefix _ _), hJx3⟩⟩
    ·have hltI : ¬ (j : Int) < (m2 : Int) := by omega
     have HJ5 := zh (show J (L1 ++ L2) wr from by rw [List.take_of_length_le (by rw [← M2.out]; omega)] at hJk; exact hJk)
     clear hJk hkk hj hlt
     gi_wp2
     rw [roundsIn_succ]
     gi_wp2
     go_end0
     exact ⟨⟨_, rfl⟩, .inl ⟨_, rfl, HJ5.out⟩⟩
end Go.Proofs.Ytdifmgeicnndfaa.find

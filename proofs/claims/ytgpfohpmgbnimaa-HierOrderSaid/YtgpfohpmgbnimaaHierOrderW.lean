/-
 What is below what is below a third one is below that; two that are below one another are one, where nothing is wrong: walked through the program.
-/
import Derived.Test.YtgpfohpmgbnimaaHierL
namespace Go.Proofs.Ytgpfohpmgbnimaa.hierOrder
open Go.RowKit
open words kindp opp op kind word prg
set_option linter.all false

theorem overD {b : Nat} {a c : World} (h : Below b a c) : Below b a c.drew := ⟨h.os, h.tape, h.output, h.size, h.block⟩

set_option maxRecDepth 100000 in
set_option maxHeartbeats 16000000 in
theorem walk (x : PrM) (a0 b0 c0 : Nat) (w : World) (hk : PrOk w x) (hb : PrBd x) (he : a0 < 256 ∧ b0 < 256 ∧ c0 < 256) : Calls Try.prog 3 #[.agg (prC x).toArray, .agg #[.int .u8 (a0 : Int), .int .u8 (b0 : Int), .int .u8 (c0 : Int)]] w fun e w' => e = .returned (.bool true) ∧ Below w.heap.size w w' := by
 obtain ⟨cs, A1, c1, ns, A2, c2, ec, en, ed⟩ := x
 obtain ⟨n, hn⟩ : ∃ n, n = cs.length := ⟨_, rfl⟩
 obtain ⟨W, hW⟩ : ∃ W, W = (w.alloc (.cells (prC ⟨cs, A1, c1, ns, A2, c2, ec, en, ed⟩).toArray 27)).alloc (.cells #[.int .u8 (a0 : Int), .int .u8 (b0 : Int), .int .u8 (c0 : Int)] 28) := ⟨_, rfl⟩
 have hal : Below w.heap.size w W := by rw [hW]; exact ((Below.refl _ w).alloc (Nat.le_refl _) _).alloc (by simp) _
 have hbi : W.heap[w.heap.size]? = some (.cells (prC ⟨cs, A1, c1, ns, A2, c2, ec, en, ed⟩).toArray 27 (0, 0)) := by rw [hW]; exact (Below.heap_alloc _ _ _ (by simp)).trans (heap_alloc_new w _)
 have hbj : W.heap[w.heap.size + 1]? = some (.cells #[.int .u8 (a0 : Int), .int .u8 (b0 : Int), .int .u8 (c0 : Int)] 28 (0, 0)) := by
  have := heap_alloc_new (w.alloc (.cells (prC ⟨cs, A1, c1, ns, A2, c2, ec, en, ed⟩).toArray 27)) (.cells #[.int .u8 (a0 : Int), .int .u8 (b0 : Int), .int .u8 (c0 : Int)] 28)
  rw [World.size_alloc] at this
  rw [hW]; exact this
 have HAL := Lib.hid hal
 have HCE := Lib.hid (show ∀ v : World, Below W.heap.size W v → (v.cell? ⟨w.heap.size, 0, none⟩ = some (.slice A1 n c1) ∧ v.cell? ⟨w.heap.size, 1, none⟩ = some (.slice A2 ns.length c2) ∧ v.cell? ⟨w.heap.size, 2, none⟩ = some (.string ⟨ec.toArray⟩) ∧ v.cell? ⟨w.heap.size, 3, none⟩ = some (.string ⟨en.toArray⟩) ∧ v.cell? ⟨w.heap.size, 4, none⟩ = some (.string ⟨ed.toArray⟩)) ∧ (v.cell? ⟨w.heap.size + 1, 0, none⟩ = some (.int .u8 (a0 : Int)) ∧ v.cell? ⟨w.heap.size + 1, 1, none⟩ = some (.int .u8 (b0 : Int)) ∧ v.cell? ⟨w.heap.size + 1, 2, none⟩ = some (.int .u8 (c0 : Int))) from fun v hv => by
  rw [hn]
  exact ⟨pr_cells ((hv.block _ (blk_lt hbi)).trans hbi), cell_of_row _ _ 0 _ _ _ ((hv.block _ (blk_lt hbj)).trans hbj), cell_of_row _ _ 1 _ _ _ ((hv.block _ (blk_lt hbj)).trans hbj), cell_of_row _ _ 2 _ _ _ ((hv.block _ (blk_lt hbj)).trans hbj)⟩)
 have HKX := Lib.hid (fun v (hv : Below W.heap.size W v) => (hk.below hal).below hv)
 have HGR := Lib.hid (fun v (hv : Below W.heap.size W v) => great_w ⟨cs, A1, c1, ns, A2, c2, ec, en, ed⟩ v ((hk.below hal).below hv) hb)
 have HNM := fun (h : cs.length ≤ 70) (k : Nat) (h2 : k < 256) v (hv : Below W.heap.size W v) => name_w ⟨cs, A1, c1, ns, A2, c2, ec, en, ed⟩ k v ((hk.below hal).below hv) h h2
 have HKN := Lib.hid (fun (h : GrP ⟨cs, A1, c1, ns, A2, c2, ec, en, ed⟩) => knA_kn h hb)
 have HCK := fun (h : KnH ⟨cs, A1, c1, ns, A2, c2, ec, en, ed⟩ (knA cs)) v (hv : Below W.heap.size W v) => check_w ⟨cs, A1, c1, ns, A2, c2, ec, en, ed⟩ (knA cs) v ((hk.below hal).below hv) h
 have HSB := fun (h : KnH ⟨cs, A1, c1, ns, A2, c2, ec, en, ed⟩ (knA cs)) (s t : Tx) (hs : s ∈ knA cs) v (hv : Below W.heap.size W v) => sub_w ⟨cs, A1, c1, ns, A2, c2, ec, en, ed⟩ (knA cs) s t v ((hk.below hal).below hv) h hs
 have HE := Lib.hid he
 have HN := Lib.hid hn
 unfold CheckP at HCK
 unfold prC at hW HGR HNM HCK HSB ⊢
 try dsimp only at hW HGR HNM HCK HSB ⊢
 rw [← hn] at hW HGR HCK HSB ⊢
 simp only [← hn] at HNM
 have HNM := Lib.hid HNM; have HCK := Lib.hid HCK; have HSB := Lib.hid HSB
 have HW := Lib.hid hW
 clear hal hbi hbj hW hk hb hn he
 go_enter Try.func3, Try.ntmps3
 go_wp2_with fail
 try simp only [World.size_alloc]
 rw [← HW.out]
 (try go_wp2_with fail)
 refine (HGR.out _ (Below.refl _ _)).mono ?_
 rintro e v2 ⟨g, rfl, hg, hb2⟩
 have K2 := Lib.hid (show Below W.heap.size W v2 from hb2)
 have HGA := Lib.hid hg
 clear hb2 hg
 cases g with
 | true =>
  go_wp2_with fail
  refine (liveH_w v2).mono ?_
  rintro e v3 ⟨rfl, hb3⟩
  have K3 := Lib.hid (then' K2.out hb3)
  clear hb3
  go_wp2
  go_ret
  exact ⟨rfl, HAL.out.trans (K3.out.mono HAL.out.size)⟩
 | false =>
  have hgp := HGA.out (by first | rfl | trivial)
  have hkn := HKN.out hgp
  have hn70 : n ≤ 70 := by rw [HN.out]; exact hgp.1.1
  have HNX := HNM.out hn70
  have hka := name_kn cs a0
  have hkb := name_kn cs b0
  have hkc := name_kn cs c0
  obtain ⟨F, hF⟩ : ∃ t, t = nameE cs := ⟨_, rfl⟩
  rw [← hF] at hka hkb hkc
  simp only [← hF] at HNX
  obtain ⟨ta, hta⟩ : ∃ t, t = F a0 := ⟨_, rfl⟩
  obtain ⟨tb, htb⟩ : ∃ t, t = F b0 := ⟨_, rfl⟩
  obtain ⟨tc, htc⟩ : ∃ t, t = F c0 := ⟨_, rfl⟩
  rw [← hta] at hka; rw [← htb] at hkb; rw [← htc] at hkc
  have HTA := Lib.hid hta; have HTB := Lib.hid htb; have HTC := Lib.hid htc
  have HCX := HCK.out hkn
  have HS1 := HSB.out hkn ta tb hka
  have HS2 := HSB.out hkn tb tc hkb
  have HS3 := HSB.out hkn ta tc hka
  have HS4 := HSB.out hkn tb ta hkb
  have hno := fun (h : (chkP cs).1 = 0) => chk_none h
  obtain ⟨E, hEE⟩ : ∃ E, E = (chkP cs).1 := ⟨_, rfl⟩
  obtain ⟨N, hNN⟩ : ∃ N, N = (chkP cs).2 := ⟨_, rfl⟩
  rw [← hEE] at HCX hno; rw [← hNN] at HCX
  have hT := fun (h1 : subB cs ta tb = true) (h2 : subB cs tb tc = true) => sub_trans h1 h2
  have hU := fun (h : E = 0) (h1 : subB cs ta tb = true) (h2 : subB cs tb ta = true) => sub_anti (hno h) h1 h2
  obtain ⟨s1, e1⟩ : ∃ s, s = subB cs ta tb := ⟨_, rfl⟩
  obtain ⟨s2, e2⟩ : ∃ s, s = subB cs tb tc := ⟨_, rfl⟩
  obtain ⟨s3, e3⟩ : ∃ s, s = subB cs ta tc := ⟨_, rfl⟩
  obtain ⟨s4, e4⟩ : ∃ s, s = subB cs tb ta := ⟨_, rfl⟩
  rw [← e1] at HS1 hT hU; rw [← e2] at HS2 hT; rw [← e3] at HS3 hT; rw [← e4] at HS4 hU
  have HNX := Lib.hid HNX; have HCX := Lib.hid HCX
  have HS1 := Lib.hid HS1; have HS2 := Lib.hid HS2; have HS3 := Lib.hid HS3; have HS4 := Lib.hid HS4
  have HT := Lib.hid hT; have HU := Lib.hid hU
  clear hgp hkn hn70 hka hkb hkc hta htb htc hno hF hEE hNN hT hU e1 e2 e3 e4 HNM HCK HSB HKN HGA HGR
  have hmx : Try.prog.follows .mixedOrders = true := by kernel_rfl
  obtain ⟨⟨x0, x1, x2, x3, x4⟩, y0, y1, y2⟩ := HCE.out v2 K2.out
  have hB := K2.out
  go_wp2_with fail
  go_region_held3 (fun w' => (w'.cell? ⟨w.heap.size, 0, none⟩ = some (.slice A1 n c1) ∧ w'.cell? ⟨w.heap.size, 1, none⟩ = some (.slice A2 ns.length c2) ∧ w'.cell? ⟨w.heap.size, 2, none⟩ = some (.string ⟨ec.toArray⟩) ∧ w'.cell? ⟨w.heap.size, 3, none⟩ = some (.string ⟨en.toArray⟩) ∧ w'.cell? ⟨w.heap.size, 4, none⟩ = some (.string ⟨ed.toArray⟩)) ∧ (w'.cell? ⟨w.heap.size + 1, 0, none⟩ = some (.int .u8 (a0 : Int)) ∧ w'.cell? ⟨w.heap.size + 1, 1, none⟩ = some (.int .u8 (b0 : Int)) ∧ w'.cell? ⟨w.heap.size + 1, 2, none⟩ = some (.int .u8 (c0 : Int)))) (go_keep)
   ((go_at_call 9; refine (HNX.out _ ?_ _ ?_).mono ?_; (first | exact HE.out.1 | exact HE.out.2.1 | exact HE.out.2.2); (first | exact hB | exact overD hB); rintro e v ⟨rfl, hbq⟩; have hB := (show Below W.heap.size W v from ⟨hbq.os.trans hB.os, hbq.tape.trans hB.tape, hbq.output.trans hB.output, Nat.le_trans hB.size hbq.size, fun k hk => (hbq.block k (Nat.lt_of_lt_of_le hk hB.size)).trans (hB.block k hk)⟩); clear hbq x0 x1 x2 x3 x4 y0 y1 y2; obtain ⟨⟨x0, x1, x2, x3, x4⟩, y0, y1, y2⟩ := HCE.out _ hB))
  all_goals (
   have K3 := Lib.hid hB
   rw [← HTA.out, ← HTB.out, ← HTC.out]
   clear hB x0 x1 x2 x3 x4 y0 y1 y2
   obtain ⟨⟨x0, x1, x2, x3, x4⟩, -⟩ := HCE.out _ K3.out
   go_wp2_with fail
   refine (HCX.out _ K3.out).mono ?_
   rintro e w4 ⟨rfl, hb⟩
   have K4 := Lib.hid (then' K3.out hb)
   clear hb x0 x1 x2 x3 x4
   obtain ⟨⟨x0, x1, x2, x3, x4⟩, -⟩ := HCE.out _ K4.out
   (try go_wp2_with fail)
   refine (liveH_w _).mono ?_
   rintro e w5 ⟨rfl, hb⟩
   have K5 := Lib.hid (then' K4.out hb)
   clear hb x0 x1 x2 x3 x4
   obtain ⟨⟨x0, x1, x2, x3, x4⟩, -⟩ := HCE.out _ K5.out
   (try go_wp2_with fail)
   refine (HS1.out _ K5.out).mono ?_
   rintro e w6 ⟨rfl, hb⟩
   have K6 := Lib.hid (then' K5.out hb)
   clear hb x0 x1 x2 x3 x4
   obtain ⟨⟨x0, x1, x2, x3, x4⟩, -⟩ := HCE.out _ K6.out
   cases s1 with
   | false =>
    by_cases hz : E = 0
    ·have HZ := Lib.hid (HU.out hz)
     have hz0 : (E != 0) = false := by rw [hz]; rfl
     clear hz
     cases hab : (ta == tb) with
     | true =>
      (try go_wp2_with fail)
      go_ret
      exact ⟨rfl, HAL.out.trans (K6.out.mono HAL.out.size)⟩
     | false =>
      (try go_wp2_with fail)
      refine (HS1.out _ K6.out).mono ?_
      rintro e w7 ⟨rfl, hb⟩
      have K7 := Lib.hid (then' K6.out hb)
      clear hb x0 x1 x2 x3 x4
      obtain ⟨⟨x0, x1, x2, x3, x4⟩, -⟩ := HCE.out _ K7.out
      (try go_wp2_with fail)
      go_ret
      exact ⟨rfl, HAL.out.trans (K7.out.mono HAL.out.size)⟩
    ·have hz0 : (E != 0) = true := by rw [bne_iff_ne]; exact hz
     clear hz
     (try go_wp2_with fail)
     go_ret
     exact ⟨rfl, HAL.out.trans (K6.out.mono HAL.out.size)⟩
   | true =>
    (try go_wp2_with fail)
    refine (HS2.out _ K6.out).mono ?_
    rintro e w7 ⟨rfl, hb⟩
    have K7 := Lib.hid (then' K6.out hb)
    clear hb x0 x1 x2 x3 x4
    obtain ⟨⟨x0, x1, x2, x3, x4⟩, -⟩ := HCE.out _ K7.out
    cases s2 with
    | false =>
     by_cases hz : E = 0
     ·have HZ := Lib.hid (HU.out hz)
      have hz0 : (E != 0) = false := by rw [hz]; rfl
      clear hz
      cases hab : (ta == tb) with
      | true =>
       (try go_wp2_with fail)
       go_ret
       exact ⟨rfl, HAL.out.trans (K7.out.mono HAL.out.size)⟩
      | false =>
       (try go_wp2_with fail)
       refine (HS1.out _ K7.out).mono ?_
       rintro e w8 ⟨rfl, hb⟩
       have K8 := Lib.hid (then' K7.out hb)
       clear hb x0 x1 x2 x3 x4
       obtain ⟨⟨x0, x1, x2, x3, x4⟩, -⟩ := HCE.out _ K8.out
       (try go_wp2_with fail)
       have h4 : s4 = false := by
        cases h : s4 with
        | false => rfl
        | true => have := HZ.out (by first | rfl | trivial) (by first | exact h | simpa using h); rw [beq_eq_false_iff_ne] at hab; exact absurd this hab
       refine (HS4.out _ K8.out).mono ?_
       rintro e w9 ⟨rfl, hb⟩
       have K9 := Lib.hid (then' K8.out hb)
       clear hb x0 x1 x2 x3 x4
       obtain ⟨⟨x0, x1, x2, x3, x4⟩, -⟩ := HCE.out _ K9.out
       subst h4
       (try go_wp2_with fail)
       go_ret
       exact ⟨rfl, HAL.out.trans (K9.out.mono HAL.out.size)⟩
     ·have hz0 : (E != 0) = true := by rw [bne_iff_ne]; exact hz
      clear hz
      (try go_wp2_with fail)
      go_ret
      exact ⟨rfl, HAL.out.trans (K7.out.mono HAL.out.size)⟩
    | true =>
     (try go_wp2_with fail)
     have h3 : s3 = true := HT.out (by first | rfl | trivial) (by first | rfl | trivial)
     refine (HS3.out _ K7.out).mono ?_
     rintro e w8 ⟨rfl, hb⟩
     have K8 := Lib.hid (then' K7.out hb)
     clear hb x0 x1 x2 x3 x4
     obtain ⟨⟨x0, x1, x2, x3, x4⟩, -⟩ := HCE.out _ K8.out
     subst h3
     by_cases hz : E = 0
     ·have HZ := Lib.hid (HU.out hz)
      have hz0 : (E != 0) = false := by rw [hz]; rfl
      clear hz
      cases hab : (ta == tb) with
      | true =>
       (try go_wp2_with fail)
       go_ret
       exact ⟨rfl, HAL.out.trans (K8.out.mono HAL.out.size)⟩
      | false =>
       (try go_wp2_with fail)
       refine (HS1.out _ K8.out).mono ?_
       rintro e w9 ⟨rfl, hb⟩
       have K9 := Lib.hid (then' K8.out hb)
       clear hb x0 x1 x2 x3 x4
       obtain ⟨⟨x0, x1, x2, x3, x4⟩, -⟩ := HCE.out _ K9.out
       (try go_wp2_with fail)
       have h4 : s4 = false := by
        cases h : s4 with
        | false => rfl
        | true => have := HZ.out (by first | rfl | trivial) (by first | exact h | simpa using h); rw [beq_eq_false_iff_ne] at hab; exact absurd this hab
       refine (HS4.out _ K9.out).mono ?_
       rintro e w10 ⟨rfl, hb⟩
       have K10 := Lib.hid (then' K9.out hb)
       clear hb x0 x1 x2 x3 x4
       obtain ⟨⟨x0, x1, x2, x3, x4⟩, -⟩ := HCE.out _ K10.out
       subst h4
       (try go_wp2_with fail)
       go_ret
       exact ⟨rfl, HAL.out.trans (K10.out.mono HAL.out.size)⟩
     ·have hz0 : (E != 0) = true := by rw [bne_iff_ne]; exact hz
      clear hz
      (try go_wp2_with fail)
      go_ret
      exact ⟨rfl, HAL.out.trans (K8.out.mono HAL.out.size)⟩)
end Go.Proofs.Ytgpfohpmgbnimaa.hierOrder

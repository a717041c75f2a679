/-
  A clone is the same, and what is done to it is not seen: walked through the program.
-/
import Derived.Test.YtjahilfapcljiaaGreatDoorNormLv
import Derived.Test.YtjahilfapcljiaaGreatDoorNormRy
import Derived.Test.YtjahilfapcljiaaGreatDoorNormRw
import Derived.Test.YtjahilfapcljiaaGreatDoorFrame
import Derived.Test.YtjahilfapcljiaaGreatDoorPrgO
import Derived.Test.YtjahilfapcljiaaGreatDoorLaid7
import Derived.Test.YtjahilfapcljiaaGreatDoorCards
import Derived.Test.YtjahilfapcljiaaGreatDoorTie
import Derived.Deep.DeepHandedRow
/- The walk of NormClones: a clone is the same, and what is done to it is not seen. -/
namespace Go.Proofs.YtjahilfapcljiaaGreatDoor.normClones
open Go.RowKit
open words kindp opp op kind word prg keep

theorem flat_mul {α : Type} {f : α → List Value} {k : Nat} (hf : ∀ x, (f x).length = k) {l : List α} {i : Nat} {x : α} {t : Nat} {u : Value} (h : l[i]? = some x) (hu : (f x)[t]? = some u) : (l.flatMap f)[i * k + t]? = some u := flat_at hf h hu
theorem sx_at {l : List Tx} {i : Nat} {s : Tx} (h : l[i]? = some s) : (SX l)[i]? = some (.string ⟨s.toArray⟩) := by unfold SX; rw [List.getElem?_map, h]; rfl
theorem il_at {l : List Int} {i : Nat} {s : Int} (h : l[i]? = some s) : (IL l)[i]? = some (.int .i64 s) := by unfold IL; rw [List.getElem?_map, h]; rfl

set_option maxRecDepth 100000 in
set_option maxHeartbeats 16000000 in
set_option linter.all false in
theorem walk (x : PrM) (w : World) (hk : PrOk w x) (hb : PrBd x) (hs : Sh w) (hv : Vd w) (hm : Mx w) : Calls Tryz.prog 6 #[.agg (prC x).toArray] w fun e w' => e = .returned (.bool true) ∧ Below w.heap.size w w' := by
  have htw : Wd w := ⟨hs, hm, hv⟩
  obtain ⟨W, hW⟩ : ∃ W, W = w.alloc (.cells (prC x).toArray 27) := ⟨_, rfl⟩
  have hal : Below w.heap.size w W := by rw [hW]; exact (Below.refl _ w).alloc (Nat.le_refl _) _
  have HAL := Lib.hid hal
  have hblk : W.heap[w.heap.size]? = some (.cells (prC x).toArray 27 (0, 0)) := by rw [hW]; exact heap_alloc_new w _
  have HBK := Lib.hid hblk; have HLT := Lib.hid (blk_lt hblk)
  obtain ⟨x0_0, x0_1, x0_2, x0_3, x0_4⟩ := pr_cells hblk
  have K0 := Lib.hid (Below.refl W.heap.size W)
  have HTW := Lib.hid (htw.below hal)
  have hkW := hk.below hal
  have HKW := Lib.hid hkW
  have HBD := Lib.hid hb
  have HGR := Lib.hid (fun v (hv : Below W.heap.size W v) => great_w x v (hkW.below hv) hb)
  have HLV := Lib.hid (fun v (hv : Below W.heap.size W v) => live_w v ((htw.below hal).below hv))
  have HRC := Lib.hid (fun v (hv : Below W.heap.size W v) (hg : GrP x) => rclone x v (hkW.below hv) hg)
  have HPC := Lib.hid (fun v (hv : Below W.heap.size W v) (hg : GrP x) => clone_g x v (hkW.below hv) hg)
  have HCE := Lib.hid (show ∀ v : World, Below W.heap.size W v → v.cell? ⟨w.heap.size, 0, none⟩ = some (.slice x.A1 x.cs.length x.c1) ∧ v.cell? ⟨w.heap.size, 1, none⟩ = some (.slice x.A2 x.ns.length x.c2) ∧ v.cell? ⟨w.heap.size, 2, none⟩ = some (.string ⟨x.ec.toArray⟩) ∧ v.cell? ⟨w.heap.size, 3, none⟩ = some (.string ⟨x.en.toArray⟩) ∧ v.cell? ⟨w.heap.size, 4, none⟩ = some (.string ⟨x.ed.toArray⟩) from fun v hv => pr_cells ((hv.block _ HLT.out).trans HBK.out))
  unfold prC at hW HGR HRC HPC ⊢
  try dsimp only at hW HGR HRC HPC ⊢
  have HW := Lib.hid hW
  clear hal hblk hW hk hb hs hv hm htw hkW
  go_enter Tryz.func6, Tryz.ntmps6
  go_wp2_with fail
  rw [← HW.out]
  (try go_wp2_with fail)
  clear x0_0 x0_1 x0_2 x0_3 x0_4
  refine (HGR.out _ K0.out).mono ?_
  rintro e v3 ⟨g, rfl, hg, hb3⟩
  have K3 := Lib.hid hb3
  have HG := Lib.hid hg
  clear hb3 hg
  cases g with
  | true =>
    go_wp2_with fail
    refine (HLV.out _ K3.out).mono ?_
    rintro e v4 ⟨rfl, hb4⟩
    have K4 := Lib.hid (then' K3.out hb4)
    clear hb4
    go_wp2
    go_ret
    exact ⟨rfl, HAL.out.trans (K4.out.mono HAL.out.size)⟩
  | false =>
    have hgp := HG.out rfl
    have HGP := Lib.hid hgp
    clear hgp
    obtain ⟨x1_0, x1_1, x1_2, x1_3, x1_4⟩ := HCE.out _ K3.out
    go_wp2_with fail
    clear x1_0 x1_1 x1_2 x1_3 x1_4
    refine (HRC.out _ K3.out HGP.out).mono ?_
    rintro e v4 ⟨⟨y, rfl, hyp, hyo⟩, hb4⟩
    unfold prC
    try dsimp only
    have k4 := then' K3.out hb4
    obtain ⟨V4, hV4⟩ : ∃ V, V = v4.alloc (.cells #[.slice y.A1 y.cs.length y.c1, .slice y.A2 y.ns.length y.c2, .string ⟨y.ec.toArray⟩, .string ⟨y.en.toArray⟩, .string ⟨y.ed.toArray⟩] 27) := ⟨_, rfl⟩
    have b4 : Below W.heap.size W V4 := by rw [hV4]; exact k4.alloc k4.size _
    have s4 : V4.heap.size = v4.heap.size + 1 := by rw [hV4]; simp
    have n4 : V4.heap[v4.heap.size]? = some (.cells #[.slice y.A1 y.cs.length y.c1, .slice y.A2 y.ns.length y.c2, .string ⟨y.ec.toArray⟩, .string ⟨y.en.toArray⟩, .string ⟨y.ed.toArray⟩] 27 (0, 0)) := by rw [hV4]; exact heap_alloc_new v4 _
    have oy : PrOk V4 y := (hyo.below (by rw [hV4]; exact (Below.refl _ _).alloc (Nat.le_refl _) _)).ok
    obtain ⟨x1_0, x1_1, x1_2, x1_3, x1_4⟩ := HCE.out _ b4
    have e0 := x1_0; have e1 := x1_1; have e2 := x1_2; have e3 := x1_3; have e4 := x1_4
    rw [hV4] at e0 e1 e2 e3 e4
    have HV4 := Lib.hid hV4; have B4 := Lib.hid b4; have S4 := Lib.hid s4; have N4 := Lib.hid n4; have OY := Lib.hid oy; have YP := Lib.hid hyp
    clear hV4 b4 s4 n4 oy hyp hyo hb4 k4
    go_wp2_with fail
    rw [← HV4.out]
    clear e0 e1 e2 e3 e4 x1_0 x1_1 x1_2 x1_3 x1_4
    refine (HPC.out _ B4.out HGP.out).mono ?_
    rintro e v5 ⟨⟨z, rfl, hzp, hzo⟩, hb5⟩
    unfold prC
    try dsimp only
    obtain ⟨V5, hV5⟩ : ∃ V, V = v5.alloc (.cells #[.slice z.A1 z.cs.length z.c1, .slice z.A2 z.ns.length z.c2, .string ⟨z.ec.toArray⟩, .string ⟨z.en.toArray⟩, .string ⟨z.ed.toArray⟩] 27) := ⟨_, rfl⟩
    have b5 : Below V4.heap.size V4 V5 := by rw [hV5]; exact hb5.alloc hb5.size _
    have n5 : V5.heap[v5.heap.size]? = some (.cells #[.slice z.A1 z.cs.length z.c1, .slice z.A2 z.ns.length z.c2, .string ⟨z.ec.toArray⟩, .string ⟨z.en.toArray⟩, .string ⟨z.ed.toArray⟩] 27 (0, 0)) := by rw [hV5]; exact heap_alloc_new v5 _
    have oz : OwP V4.heap.size V5 z := hzo.below (by rw [hV5]; exact (Below.refl _ _).alloc (Nat.le_refl _) _)
    have hz5 : V4.heap.size ≤ v5.heap.size := hb5.size
    have HV5 := Lib.hid hV5; have B5 := Lib.hid b5; have N5 := Lib.hid n5; have OZ := Lib.hid oz; have ZP := Lib.hid hzp; have HZ5 := Lib.hid hz5
    have BW5 := Lib.hid (B4.out.trans (b5.mono B4.out.size))
    clear hV5 b5 n5 oz hzp hzo hb5 hz5
    go_wp2_with fail
    rw [← HV5.out]
    refine (HLV.out _ BW5.out).mono ?_
    rintro e v6 ⟨rfl, hb6⟩
    have B6 := Lib.hid (B5.out.trans (hb6.mono B5.out.size))
    have BW6 := Lib.hid (B4.out.trans (B6.out.mono B4.out.size))
    have N6 := Lib.hid ((hb6.block _ (blk_lt N5.out)).trans N5.out)
    have OZ6 := Lib.hid (OZ.out.below hb6)
    have h7 := rsame x z v6 (HKW.out.below BW6.out) OZ6.out.ok HBD.out ZP.out
    unfold prC at h7
    try dsimp only at h7
    have H7 := Lib.hid h7
    obtain ⟨x1_0, x1_1, x1_2, x1_3, x1_4⟩ := HCE.out _ BW6.out
    obtain ⟨z0, z1, z2, z3, z4⟩ := pr_cells N6.out
    clear hb6 h7
    go_wp2_with fail
    clear x1_0 x1_1 x1_2 x1_3 x1_4 z0 z1 z2 z3 z4
    refine H7.out.mono ?_
    rintro e X0 ⟨rfl, hb7⟩
    have B7 := Lib.hid (B6.out.trans (hb7.mono B6.out.size))
    have N7 := Lib.hid ((hb7.block _ (blk_lt N6.out)).trans N6.out)
    have OZ7 := Lib.hid (OZ6.out.below hb7)
    have LT7 := Lib.hid (blk_lt N7.out)
    clear hb7
    obtain ⟨sz, hsz⟩ : ∃ s, s = V4.heap.size := ⟨_, rfl⟩
    obtain ⟨qb, hqb⟩ : ∃ s, s = v5.heap.size := ⟨_, rfl⟩
    have SZ := Lib.hid hsz; have QB := Lib.hid hqb
    have hzq : sz ≤ qb := by rw [hsz, hqb]; exact HZ5.out
    have HZQ := Lib.hid hzq
    obtain ⟨n, hn⟩ : ∃ n, n = z.cs.length := ⟨_, rfl⟩
    obtain ⟨nn, hnn⟩ : ∃ n, n = z.ns.length := ⟨_, rfl⟩
    have zb := pP_bd ZP.out HBD.out
    have ZB := Lib.hid zb
    have nI : (n : Int) ≤ 281474976710656 := by have := zb.1.1; omega
    have nnI : (nn : Int) ≤ 281474976710656 := by have := zb.2.1.1; omega
    have NN := Lib.hid hn; have NNN := Lib.hid hnn
    have o1 := OZ7.out.1; have o2 := OZ7.out.2.1
    rw [← hsz] at o1 o2
    have OC := Lib.hid (show ∀ c ∈ z.cs, OwC sz X0 c from fun c hc => by rw [hsz]; exact OZ7.out.2.2 c hc)
    obtain ⟨ZA, hZA⟩ : ∃ a, a = z.A1 := ⟨_, rfl⟩
    obtain ⟨ZN, hZN⟩ : ∃ a, a = z.A2 := ⟨_, rfl⟩
    have hQ : X0.heap[qb]? = some (.cells #[.slice ZA n z.c1, .slice ZN nn z.c2, .string ⟨z.ec.toArray⟩, .string ⟨z.en.toArray⟩, .string ⟨z.ed.toArray⟩] 27 (0, 0)) := by rw [hqb, hZA, hZN, hn, hnn]; exact N7.out
    rw [← hn, ← hZA] at o1
    rw [← hnn, ← hZN] at o2
    have HO1 := Lib.hid o1; have HO2 := Lib.hid o2; have HQ := Lib.hid hQ
    have HQ0 := Lib.hid (show ∀ u : World, Keep sz X0 u → u.cell? ⟨qb, 0, none⟩ = some (.slice ZA n z.c1) ∧ u.cell? ⟨qb, 1, none⟩ = some (.slice ZN nn z.c2) from fun u hu => by
      obtain ⟨t0, r0, i0, -⟩ := hu.cell HZQ.out HQ.out (j := 0) rfl
      obtain ⟨t1, r1, i1, -⟩ := hu.cell HZQ.out HQ.out (j := 1) rfl
      rw [i0.slice] at r0; rw [i1.slice] at r1
      exact ⟨r0, r1⟩)
    rw [← hqb]
    obtain ⟨j0, -⟩ := HQ0.out X0 (Keep.refl _ _)
    clear hsz hqb hzq hn hnn zb o1 o2 hZA hZN hQ
    go_wp2
    clear j0
    go_loopw [5] (fun i wr => ∃ k : Nat, i = .int .i64 (k : Int) ∧ k ≤ n ∧ Keep sz X0 wr) (fun i _ => n - (intOf i).toNat)
    case atStart => exact ⟨0, rfl, Nat.zero_le _, Keep.refl _ _⟩
    case round =>
      obtain ⟨k, rfl, hk, hkp⟩ := hrel
      obtain ⟨wa, hwa⟩ : ∃ u, u = wr := ⟨_, rfl⟩
      subst hwa
      have KA := Lib.hid hkp
      obtain ⟨q0, -⟩ := HQ0.out _ hkp
      by_cases hlt : k < n
      · have hltI : (k : Int) < (n : Int) := by omega
        obtain ⟨c, hc⟩ : ∃ c, z.cs[k]? = some c := ⟨z.cs[k]'(by rw [← NN.out]; exact hlt), List.getElem?_eq_getElem _⟩
        have oc := OC.out c (List.mem_of_getElem? hc)
        have cb := ZB.out.1.2 c (List.mem_of_getElem? hc)
        obtain ⟨gc, eA, hgc, hgl⟩ := keep.own_some HO1.out (by omega)
        subst eA
        have r1 := oc.1; have r2 := oc.2.1; have r3 := oc.2.2.1
        obtain ⟨m1, hm1⟩ : ∃ n, n = c.is.length := ⟨_, rfl⟩
        obtain ⟨m2, hm2⟩ : ∃ n, n = c.fs.length := ⟨_, rfl⟩
        obtain ⟨m3, hm3⟩ : ∃ n, n = c.ms.length := ⟨_, rfl⟩
        obtain ⟨D1, hD1⟩ : ∃ n, n = c.A1 := ⟨_, rfl⟩
        obtain ⟨D2, hD2⟩ : ∃ n, n = c.A2 := ⟨_, rfl⟩
        obtain ⟨D3, hD3⟩ : ∃ n, n = c.A3 := ⟨_, rfl⟩
        have m1I : (m1 : Int) ≤ 281474976710656 := by have := cb.2.2.1.1; omega
        have m2I : (m2 : Int) ≤ 281474976710656 := by have := cb.2.2.2.1.1; omega
        have m3I : (m3 : Int) ≤ 281474976710656 := by have := cb.2.2.2.2.1; omega
        have HC := Lib.hid (show ∀ u : World, Keep sz X0 u → u.cell? ⟨qb, 0, none⟩ = some (.slice (some ⟨gc, 0, none⟩) n z.c1) ∧ u.cell? ⟨gc, k * 7 + 4, none⟩ = some (.slice D1 m1 c.c1) ∧ u.cell? ⟨gc, k * 7 + 5, none⟩ = some (.slice D2 m2 c.c2) ∧ u.cell? ⟨gc, k * 7 + 6, none⟩ = some (.slice D3 m3 c.c3) from fun u hu => by
          obtain ⟨t4, p4, i4, -⟩ := hu.own HO1.out (flat_mul (f := clC) (k := 7) (fun _ => rfl) hc (t := 4) rfl)
          obtain ⟨t5, p5, i5, -⟩ := hu.own HO1.out (flat_mul (f := clC) (k := 7) (fun _ => rfl) hc (t := 5) rfl)
          obtain ⟨t6, p6, i6, -⟩ := hu.own HO1.out (flat_mul (f := clC) (k := 7) (fun _ => rfl) hc (t := 6) rfl)
          rw [i4.slice] at p4; rw [i5.slice] at p5; rw [i6.slice] at p6
          rw [hm1, hm2, hm3, hD1, hD2, hD3]
          exact ⟨(HQ0.out u hu).1, p4, p5, p6⟩)
        rw [← hm1, ← hD1] at r1; rw [← hm2, ← hD2] at r2; rw [← hm3, ← hD3] at r3
        have R1 := Lib.hid r1; have R2 := Lib.hid r2; have R3 := Lib.hid r3
        have OM := Lib.hid oc.2.2.2; have CB := Lib.hid cb
        have M1 := Lib.hid hm1; have M2 := Lib.hid hm2; have M3 := Lib.hid hm3
        have GL := Lib.hid hgl
        clear hc oc cb r1 r2 r3 hm1 hm2 hm3 hD1 hD2 hD3 hkp q0 hgc hgl
        obtain ⟨q0, q4, q5, q6⟩ := HC.out _ KA.out
        go_wp2
        clear q0 q4 q5 q6
        go_loopw [6] (fun i wr => ∃ k : Nat, i = .int .i64 (k : Int) ∧ k ≤ m3 ∧ Keep sz X0 wr) (fun i _ => m3 - (intOf i).toNat)
        case atStart => exact ⟨0, rfl, Nat.zero_le _, KA.out⟩
        case round =>
          obtain ⟨j, rfl, hj, hkp⟩ := hrel
          obtain ⟨wb, hwb⟩ : ∃ u, u = wr := ⟨_, rfl⟩
          subst hwb
          have KB := Lib.hid hkp
          obtain ⟨q0, q4, q5, q6⟩ := HC.out _ hkp
          by_cases hlt2 : j < m3
          · have hltI2 : (j : Int) < (m3 : Int) := by omega
            obtain ⟨m, hm⟩ : ∃ m, c.ms[j]? = some m := ⟨c.ms[j]'(by rw [← M3.out]; exact hlt2), List.getElem?_eq_getElem _⟩
            have om := OM.out m (List.mem_of_getElem? hm)
            have mb := CB.out.2.2.2.2.2 m (List.mem_of_getElem? hm)
            obtain ⟨gm, eA, hgm, hgl⟩ := keep.own_some R3.out (by omega)
            subst eA
            obtain ⟨nc, hnc⟩ : ∃ n, n = m.co.length := ⟨_, rfl⟩
            obtain ⟨E1, hE1⟩ : ∃ n, n = m.A := ⟨_, rfl⟩
            have ncI : (nc : Int) ≤ 281474976710656 := by have := mb.2.2.1; omega
            have HM := Lib.hid (show ∀ u : World, Keep sz X0 u → ∃ s1 s2 a, u.cell? ⟨gm, j * 6, none⟩ = some (.string s1) ∧ u.cell? ⟨gm, j * 6 + 1, none⟩ = some (.string s2) ∧ u.cell? ⟨gm, j * 6 + 2, none⟩ = some (.bool m.st) ∧ u.cell? ⟨gm, j * 6 + 3, none⟩ = some (.bool m.ab) ∧ u.cell? ⟨gm, j * 6 + 4, none⟩ = some (.int .i64 a) ∧ u.cell? ⟨gm, j * 6 + 5, none⟩ = some (.slice E1 nc m.c) ∧ u.frozen? ⟨gm, j * 6 + 4, none⟩ = false from fun u hu => by
              obtain ⟨t0, p0, i0, -⟩ := hu.own R3.out (flat_mul (f := meC) (k := 6) (fun _ => rfl) hm (t := 0) rfl)
              obtain ⟨t1, p1, i1, -⟩ := hu.own R3.out (flat_mul (f := meC) (k := 6) (fun _ => rfl) hm (t := 1) rfl)
              obtain ⟨t2, p2, i2, -⟩ := hu.own R3.out (flat_mul (f := meC) (k := 6) (fun _ => rfl) hm (t := 2) rfl)
              obtain ⟨t3, p3, i3, -⟩ := hu.own R3.out (flat_mul (f := meC) (k := 6) (fun _ => rfl) hm (t := 3) rfl)
              obtain ⟨t4, p4, i4, f4⟩ := hu.own R3.out (flat_mul (f := meC) (k := 6) (fun _ => rfl) hm (t := 4) rfl)
              obtain ⟨t5, p5, i5, -⟩ := hu.own R3.out (flat_mul (f := meC) (k := 6) (fun _ => rfl) hm (t := 5) rfl)
              obtain ⟨s1, rfl⟩ := i0.str
              obtain ⟨s2, rfl⟩ := i1.str
              obtain ⟨a, rfl⟩ := i4.int
              rw [i2.bool] at p2; rw [i3.bool] at p3; rw [i5.slice] at p5
              rw [hnc, hE1]
              exact ⟨s1, s2, a, p0, p1, p2, p3, p4, p5, f4⟩)
            have r1 := om.1
            rw [← hnc, ← hE1] at r1
            have RI := Lib.hid r1; have OI := Lib.hid om.2; have MB := Lib.hid mb; have NC := Lib.hid hnc; have GM := Lib.hid hgm; have GML := Lib.hid hgl
            clear hm om mb hnc hE1 r1 hkp hgm hgl
            obtain ⟨s1, s2, a, c0, c1, c2, c3, c4, c5, cf⟩ := HM.out _ KB.out
            obtain ⟨mi, hmi⟩ : ∃ s, s = wb.heap.size := ⟨_, rfl⟩
            have HMI := Lib.hid hmi
            have hkm : Keep sz X0 (wb.alloc (.cells #[.string s1, .string s2, .bool m.st, .bool m.ab, .int .i64 a, .slice E1 nc m.c] 46)) := KB.out.alloc (Nat.le_trans (by rw [SZ.out]; exact B7.out.size) KB.out.below.size) _
            have hbm : (wb.alloc (.cells #[.string s1, .string s2, .bool m.st, .bool m.ab, .int .i64 a, .slice E1 nc m.c] 46)).heap[mi]? = some (.cells #[.string s1, .string s2, .bool m.st, .bool m.ab, .int .i64 a, .slice E1 nc m.c] 46 (0, 0)) := by rw [hmi]; exact heap_alloc_new wb _
            have hxm : X0.heap.size ≤ mi := by rw [hmi]; exact KB.out.below.size
            have HKM := Lib.hid hkm; have HBM := Lib.hid hbm; have HXM := Lib.hid hxm
            have l5 : (wb.alloc (.cells #[.string s1, .string s2, .bool m.st, .bool m.ab, .int .i64 a, .slice E1 nc m.c] 46)).cell? ⟨wb.heap.size, 5, none⟩ = some (.slice E1 nc m.c) := by rw [← hmi]; exact cell_of_row _ _ 5 _ _ _ hbm
            clear hmi hkm hbm hxm
            go_wp2
            clear q0 q4 q5 q6 c0 c1 c2 c3 c4 c5 cf l5
            try rw [← HMI.out]
            go_loopw [8] (fun i wr => ∃ k : Nat, i = .int .i64 (k : Int) ∧ k ≤ nc ∧ Keep sz X0 wr ∧ wr.heap[mi]? = some (.cells #[.string s1, .string s2, .bool m.st, .bool m.ab, .int .i64 a, .slice E1 nc m.c] 46 (0, 0))) (fun i _ => nc - (intOf i).toNat)
            case atStart => exact ⟨0, rfl, Nat.zero_le _, HKM.out, HBM.out⟩
            case round =>
              obtain ⟨i, rfl, hi, hkp, hbm⟩ := hrel
              obtain ⟨wc, hwc⟩ : ∃ u, u = wr := ⟨_, rfl⟩
              subst hwc
              have KC := Lib.hid hkp; have BC := Lib.hid hbm
              have l5 : wc.cell? ⟨mi, 5, none⟩ = some (.slice E1 nc m.c) := cell_of_row _ _ 5 _ _ _ hbm
              by_cases hlt3 : i < nc
              · have hltI3 : (i : Int) < (nc : Int) := by omega
                obtain ⟨t, ht⟩ : ∃ t, m.co[i]? = some t := ⟨m.co[i]'(by rw [← NC.out]; exact hlt3), List.getElem?_eq_getElem _⟩
                have ot := OI.out t (List.mem_of_getElem? ht)
                have tb := MB.out.2.2.2 t (List.mem_of_getElem? ht)
                obtain ⟨gi, eA, hgi, hgl⟩ := keep.own_some RI.out (by omega)
                subst eA
                obtain ⟨na, hna⟩ : ∃ n, n = t.i.ar.length := ⟨_, rfl⟩
                obtain ⟨E2, hE2⟩ : ∃ n, n = t.A := ⟨_, rfl⟩
                have naI : (na : Int) ≤ 281474976710656 := by have := tb.1; omega
                have HI := Lib.hid (show ∀ u : World, Keep sz X0 u → ∃ b, u.cell? ⟨gi, i * 9 + 1, none⟩ = some (.int .i64 b) ∧ u.cell? ⟨gi, i * 9 + 8, none⟩ = some (.slice E2 na t.c) ∧ u.frozen? ⟨gi, i * 9 + 1, none⟩ = false from fun u hu => by
                  obtain ⟨t1, p1, i1, f1⟩ := hu.own RI.out (flat_mul (f := inC) (k := 9) (fun _ => rfl) ht (t := 1) rfl)
                  obtain ⟨t8, p8, i8, -⟩ := hu.own RI.out (flat_mul (f := inC) (k := 9) (fun _ => rfl) ht (t := 8) rfl)
                  obtain ⟨b, rfl⟩ := i1.int
                  rw [i8.slice] at p8
                  rw [hna, hE2]
                  exact ⟨b, p1, p8, f1⟩)
                have r1 : X0.ownsRow sz 3 1 (.slice E2 na t.c) na (IL t.i.ar) := by rw [hna, hE2]; exact ot
                have RA := Lib.hid r1; have NA := Lib.hid hna; have GI := Lib.hid hgi; have GIL := Lib.hid hgl
                clear ht ot tb hna hE2 r1 hkp hbm hgi hgl
                obtain ⟨b, d1, d8, df⟩ := HI.out _ KC.out
                go_wp2
                clear l5 d1 d8 df
                go_loopw [9] (fun i wr => ∃ k : Nat, i = .int .i64 (k : Int) ∧ k ≤ na ∧ Keep sz X0 wr ∧ wr.heap[mi]? = some (.cells #[.string s1, .string s2, .bool m.st, .bool m.ab, .int .i64 a, .slice (some ⟨gi, 0, none⟩) nc m.c] 46 (0, 0))) (fun i _ => na - (intOf i).toNat)
                case atStart => exact ⟨0, rfl, Nat.zero_le _, KC.out, BC.out⟩
                case round =>
                  obtain ⟨y', rfl, hy, hkp, hbm⟩ := hrel
                  obtain ⟨wd, hwd⟩ : ∃ u, u = wr := ⟨_, rfl⟩
                  subst hwd
                  have KD := Lib.hid hkp; have BD := Lib.hid hbm
                  have l5 : wd.cell? ⟨mi, 5, none⟩ = some (.slice (some ⟨gi, 0, none⟩) nc m.c) := cell_of_row _ _ 5 _ _ _ hbm
                  obtain ⟨b, d1, d8, df⟩ := HI.out _ hkp
                  by_cases hlt4 : y' < na
                  · have hltI4 : (y' : Int) < (na : Int) := by omega
                    obtain ⟨s, hs⟩ : ∃ s, t.i.ar[y']? = some s := ⟨t.i.ar[y']'(by rw [← NA.out]; exact hlt4), List.getElem?_eq_getElem _⟩
                    obtain ⟨ga, eA, hga, hgl⟩ := keep.own_some RA.out (by omega)
                    subst eA
                    obtain ⟨t1, p1, i1, f1⟩ := hkp.own RA.out (il_at hs)
                    obtain ⟨h, rfl⟩ := i1.int
                    have hne : mi ≠ ga := by have := HXM.out; omega
                    have HGA := Lib.hid hga; have HNE := Lib.hid hne; have P1 := Lib.hid p1
                    clear hs i1 hkp hbm hga hgl hne
                    go_wp2
                    go_roundw
                    case rel => exact ⟨y' + 1, by go_num, by omega, KD.out.set HGA.out _ (fun u hu => by rw [P1.out] at hu; cases hu; exact sim_int _ _), (heap_setCell_other _ ⟨ga, y', none⟩ mi _ HNE.out).trans BD.out⟩
                    case measure => simp [intOf]; omega
                  · have hltI4 : ¬ (y' : Int) < (na : Int) := by omega
                    have hne : mi ≠ gi := by have := HXM.out; have := GIL.out; omega
                    have HNE := Lib.hid hne; have P1 := Lib.hid d1
                    clear hkp hbm hne
                    go_wp2
                    go_roundw
                    case rel => exact ⟨i + 1, by go_num, by omega, KD.out.set GI.out _ (fun u hu => by rw [P1.out] at hu; cases hu; exact sim_int _ _), (heap_setCell_other _ ⟨gi, i * 9 + 1, none⟩ mi _ HNE.out).trans BD.out⟩
                    case measure => simp [intOf]; omega
              · have hltI3 : ¬ (i : Int) < (nc : Int) := by omega
                obtain ⟨q0, q4, q5, q6⟩ := HC.out _ hkp
                obtain ⟨s1', s2', a', c0, c1, c2, c3, c4, c5, cf⟩ := HM.out _ hkp
                have P1 := Lib.hid c4
                clear hkp hbm c0 c1 c2 c3 c5
                go_wp2
                go_roundw
                case rel => exact ⟨j + 1, by go_num, by omega, KC.out.set GM.out _ (fun u hu => by rw [P1.out] at hu; cases hu; exact sim_int _ _)⟩
                case measure => simp [intOf]; omega
          · have hltI2 : ¬ (j : Int) < (m3 : Int) := by omega
            clear hkp
            go_wp2
            clear q0 q4 q5 q6
            go_loopw [10] (fun i wr => ∃ k : Nat, i = .int .i64 (k : Int) ∧ k ≤ m2 ∧ Keep sz X0 wr) (fun i _ => m2 - (intOf i).toNat)
            case atStart => exact ⟨0, rfl, Nat.zero_le _, KB.out⟩
            case round =>
              obtain ⟨j, rfl, hj, hkp⟩ := hrel
              obtain ⟨we, hwe⟩ : ∃ u, u = wr := ⟨_, rfl⟩
              subst hwe
              have KE := Lib.hid hkp
              obtain ⟨q0, q4, q5, q6⟩ := HC.out _ hkp
              by_cases hlt2 : j < m2
              · have hltI2 : (j : Int) < (m2 : Int) := by omega
                obtain ⟨f, hf⟩ : ∃ f, c.fs[j]? = some f := ⟨c.fs[j]'(by rw [← M2.out]; exact hlt2), List.getElem?_eq_getElem _⟩
                obtain ⟨gf, eA, hgf, hgl⟩ := keep.own_some R2.out (by omega)
                subst eA
                obtain ⟨t1, p1, i1, f1⟩ := hkp.own R2.out (flat_mul (f := fiC) (k := 4) (fun _ => rfl) hf (t := 0) rfl)
                obtain ⟨h, rfl⟩ := i1.str
                have HGF := Lib.hid hgf; have P1 := Lib.hid p1
                try rw [Nat.add_zero] at p1 f1
                clear hf i1 hkp hgf hgl
                go_wp2
                go_roundw
                case rel => exact ⟨j + 1, by go_num, by omega, KE.out.set HGF.out _ (fun u hu => by have h9 := P1.out; try rw [Nat.add_zero] at h9; rw [h9] at hu; cases hu; exact sim_str _ _)⟩
                case measure => simp [intOf]; omega
              · have hltI2 : ¬ (j : Int) < (m2 : Int) := by omega
                clear hkp
                go_wp2
                clear q0 q4 q5 q6
                go_loopw [11] (fun i wr => ∃ k : Nat, i = .int .i64 (k : Int) ∧ k ≤ m1 ∧ Keep sz X0 wr) (fun i _ => m1 - (intOf i).toNat)
                case atStart => exact ⟨0, rfl, Nat.zero_le _, KE.out⟩
                case round =>
                  obtain ⟨j, rfl, hj, hkp⟩ := hrel
                  obtain ⟨wf, hwf⟩ : ∃ u, u = wr := ⟨_, rfl⟩
                  subst hwf
                  have KF := Lib.hid hkp
                  obtain ⟨q0, q4, q5, q6⟩ := HC.out _ hkp
                  by_cases hlt2 : j < m1
                  · have hltI2 : (j : Int) < (m1 : Int) := by omega
                    obtain ⟨s, hs⟩ : ∃ f, c.is[j]? = some f := ⟨c.is[j]'(by rw [← M1.out]; exact hlt2), List.getElem?_eq_getElem _⟩
                    obtain ⟨gf, eA, hgf, hgl⟩ := keep.own_some R1.out (by omega)
                    subst eA
                    obtain ⟨t1, p1, i1, f1⟩ := hkp.own R1.out (sx_at hs)
                    obtain ⟨h, rfl⟩ := i1.str
                    have HGF := Lib.hid hgf; have P1 := Lib.hid p1
                    clear hs i1 hkp hgf hgl
                    go_wp2
                    go_roundw
                    case rel => exact ⟨j + 1, by go_num, by omega, KF.out.set HGF.out _ (fun u hu => by rw [P1.out] at hu; cases hu; exact sim_str _ _)⟩
                    case measure => simp [intOf]; omega
                  · have hltI2 : ¬ (j : Int) < (m1 : Int) := by omega
                    clear hkp
                    go_wp2
                    go_roundw
                    case rel => exact ⟨k + 1, by go_num, by omega, KF.out⟩
                    case measure => simp [intOf]; omega
      · have hltI : ¬ (k : Int) < (n : Int) := by omega
        obtain ⟨q0, q1⟩ := HQ0.out _ hkp
        clear hkp
        go_wp2
        clear q0 q1
        go_loopw [12] (fun i wr => ∃ k : Nat, i = .int .i64 (k : Int) ∧ k ≤ nn ∧ Keep sz X0 wr) (fun i _ => nn - (intOf i).toNat)
        case atStart => exact ⟨0, rfl, Nat.zero_le _, KA.out⟩
        case round =>
          obtain ⟨j, rfl, hj, hkp⟩ := hrel
          obtain ⟨wg, hwg⟩ : ∃ u, u = wr := ⟨_, rfl⟩
          subst hwg
          have KG := Lib.hid hkp
          obtain ⟨q0, q1⟩ := HQ0.out _ hkp
          by_cases hlt2 : j < nn
          · have hltI2 : (j : Int) < (nn : Int) := by omega
            obtain ⟨s, hs⟩ : ∃ f, z.ns[j]? = some f := ⟨z.ns[j]'(by rw [← NNN.out]; exact hlt2), List.getElem?_eq_getElem _⟩
            obtain ⟨gf, eA, hgf, hgl⟩ := keep.own_some HO2.out (by omega)
            subst eA
            obtain ⟨t1, p1, i1, f1⟩ := hkp.own HO2.out (sx_at hs)
            obtain ⟨h, rfl⟩ := i1.str
            have HGF := Lib.hid hgf; have P1 := Lib.hid p1
            clear hs i1 hkp hgf hgl
            go_wp2
            go_roundw
            case rel => exact ⟨j + 1, by go_num, by omega, KG.out.set HGF.out _ (fun u hu => by rw [P1.out] at hu; cases hu; exact sim_str _ _)⟩
            case measure => simp [intOf]; omega
          · have hltI2 : ¬ (j : Int) < (nn : Int) := by omega
            have hE : Below V4.heap.size V4 wg := B7.out.trans (by have h9 := hkp.below; rw [SZ.out] at h9; exact h9)
            have hWE := B4.out.trans (hE.mono B4.out.size)
            have h9 := rsame x y wg (HKW.out.below hWE) (OY.out.below hE) HBD.out YP.out
            unfold prC at h9
            try dsimp only at h9
            have H9 := Lib.hid h9; have HWE := Lib.hid hWE
            obtain ⟨x1_0, x1_1, x1_2, x1_3, x1_4⟩ := HCE.out _ hWE
            obtain ⟨y0, y1, y2, y3, y4⟩ := pr_cells ((hE.block _ (blk_lt N4.out)).trans N4.out)
            clear hkp hE hWE h9
            go_wp2_with fail
            refine H9.out.mono ?_
            rintro e wz ⟨rfl, hbz⟩
            have KZ := Lib.hid (then' HWE.out hbz)
            clear hbz
            go_wp2
            go_ret
            exact ⟨rfl, HAL.out.trans (KZ.out.mono HAL.out.size)⟩
end Go.Proofs.YtjahilfapcljiaaGreatDoor.normClones

/- A clone is the same, and what is done to it is not seen: walked through the program. -/
namespace Go.Proofs.YtjahilfapcljiaaGreatDoor.normClones
open Go.ChangeShapes Go.WideShapes Go.ChangeAt Go.RowKit
open Go.Proofs.YtjahilfapcljiaaGreatDoor.words Go.Proofs.YtjahilfapcljiaaGreatDoor.frame

set_option maxRecDepth 100000 in
theorem reads (os : Os) {H : Type} (enc : TypeId × Value → H) : ∃ places, DataW.whole enc Tryz.prog ((Laid7.laidWorld os).forCall (fun _ _ => 0) ⟨#[], #[.agg #[.slice none 0 0, .slice none 0 0, .string ⟨#[]⟩, .string ⟨#[]⟩, .string ⟨#[]⟩]], []⟩).memory Tryz.f6.params.toList Rows.normClonesSpec.vars false (#[.agg #[.slice none 0 0, .slice none 0 0, .string ⟨#[]⟩, .string ⟨#[]⟩, .string ⟨#[]⟩]] : Array Value).toList 8 = some ([.agg [.nil, .nil, .agg [.lit (.string []), .lit (.string []), .lit (.string [])]]], [], places) :=
  ⟨[], by kernel_rfl⟩
set_option maxRecDepth 100000 in
theorem laid_met (os : Os) : laidMet Tryz.prog Rows.normClonesRow.laid ((Laid7.laidWorld os).forCall (fun _ _ => 0) ⟨#[], #[.agg #[.slice none 0 0, .slice none 0 0, .string ⟨#[]⟩, .string ⟨#[]⟩, .string ⟨#[]⟩]], []⟩).memory :=
  laidMet_of_run' 8 (by kernel_rfl) (by kernel_rfl)
set_option maxRecDepth 100000 in
theorem lifted (os : Os) (started : os.Started) (H : Type) (enc : TypeId × Value → H) (F : Stop.Interp) :
    ReturnsInHanded {} Tryz.checked os 6 .any ((OpenSpec.ofChange Rows.normClonesSpec).preRow enc Tryz.prog Tryz.f6 Rows.normClonesRow.domain false Rows.normClonesRow.laid) (((OpenSpec.ofChange Rows.normClonesSpec).at F).post enc Tryz.prog Tryz.f6 false true false false) := by
  obtain ⟨places, hx⟩ := reads os enc
  refine returnsInHanded_of_row (C := Tryz.checked) (s := (OpenSpec.ofChange Rows.normClonesSpec)) own started (by kernel_rfl) Tryz.func6
    (witness_row_at (enc := enc) (C := Tryz.checked) false (Laid7.laidWorld os) #[.agg #[.slice none 0 0, .slice none 0 0, .string ⟨#[]⟩, .string ⟨#[]⟩, .string ⟨#[]⟩]] rfl (by kernel_rfl) (by kernel_rfl) (by kernel_rfl)
      (OpenSpec.preRow_of_cond 8 hx (by kernel_rfl) (fun k hk => by cases hk) (by kernel_rfl) (laid_met os))) ?_
  intro W base args ds gs before hval0 hW _ _ hz hL hSO _
  have hval : ∀ (j : Nat) t v, Tryz.f6.params[j]? = some t → args[j]? = some v → Value.okWide Tryz.prog W .any base t v := hval0
  have hW' := hW
  obtain ⟨p, q, hA0, hV, rfl, hfz, hnd⟩ := hW
  have hA : DataW.TrodAll enc Tryz.prog W 0 (fun _ => true) true Tryz.f6.params.toList args.toList ds p := hA0
  rw [Tryz.params6] at hA hval
  obtain ⟨v0, vs0, d0, ds0, p0, q0, hargs, rfl, rfl, h0, r0⟩ := trodAll_cons hA
  obtain ⟨rfl, rfl, rfl⟩ := trodAll_nil r0
  obtain rfl : args = #[v0] := by cases args; simp_all
  obtain ⟨rfl, rfl⟩ := trodVars_none hV
  have k0 := h0
  have lt0 : ∀ x ∈ p0, x.block < W.heap.size := by obtain ⟨m, hm⟩ := k0; exact DataW.trod_lt m _ _ _ hm
  obtain ⟨x0, rfl, ok0, wt0⟩ := prg.open_prog (hval 0 27 v0 rfl rfl) h0
  have bd0 := wt0 (prg.prog_reach hz (j := 0) rfl rfl)
  have tab0 := Laid7.table hL
  have tab1 := Laid7.voids hL
  have tab2 := Laid7.most hSO
  clear hA0
  refine (walk x0 W ok0 bd0 tab0 tab1 tab2).mono fun e W' ⟨he, bel⟩ => ?_
  subst he
  exact ⟨_, rfl, _, _, _, [], _, [], hW', trodAll_mk1 (shut_bool Tryz.underlying4 _), (trodAll_cons_mk (Below.trod laidOut (by kernel_rfl) (of_decide_eq_true (by kernel_rfl)) k0 bel lt0) trodAll_mk0), rfl, bel.frame _, fun h => by cases h⟩

set_option maxRecDepth 100000 in
theorem said : Rows.NormClonesSaid :=
  OpenClaim.holds_of_cond 6 Tryz.f6 rfl rfl rfl rfl rfl rfl rfl ⟨rfl, rfl, rfl, rfl, rfl⟩ rfl rfl rfl rfl rfl (by kernel_rfl) Tryz.func6 (by kernel_rfl)
    (of_decide_eq_true (by kernel_rfl)) (by unfold Func.isWrapper; first | (rw [if_pos (by decide +kernel)]; kernel_rfl) | (rw [if_neg (by decide +kernel)]; exact ⟨rfl, rfl⟩))
    (fun os started H enc _ F => by rw [OpenClaim.pre_eq_preRow]; exact lifted os started H enc F)

set_option maxRecDepth 100000 in
theorem plain (f : FuncId) (fn : Func) (hf : Tryz.pinned.checked.prog.funcNamed "secateur/secateurlaw08.NormClones" = some f) (hfn : Tryz.pinned.checked.prog.funcs[f]? = some fn) :
    true = Tryz.pinned.checked.prog.looks [] ∧ ∀ (j : Nat) t, fn.params[j]? = some t → Tryz.pinned.checked.prog.wantsStandIn t = false := by
  obtain rfl : f = 6 := Option.some.inj ((show Tryz.prog.funcNamed "secateur/secateurlaw08.NormClones" = some 6 by kernel_rfl).symm.trans hf) |>.symm
  obtain rfl : fn = Tryz.f6 := (Option.some.inj (Tryz.func6.symm.trans hfn)).symm
  refine ⟨by kernel_rfl, fun j t ht => ?_⟩
  rw [Tryz.params6] at ht
  have hm := Array.mem_of_getElem? ht
  simp only [List.mem_toArray, List.mem_cons, List.not_mem_nil, or_false] at hm
  rcases hm with rfl
  · exact (show Tryz.prog.wantsStandIn 27 = false by kernel_rfl)

/-- THE CARD. -/
theorem card : Rows.NormClonesCardSaid :=
  Claim7.holds_tied_plain_at .later [] _ _ _ _ said (fun _ h => by cases h) (by kernel_rfl) (fun _ h => by cases h) normClones_row_tie rfl ⟨rfl, rfl⟩ (by kernel_rfl) rfl plain (by kernel_rfl)
#print axioms card
end Go.Proofs.YtjahilfapcljiaaGreatDoor.normClones

/-
 The nearest class that two are below is below each other one, and it is the same from both sides, where nothing is wrong: walked through the program.
-/
import Derived.Test.YtgpfohpmgbnimaaHierR
namespace Go.Proofs.Ytgpfohpmgbnimaa.hierCommon
open Go.RowKit
open words kindp opp op kind word prg
set_option linter.all false

theorem overD {b : Nat} {a c : World} (h : Below b a c) : Below b a c.drew := ⟨h.os, h.tape, h.output, h.size, h.block⟩

theorem sup_found (cs : List ClM) (a s : Tx) (h : s ∈ supersL cs a) : (findC cs s).isSome = true := by
 have key : ∀ (f : Nat) (t : Tx) (l : List Tx), (∀ o ∈ l, (findC cs o).isSome = true) → ∀ o ∈ supS cs f t l, (findC cs o).isSome = true := by
  intro f
  induction f with
  | zero => intro t l hl; exact hl
  | succ f ih =>
   intro t l hl
   unfold supS
   cases hf : findC cs t with
   | none => exact hl
   | some c =>
    dsimp only
    by_cases hc : l.contains t = true
    ·rw [if_pos hc]; exact hl
    ·rw [if_neg hc]
     refine ih _ _ fun o ho => ?_
     rcases List.mem_append.1 ho with h | h
     ·exact hl o h
     ·simp at h; subst h; rw [hf]; rfl
 exact key _ a [] (by simp) s h

set_option maxRecDepth 100000 in
set_option maxHeartbeats 16000000 in
theorem walk (x : PrM) (a0 b0 c0 : Nat) (w : World) (hk : PrOk w x) (hb : PrBd x) (he : a0 < 256 ∧ b0 < 256 ∧ c0 < 256) : Calls Try.prog 4 #[.agg (prC x).toArray, .agg #[.int .u8 (a0 : Int), .int .u8 (b0 : Int), .int .u8 (c0 : Int)]] w fun e w' => e = .returned (.bool true) ∧ Below w.heap.size w w' := by
 obtain ⟨cs, A1, c1, ns, A2, c2, ec, en, ed⟩ := x
 obtain ⟨n, hn⟩ : ∃ n, n = cs.length := ⟨_, rfl⟩
 obtain ⟨W, hW⟩ : ∃ W, W = (w.alloc (.cells (prC ⟨cs, A1, c1, ns, A2, c2, ec, en, ed⟩).toArray 27)).alloc (.cells #[.int .u8 (a0 : Int), .int .u8 (b0 : Int), .int .u8 (c0 : Int)] 28) := ⟨_, rfl⟩
 have hal : Below w.heap.size w W := by rw [hW]; exact ((Below.refl _ w).alloc (Nat.le_refl _) _).alloc (by simp) _
 have hbi : W.heap[w.heap.size]? = some (.cells (prC ⟨cs, A1, c1, ns, A2, c2, ec, en, ed⟩).toArray 27 (0, 0)) := by rw [hW]; exact (Below.heap_alloc _ _ _ (by simp)).trans (heap_alloc_new w _)
 have hbj : W.heap[w.heap.size + 1]? = some (.cells #[.int .u8 (a0 : Int), .int .u8 (b0 : Int), .int .u8 (c0 : Int)] 28 (0, 0)) := by
  have := heap_alloc_new (w.alloc (.cells (prC ⟨cs, A1, c1, ns, A2, c2, ec, en, ed⟩).toArray 27)) (.cells #[.int .u8 (a0 : Int), .int .u8 (b0 : Int), .int .u8 (c0 : Int)] 28)
  rw [World.size_alloc] at this
  rw [hW]; exact this
 have HAL := Lib.hid hal
 have HCE := Lib.hid (show ∀ v : World, Below W.heap.size W v → (v.cell? ⟨w.heap.size, 0, none⟩ = some (.slice A1 n c1) ∧ v.cell? ⟨w.heap.size, 1, none⟩ = some (.slice A2 ns.length c2) ∧ v.cell? ⟨w.heap.size, 2, none⟩ = some (.string ⟨ec.toArray⟩) ∧ v.cell? ⟨w.heap.size, 3, none⟩ = some (.string ⟨en.toArray⟩) ∧ v.cell? ⟨w.heap.size, 4, none⟩ = some (.string ⟨ed.toArray⟩)) ∧ (v.cell? ⟨w.heap.size + 1, 0, none⟩ = some (.int .u8 (a0 : Int)) ∧ v.cell? ⟨w.heap.size + 1, 1, none⟩ = some (.int .u8 (b0 : Int)) ∧ v.cell? ⟨w.heap.size + 1, 2, none⟩ = some (.int .u8 (c0 : Int))) from fun v hv => by
  rw [hn]
  exact ⟨pr_cells ((hv.block _ (blk_lt hbi)).trans hbi), cell_of_row _ _ 0 _ _ _ ((hv.block _ (blk_lt hbj)).trans hbj), cell_of_row _ _ 1 _ _ _ ((hv.block _ (blk_lt hbj)).trans hbj), cell_of_row _ _ 2 _ _ _ ((hv.block _ (blk_lt hbj)).trans hbj)⟩)
 have HKX := Lib.hid (fun v (hv : Below W.heap.size W v) => (hk.below hal).below hv)
 have HGR := Lib.hid (fun v (hv : Below W.heap.size W v) => great_w ⟨cs, A1, c1, ns, A2, c2, ec, en, ed⟩ v ((hk.below hal).below hv) hb)
 have HNM := fun (h : cs.length ≤ 70) (k : Nat) (h2 : k < 256) v (hv : Below W.heap.size W v) => name_w ⟨cs, A1, c1, ns, A2, c2, ec, en, ed⟩ k v ((hk.below hal).below hv) h h2
 have HKN := Lib.hid (fun (h : GrP ⟨cs, A1, c1, ns, A2, c2, ec, en, ed⟩) => knA_kn h hb)
 have HCK := fun (h : KnH ⟨cs, A1, c1, ns, A2, c2, ec, en, ed⟩ (knA cs)) v (hv : Below W.heap.size W v) => check_w ⟨cs, A1, c1, ns, A2, c2, ec, en, ed⟩ (knA cs) v ((hk.below hal).below hv) h
 have HSB := fun (h : KnH ⟨cs, A1, c1, ns, A2, c2, ec, en, ed⟩ (knA cs)) (s t : Tx) (hs : s ∈ knA cs) v (hv : Below W.heap.size W v) => sub_w ⟨cs, A1, c1, ns, A2, c2, ec, en, ed⟩ (knA cs) s t v ((hk.below hal).below hv) h hs
 have HCO := fun (h : KnH ⟨cs, A1, c1, ns, A2, c2, ec, en, ed⟩ (knA cs)) (g : GrP ⟨cs, A1, c1, ns, A2, c2, ec, en, ed⟩) (s t : Tx) (hs : s ∈ knA cs) (ht : t ∈ knA cs) v (hv : Below W.heap.size W v) => common_w ⟨cs, A1, c1, ns, A2, c2, ec, en, ed⟩ (knA cs) s t v ((hk.below hal).below hv) g h hs ht
 have HUN := fun (h : cs.length ≤ 70) v (hv : Below W.heap.size W v) => unlike_w ⟨cs, A1, c1, ns, A2, c2, ec, en, ed⟩ v ((hk.below hal).below hv) h
 have HRC := fun (h : cs.length ≤ 70) (t : Tx) v (hv : Below W.heap.size W v) => rplace_cl ⟨cs, A1, c1, ns, A2, c2, ec, en, ed⟩ t v ((hk.below hal).below hv).1.2 (by show cs.length ≤ _; omega)
 have HE := Lib.hid he
 have HN := Lib.hid hn
 unfold CheckP at HCK
 unfold prC at hW HGR HNM HCK HSB HCO HUN HRC ⊢
 try dsimp only at hW HGR HNM HCK HSB HCO HUN HRC ⊢
 rw [← hn] at hW HGR HCK HSB HCO ⊢
 simp only [← hn] at HNM HUN HRC
 have HCO := Lib.hid HCO; have HUN := Lib.hid HUN; have HRC := Lib.hid HRC; have HNM := Lib.hid HNM; have HCK := Lib.hid HCK; have HSB := Lib.hid HSB
 have HW := Lib.hid hW
 clear hal hbi hbj hW hk hb hn he
 go_enter Try.func4, Try.ntmps4
 go_wp2_with fail
 try simp only [World.size_alloc]
 rw [← HW.out]
 (try go_wp2_with fail)
 refine (HGR.out _ (Below.refl _ _)).mono ?_
 rintro e v2 ⟨g, rfl, hg, hb2⟩
 have K2 := Lib.hid (show Below W.heap.size W v2 from hb2)
 have HGA := Lib.hid hg
 clear hb2 hg
 cases g with
 | true =>
  go_wp2_with fail
  refine (liveH_w v2).mono ?_
  rintro e v3 ⟨rfl, hb3⟩
  have K3 := Lib.hid (then' K2.out hb3)
  clear hb3
  go_wp2
  go_ret
  exact ⟨rfl, HAL.out.trans (K3.out.mono HAL.out.size)⟩
 | false =>
  have hgp := HGA.out (by first | rfl | trivial)
  have hkn := HKN.out hgp
  have hn70 : n ≤ 70 := by rw [HN.out]; exact hgp.1.1
  have hnI : (n : Int) ≤ 70 := by omega
  have HNX := HNM.out hn70
  have hka := name_kn cs a0
  have hkb := name_kn cs b0
  have hkc := name_kn cs c0
  obtain ⟨F, hF⟩ : ∃ t, t = nameE cs := ⟨_, rfl⟩
  rw [← hF] at hka hkb hkc
  simp only [← hF] at HNX
  obtain ⟨ta, hta⟩ : ∃ t, t = F a0 := ⟨_, rfl⟩
  obtain ⟨tb, htb⟩ : ∃ t, t = F b0 := ⟨_, rfl⟩
  obtain ⟨tc, htc⟩ : ∃ t, t = F c0 := ⟨_, rfl⟩
  rw [← hta] at hka; rw [← htb] at hkb; rw [← htc] at hkc
  have HTA := Lib.hid hta; have HTB := Lib.hid htb; have HTC := Lib.hid htc
  have HCX := HCK.out hkn
  have HC1 := HCO.out hkn hgp ta tb hka hkb
  have HC2 := HCO.out hkn hgp tb ta hkb hka
  have HUX := HUN.out hn70
  have HRX := HRC.out hn70 tc
  have HS2 := HSB.out hkn ta tc hka
  have HS3 := HSB.out hkn tb tc hkb
  have hfi := fun (h : (chkP cs).1 = 0) (hu : UnF cs) => fine_of h hu
  obtain ⟨E, hEE⟩ : ∃ E, E = (chkP cs).1 := ⟨_, rfl⟩
  obtain ⟨N, hNN⟩ : ∃ N, N = (chkP cs).2 := ⟨_, rfl⟩
  rw [← hEE] at HCX hfi; rw [← hNN] at HCX
  have h1 := fun (h : E = 0) (hu : UnF cs) => common_same (hfi h hu) ta tb
  have h2 := fun (h : E = 0) (hu : UnF cs) (hs : commonE cs ta tb ≠ []) => common_sub (hfi h hu) hs
  have h3 := fun (h : E = 0) (hu : UnF cs) (hi : ifB cs tc = false) (p : subB cs ta tc = true) (q : subB cs tb tc = true) => common_near (hfi h hu) hi p q
  have hcn : commonE cs ta tb ≠ [] → commonE cs ta tb ∈ knA cs := fun h => by
   unfold commonE commonN at h ⊢
   split at h
   ·exact absurd rfl h
   ·rename_i hn
    rw [if_neg hn]
    unfold nearL at h ⊢
    cases hf : (supersL cs ta).find? (fun s => (supersL cs tb).contains s) with
    | none => rw [hf] at h; exact absurd rfl h
    | some s =>
     have hm := List.mem_of_find?_eq_some hf
     have hs := sup_found cs ta s hm
     obtain ⟨c, hc⟩ := Option.isSome_iff_exists.1 hs
     have := knA_nm c (findC_nm hc).2
     rw [(findC_nm hc).1] at this
     exact this
  obtain ⟨S, hS⟩ : ∃ S, S = commonE cs ta tb := ⟨_, rfl⟩
  obtain ⟨T, hT⟩ : ∃ T, T = commonE cs tb ta := ⟨_, rfl⟩
  rw [← hS] at HC1 h1 h2 h3 hcn; rw [← hT] at HC2 h1
  have HSS := fun (h : S ≠ []) => HSB.out hkn S tc (hcn h)
  have HSA := HSB.out hkn ta S hka
  have HSD := HSB.out hkn tb S hkb
  obtain ⟨s2, e2⟩ : ∃ s, s = subB cs ta tc := ⟨_, rfl⟩
  obtain ⟨s3, e3⟩ : ∃ s, s = subB cs tb tc := ⟨_, rfl⟩
  obtain ⟨s4, e4⟩ : ∃ s, s = subB cs S tc := ⟨_, rfl⟩
  obtain ⟨s5, e5⟩ : ∃ s, s = subB cs ta S := ⟨_, rfl⟩
  obtain ⟨s6, e6⟩ : ∃ s, s = subB cs tb S := ⟨_, rfl⟩
  rw [← e2] at HS2 h3; rw [← e3] at HS3 h3; rw [← e4] at h3
  rw [← e5] at HSA h2; rw [← e6] at HSD h2
  simp only [← e4] at HSS
  have HIF := Lib.hid (fun (k : Nat) (y : ClM) (h : findC cs tc = some y) => show ifB cs tc = y.fc from by unfold ifB; rw [h])
  have HNX := Lib.hid HNX; have HCX := Lib.hid HCX; have HC1 := Lib.hid HC1; have HC2 := Lib.hid HC2; have HUX := Lib.hid HUX; have HRX := Lib.hid HRX
  have HS2 := Lib.hid HS2; have HS3 := Lib.hid HS3; have HSS := Lib.hid HSS; have HSA := Lib.hid HSA; have HSD := Lib.hid HSD
  have H1 := Lib.hid h1; have H2 := Lib.hid h2; have H3 := Lib.hid h3
  clear hgp hkn hn70 hka hkb hkc hta htb htc hF hfi hEE hNN h1 h2 h3 hcn hS hT e2 e3 e4 e5 e6 HNM HCK HSB HKN HGA HGR HCO HUN HRC
  have hmx : Try.prog.follows .mixedOrders = true := by kernel_rfl
  obtain ⟨⟨x0, x1, x2, x3, x4⟩, y0, y1, y2⟩ := HCE.out v2 K2.out
  go_wp2_with fail
  refine (HCX.out _ K2.out).mono ?_
  rintro e v3 ⟨rfl, hb⟩
  have hB := then' K2.out hb
  clear hb x0 x1 x2 x3 x4 y0 y1 y2
  obtain ⟨⟨x0, x1, x2, x3, x4⟩, y0, y1, y2⟩ := HCE.out v3 hB
  (try go_wp2_with fail)
  go_region_held3 (fun w' => (w'.cell? ⟨w.heap.size, 0, none⟩ = some (.slice A1 n c1) ∧ w'.cell? ⟨w.heap.size, 1, none⟩ = some (.slice A2 ns.length c2) ∧ w'.cell? ⟨w.heap.size, 2, none⟩ = some (.string ⟨ec.toArray⟩) ∧ w'.cell? ⟨w.heap.size, 3, none⟩ = some (.string ⟨en.toArray⟩) ∧ w'.cell? ⟨w.heap.size, 4, none⟩ = some (.string ⟨ed.toArray⟩)) ∧ (w'.cell? ⟨w.heap.size + 1, 0, none⟩ = some (.int .u8 (a0 : Int)) ∧ w'.cell? ⟨w.heap.size + 1, 1, none⟩ = some (.int .u8 (b0 : Int)) ∧ w'.cell? ⟨w.heap.size + 1, 2, none⟩ = some (.int .u8 (c0 : Int)))) (go_keep)
   ((go_at_call 9; refine (HNX.out _ ?_ _ ?_).mono ?_; (first | exact HE.out.1 | exact HE.out.2.1 | exact HE.out.2.2); (first | exact hB | exact overD hB); rintro e v ⟨rfl, hbq⟩; have hB := (show Below W.heap.size W v from ⟨hbq.os.trans hB.os, hbq.tape.trans hB.tape, hbq.output.trans hB.output, Nat.le_trans hB.size hbq.size, fun k hk => (hbq.block k (Nat.lt_of_lt_of_le hk hB.size)).trans (hB.block k hk)⟩); clear hbq x0 x1 x2 x3 x4 y0 y1 y2; obtain ⟨⟨x0, x1, x2, x3, x4⟩, y0, y1, y2⟩ := HCE.out _ hB))
  all_goals (
   have K3 := Lib.hid hB
   rw [← HTA.out, ← HTB.out, ← HTC.out]
   clear hB x0 x1 x2 x3 x4 y0 y1 y2
   obtain ⟨⟨x0, x1, x2, x3, x4⟩, -⟩ := HCE.out _ K3.out
   (try go_wp2_with fail)
   refine (liveH_w _).mono ?_
   rintro e w4 ⟨rfl, hb⟩
   have K4 := Lib.hid (then' K3.out hb)
   clear hb x0 x1 x2 x3 x4
   obtain ⟨⟨x0, x1, x2, x3, x4⟩, -⟩ := HCE.out _ K4.out
   by_cases hz : E = 0
   ·have hz0 : (E != 0) = false := by rw [hz]; rfl
    have HZ := Lib.hid hz
    clear hz
    (try go_wp2_with fail)
    refine (HUX.out _ K4.out).mono ?_
    rintro e w5 ⟨uu, rfl, hu, hb⟩
    have K5 := Lib.hid (then' K4.out hb)
    have HUU := Lib.hid hu
    clear hb hu x0 x1 x2 x3 x4
    obtain ⟨⟨x0, x1, x2, x3, x4⟩, -⟩ := HCE.out _ K5.out
    cases uu with
    | false =>
     (try go_wp2_with fail)
     refine (liveH_w _).mono ?_
     rintro e w6 ⟨rfl, hb⟩
     have K6 := Lib.hid (then' K5.out hb)
     clear hb x0 x1 x2 x3 x4
     obtain ⟨⟨x0, x1, x2, x3, x4⟩, -⟩ := HCE.out _ K6.out
     (try go_wp2_with fail)
     go_ret
     exact ⟨rfl, HAL.out.trans (K6.out.mono HAL.out.size)⟩
    | true =>
     have HU := Lib.hid (HUU.out (by first | rfl | trivial))
     cases ga : (ta == [110, 111]) with
     | true =>
      (try go_wp2_with fail)
      refine (liveH_w _).mono ?_
      rintro e w6 ⟨rfl, hb⟩
      have K6 := Lib.hid (then' K5.out hb)
      clear hb x0 x1 x2 x3 x4
      obtain ⟨⟨x0, x1, x2, x3, x4⟩, -⟩ := HCE.out _ K6.out
      (try go_wp2_with fail)
      go_ret
      exact ⟨rfl, HAL.out.trans (K6.out.mono HAL.out.size)⟩
     | false =>
      cases gb : (tb == [110, 111]) with
      | true =>
       (try go_wp2_with fail)
       refine (liveH_w _).mono ?_
       rintro e w6 ⟨rfl, hb⟩
       have K6 := Lib.hid (then' K5.out hb)
       clear hb x0 x1 x2 x3 x4
       obtain ⟨⟨x0, x1, x2, x3, x4⟩, -⟩ := HCE.out _ K6.out
       (try go_wp2_with fail)
       go_ret
       exact ⟨rfl, HAL.out.trans (K6.out.mono HAL.out.size)⟩
      | false =>
       cases gc : (tc == [110, 111]) with
       | true =>
        (try go_wp2_with fail)
        refine (liveH_w _).mono ?_
        rintro e w6 ⟨rfl, hb⟩
        have K6 := Lib.hid (then' K5.out hb)
        clear hb x0 x1 x2 x3 x4
        obtain ⟨⟨x0, x1, x2, x3, x4⟩, -⟩ := HCE.out _ K6.out
        (try go_wp2_with fail)
        go_ret
        exact ⟨rfl, HAL.out.trans (K6.out.mono HAL.out.size)⟩
       | false =>
        (try go_wp2_with fail)
        refine (HC1.out _ K5.out).mono ?_
        rintro e w6 ⟨rfl, hb⟩
        have K6 := Lib.hid (then' K5.out hb)
        clear hb x0 x1 x2 x3 x4
        obtain ⟨⟨x0, x1, x2, x3, x4⟩, -⟩ := HCE.out _ K6.out
        (try go_wp2_with fail)
        have hst : S = T := H1.out HZ.out HU.out
        subst hst
        refine (HC2.out _ K6.out).mono ?_
        rintro e w7 ⟨rfl, hb⟩
        have K7 := Lib.hid (then' K6.out hb)
        clear hb x0 x1 x2 x3 x4
        obtain ⟨⟨x0, x1, x2, x3, x4⟩, -⟩ := HCE.out _ K7.out
        cases hem : (S == []) with
        | true =>
         have g1 := e_empty hem
         have HEM := Lib.hid (show S = [] from by simpa using hem)
         (try go_wp2_with fail)
         (try go_wp2_with fail)
         refine (HRX.out _ K7.out).mono ?_
         rintro e w8 ⟨r, rfl, hix, hb⟩
         have K8 := Lib.hid (then' K7.out hb)
         clear hb x0 x1 x2 x3 x4
         obtain ⟨⟨x0, x1, x2, x3, x4⟩, -⟩ := HCE.out _ K8.out
         rcases idx_two hix with ⟨rfl, -, hf⟩ | ⟨k, y, rfl, hy, -, -, hf⟩
         ·clear hix hf
          (try go_wp2_with fail)
          go_ret
          exact ⟨rfl, HAL.out.trans (K8.out.mono HAL.out.size)⟩
         ·have hk0 : ¬ (k : Int) < 0 := by omega
          have hkd : decide ((k : Int) < 0) = false := decide_eq_false hk0
          have hkn : k < n := by rw [HN.out]; exact (List.getElem?_eq_some_iff.1 hy).1
          have hknI : (k : Int) < (n : Int) := by omega
          have HFI := Lib.hid (HIF.out k y hf)
          have hrd := (HKX.out _ K8.out).1.2
          dsimp only at hrd
          obtain ⟨a, rfl, -, p0, p1, p2, p3, p4, p5, p6⟩ := cl_at hrd hy
          clear hix hf hrd hy
          cases hfc : y.fc with
          | true =>
           rw [hfc] at p2
           (try go_wp2_with fail)
           go_ret
           exact ⟨rfl, HAL.out.trans (K8.out.mono HAL.out.size)⟩
          | false =>
           have HIC := Lib.hid (show ifB cs tc = false from by rw [HFI.out]; exact hfc)
           rw [hfc] at p2
           (try go_wp2_with fail)
           refine (HS2.out _ K8.out).mono ?_
           rintro e w9 ⟨rfl, hb⟩
           have K9 := Lib.hid (then' K8.out hb)
           clear hb x0 x1 x2 x3 x4 p0 p1 p2 p3 p4 p5 p6
           obtain ⟨⟨x0, x1, x2, x3, x4⟩, -⟩ := HCE.out _ K9.out
           cases s2 with
           | false =>
            (try go_wp2_with fail)
            go_ret
            exact ⟨rfl, HAL.out.trans (K9.out.mono HAL.out.size)⟩
           | true =>
            (try go_wp2_with fail)
            refine (HS3.out _ K9.out).mono ?_
            rintro e w10 ⟨rfl, hb⟩
            have K10 := Lib.hid (then' K9.out hb)
            clear hb x0 x1 x2 x3 x4
            obtain ⟨⟨x0, x1, x2, x3, x4⟩, -⟩ := HCE.out _ K10.out
            cases s3 with
            | false =>
             (try go_wp2_with fail)
             go_ret
             exact ⟨rfl, HAL.out.trans (K10.out.mono HAL.out.size)⟩
            | true =>
             have HQ := Lib.hid (H3.out HZ.out HU.out HIC.out (by first | rfl | trivial) (by first | rfl | trivial))
             exact absurd HEM.out HQ.out.1
        | false =>
         have g1 := e_empty hem
         have HNE := Lib.hid (show S ≠ [] from by intro e; rw [e] at hem; cases hem)
         have h5 : s5 = true := by first | exact (H2.out HZ.out HU.out HNE.out).1 | simpa using (H2.out HZ.out HU.out HNE.out).1
         have h6 : s6 = true := by first | exact (H2.out HZ.out HU.out HNE.out).2 | simpa using (H2.out HZ.out HU.out HNE.out).2
         have HH5 := Lib.hid h5; have HH6 := Lib.hid h6
         clear h5 h6
         (try go_wp2_with fail)
         refine (HSA.out _ K7.out).mono ?_
         rintro e w8 ⟨rfl, hb⟩
         have K8 := Lib.hid (then' K7.out hb)
         clear hb x0 x1 x2 x3 x4
         obtain ⟨⟨x0, x1, x2, x3, x4⟩, -⟩ := HCE.out _ K8.out
         obtain rfl := HH5.out
         (try go_wp2_with fail)
         refine (HSD.out _ K8.out).mono ?_
         rintro e w9 ⟨rfl, hb⟩
         have K9 := Lib.hid (then' K8.out hb)
         clear hb x0 x1 x2 x3 x4
         obtain ⟨⟨x0, x1, x2, x3, x4⟩, -⟩ := HCE.out _ K9.out
         obtain rfl := HH6.out
         (try go_wp2_with fail)
         refine (HRX.out _ K9.out).mono ?_
         rintro e w10 ⟨r, rfl, hix, hb⟩
         have K10 := Lib.hid (then' K9.out hb)
         clear hb x0 x1 x2 x3 x4
         obtain ⟨⟨x0, x1, x2, x3, x4⟩, -⟩ := HCE.out _ K10.out
         rcases idx_two hix with ⟨rfl, -, hf⟩ | ⟨k, y, rfl, hy, -, -, hf⟩
         ·clear hix hf
          (try go_wp2_with fail)
          go_ret
          exact ⟨rfl, HAL.out.trans (K10.out.mono HAL.out.size)⟩
         ·have hk0 : ¬ (k : Int) < 0 := by omega
          have hkd : decide ((k : Int) < 0) = false := decide_eq_false hk0
          have hkn : k < n := by rw [HN.out]; exact (List.getElem?_eq_some_iff.1 hy).1
          have hknI : (k : Int) < (n : Int) := by omega
          have HFI := Lib.hid (HIF.out k y hf)
          have hrd := (HKX.out _ K10.out).1.2
          dsimp only at hrd
          obtain ⟨a, rfl, -, p0, p1, p2, p3, p4, p5, p6⟩ := cl_at hrd hy
          clear hix hf hrd hy
          cases hfc : y.fc with
          | true =>
           rw [hfc] at p2
           (try go_wp2_with fail)
           go_ret
           exact ⟨rfl, HAL.out.trans (K10.out.mono HAL.out.size)⟩
          | false =>
           have HIC := Lib.hid (show ifB cs tc = false from by rw [HFI.out]; exact hfc)
           rw [hfc] at p2
           (try go_wp2_with fail)
           refine (HS2.out _ K10.out).mono ?_
           rintro e w11 ⟨rfl, hb⟩
           have K11 := Lib.hid (then' K10.out hb)
           clear hb x0 x1 x2 x3 x4 p0 p1 p2 p3 p4 p5 p6
           obtain ⟨⟨x0, x1, x2, x3, x4⟩, -⟩ := HCE.out _ K11.out
           cases s2 with
           | false =>
            (try go_wp2_with fail)
            go_ret
            exact ⟨rfl, HAL.out.trans (K11.out.mono HAL.out.size)⟩
           | true =>
            (try go_wp2_with fail)
            refine (HS3.out _ K11.out).mono ?_
            rintro e w12 ⟨rfl, hb⟩
            have K12 := Lib.hid (then' K11.out hb)
            clear hb x0 x1 x2 x3 x4
            obtain ⟨⟨x0, x1, x2, x3, x4⟩, -⟩ := HCE.out _ K12.out
            cases s3 with
            | false =>
             (try go_wp2_with fail)
             go_ret
             exact ⟨rfl, HAL.out.trans (K12.out.mono HAL.out.size)⟩
            | true =>
             have HQ := Lib.hid (H3.out HZ.out HU.out HIC.out (by first | rfl | trivial) (by first | rfl | trivial))
             have h4 : s4 = true := by first | exact HQ.out.2 | simpa using HQ.out.2
             (try go_wp2_with fail)
             refine (HSS.out HNE.out _ K12.out).mono ?_
             rintro e w13 ⟨rfl, hb⟩
             have K13 := Lib.hid (then' K12.out hb)
             clear hb x0 x1 x2 x3 x4
             obtain ⟨⟨x0, x1, x2, x3, x4⟩, -⟩ := HCE.out _ K13.out
             subst h4
             (try go_wp2_with fail)
             go_ret
             exact ⟨rfl, HAL.out.trans (K13.out.mono HAL.out.size)⟩
   ·have hz0 : (E != 0) = true := by rw [bne_iff_ne]; exact hz
    clear hz
    (try go_wp2_with fail)
    refine (liveH_w _).mono ?_
    rintro e w5 ⟨rfl, hb⟩
    have K5 := Lib.hid (then' K4.out hb)
    clear hb x0 x1 x2 x3 x4
    obtain ⟨⟨x0, x1, x2, x3, x4⟩, -⟩ := HCE.out _ K5.out
    (try go_wp2_with fail)
    go_ret
    exact ⟨rfl, HAL.out.trans (K5.out.mono HAL.out.size)⟩)
end Go.Proofs.Ytgpfohpmgbnimaa.hierCommon

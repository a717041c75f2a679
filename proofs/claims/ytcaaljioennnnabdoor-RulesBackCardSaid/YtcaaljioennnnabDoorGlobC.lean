/-
 Layer 21: whether a pattern leads through a text, where what its bytes stand for is told by a function that is handed over: the program's answer.
-/
import Derived.Laws.CopyOwn
import Derived.Laws.MakeOwn
import Derived.BigQuiet
import Derived.Test.YtcaaljioennnnabDoorGlobB
namespace Go.Proofs.YtcaaljioennnnabDoor.glob
open Go.RowKit
open Go.Proofs.YtcaaljioennnnabDoor.words
set_option linter.all false
/-- a row's block -/
theorem own_back {w : World} {base : Nat} {v : Value} {n : Nat} {xs : List Value} (h : w.ownsRow base 3 1 v n xs) (hn : 0 < n) :
  ∃ g cap cur, v = .slice (some ⟨g, 0, none⟩) n cap ∧ base ≤ g ∧ w.heap[g]? = some (.cells cur 3 (0, 0)) ∧ n ≤ cap ∧ cap ≤ maxLen ∧ cur.size = cap * 1 := by
 rcases h.2 with ⟨-, h0⟩ | ⟨g, cap, cur, h1, h2, h3, h4, h5, h6, -⟩
 ·omega
 ·exact ⟨g, cap, cur, h1, h2, h3, h4, h5, h6⟩
theorem own_zero {w : World} {base g cap : Nat} {cur : Array Value} (h2 : base ≤ g) (h3 : w.heap[g]? = some (.cells cur 3 (0, 0))) (h5 : cap ≤ maxLen) (h6 : cur.size = cap * 1) :
  w.ownsRow base 3 1 (.slice (some ⟨g, 0, none⟩) 0 cap) 0 [] :=
 ⟨by simp, .inr ⟨g, cap, cur, rfl, h2, h3, Nat.zero_le _, h5, h6, by simp⟩⟩
def zerosG (n : Nat) : List Value := List.replicate n (Value.int .i64 0)
theorem make_g (n : Nat) (hn : n ≤ 1001) (w : World) : (Instr.makeSlice 76 (.int .i64 (n : Int)) (.int .i64 (n : Int))).run Tryd.prog w = .ok (.slice (some ⟨w.heap.size, 0, none⟩) n n) (w.alloc (.cells (zerosG n).toArray 3)) := by
 obtain ⟨i0, hi, hz0, hz1, hz2⟩ := info_parts' infoG
 have h := run_make (P := Tryd.prog) w 76 3 i0 (.int .i64 0) Tryd.underlying76 hi hz0 .i64 .i64 (n : Int) (n : Int) (by omega) (Int.le_refl _) (by rw [hz2]; omega) (by omega)
 rw [Int.toNat_natCast, hz1, Nat.mul_one] at h
 rw [h]
 congr 3
 unfold madeCells zerosG
 apply Array.ext'
 simp only [Value.cells, Array.toList_map, Array.toList_range, List.size_toArray, List.length_cons, List.length_nil, Nat.zero_add, Nat.mod_one]
 exact (List.map_const' (l := List.range n) (b := Value.int .i64 0)).trans (by rw [List.length_range])
theorem cut_g (g n N k : Nat) (hk : k ≤ N) (hN : 0 < N) (w : World) : (Instr.sliceAt 76 (.slice (some ⟨g, 0, none⟩) n N) none (some (.int .i64 (k : Int))) none).run Tryd.prog w = .ok (.slice (some ⟨g, 0, none⟩) k N) w := by
 obtain ⟨i0, hi, hz0, hz1, hz2⟩ := info_parts' infoG
 have he : Tryd.prog.elem 76 = 3 := by kernel_rfl
 have hso : ∀ w, (sizeOf 3).run Tryd.prog w = .ok 1 w := fun w => by simp [sizeOf, typeInfo, hi, hz1]
 rw [run_sliceAt_slice w _ _ _ _ _ (by rw [he]; exact Tryd.underlying76), run_slice_h w _ _ n N (by rw [he]; exact Tryd.underlying76) .i64 (k : Int) (by omega) (by omega), he, hso]
 simp only [Result.andThen_ok, sliced, Int.toNat_natCast, Nat.zero_mul, Nat.sub_zero]
 rw [if_neg (by omega), Option.map_some, add_zero_off]
theorem splice_len {cur cs : List Value} (h : cs.length ≤ cur.length) : ((cur.take 0 ++ (cs ++ cur.drop (0 + cs.length))).toArray).size = cur.length := by
 simp; omega
theorem splice_at {cur cs : List Value} {j : Nat} {v : Value} (h : cs[j]? = some v) : (cur.take 0 ++ (cs ++ cur.drop (0 + cs.length)))[j]? = some v := by
 rw [List.take_zero, List.nil_append, List.getElem?_append_left (List.getElem?_eq_some_iff.1 h).1]; exact h
theorem keep_gb {w w1 : World} {row : Option Nat} {gb : Nat} {o : Obj} (h : w.grownBy w1 row) (hg : w.heap[gb]? = some o) (hne : row ≠ some gb) : w1.heap[gb]? = some o :=
 (h.block gb (Array.getElem?_eq_some_iff.1 hg).1 hne.symm).trans hg
theorem ne_gb {w : World} {v v' : Option Nat} {gb : Nat} {o : Obj} (hg : w.heap[gb]? = some o) (hne : v ≠ some gb) (h : v' = v ∨ ∃ k, w.heap.size ≤ k ∧ v' = some k) : v' ≠ some gb := by
 rcases h with h | ⟨k, h1, h2⟩
 ·rw [h]; exact hne
 ·rw [h2]; intro e; cases e; have := (Array.getElem?_eq_some_iff.1 hg).1; omega
set_option maxRecDepth 100000 in
set_option maxHeartbeats 8000000 in
theorem leads_w (f : UInt8 → UInt8 → Bool) (g : Nat) (eg : ∀ args w, (callFunc g args).run Tryd.prog w = .ok (.enter g args) w)
  (hf : ∀ (c d : UInt8) (w : World), Calls Tryd.prog g #[.int .u8 (c.toNat : Int), .int .u8 (d.toNat : Int)] w fun e w' => e = .returned (.bool (f c d)) ∧ w' = w)
  (p s : ByteArray) (w : World) (hp : p.size ≤ 1000) (hs : s.size ≤ 1000) :
  Calls Tryd.prog 32 #[.string p, .string s, .func (.func g) #[] #[]] w fun e w' => e = .returned (.bool (matF f (lb p) (lb s))) ∧ Below w.heap.size w w' := by
 have HF := Lib.hid hf
 have HL := Lib.hid (fun (a : Nat) (v : Value) (R : List Nat) (base : Nat) (w : World) ha hR hown hb => land_w p a v R base w hp ha hR hown hb)
 obtain ⟨N, hN⟩ : ∃ N, N = p.size + 1 := ⟨_, rfl⟩
 have hNI : (p.size : Int) + 1 = (N : Int) := by omega
 have hmk := fun w => make_g N (by omega) w
 have HNN := Lib.hid hN
 have hpI : (p.size : Int) ≤ 1000 := by omega
 have hsI : (s.size : Int) ≤ 1000 := by omega
 have HPL := Lib.hid (lb_len p)
 have HSL := Lib.hid (lb_len s)
 clear hN hf
 go_enter Tryd.func32, Tryd.ntmps32
 go_wp2
 go_step3
 go_wp2_with fail
 refine (HL.out 0 (.slice none 0 0) [] w.heap.size w (Nat.zero_le _) (by simp) (World.ownsRow_nil _ _ _ _) (Nat.le_refl _)).mono ?_
 rintro e w1 ⟨v1, R0, b0, rfl, hown1, -, hB1, -, hL1⟩
 obtain ⟨hF0, hP0, hA0⟩ := lands_start hL1
 have HO := Lib.hid hown1; have HB := Lib.hid hB1; have HF0 := Lib.hid hF0; have HA0 := Lib.hid (hA0 f (lb s))
 clear hL1 hown1 hB1 hF0 hA0
 go_wp2
 have hg2 := heap_alloc_new w1 (.cells (zerosG N).toArray 3)
 have hb2 : Below w.heap.size w (w1.alloc (.cells (zerosG N).toArray 3)) := HB.out.alloc HB.out.size _
 have ho2 := HO.out.alloc (.cells (zerosG N).toArray 3)
 have hne2 : v1.ownBlock ≠ some w1.heap.size := fun e => by have := (HO.out.lt _ e).2; omega
 obtain ⟨gb, hgb⟩ : ∃ gb, gb = w1.heap.size := ⟨_, rfl⟩
 have hgw : w.heap.size ≤ gb := by rw [hgb]; exact HB.out.size
 obtain ⟨w2, hw2⟩ : ∃ w2, w2 = w1.alloc (.cells (zerosG N).toArray 3) := ⟨_, rfl⟩
 have hgl2 : gb < w2.heap.size := by rw [hw2, hgb]; simp
 rw [← hgb] at hg2 hne2
 rw [← hw2] at hg2 hb2 ho2
 simp only [← hgb]
 rw [← hw2]
 have HG2 := Lib.hid hg2; have HB2 := Lib.hid hb2; have HO2 := Lib.hid ho2; have HNE2 := Lib.hid hne2
 have HGW := Lib.hid hgw
 clear hg2 hb2 ho2 hne2 hgb hw2 HO HB hmk hgw hgl2
 go_step3
 go_wp2
 go_loopw [7, 26] (fun v i wr => ∃ (k : Nat) (R : List Nat) (cur : List Value), i = .int .i64 (k : Int) ∧ k ≤ s.size ∧ wr.heap[gb]? = some (.cells cur.toArray 3 (0, 0)) ∧ cur.length = N ∧ wr.ownsRow w.heap.size 3 1 v R.length (NL R) ∧ v.ownBlock ≠ some gb ∧ Below w.heap.size w wr ∧ Form (lb p) R ∧ 0 < R.length ∧ matF f (lb p) (lb s) = anyF f (lb p) ((lb s).drop k) R) (fun _ i _ => s.size - (intOf i).toNat)
 case atStart =>
  exact ⟨0, R0, zerosG N, rfl, Nat.zero_le _, HG2.out, by simp [zerosG], HO2.out, HNE2.out, HB2.out, HF0.out, hP0, by rw [List.drop_zero]; exact (HA0.out).symm⟩
 case round =>
  obtain ⟨k, R, cur, rfl, hk, hg, hcl, hown, hne, hb, hform, hpos, hany⟩ := hrel
  obtain ⟨wa, hwa⟩ : ∃ wa, wa = wr := ⟨_, rfl⟩
  subst hwa
  have hRl := hform.len
  rw [HPL.out] at hRl
  obtain ⟨m, hm⟩ : ∃ m, m = R.length := ⟨_, rfl⟩
  have hmN : m ≤ N := by rw [hm, HNN.out]; exact hRl
  have hN1 : N ≤ 1001 := by rw [HNN.out]; omega
  rw [← hm] at hown hpos
  obtain ⟨gv, cap, curv, rfl, hgv, hgvh, hmc, hcm, hcs⟩ := own_back hown hpos
  have hgn : gv ≠ gb := fun e => hne (by rw [← e]; rfl)
  have HRC := Lib.hid (hown.cells (g := gv) rfl)
  have HM := Lib.hid hm; have HFORM := Lib.hid hform; have HANY := Lib.hid hany; have HBB := Lib.hid hb
  clear hm hform hany hown hne HG2 HB2 HO2 HNE2 HF0 HA0 hRl
  by_cases hlt : k < s.size
  ·have hltI : (k : Int) < (s.size : Int) := by omega
   have hsz1 : (Tryd.prog.info? 3).map (·.size) = some 1 := by obtain ⟨i0, hi, hz0, hz1, hz2⟩ := info_parts' infoG; rw [hi]; simp [hz1]
   have q1 : (NL R).length = Nat.min m N := by rw [NL_len, ← HM.out]; exact (Nat.min_eq_left hmN).symm
   have q2 : 0 + (NL R).length ≤ cur.toArray.size := by rw [NL_len, ← HM.out]; simp; omega
   have q3 : ∀ v ∈ NL R, v.oneCell' = true := by intro v hv; obtain ⟨x, -, rfl⟩ := List.mem_map.1 hv; rfl
   have q4 : goInt (NL R).length = .int .i64 (m : Int) := by rw [NL_len, ← HM.out]; rfl
   have q5 : (NL R).length ≤ cur.length := by rw [NL_len, ← HM.out]; omega
   have hc1 := fun w => cut_g gb N N m hmN (by omega) w
   have hc2 := fun w => (show (Instr.sliceAt 76 (.slice (some ⟨gv, 0, none⟩) m cap) none (some (.int .i64 0)) none).run Tryd.prog w = .ok (.slice (some ⟨gv, 0, none⟩) 0 cap) w from cut_g gv m cap 0 (Nat.zero_le _) (by omega) w)
   obtain ⟨cs, hcsd⟩ : ∃ cs, cs = (cur.take 0 ++ (NL R ++ cur.drop (0 + (NL R).length))) := ⟨_, rfl⟩
   have hcsl : cs.length = N := by rw [hcsd]; have := splice_len q5; simp only [List.size_toArray] at this; omega
   have hcsa : ∀ j v, (NL R)[j]? = some v → cs[j]? = some v := fun j v h => by rw [hcsd]; exact splice_at h
   have Q1 := Lib.hid q1; have Q2 := Lib.hid q2; have Q3 := Lib.hid q3; have Q4 := Lib.hid q4; have HCS := Lib.hid hcsd; have HCL := Lib.hid hcsl; have HCA := Lib.hid hcsa
   have HGG := Lib.hid hg; have HGV := Lib.hid hgvh; have HS1 := Lib.hid hsz1; have HGN := Lib.hid hgn
   have HCC := Lib.hid hcs
   clear q1 q2 q3 q4 q5 hcsd hcsl hcsa hg hgvh hsz1 hgn hcl hcs
   go_wp2_with (refine wpList_copy_own rfl (.tmp 30) (.tmp 31) 76 76 rfl 3 Tryd.underlying76 HS1.out gb 0 N N ⟨gv, 0, none⟩ m cap rfl rfl cur.toArray 3 HGG.out (NL R) Q1.out HRC.out Q2.out Q3.out ?_; rw [Q4.out]; rw [show (cur.toArray.toList.take 0 ++ (NL R ++ cur.toArray.toList.drop (0 + (NL R).length))).toArray = cs.toArray from congrArg List.toArray HCS.out.symm]; have hg3 := setRow_heap wa gb _ cs.toArray _ _ HGG.out; have hv3 := (setRow_other wa gb gv cs.toArray HGN.out).trans HGV.out; have hb3 := below_setRow HBB.out HGW.out cs.toArray; obtain ⟨w3, hw3⟩ : ∃ w3, w3 = wa.setRow gb cs.toArray := ⟨_, rfl⟩; rw [← hw3] at hg3 hv3 hb3 ⊢; have HG3 := Lib.hid hg3; have HV3 := Lib.hid hv3; have HB3 := Lib.hid hb3; clear hg3 hv3 hb3 hw3)
   have HO3 := Lib.hid (own_zero (w := w3) hgv HV3.out hcm HCC.out)
   clear HGG HGV HRC HV3 Q1 Q2 Q3 Q4 HS1 hc1 hc2 HBB HCC
   go_loopw [7, 38] (fun v i wr => ∃ (j : Nat) (R1 : List Nat), i = .int .i64 (j : Int) ∧ j ≤ m ∧ wr.heap[gb]? = some (.cells cs.toArray 3 (0, 0)) ∧ wr.ownsRow w.heap.size 3 1 v R1.length (NL R1) ∧ v.ownBlock ≠ some gb ∧ Below w.heap.size w wr ∧ Inner f (lb p) (s[k]'hlt) R j R1) (fun _ i _ => m - (intOf i).toNat)
   case atStart => exact ⟨0, [], rfl, Nat.zero_le _, HG3.out, HO3.out, fun e => HGN.out (by simpa [Value.ownBlock] using e), HB3.out, inner_zero _ _ _ _⟩
   case round =>
    obtain ⟨j, R1, rfl, hj, hg, hown, hne, hb, hinn⟩ := hrel
    obtain ⟨wb, hwb⟩ : ∃ wb, wb = wr := ⟨_, rfl⟩
    subst hwb
    have HO := Lib.hid hown; have HB := Lib.hid hb; have HNE := Lib.hid hne; have HI := Lib.hid hinn; have HG := Lib.hid hg
    clear HO3 HG3 HB3
    by_cases hjm : j < m
    ·have hjI : (j : Int) < (m : Int) := by omega
     obtain ⟨q, hq⟩ : ∃ q, R[j]? = some q := ⟨R[j]'(by rw [← HM.out]; exact hjm), List.getElem?_eq_getElem _⟩
     have hql : q ≤ p.size := by have := HFORM.out.within q (List.mem_of_getElem? hq); rw [HPL.out] at this; exact this
     have hqI : (q : Int) ≤ (p.size : Int) := by omega
     have hcell : wb.cell? ⟨gb, j, none⟩ = some (.int .i64 (q : Int)) := (cell_of_row wb gb j cs.toArray 3 (0, 0) hg).trans (by simpa using HCA.out j _ (NL_at hq))
     have hcell2 : wb.cell? ((⟨gb, 0, none⟩ : Addr).add j) = some (.int .i64 (q : Int)) := by rw [add_zero_off]; exact hcell
     have hRl := (inner_in hinn (by rw [← HM.out]; exact hjm)).2.2.2
     have HQ := Lib.hid hq
     have hgb' := (Array.getElem?_eq_some_iff.1 hg).1
     clear hg hown hne hb hinn hq
     by_cases h0 : q = p.size
     ·subst h0
      have HX := Lib.hid (inner_skip HI.out HQ.out (by rw [← HPL.out]; exact star_end _) (by rw [← HPL.out]; exact stepL_end _ _ _))
      go_wp2
      go_roundw
      case rel => exact ⟨j + 1, R1, by go_num, hjm, HG.out, HO.out, HNE.out, HB.out, HX.out⟩
      case measure => simp [intOf]; omega
     ·have hlt2 : q < p.size := by omega
      have hlt2I : (q : Int) < (p.size : Int) := by omega
      have h0I : ((q : Int) == (p.size : Int)) = false := by rw [beq_eq_false_iff_ne]; omega
      clear h0
      by_cases hst : star (lb p) q = true
      ·have HX := Lib.hid (inner_star HFORM.out HI.out HQ.out hst)
       rw [lb_star hlt2, decide_eq_true_eq] at hst
       have h42 : (((p[q]'hlt2).toNat : Int) == 42) = true := by rw [hst]; rfl
       clear hst
       obtain ⟨i0, hi, hz0, hz1, hz2⟩ := info_parts' infoG
       go_wp2_with (at_builtin; refine wpList_app _ rfl (.tmp 52) (.tmp 56) _ rfl w.heap.size 3 i0 _ 1 8 Tryd.underlying76 hi hz0 hz1 hz2 rfl (by decide) _ R1.length (NL R1) rfl (HO.out.alloc _) _ 2 2 [.int .i64 ((q : Int) + 1), .int .i64 (q : Int)] rfl rfl (rd_blk (heap_alloc_new wb _) (k := 2) rfl) (by simp [Value.oneCell']) (by unfold maxLen; omega) (by omega) (by have := HB.out.size; simp; omega) ?_; intro v' w1 hown' hgrow hB1 hob)
       have HN1 := Lib.hid (ne_gb HG.out HNE.out (hob.imp id fun h => ⟨_, by simp, h⟩))
       have HG1 := Lib.hid (keep_gb (grown_alloc hgrow) HG.out HNE.out)
       have HO1 := Lib.hid hown'
       have HB1 := Lib.hid (HB.out.trans (below_alloc' HB.out.size hB1))
       clear hown' hgrow hB1 hob
       go_wp2
       go_roundw
       case rel => exact ⟨j + 1, R1 ++ [q + 1, q], by go_num, hjm, HG1.out, by rw [NL_app, List.length_append]; exact HO1.out, HN1.out, HB1.out, HX.out⟩
       case measure => simp [intOf]; omega
      ·rw [Bool.not_eq_true] at hst
       have HST := Lib.hid hst
       rw [lb_star hlt2, decide_eq_false_iff_not] at hst
       have h42 : (((p[q]'hlt2).toNat : Int) == 42) = false := by rw [show (42 : Int) = ((42 : Nat) : Int) from rfl, u8_eq (by omega)]; exact decide_eq_false hst
       clear hst
       have hpq : (lb p)[q]'(by rw [HPL.out]; exact hlt2) = p[q]'hlt2 := lb_at p q hlt2
       cases hfv : f (p[q]'hlt2) (s[k]'hlt) with
       | false =>
        have HX := Lib.hid (inner_skip HI.out HQ.out HST.out (stepL_no (by rw [HPL.out]; exact hlt2) (by rw [hpq]; exact hfv)))
        have HFV := Lib.hid (fun w => (show Calls Tryd.prog g #[.int .u8 ((p[q]'hlt2).toNat : Int), .int .u8 ((s[k]'hlt).toNat : Int)] w fun e w' => e = .returned (.bool false) ∧ w' = w from (by rw [← hfv]; exact HF.out _ _ _)))
        clear hfv hpq
        go_wp2
        go_quiet ((exact Calls.quiet_of_same (HFV.out _)))
        go_wp2
        go_roundw
        case rel => exact ⟨j + 1, R1, by go_num, hjm, HG.out, HO.out, HNE.out, over HB.out, HX.out⟩
        case measure => simp [intOf]; omega
       | true =>
        have hst1 : stepL f (lb p) (s[k]'hlt) [q] = [q + 1] := stepL_yes (by rw [HPL.out]; exact hlt2) (by rw [hpq]; exact hfv)
        have HS1 := Lib.hid hst1
        have HFT := Lib.hid (show f ((lb p)[q]'(by rw [HPL.out]; exact hlt2)) (s[k]'hlt) = true from by rw [hpq]; exact hfv)
        have HFV := Lib.hid (fun w => (show Calls Tryd.prog g #[.int .u8 ((p[q]'hlt2).toNat : Int), .int .u8 ((s[k]'hlt).toNat : Int)] w fun e w' => e = .returned (.bool true) ∧ w' = w from (by rw [← hfv]; exact HF.out _ _ _)))
        obtain ⟨q1, hq1⟩ : ∃ q1, q1 = q + 1 := ⟨_, rfl⟩
        have hq1I : (q : Int) + 1 = (q1 : Int) := by omega
        have hq1p : q1 ≤ p.size := by omega
        have HQ1 := Lib.hid hq1
        clear hfv hpq hst1 hq1
        go_wp2
        go_quiet ((exact Calls.quiet_of_same (HFV.out _)))
        go_wp2_with fail
        refine (HL.out q1 _ R1 w.heap.size (wb.drewN nq) hq1p (by omega) HO.out (over HB.out).size).mono ?_
        rintro e w3' ⟨v', R', b', rfl, hown', hgrow, hB1, hob, hland⟩
        have HN1 := Lib.hid (ne_gb (w := wb.drewN nq) HG.out HNE.out hob)
        have HG1 := Lib.hid (keep_gb (w := wb.drewN nq) hgrow HG.out HNE.out)
        have HO1 := Lib.hid hown'
        have HB1 := Lib.hid ((over HB.out).trans hB1)
        clear hown' hgrow hB1 hob
        rcases hland with ⟨rfl, h1, rfl⟩ | ⟨rfl, e, h1, h2, rfl⟩
        ·have HX := Lib.hid (inner_land HI.out HQ.out HST.out HS1.out (by rw [← HQ1.out]; exact h1))
         clear h1
         go_wp2
         go_roundw
         case rel => exact ⟨j + 1, R1 ++ [q1], by go_num, hjm, HG1.out, HO1.out, HN1.out, HB1.out, by rw [HQ1.out]; exact HX.out⟩
         case measure => simp [intOf]; omega
        ·have hd := inner_stays HFORM.out HI.out HQ.out HST.out (by rw [HPL.out]; exact hlt2) HFT.out (by rw [← HQ1.out]; exact h1) h2
         have HD := Lib.hid hd
         have HX := Lib.hid (done_next HANY.out (lb_some s k hlt) hd)
         clear h1 h2 hd
         go_wp2
         go_roundw
         case rel => exact ⟨k + 1, R1 ++ [e + 1, e], cs, by go_num, hlt, HG1.out, HCL.out, HO1.out, HN1.out, HB1.out, HD.out.1, by simp, HX.out⟩
         case measure => simp [intOf]; omega
    ·have hjI : ¬ (j : Int) < (m : Int) := by omega
     have hd : Done f (lb p) (s[k]'hlt) R R1 := inner_end HFORM.out (by rw [← HM.out, ← show j = m by omega]; exact hinn)
     have HD := Lib.hid hd
     have HX := Lib.hid (done_next HANY.out (lb_some s k hlt) hd)
     obtain ⟨A9, c9, rfl, -, -, -⟩ := own_rd hown
     clear hg hown hne hb hinn hd
     by_cases hz : R1.length = 0
     ·have hzI : ((R1.length : Int) == 0) = true := by rw [beq_iff_eq]; omega
      have HE := Lib.hid (show matF f (lb p) (lb s) = false from by rw [HX.out, List.eq_nil_of_length_eq_zero hz]; rfl)
      clear hz
      go_wp2
      (try rw [Exit.noGoto_ret])
      go_ret
      rw [HE.out]
      exact ⟨rfl, HB.out⟩
     ·have hzI : ((R1.length : Int) == 0) = false := by rw [beq_eq_false_iff_ne]; omega
      have hzp : 0 < R1.length := by omega
      clear hz
      go_wp2
      go_roundw
      case rel => exact ⟨k + 1, R1, cs, by go_num, hlt, HG.out, HCL.out, HO.out, HNE.out, HB.out, HD.out.1, hzp, HX.out⟩
      case measure => simp [intOf]; omega
  ·have hltI : ¬ (k : Int) < (s.size : Int) := by omega
   obtain rfl : k = s.size := by omega
   obtain ⟨a, ha⟩ : ∃ a, R[0]? = some a := ⟨R[0]'(by rw [← HM.out]; exact hpos), List.getElem?_eq_getElem _⟩
   have hcell : wa.cell? ⟨gv, 0, none⟩ = some (.int .i64 (a : Int)) := by have := HRC.out 0 _ (NL_at ha); rw [add_zero_off] at this; exact this
   have HE := Lib.hid (show matF f (lb p) (lb s) = ((a : Int) == (p.size : Int)) from by
    rw [HANY.out, List.drop_of_length_le (by rw [HSL.out]; exact Nat.le_refl _), form_end f HFORM.out ha, HPL.out]
    rw [Bool.eq_iff_iff, beq_iff_eq, beq_iff_eq]; omega)
   have hposI : 0 < (m : Int) := by omega
   clear hg hgvh hcl ha
   go_wp2
   (try rw [Exit.noGoto_ret])
   go_ret
   rw [HE.out]
   exact ⟨rfl, HBB.out⟩
end Go.Proofs.YtcaaljioennnnabDoor.glob

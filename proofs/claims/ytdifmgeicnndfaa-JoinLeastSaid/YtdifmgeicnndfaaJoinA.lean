/- JoinA -/
import Derived.Test.YtdifmgeicnndfaaHierY
namespace Go.Proofs.Ytdifmgeicnndfaa.prg
open Go.RowKit Go.Maps
open words kindp opp op kind word
set_option maxRecDepth 100000
set_option maxHeartbeats 8000000
set_option linter.all false
def fitsN (e0 h a1 k1 a2 : Bool) : Int := if ((!e0 && !h) || a1) = true then 7 else if (k1 || a2) = true then 9 else 0
def fitsE (cs : List ClM) (c : ClM) : Int := fitsN (c.su == []) (hasC cs c.su) (c.is.any fun s => !hasC cs s) (ifB cs c.su) (c.is.any fun s => !ifB cs s)
def Gd (x : PrM) (kb : Nat) (Kn : List Tx) (W v : World) : Prop := KnM x.cs Kn kb v ∧ BelM kb W.heap.size W v
theorem Gd.next {x : PrM} {kb : Nat} {Kn : List Tx} {W v v' : World} (g : Gd x kb Kn W v) (hk : KnM x.cs Kn kb v') (hb : BelM kb v.heap.size v v') : Gd x kb Kn W v' := ⟨hk, g.2.trans (hb.mono g.2.size)⟩
end Go.Proofs.Ytdifmgeicnndfaa.prg
namespace Go.Proofs.Ytdifmgeicnndfaa.prg
open Go.RowKit Go.Maps
open words kindp opp op kind word
set_option maxRecDepth 100000
set_option maxHeartbeats 8000000
set_option linter.all false
theorem Gd.below {x : PrM} {kb : Nat} {Kn : List Tx} {W v v' : World} (g : Gd x kb Kn W v) (hb : Below v.heap.size v v') : Gd x kb Kn W v' := g.next (g.1.same (hb.block kb g.1.lt)) (BelM.of hb g.1.lt)
theorem belm_below {kb : Nat} {w w1 v : World} (h : Below w.heap.size w w1) (hk : w.heap.size ≤ kb) (hb : BelM kb w1.heap.size w1 v) : Below w.heap.size w v :=
 ⟨hb.os.trans h.os, hb.tape.trans h.tape, hb.output.trans h.output, Nat.le_trans h.size hb.size, fun k hl => (hb.block k (by have := h.size; omega) (by omega)).trans (h.block k hl)⟩
end Go.Proofs.Ytdifmgeicnndfaa.prg
namespace Go.Proofs.Ytdifmgeicnndfaa.prg
open Go.RowKit Go.Maps
open words kindp opp op kind word
set_option maxRecDepth 100000
set_option maxHeartbeats 8000000
set_option linter.all false
theorem supS_len (cs : List ClM) : ∀ (f : Nat) (s : Tx) (l : List Tx), (supS cs f s l).length ≤ l.length + f
 | 0, _, _ => Nat.le_refl _
 | f + 1, s, l => by
  unfold supS
  cases findC cs s with
  | none => dsimp only; omega
  | some c =>
   dsimp only
   by_cases h : l.contains s = true
   ·rw [if_pos h]; omega
   ·rw [if_neg h]
    have := supS_len cs f c.su (l ++ [s])
    simp only [List.length_append, List.length_cons, List.length_nil] at this
    omega
theorem supers_len (cs : List ClM) (s : Tx) : (supersL cs s).length ≤ cs.length + 1 := by
 have := supS_len cs (cs.length + 1) s []
 unfold supersL
 simpa using this
def nearL (l m : List Tx) : Tx := match l.find? (fun s => m.contains s) with
 | some s => s
 | none => []
def commonN (e b1 b2 : Bool) (r : Tx) : Tx := if (!e && (b1 || b2)) = true then [] else r
def commonE (cs : List ClM) (a b : Tx) : Tx := commonN (a == b) (ifB cs a) (ifB cs b) (nearL (supersL cs a) (supersL cs b))
theorem bne_of {a b : Tx} {r : Bool} (h : (a == b) = r) : (a != b) = !r := by unfold bne; rw [h]
theorem near_at {l m : List Tx} {k : Nat} {s : Tx} (hc : l[k]? = some s) (hp : m.contains s = true) (ha : ∀ t ∈ l.take k, m.contains t = false) : nearL l m = s := by
 unfold nearL
 rw [(idx_at (P := fun s => m.contains s) hc hp ha).2]
theorem near_no {l m : List Tx} (ha : ∀ t ∈ l, m.contains t = false) : nearL l m = [] := by
 unfold nearL
 rw [(idx_no (P := fun s => m.contains s) ha).2]
theorem common_w (x : PrM) (Kn : List Tx) (a b : Tx) (w : World) (hpr : PrOk w x) (hgr : GrP x) (hH : KnH x Kn) (ha : a ∈ Kn) (hb : b ∈ Kn) :
  Calls Try.prog 56 #[.agg (prC x).toArray, .string ⟨a.toArray⟩, .string ⟨b.toArray⟩] w fun e w' => e = .returned (.string ⟨(commonE x.cs a b).toArray⟩) ∧ Below w.heap.size w w' := by
 have HRA := zh (fun (A : Option Addr) (c : Nat) (l : List Tx) (s : Tx) (v : World) h1 h2 => has_s A c l s v h1 h2)
 have HSP := zh (fun (s : Tx) (v : World) (h : PrOk v x) => supers_w x s v h hgr)
 have hla := supers_len x.cs a
 have hlb := supers_len x.cs b
 have h70 : x.cs.length ≤ 70 := hH.cl
 obtain ⟨cs, A1, c1, ns, A2, c2, ec, en, ed⟩ := x
 dsimp only at *
 have HLA := zh (show (supersL cs a).length ≤ 71 from by omega)
 have HLB := zh (show (supersL cs b).length ≤ 71 from by omega)
 unfold commonE
 obtain ⟨R, hR⟩ : ∃ R, R = nearL (supersL cs a) (supersL cs b) := ⟨_, rfl⟩
 rw [← hR]
 have HR := zh hR
 obtain ⟨W, hW⟩ : ∃ W, W = w.alloc (.cells (prC ⟨cs, A1, c1, ns, A2, c2, ec, en, ed⟩).toArray 27) := ⟨_, rfl⟩
 have hal : Below w.heap.size w W := by rw [hW]; exact (Below.refl _ w).alloc (Nat.le_refl _) _
 have hsz : W.heap.size = w.heap.size + 1 := by rw [hW]; simp
 have hblk : W.heap[w.heap.size]? = some (.cells (prC ⟨cs, A1, c1, ns, A2, c2, ec, en, ed⟩).toArray 27 (0, 0)) := by rw [hW]; exact heap_alloc_new w _
 obtain ⟨x0, x1, x2, x3, x4⟩ := pr_cells hblk
 have HTR := treeOf_w ⟨cs, A1, c1, ns, A2, c2, ec, en, ed⟩ W
 obtain ⟨kb, hkb⟩ : ∃ k, k = W.heap.size + 2 := ⟨_, rfl⟩
 rw [← hkb] at HTR
 have HKB := zh hkb; have HSZ := zh hsz; have HAL := zh hal; have HBK := zh hblk
 have HPR := zh (hpr.below hal)
 have HHH := zh hH
 have HIF := fun (s : Tx) (v : World) (h1 : Rd v A1 (cs.flatMap clC)) (h2 : KnM cs Kn kb v) (h3 : s ∈ Kn) => iface_t ⟨cs, A1, c1, ns, A2, c2, ec, en, ed⟩ kb Kn s v h1 (by show cs.length ≤ _; omega) h2 h3 (hH.ks s h3) hH.kl
 have HMA := zh ha; have HMB := zh hb
 dsimp only at HIF
 obtain ⟨b1, hb1⟩ : ∃ r, r = ifB cs a := ⟨_, rfl⟩
 obtain ⟨b2, hb2⟩ : ∃ r, r = ifB cs b := ⟨_, rfl⟩
 have HIA := fun (v : World) (h1 : Rd v A1 (cs.flatMap clC)) (h2 : KnM cs Kn kb v) => HIF a v h1 h2 ha
 have HIB := fun (v : World) (h1 : Rd v A1 (cs.flatMap clC)) (h2 : KnM cs Kn kb v) => HIF b v h1 h2 hb
 rw [← hb1] at HIA ⊢
 rw [← hb2] at HIB ⊢
 have HSA := HSP.out a
 have HSB := HSP.out b
 unfold SupP at HSA HSB
 unfold trC at HTR HIA HIB
 unfold prC at hW HTR HIA HIB HSA HSB ⊢
 try dsimp only [List.cons_append, List.nil_append] at hW HTR HIA HIB HSA HSB ⊢
 have HTR := zh HTR; have HIA := zh HIA; have HIB := zh HIB; have HSA := zh HSA; have HSB := zh HSB
 have HW := zh hW
 clear hal hblk hW hpr hH hkb hsz hR HIF ha hb hb1 hb2 HSP hla hlb h70 hgr
 cases h0 : (a == b) with
 | true =>
  have g1 := bne_of h0
  go_enter Try.func56, Try.ntmps56
  go_wp2_with fail
  rw [← HW.out]
  (try go_wp2_with fail)
  refine HTR.out.mono ?_
  rintro e w1 ⟨rfl, h1, h2, h3⟩
  clear x0 x1 x2 x3 x4
  obtain ⟨W2, hW2⟩ : ∃ W2, W2 = w1.alloc (.cells (trC ⟨cs, A1, c1, ns, A2, c2, ec, en, ed⟩ kb).toArray 160) := ⟨_, rfl⟩
  have hb2 : Below w1.heap.size w1 W2 := by rw [hW2]; exact (Below.refl _ w1).alloc (Nat.le_refl _) _
  have bt2 : W2.heap[w1.heap.size]? = some (.cells (trC ⟨cs, A1, c1, ns, A2, c2, ec, en, ed⟩ kb).toArray 160 (0, 0)) := by rw [hW2]; exact heap_alloc_new w1 _
  have hk1 := h2 Kn
  have hkl := hk1.lt
  have hk2 : KnM cs Kn kb W2 := hk1.same (hb2.block kb hkl)
  have hbW2 : Below W.heap.size W W2 := h3.trans (hb2.mono h3.size)
  have HG2 := zh (show Gd ⟨cs, A1, c1, ns, A2, c2, ec, en, ed⟩ kb Kn W2 W2 from ⟨hk2, BelM.refl _ _ _⟩)
  have hF : FitH ⟨cs, A1, c1, ns, A2, c2, ec, en, ed⟩ kb Kn w1.heap.size W2 := ⟨HPR.out.1.2.below hbW2, HHH.out.cl, HHH.out.kl, HHH.out.ks, hk2, bt2⟩
  have HCE := zh (fun v (g : Gd ⟨cs, A1, c1, ns, A2, c2, ec, en, ed⟩ kb Kn W2 v) => show _ ∧ _ from ⟨(hF.keep g.1 g.2).tcells, pr_cells ((g.2.block w.heap.size (by have := HSZ.out; have := hbW2.size; omega) (by have := HKB.out; have := HSZ.out; omega)).trans ((hbW2.block _ (by have := HSZ.out; omega)).trans HBK.out))⟩)
  have HPO := zh (fun v (g : Gd ⟨cs, A1, c1, ns, A2, c2, ec, en, ed⟩ kb Kn W2 v) => PrOk.belm (HPR.out.below hbW2) g.2 hk2.map)
  have HEND := zh (fun v (g : Gd ⟨cs, A1, c1, ns, A2, c2, ec, en, ed⟩ kb Kn W2 v) => show Below w.heap.size w v from belm_below (HAL.out.trans (hbW2.mono HAL.out.size)) (by have := HKB.out; have := HSZ.out; omega) g.2)
  unfold trC prC at hW2
  try dsimp only [List.cons_append, List.nil_append] at hW2
  obtain ⟨⟨t0, t1, t2, t3, t4, t5⟩, p0, p1, p2, p3, p4⟩ := HCE.out W2 HG2.out
  clear h1 h2 h3 hb2 bt2 hk1 hkl hk2 hbW2 hF
  subst hW2
  go_wp2_with fail
  refine (HSB.out _ (HPO.out _ HG2.out)).mono ?_
  rintro e u1 ⟨⟨B, cB, rfl, hcB, hrB⟩, hbB⟩
  have HGB := zh (HG2.out.below hbB); have HRB := zh hrB
  clear hrB hbB hcB t0 t1 t2 t3 t4 t5 p0 p1 p2 p3 p4
  obtain ⟨⟨t0, t1, t2, t3, t4, t5⟩, p0, p1, p2, p3, p4⟩ := HCE.out u1 HGB.out
  go_wp2_with fail
  refine (HSA.out _ (HPO.out _ HGB.out)).mono ?_
  rintro e u2 ⟨⟨A, cA, rfl, hcA, hrA⟩, hbA⟩
  have HGA := zh (HGB.out.below hbA); have HRO := zh (HRB.out.below hbA); have HRR := zh hrA
  clear hrA hbA hcA t0 t1 t2 t3 t4 t5 p0 p1 p2 p3 p4
  obtain ⟨l, hl⟩ : ∃ l, l = supersL cs a := ⟨_, rfl⟩
  obtain ⟨m, hm⟩ : ∃ l, l = supersL cs b := ⟨_, rfl⟩
  have hlI := HLA.out; have hmI := HLB.out
  have hRR := HR.out; have hra := HRR.out; have hro := HRO.out
  rw [← hl] at hlI hra hRR ⊢
  rw [← hm] at hmI hro hRR ⊢
  have HNR := zh hRR; have HRA2 := zh hra; have HRO2 := zh hro; have HMI := zh hmI
  have hlI2 : (l.length : Int) ≤ 71 := by omega
  clear hRR hra hro hmI hlI hl hm
  go_wp2_with fail
  go_loopw [33] (fun i wr => ∃ k : Nat, i = .int .i64 (k : Int) ∧ k ≤ l.length ∧ (∀ t ∈ l.take k, (fun s => m.contains s) t = false) ∧ Below u2.heap.size u2 wr) (fun i _ => l.length - (intOf i).toNat)
  case atStart => exact ⟨0, rfl, Nat.zero_le _, by simp, Below.refl _ _⟩
  case round =>
   obtain ⟨k, rfl, hk, hall, hbw⟩ := hrel
   have HA := zh hall; have HB := zh hbw
   clear hall
   by_cases hlt : k < l.length
   ·have hltI : (k : Int) < (l.length : Int) := by omega
    obtain ⟨s, hs⟩ : ∃ x, l[k]? = some x := ⟨l[k]'hlt, List.getElem?_eq_getElem _⟩
    obtain ⟨aa, rfl, _, hcell⟩ := (HRA2.out.below hbw).at_ (sx_get hs)
    have HQ := zh (HRA.out B cB m s wr (HRO2.out.below hbw) (by have := HMI.out; omega))
    have hmt := take_more (P := fun s => m.contains s) HA.out hs
    cases hp : m.contains s with
    | true =>
     have HRE := zh (near_at hs hp HA.out)
     rw [hp] at HQ
     clear hs hmt hp hbw
     go_wp2_with fail
     refine HQ.out.mono ?_
     rintro e w9 ⟨rfl, hb9⟩
     have HG9 := zh (HGA.out.below (HB.out.trans (hb9.mono HB.out.size)))
     clear hb9
     go_wp2
     go_ret
     exact ⟨by rw [HNR.out, HRE.out]; first | rfl | (simp only [h0]; rfl) | (unfold commonN; simp [h0]), HEND.out _ HG9.out⟩
    | false =>
     have HM := zh (hmt hp)
     rw [hp] at HQ
     clear hs hmt hp hbw
     go_wp2_with fail
     refine HQ.out.mono ?_
     rintro e w9 ⟨rfl, hb9⟩
     have HB9 := zh (HB.out.trans (hb9.mono HB.out.size))
     clear hb9
     go_wp2
     go_roundw
     case rel => exact ⟨k + 1, by go_num, by omega, HM.out, HB9.out⟩
     case measure => simp [intOf]; omega
   ·have hltI : ¬ (k : Int) < (l.length : Int) := by omega
    have hall := HA.out
    rw [List.take_of_length_le (by omega)] at hall
    have HOK := zh (near_no hall)
    have HG9 := zh (HGA.out.below hbw)
    clear hall hbw
    go_wp2
    go_ret
    exact ⟨by rw [HNR.out, HOK.out]; first | rfl | (simp only [h0]; rfl) | (unfold commonN; simp [h0]), HEND.out _ HG9.out⟩
 | false =>
  have g1 := bne_of h0
  go_enter Try.func56, Try.ntmps56
  go_wp2_with fail
  rw [← HW.out]
  (try go_wp2_with fail)
  refine HTR.out.mono ?_
  rintro e w1 ⟨rfl, h1, h2, h3⟩
  clear x0 x1 x2 x3 x4
  obtain ⟨W2, hW2⟩ : ∃ W2, W2 = w1.alloc (.cells (trC ⟨cs, A1, c1, ns, A2, c2, ec, en, ed⟩ kb).toArray 160) := ⟨_, rfl⟩
  have hb2 : Below w1.heap.size w1 W2 := by rw [hW2]; exact (Below.refl _ w1).alloc (Nat.le_refl _) _
  have bt2 : W2.heap[w1.heap.size]? = some (.cells (trC ⟨cs, A1, c1, ns, A2, c2, ec, en, ed⟩ kb).toArray 160 (0, 0)) := by rw [hW2]; exact heap_alloc_new w1 _
  have hk1 := h2 Kn
  have hkl := hk1.lt
  have hk2 : KnM cs Kn kb W2 := hk1.same (hb2.block kb hkl)
  have hbW2 : Below W.heap.size W W2 := h3.trans (hb2.mono h3.size)
  have HG2 := zh (show Gd ⟨cs, A1, c1, ns, A2, c2, ec, en, ed⟩ kb Kn W2 W2 from ⟨hk2, BelM.refl _ _ _⟩)
  have hF : FitH ⟨cs, A1, c1, ns, A2, c2, ec, en, ed⟩ kb Kn w1.heap.size W2 := ⟨HPR.out.1.2.below hbW2, HHH.out.cl, HHH.out.kl, HHH.out.ks, hk2, bt2⟩
  have HCE := zh (fun v (g : Gd ⟨cs, A1, c1, ns, A2, c2, ec, en, ed⟩ kb Kn W2 v) => show _ ∧ _ from ⟨(hF.keep g.1 g.2).tcells, pr_cells ((g.2.block w.heap.size (by have := HSZ.out; have := hbW2.size; omega) (by have := HKB.out; have := HSZ.out; omega)).trans ((hbW2.block _ (by have := HSZ.out; omega)).trans HBK.out))⟩)
  have HPO := zh (fun v (g : Gd ⟨cs, A1, c1, ns, A2, c2, ec, en, ed⟩ kb Kn W2 v) => PrOk.belm (HPR.out.below hbW2) g.2 hk2.map)
  have HEND := zh (fun v (g : Gd ⟨cs, A1, c1, ns, A2, c2, ec, en, ed⟩ kb Kn W2 v) => show Below w.heap.size w v from belm_below (HAL.out.trans (hbW2.mono HAL.out.size)) (by have := HKB.out; have := HSZ.out; omega) g.2)
  unfold trC prC at hW2
  try dsimp only [List.cons_append, List.nil_append] at hW2
  obtain ⟨⟨t0, t1, t2, t3, t4, t5⟩, p0, p1, p2, p3, p4⟩ := HCE.out W2 HG2.out
  clear h1 h2 h3 hb2 bt2 hk1 hkl hk2 hbW2 hF
  subst hW2
  go_wp2_with fail
  refine (HIA.out _ (HPO.out _ HG2.out).1.2 HG2.out.1).mono ?_
  rintro e v3 ⟨rfl, hk, hb⟩
  have HG3 := zh (HG2.out.next hk hb)
  clear hk hb t0 t1 t2 t3 t4 t5 p0 p1 p2 p3 p4
  obtain ⟨⟨t0, t1, t2, t3, t4, t5⟩, p0, p1, p2, p3, p4⟩ := HCE.out v3 HG3.out
  cases b1 with
  | false =>
   (try go_wp2_with fail)
   refine (HIB.out _ (HPO.out _ HG3.out).1.2 HG3.out.1).mono ?_
   rintro e v4 ⟨rfl, hk, hb⟩
   have HG4 := zh (HG3.out.next hk hb)
   clear hk hb t0 t1 t2 t3 t4 t5 p0 p1 p2 p3 p4
   obtain ⟨⟨t0, t1, t2, t3, t4, t5⟩, p0, p1, p2, p3, p4⟩ := HCE.out v4 HG4.out
   cases b2 with
   | false =>
    (try go_wp2_with fail)
    refine (HSB.out _ (HPO.out _ HG4.out)).mono ?_
    rintro e u1 ⟨⟨B, cB, rfl, hcB, hrB⟩, hbB⟩
    have HGB := zh (HG4.out.below hbB); have HRB := zh hrB
    clear hrB hbB hcB t0 t1 t2 t3 t4 t5 p0 p1 p2 p3 p4
    obtain ⟨⟨t0, t1, t2, t3, t4, t5⟩, p0, p1, p2, p3, p4⟩ := HCE.out u1 HGB.out
    go_wp2_with fail
    refine (HSA.out _ (HPO.out _ HGB.out)).mono ?_
    rintro e u2 ⟨⟨A, cA, rfl, hcA, hrA⟩, hbA⟩
    have HGA := zh (HGB.out.below hbA); have HRO := zh (HRB.out.below hbA); have HRR := zh hrA
    clear hrA hbA hcA t0 t1 t2 t3 t4 t5 p0 p1 p2 p3 p4
    obtain ⟨l, hl⟩ : ∃ l, l = supersL cs a := ⟨_, rfl⟩
    obtain ⟨m, hm⟩ : ∃ l, l = supersL cs b := ⟨_, rfl⟩
    have hlI := HLA.out; have hmI := HLB.out
    have hRR := HR.out; have hra := HRR.out; have hro := HRO.out
    rw [← hl] at hlI hra hRR ⊢
    rw [← hm] at hmI hro hRR ⊢
    have HNR := zh hRR; have HRA2 := zh hra; have HRO2 := zh hro; have HMI := zh hmI
    have hlI2 : (l.length : Int) ≤ 71 := by omega
    clear hRR hra hro hmI hlI hl hm
    go_wp2_with fail
    go_loopw [33] (fun i wr => ∃ k : Nat, i = .int .i64 (k : Int) ∧ k ≤ l.length ∧ (∀ t ∈ l.take k, (fun s => m.contains s) t = false) ∧ Below u2.heap.size u2 wr) (fun i _ => l.length - (intOf i).toNat)
    case atStart => exact ⟨0, rfl, Nat.zero_le _, by simp, Below.refl _ _⟩
    case round =>
     obtain ⟨k, rfl, hk, hall, hbw⟩ := hrel
     have HA := zh hall; have HB := zh hbw
     clear hall
     by_cases hlt : k < l.length
     ·have hltI : (k : Int) < (l.length : Int) := by omega
      obtain ⟨s, hs⟩ : ∃ x, l[k]? = some x := ⟨l[k]'hlt, List.getElem?_eq_getElem _⟩
      obtain ⟨aa, rfl, _, hcell⟩ := (HRA2.out.below hbw).at_ (sx_get hs)
      have HQ := zh (HRA.out B cB m s wr (HRO2.out.below hbw) (by have := HMI.out; omega))
      have hmt := take_more (P := fun s => m.contains s) HA.out hs
      cases hp : m.contains s with
      | true =>
       have HRE := zh (near_at hs hp HA.out)
       rw [hp] at HQ
       clear hs hmt hp hbw
       go_wp2_with fail
       refine HQ.out.mono ?_
       rintro e w9 ⟨rfl, hb9⟩
       have HG9 := zh (HGA.out.below (HB.out.trans (hb9.mono HB.out.size)))
       clear hb9
       go_wp2
       go_ret
       exact ⟨by rw [HNR.out, HRE.out]; first | rfl | (simp only [h0]; rfl) | (unfold commonN; simp [h0]), HEND.out _ HG9.out⟩
      | false =>
       have HM := zh (hmt hp)
       rw [hp] at HQ
       clear hs hmt hp hbw
       go_wp2_with fail
       refine HQ.out.mono ?_
       rintro e w9 ⟨rfl, hb9⟩
       have HB9 := zh (HB.out.trans (hb9.mono HB.out.size))
       clear hb9
       go_wp2
       go_roundw
       case rel => exact ⟨k + 1, by go_num, by omega, HM.out, HB9.out⟩
       case measure => simp [intOf]; omega
     ·have hltI : ¬ (k : Int) < (l.length : Int) := by omega
      have hall := HA.out
      rw [List.take_of_length_le (by omega)] at hall
      have HOK := zh (near_no hall)
      have HG9 := zh (HGA.out.below hbw)
      clear hall hbw
      go_wp2
      go_ret
      exact ⟨by rw [HNR.out, HOK.out]; first | rfl | (simp only [h0]; rfl) | (unfold commonN; simp [h0]), HEND.out _ HG9.out⟩
   | true =>
    (try go_wp2_with fail)
    go_ret
    exact ⟨by first | rfl | (simp only [h0]; rfl), HEND.out _ HG4.out⟩
  | true =>
   (try go_wp2_with fail)
   go_ret
   exact ⟨by first | rfl | (simp only [h0]; rfl), HEND.out _ HG3.out⟩
end Go.Proofs.Ytdifmgeicnndfaa.prg
namespace Go.Proofs.Ytdifmgeicnndfaa.prg
open Go.RowKit
open words kindp opp op kind word
set_option linter.all false
inductive Chn (cs : List ClM) : Tx → List Tx → Prop where
 | none {s : Tx} (h : findC cs s = none) : Chn cs s []
 | more {s : Tx} {c : ClM} {L : List Tx} (h : findC cs s = some c) (k : Chn cs c.su L) : Chn cs s (s :: L)
theorem has_of {cs : List ClM} {s : Tx} {c : ClM} (h : findC cs s = some c) : hasC cs s = true := by unfold hasC; rw [h]; rfl
theorem su_abv {cs : List ClM} {s : Tx} {c : ClM} (h : findC cs s = some c) : c.su ∈ abvN cs s := by unfold abvN; rw [h]; simp [abv]
theorem chn_sup {cs : List ClM} (hc : ∀ c ∈ cs, cycB cs c = false) : ∀ (f : Nat) (s : Tx) (l : List Tx), l.length + f = cs.length + 1 → l.Nodup → (∀ o ∈ l, (findC cs o).isSome = true) →
  (∀ x ∈ l, ∀ c, findC cs s = some c → Reach cs (abvN cs x) s) → ∃ r, supS cs f s l = l ++ r ∧ Chn cs s r
 | 0, s, l, hl, hn, hs, _ => by
  exfalso
  have := len_sub (m := cs.map (·.nm)) hn fun o ho => by
   obtain ⟨c, hc⟩ := Option.isSome_iff_exists.1 (hs o ho)
   obtain ⟨e, hm⟩ := findC_nm hc
   exact List.mem_map.2 ⟨c, hm, e⟩
  rw [List.length_map] at this
  omega
 | f + 1, s, l, hl, hn, hs, hr => by
  unfold supS
  cases hf : findC cs s with
  | none => exact ⟨[], by simp, .none hf⟩
  | some c =>
   dsimp only
   have hno : s ∉ l := fun hm => by
    have h1 := hr s hm c hf
    have h2 := hc c (findC_nm hf).2
    unfold cycB at h2
    have h3 : (upL cs (abv c)).contains c.nm = true := List.contains_iff_mem.2 (mem_up.2 (by rw [(findC_nm hf).1]; unfold abvN at h1; rw [hf] at h1; exact h1))
    rw [h3] at h2; cases h2
   rw [if_neg (by rw [List.contains_iff_mem]; exact hno)]
   obtain ⟨r, h1, h2⟩ := chn_sup hc f c.su (l ++ [s]) (by simp; omega) (by
    rw [List.nodup_append]; exact ⟨hn, by simp, fun a ha b hb e => by simp at hb; subst hb; subst e; exact hno ha⟩) (fun o ho => by
    rcases List.mem_append.1 ho with h | h
    ·exact hs o h
    ·simp at h; subst h; rw [hf]; rfl) (fun x hx c' hc' => by
    rcases List.mem_append.1 hx with h | h
    ·exact .step (hr x h c hf) (su_abv hf) (has_of hc')
    ·simp at h; subst h; exact .base (su_abv hf) (has_of hc'))
   exact ⟨s :: r, by rw [h1, List.append_assoc]; rfl, .more hf h2⟩
theorem sup_chn {cs : List ClM} (hc : ∀ c ∈ cs, cycB cs c = false) (s : Tx) : Chn cs s (supersL cs s) := by
 obtain ⟨r, h1, h2⟩ := chn_sup hc (cs.length + 1) s [] (by simp) List.nodup_nil (by simp) (by simp)
 unfold supersL
 rw [h1]; exact h2
theorem Chn.from_ {cs : List ClM} {s x : Tx} {L : List Tx} (h : Chn cs s L) (hx : x ∈ L) : ∃ P R, L = P ++ R ∧ Chn cs x R ∧ x ∈ R ∧ ∀ y ∈ P, y ≠ x := by
 induction h with
 | none _ => cases hx
 | more hf k ih =>
  rename_i s c L
  by_cases e : s = x
  ·subst e; exact ⟨[], s :: L, rfl, .more hf k, by simp, by simp⟩
  ·obtain ⟨P, R, h1, h2, h3, h4⟩ := ih (by rcases List.mem_cons.1 hx with h | h; exact absurd h.symm e; exact h)
   exact ⟨s :: P, R, by rw [h1]; rfl, h2, h3, fun y hy => by rcases List.mem_cons.1 hy with rfl | hy; exact e; exact h4 y hy⟩
theorem Chn.reach {cs : List ClM} {s x : Tx} {L : List Tx} (h : Chn cs s L) (hx : x ∈ L) : subB cs s x = true := by
 rw [sub_reach]
 induction h with
 | none _ => cases hx
 | more hf k ih =>
  rename_i s c L
  rcases List.mem_cons.1 hx with rfl | hx
  ·exact .base (by simp) (has_of hf)
  ·have h1 := ih hx
   have h2 : hasC cs c.su = true := by
    cases k with
    | none _ => cases hx
    | more h _ => exact has_of h
   exact (Reach.step (.base (by simp) (has_of hf)) (su_abv hf) h2).trans h1
theorem Chn.has {cs : List ClM} {s x : Tx} {L : List Tx} (h : Chn cs s L) (hx : x ∈ L) : ∃ c, findC cs x = some c := by
 obtain ⟨P, R, -, h2, h3, -⟩ := h.from_ hx
 cases h2 with
 | none _ => cases h3
 | more h _ => exact ⟨_, h⟩
theorem Chn.next {cs : List ClM} {s x : Tx} {L : List Tx} {c d : ClM} (h : Chn cs s L) (hx : x ∈ L) (hc : findC cs x = some c) (hd : findC cs c.su = some d) : c.su ∈ L := by
 obtain ⟨P, R, h1, h2, h3, -⟩ := h.from_ hx
 cases h2 with
 | none _ => cases h3
 | more h k =>
  rw [hc] at h; cases h
  cases k with
  | none h' => rw [hd] at h'; cases h'
  | more _ _ => rw [h1]; simp
theorem near_two {cs : List ClM} {a : Tx} {L M : List Tx} (h : Chn cs a L) : (nearL L M = [] ∧ ∀ x ∈ L, x ∉ M) ∨ (nearL L M ∈ L ∧ nearL L M ∈ M ∧ ∀ x ∈ L, x ∈ M → subB cs (nearL L M) x = true) := by
 cases hf : L.find? (fun s => M.contains s) with
 | none =>
  refine .inl ⟨by unfold nearL; rw [hf], fun x hx hm => ?_⟩
  have := List.find?_eq_none.1 hf x hx
  exact this (List.contains_iff_mem.2 hm)
 | some s =>
  have hs : nearL L M = s := by unfold nearL; rw [hf]
  rw [hs]
  have hm : s ∈ M := List.contains_iff_mem.1 (by simpa using List.find?_some hf)
  have hl : s ∈ L := List.mem_of_find?_eq_some hf
  refine .inr ⟨hl, hm, fun x hx hxm => ?_⟩
  obtain ⟨P, R, h1, h2, h3, h4⟩ := h.from_ hl
  rw [h1] at hx
  rcases List.mem_append.1 hx with hp | hr
  ·exfalso
   obtain ⟨k, hk, e⟩ := List.getElem_of_mem hp
   rw [List.find?_eq_some_iff_append] at hf
   obtain ⟨-, qs, bs, e2, hall⟩ := hf
   have e3 : qs = P ∨ ∃ t, qs = P ++ t ∨ P = qs ++ t := by
    rcases Nat.le_total qs.length P.length with hle | hle
    ·have hp1 : qs <+: P := by
      have q1 : qs <+: L := ⟨s :: bs, e2.symm⟩
      have q2 : P <+: L := ⟨R, h1.symm⟩
      exact List.prefix_of_prefix_length_le q1 q2 hle
     obtain ⟨t, ht⟩ := hp1
     exact .inr ⟨t, .inr ht.symm⟩
    ·have hp1 : P <+: qs := by
      have q1 : qs <+: L := ⟨s :: bs, e2.symm⟩
      have q2 : P <+: L := ⟨R, h1.symm⟩
      exact List.prefix_of_prefix_length_le q2 q1 hle
     obtain ⟨t, ht⟩ := hp1
     exact .inr ⟨t, .inl ht.symm⟩
   have hxa : x ∈ qs := by
    rcases e3 with e3 | ⟨t, e3 | e3⟩
    ·rw [e3]; exact hp
    ·rw [e3]; exact List.mem_append_left _ hp
    ·-- s stands in P then
     cases t with
     | nil => rw [List.append_nil] at e3; rw [← e3]; exact hp
     | cons y t =>
      exfalso
      have : L = qs ++ (y :: (t ++ R)) := by rw [h1, e3]; simp
      rw [e2] at this
      have h5 := List.append_cancel_left this
      injection h5 with h6 h7
      exact h4 s (by rw [e3, h6]; simp) rfl
   have := hall x hxa
   rw [List.contains_iff_mem.2 hxm] at this
   simp at this
  ·exact h2.reach hr
structure Fine (cs : List ClM) : Prop where
 cyc : ∀ c ∈ cs, cycB cs c = false
 ifs : ∀ c ∈ cs, ∀ s ∈ c.is, ifB cs s = true
 emp : ∀ c ∈ cs, c.nm ≠ []
 sup : ∀ c ∈ cs, c.fc = true → c.su = []
theorem Fine.no {cs : List ClM} (h : Fine cs) : findC cs [] = none := by
 cases hf : findC cs [] with
 | none => rfl
 | some c => exact absurd (findC_nm hf).1 (h.emp c (findC_nm hf).2)
theorem Fine.chain {cs : List ClM} (h : Fine cs) {a x : Tx} {L : List Tx} (hL : Chn cs a L) (hr : Reach cs [a] x) : ifB cs x = false → ifB cs a = false ∧ x ∈ L := by
 induction hr with
 | base hm k =>
  rw [List.mem_singleton] at hm
  subst hm
  intro hi
  cases hL with
  | none hf => unfold hasC at k; rw [hf] at k; cases k
  | more _ _ => exact ⟨hi, by simp⟩
 | step hy hm k ih =>
  rename_i x y
  intro hi
  obtain ⟨c, hc⟩ := Option.isSome_iff_exists.1 hy.has
  unfold abvN at hm
  rw [hc] at hm
  simp only [abv, List.mem_cons] at hm
  rcases hm with rfl | hm
  ·have hyi : ifB cs y = false := by
    unfold ifB; rw [hc]
    cases hfc : c.fc with
    | false => exact hfc
    | true =>
     have := h.sup c (findC_nm hc).2 hfc
     rw [this] at k
     unfold hasC at k; rw [h.no] at k; cases k
   obtain ⟨h1, h2⟩ := ih hyi
   obtain ⟨d, hd⟩ := Option.isSome_iff_exists.1 k
   exact ⟨h1, hL.next h2 hc hd⟩
  ·rw [h.ifs c (findC_nm hc).2 x hm] at hi; cases hi
theorem common_same {cs : List ClM} (h : Fine cs) (a b : Tx) : commonE cs a b = commonE cs b a := by
 unfold commonE
 have e : nearL (supersL cs a) (supersL cs b) = nearL (supersL cs b) (supersL cs a) := by
  have ha := sup_chn h.cyc a
  have hb := sup_chn h.cyc b
  rcases near_two (M := supersL cs b) ha with ⟨h1, h2⟩ | ⟨h1, h2, h3⟩
  ·rcases near_two (M := supersL cs a) hb with ⟨k1, k2⟩ | ⟨k1, k2, -⟩
   ·rw [h1, k1]
   ·exact absurd k1 (h2 _ k2)
  ·rcases near_two (M := supersL cs a) hb with ⟨k1, k2⟩ | ⟨k1, k2, k3⟩
   ·exact absurd h1 (k2 _ h2)
   ·exact sub_anti h.cyc (h3 _ k2 k1) (k3 _ h2 h1)
 rw [e]
 have e2 : (a == b) = (b == a) := by
  by_cases hab : a = b
  ·subst hab; rfl
  ·rw [beq_eq_false_iff_ne.2 hab, beq_eq_false_iff_ne.2 (fun x => hab x.symm)]
 rw [e2]
 unfold commonN
 rw [Bool.or_comm (ifB cs a)]
theorem common_sub {cs : List ClM} (h : Fine cs) {a b : Tx} (hs : commonE cs a b ≠ []) : subB cs a (commonE cs a b) = true ∧ subB cs b (commonE cs a b) = true := by
 unfold commonE commonN at hs ⊢
 split at hs
 ·exact absurd rfl hs
 ·rename_i hn
  rw [if_neg hn]
  rcases near_two (M := supersL cs b) (sup_chn h.cyc a) with ⟨h1, -⟩ | ⟨h1, h2, -⟩
  ·exact absurd h1 hs
  ·exact ⟨(sup_chn h.cyc a).reach h1, (sup_chn h.cyc b).reach h2⟩
theorem common_near {cs : List ClM} (h : Fine cs) {a b c : Tx} (hi : ifB cs c = false) (ha : subB cs a c = true) (hb : subB cs b c = true) : commonE cs a b ≠ [] ∧ subB cs (commonE cs a b) c = true := by
 obtain ⟨a1, a2⟩ := h.chain (sup_chn h.cyc a) (sub_reach.1 ha) hi
 obtain ⟨b1, b2⟩ := h.chain (sup_chn h.cyc b) (sub_reach.1 hb) hi
 unfold commonE commonN
 rw [a1, b1, if_neg (by simp)]
 rcases near_two (M := supersL cs b) (sup_chn h.cyc a) with ⟨-, h2⟩ | ⟨h1, -, h3⟩
 ·exact absurd b2 (h2 c a2)
 ·refine ⟨fun e => ?_, h3 c a2 b2⟩
  obtain ⟨d, hd⟩ := (sup_chn h.cyc a).has h1
  rw [e, h.no] at hd; cases hd
end Go.Proofs.Ytdifmgeicnndfaa.prg
namespace Go.Proofs.Ytdifmgeicnndfaa.prg
open Go.RowKit
open words kindp opp op kind word
set_option linter.all false
abbrev Fa := Int × Tx
def isRB (k : Int) : Bool := k == 2 || (k == 3 || (k == 4 || (k == 5 || k == 6)))
def ordT (x y : Tx) : Bool := decide (0 < cmpI x y)
def ordF (a b : Fa) : Bool := if a.1 < b.1 then false else if b.1 < a.1 then true else ordT a.2 b.2
def joinR (a b : Fa) (c : Tx) : Fa := if a = b then a else if (!isRB a.1 || !isRB b.1) = true then (0, []) else if a.1 = 2 then b else if a.1 = 3 ∧ b.1 = 3 ∧ c ≠ [] then (3, c) else (6, [])
def joinS (cs : List ClM) (a b : Fa) : Fa := joinR a b (commonE cs a.2 b.2)
def joinF (cs : List ClM) (a b : Fa) : Fa := if ordF a b = true then joinS cs b a else joinS cs a b
def fitF (cs : List ClM) (a : Fa) (t : Ty) : Bool := if t.1 = 2 then a.1 == 1 else if t.1 = 3 then (a.1 == 2 || (a.1 == 3 && subB cs a.2 t.2)) else if t.1 = 4 then (a.1 == 2 || a.1 == 4) else if t.1 = 5 then (a.1 == 2 || (a.1 == 5 && a.2 == t.2)) else false
inductive FK where
 | un : FK
 | it : FK
 | ni : FK
 | rf : Tx → FK
 | is : FK
 | rs : Tx → FK
 | an : FK
def toF : FK → Fa
 | .un => (0, [])
 | .it => (1, [])
 | .ni => (2, [])
 | .rf c => (3, c)
 | .is => (4, [])
 | .rs c => (5, c)
 | .an => (6, [])
theorem toF_inj {x y : FK} (h : toF x = toF y) : x = y := by
 cases x <;> cases y <;> simp [toF] at h ⊢ <;> exact h
def refK (cs : List ClM) (a b : Tx) : FK := if a = b then .rf a else if commonE cs a b = [] then .an else .rf (commonE cs a b)
open Classical in
noncomputable def arrK (a b : Tx) : FK := if a = b then .rs a else .an
noncomputable def JK (cs : List ClM) : FK → FK → FK
 | .un, _ => .un
 | .it, .it => .it
 | .it, _ => .un
 | .ni, .un => .un
 | .ni, .it => .un
 | .ni, y => y
 | .rf _, .un => .un
 | .rf _, .it => .un
 | .rf a, .ni => .rf a
 | .rf a, .rf b => refK cs a b
 | .rf _, _ => .an
 | .is, .un => .un
 | .is, .it => .un
 | .is, .ni => .is
 | .is, .is => .is
 | .is, _ => .an
 | .rs _, .un => .un
 | .rs _, .it => .un
 | .rs a, .ni => .rs a
 | .rs a, .rs b => arrK a b
 | .rs _, _ => .an
 | .an, .un => .un
 | .an, .it => .un
 | .an, _ => .an
theorem joinR_same (a : Fa) (c : Tx) : joinR a a c = a := by unfold joinR; rw [if_pos rfl]
theorem joinR_no {a b : Fa} {c : Tx} (h : a ≠ b) (k : (!isRB a.1 || !isRB b.1) = true) : joinR a b c = (0, []) := by unfold joinR; rw [if_neg h, if_pos k]
theorem joinR_nil {a b : Fa} {c : Tx} (h : a ≠ b) (k : (!isRB a.1 || !isRB b.1) = false) (h2 : a.1 = 2) : joinR a b c = b := by unfold joinR; rw [if_neg h, if_neg (by rw [k]; simp), if_pos h2]
theorem joinR_ref {a b : Fa} {c : Tx} (h : a ≠ b) (k : (!isRB a.1 || !isRB b.1) = false) (h2 : a.1 = 3) (h3 : b.1 = 3) (h4 : c ≠ []) : joinR a b c = (3, c) := by unfold joinR; rw [if_neg h, if_neg (by rw [k]; simp), if_neg (by rw [h2]; decide), if_pos ⟨h2, h3, h4⟩]
theorem joinR_any {a b : Fa} {c : Tx} (h : a ≠ b) (k : (!isRB a.1 || !isRB b.1) = false) (h2 : a.1 ≠ 2) (h3 : ¬ (a.1 = 3 ∧ b.1 = 3 ∧ c ≠ [])) : joinR a b c = (6, []) := by unfold joinR; rw [if_neg h, if_neg (by rw [k]; simp), if_neg h2, if_neg h3]
structure FinJ (cs : List ClM) : Prop where
 fine : Fine cs
 sui : ∀ c ∈ cs, ifB cs c.su = false
theorem sup_plain {cs : List ClM} (f : FinJ cs) {a x : Tx} {L : List Tx} (hL : Chn cs a L) : ifB cs a = false → x ∈ L → ifB cs x = false := by
 induction hL with
 | none _ => intro _ h; cases h
 | more hf _ ih =>
  intro h hm
  rcases List.mem_cons.1 hm with rfl | hm
  ·exact h
  ·exact ih (f.sui _ (findC_nm hf).2) hm
theorem refK_comm {cs : List ClM} (hs : ∀ a b, commonE cs a b = commonE cs b a) (a b : Tx) : refK cs b a = refK cs a b := by
 unfold refK
 by_cases hab : a = b
 ·subst hab; rfl
 ·rw [if_neg hab, if_neg (fun e => hab e.symm), hs b a]
theorem join_rf {cs : List ClM} (hs : ∀ a b, commonE cs a b = commonE cs b a) (a b : Tx) : joinF cs (3, a) (3, b) = toF (refK cs a b) := by
 have key : ∀ a b : Tx, joinS cs (3, a) (3, b) = toF (refK cs a b) := by
  intro a b
  unfold joinS joinR refK
  by_cases hab : a = b
  ·subst hab; simp [toF]
  ·by_cases hc : commonE cs a b = [] <;> simp [hab, hc, toF, isRB]
 unfold joinF
 split
 ·rw [key, refK_comm hs]
 ·rw [key]
theorem join_toF {cs : List ClM} (h : Fine cs) (x y : FK) : joinF cs (toF x) (toF y) = toF (JK cs x y) := by
 have hs := common_same h
 cases x <;> cases y <;> (try exact join_rf hs _ _) <;> simp only [toF, joinF, ordF, JK, refK, arrK] <;> (try simp [joinS, joinR, isRB])
 ·rename_i a b
  by_cases hab : a = b
  ·subst hab; simp
  ·have hba : ¬ b = a := fun e => hab e.symm
   simp [hab, hba]
def relC (cs : List ClM) (a b : Tx) : Prop := ifB cs a = false ∧ ifB cs b = false ∧ subB cs a b = true
def leK (cs : List ClM) : FK → FK → Prop
 | _, .un => True
 | .un, _ => False
 | .it, .it => True
 | .it, _ => False
 | .ni, .it => False
 | .ni, _ => True
 | .rf _, .an => True
 | .rf a, .rf b => a = b ∨ relC cs a b
 | .rf _, _ => False
 | .is, .an => True
 | .is, .is => True
 | .is, _ => False
 | .rs _, .an => True
 | .rs a, .rs b => a = b
 | .rs _, _ => False
 | .an, .an => True
 | .an, _ => False
theorem leK_refl (cs : List ClM) (x : FK) : leK cs x x := by cases x <;> simp [leK]
theorem relC_trans {cs : List ClM} {a b c : Tx} (h : relC cs a b) (k : relC cs b c) : relC cs a c := ⟨h.1, k.2.1, sub_trans h.2.2 k.2.2⟩
theorem leK_trans {cs : List ClM} {x y z : FK} (h : leK cs x y) (k : leK cs y z) : leK cs x z := by
 cases x <;> cases y <;> cases z <;> simp [leK] at h k ⊢ <;> first
  | (subst h; exact k)
  | (rcases h with rfl | h
     · exact k
     · rcases k with rfl | k
       · exact .inr h
       · exact .inr (relC_trans h k))
theorem leK_anti {cs : List ClM} (f : Fine cs) {x y : FK} (h : leK cs x y) (k : leK cs y x) : x = y := by
 cases x <;> cases y <;> simp [leK] at h k ⊢
 ·rcases h with h | h
  ·exact h
  ·rcases k with k | k
   ·exact k.symm
   ·exact sub_anti f.cyc h.2.2 k.2.2
 ·exact h
theorem common_rel {cs : List ClM} (f : FinJ cs) {a b : Tx} (hab : a ≠ b) (hc : commonE cs a b ≠ []) : relC cs a (commonE cs a b) ∧ relC cs b (commonE cs a b) := by
 obtain ⟨h1, h2⟩ := common_sub f.fine hc
 have hi : ifB cs a = false ∧ ifB cs b = false := by
  unfold commonE commonN at hc
  rw [beq_eq_false_iff_ne.2 hab] at hc
  cases ha : ifB cs a <;> cases hb : ifB cs b <;> simp [ha, hb] at hc ⊢
 have hj : ifB cs (commonE cs a b) = false := by
  have hm : commonE cs a b ∈ supersL cs a := by
   unfold commonE commonN at hc ⊢
   split at hc
   ·exact absurd rfl hc
   ·rename_i hn
    rw [if_neg hn]
    rcases near_two (M := supersL cs b) (sup_chn f.fine.cyc a) with ⟨k1, -⟩ | ⟨k1, -, -⟩
    ·exact absurd k1 hc
    ·exact k1
  exact sup_plain f (sup_chn f.fine.cyc a) hi.1 hm
 exact ⟨⟨hi.1, hj, h1⟩, ⟨hi.2, hj, h2⟩⟩
theorem sub_end {cs : List ClM} {a b : Tx} (h : subB cs a b = true) : subB cs b b = true := sub_reach.2 (.base (by simp) (sub_reach.1 h).has)
theorem JK_ub {cs : List ClM} (f : FinJ cs) (x y : FK) : leK cs x (JK cs x y) ∧ leK cs y (JK cs x y) := by
 cases x <;> cases y <;> simp [JK, leK, refK, arrK]
 ·rename_i a b
  by_cases hab : a = b
  ·subst hab; simp [leK]
  ·rw [if_neg hab]
   by_cases hc : commonE cs a b = []
   ·rw [if_pos hc]; exact ⟨trivial, trivial⟩
   ·rw [if_neg hc]
    obtain ⟨h1, h2⟩ := common_rel f hab hc
    exact ⟨.inr h1, .inr h2⟩
 ·rename_i a b
  by_cases hab : a = b
  ·subst hab; simp [leK]
  ·rw [if_neg hab]; exact ⟨trivial, trivial⟩
theorem JK_least {cs : List ClM} (f : FinJ cs) {x y z : FK} (h : leK cs x z) (k : leK cs y z) : leK cs (JK cs x y) z := by
 cases x <;> cases y <;> cases z <;> simp [leK] at h k <;> simp [JK, leK, refK, arrK] <;> (try exact h) <;> (try exact k)
 ·rename_i a b c
  by_cases hab : a = b
  ·subst hab; simpa [leK] using h
  ·have hr : relC cs a c ∧ relC cs b c ∨ (a = c ∧ relC cs b c) ∨ (b = c ∧ relC cs a c) := by
    rcases h with h | h <;> rcases k with k | k
    ·exact absurd (h.trans k.symm) hab
    ·exact .inr (.inl ⟨h, k⟩)
    ·exact .inr (.inr ⟨k, h⟩)
    ·exact .inl ⟨h, k⟩
   have hm : commonE cs a b ≠ [] ∧ subB cs (commonE cs a b) c = true ∧ ifB cs c = false := by
    rcases hr with ⟨h1, h2⟩ | ⟨rfl, h2⟩ | ⟨rfl, h1⟩
    ·obtain ⟨k1, k2⟩ := common_near f.fine h1.2.1 h1.2.2 h2.2.2
     exact ⟨k1, k2, h1.2.1⟩
    ·obtain ⟨k1, k2⟩ := common_near f.fine h2.2.1 (sub_end h2.2.2) h2.2.2
     exact ⟨k1, k2, h2.2.1⟩
    ·obtain ⟨k1, k2⟩ := common_near f.fine h1.2.1 h1.2.2 (sub_end h1.2.2)
     exact ⟨k1, k2, h1.2.1⟩
   rw [if_neg hab, if_neg hm.1]
   obtain ⟨q1, q2⟩ := common_rel f hab hm.1
   exact .inr ⟨q1.2.1, hm.2.2, hm.2.1⟩
 ·rename_i a b
  by_cases hab : a = b
  ·rw [if_pos hab]; trivial
  ·rw [if_neg hab]
   by_cases hc : commonE cs a b = []
   ·rw [if_pos hc]; trivial
   ·rw [if_neg hc]; trivial
 ·rename_i a b c
  rw [if_pos (h.trans k.symm)]; exact h
 ·rename_i a b
  by_cases hab : a = b <;> simp [hab]
theorem JK_assoc {cs : List ClM} (f : FinJ cs) (x y z : FK) : JK cs (JK cs x y) z = JK cs x (JK cs y z) := by
 have h1 := JK_ub f x y
 have h2 := JK_ub f (JK cs x y) z
 have h3 := JK_ub f y z
 have h4 := JK_ub f x (JK cs y z)
 exact leK_anti f.fine (JK_least f (JK_least f h4.1 (leK_trans h3.1 h4.2)) (leK_trans h3.2 h4.2)) (JK_least f (leK_trans h1.1 h2.1) (JK_least f (leK_trans h1.2 h2.1) h2.2))
theorem JK_below {cs : List ClM} (f : FinJ cs) (x y : FK) : JK cs x y = y ↔ leK cs x y :=
 ⟨fun h => by have := (JK_ub f x y).1; rw [h] at this; exact this, fun h => leK_anti f.fine (JK_least f h (leK_refl cs y)) (JK_ub f x y).2⟩
end Go.Proofs.Ytdifmgeicnndfaa.prg
namespace Go.Proofs.Ytdifmgeicnndfaa.prg
open Go.RowKit
open words kindp opp op kind word
set_option maxRecDepth 100000
set_option maxHeartbeats 4000000
set_option linter.all false
def faC (a : Fa) : List Value := [.int .i64 a.1, .string ⟨a.2.toArray⟩]
def cmpB (a b : Bool) : Int := if a = true then -1 else if b = true then 1 else 0
def ordI (a b : Fa) : Int := if cmpB (decide (a.1 < b.1)) (decide (b.1 < a.1)) ≠ 0 then cmpB (decide (a.1 < b.1)) (decide (b.1 < a.1)) else cmpI a.2 b.2
theorem ord_pos (a b : Fa) : decide (0 < ordI a b) = ordF a b := by
 unfold ordI ordF cmpB
 by_cases h1 : a.1 < b.1
 ·simp [h1]
 ·by_cases h2 : b.1 < a.1
  ·simp [h1, h2]
  ·simp [h1, h2, ordT]
theorem fa_cells {w : World} {b : Nat} {t : TypeId} {fz} {a : Fa} (h : w.heap[b]? = some (.cells (faC a).toArray t fz)) : w.cell? ⟨b, 0, none⟩ = some (.int .i64 a.1) ∧ w.cell? ⟨b, 1, none⟩ = some (.string ⟨a.2.toArray⟩) :=
 ⟨cell_of_row _ _ 0 _ _ _ h, cell_of_row _ _ 1 _ _ _ h⟩
theorem nanJ_k (a : Int) (w : World) : Calls Try.prog 128 #[.int .i64 a] w fun e w' => e = .returned (.bool false) ∧ Below w.heap.size w w' := by
 have h : (a != a) = false := by simp
 go_enter Try.func128, Try.ntmps128
 go_wp2
 go_ret
 exact ⟨rfl, Below.refl _ _⟩
theorem cmpJ_k (a b : Int) (w : World) : Calls Try.prog 89 #[.int .i64 a, .int .i64 b] w fun e w' => e = .returned (.int .i64 (cmpB (decide (a < b)) (decide (b < a)))) ∧ Below w.heap.size w w' := by
 have HN := zh (fun (c : Int) v => nanJ_k c v)
 cases h1 : decide (a < b) with
 | true =>
  go_enter Try.func89, Try.ntmps89
  go_wp2_with fail
  refine (HN.out a _).mono ?_
  rintro e w1 ⟨rfl, hb1⟩
  go_wp2_with fail
  refine (HN.out b _).mono ?_
  rintro e w2 ⟨rfl, hb2⟩
  have HB := zh (then' hb1 hb2)
  clear hb1 hb2
  go_wp2
  go_ret
  exact ⟨rfl, HB.out⟩
 | false =>
  cases h2 : decide (b < a) with
  | true =>
   go_enter Try.func89, Try.ntmps89
   go_wp2_with fail
   refine (HN.out a _).mono ?_
   rintro e w1 ⟨rfl, hb1⟩
   go_wp2_with fail
   refine (HN.out b _).mono ?_
   rintro e w2 ⟨rfl, hb2⟩
   have HB := zh (then' hb1 hb2)
   clear hb1 hb2
   go_wp2
   go_ret
   exact ⟨rfl, HB.out⟩
  | false =>
   go_enter Try.func89, Try.ntmps89
   go_wp2_with fail
   refine (HN.out a _).mono ?_
   rintro e w1 ⟨rfl, hb1⟩
   go_wp2_with fail
   refine (HN.out b _).mono ?_
   rintro e w2 ⟨rfl, hb2⟩
   have HB := zh (then' hb1 hb2)
   clear hb1 hb2
   go_wp2
   go_ret
   exact ⟨rfl, HB.out⟩
theorem or_two (A : Option Addr) (x y : Int) (w : World) (hr : Rd w A [.int .i64 x, .int .i64 y]) : Calls Try.prog 88 #[.slice A 2 2] w fun e w' => e = .returned (.int .i64 (if x ≠ 0 then x else y)) ∧ Below w.heap.size w w' := by
 obtain ⟨a, rfl, hb, c0⟩ := hr.at_ (j := 0) (u := .int .i64 x) rfl
 obtain ⟨a', e, -, c1⟩ := hr.at_ (j := 1) (u := .int .i64 y) rfl
 cases e
 have c0' : w.cell? a = some (.int .i64 x) := by simpa [Addr.add] using c0
 have c1' : w.cell? ⟨a.block, a.off + 1, none⟩ = some (.int .i64 y) := by simpa [Addr.add] using c1
 clear hr c0
 have c0 := c0'
 clear c0'
 by_cases hx : x = 0
 ·have g0 : (x != 0) = false := by rw [hx]; rfl
  rw [if_neg (by simpa using hx)]
  have HX := zh hx
  clear hx
  by_cases hy : y = 0
  ·have g1 : (y != 0) = false := by rw [hy]; rfl
   rw [hy]
   clear hy
   go_enter Try.func88, Try.ntmps88
   go_wp2
   go_loopw [8] (fun i wr => (i = .int .i64 0 ∨ i = .int .i64 1 ∨ i = .int .i64 2) ∧ wr = w) (fun i _ => 3 - (intOf i).toNat)
   case atStart => exact ⟨.inl rfl, rfl⟩
   case round =>
    obtain ⟨h | h | h, rfl⟩ := hrel
    ·subst h
     go_wp2
     go_roundw
     case rel => exact ⟨.inr (.inl rfl), trivial⟩
     case measure => decide
    ·subst h
     go_wp2
     go_roundw
     case rel => exact ⟨.inr (.inr rfl), trivial⟩
     case measure => decide
    ·subst h
     go_wp2
     go_ret
     exact ⟨rfl, Below.refl _ _⟩
  ·have g1 : (y != 0) = true := by simpa using hy
   clear hy
   go_enter Try.func88, Try.ntmps88
   go_wp2
   go_loopw [8] (fun i wr => (i = .int .i64 0 ∨ i = .int .i64 1) ∧ wr = w) (fun i _ => 3 - (intOf i).toNat)
   case atStart => exact ⟨.inl rfl, rfl⟩
   case round =>
    obtain ⟨h | h, rfl⟩ := hrel
    ·subst h
     go_wp2
     go_roundw
     case rel => exact ⟨.inr rfl, trivial⟩
     case measure => decide
    ·subst h
     go_wp2
     go_ret
     exact ⟨rfl, Below.refl _ _⟩
 ·have g0 : (x != 0) = true := by simpa using hx
  rw [if_pos hx]
  clear hx
  go_enter Try.func88, Try.ntmps88
  go_wp2
  go_loopw [8] (fun i wr => i = .int .i64 0 ∧ wr = w) (fun i _ => 3 - (intOf i).toNat)
  case atStart => exact ⟨rfl, rfl⟩
  case round =>
   obtain ⟨h, rfl⟩ := hrel
   subst h
   go_wp2
   go_ret
   exact ⟨rfl, Below.refl _ _⟩
theorem isref_j (a : Fa) (w : World) : Calls Try.prog 52 #[.agg (faC a).toArray] w fun e w' => e = .returned (.bool (isRB a.1)) ∧ Below w.heap.size w w' := by
 obtain ⟨k, c⟩ := a
 unfold faC isRB
 dsimp only
 have HAL := zh (show Below w.heap.size w (w.alloc (.cells #[.int .i64 k, .string ⟨c.toArray⟩] 50)) from (Below.refl _ w).alloc (Nat.le_refl _) _)
 cases h2 : (k == 2) with
 | true =>
  go_enter Try.func52, Try.ntmps52
  go_wp2
  go_ret
  exact ⟨rfl, HAL.out⟩
 | false =>
  cases h3 : (k == 3) with
  | true =>
   go_enter Try.func52, Try.ntmps52
   go_wp2
   go_ret
   exact ⟨rfl, HAL.out⟩
  | false =>
   cases h4 : (k == 4) with
   | true =>
    go_enter Try.func52, Try.ntmps52
    go_wp2
    go_ret
    exact ⟨rfl, HAL.out⟩
   | false =>
    cases h5 : (k == 5) with
    | true =>
     go_enter Try.func52, Try.ntmps52
     go_wp2
     go_ret
     exact ⟨rfl, HAL.out⟩
    | false =>
     cases h6 : (k == 6) with
     | true =>
      go_enter Try.func52, Try.ntmps52
      go_wp2
      go_ret
      exact ⟨rfl, HAL.out⟩
     | false =>
      go_enter Try.func52, Try.ntmps52
      go_wp2
      go_ret
      exact ⟨rfl, HAL.out⟩
end Go.Proofs.Ytdifmgeicnndfaa.prg
namespace Go.Proofs.Ytdifmgeicnndfaa.prg
open Go.RowKit
open words kindp opp op kind word
set_option maxRecDepth 100000
set_option maxHeartbeats 8000000
set_option linter.all false
theorem order_j (a b : Fa) (w : World) : Calls Try.prog 55 #[.agg (faC a).toArray, .agg (faC b).toArray] w fun e w' => (∃ r, e = .returned (.int .i64 r) ∧ decide (0 < r) = ordF a b) ∧ Below w.heap.size w w' := by
 obtain ⟨k, c⟩ := a
 obtain ⟨l, d⟩ := b
 have HR := zh (ord_pos (k, c) (l, d))
 obtain ⟨R, hR⟩ : ∃ r, r = ordI (k, c) (l, d) := ⟨_, rfl⟩
 rw [← hR] at HR
 have HRI := zh hR
 clear hR
 obtain ⟨W, hW⟩ : ∃ W, W = (w.alloc (.cells #[.int .i64 k, .string ⟨c.toArray⟩] 50)).alloc (.cells #[.int .i64 l, .string ⟨d.toArray⟩] 50) := ⟨_, rfl⟩
 have hal : Below w.heap.size w W := by rw [hW]; exact ((Below.refl _ w).alloc (Nat.le_refl _) _).alloc (by simp) _
 have h1 : W.heap[w.heap.size]? = some (.cells (faC (k, c)).toArray 50 (0, 0)) := by rw [hW]; exact (Below.heap_alloc _ _ _ (by simp)).trans (heap_alloc_new w _)
 have h2 : W.heap[w.heap.size + 1]? = some (.cells (faC (l, d)).toArray 50 (0, 0)) := by
  have := heap_alloc_new (w.alloc (.cells #[.int .i64 k, .string ⟨c.toArray⟩] 50)) (.cells #[.int .i64 l, .string ⟨d.toArray⟩] 50)
  rw [World.size_alloc] at this
  rw [hW]; exact this
 have HS := zh (show ∀ v, Below W.heap.size W v → (fun w' : World => (w'.cell? ⟨w.heap.size, 0, none⟩ = some (.int .i64 k) ∧ w'.cell? ⟨w.heap.size, 1, none⟩ = some (.string ⟨c.toArray⟩)) ∧ (w'.cell? ⟨w.heap.size + 1, 0, none⟩ = some (.int .i64 l) ∧ w'.cell? ⟨w.heap.size + 1, 1, none⟩ = some (.string ⟨d.toArray⟩))) v from fun v hv => ⟨fa_cells ((hv.block _ (blk_lt h1)).trans h1), fa_cells ((hv.block _ (blk_lt h2)).trans h2)⟩)
 have HCK := zh (fun v => cmpJ_k k l v); have HCS := zh (fun v => cmp_w c d v)
 have HAL := zh hal
 unfold faC
 dsimp only
 have HW := zh hW
 clear hal h1 h2 hW
 have hmx : Try.prog.follows .mixedOrders = true := by kernel_rfl
 go_enter Try.func55, Try.ntmps55
 go_wp2_with fail
 try simp only [World.size_alloc]
 rw [← HW.out]
 (try go_wp2_with fail)
 refine wp_region_held_drew (S := fun w' : World => (w'.cell? ⟨w.heap.size, 0, none⟩ = some (.int .i64 k) ∧ w'.cell? ⟨w.heap.size, 1, none⟩ = some (.string ⟨c.toArray⟩)) ∧ (w'.cell? ⟨w.heap.size + 1, 0, none⟩ = some (.int .i64 l) ∧ w'.cell? ⟨w.heap.size + 1, 1, none⟩ = some (.string ⟨d.toArray⟩))) (by kernel_rfl) ?_ (fun hHeld => ?_)
 ·exact HS.out _ ⟨rfl, rfl, rfl, Nat.le_refl _, fun _ _ => rfl⟩
 obtain ⟨u0, hWd⟩ : ∃ u, u = W.drew := ⟨_, rfl⟩
 have HB0 := zh (show Below W.heap.size W u0 from by rw [hWd]; exact ⟨rfl, rfl, rfl, Nat.le_refl _, fun _ _ => rfl⟩)
 rw [← hWd]
 have hS0 := HS.out _ HB0.out
 clear hWd
 refine tkp 0 rfl ?_
 refine tkp 1 rfl ?_
 refine tkp 2 rfl ?_
 refine tkp 3 rfl ?_
 refine tkp 5 rfl ?_
 refine tkp 6 rfl ?_
 refine tkp 7 rfl ?_
 refine tkp 8 rfl ?_
 clear hS0
 refine rdy 4 rfl (fun K hK => ?_)
 go_simp
 refine (HCK.out u0).mono ?_
 rintro e u1 ⟨rfl, hb⟩
 have HB1 := zh (then' HB0.out hb)
 clear hb
 go_wp2_with fail
 refine hK.out _ _ (HS.out _ HB1.out) (fun hHeld => ?_)
 clear hK K
 try simp only [puts]
 refine rdy 9 rfl (fun K hK => ?_)
 go_simp
 refine (HCS.out u1).mono ?_
 rintro e u2 ⟨rfl, rfl⟩
 have HB2 := HB1
 go_wp2_with fail
 refine hK.out _ _ (HS.out _ HB2.out) (fun hHeld => ?_)
 clear hK K
 try simp only [puts]
 refine rdy 10 rfl (fun K hK => ?_)
 go_simp
 obtain ⟨X, hX⟩ : ∃ v, v = cmpB (decide (k < l)) (decide (l < k)) := ⟨_, rfl⟩
 obtain ⟨Y, hY⟩ : ∃ v, v = cmpI c d := ⟨_, rfl⟩
 rw [← hX, ← hY]
 obtain ⟨u3, hn1⟩ : ∃ v, v = u2.alloc (.cells #[.int .i64 X, .int .i64 Y] 3) := ⟨_, rfl⟩
 have hr3 : Rd u3 (some ⟨u2.heap.size, 0, none⟩) [.int .i64 X, .int .i64 Y] := by rw [hn1]; exact rd_blk (heap_alloc_new u2 _) (k := 2) rfl
 have HB3 := zh (show Below W.heap.size W u3 from by rw [hn1]; exact HB2.out.alloc HB2.out.size _)
 have HRXY := zh (show R = if X ≠ 0 then X else Y from by rw [HRI.out, hX, hY]; rfl)
 have HOR := zh (or_two _ X Y u3 hr3)
 rw [← hn1]
 clear hn1 hr3 hX hY
 refine hK.out _ _ (HS.out _ HB3.out) (fun hHeld => ?_)
 clear hK K
 try simp only [puts]
 refine rdy 11 rfl (fun K hK => ?_)
 go_simp
 refine HOR.out.mono ?_
 rintro e u4 ⟨rfl, hb⟩
 have HB4 := zh (then' HB3.out hb)
 clear hb
 rw [← HRXY.out]
 go_wp2_with fail
 refine hK.out _ _ (HS.out _ HB4.out) (fun hHeld => ?_)
 clear hK K
 try simp only [puts]
 have hS4 := HS.out _ HB4.out
 refine tkp 12 rfl ?_
 clear hS4
 refine wpAnyH_done (by kernel_rfl) ?_ _
 go_wp2
 go_ret
 exact ⟨⟨R, rfl, HR.out⟩, HAL.out.trans (HB4.out.mono HAL.out.size)⟩
theorem of_int (w : World) : Calls Try.prog 53 #[.agg #[.int .i64 2, .string ⟨#[]⟩]] w fun e w' => e = .returned (.agg #[.int .i64 1, .string ⟨#[]⟩]) ∧ Below w.heap.size w w' := by
 obtain ⟨W, hW⟩ : ∃ W, W = (w.alloc (.cells #[.int .i64 2, .string ⟨#[]⟩] 63)).alloc (.cells #[.int .i64 1, .string ⟨#[]⟩] 50) := ⟨_, rfl⟩
 have HAL := zh (show Below w.heap.size w W from by rw [hW]; exact ((Below.refl _ w).alloc (Nat.le_refl _) _).alloc (by simp) _)
 have h2 : W.heap[w.heap.size + 1]? = some (.cells #[.int .i64 1, .string ⟨#[]⟩] 50 (0, 0)) := by
  have := heap_alloc_new (w.alloc (.cells #[.int .i64 2, .string ⟨#[]⟩] 63)) (.cells #[.int .i64 1, .string ⟨#[]⟩] 50)
  rw [World.size_alloc] at this
  rw [hW]; exact this
 have d0 := zh (cell_of_row _ _ 0 _ _ _ h2); have d1 := zh (cell_of_row _ _ 1 _ _ _ h2)
 have HW := zh hW
 clear h2 hW
 go_enter Try.func53, Try.ntmps53
 go_wp2_with fail
 try simp only [World.size_alloc]
 rw [← HW.out]
 refine bodyPost_ret (v := .agg #[.int .i64 1, .string ⟨#[]⟩]) ?_ rfl ⟨rfl, HAL.out⟩
 simp [results, Try.results53, go_sem, d0.out, d1.out]
theorem three (w : World) (o1 o2 o3 : Obj) : ∀ W, W = ((w.alloc o1).alloc o2).alloc o3 → W.heap[w.heap.size]? = some o1 ∧ W.heap[w.heap.size + 1]? = some o2 ∧ W.heap[w.heap.size + 1 + 1]? = some o3 ∧ Below w.heap.size w W := by
 rintro W rfl
 have n1 := heap_alloc_new w o1
 have n2 := heap_alloc_new (w.alloc o1) o2
 have n3 := heap_alloc_new ((w.alloc o1).alloc o2) o3
 simp only [World.size_alloc] at n2 n3
 refine ⟨?_, ?_, n3, ((((Below.refl _ w).alloc (Nat.le_refl _) _).alloc (by simp) _).alloc (by simp <;> omega) _)⟩
 ·exact (Below.heap_alloc _ _ _ (by simp <;> omega)).trans ((Below.heap_alloc _ _ _ (by simp)).trans n1)
 ·exact (Below.heap_alloc _ _ _ (by simp)).trans n2
theorem fits_j (x : PrM) (Kn : List Tx) (f : Fa) (t : Ty) (w : World) (hpr : PrOk w x) (hH : KnH x Kn) (hf : f.1 = 3 → f.2 ∈ Kn) :
  Calls Try.prog 51 #[.agg (prC x).toArray, .agg (faC f).toArray, .agg #[.int .i64 t.1, .string ⟨t.2.toArray⟩]] w fun e w' => e = .returned (.bool (fitF x.cs f t)) ∧ Below w.heap.size w w' := by
 obtain ⟨cs, A1, c1, ns, A2, c2, ec, en, ed⟩ := x
 obtain ⟨k, c⟩ := f
 obtain ⟨l, d⟩ := t
 obtain ⟨W, hW⟩ : ∃ W, W = ((w.alloc (.cells #[.slice A1 cs.length c1, .slice A2 ns.length c2, .string ⟨ec.toArray⟩, .string ⟨en.toArray⟩, .string ⟨ed.toArray⟩] 27)).alloc (.cells #[.int .i64 k, .string ⟨c.toArray⟩] 50)).alloc (.cells #[.int .i64 l, .string ⟨d.toArray⟩] 63) := ⟨_, rfl⟩
 obtain ⟨h1, h2, h3, hal⟩ := three w _ _ _ W hW
 have HS := zh (fun v (hv : Below W.heap.size W v) => And.intro (pr_cells (x := ⟨cs, A1, c1, ns, A2, c2, ec, en, ed⟩) ((hv.block _ (blk_lt h1)).trans h1)) (And.intro (fa_cells (a := (k, c)) ((hv.block _ (blk_lt h2)).trans h2)) (fa_cells (a := (l, d)) ((hv.block _ (blk_lt h3)).trans h3))))
 have HSB := fun (h : k = 3) v (hv : Below W.heap.size W v) => sub_w ⟨cs, A1, c1, ns, A2, c2, ec, en, ed⟩ Kn c d v ((hpr.below hal).below hv) hH (hf h)
 obtain ⟨R, hR⟩ : ∃ r, r = fitF cs (k, c) (l, d) := ⟨_, rfl⟩
 unfold fitF at hR
 dsimp only at hR
 have HR := zh hR
 unfold prC at HSB ⊢
 unfold faC
 try dsimp only [List.cons_append, List.nil_append] at HSB ⊢
 have e9 : fitF cs (k, c) (l, d) = R := hR.symm ▸ rfl
 rw [e9]
 have HSB := zh HSB
 have HAL := zh hal; have HW := zh hW
 clear h1 h2 h3 hal hW hpr hH hf hR e9
 cases g2 : (l == 2) with
 | true =>
  have HL := zh (show l = 2 from by simpa using g2)
  have HQ := zh (show R = (k == 1) from by rw [HR.out, if_pos HL.out])
  go_enter Try.func51, Try.ntmps51
  go_wp2_with fail
  try simp only [World.size_alloc]
  rw [← HW.out]
  obtain ⟨⟨x0, x1, x2, x3, x4⟩, ⟨y0, y1⟩, z0, z1⟩ := HS.out W (Below.refl _ _)
  try dsimp only at x0 x1 x2 x3 x4 y0 y1 z0 z1
  (try go_wp2_with fail)
  go_ret
  exact ⟨by rw [HQ.out]; rfl, HAL.out⟩
 | false =>
  have hl2 : ¬ l = 2 := by simpa using g2
  have HL2 := zh hl2
  clear hl2
  cases g3 : (l == 3) with
  | true =>
   have HL := zh (show l = 3 from by simpa using g3)
   cases p2 : (k == 2) with
   | true =>
    have HQ := zh (show R = true from by rw [HR.out, if_neg HL2.out, if_pos HL.out, p2]; rfl)
    go_enter Try.func51, Try.ntmps51
    go_wp2_with fail
    try simp only [World.size_alloc]
    rw [← HW.out]
    obtain ⟨⟨x0, x1, x2, x3, x4⟩, ⟨y0, y1⟩, z0, z1⟩ := HS.out W (Below.refl _ _)
    try dsimp only at x0 x1 x2 x3 x4 y0 y1 z0 z1
    (try go_wp2_with fail)
    go_ret
    exact ⟨by rw [HQ.out]; rfl, HAL.out⟩
   | false =>
    cases p3 : (k == 3) with
    | false =>
     have HQ := zh (show R = false from by rw [HR.out, if_neg HL2.out, if_pos HL.out, p2, p3]; rfl)
     go_enter Try.func51, Try.ntmps51
     go_wp2_with fail
     try simp only [World.size_alloc]
     rw [← HW.out]
     obtain ⟨⟨x0, x1, x2, x3, x4⟩, ⟨y0, y1⟩, z0, z1⟩ := HS.out W (Below.refl _ _)
     try dsimp only at x0 x1 x2 x3 x4 y0 y1 z0 z1
     (try go_wp2_with fail)
     go_ret
     exact ⟨by rw [HQ.out]; rfl, HAL.out⟩
    | true =>
     have hk3 : k = 3 := by simpa using p3
     have HSX := zh (HSB.out hk3)
     have HQ := zh (show R = subB cs c d from by rw [HR.out, if_neg HL2.out, if_pos HL.out, p2, p3]; rfl)
     clear hk3
     go_enter Try.func51, Try.ntmps51
     go_wp2_with fail
     try simp only [World.size_alloc]
     rw [← HW.out]
     obtain ⟨⟨x0, x1, x2, x3, x4⟩, ⟨y0, y1⟩, z0, z1⟩ := HS.out W (Below.refl _ _)
     try dsimp only at x0 x1 x2 x3 x4 y0 y1 z0 z1
     (try go_wp2_with fail)
     refine (HSX.out W (Below.refl _ _)).mono ?_
     rintro e w1 ⟨rfl, hb⟩
     have HB := zh (HAL.out.trans (hb.mono HAL.out.size))
     clear hb x0 x1 x2 x3 x4 y0 y1 z0 z1
     go_wp2
     go_ret
     exact ⟨by rw [HQ.out]; rfl, HB.out⟩
  | false =>
   have HL3 := zh (show ¬ l = 3 from by simpa using g3)
   cases g4 : (l == 4) with
   | true =>
    have HL := zh (show l = 4 from by simpa using g4)
    cases p2 : (k == 2) with
    | true =>
     have HQ := zh (show R = true from by rw [HR.out, if_neg HL2.out, if_neg HL3.out, if_pos HL.out, p2]; rfl)
     go_enter Try.func51, Try.ntmps51
     go_wp2_with fail
     try simp only [World.size_alloc]
     rw [← HW.out]
     obtain ⟨⟨x0, x1, x2, x3, x4⟩, ⟨y0, y1⟩, z0, z1⟩ := HS.out W (Below.refl _ _)
     try dsimp only at x0 x1 x2 x3 x4 y0 y1 z0 z1
     (try go_wp2_with fail)
     go_ret
     exact ⟨by rw [HQ.out]; rfl, HAL.out⟩
    | false =>
     have HQ := zh (show R = (k == 4) from by rw [HR.out, if_neg HL2.out, if_neg HL3.out, if_pos HL.out, p2]; rfl)
     go_enter Try.func51, Try.ntmps51
     go_wp2_with fail
     try simp only [World.size_alloc]
     rw [← HW.out]
     obtain ⟨⟨x0, x1, x2, x3, x4⟩, ⟨y0, y1⟩, z0, z1⟩ := HS.out W (Below.refl _ _)
     try dsimp only at x0 x1 x2 x3 x4 y0 y1 z0 z1
     (try go_wp2_with fail)
     go_ret
     exact ⟨by rw [HQ.out]; rfl, HAL.out⟩
   | false =>
    have HL4 := zh (show ¬ l = 4 from by simpa using g4)
    cases g5 : (l == 5) with
    | true =>
     have HL := zh (show l = 5 from by simpa using g5)
     cases p2 : (k == 2) with
     | true =>
      have HQ := zh (show R = true from by rw [HR.out, if_neg HL2.out, if_neg HL3.out, if_neg HL4.out, if_pos HL.out, p2]; rfl)
      go_enter Try.func51, Try.ntmps51
      go_wp2_with fail
      try simp only [World.size_alloc]
      rw [← HW.out]
      obtain ⟨⟨x0, x1, x2, x3, x4⟩, ⟨y0, y1⟩, z0, z1⟩ := HS.out W (Below.refl _ _)
      try dsimp only at x0 x1 x2 x3 x4 y0 y1 z0 z1
      (try go_wp2_with fail)
      go_ret
      exact ⟨by rw [HQ.out]; rfl, HAL.out⟩
     | false =>
      have HQ := zh (show R = (k == 5 && c == d) from by rw [HR.out, if_neg HL2.out, if_neg HL3.out, if_neg HL4.out, if_pos HL.out, p2]; rfl)
      by_cases hk5 : k = 5
      ·subst hk5
       by_cases hcd : c = d
       ·subst hcd
        have HR9 := zh (show R = true from by rw [HQ.out]; simp)
        go_enter Try.func51, Try.ntmps51
        go_wp2_with fail
        try simp only [World.size_alloc]
        rw [← HW.out]
        obtain ⟨⟨x0, x1, x2, x3, x4⟩, ⟨y0, y1⟩, z0, z1⟩ := HS.out W (Below.refl _ _)
        try dsimp only at x0 x1 x2 x3 x4 y0 y1 z0 z1
        (try go_wp2_with fail)
        go_ret
        exact ⟨by rw [HR9.out]; rfl, HAL.out⟩
       ·have HR9 := zh (show R = false from by rw [HQ.out]; simp [hcd])
        go_enter Try.func51, Try.ntmps51
        go_wp2_with fail
        try simp only [World.size_alloc]
        rw [← HW.out]
        obtain ⟨⟨x0, x1, x2, x3, x4⟩, ⟨y0, y1⟩, z0, z1⟩ := HS.out W (Below.refl _ _)
        try dsimp only at x0 x1 x2 x3 x4 y0 y1 z0 z1
        (try go_wp2_with fail)
        go_ret
        exact ⟨by rw [HR9.out]; rfl, HAL.out⟩
      ·have HR9 := zh (show R = false from by rw [HQ.out]; simp [hk5])
       go_enter Try.func51, Try.ntmps51
       go_wp2_with fail
       try simp only [World.size_alloc]
       rw [← HW.out]
       obtain ⟨⟨x0, x1, x2, x3, x4⟩, ⟨y0, y1⟩, z0, z1⟩ := HS.out W (Below.refl _ _)
       try dsimp only at x0 x1 x2 x3 x4 y0 y1 z0 z1
       (try go_wp2_with fail)
       go_ret
       exact ⟨by rw [HR9.out]; rfl, HAL.out⟩
    | false =>
     have HQ := zh (show R = false from by rw [HR.out, if_neg HL2.out, if_neg HL3.out, if_neg HL4.out, if_neg (show ¬ l = 5 from by simpa using g5)])
     go_enter Try.func51, Try.ntmps51
     go_wp2_with fail
     try simp only [World.size_alloc]
     rw [← HW.out]
     obtain ⟨⟨x0, x1, x2, x3, x4⟩, ⟨y0, y1⟩, z0, z1⟩ := HS.out W (Below.refl _ _)
     try dsimp only at x0 x1 x2 x3 x4 y0 y1 z0 z1
     (try go_wp2_with fail)
     go_ret
     exact ⟨by rw [HQ.out]; rfl, HAL.out⟩
end Go.Proofs.Ytdifmgeicnndfaa.prg

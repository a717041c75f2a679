/-
  Layer 11: what is wrong with a program's classes; Common: the program's answers.
-/
import Derived.Test.YtgpfohpmgbnimaaHierY
/- Layer 11: what is wrong with a class; interfaces; what two classes have in common: the program's answers. -/
namespace Go.Proofs.Ytgpfohpmgbnimaa.prg
open Go.RowKit Go.Maps
open words kindp opp op kind word
set_option linter.all false

/-- what is wrong with what a class itself has above it -/
def fitsN (e0 h a1 k1 a2 : Bool) : Int := if ((!e0 && !h) || a1) = true then 7 else if (k1 || a2) = true then 9 else 0
def fitsE (cs : List ClM) (c : ClM) : Int := fitsN (c.su == []) (hasC cs c.su) (c.is.any fun s => !hasC cs s) (ifB cs c.su) (c.is.any fun s => !ifB cs s)
/-- memory in which what is remembered is right, behind another one -/
def Gd (x : PrM) (kb : Nat) (Kn : List Tx) (W v : World) : Prop := KnM x.cs Kn kb v ∧ BelM kb W.heap.size W v
theorem Gd.next {x : PrM} {kb : Nat} {Kn : List Tx} {W v v' : World} (g : Gd x kb Kn W v) (hk : KnM x.cs Kn kb v') (hb : BelM kb v.heap.size v v') : Gd x kb Kn W v' := ⟨hk, g.2.trans (hb.mono g.2.size)⟩

set_option maxRecDepth 100000 in
set_option maxHeartbeats 8000000 in
theorem fits_t (x : PrM) (kb : Nat) (Kn : List Tx) (c : ClM) (w : World) (hp : Rd w x.A1 (x.cs.flatMap clC)) (hH : KnH x Kn) (hm : KnM x.cs Kn kb w) (hc : c ∈ x.cs) (hr : Rd w c.A1 (SX c.is)) :
  Calls Try.prog 26 #[.agg (trC x kb).toArray, .agg (clC c).toArray] w fun e w' => e = .returned (.int .i64 (fitsE x.cs c)) ∧ KnM x.cs Kn kb w' ∧ BelM kb w.heap.size w w' := by
 have hmf : ∀ (fn : Fn) (first cap : Array Value) (w : World), (Instr.makeFunc fn first cap).run Try.prog w = .ok (.func fn first cap) w := fun _ _ _ _ => rfl
 obtain ⟨W, hW⟩ : ∃ W, W = (w.alloc (.cells (trC x kb).toArray 60)).alloc (.cells (clC c).toArray 42) := ⟨_, rfl⟩
 have hal : Below w.heap.size w W := by rw [hW]; exact ((Below.refl _ w).alloc (Nat.le_refl _) _).alloc (by simp) _
 have hsz : W.heap.size = w.heap.size + 2 := by rw [hW]; simp
 have bt : W.heap[w.heap.size]? = some (.cells (trC x kb).toArray 60 (0, 0)) := by rw [hW]; exact (Below.heap_alloc _ _ _ (by simp)).trans (heap_alloc_new w _)
 have bc : W.heap[w.heap.size + 1]? = some (.cells (clC c).toArray 42 (0, 0)) := by
  have := heap_alloc_new (w.alloc (.cells (trC x kb).toArray 60)) (.cells (clC c).toArray 42)
  rw [World.size_alloc] at this
  rw [hW]; exact this
 have hkl := hm.lt
 have HM := Lib.hid (hm.same (hal.block kb hkl))
 have hF : FitH x kb Kn w.heap.size W := ⟨hp.below hal, hH.cl, hH.kl, hH.ks, HM.out, bt⟩
 have hsu : c.su ∈ Kn := hH.kc c hc _ (by simp [abv])
 have his : ∀ s ∈ c.is, s ∈ Kn := fun s hs => hH.kc c hc _ (by simp [abv, hs])
 have hil := hH.is c hc
 have HG0 := Lib.hid (show Gd x kb Kn W W from ⟨HM.out, BelM.refl _ _ _⟩)
 have HCE := Lib.hid (fun v (g : Gd x kb Kn W v) => show _ ∧ _ from ⟨(hF.keep g.1 g.2).tcells, cl_cells ((g.2.block _ (by omega) (by omega)).trans bc)⟩)
 have HCL := Lib.hid (fun v (g : Gd x kb Kn W v) => clo_lacks x kb w.heap.size Kn c.su v (hF.keep g.1 g.2) hsu)
 have HAN := Lib.hid (fun v (g : Gd x kb Kn W v) => any_lacks x kb w.heap.size Kn c.A1 c.c1 c.is v (hF.keep g.1 g.2) (Rd.belm (hr.below hal) g.2 HM.out.map) hil his)
 have HIF := Lib.hid (fun v (g : Gd x kb Kn W v) => iface_t x kb Kn c.su v (Rd.belm (hp.below hal) g.2 HM.out.map) (by have := hH.cl; omega) g.1 hsu (hH.ks _ hsu) hH.kl)
 have HAK := Lib.hid (fun v (g : Gd x kb Kn W v) => any_kinds x kb w.heap.size Kn c.A1 c.c1 c.is v (hF.keep g.1 g.2) (Rd.belm (hr.below hal) g.2 HM.out.map) hil his)
 have HAL := Lib.hid (BelM.of hal hkl); have HSZ := Lib.hid hal.size
 unfold fitsE
 obtain ⟨b1, hb1⟩ : ∃ b, b = hasC x.cs c.su := ⟨_, rfl⟩
 obtain ⟨b2, hb2⟩ : ∃ b, b = c.is.any fun s => !hasC x.cs s := ⟨_, rfl⟩
 obtain ⟨b3, hb3⟩ : ∃ b, b = ifB x.cs c.su := ⟨_, rfl⟩
 obtain ⟨b4, hb4⟩ : ∃ b, b = c.is.any fun s => !ifB x.cs s := ⟨_, rfl⟩
 rw [← hb1] at HCL; rw [← hb2] at HAN; rw [← hb3] at HIF; rw [← hb4] at HAK
 rw [← hb1, ← hb2, ← hb3, ← hb4]
 obtain ⟨⟨t0, t1, t2, t3, t4, t5⟩, q0, q1, q2, q3, q4, q5, q6⟩ := HCE.out W HG0.out
 unfold trC at hW HIF ⊢
 unfold prC clC at hW ⊢
 unfold prC at HIF
 try dsimp only [List.cons_append, List.nil_append] at hW HIF ⊢
 have HW := Lib.hid hW
 clear hW hal hsz bt bc hp hH hm hc hr hkl hF hsu his hil hb1 hb2 hb3 hb4
 cases h0 : (c.su == []) with
 | true =>
  have g1 := e_empty h0
  go_enter Try.func26, Try.ntmps26
  go_wp2_with fail
  try simp only [World.size_alloc, Nat.add_assoc, Nat.reduceAdd]
  rw [← HW.out]
  (try go_wp2_with fail)
  cases b2 with
  | false =>
   refine (HAN.out W HG0.out).mono ?_
   rintro e v1 ⟨rfl, hk, hb⟩
   have HG1 := Lib.hid (HG0.out.next hk hb)
   clear hk hb t0 t1 t2 t3 t4 t5 q0 q1 q2 q3 q4 q5 q6
   obtain ⟨⟨t0, t1, t2, t3, t4, t5⟩, q0, q1, q2, q3, q4, q5, q6⟩ := HCE.out v1 HG1.out
   (try go_wp2_with fail)
   refine (HIF.out v1 HG1.out).mono ?_
   rintro e v2 ⟨rfl, hk, hb⟩
   have HG2 := Lib.hid (HG1.out.next hk hb)
   clear hk hb t0 t1 t2 t3 t4 t5 q0 q1 q2 q3 q4 q5 q6
   obtain ⟨⟨t0, t1, t2, t3, t4, t5⟩, q0, q1, q2, q3, q4, q5, q6⟩ := HCE.out v2 HG2.out
   cases b3 with
   | false =>
    (try go_wp2_with fail)
    refine (HAK.out v2 HG2.out).mono ?_
    rintro e v3 ⟨rfl, hk, hb⟩
    have HG3 := Lib.hid (HG2.out.next hk hb)
    clear hk hb t0 t1 t2 t3 t4 t5 q0 q1 q2 q3 q4 q5 q6
    obtain ⟨⟨t0, t1, t2, t3, t4, t5⟩, q0, q1, q2, q3, q4, q5, q6⟩ := HCE.out v3 HG3.out
    cases b4 with
    | false =>
     (try go_wp2_with fail)
     go_ret
     exact ⟨by first | rfl | (simp only [h0]; rfl), HG3.out.1, HAL.out.trans (HG3.out.2.mono HSZ.out)⟩
    | true =>
     (try go_wp2_with fail)
     go_ret
     exact ⟨by first | rfl | (simp only [h0]; rfl), HG3.out.1, HAL.out.trans (HG3.out.2.mono HSZ.out)⟩
   | true =>
    (try go_wp2_with fail)
    go_ret
    exact ⟨by first | rfl | (simp only [h0]; rfl), HG2.out.1, HAL.out.trans (HG2.out.2.mono HSZ.out)⟩
  | true =>
   refine (HAN.out W HG0.out).mono ?_
   rintro e v1 ⟨rfl, hk, hb⟩
   have HG1 := Lib.hid (HG0.out.next hk hb)
   clear hk hb t0 t1 t2 t3 t4 t5 q0 q1 q2 q3 q4 q5 q6
   obtain ⟨⟨t0, t1, t2, t3, t4, t5⟩, q0, q1, q2, q3, q4, q5, q6⟩ := HCE.out v1 HG1.out
   (try go_wp2_with fail)
   go_ret
   exact ⟨by first | rfl | (simp only [h0]; rfl), HG1.out.1, HAL.out.trans (HG1.out.2.mono HSZ.out)⟩
 | false =>
  have g1 := e_empty h0
  go_enter Try.func26, Try.ntmps26
  go_wp2_with fail
  try simp only [World.size_alloc, Nat.add_assoc, Nat.reduceAdd]
  rw [← HW.out]
  (try go_wp2_with fail)
  cases b1 with
  | false =>
   refine (HCL.out W HG0.out).mono ?_
   rintro e v1 ⟨rfl, hk, hb⟩
   have HG1 := Lib.hid (HG0.out.next hk hb)
   clear hk hb t0 t1 t2 t3 t4 t5 q0 q1 q2 q3 q4 q5 q6
   obtain ⟨⟨t0, t1, t2, t3, t4, t5⟩, q0, q1, q2, q3, q4, q5, q6⟩ := HCE.out v1 HG1.out
   (try go_wp2_with fail)
   go_ret
   exact ⟨by first | rfl | (simp only [h0]; rfl), HG1.out.1, HAL.out.trans (HG1.out.2.mono HSZ.out)⟩
  | true =>
   refine (HCL.out W HG0.out).mono ?_
   rintro e v1 ⟨rfl, hk, hb⟩
   have HG1 := Lib.hid (HG0.out.next hk hb)
   clear hk hb t0 t1 t2 t3 t4 t5 q0 q1 q2 q3 q4 q5 q6
   obtain ⟨⟨t0, t1, t2, t3, t4, t5⟩, q0, q1, q2, q3, q4, q5, q6⟩ := HCE.out v1 HG1.out
   (try go_wp2_with fail)
   cases b2 with
   | false =>
    refine (HAN.out v1 HG1.out).mono ?_
    rintro e v2 ⟨rfl, hk, hb⟩
    have HG2 := Lib.hid (HG1.out.next hk hb)
    clear hk hb t0 t1 t2 t3 t4 t5 q0 q1 q2 q3 q4 q5 q6
    obtain ⟨⟨t0, t1, t2, t3, t4, t5⟩, q0, q1, q2, q3, q4, q5, q6⟩ := HCE.out v2 HG2.out
    (try go_wp2_with fail)
    refine (HIF.out v2 HG2.out).mono ?_
    rintro e v3 ⟨rfl, hk, hb⟩
    have HG3 := Lib.hid (HG2.out.next hk hb)
    clear hk hb t0 t1 t2 t3 t4 t5 q0 q1 q2 q3 q4 q5 q6
    obtain ⟨⟨t0, t1, t2, t3, t4, t5⟩, q0, q1, q2, q3, q4, q5, q6⟩ := HCE.out v3 HG3.out
    cases b3 with
    | false =>
     (try go_wp2_with fail)
     refine (HAK.out v3 HG3.out).mono ?_
     rintro e v4 ⟨rfl, hk, hb⟩
     have HG4 := Lib.hid (HG3.out.next hk hb)
     clear hk hb t0 t1 t2 t3 t4 t5 q0 q1 q2 q3 q4 q5 q6
     obtain ⟨⟨t0, t1, t2, t3, t4, t5⟩, q0, q1, q2, q3, q4, q5, q6⟩ := HCE.out v4 HG4.out
     cases b4 with
     | false =>
      (try go_wp2_with fail)
      go_ret
      exact ⟨by first | rfl | (simp only [h0]; rfl), HG4.out.1, HAL.out.trans (HG4.out.2.mono HSZ.out)⟩
     | true =>
      (try go_wp2_with fail)
      go_ret
      exact ⟨by first | rfl | (simp only [h0]; rfl), HG4.out.1, HAL.out.trans (HG4.out.2.mono HSZ.out)⟩
    | true =>
     (try go_wp2_with fail)
     go_ret
     exact ⟨by first | rfl | (simp only [h0]; rfl), HG3.out.1, HAL.out.trans (HG3.out.2.mono HSZ.out)⟩
   | true =>
    refine (HAN.out v1 HG1.out).mono ?_
    rintro e v2 ⟨rfl, hk, hb⟩
    have HG2 := Lib.hid (HG1.out.next hk hb)
    clear hk hb t0 t1 t2 t3 t4 t5 q0 q1 q2 q3 q4 q5 q6
    obtain ⟨⟨t0, t1, t2, t3, t4, t5⟩, q0, q1, q2, q3, q4, q5, q6⟩ := HCE.out v2 HG2.out
    (try go_wp2_with fail)
    go_ret
    exact ⟨by first | rfl | (simp only [h0]; rfl), HG2.out.1, HAL.out.trans (HG2.out.2.mono HSZ.out)⟩
end Go.Proofs.Ytgpfohpmgbnimaa.prg

/- Layer 11: what is wrong with a program's classes, and of which one: the program's answer. -/
namespace Go.Proofs.Ytgpfohpmgbnimaa.prg
open Go.RowKit Go.Maps
open words kindp opp op kind word
set_option linter.all false

/-- what is wrong first -/
def chkP (cs : List ClM) : Int × Tx := match cs.find? (fun c => fitsE cs c != 0) with
 | some c => (fitsE cs c, c.nm)
 | none => match cs.find? (fun c => cycB cs c) with
  | some c => (8, c.nm)
  | none => (0, [])
theorem chk_fit {cs : List ClM} {k : Nat} {c : ClM} (hc : cs[k]? = some c) (hp : (fitsE cs c != 0) = true) (ha : ∀ t ∈ cs.take k, (fitsE cs t != 0) = false) : chkP cs = (fitsE cs c, c.nm) := by
 unfold chkP
 rw [(idx_at (P := fun c => fitsE cs c != 0) hc hp ha).2]
theorem chk_cyc {cs : List ClM} {k : Nat} {c : ClM} (hf : ∀ t ∈ cs, (fitsE cs t != 0) = false) (hc : cs[k]? = some c) (hp : cycB cs c = true) (ha : ∀ t ∈ cs.take k, cycB cs t = false) : chkP cs = (8, c.nm) := by
 unfold chkP
 rw [(idx_no (P := fun c => fitsE cs c != 0) hf).2, (idx_at (P := fun c => cycB cs c) hc hp ha).2]
theorem chk_ok {cs : List ClM} (hf : ∀ t ∈ cs, (fitsE cs t != 0) = false) (ha : ∀ t ∈ cs, cycB cs t = false) : chkP cs = (0, []) := by
 unfold chkP
 rw [(idx_no (P := fun c => fitsE cs c != 0) hf).2, (idx_no (P := fun c => cycB cs c) ha).2]
/-- where nothing is wrong no class is above itself -/
theorem chk_none {cs : List ClM} (h : (chkP cs).1 = 0) : ∀ c ∈ cs, cycB cs c = false := by
 unfold chkP at h
 cases h1 : cs.find? (fun c => fitsE cs c != 0) with
 | some c =>
  rw [h1] at h
  have := List.find?_some h1
  simp [show fitsE cs c = 0 from h] at this
 | none =>
  rw [h1] at h
  cases h2 : cs.find? (fun c => cycB cs c) with
  | some c => rw [h2] at h; cases h
  | none =>
   intro c hc
   have := List.find?_eq_none.1 h2 c hc
   simpa using this
def CheckP (cs : List ClM) (w : World) (e : Ending) (w' : World) : Prop := e = .returned (.tuple #[.int .i64 (chkP cs).1, .string ⟨(chkP cs).2.toArray⟩]) ∧ Below w.heap.size w w'
theorem Gd.below {x : PrM} {kb : Nat} {Kn : List Tx} {W v v' : World} (g : Gd x kb Kn W v) (hb : Below v.heap.size v v') : Gd x kb Kn W v' := g.next (g.1.same (hb.block kb g.1.lt)) (BelM.of hb g.1.lt)
theorem belm_below {kb : Nat} {w w1 v : World} (h : Below w.heap.size w w1) (hk : w.heap.size ≤ kb) (hb : BelM kb w1.heap.size w1 v) : Below w.heap.size w v :=
 ⟨hb.os.trans h.os, hb.tape.trans h.tape, hb.output.trans h.output, Nat.le_trans h.size hb.size, fun k hl => (hb.block k (by have := h.size; omega) (by omega)).trans (h.block k hl)⟩

set_option maxRecDepth 100000 in
set_option maxHeartbeats 8000000 in
theorem check_w (x : PrM) (Kn : List Tx) (w : World) (hpr : PrOk w x) (hH : KnH x Kn) :
  Calls Try.prog 10 #[.agg (prC x).toArray] w (CheckP x.cs w) := by
 obtain ⟨cs, A1, c1, ns, A2, c2, ec, en, ed⟩ := x
 obtain ⟨R, hR⟩ : ∃ R, R = chkP cs := ⟨_, rfl⟩
 unfold CheckP
 dsimp only
 rw [← hR]
 have HR := Lib.hid hR
 obtain ⟨W, hW⟩ : ∃ W, W = w.alloc (.cells (prC ⟨cs, A1, c1, ns, A2, c2, ec, en, ed⟩).toArray 27) := ⟨_, rfl⟩
 have hal : Below w.heap.size w W := by rw [hW]; exact (Below.refl _ w).alloc (Nat.le_refl _) _
 have hsz : W.heap.size = w.heap.size + 1 := by rw [hW]; simp
 have hblk : W.heap[w.heap.size]? = some (.cells (prC ⟨cs, A1, c1, ns, A2, c2, ec, en, ed⟩).toArray 27 (0, 0)) := by rw [hW]; exact heap_alloc_new w _
 obtain ⟨x0, x1, x2, x3, x4⟩ := pr_cells hblk
 have HTR := treeOf_w ⟨cs, A1, c1, ns, A2, c2, ec, en, ed⟩ W
 obtain ⟨kb, hkb⟩ : ∃ k, k = W.heap.size + 2 := ⟨_, rfl⟩
 rw [← hkb] at HTR
 have HKB := Lib.hid hkb; have HSZ := Lib.hid hsz; have HAL := Lib.hid hal; have HBK := Lib.hid hblk
 have HPR := Lib.hid (hpr.below hal)
 have HHH := Lib.hid hH
 have hnI : (cs.length : Int) ≤ 70 := by have : cs.length ≤ 70 := hH.cl; omega
 have HFI := fun (c : ClM) (v : World) (h1 : Rd v A1 (cs.flatMap clC)) (h2 : KnM cs Kn kb v) (h3 : c ∈ cs) (h4 : Rd v c.A1 (SX c.is)) => fits_t ⟨cs, A1, c1, ns, A2, c2, ec, en, ed⟩ kb Kn c v h1 hH h2 h3 h4
 have HLD := fun (c : ClM) (Bn : Nat) (v : World) (h1 : PrOk v ⟨cs, A1, c1, ns, A2, c2, ec, en, ed⟩) (h2 : c ∈ cs) (h3 : KnM cs Kn kb v) (h4 : NamH kb (abv c) 55 #[.pointer (some ⟨Bn, 0, none⟩)] v) => leads_w ⟨cs, A1, c1, ns, A2, c2, ec, en, ed⟩ kb Kn (abv c) 55 #[.pointer (some ⟨Bn, 0, none⟩)] c.nm v h1 hH (hH.kc c h2) h3 h4
 unfold trC at HTR HFI HLD
 unfold prC at hW HTR HFI HLD ⊢
 unfold clC at HFI
 try dsimp only [List.cons_append, List.nil_append] at hW HTR HFI HLD ⊢
 have HTR := Lib.hid HTR; have HFI := Lib.hid HFI; have HLD := Lib.hid HLD
 have HW := Lib.hid hW
 clear hal hblk hW hpr hH hkb hsz hR
 go_enter Try.func10, Try.ntmps10
 go_wp2_with fail
 rw [← HW.out]
 (try go_wp2_with fail)
 refine HTR.out.mono ?_
 rintro e w1 ⟨rfl, h1, h2, h3⟩
 clear x0 x1 x2 x3 x4
 obtain ⟨W2, hW2⟩ : ∃ W2, W2 = w1.alloc (.cells (trC ⟨cs, A1, c1, ns, A2, c2, ec, en, ed⟩ kb).toArray 60) := ⟨_, rfl⟩
 have hb2 : Below w1.heap.size w1 W2 := by rw [hW2]; exact (Below.refl _ w1).alloc (Nat.le_refl _) _
 have bt2 : W2.heap[w1.heap.size]? = some (.cells (trC ⟨cs, A1, c1, ns, A2, c2, ec, en, ed⟩ kb).toArray 60 (0, 0)) := by rw [hW2]; exact heap_alloc_new w1 _
 have hk1 := h2 Kn
 have hkl := hk1.lt
 have hk2 : KnM cs Kn kb W2 := hk1.same (hb2.block kb hkl)
 have hbW2 : Below W.heap.size W W2 := h3.trans (hb2.mono h3.size)
 have HG0 := Lib.hid (show Gd ⟨cs, A1, c1, ns, A2, c2, ec, en, ed⟩ kb Kn W2 W2 from ⟨hk2, BelM.refl _ _ _⟩)
 have hF : FitH ⟨cs, A1, c1, ns, A2, c2, ec, en, ed⟩ kb Kn w1.heap.size W2 := ⟨HPR.out.1.2.below hbW2, HHH.out.cl, HHH.out.kl, HHH.out.ks, hk2, bt2⟩
 have HCE := Lib.hid (fun v (g : Gd ⟨cs, A1, c1, ns, A2, c2, ec, en, ed⟩ kb Kn W2 v) => show _ ∧ v.cell? ⟨w.heap.size, 0, none⟩ = some (.slice A1 cs.length c1) from ⟨(hF.keep g.1 g.2).tcells, cell_of_row _ _ 0 _ _ _ ((g.2.block w.heap.size (by have := HSZ.out; have := hbW2.size; omega) (by have := HKB.out; have := HSZ.out; omega)).trans ((hbW2.block _ (by have := HSZ.out; omega)).trans HBK.out))⟩)
 have HPO := Lib.hid (fun v (g : Gd ⟨cs, A1, c1, ns, A2, c2, ec, en, ed⟩ kb Kn W2 v) => PrOk.belm (HPR.out.below hbW2) g.2 hk2.map)
 have HEND := Lib.hid (fun v (g : Gd ⟨cs, A1, c1, ns, A2, c2, ec, en, ed⟩ kb Kn W2 v) => show Below w.heap.size w v from belm_below (HAL.out.trans (hbW2.mono HAL.out.size)) (by have := HKB.out; have := HSZ.out; omega) g.2)
 have HLT := Lib.hid (show w1.heap.size < W2.heap.size from by rw [hW2]; simp)
 unfold trC prC at hW2
 try dsimp only [List.cons_append, List.nil_append] at hW2
 have HW2 := Lib.hid hW2
 obtain ⟨⟨t0, t1, t2, t3, t4, t5⟩, p0⟩ := HCE.out W2 HG0.out
 clear h1 h2 h3 hW2 hb2 bt2 hk1 hkl hk2 hbW2 hF
 rw [HW2.out] at p0
 clear t0 t1 t2 t3 t4 t5
 go_wp2_with fail
 rw [← HW2.out]
 clear p0
 go_loopw [15] (fun i wr => ∃ k : Nat, i = .int .i64 (k : Int) ∧ k ≤ cs.length ∧ (∀ t ∈ cs.take k, (fun c => fitsE cs c != 0) t = false) ∧ Gd ⟨cs, A1, c1, ns, A2, c2, ec, en, ed⟩ kb Kn W2 wr) (fun i _ => cs.length - (intOf i).toNat)
 case atStart => exact ⟨0, rfl, Nat.zero_le _, by simp, HG0.out⟩
 case round =>
  obtain ⟨k, rfl, hk, hall, hg⟩ := hrel
  have HA := Lib.hid hall; have HG := Lib.hid hg
  clear hall
  by_cases hlt : k < cs.length
  ·have hltI : (k : Int) < (cs.length : Int) := by omega
   obtain ⟨c, hc⟩ : ∃ x, cs[k]? = some x := ⟨cs[k]'hlt, List.getElem?_eq_getElem _⟩
   obtain ⟨V, hV⟩ : ∃ V, V = wr.alloc (.cells (clC c).toArray 42) := ⟨_, rfl⟩
   have hbV : Below wr.heap.size wr V := by rw [hV]; exact (Below.refl _ wr).alloc (Nat.le_refl _) _
   have bV : V.heap[wr.heap.size]? = some (.cells (clC c).toArray 42 (0, 0)) := by rw [hV]; exact heap_alloc_new wr _
   have hgV := hg.below hbV
   have HGV := Lib.hid hgV; have HBV := Lib.hid bV; have HHV := Lib.hid hbV
   have hmem := List.mem_of_getElem? hc
   have hpo := HPO.out V hgV
   have HFT := Lib.hid (HFI.out c V hpo.1.2 hgV.1 hmem (hpo.2.2 c hmem).1.2)
   obtain ⟨⟨t0, t1, t2, t3, t4, t5⟩, p0⟩ := HCE.out V hgV
   obtain ⟨q0, q1, q2, q3, q4, q5, q6⟩ := cl_cells bV
   have hmt := take_more (P := fun c => fitsE cs c != 0) HA.out hc
   have HFK := Lib.hid (fun (h : (fitsE cs c != 0) = true) => chk_fit hc h HA.out)
   obtain ⟨a, rfl, ha, c0, d1, d2, d3, d4, d5, d6⟩ := cl_at (HPO.out wr hg).1.2 hc
   unfold clC at hV
   obtain ⟨P, hP⟩ : ∃ P, P = fitsE cs c := ⟨_, rfl⟩
   rw [← hP] at HFT HFK hmt
   have hne : wr.heap.size ≠ kb := fun e => by have := hg.1.lt; omega
   have HNE := Lib.hid hne; have HPP := Lib.hid hP
   clear hne hP hc hpo hmem hgV bV hbV ha hg
   subst hV
   cases hp : (P != 0) with
   | true =>
    have HRE := Lib.hid (HFK.out hp)
    clear hmt HFK
    go_wp2_with fail
    refine HFT.out.mono ?_
    rintro e w3 ⟨rfl, hk3, hb3⟩
    have HG3 := Lib.hid (HGV.out.next hk3 hb3)
    have q0' : w3.cell? ⟨wr.heap.size, 0, none⟩ = some (.string ⟨c.nm.toArray⟩) := cell_of_row _ _ 0 _ _ _ ((hb3.block _ (blk_lt HBV.out) HNE.out).trans HBV.out)
    clear hk3 hb3 t0 t1 t2 t3 t4 t5 p0 q0 q1 q2 q3 q4 q5 q6 c0 d1 d2 d3 d4 d5 d6
    (try go_wp2_with fail)
    (try go_quiet (fail))
    (try go_wp2_with fail)
    go_ret2
    have hEE := HEND.out _ HG3.out
    exact ⟨by rw [HR.out, HRE.out]; try rfl, hEE.os, hEE.tape, hEE.output, hEE.size, hEE.block⟩
   | false =>
    have HM := Lib.hid (hmt hp)
    obtain rfl : P = 0 := by simpa using hp
    clear hmt HFK hp
    go_wp2_with fail
    refine HFT.out.mono ?_
    rintro e w3 ⟨rfl, hk3, hb3⟩
    have HG3 := Lib.hid (HGV.out.next hk3 hb3)
    clear hk3 hb3 t0 t1 t2 t3 t4 t5 p0 q0 q1 q2 q3 q4 q5 q6 c0 d1 d2 d3 d4 d5 d6
    go_wp2
    go_roundw
    case rel => exact ⟨k + 1, by go_num, by omega, HM.out, HG3.out⟩
    case measure => simp [intOf]; omega
  ·have hltI : ¬ (k : Int) < (cs.length : Int) := by omega
   have hall := HA.out
   rw [List.take_of_length_le (by omega)] at hall
   have HALL := Lib.hid hall
   obtain ⟨⟨t0, t1, t2, t3, t4, t5⟩, p0⟩ := HCE.out wr hg
   clear hall hg
   go_wp2_with fail
   clear t0 t1 t2 t3 t4 t5 p0 hltI hlt HA
   clear hk HTR HFI
   have HG1 := Lib.hid HG.out
   clear HG
   obtain ⟨v0, hv0⟩ : ∃ u, u = wr := ⟨_, rfl⟩
   subst hv0
   go_loopw [31] (fun i wr => ∃ k : Nat, i = .int .i64 (k : Int) ∧ k ≤ cs.length ∧ (∀ t ∈ cs.take k, (fun c => cycB cs c) t = false) ∧ Gd ⟨cs, A1, c1, ns, A2, c2, ec, en, ed⟩ kb Kn W2 wr) (fun i _ => cs.length - (intOf i).toNat)
   case atStart => exact ⟨0, rfl, Nat.zero_le _, by simp, HG1.out⟩
   case round =>
    obtain ⟨k, rfl, hk, hall, hg⟩ := hrel
    have HA := Lib.hid hall; have HG := Lib.hid hg
    clear hall
    by_cases hlt : k < cs.length
    ·have hltI : (k : Int) < (cs.length : Int) := by omega
     obtain ⟨c, hc⟩ : ∃ x, cs[k]? = some x := ⟨cs[k]'hlt, List.getElem?_eq_getElem _⟩
     obtain ⟨V, hV⟩ : ∃ V, V = wr.alloc (.cells (clC c).toArray 42) := ⟨_, rfl⟩
     have hbV : Below wr.heap.size wr V := by rw [hV]; exact (Below.refl _ wr).alloc (Nat.le_refl _) _
     have hsV : V.heap.size = wr.heap.size + 1 := by rw [hV]; simp
     have bV : V.heap[wr.heap.size]? = some (.cells (clC c).toArray 42 (0, 0)) := by rw [hV]; exact heap_alloc_new wr _
     have hgV := hg.below hbV
     have hne : wr.heap.size ≠ kb := fun e => by have := hg.1.lt; omega
     have hmem := List.mem_of_getElem? hc
     have hAB : ∀ v, Below V.heap.size V v → v.heap.size = V.heap.size → Calls Try.prog 28 #[.agg (clC c).toArray] v fun e w' => e = .returned (.func (.func 55) #[] #[.pointer (some ⟨V.heap.size, 0, none⟩)]) ∧ Gd ⟨cs, A1, c1, ns, A2, c2, ec, en, ed⟩ kb Kn W2 w' ∧ w'.heap[wr.heap.size]? = some (.cells (clC c).toArray 42 (0, 0)) ∧ NamH kb (abv c) 55 #[.pointer (some ⟨V.heap.size, 0, none⟩)] w' := fun v hv hs => by
      refine (above_w c v).mono ?_
      rintro e w' ⟨rfl, hw'⟩
      have hb' : Below V.heap.size V w' := by rw [hw']; exact hv.alloc (by omega) _
      have hn' : w'.heap[V.heap.size]? = some (.cells (clC c).toArray 42 (0, 0)) := by rw [hw', ← hs]; exact heap_alloc_new v _
      have hg' := hgV.below hb'
      exact ⟨by rw [hs], hg', (hb'.block _ (by omega)).trans bV, namH_above hg'.1.map (HHH.out.is c hmem) hn' ((HPO.out _ hg').2.2 c hmem).1.2⟩
     have HLE := Lib.hid (fun v (g : Gd ⟨cs, A1, c1, ns, A2, c2, ec, en, ed⟩ kb Kn W2 v) h => HLD.out c V.heap.size v (HPO.out _ g) hmem g.1 h)
     obtain ⟨⟨t0, t1, t2, t3, t4, t5⟩, p0⟩ := HCE.out V hgV
     obtain ⟨q0, q1, q2, q3, q4, q5, q6⟩ := cl_cells bV
     have HBV := Lib.hid (Below.refl V.heap.size V)
     have hmt := take_more (P := fun c => cycB cs c) HA.out hc
     have HCY := Lib.hid (fun (h : cycB cs c = true) => chk_cyc HALL.out hc h HA.out)
     have HSC := Lib.hid (fun (v : World) (h : v.heap[wr.heap.size]? = some (.cells (clC c).toArray 42 (0, 0))) => cl_cells h)
     have HST := Lib.hid (fun v (g : Gd ⟨cs, A1, c1, ns, A2, c2, ec, en, ed⟩ kb Kn W2 v) => (HCE.out v g).1)
     obtain ⟨a, rfl, ha, c0, d1, d2, d3, d4, d5, d6⟩ := cl_at (HPO.out wr hg).1.2 hc
     unfold cycB at hmt HCY
     obtain ⟨P, hP⟩ : ∃ P, P = (upL cs (abv c)).contains c.nm := ⟨_, rfl⟩
     try dsimp only at hmt HCY HLE
     rw [← hP] at HLE HCY hmt
     have HNE := Lib.hid hne
     unfold clC at hV hAB
     have HAB := Lib.hid hAB
     clear hne hP hc hmem hgV bV hbV ha hg hsV hAB
     have HV := Lib.hid hV
     clear hV
     have hmx : Try.prog.follows .mixedOrders = true := by kernel_rfl
     go_wp2_with fail
     rw [← HV.out]
     clear c0 d1 d2 d3 d4 d5 d6 p0 hltI
     go_region_held3 (fun w' => (w'.cell? ⟨w1.heap.size, 0, none⟩ = some (.slice (some a) cs.length c1) ∧ w'.cell? ⟨w1.heap.size, 1, none⟩ = some (.slice A2 ns.length c2) ∧ w'.cell? ⟨w1.heap.size, 2, none⟩ = some (.string ⟨ec.toArray⟩) ∧ w'.cell? ⟨w1.heap.size, 3, none⟩ = some (.string ⟨en.toArray⟩) ∧ w'.cell? ⟨w1.heap.size, 4, none⟩ = some (.string ⟨ed.toArray⟩) ∧ w'.cell? ⟨w1.heap.size, 5, none⟩ = some (.map (some kb))) ∧ w'.cell? ⟨wr.heap.size, 0, none⟩ = some (.string ⟨c.nm.toArray⟩) ∧ w'.cell? ⟨wr.heap.size, 1, none⟩ = some (.string ⟨c.su.toArray⟩) ∧ w'.cell? ⟨wr.heap.size, 2, none⟩ = some (.bool c.fc) ∧ w'.cell? ⟨wr.heap.size, 3, none⟩ = some (.bool c.ab) ∧ w'.cell? ⟨wr.heap.size, 4, none⟩ = some (.slice c.A1 c.is.length c.c1) ∧ w'.cell? ⟨wr.heap.size, 5, none⟩ = some (.slice c.A2 c.fs.length c.c2) ∧ w'.cell? ⟨wr.heap.size, 6, none⟩ = some (.slice c.A3 c.ms.length c.c3)) (go_keep)
      (first
       | (go_at_call 28; refine (HAB.out _ ?_ ?_).mono ?_; (first | exact HBV.out | exact overD HBV.out); rfl; rintro e v1 ⟨rfl, hg1, hbc1, hn1⟩; obtain ⟨t0, t1, t2, t3, t4, t5⟩ := HST.out _ hg1; obtain ⟨q0, q1, q2, q3, q4, q5, q6⟩ := HSC.out _ hbc1)
       | (go_at_call 27; refine (HLE.out _ hg1 hn1).mono ?_; rintro e v2 ⟨rfl, hk2, hb2⟩; have hg2 := hg1.next hk2 hb2; have hbc2 := (hb2.block _ (blk_lt hbc1) HNE.out).trans hbc1; clear hk2 hb2 t0 t1 t2 t3 t4 t5 q0 q1 q2 q3 q4 q5 q6; obtain ⟨t0, t1, t2, t3, t4, t5⟩ := HST.out _ hg2; obtain ⟨q0, q1, q2, q3, q4, q5, q6⟩ := HSC.out _ hbc2))
     have HG2 := Lib.hid hg2
     clear hg1 hn1 hbc1 hg2 hbc2 t0 t1 t2 t3 t4 t5 q1 q2 q3 q4 q5 q6
     cases hp : P with
     | true =>
      have HRE := Lib.hid (HCY.out hp)
      clear hmt
      (try go_wp2_with fail)
      (try go_quiet (fail))
      (try go_wp2_with fail)
      go_ret2
      have hEE := HEND.out _ HG2.out
      exact ⟨by rw [HR.out, HRE.out]; try rfl, hEE.os, hEE.tape, hEE.output, hEE.size, hEE.block⟩
     | false =>
      have HM := Lib.hid (hmt hp)
      clear hmt q0
      go_wp2
      go_roundw
      case rel => exact ⟨k + 1, by go_num, by have := hk; omega, HM.out, HG2.out⟩
      case measure => simp [intOf]; omega
    ·have hltI : ¬ (k : Int) < (cs.length : Int) := by omega
     have hall := HA.out
     rw [List.take_of_length_le (by omega)] at hall
     have HOK := Lib.hid (chk_ok HALL.out hall)
     clear hall hg
     go_wp2_with fail
     go_ret2
     exact ⟨by rw [HR.out, HOK.out]; try rfl, HEND.out _ HG.out⟩
end Go.Proofs.Ytgpfohpmgbnimaa.prg

/- Layer 11: the nearest class that two are below; what can have objects: the program's answers. -/
namespace Go.Proofs.Ytgpfohpmgbnimaa.prg
open Go.RowKit Go.Maps
open words kindp opp op kind word
set_option linter.all false

theorem supS_len (cs : List ClM) : ∀ (f : Nat) (s : Tx) (l : List Tx), (supS cs f s l).length ≤ l.length + f
 | 0, _, _ => Nat.le_refl _
 | f + 1, s, l => by
  unfold supS
  cases findC cs s with
  | none => dsimp only; omega
  | some c =>
   dsimp only
   by_cases h : l.contains s = true
   ·rw [if_pos h]; omega
   ·rw [if_neg h]
    have := supS_len cs f c.su (l ++ [s])
    simp only [List.length_append, List.length_cons, List.length_nil] at this
    omega
theorem supers_len (cs : List ClM) (s : Tx) : (supersL cs s).length ≤ cs.length + 1 := by
 have := supS_len cs (cs.length + 1) s []
 unfold supersL
 simpa using this
/-- the first of some that is among others -/
def nearL (l m : List Tx) : Tx := match l.find? (fun s => m.contains s) with
 | some s => s
 | none => []
def commonN (e b1 b2 : Bool) (r : Tx) : Tx := if (!e && (b1 || b2)) = true then [] else r
def commonE (cs : List ClM) (a b : Tx) : Tx := commonN (a == b) (ifB cs a) (ifB cs b) (nearL (supersL cs a) (supersL cs b))
theorem bne_of {a b : Tx} {r : Bool} (h : (a == b) = r) : (a != b) = !r := by unfold bne; rw [h]
theorem near_at {l m : List Tx} {k : Nat} {s : Tx} (hc : l[k]? = some s) (hp : m.contains s = true) (ha : ∀ t ∈ l.take k, m.contains t = false) : nearL l m = s := by
 unfold nearL
 rw [(idx_at (P := fun s => m.contains s) hc hp ha).2]
theorem near_no {l m : List Tx} (ha : ∀ t ∈ l, m.contains t = false) : nearL l m = [] := by
 unfold nearL
 rw [(idx_no (P := fun s => m.contains s) ha).2]

set_option maxRecDepth 100000 in
set_option maxHeartbeats 8000000 in
theorem common_w (x : PrM) (Kn : List Tx) (a b : Tx) (w : World) (hpr : PrOk w x) (hgr : GrP x) (hH : KnH x Kn) (ha : a ∈ Kn) (hb : b ∈ Kn) :
  Calls Try.prog 13 #[.agg (prC x).toArray, .string ⟨a.toArray⟩, .string ⟨b.toArray⟩] w fun e w' => e = .returned (.string ⟨(commonE x.cs a b).toArray⟩) ∧ Below w.heap.size w w' := by
 have HRA := Lib.hid (fun (A : Option Addr) (c : Nat) (l : List Tx) (s : Tx) (v : World) h1 h2 => has_s A c l s v h1 h2)
 have HSP := Lib.hid (fun (s : Tx) (v : World) (h : PrOk v x) => supers_w x s v h hgr)
 have hla := supers_len x.cs a
 have hlb := supers_len x.cs b
 have h70 : x.cs.length ≤ 70 := hH.cl
 obtain ⟨cs, A1, c1, ns, A2, c2, ec, en, ed⟩ := x
 dsimp only at *
 have HLA := Lib.hid (show (supersL cs a).length ≤ 71 from by omega)
 have HLB := Lib.hid (show (supersL cs b).length ≤ 71 from by omega)
 unfold commonE
 obtain ⟨R, hR⟩ : ∃ R, R = nearL (supersL cs a) (supersL cs b) := ⟨_, rfl⟩
 rw [← hR]
 have HR := Lib.hid hR
 obtain ⟨W, hW⟩ : ∃ W, W = w.alloc (.cells (prC ⟨cs, A1, c1, ns, A2, c2, ec, en, ed⟩).toArray 27) := ⟨_, rfl⟩
 have hal : Below w.heap.size w W := by rw [hW]; exact (Below.refl _ w).alloc (Nat.le_refl _) _
 have hsz : W.heap.size = w.heap.size + 1 := by rw [hW]; simp
 have hblk : W.heap[w.heap.size]? = some (.cells (prC ⟨cs, A1, c1, ns, A2, c2, ec, en, ed⟩).toArray 27 (0, 0)) := by rw [hW]; exact heap_alloc_new w _
 obtain ⟨x0, x1, x2, x3, x4⟩ := pr_cells hblk
 have HTR := treeOf_w ⟨cs, A1, c1, ns, A2, c2, ec, en, ed⟩ W
 obtain ⟨kb, hkb⟩ : ∃ k, k = W.heap.size + 2 := ⟨_, rfl⟩
 rw [← hkb] at HTR
 have HKB := Lib.hid hkb; have HSZ := Lib.hid hsz; have HAL := Lib.hid hal; have HBK := Lib.hid hblk
 have HPR := Lib.hid (hpr.below hal)
 have HHH := Lib.hid hH
 have HIF := fun (s : Tx) (v : World) (h1 : Rd v A1 (cs.flatMap clC)) (h2 : KnM cs Kn kb v) (h3 : s ∈ Kn) => iface_t ⟨cs, A1, c1, ns, A2, c2, ec, en, ed⟩ kb Kn s v h1 (by show cs.length ≤ _; omega) h2 h3 (hH.ks s h3) hH.kl
 have HMA := Lib.hid ha; have HMB := Lib.hid hb
 dsimp only at HIF
 obtain ⟨b1, hb1⟩ : ∃ r, r = ifB cs a := ⟨_, rfl⟩
 obtain ⟨b2, hb2⟩ : ∃ r, r = ifB cs b := ⟨_, rfl⟩
 have HIA := fun (v : World) (h1 : Rd v A1 (cs.flatMap clC)) (h2 : KnM cs Kn kb v) => HIF a v h1 h2 ha
 have HIB := fun (v : World) (h1 : Rd v A1 (cs.flatMap clC)) (h2 : KnM cs Kn kb v) => HIF b v h1 h2 hb
 rw [← hb1] at HIA ⊢
 rw [← hb2] at HIB ⊢
 have HSA := HSP.out a
 have HSB := HSP.out b
 unfold SupP at HSA HSB
 unfold trC at HTR HIA HIB
 unfold prC at hW HTR HIA HIB HSA HSB ⊢
 try dsimp only [List.cons_append, List.nil_append] at hW HTR HIA HIB HSA HSB ⊢
 have HTR := Lib.hid HTR; have HIA := Lib.hid HIA; have HIB := Lib.hid HIB; have HSA := Lib.hid HSA; have HSB := Lib.hid HSB
 have HW := Lib.hid hW
 clear hal hblk hW hpr hH hkb hsz hR HIF ha hb hb1 hb2 HSP hla hlb h70 hgr
 cases h0 : (a == b) with
 | true =>
  have g1 := bne_of h0
  go_enter Try.func13, Try.ntmps13
  go_wp2_with fail
  rw [← HW.out]
  (try go_wp2_with fail)
  refine HTR.out.mono ?_
  rintro e w1 ⟨rfl, h1, h2, h3⟩
  clear x0 x1 x2 x3 x4
  obtain ⟨W2, hW2⟩ : ∃ W2, W2 = w1.alloc (.cells (trC ⟨cs, A1, c1, ns, A2, c2, ec, en, ed⟩ kb).toArray 60) := ⟨_, rfl⟩
  have hb2 : Below w1.heap.size w1 W2 := by rw [hW2]; exact (Below.refl _ w1).alloc (Nat.le_refl _) _
  have bt2 : W2.heap[w1.heap.size]? = some (.cells (trC ⟨cs, A1, c1, ns, A2, c2, ec, en, ed⟩ kb).toArray 60 (0, 0)) := by rw [hW2]; exact heap_alloc_new w1 _
  have hk1 := h2 Kn
  have hkl := hk1.lt
  have hk2 : KnM cs Kn kb W2 := hk1.same (hb2.block kb hkl)
  have hbW2 : Below W.heap.size W W2 := h3.trans (hb2.mono h3.size)
  have HG2 := Lib.hid (show Gd ⟨cs, A1, c1, ns, A2, c2, ec, en, ed⟩ kb Kn W2 W2 from ⟨hk2, BelM.refl _ _ _⟩)
  have hF : FitH ⟨cs, A1, c1, ns, A2, c2, ec, en, ed⟩ kb Kn w1.heap.size W2 := ⟨HPR.out.1.2.below hbW2, HHH.out.cl, HHH.out.kl, HHH.out.ks, hk2, bt2⟩
  have HCE := Lib.hid (fun v (g : Gd ⟨cs, A1, c1, ns, A2, c2, ec, en, ed⟩ kb Kn W2 v) => show _ ∧ _ from ⟨(hF.keep g.1 g.2).tcells, pr_cells ((g.2.block w.heap.size (by have := HSZ.out; have := hbW2.size; omega) (by have := HKB.out; have := HSZ.out; omega)).trans ((hbW2.block _ (by have := HSZ.out; omega)).trans HBK.out))⟩)
  have HPO := Lib.hid (fun v (g : Gd ⟨cs, A1, c1, ns, A2, c2, ec, en, ed⟩ kb Kn W2 v) => PrOk.belm (HPR.out.below hbW2) g.2 hk2.map)
  have HEND := Lib.hid (fun v (g : Gd ⟨cs, A1, c1, ns, A2, c2, ec, en, ed⟩ kb Kn W2 v) => show Below w.heap.size w v from belm_below (HAL.out.trans (hbW2.mono HAL.out.size)) (by have := HKB.out; have := HSZ.out; omega) g.2)
  unfold trC prC at hW2
  try dsimp only [List.cons_append, List.nil_append] at hW2
  obtain ⟨⟨t0, t1, t2, t3, t4, t5⟩, p0, p1, p2, p3, p4⟩ := HCE.out W2 HG2.out
  clear h1 h2 h3 hb2 bt2 hk1 hkl hk2 hbW2 hF
  subst hW2
  go_wp2_with fail
  refine (HSB.out _ (HPO.out _ HG2.out)).mono ?_
  rintro e u1 ⟨⟨B, cB, rfl, hcB, hrB⟩, hbB⟩
  have HGB := Lib.hid (HG2.out.below hbB); have HRB := Lib.hid hrB
  clear hrB hbB hcB t0 t1 t2 t3 t4 t5 p0 p1 p2 p3 p4
  obtain ⟨⟨t0, t1, t2, t3, t4, t5⟩, p0, p1, p2, p3, p4⟩ := HCE.out u1 HGB.out
  go_wp2_with fail
  refine (HSA.out _ (HPO.out _ HGB.out)).mono ?_
  rintro e u2 ⟨⟨A, cA, rfl, hcA, hrA⟩, hbA⟩
  have HGA := Lib.hid (HGB.out.below hbA); have HRO := Lib.hid (HRB.out.below hbA); have HRR := Lib.hid hrA
  clear hrA hbA hcA t0 t1 t2 t3 t4 t5 p0 p1 p2 p3 p4
  obtain ⟨l, hl⟩ : ∃ l, l = supersL cs a := ⟨_, rfl⟩
  obtain ⟨m, hm⟩ : ∃ l, l = supersL cs b := ⟨_, rfl⟩
  have hlI := HLA.out; have hmI := HLB.out
  have hRR := HR.out; have hra := HRR.out; have hro := HRO.out
  rw [← hl] at hlI hra hRR ⊢
  rw [← hm] at hmI hro hRR ⊢
  have HNR := Lib.hid hRR; have HRA2 := Lib.hid hra; have HRO2 := Lib.hid hro; have HMI := Lib.hid hmI
  have hlI2 : (l.length : Int) ≤ 71 := by omega
  clear hRR hra hro hmI hlI hl hm
  go_wp2_with fail
  go_loopw [33] (fun i wr => ∃ k : Nat, i = .int .i64 (k : Int) ∧ k ≤ l.length ∧ (∀ t ∈ l.take k, (fun s => m.contains s) t = false) ∧ Below u2.heap.size u2 wr) (fun i _ => l.length - (intOf i).toNat)
  case atStart => exact ⟨0, rfl, Nat.zero_le _, by simp, Below.refl _ _⟩
  case round =>
   obtain ⟨k, rfl, hk, hall, hbw⟩ := hrel
   have HA := Lib.hid hall; have HB := Lib.hid hbw
   clear hall
   by_cases hlt : k < l.length
   ·have hltI : (k : Int) < (l.length : Int) := by omega
    obtain ⟨s, hs⟩ : ∃ x, l[k]? = some x := ⟨l[k]'hlt, List.getElem?_eq_getElem _⟩
    obtain ⟨aa, rfl, _, hcell⟩ := (HRA2.out.below hbw).at_ (sx_get hs)
    have HQ := Lib.hid (HRA.out B cB m s wr (HRO2.out.below hbw) (by have := HMI.out; omega))
    have hmt := take_more (P := fun s => m.contains s) HA.out hs
    cases hp : m.contains s with
    | true =>
     have HRE := Lib.hid (near_at hs hp HA.out)
     rw [hp] at HQ
     clear hs hmt hp hbw
     go_wp2_with fail
     refine HQ.out.mono ?_
     rintro e w9 ⟨rfl, hb9⟩
     have HG9 := Lib.hid (HGA.out.below (HB.out.trans (hb9.mono HB.out.size)))
     clear hb9
     go_wp2
     go_ret
     exact ⟨by rw [HNR.out, HRE.out]; first | rfl | (simp only [h0]; rfl) | (unfold commonN; simp [h0]), HEND.out _ HG9.out⟩
    | false =>
     have HM := Lib.hid (hmt hp)
     rw [hp] at HQ
     clear hs hmt hp hbw
     go_wp2_with fail
     refine HQ.out.mono ?_
     rintro e w9 ⟨rfl, hb9⟩
     have HB9 := Lib.hid (HB.out.trans (hb9.mono HB.out.size))
     clear hb9
     go_wp2
     go_roundw
     case rel => exact ⟨k + 1, by go_num, by omega, HM.out, HB9.out⟩
     case measure => simp [intOf]; omega
   ·have hltI : ¬ (k : Int) < (l.length : Int) := by omega
    have hall := HA.out
    rw [List.take_of_length_le (by omega)] at hall
    have HOK := Lib.hid (near_no hall)
    have HG9 := Lib.hid (HGA.out.below hbw)
    clear hall hbw
    go_wp2
    go_ret
    exact ⟨by rw [HNR.out, HOK.out]; first | rfl | (simp only [h0]; rfl) | (unfold commonN; simp [h0]), HEND.out _ HG9.out⟩
 | false =>
  have g1 := bne_of h0
  go_enter Try.func13, Try.ntmps13
  go_wp2_with fail
  rw [← HW.out]
  (try go_wp2_with fail)
  refine HTR.out.mono ?_
  rintro e w1 ⟨rfl, h1, h2, h3⟩
  clear x0 x1 x2 x3 x4
  obtain ⟨W2, hW2⟩ : ∃ W2, W2 = w1.alloc (.cells (trC ⟨cs, A1, c1, ns, A2, c2, ec, en, ed⟩ kb).toArray 60) := ⟨_, rfl⟩
  have hb2 : Below w1.heap.size w1 W2 := by rw [hW2]; exact (Below.refl _ w1).alloc (Nat.le_refl _) _
  have bt2 : W2.heap[w1.heap.size]? = some (.cells (trC ⟨cs, A1, c1, ns, A2, c2, ec, en, ed⟩ kb).toArray 60 (0, 0)) := by rw [hW2]; exact heap_alloc_new w1 _
  have hk1 := h2 Kn
  have hkl := hk1.lt
  have hk2 : KnM cs Kn kb W2 := hk1.same (hb2.block kb hkl)
  have hbW2 : Below W.heap.size W W2 := h3.trans (hb2.mono h3.size)
  have HG2 := Lib.hid (show Gd ⟨cs, A1, c1, ns, A2, c2, ec, en, ed⟩ kb Kn W2 W2 from ⟨hk2, BelM.refl _ _ _⟩)
  have hF : FitH ⟨cs, A1, c1, ns, A2, c2, ec, en, ed⟩ kb Kn w1.heap.size W2 := ⟨HPR.out.1.2.below hbW2, HHH.out.cl, HHH.out.kl, HHH.out.ks, hk2, bt2⟩
  have HCE := Lib.hid (fun v (g : Gd ⟨cs, A1, c1, ns, A2, c2, ec, en, ed⟩ kb Kn W2 v) => show _ ∧ _ from ⟨(hF.keep g.1 g.2).tcells, pr_cells ((g.2.block w.heap.size (by have := HSZ.out; have := hbW2.size; omega) (by have := HKB.out; have := HSZ.out; omega)).trans ((hbW2.block _ (by have := HSZ.out; omega)).trans HBK.out))⟩)
  have HPO := Lib.hid (fun v (g : Gd ⟨cs, A1, c1, ns, A2, c2, ec, en, ed⟩ kb Kn W2 v) => PrOk.belm (HPR.out.below hbW2) g.2 hk2.map)
  have HEND := Lib.hid (fun v (g : Gd ⟨cs, A1, c1, ns, A2, c2, ec, en, ed⟩ kb Kn W2 v) => show Below w.heap.size w v from belm_below (HAL.out.trans (hbW2.mono HAL.out.size)) (by have := HKB.out; have := HSZ.out; omega) g.2)
  unfold trC prC at hW2
  try dsimp only [List.cons_append, List.nil_append] at hW2
  obtain ⟨⟨t0, t1, t2, t3, t4, t5⟩, p0, p1, p2, p3, p4⟩ := HCE.out W2 HG2.out
  clear h1 h2 h3 hb2 bt2 hk1 hkl hk2 hbW2 hF
  subst hW2
  go_wp2_with fail
  refine (HIA.out _ (HPO.out _ HG2.out).1.2 HG2.out.1).mono ?_
  rintro e v3 ⟨rfl, hk, hb⟩
  have HG3 := Lib.hid (HG2.out.next hk hb)
  clear hk hb t0 t1 t2 t3 t4 t5 p0 p1 p2 p3 p4
  obtain ⟨⟨t0, t1, t2, t3, t4, t5⟩, p0, p1, p2, p3, p4⟩ := HCE.out v3 HG3.out
  cases b1 with
  | false =>
   (try go_wp2_with fail)
   refine (HIB.out _ (HPO.out _ HG3.out).1.2 HG3.out.1).mono ?_
   rintro e v4 ⟨rfl, hk, hb⟩
   have HG4 := Lib.hid (HG3.out.next hk hb)
   clear hk hb t0 t1 t2 t3 t4 t5 p0 p1 p2 p3 p4
   obtain ⟨⟨t0, t1, t2, t3, t4, t5⟩, p0, p1, p2, p3, p4⟩ := HCE.out v4 HG4.out
   cases b2 with
   | false =>
    (try go_wp2_with fail)
    refine (HSB.out _ (HPO.out _ HG4.out)).mono ?_
    rintro e u1 ⟨⟨B, cB, rfl, hcB, hrB⟩, hbB⟩
    have HGB := Lib.hid (HG4.out.below hbB); have HRB := Lib.hid hrB
    clear hrB hbB hcB t0 t1 t2 t3 t4 t5 p0 p1 p2 p3 p4
    obtain ⟨⟨t0, t1, t2, t3, t4, t5⟩, p0, p1, p2, p3, p4⟩ := HCE.out u1 HGB.out
    go_wp2_with fail
    refine (HSA.out _ (HPO.out _ HGB.out)).mono ?_
    rintro e u2 ⟨⟨A, cA, rfl, hcA, hrA⟩, hbA⟩
    have HGA := Lib.hid (HGB.out.below hbA); have HRO := Lib.hid (HRB.out.below hbA); have HRR := Lib.hid hrA
    clear hrA hbA hcA t0 t1 t2 t3 t4 t5 p0 p1 p2 p3 p4
    obtain ⟨l, hl⟩ : ∃ l, l = supersL cs a := ⟨_, rfl⟩
    obtain ⟨m, hm⟩ : ∃ l, l = supersL cs b := ⟨_, rfl⟩
    have hlI := HLA.out; have hmI := HLB.out
    have hRR := HR.out; have hra := HRR.out; have hro := HRO.out
    rw [← hl] at hlI hra hRR ⊢
    rw [← hm] at hmI hro hRR ⊢
    have HNR := Lib.hid hRR; have HRA2 := Lib.hid hra; have HRO2 := Lib.hid hro; have HMI := Lib.hid hmI
    have hlI2 : (l.length : Int) ≤ 71 := by omega
    clear hRR hra hro hmI hlI hl hm
    go_wp2_with fail
    go_loopw [33] (fun i wr => ∃ k : Nat, i = .int .i64 (k : Int) ∧ k ≤ l.length ∧ (∀ t ∈ l.take k, (fun s => m.contains s) t = false) ∧ Below u2.heap.size u2 wr) (fun i _ => l.length - (intOf i).toNat)
    case atStart => exact ⟨0, rfl, Nat.zero_le _, by simp, Below.refl _ _⟩
    case round =>
     obtain ⟨k, rfl, hk, hall, hbw⟩ := hrel
     have HA := Lib.hid hall; have HB := Lib.hid hbw
     clear hall
     by_cases hlt : k < l.length
     ·have hltI : (k : Int) < (l.length : Int) := by omega
      obtain ⟨s, hs⟩ : ∃ x, l[k]? = some x := ⟨l[k]'hlt, List.getElem?_eq_getElem _⟩
      obtain ⟨aa, rfl, _, hcell⟩ := (HRA2.out.below hbw).at_ (sx_get hs)
      have HQ := Lib.hid (HRA.out B cB m s wr (HRO2.out.below hbw) (by have := HMI.out; omega))
      have hmt := take_more (P := fun s => m.contains s) HA.out hs
      cases hp : m.contains s with
      | true =>
       have HRE := Lib.hid (near_at hs hp HA.out)
       rw [hp] at HQ
       clear hs hmt hp hbw
       go_wp2_with fail
       refine HQ.out.mono ?_
       rintro e w9 ⟨rfl, hb9⟩
       have HG9 := Lib.hid (HGA.out.below (HB.out.trans (hb9.mono HB.out.size)))
       clear hb9
       go_wp2
       go_ret
       exact ⟨by rw [HNR.out, HRE.out]; first | rfl | (simp only [h0]; rfl) | (unfold commonN; simp [h0]), HEND.out _ HG9.out⟩
      | false =>
       have HM := Lib.hid (hmt hp)
       rw [hp] at HQ
       clear hs hmt hp hbw
       go_wp2_with fail
       refine HQ.out.mono ?_
       rintro e w9 ⟨rfl, hb9⟩
       have HB9 := Lib.hid (HB.out.trans (hb9.mono HB.out.size))
       clear hb9
       go_wp2
       go_roundw
       case rel => exact ⟨k + 1, by go_num, by omega, HM.out, HB9.out⟩
       case measure => simp [intOf]; omega
     ·have hltI : ¬ (k : Int) < (l.length : Int) := by omega
      have hall := HA.out
      rw [List.take_of_length_le (by omega)] at hall
      have HOK := Lib.hid (near_no hall)
      have HG9 := Lib.hid (HGA.out.below hbw)
      clear hall hbw
      go_wp2
      go_ret
      exact ⟨by rw [HNR.out, HOK.out]; first | rfl | (simp only [h0]; rfl) | (unfold commonN; simp [h0]), HEND.out _ HG9.out⟩
   | true =>
    (try go_wp2_with fail)
    go_ret
    exact ⟨by first | rfl | (simp only [h0]; rfl), HEND.out _ HG4.out⟩
  | true =>
   (try go_wp2_with fail)
   go_ret
   exact ⟨by first | rfl | (simp only [h0]; rfl), HEND.out _ HG3.out⟩
end Go.Proofs.Ytgpfohpmgbnimaa.prg

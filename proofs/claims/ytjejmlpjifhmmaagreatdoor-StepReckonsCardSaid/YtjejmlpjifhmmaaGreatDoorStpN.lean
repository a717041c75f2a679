/- StpN -/
import Derived.Test.YtjejmlpjifhmmaaGreatDoorFindH
import Derived.Test.YtjejmlpjifhmmaaGreatDoorFind
import Derived.Test.YtjejmlpjifhmmaaGreatDoorFindHm
namespace Go.Proofs.YtjejmlpjifhmmaaGreatDoor.find
open Go.RowKit
open words kindp opp op kind word prg sorts
set_option maxRecDepth 100000
set_option maxHeartbeats 8000000
set_option linter.all false
theorem static_m (m : MeM) (w : World) : Calls Tryz.prog 163 #[.agg (meC m).toArray] w fun e w' => e = .returned (.bool (m.st)) ∧ Below w.heap.size w w' := by
 obtain ⟨W, hW⟩ : ∃ W, W = w.alloc (.cells (meC m).toArray 155) := ⟨_, rfl⟩
 have hal : Below w.heap.size w W := by rw [hW]; exact (Below.refl _ w).alloc (Nat.le_refl _) _
 have hblk : W.heap[w.heap.size]? = some (.cells (meC m).toArray 155 (0, 0)) := by rw [hW]; exact heap_alloc_new w _
 obtain ⟨x0, x1, x2, x3, x4, x5⟩ := me_cells hblk
 have HAL := zh hal
 obtain ⟨nm, ds, st, ab, rg, co, A, c⟩ := m
 unfold meC at hW ⊢
 dsimp only at *
 have HW := zh hW
 clear hal hblk hW
 cases st <;> cases ab <;>
 ·go_enter Tryz.func163, Tryz.ntmps163
  go_wp2_with fail
  (try rw [← HW.out])
  (try go_wp2_with fail)
  go_ret
  exact ⟨rfl, HAL.out⟩
theorem init_w (x : PrM) (cn : Tx) (w : World) (hk : PrOk w x) (hg : GrP x) : Calls Tryz.prog 118 #[.agg (prC x).toArray, .string ⟨cn.toArray⟩] w
  fun e w' => e = .returned (refV (declR (fun m => m.st) x.cs ([cn]) clinit [40, 41, 86]) clinit [40, 41, 86]) ∧ Below w.heap.size w w' := by
 obtain ⟨W, hW⟩ : ∃ W, W = (w.alloc (.cells (prC x).toArray 36)).alloc (.cells #[.string ⟨#[]⟩, .string ⟨#[]⟩, .string ⟨#[]⟩] 34) := ⟨_, rfl⟩
 have hal : Below w.heap.size w W := by rw [hW]; exact ((Below.refl _ w).alloc (Nat.le_refl _) _).alloc (by simp <;> omega) _
 have hb0 : W.heap[w.heap.size]? = some (.cells (prC x).toArray 36 (0, 0)) := by
  have := heap_alloc_new w (.cells (prC x).toArray 36)
  (try rw [World.size_alloc] at this)
  (try rw [World.size_alloc] at this)
  rw [hW]; exact (Below.heap_alloc _ _ _ (by simp <;> omega)).trans (this)
 have hb1 : W.heap[w.heap.size + 1]? = some (.cells #[.string ⟨#[]⟩, .string ⟨#[]⟩, .string ⟨#[]⟩] 34 (0, 0)) := by
  have := heap_alloc_new (w.alloc (.cells (prC x).toArray 36)) (.cells #[.string ⟨#[]⟩, .string ⟨#[]⟩, .string ⟨#[]⟩] 34)
  (try rw [World.size_alloc] at this)
  (try rw [World.size_alloc] at this)
  rw [hW]; exact this
 have HAL := zh hal; have HRB := zh hb1
 have HS := zh (show ∀ u : World, Below W.heap.size W u → (fun w' => w'.cell? ⟨w.heap.size, 0, none⟩ = some (.slice x.A1 x.cs.length x.c1) ∧ w'.cell? ⟨w.heap.size, 1, none⟩ = some (.slice x.A2 x.ns.length x.c2) ∧ w'.cell? ⟨w.heap.size, 2, none⟩ = some (.string ⟨x.ec.toArray⟩) ∧ w'.cell? ⟨w.heap.size, 3, none⟩ = some (.string ⟨x.en.toArray⟩) ∧ w'.cell? ⟨w.heap.size, 4, none⟩ = some (.string ⟨x.ed.toArray⟩)) u from fun u hu => pr_cells ((hu.block _ (blk_lt hb0)).trans hb0))
 have HSU := zh (fun u (hu : Below W.heap.size W u) => only_w cn u)
 have HDE := zh (fun u B A c (hu : Below w.heap.size w u) hc hr => declared_w 163 (fun m => m.st) (enters_of Tryz.func163 (by kernel_rfl) rfl) static_m x ([cn]) clinit [40, 41, 86] B A c u (hk.below hu) hg hc hr (by simp))
 unfold prC at hW HSU HDE ⊢
 try dsimp only at hW HSU HDE ⊢
 obtain ⟨a1, a2, a3, ok, hv⟩ := refV_form (declR (fun m => m.st) x.cs ([cn]) clinit [40, 41, 86]) clinit [40, 41, 86]
 have HV := zh hv
 rw [hv] at HDE
 have HW := zh hW
 clear hal hb0 hb1 hW hv
 go_enter Tryz.func118, Tryz.ntmps118
 go_wp2_with fail
 try simp only [World.size_alloc]
 rw [← HW.out]
 (try go_wp2_with fail)
 refine wp_region_held_drew (S := (fun w' => w'.cell? ⟨w.heap.size, 0, none⟩ = some (.slice x.A1 x.cs.length x.c1) ∧ w'.cell? ⟨w.heap.size, 1, none⟩ = some (.slice x.A2 x.ns.length x.c2) ∧ w'.cell? ⟨w.heap.size, 2, none⟩ = some (.string ⟨x.ec.toArray⟩) ∧ w'.cell? ⟨w.heap.size, 3, none⟩ = some (.string ⟨x.en.toArray⟩) ∧ w'.cell? ⟨w.heap.size, 4, none⟩ = some (.string ⟨x.ed.toArray⟩))) (by kernel_rfl) ?_ (fun hHeld => ?_)
 ·exact HS.out _ (by exact ⟨rfl, rfl, rfl, Nat.le_refl _, fun _ _ => rfl⟩)
 obtain ⟨u0, hWd⟩ : ∃ u, u = W.drew := ⟨_, rfl⟩
 have HB0 := zh (show Below W.heap.size W u0 from by rw [hWd]; exact ⟨rfl, rfl, rfl, Nat.le_refl _, fun _ _ => rfl⟩)
 rw [← hWd]
 have hS0 := HS.out _ HB0.out
 clear hWd
 refine tkp 0 rfl ?_
 refine tkp 1 rfl ?_
 clear hS0
 refine rdy 2 rfl (fun K hK => ?_)
 go_simp
 refine (HSU.out _ HB0.out).mono ?_
 rintro e u1 ⟨⟨B, A, c, rfl, hc, hr⟩, hb⟩
 have HL1 := zh (show Below u0.heap.size u0 u1 from ⟨hb.os, hb.tape, hb.output, hb.size, hb.block⟩)
 have HB1 := zh (show Below W.heap.size W u1 from HB0.out.trans (HL1.out.mono HB0.out.size))
 have HC1 := zh (show u1.cell? ⟨B, 0, none⟩ = some (.slice A ([cn]).length c) from hc)
 have HR1 := zh (show Rd u1 A (SX ([cn])) from hr)
 clear hc hr hb
 go_wp2_with fail
 refine hK.out _ _ (HS.out _ HB1.out) (fun hHeld => ?_)
 clear hK K
 try simp only [puts]
 refine rdy 3 rfl (fun K hK => ?_)
 go_simp
 refine (HDE.out _ B A c (HAL.out.trans (HB1.out.mono HAL.out.size)) HC1.out HR1.out).mono ?_
 rintro e u2 ⟨rfl, hb⟩
 have HL2 := zh (show Below u1.heap.size u1 u2 from ⟨hb.os, hb.tape, hb.output, hb.size, hb.block⟩)
 have HB2 := zh (show Below W.heap.size W u2 from HB1.out.trans (HL2.out.mono HB1.out.size))
 have HC2 := zh (show u2.cell? ⟨B, 0, none⟩ = some (.slice A ([cn]).length c) from (HL2.out.cell (World.block_lt_of_cell? _ _ HC1.out)).trans HC1.out)
 have HR2 := zh (show Rd u2 A (SX ([cn])) from HR1.out.below HL2.out)
 clear hb
 go_wp2_with fail
 refine hK.out _ _ (HS.out _ HB2.out) (fun hHeld => ?_)
 clear hK K
 try simp only [puts]
 have hS2 := HS.out _ HB2.out
 refine tkp 4 rfl ?_
 refine tkp 5 rfl ?_
 clear hS2
 have rr := (HB2.out.block _ (blk_lt HRB.out)).trans HRB.out
 have q0 : u2.cell? ⟨w.heap.size + 1, 0, none⟩ = some (.string ⟨#[]⟩) := cell_of_row _ _ 0 _ _ _ rr
 have qf0 := frozen_of_row _ _ 0 _ _ rr
 have q1 : u2.cell? ⟨w.heap.size + 1, 1, none⟩ = some (.string ⟨#[]⟩) := cell_of_row _ _ 1 _ _ _ rr
 have qf1 := frozen_of_row _ _ 1 _ _ rr
 have q2 : u2.cell? ⟨w.heap.size + 1, 2, none⟩ = some (.string ⟨#[]⟩) := cell_of_row _ _ 2 _ _ _ rr
 have qf2 := frozen_of_row _ _ 2 _ _ rr
 have s0 := heap_setCell_same _ (w.heap.size + 1) 0 _ _ (.string ⟨a1.toArray⟩) rr
 have s1 := heap_setCell_same _ (w.heap.size + 1) 1 _ _ (.string ⟨a2.toArray⟩) s0
 have s2 := heap_setCell_same _ (w.heap.size + 1) 2 _ _ (.string ⟨a3.toArray⟩) s1
 have gA : u2.grownBy (((u2.setCell ⟨w.heap.size + 1, 0, none⟩ (.string ⟨a1.toArray⟩)).setCell ⟨w.heap.size + 1, 1, none⟩ (.string ⟨a2.toArray⟩)).setCell ⟨w.heap.size + 1, 2, none⟩ (.string ⟨a3.toArray⟩)) (some (w.heap.size + 1)) := gb_trans (gb_trans (gb_set _ (w.heap.size + 1) 0 _) (gb_set _ (w.heap.size + 1) 1 _)) (gb_set _ (w.heap.size + 1) 2 _)
 obtain ⟨WF, hWF⟩ : ∃ WF, WF = (((u2.setCell ⟨w.heap.size + 1, 0, none⟩ (.string ⟨a1.toArray⟩)).setCell ⟨w.heap.size + 1, 1, none⟩ (.string ⟨a2.toArray⟩)).setCell ⟨w.heap.size + 1, 2, none⟩ (.string ⟨a3.toArray⟩)) := ⟨_, rfl⟩
 have ur : WF.heap[w.heap.size + 1]? = some (.cells #[.string ⟨a1.toArray⟩, .string ⟨a2.toArray⟩, .string ⟨a3.toArray⟩] 34 (0, 0)) := by rw [hWF, s2]; simp
 have uB : Below w.heap.size w WF := by rw [hWF]; exact (HAL.out.trans (HB2.out.mono HAL.out.size)).grown gA (HAL.out.trans (HB2.out.mono HAL.out.size)).size (fun b hb => by cases hb; omega)
 have R0 := zh (show WF.cell? ⟨w.heap.size + 1, 0, none⟩ = some (.string ⟨a1.toArray⟩) from cell_of_row _ _ 0 _ _ _ ur)
 have R1 := zh (show WF.cell? ⟨w.heap.size + 1, 1, none⟩ = some (.string ⟨a2.toArray⟩) from cell_of_row _ _ 1 _ _ _ ur)
 have R2 := zh (show WF.cell? ⟨w.heap.size + 1, 2, none⟩ = some (.string ⟨a3.toArray⟩) from cell_of_row _ _ 2 _ _ _ ur)
 have UG := zh (show u2.grownBy WF (some (w.heap.size + 1)) from by rw [hWF]; exact gA)
 have HWF := zh hWF; have UB := zh uB
 clear rr s0 s1 s2 gA hWF ur uB
 have HS9 := zh (show (fun w' => w'.cell? ⟨w.heap.size, 0, none⟩ = some (.slice x.A1 x.cs.length x.c1) ∧ w'.cell? ⟨w.heap.size, 1, none⟩ = some (.slice x.A2 x.ns.length x.c2) ∧ w'.cell? ⟨w.heap.size, 2, none⟩ = some (.string ⟨x.ec.toArray⟩) ∧ w'.cell? ⟨w.heap.size, 3, none⟩ = some (.string ⟨x.en.toArray⟩) ∧ w'.cell? ⟨w.heap.size, 4, none⟩ = some (.string ⟨x.ed.toArray⟩)) WF from by rw [HWF.out]; exact ⟨(by simp [World.cell?_setCell_other, (HS.out _ HB2.out).1]), (by simp [World.cell?_setCell_other, (HS.out _ HB2.out).2.1]), (by simp [World.cell?_setCell_other, (HS.out _ HB2.out).2.2.1]), (by simp [World.cell?_setCell_other, (HS.out _ HB2.out).2.2.2.1]), (by simp [World.cell?_setCell_other, (HS.out _ HB2.out).2.2.2.2])⟩)
 refine rdy 6 rfl (fun K hK => ?_)
 go_simp
 rw [← HWF.out]
 refine hK.out _ _ HS9.out (fun hHeld => ?_)
 clear hK K
 try simp only [puts]
 have hS9 := HS9.out
 refine tkp 7 rfl ?_
 clear hS9
 refine wpAnyH_done (by kernel_rfl) ?_ _
 clear q0 q1 q2 qf0 qf1 qf2
 go_wp2
 refine bodyPost_ret (v := .tuple #[.agg #[.string ⟨a1.toArray⟩, .string ⟨a2.toArray⟩, .string ⟨a3.toArray⟩], .bool ok]) ?_ rfl ⟨by rw [HV.out], UB.out⟩
 simp [results, Tryz.results118, go_sem, R0.out, R1.out, R2.out]
end Go.Proofs.YtjejmlpjifhmmaaGreatDoor.find
namespace Go.Proofs.YtjejmlpjifhmmaaGreatDoor.stp
open Go.RowKit Go.MapKept Go.ChangeMaps Go.Shelf
open words kindp opp op kind prg sto find
set_option linter.all false
def Since (b : Nat) (w1 w : World) : Prop := w1.heap.size = b ∧ Below b w1 w
theorem Since.kept {b : Nat} {w1 w w' : World} {S : List Nat} (h : Since b w1 w) (hk : Kp S w w') (hs : ∀ k ∈ S, b ≤ k) : Since b w1 w' :=
 ⟨h.1, h.2.trans (hk.toBelow (by rw [← h.1]; exact h.1 ▸ h.2.size) hs)⟩
theorem Since.below {b : Nat} {w1 w w' : World} (h : Since b w1 w) (hk : Below w.heap.size w w') : Since b w1 w' := ⟨h.1, h.2.trans (hk.mono (by have := h.2.size; have := h.1; omega))⟩
theorem Since.of {b : Nat} {w1 w : World} (h : Since b w1 w) : Below w1.heap.size w1 w := by rw [h.1]; exact h.2
def So (x : PrM) : Prop := pP x = pP (soP 0 0 0)
def Tk (w : World) : Prop := Mx w ∧ Vd w
theorem Tk.below {w w' : World} (h : Tk w) (hb : Below w.heap.size w w') : Tk w' := ⟨h.1.below hb, h.2.below hb⟩
theorem So.parts {x : PrM} (h : So x) : ∃ c m, x.cs = [c] ∧ c.nm = [65] ∧ c.su = [] ∧ c.fs = [] ∧ c.ms = [m] ∧ m.nm = [109] ∧ m.ds = [40, 41, 73] ∧ pM m = pM (soM 0) ∧ x.ns = [] ∧ x.ec = [65] ∧ x.en = [109] ∧ x.ed = [40, 41, 73] := by
 have h1 : x.cs.map pC = [pC (soC 0 0)] := congrArg PrP.cs h
 obtain ⟨c, hc, he⟩ : ∃ c, x.cs = [c] ∧ pC c = pC (soC 0 0) := by
  rcases hx : x.cs with _ | ⟨c, _ | ⟨d, l⟩⟩
  ·rw [hx] at h1; simp at h1
  ·rw [hx] at h1; exact ⟨c, rfl, List.head_eq_of_cons_eq h1⟩
  ·rw [hx] at h1; simp at h1
 have hm : c.ms.map pM = [pM (soM 0)] := congrArg ClP.ms he
 obtain ⟨m, hm1, hm2⟩ : ∃ m, c.ms = [m] ∧ pM m = pM (soM 0) := by
  rcases hx : c.ms with _ | ⟨m, _ | ⟨d, l⟩⟩
  ·rw [hx] at hm; simp at hm
  ·rw [hx] at hm; exact ⟨m, rfl, List.head_eq_of_cons_eq hm⟩
  ·rw [hx] at hm; simp at hm
 have hf : c.fs.map pF = [] := congrArg ClP.fs he
 exact ⟨c, m, hc, congrArg ClP.nm he, congrArg ClP.su he, List.map_eq_nil_iff.1 hf, hm1, congrArg MeP.nm hm2, congrArg MeP.ds hm2, hm2, congrArg PrP.ns h, congrArg PrP.ec h, congrArg PrP.en h, congrArg PrP.ed h⟩
theorem So.get {x : PrM} (h : So x) {k : MeM} {ok : Bool} (hr : GetR x.cs [65] [109] [40, 41, 73] k ok) : ok = true ∧ pM k = pM (soM 0) := by
 obtain ⟨c, m, hc, hn, hsu, hfs, hm, e1, e2, e3, -⟩ := h.parts
 have hf : firstM x.cs [[65]] [109] [40, 41, 73] = some (c, 0) := by
  rw [hc]; simp [firstM, oneM, findC, declM, hn, hm, e1, e2]
 unfold GetR at hr
 rw [hf] at hr
 obtain ⟨h1, m', h2, h3⟩ := hr
 rw [hm] at h2
 cases h2
 exact ⟨h1, h3.trans e3⟩
theorem So.sup {x : PrM} (h : So x) : supersL x.cs [65] = [[65]] := by
 obtain ⟨c, m, hc, hn, hsu, hfs, hm, e1, e2, e3, -⟩ := h.parts
 rw [hc]
 simp [supersL, supS, findC, hn, hsu]
theorem So.init {x : PrM} (h : So x) : declR (fun m => m.st) x.cs [[65]] clinit [40, 41, 86] = none := by
 obtain ⟨c, m, hc, hn, hsu, hfs, hm, e1, e2, e3, -⟩ := h.parts
 rw [hc]
 simp [declR, firstM, oneM, findC, declM, hn, hm, e1, e2, clinit]
end Go.Proofs.YtjejmlpjifhmmaaGreatDoor.stp
namespace Go.Proofs.YtjejmlpjifhmmaaGreatDoor.stp
open Go.RowKit Go.MapKept Go.ChangeMaps Go.Shelf
open words kindp opp op kind prg sto find
set_option linter.all false
theorem code_off {mb : Nat} {m : MS} {w : World} {a : Addr} {y : InM} {l : List InM} (h : Mk mb m w) (hr : Rd w (some a) ((y :: l).flatMap inC)) (hl : l.length = 3) : a.block ≠ mb := by
 intro e
 rcases hr with h0 | ⟨a', e', hlt, hc⟩
 ·exact absurd h0 (by simp [inC])
 cases e'
 have h1 := hc 0 (.int .i64 y.i.o) (by simp [inC])
 have h2 : ((y :: l).flatMap inC)[35]?.isSome = true := by
  rw [List.getElem?_eq_getElem (by rw [flat_len (f := inC) (k := 9) (fun _ => rfl)]; simp [hl])]; rfl
 obtain ⟨u, hu⟩ := Option.isSome_iff_exists.1 h2
 have h3 := hc 35 u hu
 have e0 : a.add 0 = a := by simp [Addr.add]
 have e35 : a.add 35 = ⟨a.block, a.off + 35, none⟩ := by unfold Addr.add; rw [if_neg (by omega)]
 rw [e0] at h1
 have hsp : a.spot = none := World.cell?_spot h1
 obtain ⟨ab, ao, asp⟩ := a
 dsimp only at hsp e e35
 subst hsp; subst e
 rw [e35, cell_of_row _ _ _ _ _ _ h] at h3
 rw [cell_of_row _ _ _ _ _ _ h] at h1
 have h4 := (Array.getElem?_eq_some_iff.1 h3).1
 have h5 : ao < 5 := by have : (msC m).toArray.size = 40 := rfl; omega
 rcases ao with _ | _ | _ | _ | _ | n
 ·cases h1
 ·cases h1
 ·cases h1
 ·cases h1
 ·cases h1
 ·omega
def CodeAt (mb : Nat) (k : MeM) (b : Nat) (w : World) : Prop := ∃ a, k.A = some a ∧ a.block ≠ mb ∧ a.block < b ∧ Rd w k.A (k.co.flatMap inC)
theorem code_at {mb : Nat} {m : MS} {w : World} {k : MeM} (h : Mk mb m w) (hk : pM k = pM (soM 0)) (hr : Rd w k.A (k.co.flatMap inC)) : CodeAt mb k w.heap.size w := by
 have hco : k.co.map pI = [so1, so2, so3, so4].map pI := congrArg MeP.co hk
 have hlen : k.co.length = 4 := by have := congrArg List.length hco; simpa using this
 rcases hc : k.co with _ | ⟨y, l⟩
 ·rw [hc] at hlen; cases hlen
 rw [hc] at hr hlen
 rcases hr with h0 | ⟨a, e, hlt, hce⟩
 ·exact absurd h0 (by simp [inC])
 refine ⟨a, e, code_off h (.inr ⟨a, rfl, hlt, hce⟩) (by simpa using hlen), hlt, ?_⟩
 rw [hc]; exact .inr ⟨a, e, hlt, hce⟩
theorem set6 {w : World} {b : Nat} {t : TypeId} {z0 z1 z2 z3 z4 z5 : Value} (h : w.heap[b]? = some (.cells #[z0, z1, z2, z3, z4, z5] t (0, 0))) (v0 v1 v2 v3 v4 v5 : Value) :
 ((((((w.setCell ⟨b, 0, none⟩ v0).setCell ⟨b, 1, none⟩ v1).setCell ⟨b, 2, none⟩ v2).setCell ⟨b, 3, none⟩ v3).setCell ⟨b, 4, none⟩ v4).setCell ⟨b, 5, none⟩ v5).heap[b]? = some (.cells #[v0, v1, v2, v3, v4, v5] t (0, 0)) := by
 have z0 := heap_setCell_same _ _ 0 _ _ v0 h
 have z1 := heap_setCell_same _ _ 1 _ _ v1 z0
 have z2 := heap_setCell_same _ _ 2 _ _ v2 z1
 have z3 := heap_setCell_same _ _ 3 _ _ v3 z2
 have z4 := heap_setCell_same _ _ 4 _ _ v4 z3
 have z5 := heap_setCell_same _ _ 5 _ _ v5 z4
 rw [z5]; rfl
theorem gb6 (w : World) (b : Nat) (v0 v1 v2 v3 v4 v5 : Value) : w.grownBy ((((((w.setCell ⟨b, 0, none⟩ v0).setCell ⟨b, 1, none⟩ v1).setCell ⟨b, 2, none⟩ v2).setCell ⟨b, 3, none⟩ v3).setCell ⟨b, 4, none⟩ v4).setCell ⟨b, 5, none⟩ v5) (some b) :=
 gb_trans (gb_trans (gb_trans (gb_trans (gb_trans (gb_set _ b 0 _) (gb_set _ b 1 _)) (gb_set _ b 2 _)) (gb_set _ b 3 _)) (gb_set _ b 4 _)) (gb_set _ b 5 _)
end Go.Proofs.YtjejmlpjifhmmaaGreatDoor.stp

/-
 Whether any program can be, and is in order: walked through the program.
-/
import Derived.Test.YtjcdgpfffmnneaaGreatDoorNormLv
import Derived.Test.YtjcdgpfffmnneaaGreatDoorNormRl
import Derived.Test.YtjcdgpfffmnneaaGreatDoorFrame
import Derived.Test.YtjcdgpfffmnneaaGreatDoorPrgO
import Derived.Test.YtjcdgpfffmnneaaGreatDoorLaid7
import Derived.Test.YtjcdgpfffmnneaaGreatDoorCards
import Derived.Test.YtjcdgpfffmnneaaGreatDoorTie
import Derived.Deep.DeepHandedRow
/- The walk of NormRight: whether any program can be, and is in order. -/
namespace Go.Proofs.YtjcdgpfffmnneaaGreatDoor.normRight
open Go.RowKit
open words kindp opp op kind word prg

set_option maxRecDepth 100000 in
set_option maxHeartbeats 4000000 in
set_option linter.all false in
theorem walk (x : PrM) (w : World) (hk : PrOk w x) (hb : PrBd x) (hs : Sh w) (hv : Vd w) (hm : Mx w) : Calls Tryz.prog 3 #[.agg (prC x).toArray] w fun e w' => e = .returned (.bool true) ∧ Below w.heap.size w w' := by
 have htw : Wd w := ⟨hs, hm, hv⟩
 obtain ⟨W, hW⟩ : ∃ W, W = w.alloc (.cells (prC x).toArray 27) := ⟨_, rfl⟩
 have hal : Below w.heap.size w W := by rw [hW]; exact (Below.refl _ w).alloc (Nat.le_refl _) _
 have HAL := Lib.hid hal
 have hblk : W.heap[w.heap.size]? = some (.cells (prC x).toArray 27 (0, 0)) := by rw [hW]; exact heap_alloc_new w _
 have HBK := Lib.hid hblk; have HLT := Lib.hid (blk_lt hblk)
 obtain ⟨x0_0, x0_1, x0_2, x0_3, x0_4⟩ := pr_cells hblk
 have K0 := Lib.hid (Below.refl W.heap.size W)
 have HTW := Lib.hid (htw.below hal)
 have hkW := hk.below hal
 have HKW := Lib.hid hkW
 have HGR := Lib.hid (fun v (hv : Below W.heap.size W v) => great_w x v (hkW.below hv) hb)
 have HLV := Lib.hid (fun v (hv : Below W.heap.size W v) => live_w v ((htw.below hal).below hv))
 have HRT := Lib.hid (fun v (hv : Below W.heap.size W v) (hf : GrP x) => right_w x v ((htw.below hal).below hv) (hkW.below hv) hb hf.fit)
 have HRR := Lib.hid (fun v (hv : Below W.heap.size W v) (hf : GrP x) => right8_r x v (hkW.below hv) hb (fun c hc m hm z hz => method_r m z (((hkW.2.2 c hc).2.2.2 m hm).below (hv.trans (hz.mono hv.size))) ((hb.1.2 c hc).2.2.2.2.2 m hm) (hf.fit c hc m hm)))
 have HOW := Lib.hid (fun v (hv : Below W.heap.size W v) => order_w x v (hkW.below hv) hb)
 have HOR := Lib.hid (fun v (hv : Below W.heap.size W v) => inorder_r x v (hkW.below hv) hb)
 generalize rightE x = rr at HRT HRR
 generalize orderB x = oo at HOW HOR
 have hrr : (rr == rr) = true := by simp
 have hoo : (oo == oo) = true := by simp
 have HCE := Lib.hid (show ∀ v : World, Below W.heap.size W v → v.cell? ⟨w.heap.size, 0, none⟩ = some (.slice x.A1 x.cs.length x.c1) ∧ v.cell? ⟨w.heap.size, 1, none⟩ = some (.slice x.A2 x.ns.length x.c2) ∧ v.cell? ⟨w.heap.size, 2, none⟩ = some (.string ⟨x.ec.toArray⟩) ∧ v.cell? ⟨w.heap.size, 3, none⟩ = some (.string ⟨x.en.toArray⟩) ∧ v.cell? ⟨w.heap.size, 4, none⟩ = some (.string ⟨x.ed.toArray⟩) from fun v hv => pr_cells ((hv.block _ HLT.out).trans HBK.out))
 unfold prC at hW HGR HRT HRR HOW HOR ⊢
 try dsimp only at hW HGR HRT HRR HOW HOR ⊢
 have HW := Lib.hid hW
 clear hal hblk hW hk hb hs hv hm htw hkW
 go_enter Tryz.func3, Tryz.ntmps3
 go_wp2_with fail
 rw [← HW.out]
 (try go_wp2_with fail)
 refine wp_region_held_drew (S := (fun w' => w'.cell? ⟨w.heap.size, 0, none⟩ = some (.slice x.A1 x.cs.length x.c1) ∧ w'.cell? ⟨w.heap.size, 1, none⟩ = some (.slice x.A2 x.ns.length x.c2) ∧ w'.cell? ⟨w.heap.size, 2, none⟩ = some (.string ⟨x.ec.toArray⟩) ∧ w'.cell? ⟨w.heap.size, 3, none⟩ = some (.string ⟨x.en.toArray⟩) ∧ w'.cell? ⟨w.heap.size, 4, none⟩ = some (.string ⟨x.ed.toArray⟩))) (by kernel_rfl) ?_ (fun hHeld => ?_)
 ·exact HCE.out W K0.out
 refine wpAnyH_ready (rs := [0]) (by kernel_rfl) (by simp) (AllReadyH.cons rfl (fun K hK => ?_) AllReadyH.nil)
 go_simp
 refine (HLV.out _ ?_).mono ?_; (first | exact K0.out | exact overD K0.out); rintro e v11 ⟨rfl, hb⟩; have K1 := Lib.hid (show Below W.heap.size W v11 from (by first | exact K0.out.trans (hb.mono K0.out.size) | exact (overD K0.out).trans (hb.mono (overD K0.out).size))); clear hb; go_wp2_with fail
 refine hK.out _ _ (HCE.out _ K1.out) (fun hHeld => ?_)
 clear hK K
 try simp only [puts]
 refine tkv 1 rfl ?_
 try simp only [puts]
 refine tkv 2 rfl ?_
 try simp only [puts]
 refine wpAnyH_ready (rs := [3]) (by kernel_rfl) (by simp) (AllReadyH.cons rfl (fun K hK => ?_) AllReadyH.nil)
 go_simp
 refine (HGR.out _ ?_).mono ?_; (first | exact K1.out | exact overD K1.out); rintro e v12 ⟨g, rfl, hg, hb⟩; have K2 := Lib.hid (show Below W.heap.size W v12 from (by first | exact K1.out.trans (hb.mono K1.out.size) | exact (overD K1.out).trans (hb.mono (overD K1.out).size))); have HG := Lib.hid hg; clear hb hg; go_wp2_with fail
 refine hK.out _ _ (HCE.out _ K2.out) (fun hHeld => ?_)
 clear hK K
 try simp only [puts]
 cases g with
 | true =>
  refine tkv 4 rfl ?_
  try simp only [puts]
  refine tku 5 rfl ?_
  try simp only [puts]
  refine tku 6 rfl ?_
  try simp only [puts]
  refine tku 7 rfl ?_
  try simp only [puts]
  refine tku 8 rfl ?_
  try simp only [puts]
  refine tku 9 rfl ?_
  try simp only [puts]
  refine tku 10 rfl ?_
  try simp only [puts]
  refine tku 11 rfl ?_
  try simp only [puts]
  refine tku 12 rfl ?_
  try simp only [puts]
  refine tku 13 rfl ?_
  try simp only [puts]
  refine tku 14 rfl ?_
  try simp only [puts]
  refine tku 15 rfl ?_
  try simp only [puts]
  refine tku 16 rfl ?_
  try simp only [puts]
  refine tkv 17 rfl ?_
  try simp only [puts]
  refine tkv 18 rfl ?_
  try simp only [puts]
  refine tkv 19 rfl ?_
  try simp only [puts]
  refine wpAnyH_done (by kernel_rfl) ?_ _
  go_wp2
  go_ret
  exact ⟨rfl, HAL.out.trans (K2.out.mono HAL.out.size)⟩
 | false =>
  have hgp := HG.out rfl
  refine tkv 4 rfl ?_
  try simp only [puts]
  refine tkv 5 rfl ?_
  try simp only [puts]
  refine tkv 7 rfl ?_
  try simp only [puts]
  refine wpAnyH_ready (rs := [6]) (by kernel_rfl) (by simp) (AllReadyH.cons rfl (fun K hK => ?_) AllReadyH.nil)
  go_simp
  refine (HRT.out _ ?_ hgp).mono ?_; (first | exact K2.out | exact overD K2.out); rintro e v13 ⟨rfl, hb⟩; have K3 := Lib.hid (show Below W.heap.size W v13 from (by first | exact K2.out.trans (hb.mono K2.out.size) | exact (overD K2.out).trans (hb.mono (overD K2.out).size))); clear hb; go_wp2_with fail
  refine hK.out _ _ (HCE.out _ K3.out) (fun hHeld => ?_)
  clear hK K
  try simp only [puts]
  refine wpAnyH_ready (rs := [8]) (by kernel_rfl) (by simp) (AllReadyH.cons rfl (fun K hK => ?_) AllReadyH.nil)
  go_simp
  refine (HRR.out _ ?_ hgp).mono ?_; (first | exact K3.out | exact overD K3.out); rintro e v14 ⟨rfl, hb⟩; have K4 := Lib.hid (show Below W.heap.size W v14 from (by first | exact K3.out.trans (hb.mono K3.out.size) | exact (overD K3.out).trans (hb.mono (overD K3.out).size))); clear hb; go_wp2_with fail
  refine hK.out _ _ (HCE.out _ K4.out) (fun hHeld => ?_)
  clear hK K
  try simp only [puts]
  refine tkv 9 rfl ?_
  try simp only [puts]
  refine tkv 10 rfl ?_
  try simp only [puts]
  refine tkv 11 rfl ?_
  try simp only [puts]
  refine tkv 13 rfl ?_
  try simp only [puts]
  refine wpAnyH_ready (rs := [12]) (by kernel_rfl) (by simp) (AllReadyH.cons rfl (fun K hK => ?_) AllReadyH.nil)
  go_simp
  refine (HOW.out _ ?_).mono ?_; (first | exact K4.out | exact overD K4.out); rintro e v15 ⟨rfl, hb⟩; have K5 := Lib.hid (show Below W.heap.size W v15 from (by first | exact K4.out.trans (hb.mono K4.out.size) | exact (overD K4.out).trans (hb.mono (overD K4.out).size))); clear hb; go_wp2_with fail
  refine hK.out _ _ (HCE.out _ K5.out) (fun hHeld => ?_)
  clear hK K
  try simp only [puts]
  refine wpAnyH_ready (rs := [14]) (by kernel_rfl) (by simp) (AllReadyH.cons rfl (fun K hK => ?_) AllReadyH.nil)
  go_simp
  refine (HOR.out _ ?_).mono ?_; (first | exact K5.out | exact overD K5.out); rintro e v16 ⟨rfl, hb⟩; have K6 := Lib.hid (show Below W.heap.size W v16 from (by first | exact K5.out.trans (hb.mono K5.out.size) | exact (overD K5.out).trans (hb.mono (overD K5.out).size))); clear hb; go_wp2_with fail
  refine hK.out _ _ (HCE.out _ K6.out) (fun hHeld => ?_)
  clear hK K
  try simp only [puts]
  refine tkv 15 rfl ?_
  try simp only [puts]
  refine tkv 16 rfl ?_
  try simp only [puts]
  refine tkv 17 rfl ?_
  try simp only [puts]
  refine tkv 18 rfl ?_
  try simp only [puts]
  refine tkv 19 rfl ?_
  try simp only [puts]
  refine wpAnyH_done (by kernel_rfl) ?_ _
  go_wp2
  go_ret
  exact ⟨by first | rfl | (simp only [hrr, hoo]; rfl), HAL.out.trans (K6.out.mono HAL.out.size)⟩
end Go.Proofs.YtjcdgpfffmnneaaGreatDoor.normRight

/- Whether any program can be, and is in order: walked through the program. -/
namespace Go.Proofs.YtjcdgpfffmnneaaGreatDoor.normRight
open Go.ChangeShapes Go.WideShapes Go.ChangeAt Go.RowKit
open words frame

set_option maxRecDepth 100000 in
theorem reads (os : Os) {H : Type} (enc : TypeId × Value → H) : ∃ places, DataW.whole enc Tryz.prog ((Laid7.laidWorld os).forCall (fun _ _ => 0) ⟨#[], #[.agg #[.slice none 0 0, .slice none 0 0, .string ⟨#[]⟩, .string ⟨#[]⟩, .string ⟨#[]⟩]], []⟩).memory Tryz.f3.params.toList Rows.normRightSpec.vars false (#[.agg #[.slice none 0 0, .slice none 0 0, .string ⟨#[]⟩, .string ⟨#[]⟩, .string ⟨#[]⟩]] : Array Value).toList 8 = some ([.agg [.nil, .nil, .agg [.lit (.string []), .lit (.string []), .lit (.string [])]]], [], places) :=
 ⟨[], by kernel_rfl⟩
set_option maxRecDepth 100000 in
theorem laid_met (os : Os) : laidMet Tryz.prog Rows.normRightRow.laid ((Laid7.laidWorld os).forCall (fun _ _ => 0) ⟨#[], #[.agg #[.slice none 0 0, .slice none 0 0, .string ⟨#[]⟩, .string ⟨#[]⟩, .string ⟨#[]⟩]], []⟩).memory :=
 laidMet_of_run' 8 (by kernel_rfl) (by kernel_rfl)
set_option maxRecDepth 100000 in
theorem lifted (os : Os) (started : os.Started) (H : Type) (enc : TypeId × Value → H) (F : Stop.Interp) :
  ReturnsInHanded {} Tryz.checked os 3 .any ((OpenSpec.ofChange Rows.normRightSpec).preRow enc Tryz.prog Tryz.f3 Rows.normRightRow.domain false Rows.normRightRow.laid) (((OpenSpec.ofChange Rows.normRightSpec).at F).post enc Tryz.prog Tryz.f3 false true false false) := by
 obtain ⟨places, hx⟩ := reads os enc
 refine returnsInHanded_of_row (C := Tryz.checked) (s := (OpenSpec.ofChange Rows.normRightSpec)) own started (by kernel_rfl) Tryz.func3
  (witness_row_at (enc := enc) (C := Tryz.checked) false (Laid7.laidWorld os) #[.agg #[.slice none 0 0, .slice none 0 0, .string ⟨#[]⟩, .string ⟨#[]⟩, .string ⟨#[]⟩]] rfl (by kernel_rfl) (by kernel_rfl) (by kernel_rfl)
   (OpenSpec.preRow_of_cond 8 hx (by kernel_rfl) (fun k hk => by cases hk) (by kernel_rfl) (laid_met os))) ?_
 intro W base args ds gs before hval0 hW _ _ hz hL hSO _
 have hval : ∀ (j : Nat) t v, Tryz.f3.params[j]? = some t → args[j]? = some v → Value.okWide Tryz.prog W .any base t v := hval0
 have hW' := hW
 obtain ⟨p, q, hA0, hV, rfl, hfz, hnd⟩ := hW
 have hA : DataW.TrodAll enc Tryz.prog W 0 (fun _ => true) true Tryz.f3.params.toList args.toList ds p := hA0
 rw [Tryz.params3] at hA hval
 obtain ⟨v0, vs0, d0, ds0, p0, q0, hargs, rfl, rfl, h0, r0⟩ := trodAll_cons hA
 obtain ⟨rfl, rfl, rfl⟩ := trodAll_nil r0
 obtain rfl : args = #[v0] := by cases args; simp_all
 obtain ⟨rfl, rfl⟩ := trodVars_none hV
 have k0 := h0
 have lt0 : ∀ x ∈ p0, x.block < W.heap.size := by obtain ⟨m, hm⟩ := k0; exact DataW.trod_lt m _ _ _ hm
 obtain ⟨x0, rfl, ok0, wt0⟩ := prg.open_prog (hval 0 27 v0 rfl rfl) h0
 have bd0 := wt0 (prg.prog_reach hz (j := 0) rfl rfl)
 have tab0 := Laid7.table hL
 have tab1 := Laid7.voids hL
 have tab2 := Laid7.most hSO
 clear hA0
 refine (walk x0 W ok0 bd0 tab0 tab1 tab2).mono fun e W' ⟨he, bel⟩ => ?_
 subst he
 exact ⟨_, rfl, _, _, _, [], _, [], hW', trodAll_mk1 (shut_bool Tryz.underlying4 _), (trodAll_cons_mk (Below.trod laidOut (by kernel_rfl) (of_decide_eq_true (by kernel_rfl)) k0 bel lt0) trodAll_mk0), rfl, bel.frame _, fun h => by cases h⟩

set_option maxRecDepth 100000 in
theorem said : Rows.NormRightSaid :=
 OpenClaim.holds_of_cond 3 Tryz.f3 rfl rfl rfl rfl rfl rfl rfl ⟨rfl, rfl, rfl, rfl, rfl⟩ rfl rfl rfl rfl rfl (by kernel_rfl) Tryz.func3 (by kernel_rfl)
  (of_decide_eq_true (by kernel_rfl)) (by unfold Func.isWrapper; first | (rw [if_pos (by decide +kernel)]; kernel_rfl) | (rw [if_neg (by decide +kernel)]; exact ⟨rfl, rfl⟩))
  (fun os started H enc _ F => by rw [OpenClaim.pre_eq_preRow]; exact lifted os started H enc F)

set_option maxRecDepth 100000 in
theorem plain (f : FuncId) (fn : Func) (hf : Tryz.pinned.checked.prog.funcNamed "secateur/secateurlaw08.NormRight" = some f) (hfn : Tryz.pinned.checked.prog.funcs[f]? = some fn) :
  true = Tryz.pinned.checked.prog.looks [] ∧ ∀ (j : Nat) t, fn.params[j]? = some t → Tryz.pinned.checked.prog.wantsStandIn t = false := by
 obtain rfl : f = 3 := Option.some.inj ((show Tryz.prog.funcNamed "secateur/secateurlaw08.NormRight" = some 3 by kernel_rfl).symm.trans hf) |>.symm
 obtain rfl : fn = Tryz.f3 := (Option.some.inj (Tryz.func3.symm.trans hfn)).symm
 refine ⟨by kernel_rfl, fun j t ht => ?_⟩
 rw [Tryz.params3] at ht
 have hm := Array.mem_of_getElem? ht
 simp only [List.mem_toArray, List.mem_cons, List.not_mem_nil, or_false] at hm
 rcases hm with rfl
 ·exact (show Tryz.prog.wantsStandIn 27 = false by kernel_rfl)

/-- THE CARD. -/
theorem card : Rows.NormRightCardSaid :=
 Claim7.holds_tied_plain_at .later [] _ _ _ _ said (fun _ h => by cases h) (by kernel_rfl) (fun _ h => by cases h) normRight_row_tie rfl ⟨rfl, rfl⟩ (by kernel_rfl) rfl plain (by kernel_rfl)
#print axioms card
end Go.Proofs.YtjcdgpfffmnneaaGreatDoor.normRight

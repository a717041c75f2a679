/- StpF -/
import Derived.Test.YtjejmlpjifhmmaaGreatDoorStoL
import Derived.LoopN
namespace Go.Proofs.YtjejmlpjifhmmaaGreatDoor.sto
open Go.RowKit Go.MapKept Go.ChangeMaps Go.Shelf
open words kindp kind prg
set_option maxRecDepth 100000
set_option maxHeartbeats 8000000
set_option linter.all false
attribute [local go_sem] Oper.semAt_some
def kC : List Value := [.string ⟨#[65]⟩, .string ⟨#[102]⟩]
def FHeld (w : World) (pre : List Unit) (W : World) : Prop :=
 (∃ v, Boxed W w.heap.size 47 v ∧ W.ownsRow w.heap.size 137 2 v pre.length (rep kC pre.length) ∧ True) ∧ Below w.heap.size w W
theorem fheld_own (w : World) (B : Nat) (hB : w.heap.size ≤ B) : OwnFrom B (FHeld w) :=
 OwnFrom.and (Own.from (holdsRow_own w.heap.size w.heap.size 47 137 2 (fun pre : List Unit => pre.length) (fun pre => rep kC pre.length) (fun _ _ => True)) _) (ownFrom_below (Nat.le_refl _) hB)
def FGot (S : List Unit → Prop) (w : World) (e : Ending) (w' : World) : Prop :=
 ∃ v xs, e = .returned v ∧ S xs ∧ w'.ownsRow w.heap.size 137 2 v xs.length (rep kC xs.length) ∧ Below w.heap.size w w'
theorem infoF : (Tryz.prog.info? 137).map (fun i => (i.zero, i.size, i.bytes)) = some (some (.agg #[.string ⟨#[]⟩, .string ⟨#[]⟩]), 2, 32) := by kernel_rfl
def FAx (w : World) (g : Nat) (lb : Array Value) (_ : Unit) (a' : Act) (W : World) : Prop := ∃ Bx, w.heap.size < Bx ∧ W.heap[Bx]? = some (.cells kC.toArray 137 (0, 0)) ∧
 a' = { tmps := #[.slice none 0 0, .func (.func g) #[] lb, .pointer (some ⟨w.heap.size, 0, none⟩), undef, .slice none 0 0, .pointer (some ⟨Bx, 0, none⟩), .func (.func g) #[] lb, .agg #[.string ⟨#[65]⟩, .string ⟨#[102]⟩], undef, undef, undef, undef, undef], defers := [] }
theorem append_k (g : Nat) (lb : Array Value) (eg : ∀ args w, (callFunc g args).run Tryz.prog w = .ok (.enter g args) w) (S Sp : List Unit → Prop) (w : World) (hseq : SeqStopsK Fence.wide 2 Tryz.prog g lb (fun _ : Unit => #[kA]) KeepsWalks S Sp 1 w) :
  CallsIn Fence.wide 3 Tryz.prog 154 #[.slice none 0 0, .func (.func g) #[] lb] w (FGot S w) := by
 obtain ⟨i0, hi, hz0, hz1, hz2⟩ := info_parts infoF
 have HSQ := zh hseq
 clear hseq
 refine callsIn_of_wp_marks Tryz.func154 rfl trivial ?_ rfl
 simp only [Tryz.ntmps154, List.size_toArray, List.length_cons, List.length_nil, Nat.reduceAdd, Nat.reduceSub, Array.replicate_succ, Array.replicate_zero, List.push_toArray, List.append_toArray, List.nil_append, List.cons_append]
 gi_wp2
 have hW0 : ∃ W0, w.alloc (.cells #[.slice none 0 0] 47) = W0 := ⟨_, rfl⟩
 have b1 := Boxed.new w 47 (.slice none 0 0)
 have hBel : Below w.heap.size w (w.alloc (.cells #[.slice none 0 0] 47)) := (Below.refl _ w).alloc (Nat.le_refl _) _
 have hsz : (w.alloc (.cells #[.slice none 0 0] 47)).heap.size = w.heap.size + 1 := by simp
 have hHeld : FHeld w [] (w.alloc (.cells #[.slice none 0 0] 47)) := ⟨⟨_, b1, World.ownsRow_nil _ _ _ _, trivial⟩, hBel⟩
 clear b1
 obtain ⟨W0, hW0⟩ := hW0
 try simp only [World.size_alloc]
 rw [hW0] at hBel hsz hHeld ⊢
 clear hW0
 refine wpIn_rangeFunc_ownH rfl (by omega) (gf := g) (lb := lb) rfl trivial eg
  HSQ.out (fun h k => h.trans k) (fun W l o o' hl h h1 h2 => KeepsWalks.putObj o' h h2) hBel (fun _ => rfl)
  (FHeld w) (fun _ _ _ => False) (fheld_own w _ (by omega)) (fun _ _ _ _ _ hs _ _ => hs) hHeld
  (FAx w g lb)
  (fun x a' _ X Y row hs hg hr => by
    obtain ⟨Bx, e1, e2, e3⟩ := hs
    exact ⟨Bx, e1, (hg.block Bx (blk_lt e2) (fun e => by obtain ⟨-, o, ho, hc⟩ := hr _ e.symm; rw [e2] at ho; cases ho; cases hc)).trans e2, e3⟩)
  ?assign ?body ?done ?stop
 case assign =>
  rintro l pre x W K ⟨⟨v, hv, hrow, -⟩, hB⟩ hK
  unfold kA
  gi_wp2
  refine hK _ _ ((KeepsOthers.alloc _ _).from _) (KeepsOthers.alloc _ _).walks ⟨⟨v, hv.alloc _, hrow.alloc _, trivial⟩, hB.alloc hB.size _⟩ ⟨W.heap.size, by have := hv.lt; omega, heap_alloc_new W _, rfl⟩
 case body =>
  rintro l pre x a' W hl _ ⟨⟨v, hv, hrow, -⟩, hB⟩ ⟨Bx, hBx, bX, rfl⟩ hlt
  have hc0 := hv.cell
  have k0 : W.cell? ⟨Bx, 0, none⟩ = some (.string ⟨#[65]⟩) := cell_of_row _ _ 0 _ _ _ bX
  have k1 : W.cell? ⟨Bx, 1, none⟩ = some (.string ⟨#[102]⟩) := cell_of_row _ _ 1 _ _ _ bX
  have hle : w.heap.size ≤ w.heap.size := Nat.le_refl _
  have hmx1 : pre.length + 1 ≤ maxLen := by unfold maxLen; omega
  gi_wp2_with (gi_at_builtin; refine wpListIn_append_own _ rfl _ _ 47 rfl w.heap.size 137 i0 (.agg #[.string ⟨#[]⟩, .string ⟨#[]⟩]) 2 32 Tryz.underlying47 hi hz0 hz1 hz2 rfl (by decide) _ _ _ rfl (hrow.alloc _) ⟨W.heap.size, 0, none⟩ 1 1 kC rfl rfl (fun j u hj => by rw [add_zero_off]; exact (cell_of_row _ _ _ _ _ _ (heap_alloc_new W (.cells kC.toArray 137))).trans (by simpa using hj)) (by simp [kC, Value.oneCell']) (by omega) (by omega) (by have := hB.size; simp; omega) ?_; intro v' w1 hown' hgrow _; obtain ⟨g', cap', rfl⟩ := ownsRow_succ hown'; obtain ⟨hv1, hv2, hr2', hk2, hb2⟩ := hv.appended (by decide) hrow hB.size hle hown' hgrow; have hc1 := hv1.cell; have hf1 := hv1.frozen)
  exact ⟨hk2.from _, hk2.walks, ⟨⟨_, hv2, by rw [List.length_append, show ([x] : List Unit).length = 1 from rfl, rep_add, rep_one]; exact hr2', trivial⟩, hB.trans hb2⟩⟩
 case done =>
  rintro D ys W hD hS ⟨⟨v, hv, hrow, -⟩, hB⟩ hK
  have hc0 := hv.cell
  obtain ⟨A9, c9, rfl, -, -, -⟩ := own_rd hrow
  gi_wp2
  refine ⟨by simp, .inl ⟨_, _, rfl, run_takeDeferred hK, ?_⟩⟩
  exact ⟨_, results_tmp rfl _ _ _, .slice A9 ys.length c9, ys, rfl, hS, ownsRow_putObj hrow (.deferred none) hK rfl, hB.trans (belowK_b (w := w) (Nat.le_refl _) W D _ _ (by omega) hK rfl rfl)⟩
 case stop =>
  rintro D c pre W hD _ h _
  exact h.elim
theorem collect_k (g : Nat) (lb : Array Value) (eg : ∀ args w, (callFunc g args).run Tryz.prog w = .ok (.enter g args) w) (S Sp : List Unit → Prop) (w : World) (hseq : SeqStopsK Fence.wide 2 Tryz.prog g lb (fun _ : Unit => #[kA]) KeepsWalks S Sp 1 w) :
  CallsIn Fence.wide 4 Tryz.prog 104 #[.func (.func g) #[] lb] w (FGot S w) := by
 have HAP := zh (append_k g lb eg S Sp w hseq)
 unfold FGot at HAP ⊢
 clear hseq
 refine callsIn_of_wp Tryz.func104 rfl trivial ?_ rfl
 simp only [Tryz.ntmps104, List.size_toArray, List.length_cons, List.length_nil, Nat.reduceAdd, Nat.reduceSub, Array.replicate_succ, Array.replicate_zero, List.push_toArray, List.append_toArray, List.nil_append, List.cons_append]
 gi_wp2_with fail
 refine ⟨trivial, HAP.out.mono ?_⟩
 rintro e w1 ⟨v, xs, rfl, hS, hrow, hb⟩
 have HS := zh hS; have HR := zh hrow; have HB := zh hb
 clear hS hrow hb HAP
 gi_wp2
 go_ret
 exact ⟨v, xs, rfl, HS.out, HR.out, HB.out⟩
end Go.Proofs.YtjejmlpjifhmmaaGreatDoor.sto
namespace Go.Proofs.YtjejmlpjifhmmaaGreatDoor.sto
open Go.RowKit Go.MapKept Go.ChangeMaps Go.Shelf
open words kindp kind prg
set_option maxRecDepth 100000
set_option maxHeartbeats 8000000
set_option linter.all false
theorem ins0 (A : Option Addr) (c : Nat) (f : Value) (w : World) : Calls Tryz.prog 202 #[.slice A 0 c, .int .i64 0, .int .i64 0, f] w fun e w' => e = .returned (.tuple #[]) ∧ w' = w := by
 go_enter Tryz.func202, Tryz.ntmps202
 go_wp2
 go_loopw [8] (fun iv wr => iv = .int .i64 1 ∧ wr = w) (fun _ _ => 0)
 case atStart => exact ⟨rfl, rfl⟩
 case round =>
  obtain ⟨rfl, rfl⟩ := hrel
  go_wp2
  refine bodyPost_end (results_none rfl _ _ _) rfl ?_
  exact ⟨rfl, rfl⟩
theorem pdq0 (A : Option Addr) (c : Nat) (k : Int) (f : Value) (w : World) : Calls Tryz.prog 155 #[.slice A 0 c, .int .i64 0, .int .i64 0, .int .i64 k, f] w fun e w' => e = .returned (.tuple #[]) ∧ w' = w := by
 have HI := zh (ins0 A c f w)
 go_enter Tryz.func155, Tryz.ntmps155
 go_wp2_with fail
 (try go_step3)
 go_loopw [1, 2, 3, 10, 11] (fun a b l p q wr => a = .int .i64 0 ∧ b = .int .i64 0 ∧ l = .int .i64 k ∧ p = .bool true ∧ q = .bool true ∧ wr = w) (fun _ _ _ _ _ _ => 0)
 case atStart => exact ⟨rfl, rfl, rfl, rfl, rfl, rfl⟩
 case round =>
  obtain ⟨rfl, rfl, rfl, rfl, rfl, rfl⟩ := hrel
  go_wp2_with fail
  refine HI.out.mono ?_
  rintro e w1 ⟨rfl, rfl⟩
  go_wp2
  refine bodyPost_ret (v := .tuple #[]) (by simp [results, Tryz.results155]) rfl ?_
  exact ⟨rfl, rfl⟩
theorem len_t (w : World) (x : Int) (h0 : 0 ≤ x) (h1 : x ≤ 1) : Calls Tryz.prog 156 #[.int .u64 x] w fun e w' => (∃ k : Int, e = .returned (.int .i64 k)) ∧ w' = w := (Tryz.bits_Len x w h0 (by omega)).mono fun e w' h => ⟨⟨_, h.1⟩, h.2⟩
theorem srt0 (A : Option Addr) (c : Nat) (f : Value) (w : World) : Calls Tryz.prog 105 #[.slice A 0 c, f] w fun e w' => e = .returned (.tuple #[]) ∧ w' = w := by
 have HL := zh (len_t w 0 (by omega) (by omega))
 have HP := zh (fun k => pdq0 A c k f w)
 go_enter Tryz.func105, Tryz.ntmps105
 go_wp2_with fail
 refine HL.out.mono ?_
 rintro e w1 ⟨⟨k, rfl⟩, rfl⟩
 go_wp2_with fail
 refine (HP.out k).mono ?_
 rintro e w1 ⟨rfl, rfl⟩
 go_wp2
 refine bodyPost_end (results_none rfl _ _ _) rfl ?_
 exact ⟨rfl, rfl⟩
theorem sorted0 (g : Nat) (lb : Array Value) (eg : ∀ args w, (callFunc g args).run Tryz.prog w = .ok (.enter g args) w) (Sp : List Unit → Prop) (f : Value) (w : World) (hseq : SeqStopsK Fence.wide 2 Tryz.prog g lb (fun _ : Unit => #[kA]) KeepsWalks (fun xs => xs = []) Sp 1 w) :
  Calls Tryz.prog 67 #[.func (.func g) #[] lb, f] w fun e w' => (∃ A c, e = .returned (.slice A 0 c)) ∧ Below w.heap.size w w' := by
 have HC := zh (callsIn_wide.1 (collect_k g lb eg _ Sp w hseq))
 clear hseq
 go_enter Tryz.func67, Tryz.ntmps67
 go_wp2_with fail
 refine HC.out.mono ?_
 rintro e w1 ⟨v, xs, rfl, rfl, hown, hb⟩
 obtain ⟨A, c, rfl, -, -, -⟩ := own_rd hown
 have HB := zh hb
 have HS := zh (srt0 A c f w1)
 clear hown hb HC
 try simp only [List.length_cons, List.length_nil, Nat.zero_add]
 go_wp2_with fail
 refine HS.out.mono ?_
 rintro e w2 ⟨rfl, rfl⟩
 go_wp2
 go_ret
 exact ⟨⟨_, _, rfl⟩, HB.out⟩
theorem keysf (m : Option Nat) (w : World) : Calls Tryz.prog 68 #[.map m] w fun e w' => e = .returned (.func (.func 106) #[] #[.pointer (some ⟨w.heap.size, 0, none⟩)]) ∧ w' = w.alloc (.cells #[.map m] 74) := by
 go_enter Tryz.func68, Tryz.ntmps68
 go_wp2
 go_ret
 exact ⟨rfl, rfl⟩
end Go.Proofs.YtjejmlpjifhmmaaGreatDoor.sto
namespace Go.Proofs.YtjejmlpjifhmmaaGreatDoor.stp
open Go.RowKit Go.MapKept Go.ChangeMaps Go.Shelf
open words kindp kind prg sto
set_option maxRecDepth 100000
set_option maxHeartbeats 8000000
set_option linter.all false
attribute [local go_sem] Oper.semAt_some
def itN (mb : Nat) : Obj := .mapIter (some mb) 0 #[] 0
theorem range_no {w : World} {mb : Nat} (h : w.heap[mb]? = some mp0) : (Instr.range 74 (.map (some mb))).run Tryz.prog w = .ok (.pointer (some ⟨w.heap.size, 0, none⟩)) (w.alloc (itN mb)) :=
 run_range_map w _ _ _ mb _ _ Tryz.underlying74 h
theorem next_no {w : World} {mb r : Nat} (h : w.heap[mb]? = some mp0) (hr : w.heap[r]? = some (itN mb)) (ty : TypeId) : (Instr.next (.pointer (some ⟨r, 0, none⟩)) false ty).run Tryz.prog w = .ok (.tuple #[.bool false]) w := by
 unfold mp0 at h; unfold itN at hr
 simp [Instr.next, getObj, setObj, Sem.run, hr, h, Result.andThen, choose, Question.forced]
theorem keys_no (Bm mb : Nat) (w : World) (hm : w.cell? ⟨Bm, 0, none⟩ = some (.map (some mb))) (hmp : w.heap[mb]? = some mp0) :
  SeqStopsK Fence.wide 2 Tryz.prog 106 #[.pointer (some ⟨Bm, 0, none⟩)] (fun _ : Unit => #[kA]) KeepsWalks (fun xs => xs = []) (fun _ => True) 1 w := fun l J Jx W hW hJ _ hY h0 => by
 have hBm := World.block_lt_of_cell? _ _ hm
 have hm1 := (hW.cell (p := ⟨Bm, 0, none⟩) hBm).trans hm
 have hp1 := (hW.block _ (blk_lt hmp)).trans hmp
 have hrg := range_no hp1
 obtain ⟨W1, hW1⟩ : ∃ W1, W1 = W.alloc (itN mb) := ⟨_, rfl⟩
 have hr1 : W1.heap[W.heap.size]? = some (itN mb) := by rw [hW1]; exact heap_alloc_new _ _
 have hp2 : W1.heap[mb]? = some mp0 := by rw [hW1]; exact (Below.heap_alloc _ _ _ (blk_lt hp1)).trans hp1
 have hJ1 : J [] W1 := by rw [hW1]; exact hJ [] W _ none h0 (World.grownBy_alloc W _ none) (fun r e => by cases e)
 have hnx : ∀ ty, _ := fun ty => next_no hp2 hr1 ty
 rw [← hW1] at hrg
 have HJ := zh hJ1
 clear hY hr1 hp2 hp1 hmp hW1 hJ1 h0
 refine callsIn_of_wp Tryz.func106 rfl trivial ?_ rfl
 simp only [Tryz.ntmps106, List.size_toArray, List.length_cons, List.length_nil, Nat.reduceAdd, Nat.reduceSub, Array.replicate_succ, Array.replicate_zero, List.push_toArray, List.append_toArray, List.nil_append, List.cons_append]
 gi_wp2
 refine wpIn_loop_rounds 1 ?_
 rw [roundsIn_succ]
 gi_wp2
 go_end0
 exact ⟨⟨_, rfl⟩, .inl ⟨[], rfl, HJ.out⟩⟩
theorem statics_w (x : PrM) (w : World) (hk : PrOk w x) (hn : x.cs.length ≤ 70) (hf : ∀ c ∈ x.cs, c.fs = []) :
 Calls Tryz.prog 32 #[.agg (prC x).toArray] w fun e w' => (∃ A c g, e = .returned (.agg #[.slice A 0 c, .map (some g)]) ∧ w.heap.size ≤ g ∧ w'.heap[g]? = some mp0) ∧ Below w.heap.size w w' := by
 obtain ⟨cs, A1, p1, ns, A2, p2, ec, en, ed⟩ := x
 dsimp only at hn hf
 have hmm : ∀ (t : TypeId) (w : World), (Instr.makeMap t none).run Tryz.prog w = .ok (.map (some w.heap.size)) (w.alloc (.map #[] 0)) := fun t w => run_makeMap t w
 obtain ⟨W0, hW0⟩ : ∃ W0, W0 = w.alloc (.cells (prC ⟨cs, A1, p1, ns, A2, p2, ec, en, ed⟩).toArray 36) := ⟨_, rfl⟩
 obtain ⟨W1, hW1⟩ : ∃ W1, W1 = W0.alloc (.cells #[.slice none 0 0, .map none] 76) := ⟨_, rfl⟩
 obtain ⟨W, hW⟩ : ∃ W, W = W1.alloc (.map #[] 0) := ⟨_, rfl⟩
 have s0 : W0.heap.size = w.heap.size + 1 := by rw [hW0]; simp
 have s1 : W1.heap.size = w.heap.size + 1 + 1 := by rw [hW1, ← s0]; simp
 have s2 : W.heap.size = w.heap.size + 1 + 1 + 1 := by rw [hW, ← s1]; simp
 have l0 : Below w.heap.size w W0 := by rw [hW0]; exact (Below.refl _ _).alloc (Nat.le_refl _) _
 have l1 : Below W0.heap.size W0 W1 := by rw [hW1]; exact (Below.refl _ _).alloc (Nat.le_refl _) _
 have l2 : Below W1.heap.size W1 W := by rw [hW]; exact (Below.refl _ _).alloc (Nat.le_refl _) _
 have a0 : W.heap[w.heap.size]? = some (.cells (prC ⟨cs, A1, p1, ns, A2, p2, ec, en, ed⟩).toArray 36 (0, 0)) := (l2.block _ (by omega)).trans ((l1.block _ (by omega)).trans (by rw [hW0]; exact heap_alloc_new _ _))
 have a1 : W.heap[w.heap.size + 1]? = some (.cells #[.slice none 0 0, .map none] 76 (0, 0)) := (l2.block _ (by omega)).trans (by rw [← s0, hW1]; exact heap_alloc_new _ _)
 have a2 : W.heap[w.heap.size + 1 + 1]? = some mp0 := by rw [← s1, hW]; exact heap_alloc_new _ _
 have hal : Below w.heap.size w W := then' (then' l0 l1) l2
 have HAL := zh hal; have HP := zh a0; have HR := zh a1; have HM := zh a2; have HS := zh s2
 have HKW := zh (hk.below hal); have HF := zh hf
 obtain ⟨x0, x1, x2, x3, x4⟩ := pr_cells a0
 have W0z := zh s0; have W1z := zh s1
 obtain ⟨n, hnn⟩ : ∃ n, n = cs.length := ⟨_, rfl⟩
 rw [← hnn] at x0 hn
 have nI : (n : Int) ≤ 70 := by omega
 have HN := zh hnn
 unfold prC at hW0 ⊢
 try dsimp only at hW0 ⊢
 rw [← hnn] at hW0 ⊢
 have HW0 := zh hW0; have HW1 := zh hW1; have HW := zh hW
 have K0 := zh (Below.refl W.heap.size W)
 clear hW0 hW1 hW a0 a1 a2 hal l0 l1 l2 s0 s1 s2 hk hf hnn
 go_enter Tryz.func32, Tryz.ntmps32
 go_wp2_with fail
 try rw [← HW0.out]
 try rw [W0z.out]
 try rw [← HW1.out]
 try rw [← HW.out]
 go_wp2
 go_loopw [15] (fun i wr => ∃ k : Nat, i = .int .i64 (k : Int) ∧ k ≤ n ∧ Below W.heap.size W wr) (fun i _ => n - (intOf i).toNat)
 case atStart => exact ⟨0, rfl, Nat.zero_le _, Below.refl _ _⟩
 case round =>
  obtain ⟨k, rfl, hk, hbw⟩ := hrel
  obtain ⟨wa, hwa⟩ : ∃ v, v = wr := ⟨_, rfl⟩
  subst hwa
  clear x0 x1 x2 x3 x4
  by_cases hlt : k < n
  ·have hltI : (k : Int) < (n : Int) := by omega
   have dl : decide (k < n) = true := by simpa using hlt
   obtain ⟨y, hy⟩ : ∃ y, cs[k]? = some y := ⟨cs[k]'(by rw [← HN.out]; exact hlt), List.getElem?_eq_getElem _⟩
   have hfs := HF.out y (List.mem_of_getElem? hy)
   obtain ⟨x0, x1, x2, x3, x4⟩ := pr_cells ((hbw.block _ (by have := HS.out; omega)).trans HP.out)
   obtain ⟨a, ea, ha, c0, c1, c2, c3, c4, c5, c6⟩ := cl_at (HKW.out.1.2.below hbw) hy
   subst ea
   rw [hfs] at c5
   rw [List.length_nil] at c5
   have hax := hbw.alloc hbw.size (.cells (clC y).toArray 159)
   unfold clC at hax
   try dsimp only at hax
   rw [hfs] at hax
   rw [List.length_nil] at hax
   have HAX := zh hax
   have HFS := zh hfs; have HY := zh hy
   clear hfs hy hax hbw
   obtain ⟨wb, hwb⟩ : ∃ v, v = wa.alloc (.cells #[.string ⟨y.nm.toArray⟩, .string ⟨y.su.toArray⟩, .bool y.fc, .bool y.ab, .slice y.A1 y.is.length y.c1, .slice y.A2 0 y.c2, .slice y.A3 y.ms.length y.c3] 159) := ⟨_, rfl⟩
   rw [← hwb] at HAX
   have HWB := zh hwb
   clear hwb
   go_wp2
   rw [← HWB.out]
   go_loopw [22] (fun i wr => i = .int .i64 0 ∧ wr = wb) (fun _ _ => 0)
   case atStart => exact ⟨rfl, rfl⟩
   case round =>
    obtain ⟨rfl, hwr⟩ := hrel
    subst hwr
    go_wp2
    go_roundw
    case rel => exact ⟨k + 1, by go_num, by omega, HAX.out⟩
    case measure => simp [intOf]; omega
  ·have hltI : ¬ (k : Int) < (n : Int) := by omega
   have dl : decide (k < n) = false := by simpa using hlt
   obtain ⟨X, hX⟩ : ∃ X, X = wa.alloc (.cells #[.map (some (w.heap.size + 1 + 1))] 74) := ⟨_, rfl⟩
   have hx : Below wa.heap.size wa X := by rw [hX]; exact (Below.refl _ _).alloc (Nat.le_refl _) _
   have hxc : X.cell? ⟨wa.heap.size, 0, none⟩ = some (.map (some (w.heap.size + 1 + 1))) := by rw [hX]; exact cell_of_row _ _ 0 _ _ _ (heap_alloc_new _ _)
   have hm0 : X.heap[w.heap.size + 1 + 1]? = some mp0 := (hx.block _ (blk_lt ((hbw.block _ (blk_lt HM.out)).trans HM.out))).trans ((hbw.block _ (blk_lt HM.out)).trans HM.out)
   have HSO := zh (sorted0 _ _ (enters_of Tryz.func106 (by kernel_rfl) rfl) (fun _ => True) (.func (.func 69) #[] #[]) X (keys_no wa.heap.size _ X hxc hm0))
   have HBX := zh (then' HAL.out (show Below W.heap.size W X from hbw.trans (hx.mono hbw.size)))
   have HK := zh (keysf (some (w.heap.size + 1 + 1)) wa)
   have HX := zh hX; have HM0 := zh hm0
   have HSR := zh ((hx.block _ (blk_lt ((hbw.block _ (blk_lt HR.out)).trans HR.out))).trans ((hbw.block _ (blk_lt HR.out)).trans HR.out))
   clear hX hx hxc hm0 hbw
   go_wp2_with fail
   refine HK.out.mono ?_
   rintro e w1 ⟨rfl, hw1⟩
   rw [← HX.out] at hw1
   subst hw1
   go_wp2_with fail
   refine HSO.out.mono ?_
   rintro e w2 ⟨⟨A, c, rfl⟩, hb⟩
   have hs2 := (hb.block _ (blk_lt HSR.out)).trans HSR.out
   have z0 : w2.cell? ⟨w.heap.size + 1, 0, none⟩ = some (.slice none 0 0) := cell_of_row _ _ 0 _ _ _ hs2
   have z1 : w2.cell? ⟨w.heap.size + 1, 1, none⟩ = some (.map none) := cell_of_row _ _ 1 _ _ _ hs2
   have f0 := frozen_of_row _ _ 0 _ _ hs2
   have f1 := frozen_of_row _ _ 1 _ _ hs2
   have y2 := two_set hs2 (.slice A 0 c) (.map (some (w.heap.size + 1 + 1)))
   have hm2 := (hb.block _ (blk_lt HM0.out)).trans HM0.out
   have HE := zh (show (∃ A' c' g, (Value.agg #[.slice A 0 c, .map (some (w.heap.size + 1 + 1))]) = (.agg #[.slice A' 0 c', .map (some g)]) ∧ w.heap.size ≤ g ∧ ((w2.setCell ⟨w.heap.size + 1, 0, none⟩ (.slice A 0 c)).setCell ⟨w.heap.size + 1, 1, none⟩ (.map (some (w.heap.size + 1 + 1)))).heap[g]? = some mp0) ∧ Below w.heap.size w ((w2.setCell ⟨w.heap.size + 1, 0, none⟩ (.slice A 0 c)).setCell ⟨w.heap.size + 1, 1, none⟩ (.map (some (w.heap.size + 1 + 1)))) from
    ⟨⟨A, c, _, rfl, by omega, by rw [heap_setCell_other _ _ _ _ (by show w.heap.size + 1 + 1 ≠ w.heap.size + 1; omega), heap_setCell_other _ _ _ _ (by show w.heap.size + 1 + 1 ≠ w.heap.size + 1; omega)]; exact hm2⟩, ((then' HBX.out hb).setCell (by simp) _).setCell (by simp) _⟩)
   have Z0 := zh y2.1; have Z1 := zh y2.2.1
   clear hs2 hb y2 hm2 HSO HK
   go_wp2
   obtain ⟨⟨A', c', g, h1, h2, h3⟩, h4⟩ := HE.out
   exact bodyPost_ret (v := .agg #[.slice A 0 c, .map (some (w.heap.size + 1 + 1))]) (by simp [results, Tryz.results32, go_sem, Z0.out, Z1.out]) rfl ⟨⟨A', c', g, by rw [h1], h2, h3⟩, h4⟩
end Go.Proofs.YtjejmlpjifhmmaaGreatDoor.stp
namespace Go.Proofs.YtjejmlpjifhmmaaGreatDoor.stp
open Go.RowKit Go.MapKept Go.ChangeMaps Go.Shelf
open words kindp opp op kind prg sto
set_option maxRecDepth 100000
set_option maxHeartbeats 8000000
set_option linter.all false
theorem insP (A : Option Addr) (c : Nat) (f : Value) (w : World) : Calls Tryz.prog 195 #[.slice A 1 c, .int .i64 0, .int .i64 1, f] w fun e w' => e = .returned (.tuple #[]) ∧ w' = w := by
 go_enter Tryz.func195, Tryz.ntmps195
 go_wp2
 go_loopw [8] (fun iv wr => iv = .int .i64 1 ∧ wr = w) (fun _ _ => 0)
 case atStart => exact ⟨rfl, rfl⟩
 case round =>
  obtain ⟨rfl, rfl⟩ := hrel
  go_wp2
  refine bodyPost_end (results_none rfl _ _ _) rfl ?_
  exact ⟨rfl, rfl⟩
theorem staP (A : Option Addr) (c : Nat) (f : Value) (w : World) : Calls Tryz.prog 147 #[.slice A 1 c, .int .i64 1, f] w fun e w' => e = .returned (.tuple #[]) ∧ w' = w := by
 have HI := zh (insP A c f w)
 go_enter Tryz.func147, Tryz.ntmps147
 go_wp2
 refine wp_loop_rounds 1 ?_
 rw [rounds_succ]
 go_wp2_with fail
 refine HI.out.mono ?_
 rintro e w1 ⟨rfl, rfl⟩
 go_wp2
 refine wp_loop_rounds 1 ?_
 rw [rounds_succ]
 go_wp2
 refine bodyPost_end (results_none rfl _ _ _) rfl ?_
 exact ⟨rfl, rfl⟩
theorem ssfP (A : Option Addr) (c : Nat) (f : Value) (w : World) : Calls Tryz.prog 95 #[.slice A 1 c, f] w fun e w' => e = .returned (.tuple #[]) ∧ w' = w := by
 have HI := zh (staP A c f w)
 go_enter Tryz.func95, Tryz.ntmps95
 go_wp2_with fail
 refine HI.out.mono ?_
 rintro e w1 ⟨rfl, rfl⟩
 go_wp2
 refine bodyPost_end (results_none rfl _ _ _) rfl ?_
 exact ⟨rfl, rfl⟩
theorem cmfP (A : Option Addr) (c : Nat) (f : Value) (w : World) : Calls Tryz.prog 98 #[.slice A 1 c, f] w fun e w' => e = .returned (.slice A 1 c) ∧ w' = w := by
 go_enter Tryz.func98, Tryz.ntmps98
 go_wp2
 go_ret
 exact ⟨rfl, rfl⟩
theorem risP (A : Option Addr) (c : Nat) (w : World) : Calls Tryz.prog 55 #[.slice A 1 c] w fun e w' => e = .returned (.slice A 1 c) ∧ w' = w := by
 have H1 := zh (fun f => ssfP A c f w)
 have H2 := zh (fun f => cmfP A c f w)
 go_enter Tryz.func55, Tryz.ntmps55
 go_wp2_with fail
 refine (H1.out _).mono ?_
 rintro e w1 ⟨rfl, rfl⟩
 go_wp2_with fail
 refine (H2.out _).mono ?_
 rintro e w1 ⟨rfl, rfl⟩
 go_wp2
 go_ret
 exact ⟨rfl, rfl⟩
def so1 : InM := ⟨⟨26, 0, 0, 0, 0, [], [], [], []⟩, none, 0⟩
def so2 : InM := ⟨⟨27, 0, 0, 0, 0, [], [], [], []⟩, none, 0⟩
def so3 : InM := ⟨⟨2, 0, 0, 0, 2, [], [], [], []⟩, none, 0⟩
def so4 : InM := ⟨⟨22, 0, 0, 0, 0, [], [], [], []⟩, none, 0⟩
def soM (q : Nat) : MeM := ⟨[109], [40, 41, 73], true, false, 1, [so1, so2, so3, so4], some ⟨q, 0, none⟩, 4⟩
def soC (q p : Nat) : ClM := ⟨[65], [], false, false, [], none, 0, [], none, 0, [soM q], some ⟨p, 0, none⟩, 1⟩
def soP (q p r : Nat) : PrM := ⟨[soC q p], some ⟨r, 0, none⟩, 1, [], none, 0, [65], [109], [40, 41, 73]⟩
theorem some_w (w : World) : Calls Tryz.prog 26 #[] w fun e w' => (∃ q p r, e = .returned (.agg (prC (soP q p r)).toArray) ∧ PrOk w' (soP q p r)) ∧ Below w.heap.size w w' := by
 obtain ⟨W0, hW0⟩ : ∃ W, W = w.alloc (.cells #[.slice (some ⟨w.heap.size + 1 + 1 + 1, 0, none⟩) 1 1, .slice none 0 0, .string ⟨#[65]⟩, .string ⟨#[109]⟩, .string ⟨#[40, 41, 73]⟩] 36) := ⟨_, rfl⟩
 obtain ⟨W1, hW1⟩ : ∃ W, W = W0.alloc (.cells #[.int .i64 26, .int .i64 0, .int .i64 0, .int .i64 0, .int .i64 0, .string ⟨#[]⟩, .string ⟨#[]⟩, .string ⟨#[]⟩, .slice none 0 0, .int .i64 27, .int .i64 0, .int .i64 0, .int .i64 0, .int .i64 0, .string ⟨#[]⟩, .string ⟨#[]⟩, .string ⟨#[]⟩, .slice none 0 0, .int .i64 2, .int .i64 0, .int .i64 0, .int .i64 0, .int .i64 2, .string ⟨#[]⟩, .string ⟨#[]⟩, .string ⟨#[]⟩, .slice none 0 0, .int .i64 22, .int .i64 0, .int .i64 0, .int .i64 0, .int .i64 0, .string ⟨#[]⟩, .string ⟨#[]⟩, .string ⟨#[]⟩, .slice none 0 0] 153) := ⟨_, rfl⟩
 obtain ⟨W2, hW2⟩ : ∃ W, W = W1.alloc (.cells #[.string ⟨#[109]⟩, .string ⟨#[40, 41, 73]⟩, .bool true, .bool false, .int .i64 1, .slice (some ⟨w.heap.size + 1, 0, none⟩) 4 4] 155) := ⟨_, rfl⟩
 obtain ⟨W3, hW3⟩ : ∃ W, W = W2.alloc (.cells #[.string ⟨#[65]⟩, .string ⟨#[]⟩, .bool false, .bool false, .slice none 0 0, .slice none 0 0, .slice (some ⟨w.heap.size + 1 + 1, 0, none⟩) 1 1] 159) := ⟨_, rfl⟩
 have s0 : W0.heap.size = w.heap.size + 1 := by rw [hW0]; simp
 have s1 : W1.heap.size = w.heap.size + 1 + 1 := by rw [hW1, ← s0]; simp
 have s2 : W2.heap.size = w.heap.size + 1 + 1 + 1 := by rw [hW2, ← s1]; simp
 have l0 : Below w.heap.size w W0 := by rw [hW0]; exact (Below.refl _ _).alloc (Nat.le_refl _) _
 have l1 : Below W0.heap.size W0 W1 := by rw [hW1]; exact (Below.refl _ _).alloc (Nat.le_refl _) _
 have l2 : Below W1.heap.size W1 W2 := by rw [hW2]; exact (Below.refl _ _).alloc (Nat.le_refl _) _
 have l3 : Below W2.heap.size W2 W3 := by rw [hW3]; exact (Below.refl _ _).alloc (Nat.le_refl _) _
 have a0 : W3.heap[w.heap.size]? = some (.cells #[.slice (some ⟨w.heap.size + 1 + 1 + 1, 0, none⟩) 1 1, .slice none 0 0, .string ⟨#[65]⟩, .string ⟨#[109]⟩, .string ⟨#[40, 41, 73]⟩] 36 (0, 0)) := (l3.block _ (by omega)).trans ((l2.block _ (by omega)).trans ((l1.block _ (by omega)).trans (by rw [hW0]; exact heap_alloc_new _ _)))
 have a1 : W3.heap[w.heap.size + 1]? = some (.cells ([so1, so2, so3, so4].flatMap inC).toArray 153 (0, 0)) := (l3.block _ (by omega)).trans ((l2.block _ (by omega)).trans (by rw [← s0, hW1]; exact heap_alloc_new _ _))
 have a2 : W3.heap[w.heap.size + 1 + 1]? = some (.cells ([soM (w.heap.size + 1)].flatMap meC).toArray 155 (0, 0)) := (l3.block _ (by omega)).trans (by rw [← s1, hW2]; exact heap_alloc_new _ _)
 have a3 : W3.heap[w.heap.size + 1 + 1 + 1]? = some (.cells ([soC (w.heap.size + 1) (w.heap.size + 1 + 1)].flatMap clC).toArray 159 (0, 0)) := by rw [← s2, hW3]; exact heap_alloc_new _ _
 have hin : ∀ y ∈ [so1, so2, so3, so4], InOk W3 y := by
  intro y hy
  simp only [List.mem_cons, List.not_mem_nil, or_false] at hy
  rcases hy with rfl | rfl | rfl | rfl <;> exact ⟨Nat.le_refl _, Rd.nil _ _⟩
 have hok : PrOk W3 (soP (w.heap.size + 1) (w.heap.size + 1 + 1) (w.heap.size + 1 + 1 + 1)) :=
  ⟨⟨Nat.le_refl _, rd_blk a3 (k := 7) rfl⟩, ⟨Nat.le_refl _, Rd.nil _ _⟩, fun y hy => by
   rcases List.mem_singleton.1 hy with rfl
   exact ⟨⟨Nat.le_refl _, Rd.nil _ _⟩, ⟨Nat.le_refl _, Rd.nil _ _⟩, ⟨Nat.le_refl _, rd_blk a2 (k := 6) rfl⟩, fun z hz => by
    rcases List.mem_singleton.1 hz with rfl
    exact ⟨Nat.le_refl _, rd_blk a1 (k := 36) rfl, hin⟩⟩⟩
 have z0 : W3.cell? ⟨w.heap.size, 0, none⟩ = _ := cell_of_row _ _ 0 _ _ _ a0
 have z1 : W3.cell? ⟨w.heap.size, 1, none⟩ = _ := cell_of_row _ _ 1 _ _ _ a0
 have z2 : W3.cell? ⟨w.heap.size, 2, none⟩ = _ := cell_of_row _ _ 2 _ _ _ a0
 have z3 : W3.cell? ⟨w.heap.size, 3, none⟩ = _ := cell_of_row _ _ 3 _ _ _ a0
 have z4 : W3.cell? ⟨w.heap.size, 4, none⟩ = _ := cell_of_row _ _ 4 _ _ _ a0
 have HE := zh (show (∃ q p r, Ending.returned (.agg #[.slice (some ⟨w.heap.size + 1 + 1 + 1, 0, none⟩) 1 1, .slice none 0 0, .string ⟨#[65]⟩, .string ⟨#[109]⟩, .string ⟨#[40, 41, 73]⟩]) = .returned (.agg (prC (soP q p r)).toArray) ∧ PrOk W3 (soP q p r)) ∧ Below w.heap.size w W3 from ⟨⟨_, _, _, rfl, hok⟩, then' (then' (then' l0 l1) l2) l3⟩)
 have Z0 := zh z0; have Z1 := zh z1; have Z2 := zh z2; have Z3 := zh z3; have Z4 := zh z4
 have HW0 := zh hW0; have HW1 := zh hW1; have HW2 := zh hW2; have HW3 := zh hW3
 clear z0 z1 z2 z3 z4 hok hin a0 a1 a2 a3 l0 l1 l2 l3 s0 s1 s2 hW0 hW1 hW2 hW3
 go_enter Tryz.func26, Tryz.ntmps26
 go_wp2
 rw [← HW0.out, ← HW1.out, ← HW2.out, ← HW3.out]
 exact bodyPost_ret (v := .agg #[.slice (some ⟨w.heap.size + 1 + 1 + 1, 0, none⟩) 1 1, .slice none 0 0, .string ⟨#[65]⟩, .string ⟨#[109]⟩, .string ⟨#[40, 41, 73]⟩]) (by simp [results, Tryz.results26, go_sem, Z0.out, Z1.out, Z2.out, Z3.out, Z4.out]) rfl HE.out
end Go.Proofs.YtjejmlpjifhmmaaGreatDoor.stp
namespace Go.Proofs.YtjejmlpjifhmmaaGreatDoor.stp
open Go.RowKit Go.MapKept Go.ChangeMaps Go.Shelf
open words kindp opp op kind prg sto
set_option maxRecDepth 100000
set_option maxHeartbeats 8000000
set_option linter.all false
def IdP (w : World) (e : Ending) (w' : World) : Prop := (∃ A1 c1 A2 c2 u1 u2 u3 u4, e = .returned (.agg #[.slice A1 1 c1, .slice none 0 0, .slice A2 1 c2]) ∧ Rd w' A1 [.string u1, .string u2] ∧ Rd w' A2 [.string u3, .string u4]) ∧ Below w.heap.size w w'
theorem ident_w (q p r : Nat) (w : World) (hk : PrOk w (soP q p r)) : Calls Tryz.prog 27 #[.agg (prC (soP q p r)).toArray] w (IdP w) := by
 obtain ⟨i0, hi0, hz0, hz1, hz2⟩ := info_parts info_pair
 obtain ⟨W0, hW0⟩ : ∃ W0, W0 = w.alloc (.cells #[.slice (some ⟨r, 0, none⟩) 1 1, .slice none 0 0, .string ⟨#[65]⟩, .string ⟨#[109]⟩, .string ⟨#[40, 41, 73]⟩] 36) := ⟨_, rfl⟩
 obtain ⟨W1, hW1⟩ : ∃ W1, W1 = W0.alloc (.cells #[.slice none 0 0, .slice none 0 0, .slice none 0 0] 38) := ⟨_, rfl⟩
 obtain ⟨W, hW⟩ : ∃ W, W = W1.alloc (.cells #[.slice none 0 0, .slice none 0 0, .slice none 0 0] 38) := ⟨_, rfl⟩
 have s0 : W0.heap.size = w.heap.size + 1 := by rw [hW0]; simp
 have s1 : W1.heap.size = w.heap.size + 1 + 1 := by rw [hW1, ← s0]; simp
 have s2 : W.heap.size = w.heap.size + 1 + 1 + 1 := by rw [hW, ← s1]; simp
 have l0 : Below w.heap.size w W0 := by rw [hW0]; exact (Below.refl _ _).alloc (Nat.le_refl _) _
 have l1 : Below W0.heap.size W0 W1 := by rw [hW1]; exact (Below.refl _ _).alloc (Nat.le_refl _) _
 have l2 : Below W1.heap.size W1 W := by rw [hW]; exact (Below.refl _ _).alloc (Nat.le_refl _) _
 have a0 : W.heap[w.heap.size]? = some (.cells (prC (soP q p r)).toArray 36 (0, 0)) := (l2.block _ (by omega)).trans ((l1.block _ (by omega)).trans (by rw [hW0]; exact heap_alloc_new _ _))
 have a1 : W.heap[w.heap.size + 1]? = some (.cells #[.slice none 0 0, .slice none 0 0, .slice none 0 0] 38 (0, 0)) := (l2.block _ (by omega)).trans (by rw [← s0, hW1]; exact heap_alloc_new _ _)
 have a2 : W.heap[w.heap.size + 1 + 1]? = some (.cells #[.slice none 0 0, .slice none 0 0, .slice none 0 0] 38 (0, 0)) := by rw [← s1, hW]; exact heap_alloc_new _ _
 have hal : Below w.heap.size w W := then' (then' l0 l1) l2
 have HX := zh (show ∀ v : World, Below W.heap.size W v → v.cell? ⟨w.heap.size, 0, none⟩ = some (.slice (some ⟨r, 0, none⟩) 1 1) ∧ v.cell? ⟨w.heap.size, 1, none⟩ = some (.slice none 0 0) ∧ v.cell? ⟨w.heap.size, 2, none⟩ = some (.string ⟨#[65]⟩) ∧ v.cell? ⟨w.heap.size, 3, none⟩ = some (.string ⟨#[109]⟩) ∧ v.cell? ⟨w.heap.size, 4, none⟩ = some (.string ⟨#[40, 41, 73]⟩) from fun v hv => pr_cells ((hv.block _ (by omega)).trans a0))
 obtain ⟨a, ea, ha, c0, c1, c2, c3, c4, c5, c6⟩ := cl_at (i := 0) (x := soC q p) hk.1.2 rfl
 cases ea
 obtain ⟨a', ea', ha', d0, d1, d2, d3, d4, d5⟩ := me_at (i := 0) (x := soM q) (hk.2.2 _ (List.mem_singleton.2 rfl)).2.2.1.2 rfl
 cases ea'
 have HC := zh (show ∀ v : World, Below w.heap.size w v → v.cell? ⟨r, 0, none⟩ = some (.string ⟨#[65]⟩) ∧ v.cell? ⟨r, 1, none⟩ = some (.string ⟨#[]⟩) ∧ v.cell? ⟨r, 2, none⟩ = some (.bool false) ∧ v.cell? ⟨r, 3, none⟩ = some (.bool false) ∧ v.cell? ⟨r, 4, none⟩ = some (.slice none 0 0) ∧ v.cell? ⟨r, 5, none⟩ = some (.slice none 0 0) ∧ v.cell? ⟨r, 6, none⟩ = some (.slice (some ⟨p, 0, none⟩) 1 1) from fun v hv => ⟨(hv.cell (p := ⟨r, 0, none⟩) ha).trans c0, (hv.cell (p := ⟨r, 1, none⟩) ha).trans c1, (hv.cell (p := ⟨r, 2, none⟩) ha).trans c2, (hv.cell (p := ⟨r, 3, none⟩) ha).trans c3, (hv.cell (p := ⟨r, 4, none⟩) ha).trans c4, (hv.cell (p := ⟨r, 5, none⟩) ha).trans c5, (hv.cell (p := ⟨r, 6, none⟩) ha).trans c6⟩)
 have HD := zh (show ∀ v : World, Below w.heap.size w v → v.cell? ⟨p, 0, none⟩ = some (.string ⟨#[109]⟩) ∧ v.cell? ⟨p, 1, none⟩ = some (.string ⟨#[40, 41, 73]⟩) ∧ v.cell? ⟨p, 2, none⟩ = some (.bool true) ∧ v.cell? ⟨p, 3, none⟩ = some (.bool false) ∧ v.cell? ⟨p, 4, none⟩ = some (.int .i64 1) ∧ v.cell? ⟨p, 5, none⟩ = some (.slice (some ⟨q, 0, none⟩) 4 4) from fun v hv => ⟨(hv.cell (p := ⟨p, 0, none⟩) ha').trans d0, (hv.cell (p := ⟨p, 1, none⟩) ha').trans d1, (hv.cell (p := ⟨p, 2, none⟩) ha').trans d2, (hv.cell (p := ⟨p, 3, none⟩) ha').trans d3, (hv.cell (p := ⟨p, 4, none⟩) ha').trans d4, (hv.cell (p := ⟨p, 5, none⟩) ha').trans d5⟩)
 clear c0 c1 c2 c3 c4 c5 c6 d0 d1 d2 d3 d4 d5 ha ha' hk l0 l1 l2
 have HAL := zh hal; have HR := zh a1; have HM := zh a2; have HS := zh s2; have HP := zh a0
 have W0z := zh s0; have W1z := zh s1
 obtain ⟨c0, c1, c2, c3, c4, c5, c6⟩ := HC.out W HAL.out
 obtain ⟨x0, x1, x2, x3, x4⟩ := HX.out W (Below.refl _ _)
 show Calls Tryz.prog 27 #[.agg #[.slice (some ⟨r, 0, none⟩) 1 1, .slice none 0 0, .string ⟨#[65]⟩, .string ⟨#[109]⟩, .string ⟨#[40, 41, 73]⟩]] w (IdP w)
 have HW0 := zh hW0; have HW1 := zh hW1; have HW := zh hW
 clear hW0 hW1 hW a0 a1 a2 s0 s1 s2 hal
 go_enter Tryz.func27, Tryz.ntmps27
 go_wp2_with fail
 rw [← HW0.out]
 try rw [W0z.out]
 rw [← HW1.out]
 try rw [W1z.out]
 rw [← HW.out]
 go_wp2
 clear x0 x1 x2 x3 x4
 obtain ⟨W3, hW3⟩ : ∃ W3, W3 = W.alloc (.cells #[.string ⟨#[65]⟩, .string ⟨#[]⟩, .bool false, .bool false, .slice none 0 0, .slice none 0 0, .slice (some ⟨p, 0, none⟩) 1 1] 159) := ⟨_, rfl⟩
 obtain ⟨W4, hW4⟩ : ∃ W4, W4 = W3.alloc (.cells #[.string ⟨#[65]⟩, .string ⟨#[65]⟩] 70) := ⟨_, rfl⟩
 have l3 : Below W.heap.size W W3 := by rw [hW3]; exact (Below.refl _ _).alloc (Nat.le_refl _) _
 have l4 : Below W3.heap.size W3 W4 := by rw [hW4]; exact (Below.refl _ _).alloc (Nat.le_refl _) _
 have s3 : W3.heap.size = W.heap.size + 1 := by rw [hW3]; simp
 have s4 : W4.heap.size = W3.heap.size + 1 := by rw [hW4]; simp
 have n3 := (l3.block _ (blk_lt HM.out)).trans HM.out
 have n4 := (l4.block _ (blk_lt n3)).trans n3
 have nn4 : W4.heap[W3.heap.size]? = some (.cells #[.string ⟨#[65]⟩, .string ⟨#[65]⟩] 70 (0, 0)) := by rw [hW4]; exact heap_alloc_new _ _
 have k4 : W4.heap[W.heap.size]? = some (.cells #[.string ⟨#[65]⟩, .string ⟨#[]⟩, .bool false, .bool false, .slice none 0 0, .slice none 0 0, .slice (some ⟨p, 0, none⟩) 1 1] 159 (0, 0)) := (l4.block _ (by omega)).trans (by rw [hW3]; exact heap_alloc_new _ _)
 have b4 : Below W.heap.size W W4 := then' l3 l4
 have m0 : W3.cell? ⟨w.heap.size + 1 + 1, 0, none⟩ = some (.slice none 0 0) := cell_of_row _ _ 0 _ _ _ n3
 rw [hW3] at m0
 have N4 := zh n4; have K4 := zh k4; have B4 := zh b4; have R4 := zh (show Rd ((W.alloc (.cells #[.string ⟨#[65]⟩, .string ⟨#[]⟩, .bool false, .bool false, .slice none 0 0, .slice none 0 0, .slice (some ⟨p, 0, none⟩) 1 1] 159)).alloc (.cells #[.string ⟨#[65]⟩, .string ⟨#[65]⟩] 70)) (some ⟨W.heap.size + 1, 0, none⟩) [.string ⟨#[65]⟩, .string ⟨#[65]⟩] from by rw [← hW3, ← hW4, ← s3]; exact rd_blk nn4 (k := 2) rfl)
 have S3 := zh s3; have S4 := zh s4
 have HW3 := zh hW3; have HW4 := zh hW4
 clear hW3 hW4 l3 l4 s3 s4 n3 n4 nn4 k4 b4
 refine wp_loop_rounds 2 ?_
 rw [rounds_succ]
 go_wp2_with (at_builtin; refine wpList_app _ rfl (.tmp 16) (.tmp 22) _ rfl (W.heap.size + 1 + 1) 70 i0 _ 2 32 Tryz.underlying27 hi0 hz0 hz1 hz2 rfl (by omega) _ 0 [] rfl (World.ownsRow_nil _ _ _ _) (some ⟨W.heap.size + 1, 0, none⟩) 1 1 [.string ⟨#[65]⟩, .string ⟨#[65]⟩] rfl rfl R4.out (by intro u hu; simp at hu; rcases hu with rfl | rfl <;> rfl) (by decide) (by decide) (by simp) ?_; intro v5 w5 hown5 hg5 hb5 hat5; obtain ⟨A5, d5, rfl, -, -, rd5⟩ := own_rd hown5; rw [← HW3.out, ← HW4.out] at hb5; replace hb5 : Below W4.heap.size W4 w5 := (by rw [S4.out, S3.out]; exact hb5); have n5 := (hb5.block _ (blk_lt N4.out)).trans N4.out; have k5 := (hb5.block _ (blk_lt K4.out)).trans K4.out; have q6 : w5.cell? ⟨W.heap.size, 6, none⟩ = some (.slice (some ⟨p, 0, none⟩) 1 1) := cell_of_row _ _ 6 _ _ _ k5; have q0 : w5.cell? ⟨w.heap.size + 1 + 1, 0, none⟩ = some (.slice none 0 0) := cell_of_row _ _ 0 _ _ _ n5; have f0 := frozen_of_row _ _ 0 _ _ n5; have ne1 : ¬ W.heap.size = w.heap.size + 1 + 1 := (by rw [HS.out]; omega); have ne2 : ¬ w.heap.size + 1 + 1 = W.heap.size := (by rw [HS.out]; omega); have N5 := zh n5; have B5 := zh hb5; have R5 := zh rd5; have R5b := zh (show ∀ a, A5 = some a → W4.heap.size ≤ a.block from (fun a ha => (by have h := (hown5.lt a.block (by rw [ha]; rfl)).1; rw [S4.out, S3.out]; exact h))); clear n5 hb5 rd5 hown5 hg5 hat5 k5)
 obtain ⟨V, hV⟩ : ∃ V, V = w5.setCell ⟨w.heap.size + 1 + 1, 0, none⟩ (.slice A5 1 d5) := ⟨_, rfl⟩
 have nV : V.heap[w.heap.size + 1 + 1]? = some (.cells #[.slice A5 1 d5, .slice none 0 0, .slice none 0 0] 38 (0, 0)) := by rw [hV, heap_setCell_same _ _ _ _ _ _ N5.out]; rfl
 have sV : V.heap.size = w5.heap.size := by rw [hV]; simp
 have bV : Below w.heap.size w V := by rw [hV]; exact ((HAL.out.trans (B4.out.mono HAL.out.size)).trans (B5.out.mono (Nat.le_trans HAL.out.size B4.out.size))).setCell (by show w.heap.size ≤ w.heap.size + 1 + 1; omega) _
 have oV : ∀ k, k ≠ w.heap.size + 1 + 1 → V.heap[k]? = w5.heap[k]? := fun k hk => by rw [hV]; exact heap_setCell_other _ _ _ _ hk
 have rV : Rd V A5 [.string ⟨#[65]⟩, .string ⟨#[65]⟩] := by
  have h0 : w.heap.size + 1 + 1 < W4.heap.size := blk_lt N4.out
  exact Kp.rd (S := [w.heap.size + 1 + 1]) (by rw [hV]; exact (Kp.refl _ _).set (by simp) _) R5.out (fun a ha => by have := R5b.out a ha; simp; omega)
 have pV : V.heap[w.heap.size + 1]? = some (.cells #[.slice none 0 0, .slice none 0 0, .slice none 0 0] 38 (0, 0)) := (oV _ (by omega)).trans ((B5.out.block _ (by have := blk_lt N4.out; omega)).trans ((B4.out.block _ (blk_lt HR.out)).trans HR.out))
 obtain ⟨V6, hV6⟩ : ∃ W3, W3 = V.alloc (.cells #[.string ⟨#[109]⟩, .string ⟨#[40, 41, 73]⟩, .bool true, .bool false, .int .i64 1, .slice (some ⟨q, 0, none⟩) 4 4] 155) := ⟨_, rfl⟩
 obtain ⟨V7, hV7⟩ : ∃ W4, W4 = V6.alloc (.cells #[.string ((⟨#[109]⟩ : ByteArray) ++ ⟨#[40, 41, 73]⟩), .string ⟨#[109]⟩] 70) := ⟨_, rfl⟩
 have l6 : Below V.heap.size V V6 := by rw [hV6]; exact (Below.refl _ _).alloc (Nat.le_refl _) _
 have l7 : Below V6.heap.size V6 V7 := by rw [hV7]; exact (Below.refl _ _).alloc (Nat.le_refl _) _
 have s6 : V6.heap.size = V.heap.size + 1 := by rw [hV6]; simp
 have s7 : V7.heap.size = V6.heap.size + 1 := by rw [hV7]; simp
 have b7 : Below V.heap.size V V7 := then' l6 l7
 have n6 := (l6.block _ (blk_lt nV)).trans nV
 have n7 := (l7.block _ (blk_lt n6)).trans n6
 have m2 : V6.cell? ⟨w.heap.size + 1 + 1, 2, none⟩ = some (.slice none 0 0) := cell_of_row _ _ 2 _ _ _ n6
 rw [hV6] at m2
 have nn7 : V7.heap[V6.heap.size]? = some (.cells #[.string ((⟨#[109]⟩ : ByteArray) ++ ⟨#[40, 41, 73]⟩), .string ⟨#[109]⟩] 70 (0, 0)) := by rw [hV7]; exact heap_alloc_new _ _
 have R7 := zh (show Rd ((V.alloc (.cells #[.string ⟨#[109]⟩, .string ⟨#[40, 41, 73]⟩, .bool true, .bool false, .int .i64 1, .slice (some ⟨q, 0, none⟩) 4 4] 155)).alloc (.cells #[.string ((⟨#[109]⟩ : ByteArray) ++ ⟨#[40, 41, 73]⟩), .string ⟨#[109]⟩] 70)) (some ⟨V.heap.size + 1, 0, none⟩) [.string ((⟨#[109]⟩ : ByteArray) ++ ⟨#[40, 41, 73]⟩), .string ⟨#[109]⟩] from by rw [← hV6, ← hV7, ← s6]; exact rd_blk nn7 (k := 2) rfl)
 obtain ⟨d0, d1, d2, d3, d4, d5c⟩ := HD.out V bV
 have BV := zh bV; have RV := zh rV; have PV := zh pV; have N7 := zh n7; have B7 := zh b7; have S6 := zh s6; have S7 := zh s7
 have HV6 := zh hV6; have HV7 := zh hV7; have HV := zh hV
 clear nV sV bV oV rV pV hV hV6 hV7 l6 l7 s6 s7 b7 n6 n7 nn7 c0 c1 c2 c3 c4 c5 c6 m0 q6 q0 f0 ne1 ne2
 rw [← HV.out]
 refine wp_loop_rounds 2 ?_
 rw [rounds_succ]
 go_wp2_with (at_builtin; refine wpList_app _ rfl (.tmp 33) (.tmp 42) _ rfl (V.heap.size + 1 + 1) 70 i0 _ 2 32 Tryz.underlying27 hi0 hz0 hz1 hz2 rfl (by omega) _ 0 [] rfl (World.ownsRow_nil _ _ _ _) (some ⟨V.heap.size + 1, 0, none⟩) 1 1 [.string ((⟨#[109]⟩ : ByteArray) ++ ⟨#[40, 41, 73]⟩), .string ⟨#[109]⟩] rfl rfl R7.out (by intro u hu; simp at hu; rcases hu with rfl | rfl <;> rfl) (by decide) (by decide) (by simp) ?_; intro v8 w8 hown8 hg8 hb8 hat8; obtain ⟨A8, d8, rfl, -, -, rd8⟩ := own_rd hown8; rw [← HV6.out, ← HV7.out] at hb8; replace hb8 : Below V7.heap.size V7 w8 := (by rw [S7.out, S6.out]; exact hb8); have n8 := (hb8.block _ (blk_lt N7.out)).trans N7.out; have q2 : w8.cell? ⟨w.heap.size + 1 + 1, 2, none⟩ = some (.slice none 0 0) := cell_of_row _ _ 2 _ _ _ n8; have f2 := frozen_of_row _ _ 2 _ _ n8; have N8 := zh n8; have B8 := zh hb8; have R8 := zh rd8; have O8 := zh hown8.lt; clear n8 hb8 rd8 hown8 hg8 hat8)
 rw [rounds_succ]
 go_wp2
 rw [rounds_succ]
 go_wp2_with fail
 obtain ⟨U, hU⟩ : ∃ U, U = w8.setCell ⟨w.heap.size + 1 + 1, 2, none⟩ (.slice A8 1 d8) := ⟨_, rfl⟩
 have nU : U.heap[w.heap.size + 1 + 1]? = some (.cells #[.slice A5 1 d5, .slice none 0 0, .slice A8 1 d8] 38 (0, 0)) := by rw [hU, heap_setCell_same _ _ _ _ _ _ N8.out]; rfl
 have b8 : Below V.heap.size V w8 := then' B7.out B8.out
 have bU : Below w.heap.size w U := by rw [hU]; exact (BV.out.trans (b8.mono BV.out.size)).setCell (by show w.heap.size ≤ w.heap.size + 1 + 1; omega) _
 have kU : Kp [w.heap.size + 1 + 1] V U := by rw [hU]; exact ((Kp.below b8).set (by simp) _)
 have r5 : Rd U A5 [.string ⟨#[65]⟩, .string ⟨#[65]⟩] := kU.rd RV.out (fun a ha => by have := R5b.out a ha; have := blk_lt N4.out; simp; omega)
 have r8 : Rd U A8 [.string ((⟨#[109]⟩ : ByteArray) ++ ⟨#[40, 41, 73]⟩), .string ⟨#[109]⟩] := Kp.rd (S := [w.heap.size + 1 + 1]) (by rw [hU]; exact (Kp.refl _ _).set (by simp) _) R8.out (fun a ha => by have h1 := (O8.out a.block (by rw [ha]; rfl)).1; have h2 := blk_lt PV.out; simp; omega)
 have pU : U.heap[w.heap.size + 1]? = some (.cells #[.slice none 0 0, .slice none 0 0, .slice none 0 0] 38 (0, 0)) := kU.at_ PV.out (by simp)
 have NU := zh nU; have BU := zh bU; have RU5 := zh r5; have RU8 := zh r8; have PU := zh pU; have HU := zh hU
 clear nU b8 bU kU r5 r8 pU hU m2 d0 d1 d2 d3 d4 d5c q2 f2
 rw [← HU.out]
 refine wp_region_held_drew (S := fun w' : World => w'.cell? ⟨w.heap.size + 1 + 1, 0, none⟩ = some (.slice A5 1 d5) ∧ w'.cell? ⟨w.heap.size + 1 + 1, 2, none⟩ = some (.slice A8 1 d8)) (by kernel_rfl) ?_ (fun hHeld => ?_)
 ·exact ⟨cell_of_row _ _ 0 _ _ _ NU.out, cell_of_row _ _ 2 _ _ _ NU.out⟩
 obtain ⟨D, hD⟩ : ∃ u, u = U.drew := ⟨_, rfl⟩
 have nD : D.heap[w.heap.size + 1 + 1]? = some (.cells #[.slice A5 1 d5, .slice none 0 0, .slice A8 1 d8] 38 (0, 0)) := by rw [hD]; exact NU.out
 have bD : Below w.heap.size w D := by rw [hD]; exact ⟨BU.out.os, BU.out.tape, BU.out.output, BU.out.size, BU.out.block⟩
 have r5 : Rd D A5 [.string ⟨#[65]⟩, .string ⟨#[65]⟩] := by rw [hD]; exact RU5.out
 have r8 : Rd D A8 [.string ((⟨#[109]⟩ : ByteArray) ++ ⟨#[40, 41, 73]⟩), .string ⟨#[109]⟩] := by rw [hD]; exact RU8.out
 have pD : D.heap[w.heap.size + 1]? = some (.cells #[.slice none 0 0, .slice none 0 0, .slice none 0 0] 38 (0, 0)) := by rw [hD]; exact PU.out
 rw [← hD]
 have hS : D.cell? ⟨w.heap.size + 1 + 1, 0, none⟩ = some (.slice A5 1 d5) ∧ D.cell? ⟨w.heap.size + 1 + 1, 2, none⟩ = some (.slice A8 1 d8) := ⟨cell_of_row _ _ 0 _ _ _ nD, cell_of_row _ _ 2 _ _ _ nD⟩
 have HSD := zh hS
 have z0 := heap_setCell_same _ _ 0 _ _ (.slice A5 1 d5) pD
 have z1 := heap_setCell_same _ _ 1 _ _ (.slice none 0 0) z0
 have z2 := heap_setCell_same _ _ 2 _ _ (.slice A8 1 d8) z1
 have e0 : D.cell? ⟨w.heap.size + 1, 0, none⟩ = some (.slice none 0 0) := cell_of_row _ _ 0 _ _ _ pD
 have e1 : D.cell? ⟨w.heap.size + 1, 1, none⟩ = some (.slice none 0 0) := cell_of_row _ _ 1 _ _ _ pD
 have e2 : D.cell? ⟨w.heap.size + 1, 2, none⟩ = some (.slice none 0 0) := cell_of_row _ _ 2 _ _ _ pD
 have g0 := frozen_of_row _ _ 0 _ _ pD
 have g1 := frozen_of_row _ _ 1 _ _ pD
 have g2 := frozen_of_row _ _ 2 _ _ pD
 obtain ⟨Z, hZ⟩ : ∃ Z, Z = ((D.setCell ⟨w.heap.size + 1, 0, none⟩ (.slice A5 1 d5)).setCell ⟨w.heap.size + 1, 1, none⟩ (.slice none 0 0)).setCell ⟨w.heap.size + 1, 2, none⟩ (.slice A8 1 d8) := ⟨_, rfl⟩
 have kZ : Kp [w.heap.size + 1] D Z := by rw [hZ]; exact (((Kp.refl _ _).set (by simp) _).set (by simp) _).set (by simp) _
 have nZ := kZ.at_ nD (by simp)
 have pZ : Z.heap[w.heap.size + 1]? = some (.cells #[.slice A5 1 d5, .slice none 0 0, .slice A8 1 d8] 38 (0, 0)) := by rw [hZ, z2]; rfl
 have zlt : w.heap.size ≤ D.heap.size := bD.size
 have SZ := zh (show Z.cell? ⟨w.heap.size + 1 + 1, 0, none⟩ = some (.slice A5 1 d5) ∧ Z.cell? ⟨w.heap.size + 1 + 1, 2, none⟩ = some (.slice A8 1 d8) from ⟨cell_of_row _ _ 0 _ _ _ nZ, cell_of_row _ _ 2 _ _ _ nZ⟩)
 have HE := zh (show IdP w (.returned (.agg #[.slice A5 1 d5, .slice none 0 0, .slice A8 1 d8])) Z from ⟨⟨A5, d5, A8, d8, _, _, _, _, rfl, kZ.rd r5 (fun a ha => by have := R5b.out a ha; have := blk_lt N4.out; simp; omega), kZ.rd r8 (fun a ha => by have h1 := (O8.out a.block (by rw [ha]; rfl)).1; have h2 := blk_lt PV.out; simp; omega)⟩, bD.trans (kZ.toBelow zlt (by simp))⟩)
 have Z0 := zh (show Z.cell? ⟨w.heap.size + 1, 0, none⟩ = some (.slice A5 1 d5) from cell_of_row _ _ 0 _ _ _ pZ)
 have Z1 := zh (show Z.cell? ⟨w.heap.size + 1, 1, none⟩ = some (.slice none 0 0) from cell_of_row _ _ 1 _ _ _ pZ)
 have Z2 := zh (show Z.cell? ⟨w.heap.size + 1, 2, none⟩ = some (.slice A8 1 d8) from cell_of_row _ _ 2 _ _ _ pZ)
 have HZ := zh hZ
 clear hD nD bD r5 r8 pD z0 z1 z2 hZ kZ nZ pZ zlt
 refine tkp 0 rfl ?_
 refine tkp 1 rfl ?_
 refine tkp 3 rfl ?_
 refine tkp 4 rfl ?_
 refine rdy 2 rfl (fun K hK => ?_)
 go_simp
 refine (risP _ _ _).mono ?_
 rintro e v ⟨rfl, rfl⟩
 (try go_wp2_with fail)
 refine hK.out _ _ HSD.out (fun hHeld => ?_)
 clear hK K
 try simp only [puts]
 refine rdy 5 rfl (fun K hK => ?_)
 go_simp
 refine (risP _ _ _).mono ?_
 rintro e v ⟨rfl, rfl⟩
 (try go_wp2_with fail)
 refine hK.out _ _ HSD.out (fun hHeld => ?_)
 clear hK K
 try simp only [puts]
 refine tkp 6 rfl ?_
 refine rdy 7 rfl (fun K hK => ?_)
 go_simp
 rw [← HZ.out]
 refine hK.out _ _ SZ.out (fun hHeld => ?_)
 clear hK K
 try simp only [puts]
 refine wpAnyH_done (by kernel_rfl) ?_ _
 clear hS e0 e1 e2 g0 g1 g2
 go_wp2
 exact bodyPost_ret (v := .agg #[.slice A5 1 d5, .slice none 0 0, .slice A8 1 d8]) (by simp [results, Tryz.results27, go_sem, Z0.out, Z1.out, Z2.out]) rfl HE.out
end Go.Proofs.YtjejmlpjifhmmaaGreatDoor.stp
namespace Go.Proofs.YtjejmlpjifhmmaaGreatDoor.stp
open Go.RowKit Go.MapKept Go.ChangeMaps Go.Shelf
open words kindp opp op kind prg sto
set_option maxRecDepth 100000
set_option linter.all false
structure MS where
 x : PrM
 nc : Value
 nm : Value
 inp : Value
 tk : Int
 ob : Value
 sf : Value
 sm : Value
 fr : Value
 st : Int
 cd : Int
 tr : Int
 sp : Int
 ev : Value
 em : Value
 er : Value
 bm : Value
 br : Value
def msC (m : MS) : List Value := [.slice m.x.A1 m.x.cs.length m.x.c1, .slice m.x.A2 m.x.ns.length m.x.c2, .string ⟨m.x.ec.toArray⟩, .string ⟨m.x.en.toArray⟩, .string ⟨m.x.ed.toArray⟩,
 m.nc, .slice none 0 0, m.nm, m.inp, .int .i64 m.tk, m.ob, .slice none 0 0, .slice none 0 0, m.sf, m.sm, m.fr, .int .i64 m.st, .int .i64 m.cd, .int .i64 m.tr, .int .i64 m.sp,
 .slice none 0 0, .slice none 0 0, .slice none 0 0, .slice none 0 0, .slice none 0 0, .slice none 0 0, .slice none 0 0,
 m.ev, m.em, m.er, .map none, .slice none 0 0, .map none, .slice none 0 0, m.bm, m.br, .map none, .slice none 0 0, .map none, .slice none 0 0]
def Mk (mb : Nat) (m : MS) (w : World) : Prop := w.heap[mb]? = some (.cells (msC m).toArray 109 (0, 0))
structure FS where
 cn : Tx
 s : Tx
 d : Tx
 A : Option Addr
 n : Nat
 c : Nat
 pc : Int
 sz : Int
 vm : Nat
 an : Int
 to : Int
def fsC (f : FS) : List Value := [.string ⟨f.cn.toArray⟩, .string ⟨f.s.toArray⟩, .string ⟨f.d.toArray⟩, .slice f.A f.n f.c, .int .i64 f.pc, .int .i64 f.sz, .map (some f.vm), .int .i64 f.an, .int .i64 f.to]
def Fk (fb : Nat) (f : FS) (w : World) : Prop := w.heap[fb]? = some (.cells (fsC f).toArray 117 (0, 0))
def kv : Value := .int .i64 0
def ov0 : Obj := .map #[] 0
def ov1 (k n : Int) : Obj := .map #[{ key := kv, val := .agg #[.int .i64 k, .int .i64 n], born := 0 }] 1
section
variable {w : World} {b : Nat}
theorem ky_tv (w : World) : (Instr.checkKey true 10000 3 kv).run Tryz.prog w = .ok () w := by kernel_rfl
theorem ky_fv (w : World) : (Instr.checkKey false 10000 3 kv).run Tryz.prog w = .ok () w := by kernel_rfl
theorem fd_nv (w : World) : (Instr.findKey 3 kv []).run Tryz.prog w = .ok none w := by kernel_rfl
theorem fd_ov (w : World) (v : Value) : (Instr.findKey 3 kv [{ key := kv, val := v, born := 0 }]).run Tryz.prog w = .ok (some (0, v)) w := by kernel_rfl
theorem ks_v (w : World) : (Instr.keyThatStays kv kv).run Tryz.prog w = .ok kv w := by kernel_rfl
theorem lk1_ov {k n : Int} (h : w.heap[b]? = some (ov1 k n)) : (Instr.lookup 114 (.map (some b)) kv false).run Tryz.prog w = .ok (.agg #[.int .i64 k, .int .i64 n]) w := by
 simp [Instr.lookup, run_underlying Tryz.underlying114, MapKept.run_getObj_map h, ky_tv, ky_fv, fd_ov, Result.andThen]
theorem pt_nv {k n : Int} (h : w.heap[b]? = some ov0) : (Instr.mapUpdate 114 (.map (some b)) kv (.agg #[.int .i64 k, .int .i64 n])).run Tryz.prog w = .ok () (setBlock w b (ov1 k n)) := by
 simp [Instr.mapUpdate, run_underlying Tryz.underlying114, MapKept.run_getObj_map h, MapKept.run_setObj_map _ h, ky_tv, ky_fv, fd_nv, Result.andThen, setBlock, ov1]
end
def ke : Value := .agg #[.string ⟨#[65]⟩, .string ⟨#[109]⟩, .string ⟨#[40, 41, 73]⟩]
def oe0 : Obj := .map #[] 0
def oe1  : Obj := .map #[{ key := ke, val := .int .i64 0, born := 0 }] 1
section
variable {w : World} {b : Nat}
theorem ky_te (w : World) : (Instr.checkKey true 10000 34 ke).run Tryz.prog w = .ok () w := by kernel_rfl
theorem ky_fe (w : World) : (Instr.checkKey false 10000 34 ke).run Tryz.prog w = .ok () w := by kernel_rfl
theorem fd_ne (w : World) : (Instr.findKey 34 ke []).run Tryz.prog w = .ok none w := by kernel_rfl
theorem fd_oe (w : World) (v : Value) : (Instr.findKey 34 ke [{ key := ke, val := v, born := 0 }]).run Tryz.prog w = .ok (some (0, v)) w := by kernel_rfl
theorem zr_e (w : World) : (zeroValue 3).run Tryz.prog w = .ok (.int .i64 0) w := by kernel_rfl
theorem lk2_ne (h : w.heap[b]? = some oe0) : (Instr.lookup 81 (.map (some b)) ke true).run Tryz.prog w = .ok (.tuple #[.int .i64 0, .bool false]) w := by
 simp [Instr.lookup, run_underlying Tryz.underlying81, MapKept.run_getObj_map h, ky_te, ky_fe, fd_ne, zr_e, Result.andThen]
theorem lk1_oe (h : w.heap[b]? = some (oe1 )) : (Instr.lookup 81 (.map (some b)) ke false).run Tryz.prog w = .ok (.int .i64 0) w := by
 simp [Instr.lookup, run_underlying Tryz.underlying81, MapKept.run_getObj_map h, ky_te, ky_fe, fd_oe, Result.andThen]
theorem pt_ne (h : w.heap[b]? = some oe0) : (Instr.mapUpdate 81 (.map (some b)) ke (.int .i64 0)).run Tryz.prog w = .ok () (setBlock w b (oe1 )) := by
 simp [Instr.mapUpdate, run_underlying Tryz.underlying81, MapKept.run_getObj_map h, MapKept.run_setObj_map _ h, ky_te, ky_fe, fd_ne, Result.andThen, setBlock, oe1]
end
def kb : Value := .string ⟨#[65]⟩
def ob0 : Obj := .map #[] 0
def ob1  : Obj := .map #[{ key := kb, val := .int .i64 0, born := 0 }] 1
section
variable {w : World} {b : Nat}
theorem ky_tb (w : World) : (Instr.checkKey true 10000 9 kb).run Tryz.prog w = .ok () w := by kernel_rfl
theorem ky_fb (w : World) : (Instr.checkKey false 10000 9 kb).run Tryz.prog w = .ok () w := by kernel_rfl
theorem fd_nb (w : World) : (Instr.findKey 9 kb []).run Tryz.prog w = .ok none w := by kernel_rfl
theorem fd_ob (w : World) (v : Value) : (Instr.findKey 9 kb [{ key := kb, val := v, born := 0 }]).run Tryz.prog w = .ok (some (0, v)) w := by kernel_rfl
theorem zr_b (w : World) : (zeroValue 3).run Tryz.prog w = .ok (.int .i64 0) w := by kernel_rfl
theorem lk2_nb (h : w.heap[b]? = some ob0) : (Instr.lookup 96 (.map (some b)) kb true).run Tryz.prog w = .ok (.tuple #[.int .i64 0, .bool false]) w := by
 simp [Instr.lookup, run_underlying Tryz.underlying96, MapKept.run_getObj_map h, ky_tb, ky_fb, fd_nb, zr_b, Result.andThen]
theorem lk1_ob (h : w.heap[b]? = some (ob1 )) : (Instr.lookup 96 (.map (some b)) kb false).run Tryz.prog w = .ok (.int .i64 0) w := by
 simp [Instr.lookup, run_underlying Tryz.underlying96, MapKept.run_getObj_map h, ky_tb, ky_fb, fd_ob, Result.andThen]
theorem pt_nb (h : w.heap[b]? = some ob0) : (Instr.mapUpdate 96 (.map (some b)) kb (.int .i64 0)).run Tryz.prog w = .ok () (setBlock w b (ob1 )) := by
 simp [Instr.mapUpdate, run_underlying Tryz.underlying96, MapKept.run_getObj_map h, MapKept.run_setObj_map _ h, ky_tb, ky_fb, fd_nb, Result.andThen, setBlock, ob1]
end
theorem pt_ov {k n k2 n2 : Int} {w : World} {b : Nat} (h : w.heap[b]? = some (ov1 k n)) : (Instr.mapUpdate 114 (.map (some b)) kv (.agg #[.int .i64 k2, .int .i64 n2])).run Tryz.prog w = .ok () (setBlock w b (ov1 k2 n2)) := by
 simp [Instr.mapUpdate, run_underlying Tryz.underlying114, MapKept.run_getObj_map h, MapKept.run_setObj_map _ h, ky_fv, ky_tv, fd_ov, ks_v, Result.andThen, setBlock, ov1]
theorem lk2_zb (w : World) : (Instr.lookup 96 (.map none) kb true).run Tryz.prog w = .ok (.tuple #[.int .i64 0, .bool false]) w := by
 simp [Instr.lookup, run_underlying Tryz.underlying96, ky_tb, ky_fb, fd_nb, zr_b, Result.andThen]
theorem setB_at {w : World} {b : Nat} {o : Obj} (h : b < w.heap.size) : (setBlock w b o).heap[b]? = some o := by simp [setBlock, h]
theorem setB_off {w : World} {b k : Nat} {o : Obj} (h : k ≠ b) : (setBlock w b o).heap[k]? = w.heap[k]? := by simp [setBlock, Ne.symm h]
theorem setB_size {w : World} {b : Nat} {o : Obj} : (setBlock w b o).heap.size = w.heap.size := by simp [setBlock]
theorem Kp.setB {S : List Nat} {w w1 : World} (h : Kp S w w1) {b : Nat} (hb : b ∈ S) (o : Obj) : Kp S w (setBlock w1 b o) :=
 h.trans ⟨rfl, rfl, rfl, by rw [setB_size]; exact Nat.le_refl _, fun k _ hn => setB_off (fun e => hn (e ▸ hb))⟩
end Go.Proofs.YtjejmlpjifhmmaaGreatDoor.stp

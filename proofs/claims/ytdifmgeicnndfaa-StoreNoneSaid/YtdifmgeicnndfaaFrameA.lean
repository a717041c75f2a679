/- FrameA -/
import Derived.RangeFuncNested
import Derived.RangeFuncBox
import Derived.RangeFuncKeeps
import Derived.RangeFuncGives
import Derived.OwnWalkIn
import Derived.TacticsInMore
import Derived.LoopIn
import Derived.LoopNIn
import Derived.Laws.IdiomRangeMap
import Derived.WalkKit
import Derived.Shelf.RegionOpen
import Derived.Test.YtdifmgeicnndfaaStoK
import Derived.Test.YtdifmgeicnndfaaKind
import Derived.ChangeMaps5
import Derived.Test.YtdifmgeicnndfaaProg
import Derived.Lib.Hide
import Derived.Deep.QuietTactic
import Derived.BigQuiet
import Derived.SliceStrings
import Derived.Test.YtdifmgeicnndfaaRows
import Derived.Test.YtdifmgeicnndfaaHier
import Derived.ProofKit
import Derived.Deep.DeepHandedRow
import Derived.Lib.LaidTab
import Derived.Lib.SmallJoins
import Derived.Deep.Fields
namespace Go.Proofs.Ytdifmgeicnndfaa.sto
open Go.RowKit Go.MapKept Go.ChangeMaps Go.Shelf
open words kindp kind prg
set_option maxRecDepth 100000
set_option maxHeartbeats 4000000
set_option linter.all false
attribute [local go_sem] Oper.semAt_some
def it0 (mb : Nat) : Obj := .mapIter (some mb) 1 #[] 1
def it1 (mb : Nat) : Obj := .mapIter (some mb) 1 #[0] 1
theorem range_one {w : World} {mb : Nat} {x : Int} (h : w.heap[mb]? = some (mp1 x)) : (Instr.range 128 (.map (some mb))).run Try.prog w = .ok (.pointer (some ⟨w.heap.size, 0, none⟩)) (w.alloc (it0 mb)) :=
 run_range_map w _ _ _ mb _ _ Try.underlying128 h
theorem next_one {w : World} {mb r : Nat} {x : Int} (h : w.heap[mb]? = some (mp1 x)) (hr : w.heap[r]? = some (it0 mb)) (ty : TypeId) : (Instr.next (.pointer (some ⟨r, 0, none⟩)) false ty).run Try.prog w = .ok (.tuple #[.bool true, kA, vA x]) (setBlock w r (it1 mb)) := by
 unfold mp1 at h; unfold it0 at hr
 simp [Instr.next, getObj, setObj, Sem.run, hr, h, Result.andThen, choose, setBlock, it1, Question.forced]
theorem next_over {w : World} {mb r : Nat} {x : Int} (h : w.heap[mb]? = some (mp1 x)) (hr : w.heap[r]? = some (it1 mb)) (ty : TypeId) : (Instr.next (.pointer (some ⟨r, 0, none⟩)) false ty).run Try.prog w = .ok (.tuple #[.bool false]) w := by
 unfold mp1 at h; unfold it1 at hr
 simp [Instr.next, getObj, setObj, Sem.run, hr, h, Result.andThen, choose, Question.forced]
theorem entry_one {w : World} {mb r : Nat} {x : Int} (h : w.heap[mb]? = some (mp1 x)) (hr : w.heap[r]? = some (it1 mb)) : (Instr.entry (.pointer (some ⟨r, 0, none⟩))).run Try.prog w = .ok (.tuple #[kA, vA x]) w := by
 unfold mp1 at h; unfold it1 at hr
 simp [Instr.entry, getObj, Sem.run, hr, h, Result.andThen]
theorem keys_one (Bm mb : Nat) (x : Int) (w : World) (hm : w.cell? ⟨Bm, 0, none⟩ = some (.map (some mb))) (hmp : w.heap[mb]? = some (mp1 x)) :
  SeqStopsK Fence.wide 2 Try.prog 100 #[.pointer (some ⟨Bm, 0, none⟩)] (fun _ : Unit => #[kA]) KeepsWalks (fun xs => xs = [()]) (fun _ => True) 1 w := fun l J Jx W hW hJ _ hY h0 => by
 have hBm := World.block_lt_of_cell? _ _ hm
 have hm1 := (hW.cell (p := ⟨Bm, 0, none⟩) hBm).trans hm
 have hp1 := (hW.block _ (blk_lt hmp)).trans hmp
 have hmlt := blk_lt hp1
 have hrg := range_one hp1
 obtain ⟨W1, hW1⟩ : ∃ W1, W1 = W.alloc (it0 mb) := ⟨_, rfl⟩
 have hr1 : W1.heap[W.heap.size]? = some (it0 mb) := by rw [hW1]; exact heap_alloc_new _ _
 have hp2 : W1.heap[mb]? = some (mp1 x) := by rw [hW1]; exact (Below.heap_alloc _ _ _ hmlt).trans hp1
 have hJ1 : J [] W1 := by rw [hW1]; exact hJ [] W _ none h0 (World.grownBy_alloc W _ none) (fun r e => by cases e)
 obtain ⟨W2, hW2⟩ : ∃ W2, W2 = setBlock W1 W.heap.size (it1 mb) := ⟨_, rfl⟩
 have hr2 : W2.heap[W.heap.size]? = some (it1 mb) := by rw [hW2]; exact set_at (blk_lt hr1)
 have hp3 : W2.heap[mb]? = some (mp1 x) := by rw [hW2, set_off (by omega)]; exact hp2
 have hg2 : W1.grownBy W2 (some W.heap.size) := ⟨by rw [hW2]; rfl, by rw [hW2]; rfl, by rw [hW2]; rfl, by rw [hW2, set_size]; exact Nat.le_refl _, fun k _ hk => by rw [hW2]; exact set_off (fun e => hk (by rw [e]))⟩
 have hJ2 : J [] W2 := hJ [] W1 _ _ hJ1 hg2 (fun r e => by cases e; exact ⟨Nat.le_refl _, _, hr1, rfl⟩)
 obtain ⟨W3, hW3⟩ : ∃ W3, W3 = W2.alloc (.cells #[.string ⟨#[65]⟩, .string ⟨#[102]⟩] 67) := ⟨_, rfl⟩
 have hr3 : W3.heap[W.heap.size]? = some (it1 mb) := by rw [hW3]; exact (Below.heap_alloc _ _ _ (blk_lt hr2)).trans hr2
 have hp4 : W3.heap[mb]? = some (mp1 x) := by rw [hW3]; exact (Below.heap_alloc _ _ _ (blk_lt hp3)).trans hp3
 have hJ3 : J [] W3 := by rw [hW3]; exact hJ [] W2 _ none hJ2 (World.grownBy_alloc W2 _ none) (fun r e => by cases e)
 have hn1 := fun ty => next_one hp2 hr1 ty
 have he1 := entry_one hp3 hr2
 rw [← hW2] at hn1
 rw [← hW1] at hrg
 obtain ⟨fn, tmps, assign, body, hy, hR⟩ := hY [] () W3 hJ3 (by simp)
 have R3 := zh hr3; have P4 := zh hp4; have HW3 := zh hW3
 unfold kA vA at hn1 he1
 unfold kA at hy
 rw [hW3] at hy
 clear hr3 hp4 hJ3 hJ2 hg2 hr2 hp3 hW2 hJ1 hp2 hr1 hW1 hp1 hmlt hBm hm hmp h0 hY hW3
 refine callsIn_of_wp Try.func100 rfl trivial ?_ rfl
 simp only [Try.ntmps100, List.size_toArray, List.length_cons, List.length_nil, Nat.reduceAdd, Nat.reduceSub, Array.replicate_succ, Array.replicate_zero, List.push_toArray, List.append_toArray, List.nil_append, List.cons_append]
 gi_wp2
 refine wpIn_loop_rounds 2 ?_
 rw [roundsIn_succ]
 gi_wp2
 rw [← HW3.out]
 refine hR.mono ?_
 rintro e W4 (⟨rfl, hJ4, hk4⟩ | ⟨rfl, hJx⟩)
 ·have hn2 := fun ty => next_over (hk4.same _ _ P4.out rfl) (hk4.same _ _ R3.out rfl) ty
  clear hn1 he1 hrg hy hR hk4
  gi_wp2
  rw [roundsIn_succ]
  gi_wp2
  go_end0
  exact ⟨⟨_, rfl⟩, .inl ⟨_, rfl, hJ4⟩⟩
 ·clear hn1 he1 hrg hy hR
  gi_wp2
  refine bodyPost_ret (results_none rfl _ _ _) rfl ?_
  exact ⟨⟨_, rfl⟩, .inr ⟨_, trivial, hJx⟩⟩
end Go.Proofs.Ytdifmgeicnndfaa.sto
namespace Go.Proofs.Ytdifmgeicnndfaa.sto
open Go.RowKit Go.MapKept Go.ChangeMaps Go.Shelf
open words kindp kind prg
set_option maxRecDepth 100000
set_option maxHeartbeats 8000000
set_option linter.all false
attribute [local go_sem] Oper.semAt_some
theorem keys_none (Bm : Nat) (w : World) (hm : w.cell? ⟨Bm, 0, none⟩ = some (.map none)) :
  SeqStopsK Fence.wide 2 Try.prog 100 #[.pointer (some ⟨Bm, 0, none⟩)] (fun _ : Unit => #[kA]) KeepsWalks (fun xs => xs = []) (fun _ => True) 1 w := fun l J Jx W hW hJ _ hY h0 => by
 have hBm := World.block_lt_of_cell? _ _ hm
 have hm1 := (hW.cell (p := ⟨Bm, 0, none⟩) hBm).trans hm
 have hrg := run_range_nilMap (P := Try.prog) W 128 _ _ Try.underlying128
 have hnx : ∀ ty, (Instr.next (.pointer (some ⟨W.heap.size, 0, none⟩)) false ty).run Try.prog (W.alloc (.mapIter none 0 #[] 0)) = _ := fun ty => run_next_nilMap _ ty 0 0 #[]
 clear hY
 refine callsIn_of_wp Try.func100 rfl trivial ?_ rfl
 simp only [Try.ntmps100, List.size_toArray, List.length_cons, List.length_nil, Nat.reduceAdd, Nat.reduceSub, Array.replicate_succ, Array.replicate_zero, List.push_toArray, List.append_toArray, List.nil_append, List.cons_append]
 gi_wp2
 refine wpIn_loop_rounds 1 ?_
 rw [roundsIn_succ]
 gi_wp2
 go_end0
 exact ⟨⟨_, rfl⟩, .inl ⟨[], rfl, hJ [] W _ none h0 (World.grownBy_alloc W _ none) (fun r e => by cases e)⟩⟩
def kC : List Value := [.string ⟨#[65]⟩, .string ⟨#[102]⟩]
def FHeld (w : World) (pre : List Unit) (W : World) : Prop :=
 (∃ v, Boxed W w.heap.size 81 v ∧ W.ownsRow w.heap.size 67 2 v pre.length (rep kC pre.length) ∧ True) ∧ Below w.heap.size w W
theorem fheld_own (w : World) (B : Nat) (hB : w.heap.size ≤ B) : OwnFrom B (FHeld w) :=
 OwnFrom.and (Own.from (holdsRow_own w.heap.size w.heap.size 81 67 2 (fun pre : List Unit => pre.length) (fun pre => rep kC pre.length) (fun _ _ => True)) _) (ownFrom_below (Nat.le_refl _) hB)
def FGot (S : List Unit → Prop) (w : World) (e : Ending) (w' : World) : Prop :=
 ∃ v xs, e = .returned v ∧ S xs ∧ w'.ownsRow w.heap.size 67 2 v xs.length (rep kC xs.length) ∧ Below w.heap.size w w'
theorem infoF : (Try.prog.info? 67).map (fun i => (i.zero, i.size, i.bytes)) = some (some (.agg #[.string ⟨#[]⟩, .string ⟨#[]⟩]), 2, 32) := by kernel_rfl
def FAx (w : World) (g : Nat) (lb : Array Value) (_ : Unit) (a' : Act) (W : World) : Prop := ∃ Bx, w.heap.size < Bx ∧ W.heap[Bx]? = some (.cells kC.toArray 67 (0, 0)) ∧
 a' = { tmps := #[.slice none 0 0, .func (.func g) #[] lb, .pointer (some ⟨w.heap.size, 0, none⟩), undef, .slice none 0 0, .pointer (some ⟨Bx, 0, none⟩), .func (.func g) #[] lb, .agg #[.string ⟨#[65]⟩, .string ⟨#[102]⟩], undef, undef, undef, undef, undef], defers := [] }
theorem append_k (g : Nat) (lb : Array Value) (eg : ∀ args w, (callFunc g args).run Try.prog w = .ok (.enter g args) w) (S Sp : List Unit → Prop) (w : World) (hseq : SeqStopsK Fence.wide 2 Try.prog g lb (fun _ : Unit => #[kA]) KeepsWalks S Sp 1 w) :
  CallsIn Fence.wide 3 Try.prog 135 #[.slice none 0 0, .func (.func g) #[] lb] w (FGot S w) := by
 obtain ⟨i0, hi, hz0, hz1, hz2⟩ := info_parts infoF
 have HSQ := zh hseq
 clear hseq
 refine callsIn_of_wp_marks Try.func135 rfl trivial ?_ rfl
 simp only [Try.ntmps135, List.size_toArray, List.length_cons, List.length_nil, Nat.reduceAdd, Nat.reduceSub, Array.replicate_succ, Array.replicate_zero, List.push_toArray, List.append_toArray, List.nil_append, List.cons_append]
 gi_wp2
 have hW0 : ∃ W0, w.alloc (.cells #[.slice none 0 0] 81) = W0 := ⟨_, rfl⟩
 have b1 := Boxed.new w 81 (.slice none 0 0)
 have hBel : Below w.heap.size w (w.alloc (.cells #[.slice none 0 0] 81)) := (Below.refl _ w).alloc (Nat.le_refl _) _
 have hsz : (w.alloc (.cells #[.slice none 0 0] 81)).heap.size = w.heap.size + 1 := by simp
 have hHeld : FHeld w [] (w.alloc (.cells #[.slice none 0 0] 81)) := ⟨⟨_, b1, World.ownsRow_nil _ _ _ _, trivial⟩, hBel⟩
 clear b1
 obtain ⟨W0, hW0⟩ := hW0
 try simp only [World.size_alloc]
 rw [hW0] at hBel hsz hHeld ⊢
 clear hW0
 refine wpIn_rangeFunc_ownH rfl (by omega) (gf := g) (lb := lb) rfl trivial eg
  HSQ.out (fun h k => h.trans k) (fun W l o o' hl h h1 h2 => KeepsWalks.putObj o' h h2) hBel (fun _ => rfl)
  (FHeld w) (fun _ _ _ => False) (fheld_own w _ (by omega)) (fun _ _ _ _ _ hs _ _ => hs) hHeld
  (FAx w g lb)
  (fun x a' _ X Y row hs hg hr => by
    obtain ⟨Bx, e1, e2, e3⟩ := hs
    exact ⟨Bx, e1, (hg.block Bx (blk_lt e2) (fun e => by obtain ⟨-, o, ho, hc⟩ := hr _ e.symm; rw [e2] at ho; cases ho; cases hc)).trans e2, e3⟩)
  ?assign ?body ?done ?stop
 case assign =>
  rintro l pre x W K ⟨⟨v, hv, hrow, -⟩, hB⟩ hK
  unfold kA
  gi_wp2
  refine hK _ _ ((KeepsOthers.alloc _ _).from _) (KeepsOthers.alloc _ _).walks ⟨⟨v, hv.alloc _, hrow.alloc _, trivial⟩, hB.alloc hB.size _⟩ ⟨W.heap.size, by have := hv.lt; omega, heap_alloc_new W _, rfl⟩
 case body =>
  rintro l pre x a' W hl _ ⟨⟨v, hv, hrow, -⟩, hB⟩ ⟨Bx, hBx, bX, rfl⟩ hlt
  have hc0 := hv.cell
  have k0 : W.cell? ⟨Bx, 0, none⟩ = some (.string ⟨#[65]⟩) := cell_of_row _ _ 0 _ _ _ bX
  have k1 : W.cell? ⟨Bx, 1, none⟩ = some (.string ⟨#[102]⟩) := cell_of_row _ _ 1 _ _ _ bX
  have hle : w.heap.size ≤ w.heap.size := Nat.le_refl _
  have hmx1 : pre.length + 1 ≤ maxLen := by unfold maxLen; omega
  gi_wp2_with (gi_at_builtin; refine wpListIn_append_own _ rfl _ _ 81 rfl w.heap.size 67 i0 (.agg #[.string ⟨#[]⟩, .string ⟨#[]⟩]) 2 32 Try.underlying81 hi hz0 hz1 hz2 rfl (by decide) _ _ _ rfl (hrow.alloc _) ⟨W.heap.size, 0, none⟩ 1 1 kC rfl rfl (fun j u hj => by rw [add_zero_off]; exact (cell_of_row _ _ _ _ _ _ (heap_alloc_new W (.cells kC.toArray 67))).trans (by simpa using hj)) (by simp [kC, Value.oneCell']) (by omega) (by omega) (by have := hB.size; simp; omega) ?_; intro v' w1 hown' hgrow _; obtain ⟨g', cap', rfl⟩ := ownsRow_succ hown'; obtain ⟨hv1, hv2, hr2', hk2, hb2⟩ := hv.appended (by decide) hrow hB.size hle hown' hgrow; have hc1 := hv1.cell; have hf1 := hv1.frozen)
  exact ⟨hk2.from _, hk2.walks, ⟨⟨_, hv2, by rw [List.length_append, show ([x] : List Unit).length = 1 from rfl, rep_add, rep_one]; exact hr2', trivial⟩, hB.trans hb2⟩⟩
 case done =>
  rintro D ys W hD hS ⟨⟨v, hv, hrow, -⟩, hB⟩ hK
  have hc0 := hv.cell
  obtain ⟨A9, c9, rfl, -, -, -⟩ := own_rd hrow
  gi_wp2
  refine ⟨by simp, .inl ⟨_, _, rfl, run_takeDeferred hK, ?_⟩⟩
  exact ⟨_, results_tmp rfl _ _ _, .slice A9 ys.length c9, ys, rfl, hS, ownsRow_putObj hrow (.deferred none) hK rfl, hB.trans (belowK_b (w := w) (Nat.le_refl _) W D _ _ (by omega) hK rfl rfl)⟩
 case stop =>
  rintro D c pre W hD _ h _
  exact h.elim
theorem collect_k (g : Nat) (lb : Array Value) (eg : ∀ args w, (callFunc g args).run Try.prog w = .ok (.enter g args) w) (S Sp : List Unit → Prop) (w : World) (hseq : SeqStopsK Fence.wide 2 Try.prog g lb (fun _ : Unit => #[kA]) KeepsWalks S Sp 1 w) :
  CallsIn Fence.wide 4 Try.prog 98 #[.func (.func g) #[] lb] w (FGot S w) := by
 have HAP := zh (append_k g lb eg S Sp w hseq)
 unfold FGot at HAP ⊢
 clear hseq
 refine callsIn_of_wp Try.func98 rfl trivial ?_ rfl
 simp only [Try.ntmps98, List.size_toArray, List.length_cons, List.length_nil, Nat.reduceAdd, Nat.reduceSub, Array.replicate_succ, Array.replicate_zero, List.push_toArray, List.append_toArray, List.nil_append, List.cons_append]
 gi_wp2_with fail
 refine ⟨trivial, HAP.out.mono ?_⟩
 rintro e w1 ⟨v, xs, rfl, hS, hrow, hb⟩
 have HS := zh hS; have HR := zh hrow; have HB := zh hb
 clear hS hrow hb HAP
 gi_wp2
 go_ret
 exact ⟨v, xs, rfl, HS.out, HR.out, HB.out⟩
end Go.Proofs.Ytdifmgeicnndfaa.sto
namespace Go.Proofs.Ytdifmgeicnndfaa.sto
open Go.RowKit Go.MapKept Go.ChangeMaps Go.Shelf
open words kindp kind prg
set_option maxRecDepth 100000
set_option maxHeartbeats 8000000
set_option linter.all false
theorem ins0 (A : Option Addr) (c : Nat) (f : Value) (w : World) : Calls Try.prog 149 #[.slice A 0 c, .int .i64 0, .int .i64 0, f] w fun e w' => e = .returned (.tuple #[]) ∧ w' = w := by
 go_enter Try.func149, Try.ntmps149
 go_wp2
 go_loopw [8] (fun iv wr => iv = .int .i64 1 ∧ wr = w) (fun _ _ => 0)
 case atStart => exact ⟨rfl, rfl⟩
 case round =>
  obtain ⟨rfl, rfl⟩ := hrel
  go_wp2
  refine bodyPost_end (results_none rfl _ _ _) rfl ?_
  exact ⟨rfl, rfl⟩
theorem pdq0 (A : Option Addr) (c : Nat) (k : Int) (f : Value) (w : World) : Calls Try.prog 136 #[.slice A 0 c, .int .i64 0, .int .i64 0, .int .i64 k, f] w fun e w' => e = .returned (.tuple #[]) ∧ w' = w := by
 have HI := zh (ins0 A c f w)
 go_enter Try.func136, Try.ntmps136
 go_wp2_with fail
 (try go_step3)
 go_loopw [1, 2, 3, 10, 11] (fun a b l p q wr => a = .int .i64 0 ∧ b = .int .i64 0 ∧ l = .int .i64 k ∧ p = .bool true ∧ q = .bool true ∧ wr = w) (fun _ _ _ _ _ _ => 0)
 case atStart => exact ⟨rfl, rfl, rfl, rfl, rfl, rfl⟩
 case round =>
  obtain ⟨rfl, rfl, rfl, rfl, rfl, rfl⟩ := hrel
  go_wp2_with fail
  refine HI.out.mono ?_
  rintro e w1 ⟨rfl, rfl⟩
  go_wp2
  refine bodyPost_ret (v := .tuple #[]) (by simp [results, Try.results136]) rfl ?_
  exact ⟨rfl, rfl⟩
theorem ins1 (A : Option Addr) (c : Nat) (f : Value) (w : World) : Calls Try.prog 149 #[.slice A 1 c, .int .i64 0, .int .i64 1, f] w fun e w' => e = .returned (.tuple #[]) ∧ w' = w := by
 go_enter Try.func149, Try.ntmps149
 go_wp2
 go_loopw [8] (fun iv wr => iv = .int .i64 1 ∧ wr = w) (fun _ _ => 0)
 case atStart => exact ⟨rfl, rfl⟩
 case round =>
  obtain ⟨rfl, rfl⟩ := hrel
  go_wp2
  refine bodyPost_end (results_none rfl _ _ _) rfl ?_
  exact ⟨rfl, rfl⟩
theorem pdq1 (A : Option Addr) (c : Nat) (k : Int) (f : Value) (w : World) : Calls Try.prog 136 #[.slice A 1 c, .int .i64 0, .int .i64 1, .int .i64 k, f] w fun e w' => e = .returned (.tuple #[]) ∧ w' = w := by
 have HI := zh (ins1 A c f w)
 go_enter Try.func136, Try.ntmps136
 go_wp2_with fail
 (try go_step3)
 go_loopw [1, 2, 3, 10, 11] (fun a b l p q wr => a = .int .i64 0 ∧ b = .int .i64 1 ∧ l = .int .i64 k ∧ p = .bool true ∧ q = .bool true ∧ wr = w) (fun _ _ _ _ _ _ => 0)
 case atStart => exact ⟨rfl, rfl, rfl, rfl, rfl, rfl⟩
 case round =>
  obtain ⟨rfl, rfl, rfl, rfl, rfl, rfl⟩ := hrel
  go_wp2_with fail
  refine HI.out.mono ?_
  rintro e w1 ⟨rfl, rfl⟩
  go_wp2
  refine bodyPost_ret (v := .tuple #[]) (by simp [results, Try.results136]) rfl ?_
  exact ⟨rfl, rfl⟩
theorem len_t (w : World) (x : Int) (h0 : 0 ≤ x) (h1 : x ≤ 1) : Calls Try.prog 137 #[.int .u64 x] w fun e w' => (∃ k : Int, e = .returned (.int .i64 k)) ∧ w' = w := (Try.bits_Len x w h0 (by omega)).mono fun e w' h => ⟨⟨_, h.1⟩, h.2⟩
theorem srt0 (A : Option Addr) (c : Nat) (f : Value) (w : World) : Calls Try.prog 99 #[.slice A 0 c, f] w fun e w' => e = .returned (.tuple #[]) ∧ w' = w := by
 have HL := zh (len_t w 0 (by omega) (by omega))
 have HP := zh (fun k => pdq0 A c k f w)
 go_enter Try.func99, Try.ntmps99
 go_wp2_with fail
 refine HL.out.mono ?_
 rintro e w1 ⟨⟨k, rfl⟩, rfl⟩
 go_wp2_with fail
 refine (HP.out k).mono ?_
 rintro e w1 ⟨rfl, rfl⟩
 go_wp2
 refine bodyPost_end (results_none rfl _ _ _) rfl ?_
 exact ⟨rfl, rfl⟩
theorem sorted0 (g : Nat) (lb : Array Value) (eg : ∀ args w, (callFunc g args).run Try.prog w = .ok (.enter g args) w) (Sp : List Unit → Prop) (f : Value) (w : World) (hseq : SeqStopsK Fence.wide 2 Try.prog g lb (fun _ : Unit => #[kA]) KeepsWalks (fun xs => xs = []) Sp 1 w) :
  Calls Try.prog 66 #[.func (.func g) #[] lb, f] w fun e w' => (∃ A c, e = .returned (.slice A 0 c)) ∧ Below w.heap.size w w' := by
 have HC := zh (callsIn_wide.1 (collect_k g lb eg _ Sp w hseq))
 clear hseq
 go_enter Try.func66, Try.ntmps66
 go_wp2_with fail
 refine HC.out.mono ?_
 rintro e w1 ⟨v, xs, rfl, rfl, hown, hb⟩
 obtain ⟨A, c, rfl, -, -, -⟩ := own_rd hown
 have HB := zh hb
 have HS := zh (srt0 A c f w1)
 clear hown hb HC
 try simp only [List.length_cons, List.length_nil, Nat.zero_add]
 go_wp2_with fail
 refine HS.out.mono ?_
 rintro e w2 ⟨rfl, rfl⟩
 go_wp2
 go_ret
 exact ⟨⟨_, _, rfl⟩, HB.out⟩
theorem srt1 (A : Option Addr) (c : Nat) (f : Value) (w : World) : Calls Try.prog 99 #[.slice A 1 c, f] w fun e w' => e = .returned (.tuple #[]) ∧ w' = w := by
 have HL := zh (len_t w 1 (by omega) (by omega))
 have HP := zh (fun k => pdq1 A c k f w)
 go_enter Try.func99, Try.ntmps99
 go_wp2_with fail
 refine HL.out.mono ?_
 rintro e w1 ⟨⟨k, rfl⟩, rfl⟩
 go_wp2_with fail
 refine (HP.out k).mono ?_
 rintro e w1 ⟨rfl, rfl⟩
 go_wp2
 refine bodyPost_end (results_none rfl _ _ _) rfl ?_
 exact ⟨rfl, rfl⟩
theorem sorted1 (g : Nat) (lb : Array Value) (eg : ∀ args w, (callFunc g args).run Try.prog w = .ok (.enter g args) w) (Sp : List Unit → Prop) (f : Value) (w : World) (hseq : SeqStopsK Fence.wide 2 Try.prog g lb (fun _ : Unit => #[kA]) KeepsWalks (fun xs => xs = [()]) Sp 1 w) :
  Calls Try.prog 66 #[.func (.func g) #[] lb, f] w fun e w' => (∃ A c, e = .returned (.slice A 1 c)) ∧ Below w.heap.size w w' := by
 have HC := zh (callsIn_wide.1 (collect_k g lb eg _ Sp w hseq))
 clear hseq
 go_enter Try.func66, Try.ntmps66
 go_wp2_with fail
 refine HC.out.mono ?_
 rintro e w1 ⟨v, xs, rfl, rfl, hown, hb⟩
 obtain ⟨A, c, rfl, -, -, -⟩ := own_rd hown
 have HB := zh hb
 have HS := zh (srt1 A c f w1)
 clear hown hb HC
 try simp only [List.length_cons, List.length_nil, Nat.zero_add]
 go_wp2_with fail
 refine HS.out.mono ?_
 rintro e w2 ⟨rfl, rfl⟩
 go_wp2
 go_ret
 exact ⟨⟨_, _, rfl⟩, HB.out⟩
theorem keysf (m : Option Nat) (w : World) : Calls Try.prog 67 #[.map m] w fun e w' => e = .returned (.func (.func 100) #[] #[.pointer (some ⟨w.heap.size, 0, none⟩)]) ∧ w' = w.alloc (.cells #[.map m] 128) := by
 go_enter Try.func67, Try.ntmps67
 go_wp2
 go_ret
 exact ⟨rfl, rfl⟩
theorem fields_one {sb mb g : Nat} {x : Int} {w : World} (h : Lv sb mb g x w) : Calls Try.prog 31 #[.pointer (some ⟨sb, 0, none⟩), .int .i64 1] w fun e w' => (∃ A c, e = .returned (.slice A 1 c)) ∧ Below w.heap.size w w' := by
 have HA := zh (at_one h)
 have HLV := zh h
 clear h
 go_enter Try.func31, Try.ntmps31
 go_wp2_with fail
 refine HA.out.mono ?_
 rintro e v ⟨rfl, hb⟩
 obtain ⟨X, hX⟩ : ∃ X, X = v.alloc (.cells #[.string ⟨#[65]⟩, .map (some mb), .bool false, .slice none 0 0] 130) := ⟨_, rfl⟩
 have hx : Below v.heap.size v X := by rw [hX]; exact (Below.refl _ v).alloc (Nat.le_refl _) _
 obtain ⟨Y, hY⟩ : ∃ Y, Y = X.alloc (.cells #[.map (some mb)] 128) := ⟨_, rfl⟩
 have hy : Below X.heap.size X Y := by rw [hY]; exact (Below.refl _ X).alloc (Nat.le_refl _) _
 have hyc : Y.cell? ⟨X.heap.size, 0, none⟩ = some (.map (some mb)) := by rw [hY]; exact cell_of_row _ _ 0 _ _ _ (heap_alloc_new X _)
 have hmp : Y.heap[mb]? = some (mp1 x) := by obtain ⟨rb, -, hm, -⟩ := ((HLV.out.below hb).below hx).below hy; exact hm
 have HSO := zh (sorted1 _ _ (enters_of Try.func100 (by kernel_rfl) rfl) (fun _ => True) (.func (.func 68) #[] #[]) Y (keys_one X.heap.size mb x Y hyc hmp))
 clear hmp HLV
 have HBY := zh (then' (then' hb hx) hy)
 have HK := zh (keysf (some mb) X)
 have HX := zh hX; have HY := zh hY
 clear hb hx hy hyc hX hY HA
 go_wp2_with fail
 rw [← HX.out]
 (try go_wp2_with fail)
 refine HK.out.mono ?_
 rintro e w1 ⟨rfl, hw1⟩
 rw [← HY.out] at hw1
 subst hw1
 go_wp2_with fail
 refine HSO.out.mono ?_
 rintro e w2 ⟨⟨A, c, rfl⟩, hb⟩
 have HE := zh (then' HBY.out hb)
 clear hb
 go_wp2
 go_ret
 exact ⟨⟨_, _, rfl⟩, HE.out⟩
theorem fields_nil (n : Int) (w : World) : Calls Try.prog 31 #[.pointer none, .int .i64 n] w fun e w' => (∃ A c, e = .returned (.slice A 0 c)) ∧ Below w.heap.size w w' := by
 have HA := zh (at_nilp n w)
 go_enter Try.func31, Try.ntmps31
 go_wp2_with fail
 refine HA.out.mono ?_
 rintro e v ⟨rfl, hb⟩
 obtain ⟨X, hX⟩ : ∃ X, X = v.alloc (.cells #[.string ⟨#[]⟩, .map none, .bool false, .slice none 0 0] 130) := ⟨_, rfl⟩
 have hx : Below v.heap.size v X := by rw [hX]; exact (Below.refl _ v).alloc (Nat.le_refl _) _
 obtain ⟨Y, hY⟩ : ∃ Y, Y = X.alloc (.cells #[.map none] 128) := ⟨_, rfl⟩
 have hy : Below X.heap.size X Y := by rw [hY]; exact (Below.refl _ X).alloc (Nat.le_refl _) _
 have hyc : Y.cell? ⟨X.heap.size, 0, none⟩ = some (.map none) := by rw [hY]; exact cell_of_row _ _ 0 _ _ _ (heap_alloc_new X _)
 have HSO := zh (sorted0 _ _ (enters_of Try.func100 (by kernel_rfl) rfl) (fun _ => True) (.func (.func 68) #[] #[]) Y (keys_none X.heap.size Y hyc))
 have HBY := zh (then' (then' hb hx) hy)
 have HK := zh (keysf none X)
 have HX := zh hX; have HY := zh hY
 clear hb hx hy hyc hX hY HA
 go_wp2_with fail
 rw [← HX.out]
 (try go_wp2_with fail)
 refine HK.out.mono ?_
 rintro e w1 ⟨rfl, hw1⟩
 rw [← HY.out] at hw1
 subst hw1
 go_wp2_with fail
 refine HSO.out.mono ?_
 rintro e w2 ⟨⟨A, c, rfl⟩, hb⟩
 have HE := zh (then' HBY.out hb)
 clear hb
 go_wp2
 go_ret
 exact ⟨⟨_, _, rfl⟩, HE.out⟩
end Go.Proofs.Ytdifmgeicnndfaa.sto
namespace Go.Proofs.Ytdifmgeicnndfaa.sto
open Go.RowKit Go.MapKept Go.ChangeMaps Go.Shelf
open words kindp kind prg
set_option maxRecDepth 100000
set_option maxHeartbeats 32000000
set_option linter.all false
theorem live_s (w : World) : Calls Try.prog 22 #[] w fun e w' => e = .returned (.bool true) ∧ Below w.heap.size w w' := by
 obtain ⟨W1, hW1⟩ : ∃ W1, W1 = w.alloc (.cells #[.string ⟨#[102]⟩, .int .i64 2, .string ⟨#[]⟩, .bool false] 92) := ⟨_, rfl⟩
 obtain ⟨W2, hW2⟩ : ∃ W2, W2 = W1.alloc (.cells #[.string ⟨#[65]⟩, .string ⟨#[]⟩, .bool false, .bool false, .slice none 0 0, .slice (some ⟨w.heap.size, 0, none⟩) 1 1, .slice none 0 0] 43) := ⟨_, rfl⟩
 obtain ⟨W3, hW3⟩ : ∃ W3, W3 = W2.alloc (.cells #[.slice (some ⟨w.heap.size + 1, 0, none⟩) 1 1, .slice none 0 0, .string ⟨#[]⟩, .string ⟨#[]⟩, .string ⟨#[]⟩] 27) := ⟨_, rfl⟩
 obtain ⟨W, hW⟩ : ∃ W, W = W3.alloc (.cells #[.string ⟨#[65]⟩, .string ⟨#[102]⟩] 67) := ⟨_, rfl⟩
 have s1 : W1.heap.size = w.heap.size + 1 := by rw [hW1]; simp
 have s2 : W2.heap.size = w.heap.size + 1 + 1 := by rw [hW2, ← s1]; simp
 have s3 : W3.heap.size = w.heap.size + 1 + 1 + 1 := by rw [hW3, ← s2]; simp
 have l1 : Below w.heap.size w W1 := by rw [hW1]; exact (Below.refl _ _).alloc (Nat.le_refl _) _
 have l2 : Below W1.heap.size W1 W2 := by rw [hW2]; exact (Below.refl _ _).alloc (Nat.le_refl _) _
 have l3 : Below W2.heap.size W2 W3 := by rw [hW3]; exact (Below.refl _ _).alloc (Nat.le_refl _) _
 have l4 : Below W3.heap.size W3 W := by rw [hW]; exact (Below.refl _ _).alloc (Nat.le_refl _) _
 have a1 : W1.heap[w.heap.size]? = some (.cells #[.string ⟨#[102]⟩, .int .i64 2, .string ⟨#[]⟩, .bool false] 92 (0, 0)) := by rw [hW1]; exact heap_alloc_new _ _
 have a2 : W2.heap[w.heap.size + 1]? = some (.cells #[.string ⟨#[65]⟩, .string ⟨#[]⟩, .bool false, .bool false, .slice none 0 0, .slice (some ⟨w.heap.size, 0, none⟩) 1 1, .slice none 0 0] 43 (0, 0)) := by rw [← s1, hW2]; exact heap_alloc_new _ _
 have a3 : W3.heap[w.heap.size + 1 + 1]? = some (.cells #[.slice (some ⟨w.heap.size + 1, 0, none⟩) 1 1, .slice none 0 0, .string ⟨#[]⟩, .string ⟨#[]⟩, .string ⟨#[]⟩] 27 (0, 0)) := by rw [← s2, hW3]; exact heap_alloc_new _ _
 have a4 : W.heap[w.heap.size + 1 + 1 + 1]? = some (.cells #[.string ⟨#[65]⟩, .string ⟨#[102]⟩] 67 (0, 0)) := by rw [← s3, hW]; exact heap_alloc_new _ _
 have b1 := (l4.block _ (blk_lt ((l3.block _ (blk_lt ((l2.block _ (blk_lt a1)).trans a1))).trans ((l2.block _ (blk_lt a1)).trans a1)))).trans ((l3.block _ (blk_lt ((l2.block _ (blk_lt a1)).trans a1))).trans ((l2.block _ (blk_lt a1)).trans a1))
 have b2 := (l4.block _ (blk_lt ((l3.block _ (blk_lt a2)).trans a2))).trans ((l3.block _ (blk_lt a2)).trans a2)
 have b3 := (l4.block _ (blk_lt a3)).trans a3
 have HAL := zh (show Below w.heap.size w W from then' (then' (then' l1 l2) l3) l4)
 have HP := zh (show ∀ v : World, Below W.heap.size W v → (v.cell? ⟨w.heap.size + 1 + 1, 0, none⟩ = some (.slice (some ⟨w.heap.size + 1, 0, none⟩) 1 1) ∧ v.cell? ⟨w.heap.size + 1 + 1, 1, none⟩ = some (.slice none 0 0) ∧ v.cell? ⟨w.heap.size + 1 + 1, 2, none⟩ = some (.string ⟨#[]⟩) ∧ v.cell? ⟨w.heap.size + 1 + 1, 3, none⟩ = some (.string ⟨#[]⟩) ∧ v.cell? ⟨w.heap.size + 1 + 1, 4, none⟩ = some (.string ⟨#[]⟩)) ∧ (v.cell? ⟨w.heap.size + 1 + 1 + 1, 0, none⟩ = some (.string ⟨#[65]⟩) ∧ v.cell? ⟨w.heap.size + 1 + 1 + 1, 1, none⟩ = some (.string ⟨#[102]⟩)) from fun v hv => by
  have r3 := (hv.block _ (blk_lt b3)).trans b3
  have r4 := (hv.block _ (blk_lt a4)).trans a4
  exact ⟨⟨cell_of_row _ _ 0 _ _ _ r3, cell_of_row _ _ 1 _ _ _ r3, cell_of_row _ _ 2 _ _ _ r3, cell_of_row _ _ 3 _ _ _ r3, cell_of_row _ _ 4 _ _ _ r3⟩, cell_of_row _ _ 0 _ _ _ r4, cell_of_row _ _ 1 _ _ _ r4⟩)
 have HF := zh (show W.heap[w.heap.size]? = some (.cells (fiC lvF).toArray 92 (0, 0)) from b1)
 have HC := zh (show W.heap[w.heap.size + 1]? = some (.cells (clC (lvC w.heap.size)).toArray 43 (0, 0)) from b2)
 have HN := zh (new_w W)
 have HW1 := zh hW1; have HW2 := zh hW2; have HW3 := zh hW3; have HW := zh hW
 clear s1 s2 s3 l1 l2 l3 l4 a1 a2 a3 a4 b1 b2 b3 hW1 hW2 hW3 hW
 go_enter Try.func22, Try.ntmps22
 go_wp2_with fail
 rw [← HW1.out, ← HW2.out, ← HW3.out, ← HW.out]
 refine HN.out.mono ?_
 rintro e v1 ⟨rfl, hst, hb⟩
 obtain ⟨sb, hsb⟩ : ∃ sb, sb = W.heap.size := ⟨_, rfl⟩
 rw [← hsb] at hst ⊢
 have SB := zh hsb; have B1 := zh hb
 have hmk := make_w sb w.heap.size (w.heap.size + 1) v1 hst ((hb.block _ (blk_lt HF.out)).trans HF.out) ((hb.block _ (blk_lt HC.out)).trans HC.out)
 unfold prC at hmk
 dsimp only [lvX, List.length_cons, List.length_nil, Nat.zero_add, List.cons_append, List.nil_append] at hmk
 have HMK := zh hmk; have ST1 := zh hst
 clear hst hb hsb hmk HN
 obtain ⟨⟨x0, x1, x2, x3, x4⟩, y0, y1⟩ := HP.out v1 B1.out
 go_wp2_with fail
 refine HMK.out.mono ?_
 rintro e v2 ⟨rfl, mb, rb, hst, hmp, hmb, hrm, hk⟩
 have hsl := ST1.out.lt
 have hb2 : Below W.heap.size v1 v2 := hk.toBelow (by rw [SB.out]; exact Nat.le_refl _) B1.out.size (by intro q e; cases e)
 have B2 := zh (B1.out.trans hb2)
 have hrw : ∀ q, rb = some q → W.heap.size ≤ q := fun q e => by have := (hst.rb e).1; rw [← SB.out]; omega
 have har := array_w sb [loO mb] rb 2 (by omega) v2 hst (by simp)
 have HAR := zh har; have MP := zh hmp
 have NE := zh (show mb ≠ sb ∧ rb ≠ some mb ∧ W.heap.size ≤ mb from ⟨by omega, hrm, Nat.le_trans B1.out.size hmb⟩)
 have RW := zh hrw
 clear hst hmp hmb hrm hk hsl hb2 hrw har x0 x1 x2 x3 x4 y0 y1 HMK ST1
 obtain ⟨-, y0, y1⟩ := HP.out v2 B2.out
 go_wp2_with fail
 refine HAR.out.mono ?_
 rintro e v3 ⟨rfl, g, rb2, hst, hx, hk, hg, hrg, hgv⟩
 have hb3 : Below W.heap.size v2 v3 := hk.toBelow (by rw [SB.out]; exact Nat.le_refl _) B2.out.size RW.out
 have B3 := zh (B2.out.trans hb3)
 have hlv : Lv sb mb g 0 v3 := ⟨rb2, hst, (hk.block mb (blk_lt MP.out) NE.out.1 NE.out.2.1).trans MP.out, hgv⟩
 have hpu := put_w 5 hlv
 have HPU := zh hpu
 clear hst hx hk hg hrg hgv hb3 hlv hpu y0 y1 HAR MP RW
 obtain ⟨-, y0, y1⟩ := HP.out v3 B3.out
 go_wp2_with fail
 refine HPU.out.mono ?_
 rintro e v4 ⟨rfl, hlv, hk⟩
 have hb4 : Below W.heap.size v3 v4 := hk.toBelow NE.out.2.2 B3.out.size (by intro q e; cases e)
 have B4 := zh (B3.out.trans hb4)
 have L4 := zh hlv
 have HG := zh (get_one hlv)
 clear hlv hk hb4 y0 y1 HPU NE
 obtain ⟨-, y0, y1⟩ := HP.out v4 B4.out
 go_wp2_with fail
 refine HG.out.mono ?_
 rintro e v5 ⟨rfl, hb⟩
 obtain ⟨V5, hV5⟩ : ∃ V, V = v5.alloc (.cells #[.int .i64 1, .int .i64 5] 70) := ⟨_, rfl⟩
 have h5 : Below v5.heap.size v5 V5 := by rw [hV5]; exact (Below.refl _ _).alloc (Nat.le_refl _) _
 have c5 : V5.heap[v5.heap.size]? = some (.cells #[.int .i64 1, .int .i64 5] 70 (0, 0)) := by rw [hV5]; exact heap_alloc_new _ _
 have B5 := zh (B4.out.trans ((then' hb h5).mono B4.out.size))
 have L5 := zh ((L4.out.below hb).below h5)
 have C5 := zh c5; have HV5 := zh hV5
 have HLO := zh (load_two L5.out)
 clear hb h5 c5 hV5 y0 y1 HG L4
 go_wp2_with fail
 rw [← HV5.out]
 refine HLO.out.mono ?_
 rintro e v6 ⟨rfl, hb⟩
 obtain ⟨V6, hV6⟩ : ∃ V, V = v6.alloc (.cells #[.int .i64 0, .int .i64 0] 70) := ⟨_, rfl⟩
 have h6 : Below v6.heap.size v6 V6 := by rw [hV6]; exact (Below.refl _ _).alloc (Nat.le_refl _) _
 have B56 := zh (then' hb h6)
 have B6 := zh (B5.out.trans ((then' hb h6).mono B5.out.size))
 have L6 := zh ((L5.out.below hb).below h6)
 have HV6 := zh hV6
 have HGZ := zh (get_zero sb V6)
 obtain ⟨-, y0, y1⟩ := HP.out V6 B6.out
 rw [hV6] at y0 y1
 clear hb h6 hV6 HLO
 go_wp2_with fail
 rw [← HV6.out]
 refine HGZ.out.mono ?_
 rintro e v7 ⟨rfl, hb⟩
 obtain ⟨V7, hV7⟩ : ∃ V, V = v7.alloc (.cells #[.int .i64 0, .int .i64 0] 70) := ⟨_, rfl⟩
 have h7 : Below v7.heap.size v7 V7 := by rw [hV7]; exact (Below.refl _ _).alloc (Nat.le_refl _) _
 have hb57 := then' (then' B56.out hb) h7
 have c7 := (hb57.block _ (blk_lt C5.out)).trans C5.out
 have B7 := zh (B6.out.trans ((then' hb h7).mono B6.out.size))
 have L7 := zh ((L6.out.below hb).below h7)
 have z1 : V7.cell? ⟨v5.heap.size, 1, none⟩ = some (.int .i64 5) := cell_of_row _ _ 1 _ _ _ c7
 rw [hV7] at z1
 have HV7 := zh hV7
 have HCL := zh (class_two L7.out)
 clear hb h7 hb57 c7 hV7 y0 y1 HGZ
 go_wp2_with fail
 rw [← HV7.out]
 refine HCL.out.mono ?_
 rintro e v8 ⟨rfl, hb⟩
 have B8 := zh (B7.out.trans (hb.mono B7.out.size))
 have L8 := zh (L7.out.below hb)
 have hln : Calls Try.prog 23 #[.pointer (some ⟨sb, 0, none⟩)] v8 fun e w' => e = .returned (.int .i64 2) ∧ Below v8.heap.size v8 w' := by obtain ⟨rb, h1, -, -⟩ := L8.out; exact len_w h1
 have HLN := zh hln
 clear hb hln z1 HCL
 go_wp2_with fail
 refine HLN.out.mono ?_
 rintro e v9 ⟨rfl, hb⟩
 have B9 := zh (B8.out.trans (hb.mono B8.out.size))
 have L9 := zh (L8.out.below hb)
 have HFI := zh (fields_one L9.out)
 clear hb HLN
 go_wp2_with fail
 refine HFI.out.mono ?_
 rintro e v10 ⟨⟨A, c, rfl⟩, hb⟩
 have B10 := zh (B9.out.trans (hb.mono B9.out.size))
 have HIT := zh (items_two (L9.out.below hb))
 clear hb HFI
 go_wp2_with fail
 refine HIT.out.mono ?_
 rintro e v11 ⟨⟨A2, c2, rfl⟩, hb⟩
 have B11 := zh (B10.out.trans (hb.mono B10.out.size))
 clear hb HIT
 go_wp2_with fail
 go_ret
 exact ⟨rfl, HAL.out.trans (B11.out.mono HAL.out.size)⟩
end Go.Proofs.Ytdifmgeicnndfaa.sto
namespace Go.Proofs.Ytdifmgeicnndfaa.storeFills
open Go.RowKit Go.MapKept Go.ChangeMaps Go.Shelf
open words kindp kind prg sto
set_option maxRecDepth 100000
set_option maxHeartbeats 16000000
set_option linter.all false
theorem walk (n : Int) (w : World) (h0 : 0 ≤ n) (h1 : n ≤ 255) : Calls Try.prog 6 #[.int .u8 n] w fun e w' => e = .returned (.bool true) ∧ Below w.heap.size w w' := by
 obtain ⟨m, hm⟩ : ∃ m : Nat, n.tmod 4 = (m : Int) := ⟨(n.tmod 4).toNat, by rw [Int.toNat_of_nonneg (Int.tmod_nonneg _ h0)]⟩
 have hm3 : m ≤ 3 := by have := Int.tmod_lt_of_pos n (show (0 : Int) < 4 by omega); omega
 have hme : n % 4 = (m : Int) := by rw [← hm, Int.tmod_eq_emod_of_nonneg h0]
 have hw1 : IntKind.u8.wrap (m : Int) = (m : Int) := IntWalk.u8_in _ (by omega)
 have hw2 : IntKind.i64.wrap (m : Int) = (m : Int) := IntWalk.i64_in _ (by omega)
 have HN := zh (new_w w)
 go_enter Try.func6, Try.ntmps6
 go_wp2_with fail
 refine HN.out.mono ?_
 rintro e v1 ⟨rfl, hst, hb⟩
 obtain ⟨sb, hsb⟩ : ∃ sb, sb = w.heap.size := ⟨_, rfl⟩
 rw [← hsb] at hst ⊢
 have ST := zh hst; have B1 := zh hb; have SB := zh hsb
 clear hst hb hsb HN
 go_wp2_with fail
 go_loopw [4] (fun iv wr => ∃ (i : Nat) (os : List ObM) (rb : Option Nat), i ≤ 256 ∧ iv = .int .i64 ((i : Int) + 1) ∧ os.length = i ∧ StoM sb os rb wr ∧ Below sb w wr) (fun iv _ => 257 - (intOf iv).toNat)
 case atStart => exact ⟨0, [], none, by omega, rfl, rfl, ST.out, by rw [SB.out]; exact B1.out⟩
 case round =>
  obtain ⟨i, os, rb, hi, rfl, hos, hst, hbw⟩ := hrel
  by_cases hlt : i < 256
  ·have hltI : (i : Int) + 1 ≤ 256 := by omega
   have har := array_w sb os rb m (by omega) wr hst (by omega)
   rw [hos] at har
   have HAR := zh har; have HST := zh hst; have HBW := zh hbw; have HOS := zh hos
   clear har hst hbw hos hi
   go_wp2_with fail
   refine HAR.out.mono ?_
   rintro e v2 ⟨rfl, g, rb2, hst2, -, hk, -, -, -⟩
   have hb2 : Below sb wr v2 := hk.toBelow (Nat.le_refl _) (Nat.le_of_lt HST.out.lt) (fun q e => by have := (HST.out.rb e).1; omega)
   have HS2 := zh hst2
   have HB2 := zh (HBW.out.trans hb2)
   have hwr : IntKind.i64.wrap ((i : Int) + 1 + 1) = (i : Int) + 1 + 1 := IntWalk.i64_in _ (by omega)
   clear hst2 hk hb2 HAR
   go_wp2
   go_roundw
   case rel => exact ⟨i + 1, _, rb2, by omega, congrArg (Value.int .i64) (by omega), by rw [List.length_append, HOS.out]; rfl, HS2.out, HB2.out⟩
   case measure => simp [intOf]; omega
  ·obtain rfl : i = 256 := by omega
   have hltI : ¬ ((256 : Nat) : Int) + 1 ≤ 256 := by omega
   have HFU := zh (array_full sb os rb 0 (by omega) wr hst (by omega))
   have HST := zh hst; have HBW := zh hbw; have HOS := zh hos
   clear hst hbw hos hi
   go_wp2_with fail
   refine HFU.out.mono ?_
   rintro e v2 ⟨rfl, hb⟩
   have S2 := zh (HST.out.below hb)
   have B2 := zh (HBW.out.trans (hb.mono (Nat.le_of_lt HST.out.lt)))
   clear hb HFU
   go_wp2_with fail
   refine (live_s v2).mono ?_
   rintro e v3 ⟨rfl, hb⟩
   have hln : Calls Try.prog 23 #[.pointer (some ⟨sb, 0, none⟩)] v3 fun e w' => e = .returned (.int .i64 256) ∧ Below v3.heap.size v3 w' := by
    have h := len_w (S2.out.below hb)
    rw [HOS.out] at h
    exact h
   have B3 := zh (B2.out.trans (hb.mono (Nat.le_of_lt S2.out.lt)))
   have HLN := zh hln
   have HS3 := zh (S2.out.below hb)
   clear hb hln
   go_wp2_with fail
   refine HLN.out.mono ?_
   rintro e v4 ⟨rfl, hb⟩
   have B4 := zh (show Below w.heap.size w v4 from by rw [← SB.out]; exact B3.out.trans (hb.mono (Nat.le_of_lt HS3.out.lt)))
   clear hb HLN
   go_wp2
   go_ret
   exact ⟨rfl, B4.out⟩
end Go.Proofs.Ytdifmgeicnndfaa.storeFills
namespace Go.Proofs.Ytdifmgeicnndfaa.storeFills
open Go.ChangeShapes Go.WideShapes Go.ChangeAt Go.RowKit
open Go.Proofs.Ytdifmgeicnndfaa.words Go.Proofs.Ytdifmgeicnndfaa.frame
set_option maxRecDepth 100000
theorem lifted (os : Os) (started : os.Started) (H : Type) (enc : TypeId × Value → H) :
  ReturnsInHanded {} Try.checked os 6 .any (Rows.storeFillsSpec.pre6 enc Try.prog Try.f6 Rows.storeFillsRow.domain false) (Rows.storeFillsSpec.post enc Try.prog Try.f6 false true false false) := by
 refine returnsInHanded_of_change_sized (C := Try.checked) own started (by kernel_rfl) Try.func6
  (ChangeSpec.witness6 (enc := enc) (C := Try.checked) false ⟨#[], #[.int .u8 0], []⟩ 8 (by kernel_rfl) (by kernel_rfl) (by kernel_rfl) (by kernel_rfl)) ?_
 intro W base args ds gs before hval0 hW _ _ _
 have hval : ∀ (j : Nat) t v, Try.f6.params[j]? = some t → args[j]? = some v → Value.okWide Try.prog W .any base t v := hval0
 have hW' := hW
 obtain ⟨p, q, hA0, hV, rfl, hfz, hnd⟩ := hW
 have hA : DataW.TrodAll enc Try.prog W 0 (fun _ => true) true Try.f6.params.toList args.toList ds p := hA0
 rw [Try.params6] at hA hval
 obtain ⟨v0, vs0, d0, ds0, p0, q0, hargs, rfl, rfl, h0, r0⟩ := trodAll_cons hA
 obtain ⟨rfl, rfl, rfl⟩ := trodAll_nil r0
 obtain rfl : args = #[v0] := by cases args; simp_all
 obtain ⟨rfl, rfl⟩ := trodVars_none hV
 obtain ⟨a0, rfl, rfl, rfl, w0⟩ := open_int Try.underlying5 (hval 0 5 v0 rfl rfl) h0
 have b0 := bounds_u8 w0
 clear hA0
 refine (walk a0 W b0.1 b0.2).mono fun e W' ⟨he, bel⟩ => ?_
 subst he
 exact ⟨_, rfl, _, _, _, [], _, [], hW', trodAll_mk1 (shut_bool Try.underlying4 _), (trodAll_cons_mk (shut_int Try.underlying5 w0) trodAll_mk0), rfl, bel.frame _, fun h => by cases h⟩
theorem said : Rows.StoreFillsSaid :=
 OpenClaim.holds_of_wide 6 Try.f6 rfl rfl rfl rfl rfl rfl rfl ⟨rfl, rfl, rfl, rfl, rfl⟩ rfl rfl rfl rfl rfl (by kernel_rfl) Try.func6 (by kernel_rfl)
  (of_decide_eq_true (by kernel_rfl)) (by unfold Func.isWrapper; first | (rw [if_pos (by decide +kernel)]; kernel_rfl) | (rw [if_neg (by decide +kernel)]; exact ⟨rfl, rfl⟩))
  (fun os started H enc _ => lifted os started H enc)
#print axioms said
end Go.Proofs.Ytdifmgeicnndfaa.storeFills
namespace Go.Proofs.Ytdifmgeicnndfaa.storeNone
open Go.RowKit Go.MapKept Go.ChangeMaps Go.Shelf
open words kindp kind prg sto
set_option maxRecDepth 100000
set_option maxHeartbeats 64000000
set_option linter.all false
theorem walk (ak : Int) (ac : Nat) (at_ an : Int) (fc fn : Tx) (vk vn tk : Int) (tc : Tx) (k : Int) (s : Tx) (w : World) : Calls Try.prog 7 #[.agg #[.int .i64 ak, .int .u8 (ac : Int), .int .i64 at_, .int .i64 an, .string ⟨fc.toArray⟩, .string ⟨fn.toArray⟩, .int .i64 vk, .int .i64 vn, .int .i64 tk, .string ⟨tc.toArray⟩], .agg #[.int .i64 k, .string ⟨s.toArray⟩]] w fun e w' => e = .returned (.bool true) ∧ Below w.heap.size w w' := by
 obtain ⟨W1, hW1⟩ : ∃ W1, W1 = w.alloc (.cells #[.int .i64 ak, .int .u8 (ac : Int), .int .i64 at_, .int .i64 an, .string ⟨fc.toArray⟩, .string ⟨fn.toArray⟩, .int .i64 vk, .int .i64 vn, .int .i64 tk, .string ⟨tc.toArray⟩] 72) := ⟨_, rfl⟩
 obtain ⟨W, hW⟩ : ∃ W, W = W1.alloc (.cells #[.int .i64 k, .string ⟨s.toArray⟩] 63) := ⟨_, rfl⟩
 have s1 : W1.heap.size = w.heap.size + 1 := by rw [hW1]; simp
 have l1 : Below w.heap.size w W1 := by rw [hW1]; exact (Below.refl _ _).alloc (Nat.le_refl _) _
 have l2 : Below W1.heap.size W1 W := by rw [hW]; exact (Below.refl _ _).alloc (Nat.le_refl _) _
 have a1 : W1.heap[w.heap.size]? = some (.cells #[.int .i64 ak, .int .u8 (ac : Int), .int .i64 at_, .int .i64 an, .string ⟨fc.toArray⟩, .string ⟨fn.toArray⟩, .int .i64 vk, .int .i64 vn, .int .i64 tk, .string ⟨tc.toArray⟩] 72 (0, 0)) := by rw [hW1]; exact heap_alloc_new _ _
 have a2 : W.heap[w.heap.size + 1]? = some (.cells #[.int .i64 k, .string ⟨s.toArray⟩] 63 (0, 0)) := by rw [← s1, hW]; exact heap_alloc_new _ _
 have b1 := (l2.block _ (blk_lt a1)).trans a1
 have HAL := zh (show Below w.heap.size w W from then' l1 l2)
 have HP := zh (show ∀ v : World, Below W.heap.size W v → (v.cell? ⟨w.heap.size, 0, none⟩ = some (.int .i64 ak) ∧ v.cell? ⟨w.heap.size, 1, none⟩ = some (.int .u8 (ac : Int)) ∧ v.cell? ⟨w.heap.size, 2, none⟩ = some (.int .i64 at_) ∧ v.cell? ⟨w.heap.size, 3, none⟩ = some (.int .i64 an) ∧ v.cell? ⟨w.heap.size, 4, none⟩ = some (.string ⟨fc.toArray⟩) ∧ v.cell? ⟨w.heap.size, 5, none⟩ = some (.string ⟨fn.toArray⟩) ∧ v.cell? ⟨w.heap.size, 6, none⟩ = some (.int .i64 vk) ∧ v.cell? ⟨w.heap.size, 7, none⟩ = some (.int .i64 vn) ∧ v.cell? ⟨w.heap.size, 8, none⟩ = some (.int .i64 tk) ∧ v.cell? ⟨w.heap.size, 9, none⟩ = some (.string ⟨tc.toArray⟩)) ∧ (v.cell? ⟨w.heap.size + 1, 0, none⟩ = some (.int .i64 k) ∧ v.cell? ⟨w.heap.size + 1, 1, none⟩ = some (.string ⟨s.toArray⟩)) from fun v hv => by
  have r1 := (hv.block _ (blk_lt b1)).trans b1
  have r2 := (hv.block _ (blk_lt a2)).trans a2
  exact ⟨⟨cell_of_row _ _ 0 _ _ _ r1, cell_of_row _ _ 1 _ _ _ r1, cell_of_row _ _ 2 _ _ _ r1, cell_of_row _ _ 3 _ _ _ r1, cell_of_row _ _ 4 _ _ _ r1, cell_of_row _ _ 5 _ _ _ r1, cell_of_row _ _ 6 _ _ _ r1, cell_of_row _ _ 7 _ _ _ r1, cell_of_row _ _ 8 _ _ _ r1, cell_of_row _ _ 9 _ _ _ r1⟩, ⟨cell_of_row _ _ 0 _ _ _ r2, cell_of_row _ _ 1 _ _ _ r2⟩⟩)
 obtain ⟨z, hz⟩ : ∃ z, z = zeroK k := ⟨_, rfl⟩
 have HZW := zh (fun v => show Calls Try.prog 33 #[.agg #[.int .i64 k, .string ⟨s.toArray⟩]] v fun e w' => e = .returned (.agg #[.int .i64 z, .int .i64 0]) ∧ Below v.heap.size v w' from by rw [hz]; exact zero_w k s v)
 have HZR := zh (fun v => show Calls Try.prog 34 #[.agg #[.int .i64 k, .string ⟨s.toArray⟩]] v fun e w' => e = .returned (.agg #[.int .i64 z, .int .i64 0]) ∧ Below v.heap.size v w' from by rw [hz]; exact zero_r k s v)
 have HW1 := zh hW1; have HW := zh hW
 have B0 := zh (show Below W.heap.size W W from Below.refl _ _)
 clear s1 l1 l2 a1 a2 b1 hW1 hW hz
 go_enter Try.func7, Try.ntmps7
 go_wp2_with fail
 rw [← HW1.out, ← HW.out]
 refine (make_nil W).mono ?_
 rintro e v1 ⟨rfl, hb⟩
 have B1 := zh (then' B0.out hb)
 clear hb
 obtain ⟨⟨x0, x1, x2, x3, x4, x5, x6, x7, x8, x9⟩, y0, y1⟩ := HP.out v1 B1.out
 go_wp2_with fail
 clear x0 x1 x2 x3 x4 x5 x6 x7 x8 x9 y0 y1
 refine (arr_nil k s an v1).mono ?_
 rintro e v2 ⟨rfl, hb⟩
 have B2 := zh (then' B1.out hb)
 clear hb
 obtain ⟨⟨x0, x1, x2, x3, x4, x5, x6, x7, x8, x9⟩, y0, y1⟩ := HP.out v2 B2.out
 go_wp2_with fail
 clear x0 x1 x2 x3 x4 x5 x6 x7 x8 x9 y0 y1
 refine (get_nil at_ fc fn v2).mono ?_
 rintro e v3 ⟨rfl, hb⟩
 have B3 := zh (then' B2.out hb)
 clear hb
 obtain ⟨U3, hU⟩ : ∃ U, U = v3.alloc (.cells #[.int .i64 0, .int .i64 0] 70) := ⟨_, rfl⟩
 have hl : Below v3.heap.size v3 U3 := by rw [hU]; exact (Below.refl _ _).alloc (Nat.le_refl _) _
 have B4 := zh (then' B3.out hl)
 have HU3 := zh hU
 obtain ⟨⟨x0, x1, x2, x3, x4, x5, x6, x7, x8, x9⟩, y0, y1⟩ := HP.out U3 B4.out
 rw [hU] at x0 x1 x2 x3 x4 x5 x6 x7 x8 x9 y0 y1
 clear hl hU
 go_wp2_with fail
 rw [← HU3.out] at x0 x1 x2 x3 x4 x5 x6 x7 x8 x9 y0 y1 ⊢
 clear x0 x1 x2 x3 x4 x5 x6 x7 x8 x9 y0 y1
 refine (size_nil at_ U3).mono ?_
 rintro e v5 ⟨rfl, hb⟩
 have B5 := zh (then' B4.out hb)
 clear hb
 obtain ⟨⟨x0, x1, x2, x3, x4, x5, x6, x7, x8, x9⟩, y0, y1⟩ := HP.out v5 B5.out
 go_wp2_with fail
 clear x0 x1 x2 x3 x4 x5 x6 x7 x8 x9 y0 y1
 refine (load_nil at_ an v5).mono ?_
 rintro e v6 ⟨rfl, hb⟩
 have B6 := zh (then' B5.out hb)
 clear hb
 obtain ⟨U6, hU⟩ : ∃ U, U = v6.alloc (.cells #[.int .i64 0, .int .i64 0] 70) := ⟨_, rfl⟩
 have hl : Below v6.heap.size v6 U6 := by rw [hU]; exact (Below.refl _ _).alloc (Nat.le_refl _) _
 have B7 := zh (then' B6.out hl)
 have HU6 := zh hU
 obtain ⟨⟨x0, x1, x2, x3, x4, x5, x6, x7, x8, x9⟩, y0, y1⟩ := HP.out U6 B7.out
 rw [hU] at x0 x1 x2 x3 x4 x5 x6 x7 x8 x9 y0 y1
 clear hl hU
 go_wp2_with fail
 rw [← HU6.out] at x0 x1 x2 x3 x4 x5 x6 x7 x8 x9 y0 y1 ⊢
 clear x0 x1 x2 x3 x4 x5 x6 x7 x8 x9 y0 y1
 dsimp only [List.append]
 refine wp_region_held_drew (S := fun v : World => (v.cell? ⟨w.heap.size, 0, none⟩ = some (.int .i64 ak) ∧ v.cell? ⟨w.heap.size, 1, none⟩ = some (.int .u8 (ac : Int)) ∧ v.cell? ⟨w.heap.size, 2, none⟩ = some (.int .i64 at_) ∧ v.cell? ⟨w.heap.size, 3, none⟩ = some (.int .i64 an) ∧ v.cell? ⟨w.heap.size, 4, none⟩ = some (.string ⟨fc.toArray⟩) ∧ v.cell? ⟨w.heap.size, 5, none⟩ = some (.string ⟨fn.toArray⟩) ∧ v.cell? ⟨w.heap.size, 6, none⟩ = some (.int .i64 vk) ∧ v.cell? ⟨w.heap.size, 7, none⟩ = some (.int .i64 vn) ∧ v.cell? ⟨w.heap.size, 8, none⟩ = some (.int .i64 tk) ∧ v.cell? ⟨w.heap.size, 9, none⟩ = some (.string ⟨tc.toArray⟩)) ∧ (v.cell? ⟨w.heap.size + 1, 0, none⟩ = some (.int .i64 k) ∧ v.cell? ⟨w.heap.size + 1, 1, none⟩ = some (.string ⟨s.toArray⟩))) (by kernel_rfl) ?_ (fun hHeld => ?_)
 ·exact HP.out _ (overW B7.out)
 obtain ⟨r0, hr0⟩ : ∃ r, r = U6.drew := ⟨_, rfl⟩
 have C0 := zh (show Below W.heap.size W r0 from by rw [hr0]; exact overW B7.out)
 rw [← hr0]
 clear hr0 hHeld
 refine rdy 0 rfl (fun K hK => ?_)
 go_simp
 refine (live_s r0).mono ?_
 rintro e r1 ⟨rfl, hb⟩
 have C1 := zh (then' C0.out hb)
 clear hb
 go_wp2_with fail
 refine hK.out _ _ (HP.out _ C1.out) (fun hHeld => ?_)
 clear hK K hHeld
 try simp only [puts]
 have hS := HP.out _ C1.out
 refine tkp 1 rfl ?_
 refine tkp 2 rfl ?_
 refine tkp 3 rfl ?_
 refine tkp 4 rfl ?_
 refine tkp 5 rfl ?_
 refine tkp 6 rfl ?_
 refine tkp 7 rfl ?_
 refine tkp 8 rfl ?_
 refine tkp 9 rfl ?_
 refine tkp 10 rfl ?_
 refine tkp 11 rfl ?_
 refine tkp 12 rfl ?_
 refine tkp 13 rfl ?_
 refine tkp 14 rfl ?_
 refine tkp 15 rfl ?_
 refine tkp 16 rfl ?_
 refine tkp 17 rfl ?_
 refine tkp 18 rfl ?_
 refine tkp 19 rfl ?_
 refine tkp 20 rfl ?_
 refine tkp 21 rfl ?_
 refine tkp 22 rfl ?_
 refine tkp 23 rfl ?_
 refine tkp 24 rfl ?_
 refine tkp 25 rfl ?_
 refine tkp 26 rfl ?_
 refine tkp 27 rfl ?_
 refine tkp 28 rfl ?_
 clear hS
 refine rdy 29 rfl (fun K hK => ?_)
 go_simp
 refine (put_nil at_ fc fn vk vn r1).mono ?_
 rintro e r2 ⟨rfl, hb⟩
 have C2 := zh (then' C1.out hb)
 clear hb
 go_wp2_with fail
 refine hK.out _ _ (HP.out _ C2.out) (fun hHeld => ?_)
 clear hK K hHeld
 try simp only [puts]
 have hS := HP.out _ C2.out
 refine tkp 30 rfl ?_
 refine tkp 31 rfl ?_
 refine tkp 32 rfl ?_
 refine tkp 33 rfl ?_
 refine tkp 34 rfl ?_
 refine tkp 35 rfl ?_
 refine tkp 36 rfl ?_
 refine tkp 37 rfl ?_
 refine tkp 38 rfl ?_
 refine tkp 39 rfl ?_
 clear hS
 refine rdy 40 rfl (fun K hK => ?_)
 go_simp
 refine (save_nil at_ an vk vn r2).mono ?_
 rintro e r3 ⟨rfl, hb⟩
 have C3 := zh (then' C2.out hb)
 clear hb
 go_wp2_with fail
 refine hK.out _ _ (HP.out _ C3.out) (fun hHeld => ?_)
 clear hK K hHeld
 try simp only [puts]
 have hS := HP.out _ C3.out
 refine tkp 41 rfl ?_
 refine tkp 42 rfl ?_
 refine tkp 43 rfl ?_
 refine tkp 44 rfl ?_
 refine tkp 45 rfl ?_
 refine tkp 46 rfl ?_
 clear hS
 refine rdy 47 rfl (fun K hK => ?_)
 go_simp
 refine (class_nil at_ r3).mono ?_
 rintro e r4 ⟨rfl, hb⟩
 have C4 := zh (then' C3.out hb)
 clear hb
 go_wp2_with fail
 refine hK.out _ _ (HP.out _ C4.out) (fun hHeld => ?_)
 clear hK K hHeld
 try simp only [puts]
 have hS := HP.out _ C4.out
 refine tkp 48 rfl ?_
 refine tkp 49 rfl ?_
 refine tkp 50 rfl ?_
 refine tkp 51 rfl ?_
 clear hS
 refine rdy 52 rfl (fun K hK => ?_)
 go_simp
 refine (len_nil r4).mono ?_
 rintro e r5 ⟨rfl, hb⟩
 have C5 := zh (then' C4.out hb)
 clear hb
 go_wp2_with fail
 refine hK.out _ _ (HP.out _ C5.out) (fun hHeld => ?_)
 clear hK K hHeld
 try simp only [puts]
 have hS := HP.out _ C5.out
 refine tkp 53 rfl ?_
 refine tkp 54 rfl ?_
 refine tkp 55 rfl ?_
 refine tkp 56 rfl ?_
 refine tkp 57 rfl ?_
 refine tkp 58 rfl ?_
 clear hS
 refine rdy 59 rfl (fun K hK => ?_)
 go_simp
 refine (fields_nil at_ r5).mono ?_
 rintro e r6 ⟨⟨A, c, rfl⟩, hb⟩
 have C6 := zh (then' C5.out hb)
 clear hb
 go_wp2_with fail
 refine hK.out _ _ (HP.out _ C6.out) (fun hHeld => ?_)
 clear hK K hHeld
 try simp only [puts]
 have hS := HP.out _ C6.out
 refine tkp 60 rfl ?_
 refine tkp 61 rfl ?_
 refine tkp 62 rfl ?_
 refine tkp 63 rfl ?_
 refine tkp 64 rfl ?_
 refine tkp 65 rfl ?_
 refine tkp 66 rfl ?_
 clear hS
 refine rdy 67 rfl (fun K hK => ?_)
 go_simp
 refine (items_nil at_ r6).mono ?_
 rintro e r7 ⟨⟨A2, c2, rfl⟩, hb⟩
 have C7 := zh (then' C6.out hb)
 clear hb
 go_wp2_with fail
 refine hK.out _ _ (HP.out _ C7.out) (fun hHeld => ?_)
 clear hK K hHeld
 try simp only [puts]
 have hS := HP.out _ C7.out
 refine tkp 68 rfl ?_
 refine tkp 69 rfl ?_
 refine tkp 70 rfl ?_
 refine tkp 71 rfl ?_
 refine tkp 72 rfl ?_
 refine tkp 74 rfl ?_
 clear hS
 refine rdy 73 rfl (fun K hK => ?_)
 go_simp
 refine (HZW.out r7).mono ?_
 rintro e r8 ⟨rfl, hb⟩
 have C8 := zh (then' C7.out hb)
 clear hb
 go_wp2_with fail
 refine hK.out _ _ (HP.out _ C8.out) (fun hHeld => ?_)
 clear hK K hHeld
 try simp only [puts]
 have hS := HP.out _ C8.out
 clear hS
 refine rdy 75 rfl (fun K hK => ?_)
 go_simp
 refine (HZR.out r8).mono ?_
 rintro e r9 ⟨rfl, hb⟩
 have C9 := zh (then' C8.out hb)
 clear hb
 go_wp2_with fail
 refine hK.out _ _ (HP.out _ C9.out) (fun hHeld => ?_)
 clear hK K hHeld
 try simp only [puts]
 have hS := HP.out _ C9.out
 refine tkp 76 rfl ?_
 refine tkp 77 rfl ?_
 refine tkp 78 rfl ?_
 clear hS
 refine wpAnyH_done (by kernel_rfl) ?_ _
 go_wp2
 go_ret
 exact ⟨rfl, HAL.out.trans (C9.out.mono HAL.out.size)⟩
end Go.Proofs.Ytdifmgeicnndfaa.storeNone
namespace Go.Proofs.Ytdifmgeicnndfaa.frame
open Go.ChangeShapes Go.WideShapes Go.ChangeAt Go.RowKit
end Go.Proofs.Ytdifmgeicnndfaa.frame
namespace Go.Proofs.Ytdifmgeicnndfaa.texts
open Go.RowKit
open words
def S (l : List ByteArray) : List Value := l.map Value.string
end Go.Proofs.Ytdifmgeicnndfaa.texts
namespace Go.Proofs.Ytdifmgeicnndfaa.frame
open Go.ChangeShapes Go.WideShapes Go.ChangeAt Go.RowKit
open words texts
end Go.Proofs.Ytdifmgeicnndfaa.frame
namespace Go.Proofs.Ytdifmgeicnndfaa.frame7
open Go.Joins Go.ChangeShapes Go.WideShapes Go.ChangeAt Go.RowKit Go.Deep
open words frame kindp opp op kind
section
variable {H : Type} {enc : TypeId × Value → H} {P : Program} {w : World} {base : Nat} {spare : Nat → Bool} {held : Bool}
end
end Go.Proofs.Ytdifmgeicnndfaa.frame7
namespace Go.Proofs.Ytdifmgeicnndfaa.Laid7
open Go.ChangeShapes Go.WideShapes Go.ChangeAt Go.RowKit
open kindp opp op kind
theorem open_two {H : Type} {enc : TypeId × Value → H} {P : Program} {w : World} {base : Nat} {spare : Nat → Bool} {held : Bool} {t : TypeId} {f0 f1 : Field} {fuel : Nat} {cs : List Value} {x : DataW H × List MemPlace} (ht : P.underlying t = some (.struct #[f0, f1])) (ce : P.cellsOf t = 2)
  (o0 : f0.offset = 0) (o1 : f1.offset = 1) (c0 : P.cellsOf f0.type = 1) (c1 : P.cellsOf f1.type = 1) (h : DataW.trod enc P w base spare held fuel t cs = some x) :
  ∃ (n : Nat) (v0 v1 : Value) (y0 y1 : DataW H × List MemPlace), cs = [v0, v1] ∧ x = (.agg [y0.1, y1.1], y0.2 ++ y1.2) ∧ DataW.trod enc P w base spare held n f0.type [v0] = some y0 ∧ DataW.trod enc P w base spare held n f1.type [v1] = some y1 := by
 obtain ⟨xs, n, _, hxy, hl, hxl, hf⟩ := DataW.trod_struct ht h
 rw [ce] at hl
 match xs, hxl, cs, hl with
 | [y0, y1], _, [v0, v1], _ =>
  have g0 := hf 0 f0 rfl
  have g1 := hf 1 f1 rfl
  simp [o0, o1, c0, c1] at g0 g1
  exact ⟨n, v0, v1, y0, y1, rfl, by rw [hxy]; simp, g0, g1⟩
end Go.Proofs.Ytdifmgeicnndfaa.Laid7
namespace Go.Proofs.Ytdifmgeicnndfaa.framej
open Go.ChangeShapes Go.WideShapes Go.ChangeAt Go.RowKit
open Go.Proofs.Ytdifmgeicnndfaa.words Go.Proofs.Ytdifmgeicnndfaa.frame
set_option maxRecDepth 100000
set_option linter.all false
theorem one_ty {H : Type} {enc : TypeId × Value → H} {W : World} {n : Nat} {cs : List Value} {x : DataW H × List MemPlace} (h : DataW.trod enc Try.prog W 0 (fun _ => true) true n 63 cs = some x) : ∃ (k : Int) (c : List UInt8), cs = [Value.int .i64 k, .string ⟨c.toArray⟩] := by
 obtain ⟨m, v0, v1, y0, y1, e, hx, g0, g1⟩ := Laid7.open_two Try.underlying63 (by kernel_rfl) rfl rfl (by kernel_rfl) (by kernel_rfl) h
 obtain ⟨k, e0, x0, -⟩ := DataW.trod_int Try.underlying61 g0
 obtain ⟨s, e1, x1, -⟩ := DataW.trod_string Try.underlying9 g1
 simp only [List.cons.injEq, and_true] at e0 e1
 subst e0 e1
 exact ⟨k, s.data.toList, by rw [e]⟩
theorem one_fr {H : Type} {enc : TypeId × Value → H} {W : World} {n : Nat} {cs : List Value} {x : DataW H × List MemPlace} (h : DataW.trod enc Try.prog W 0 (fun _ => true) true n 67 cs = some x) : ∃ (a c : List UInt8), cs = [Value.string ⟨a.toArray⟩, .string ⟨c.toArray⟩] := by
 obtain ⟨m, v0, v1, y0, y1, e, hx, g0, g1⟩ := Laid7.open_two Try.underlying67 (by kernel_rfl) rfl rfl (by kernel_rfl) (by kernel_rfl) h
 obtain ⟨r, e0, x0, -⟩ := DataW.trod_string Try.underlying9 g0
 obtain ⟨s, e1, x1, -⟩ := DataW.trod_string Try.underlying9 g1
 simp only [List.cons.injEq, and_true] at e0 e1
 subst e0 e1
 exact ⟨r.data.toList, s.data.toList, by rw [e]⟩
theorem one_va {H : Type} {enc : TypeId × Value → H} {W : World} {n : Nat} {cs : List Value} {x : DataW H × List MemPlace} (h : DataW.trod enc Try.prog W 0 (fun _ => true) true n 70 cs = some x) : ∃ (a c : Int), cs = [Value.int .i64 a, .int .i64 c] := by
 obtain ⟨m, v0, v1, y0, y1, e, hx, g0, g1⟩ := Laid7.open_two Try.underlying70 (by kernel_rfl) rfl rfl (by kernel_rfl) (by kernel_rfl) h
 obtain ⟨r, e0, x0, -⟩ := DataW.trod_int Try.underlying68 g0
 obtain ⟨s, e1, x1, -⟩ := DataW.trod_int Try.underlying2 g1
 simp only [List.cons.injEq, and_true] at e0 e1
 subst e0 e1
 exact ⟨r, s, by rw [e]⟩
theorem open_typ {H : Type} {enc : TypeId × Value → H} {W : World} {base : Nat} {v : Value} {d : DataW H} {p : List MemPlace}
  (hok : Value.okWide Try.prog W .any base 63 v) (h : DataW.Trod enc Try.prog W 0 (fun _ => true) true 63 v d p) :
  ∃ (k : Int) (c : List UInt8), v = .agg #[.int .i64 k, .string ⟨c.toArray⟩] := by
 obtain ⟨cs, rfl, -⟩ := okWide_struct Try.underlying63 hok
 obtain ⟨l⟩ := cs
 obtain ⟨fuel, hf⟩ := h
 obtain ⟨k, c, e⟩ := one_ty hf
 replace e : l = [.int .i64 k, .string ⟨c.toArray⟩] := e
 exact ⟨k, c, by rw [e]⟩
theorem ten (l : List Value) (h : l.length = 10) : ∃ c0 c1 c2 c3 c4 c5 c6 c7 c8 c9, l = [c0, c1, c2, c3, c4, c5, c6, c7, c8, c9] := by
 match l, h with
 | [c0, c1, c2, c3, c4, c5, c6, c7, c8, c9], _ => exact ⟨c0, c1, c2, c3, c4, c5, c6, c7, c8, c9, rfl⟩
theorem open_act {H : Type} {enc : TypeId × Value → H} {W : World} {base : Nat} {v : Value} {d : DataW H} {p : List MemPlace}
  (hok : Value.okWide Try.prog W .any base 72 v) (h : DataW.Trod enc Try.prog W 0 (fun _ => true) true 72 v d p) :
  ∃ (ak : Int) (ac : Nat) (at_ an : Int) (fc fn : List UInt8) (vk vn tk : Int) (tc : List UInt8), v = .agg #[.int .i64 ak, .int .u8 (ac : Int), .int .i64 at_, .int .i64 an, .string ⟨fc.toArray⟩, .string ⟨fn.toArray⟩, .int .i64 vk, .int .i64 vn, .int .i64 tk, .string ⟨tc.toArray⟩] := by
 have hc : Try.prog.cellsOf 72 = 10 := by kernel_rfl
 have h1 : Try.prog.cellsOf 3 = 1 := by kernel_rfl
 have h2 : Try.prog.cellsOf 5 = 1 := by kernel_rfl
 have h3 : Try.prog.cellsOf 2 = 1 := by kernel_rfl
 have h4 : Try.prog.cellsOf 67 = 2 := by kernel_rfl
 have h5 : Try.prog.cellsOf 70 = 2 := by kernel_rfl
 have h6 : Try.prog.cellsOf 63 = 2 := by kernel_rfl
 obtain ⟨cs, rfl, -⟩ := okWide_struct Try.underlying72 hok
 obtain ⟨l⟩ := cs
 obtain ⟨fuel, hf⟩ := h
 replace hf : DataW.trod enc Try.prog W 0 (fun _ => true) true fuel 72 l = some (d, p) := hf
 obtain ⟨xs, n, -, hx, hcl, hxl, hat⟩ := DataW.trod_struct Try.underlying72 hf
 rw [hc] at hcl
 obtain ⟨c0, c1, c2, c3, c4, c5, c6, c7, c8, c9, rfl⟩ := ten l hcl
 match xs, hxl with
 | [y0, y1, y2, y3, y4, y5, y6], _ =>
  have t0 : DataW.trod enc Try.prog W 0 (fun _ => true) true n 3 ((List.drop 0 [c0, c1, c2, c3, c4, c5, c6, c7, c8, c9]).take (Try.prog.cellsOf 3)) = some y0 := hat 0 _ rfl
  have t1 : DataW.trod enc Try.prog W 0 (fun _ => true) true n 5 ((List.drop 1 [c0, c1, c2, c3, c4, c5, c6, c7, c8, c9]).take (Try.prog.cellsOf 5)) = some y1 := hat 1 _ rfl
  have t2 : DataW.trod enc Try.prog W 0 (fun _ => true) true n 2 ((List.drop 2 [c0, c1, c2, c3, c4, c5, c6, c7, c8, c9]).take (Try.prog.cellsOf 2)) = some y2 := hat 2 _ rfl
  have t3 : DataW.trod enc Try.prog W 0 (fun _ => true) true n 2 ((List.drop 3 [c0, c1, c2, c3, c4, c5, c6, c7, c8, c9]).take (Try.prog.cellsOf 2)) = some y3 := hat 3 _ rfl
  have t4 : DataW.trod enc Try.prog W 0 (fun _ => true) true n 67 ((List.drop 4 [c0, c1, c2, c3, c4, c5, c6, c7, c8, c9]).take (Try.prog.cellsOf 67)) = some y4 := hat 4 _ rfl
  have t5 : DataW.trod enc Try.prog W 0 (fun _ => true) true n 70 ((List.drop 6 [c0, c1, c2, c3, c4, c5, c6, c7, c8, c9]).take (Try.prog.cellsOf 70)) = some y5 := hat 5 _ rfl
  have t6 : DataW.trod enc Try.prog W 0 (fun _ => true) true n 63 ((List.drop 8 [c0, c1, c2, c3, c4, c5, c6, c7, c8, c9]).take (Try.prog.cellsOf 63)) = some y6 := hat 6 _ rfl
  rw [h1] at t0; rw [h2] at t1; rw [h3] at t2 t3; rw [h4] at t4; rw [h5] at t5; rw [h6] at t6
  simp only [List.drop_succ_cons, List.drop_zero, List.take_succ_cons, List.take_zero] at t0 t1 t2 t3 t4 t5 t6
  obtain ⟨k0, e0, -, -⟩ := DataW.trod_int Try.underlying3 t0
  obtain ⟨k1, e1, -, hw⟩ := DataW.trod_int Try.underlying5 t1
  obtain ⟨k2, e2, -, -⟩ := DataW.trod_int Try.underlying2 t2
  obtain ⟨k3, e3, -, -⟩ := DataW.trod_int Try.underlying2 t3
  obtain ⟨f0, f1, e4⟩ := one_fr t4
  obtain ⟨v0, v1, e5⟩ := one_va t5
  obtain ⟨g0, g1, e6⟩ := one_ty t6
  have hb := bounds_u8 hw
  simp only [List.cons.injEq, and_true] at e0 e1 e2 e3 e4 e5 e6
  obtain ⟨rfl, rfl⟩ := e4
  obtain ⟨rfl, rfl⟩ := e5
  obtain ⟨rfl, rfl⟩ := e6
  subst e0 e1 e2 e3
  exact ⟨k0, k1.toNat, k2, k3, f0, f1, v0, v1, g0, g1, by rw [Int.toNat_of_nonneg hb.1]⟩
end Go.Proofs.Ytdifmgeicnndfaa.framej

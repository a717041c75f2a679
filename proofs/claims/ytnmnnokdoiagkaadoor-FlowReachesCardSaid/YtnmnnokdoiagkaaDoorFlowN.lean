/-
 Layer 14: what a function that yields numbers tells, gathered, sorted, each once; where it goes on behind a place: the program's answers.
-/
import Derived.Lib.SlKeysI
import Derived.Test.YtnmnnokdoiagkaaDoorFlow
import Derived.Test.YtnmnnokdoiagkaaDoorShelf
import Derived.Test.YtnmnnokdoiagkaaDoorShelf2
namespace Go.Proofs.YtnmnnokdoiagkaaDoor.flow
open Go.RowKit Go.Shelf
open words kindp opp op prg flowp
attribute [local go_sem] Oper.semAt_some

/-- what holds between two rounds -/
def AHeld (w : World) (pre : List Int) (W : World) : Prop :=
 (∃ v, Boxed W w.heap.size 29 v ∧ W.ownsRow w.heap.size 3 1 v pre.length (IL pre) ∧ True) ∧ Below w.heap.size w W
theorem aheld_own (w : World) (B : Nat) (hB : w.heap.size ≤ B) : OwnFrom B (AHeld w) :=
 OwnFrom.and (Own.from (holdsRow_own w.heap.size w.heap.size 29 3 1 (fun pre => pre.length) (fun pre => IL pre) (fun _ _ => True)) _) (ownFrom_below (Nat.le_refl _) hB)
/-- what has been gathered -/
def Got (S : List Int → Prop) (w : World) (e : Ending) (w' : World) : Prop :=
 ∃ v xs, e = .returned v ∧ S xs ∧ w'.ownsRow w.heap.size 3 1 v xs.length (IL xs) ∧ Below w.heap.size w w'

set_option maxRecDepth 100000 in
set_option maxHeartbeats 4000000 in
theorem append_in (g : Nat) (lb : Array Value) (eg : ∀ args w, (callFunc g args).run Tryd.prog w = .ok (.enter g args) w) (S Sp : List Int → Prop) (N : Nat) (hN : N ≤ 1000) (w : World) (hseq : SeqStopsK Fence.wide 2 Tryd.prog g lb encP (Below w.heap.size) S Sp N w) :
  CallsIn Fence.wide 3 Tryd.prog 48 #[.slice none 0 0, .func (.func g) #[] lb] w (Got S w) := by
 obtain ⟨i0, hi, hz0, hz1, hz2⟩ := info_parts infoI
 have HSQ := Lib.hid hseq
 clear hseq
 refine callsIn_of_wp_marks Tryd.func48 rfl trivial ?_ rfl
 simp only [Tryd.ntmps48, List.size_toArray, List.length_cons, List.length_nil, Nat.reduceAdd, Nat.reduceSub, Array.replicate_succ, Array.replicate_zero, List.push_toArray, List.append_toArray, List.nil_append, List.cons_append]
 gi_wp2
 have hW0 : ∃ W0, w.alloc (.cells #[.slice none 0 0] 29) = W0 := ⟨_, rfl⟩
 have b1 := Boxed.new w 29 (.slice none 0 0)
 have hBel : Below w.heap.size w (w.alloc (.cells #[.slice none 0 0] 29)) := (Below.refl _ w).alloc (Nat.le_refl _) _
 have hsz : (w.alloc (.cells #[.slice none 0 0] 29)).heap.size = w.heap.size + 1 := by simp
 have hHeld : AHeld w [] (w.alloc (.cells #[.slice none 0 0] 29)) := ⟨⟨_, b1, World.ownsRow_nil _ _ _ _, trivial⟩, hBel⟩
 clear b1
 obtain ⟨W0, hW0⟩ := hW0
 try simp only [World.size_alloc]
 rw [hW0] at hBel hsz hHeld ⊢
 clear hW0
 refine wpIn_rangeFunc_ownG rfl (by omega) (gf := g) (lb := lb) rfl trivial eg
  HSQ.out (fun h k => h.trans k) (fun W l o o' hl h h1 h2 => belowK_b (w := W0) (by omega) W l o o' hl h h1 h2) hBel (fun _ => rfl)
  (AHeld w) (fun _ _ _ => False) (aheld_own w _ (by omega)) (fun _ _ _ _ _ hs _ _ => hs) hHeld
  (fun x => { tmps := #[.slice none 0 0, .func (.func g) #[] lb, .pointer (some ⟨w.heap.size, 0, none⟩), undef, .slice none 0 0, .int .i64 x, .func (.func g) #[] lb, .int .i64 x, undef, undef, undef, undef, undef], defers := [] }) ?assign ?body ?done ?stop
 case assign =>
  intro l x W K hK
  dsimp only [encP]
  gi_wp2
  exact hK
 case body =>
  rintro l pre x W ⟨⟨v, hv, hrow, -⟩, hB⟩ hlt
  have hc0 := hv.cell
  have hle : w.heap.size ≤ w.heap.size := Nat.le_refl _
  have hmx1 : pre.length + 1 ≤ maxLen := by unfold maxLen; omega
  gi_wp2_with (gi_at_builtin; refine wpListIn_append_own _ rfl _ _ 29 rfl w.heap.size 3 i0 (.int .i64 0) 1 8 Tryd.underlying29 hi hz0 hz1 hz2 rfl (by decide) _ _ _ rfl (hrow.alloc _) ⟨W.heap.size, 0, none⟩ 1 1 [.int .i64 x] rfl rfl (cell_one_new _ _ _) (by simp [Value.oneCell']) (by omega) (by omega) (by have := hB.size; simp; omega) ?_; intro v' w1 hown' hgrow _; obtain ⟨g', cap', rfl⟩ := ownsRow_succ hown'; obtain ⟨hv1, hv2, hr2', hk2, hb2⟩ := hv.appended (by decide) hrow hB.size hle hown' hgrow; have hc1 := hv1.cell; have hf1 := hv1.frozen)
  exact ⟨hk2.from _, hb2, ⟨⟨_, hv2, by rw [IL_app, List.length_append]; exact hr2', trivial⟩, hB.trans hb2⟩⟩
 case done =>
  rintro D ys W hD hS ⟨⟨v, hv, hrow, -⟩, hB⟩ hK
  have hc0 := hv.cell
  obtain ⟨A9, c9, rfl, -, -, -⟩ := own_rd hrow
  gi_wp2
  refine ⟨by simp, .inl ⟨_, _, rfl, run_takeDeferred hK, ?_⟩⟩
  exact ⟨_, results_tmp rfl _ _ _, .slice A9 ys.length c9, ys, rfl, hS, ownsRow_putObj hrow (.deferred none) hK rfl, hB.trans (belowK_b (w := w) (Nat.le_refl _) W D _ _ (by omega) hK rfl rfl)⟩
 case stop =>
  rintro D c pre W hD _ h _
  exact h.elim
set_option maxRecDepth 100000 in
set_option maxHeartbeats 400000 in
theorem collect_in (g : Nat) (lb : Array Value) (eg : ∀ args w, (callFunc g args).run Tryd.prog w = .ok (.enter g args) w) (S Sp : List Int → Prop) (N : Nat) (hN : N ≤ 1000) (w : World) (hseq : SeqStopsK Fence.wide 2 Tryd.prog g lb encP (Below w.heap.size) S Sp N w) :
  CallsIn Fence.wide 4 Tryd.prog 41 #[.func (.func g) #[] lb] w (Got S w) := by
 have HAP := Lib.hid (append_in g lb eg S Sp N hN w hseq)
 unfold Got at HAP ⊢
 clear hseq
 refine callsIn_of_wp Tryd.func41 rfl trivial ?_ rfl
 simp only [Tryd.ntmps41, List.size_toArray, List.length_cons, List.length_nil, Nat.reduceAdd, Nat.reduceSub, Array.replicate_succ, Array.replicate_zero, List.push_toArray, List.append_toArray, List.nil_append, List.cons_append]
 gi_wp2_with fail
 refine ⟨trivial, HAP.out.mono ?_⟩
 rintro e w1 ⟨v, xs, rfl, hS, hrow, hb⟩
 have HS := Lib.hid hS; have HR := Lib.hid hrow; have HB := Lib.hid hb
 clear hS hrow hb HAP
 gi_wp2
 go_ret
 exact ⟨v, xs, rfl, HS.out, HR.out, HB.out⟩

/-- a row of the call's own, sorted -/
theorem sort_own (base : Nat) (v : Value) (xs : List Int) (w : World) (h : w.ownsRow base 3 1 v xs.length (IL xs)) (hn : xs.length ≤ 1000) (hb : base ≤ w.heap.size) :
  Calls Tryd.prog 37 #[v] w fun e w' => e = .returned (.tuple #[]) ∧ w'.ownsRow base 3 1 v xs.length (IL (xs.mergeSort fun x y => decide (x ≤ y))) ∧ Below base w w' := by
 rcases h.2 with ⟨rfl, hz⟩ | ⟨gb, cap, cur, rfl, hbase, hgb, r1, r2, r3, r4⟩
 ·have hx : xs = [] := List.eq_nil_of_length_eq_zero (by simpa using hz)
  subst hx
  refine (Tryd.slices_Sort_int_none none 0 w).mono ?_
  rintro e w' ⟨rfl, rfl⟩
  exact ⟨rfl, by simpa using h, Below.refl _ _⟩
 ·have hH : Go.Sort.Holds (Value.int .i64) w gb 0 xs.toArray := holds_of_block_i hgb (by rw [Nat.mul_one] at r4; exact r4)
  have hgl : gb < w.heap.size := (Array.getElem?_eq_some_iff.1 hgb).1
  refine (Tryd.slices_Sort_int gb 0 cap xs w hH hgl (by omega)).mono ?_
  rintro e w' ⟨rfl, nn, os, rfl⟩
  refine ⟨rfl, ownsRow_sorted_i (by simp) hbase hgb r1 r2 r3, (Below.refl _ w).grown (grownBy_sorted_i _) hb (fun j hj => by cases hj; exact hbase)⟩
/-- a row of the call's own, each once -/
theorem compact_own (base : Nat) (v : Value) (xs : List Int) (w : World) (h : w.ownsRow base 3 1 v xs.length (IL xs)) (hn : xs.length ≤ 1000) (hb : base ≤ w.heap.size) :
  Calls Tryd.prog 29 #[v] w fun e w' => ∃ A c, e = .returned (.slice A (Lib.compact xs).length c) ∧ Rd w' A (IL (Lib.compact xs)) ∧ Below base w w' := by
 rcases h.2 with ⟨rfl, hz⟩ | ⟨gb, cap, cur, rfl, hbase, hgb, r1, r2, r3, r4⟩
 ·have hx : xs = [] := List.eq_nil_of_length_eq_zero (by simpa using hz)
  subst hx
  refine (Tryd.slices_Compact_int_empty none 0 w).mono ?_
  rintro e w' ⟨rfl, rfl⟩
  exact ⟨none, 0, rfl, Rd.nil _ _, Below.refl _ _⟩
 ·have hH : Go.Sort.Holds (Value.int .i64) w gb 0 xs.toArray := holds_of_block_i hgb (by rw [Nat.mul_one] at r4; exact r4)
  have hgl : gb < w.heap.size := (Array.getElem?_eq_some_iff.1 hgb).1
  refine (Tryd.slices_Compact_int gb 0 cap xs w hH (by omega) r1).mono ?_
  rintro e w' ⟨rfl, q, hw'⟩
  have hcl : (Lib.compact xs).length ≤ xs.length := by
   unfold Lib.compact Lib.compactUpTo
   rw [List.length_map]
   refine Nat.le_trans (List.length_filter_le _ _) ?_
   simp
  have hg : Go.Sort.grow w' #[] = w' := by simp [Go.Sort.grow]
  rw [hw'] at hg
  have hown := ownsRow_sorted_i (os := #[]) (n := q) (ts := Lib.compact xs ++ List.replicate (xs.length - (Lib.compact xs).length) 0) (ss := xs) (by simp; omega) hbase hgb r1 r2 r3
  have hgr := grownBy_sorted_i (w := w) (g := gb) (n := q) (os := #[]) (Lib.compact xs ++ List.replicate (xs.length - (Lib.compact xs).length) 0).toArray
  rw [hg, ← hw'] at hown hgr
  refine ⟨_, _, rfl, ?_, (Below.refl _ w).grown hgr hb (fun j hj => by cases hj; exact hbase)⟩
  obtain ⟨A', c', e1, -, -, hr⟩ := own_rd hown
  cases e1
  have := hr.take (Lib.compact xs).length
  rw [List.map_append, List.take_left' (by simp)] at this
  exact this
set_option maxRecDepth 100000 in
set_option maxHeartbeats 400000 in
theorem sorted_in (g : Nat) (lb : Array Value) (eg : ∀ args w, (callFunc g args).run Tryd.prog w = .ok (.enter g args) w) (S Sp : List Int → Prop) (N : Nat) (hN : N ≤ 1000) (hS : ∀ xs, S xs → xs.length ≤ 1000) (w : World) (hseq : SeqStopsK Fence.wide 2 Tryd.prog g lb encP (Below w.heap.size) S Sp N w) :
  CallsIn Fence.wide 5 Tryd.prog 30 #[.func (.func g) #[] lb] w fun e w' => ∃ v xs, e = .returned v ∧ S xs ∧ w'.ownsRow w.heap.size 3 1 v xs.length (IL (xs.mergeSort fun x y => decide (x ≤ y))) ∧ Below w.heap.size w w' := by
 have HCO := Lib.hid (collect_in g lb eg S Sp N hN w hseq)
 unfold Got at HCO
 clear hseq
 refine callsIn_of_wp Tryd.func30 rfl trivial ?_ rfl
 simp only [Tryd.ntmps30, List.size_toArray, List.length_cons, List.length_nil, Nat.reduceAdd, Nat.reduceSub, Array.replicate_succ, Array.replicate_zero, List.push_toArray, List.append_toArray, List.nil_append, List.cons_append]
 gi_wp2_with fail
 refine ⟨trivial, HCO.out.mono ?_⟩
 rintro e w1 ⟨v, xs, rfl, hs, hrow, hb⟩
 have HSO := Lib.hid (sort_own _ v xs w1 hrow (hS xs hs) hb.size)
 have HS := Lib.hid hs; have HB := Lib.hid hb
 clear hs hrow hb HCO hS
 gi_wp2_with fail
 refine ⟨trivial, callsIn_wide.2 (HSO.out.mono ?_)⟩
 rintro e w2 ⟨rfl, hrow, hb⟩
 have HR := Lib.hid hrow; have HB2 := Lib.hid hb
 clear hrow hb HSO
 gi_wp2
 go_ret
 exact ⟨v, xs, rfl, HS.out, HR.out, HB.out.trans HB2.out⟩

set_option maxRecDepth 100000 in
set_option maxHeartbeats 400000 in
theorem next_w (A : Option Addr) (c : Nat) (L : List InM) (z : Int) (w : World) (hz : L.length ≤ 281474976710656) (hr : Rd w A (L.flatMap inC)) (hs : Sh w) :
  Calls Tryd.prog 13 #[.slice A L.length c, .int .i64 z] w fun e w' => ∃ A' c', e = .returned (.slice A' (nextL (L.map (·.i)) z).length c') ∧ Rd w' A' (IL (nextL (L.map (·.i)) z)) ∧ Below w.heap.size w w' := by
 obtain ⟨W, hW⟩ : ∃ W, W = (w.alloc (.cells #[.slice A L.length c] 22)).alloc (.cells #[.int .i64 z] 3) := ⟨_, rfl⟩
 have hal : Below w.heap.size w W := by rw [hW]; exact (((Below.refl _ w).alloc (Nat.le_refl _) _).alloc (by simp) _)
 have hsz : W.heap.size = w.heap.size + 2 := by rw [hW]; simp
 have h1 : W.cell? ⟨w.heap.size, 0, none⟩ = some (.slice A L.length c) := by rw [hW]; exact ((Below.refl _ (w.alloc (.cells #[.slice A L.length c] 22))).alloc (Nat.le_refl _) _).cell (p := ⟨w.heap.size, 0, none⟩) (by simp) |>.trans (cell_of_row _ _ 0 _ _ _ (heap_alloc_new w _))
 have h2 : W.cell? ⟨w.heap.size + 1, 0, none⟩ = some (.int .i64 z) := by
  have := heap_alloc_new (w.alloc (.cells #[.slice A L.length c] 22)) (.cells #[.int .i64 z] 3)
  rw [World.size_alloc, ← hW] at this
  exact cell_of_row _ _ 0 _ _ _ this
 have hon := onL_len (L.map (·.i)) z
 have HSO := Lib.hid (sorted_in 42 #[.pointer (some ⟨w.heap.size, 0, none⟩), .pointer (some ⟨w.heap.size + 1, 0, none⟩)] (enters_of Tryd.func42 (by kernel_rfl) rfl) _ _ _ (by omega) (fun xs hx => by rw [hx]; omega) W
  (on_stops 2 (by omega) w.heap.size (w.heap.size + 1) W.heap.size A c L z w hz (by omega) (by omega) (by omega) hr hs W hal (Nat.le_refl _) h1 h2))
 have HON := Lib.hid (onward_w A L.length c z w)
 have HAL := Lib.hid hal; have HW := Lib.hid hW; have HLN := Lib.hid hon
 have HNX := Lib.hid (show nextL (L.map (·.i)) z = Lib.compact ((onL (L.map (·.i)) z).mergeSort fun x y => decide (x ≤ y)) from rfl)
 generalize onL (L.map (·.i)) z = O at *
 generalize nextL (L.map (·.i)) z = X at *
 clear hal hsz h1 h2 hon hr hs hz hW
 go_enter Tryd.func13, Tryd.ntmps13
 go_wp2_with fail
 refine HON.out.mono ?_
 rintro e w1 ⟨rfl, hw1⟩
 rw [← HW.out] at hw1
 subst w1
 go_wp2_with fail
 refine (callsIn_wide.1 HSO.out).mono ?_
 rintro e w2 ⟨v, xs, rfl, rfl, hrow, hb⟩
 have hCO := compact_own _ v (xs.mergeSort fun x y => decide (x ≤ y)) w2 (by rw [List.length_mergeSort]; exact hrow) (by rw [List.length_mergeSort]; have := HLN.out; omega) hb.size
 rw [← HNX.out] at hCO
 have HCO := Lib.hid hCO; have HB := Lib.hid hb
 clear hrow hb hCO HSO HON
 go_wp2_with fail
 refine HCO.out.mono ?_
 rintro e w3 ⟨A', c', rfl, hr3, hb3⟩
 have HR3 := Lib.hid hr3; have HB3 := Lib.hid hb3
 clear hr3 hb3 HCO
 go_wp2
 go_ret
 exact ⟨A', c', rfl, HR3.out, HAL.out.trans ((HB.out.trans HB3.out).mono HAL.out.size)⟩
end Go.Proofs.YtnmnnokdoiagkaaDoor.flow

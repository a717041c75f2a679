/-
  Layer 7: the registers that an instruction reads: the program's answer.
-/
import Derived.Test.YtdenpefihplnoaaDoorOpI
namespace Go.Proofs.YtdenpefihplnoaaDoor.op
open Go.RowKit Go.Shelf
open Go.Proofs.YtdenpefihplnoaaDoor.words Go.Proofs.YtdenpefihplnoaaDoor.kindp Go.Proofs.YtdenpefihplnoaaDoor.opp
attribute [local go_sem] Oper.semAt_some

def useF (i : In) (pre : List (UInt8 × Int)) : List Int := (pre.filter fun x => decide (x.1 ≠ 97) || decide (i.o = 14)).map (·.2)
theorem useF_in {i : In} {pre : List (UInt8 × Int)} {x : UInt8 × Int} (h : (decide (x.1 ≠ 97) || decide (i.o = 14)) = true) : useF i (pre ++ [x]) = useF i pre ++ [x.2] := by
  unfold useF; rw [List.filter_append, List.filter_cons, if_pos h]; simp
theorem useF_out {i : In} {pre : List (UInt8 × Int)} {x : UInt8 × Int} (h : (decide (x.1 ≠ 97) || decide (i.o = 14)) = false) : useF i (pre ++ [x]) = useF i pre := by
  unfold useF; rw [List.filter_append, List.filter_cons, if_neg (by rw [h]; simp)]; simp
theorem useF_len (i : In) (pre : List (UInt8 × Int)) : (useF i pre).length ≤ pre.length := by
  unfold useF; rw [List.length_map]; exact List.length_filter_le _ _
theorem let_len (i : In) (x : UInt8) : (lettered i x).length ≤ 1 + i.ar.length := by
  by_cases h : x = 118
  · rw [h, let_v]; omega
  · have := short_let (i := i) h; omega
theorem regs_len (i : In) : (regsL i).length ≤ 4 * (1 + i.ar.length) := by
  have h4 := (shape_letters i.o).1
  have hh : ∀ s : Tx, (flat i s).length ≤ s.length * (1 + i.ar.length) := by
    intro s
    induction s with
    | nil => simp [flat]
    | cons c s ih =>
      have e : flat i (c :: s) = ((lettered i c).map fun r => (c, r)) ++ flat i s := by simp [flat]
      have := let_len i c
      rw [e, List.length_append, List.length_map, List.length_cons, Nat.succ_mul]
      omega
  have h5 := hh (shapeL i.o)
  have h6 := Nat.mul_le_mul_right (1 + i.ar.length) h4
  show (flat i (shapeL i.o)).length ≤ _
  omega
set_option maxRecDepth 100000 in
theorem infoI : (Tryd.prog.info? 3).map (fun i => (i.zero, i.size, i.bytes)) = some (some (.int .i64 0), 1, 8) := by kernel_rfl
/-- what holds between two rounds -/
def UHeld (i : In) (A : Option Addr) (c : Nat) (w : World) (pre : List (UInt8 × Int)) (W : World) : Prop :=
  ((∃ v, Boxed W (w.heap.size + 1) 26 v ∧ W.ownsRow w.heap.size 3 1 v (useF i pre).length (IL (useF i pre)) ∧ True) ∧
    (W.heap[w.heap.size]? = some (.cells (InV i A c) 28 (0, 0)) ∧ W.heap[w.heap.size + 1 + 1]? = some (.cells (InV i A c) 28 (0, 0)))) ∧ Below w.heap.size w W
theorem row_own2 {β : Type} (B : Nat) (cs : Array Value) (t : TypeId) (fz : Nat × Nat) : Own (fun (_ : β) W => W.heap[B]? = some (.cells cs t fz)) := by
  intro s A A' row h hg hr
  refine (hg.block B (Array.getElem?_eq_some_iff.1 h).1 (fun e => ?_)).trans h
  obtain ⟨o, ho, hc⟩ := hr B e.symm
  rw [h] at ho; cases ho; cases hc
theorem uheld_own (i : In) (A : Option Addr) (c : Nat) (w : World) (B : Nat) (hB : w.heap.size ≤ B) : OwnFrom B (UHeld i A c w) :=
  OwnFrom.and (OwnFrom.and (Own.from (holdsRow_own w.heap.size (w.heap.size + 1) 26 3 1 (fun pre => (useF i pre).length) (fun pre => IL (useF i pre)) (fun _ _ => True)) _)
    (OwnFrom.and (Own.from (row_own2 _ _ _ _) _) (Own.from (row_own2 _ _ _ _) _))) (ownFrom_below (Nat.le_refl _) hB)
/-- a block of another sort stays behind an append to one's own row -/
theorem row_kept2 {W w1 : World} {tmp : Obj} {base B C k size : Nat} {t e : TypeId} {v : Value} {xs : List Value} {cs : Array Value} {fz : Nat × Nat} (h : W.heap[B]? = some (.cells cs t fz)) (hte : t ≠ e)
    (hrow : W.ownsRow base e size v k xs) (hgrow : (W.alloc tmp).grownBy w1 v.ownBlock) (hne : B ≠ C) (v' : Value) : (w1.setCell ⟨C, 0, none⟩ v').heap[B]? = some (.cells cs t fz) := by
  have hlt := (Array.getElem?_eq_some_iff.1 h).1
  have ha : (W.alloc tmp).heap[B]? = some (.cells cs t fz) := (Below.heap_alloc W tmp B hlt).trans h
  have hnr : some B ≠ v.ownBlock := by
    rcases hrow.2 with ⟨rfl, _⟩ | ⟨g, cap, cur, rfl, _, hgb, _⟩
    · simp [Value.ownBlock]
    · intro e'
      obtain rfl : B = g := by simpa [Value.ownBlock] using e'
      rw [h] at hgb
      simp only [Option.some.injEq, Obj.cells.injEq] at hgb
      exact hte hgb.2.1
  have h1 : w1.heap[B]? = some (.cells cs t fz) := (hgrow.block B (Array.getElem?_eq_some_iff.1 ha).1 hnr).trans ha
  exact ((grownBy_setCell' w1 C v').block B (Array.getElem?_eq_some_iff.1 h1).1 (fun e => hne (by cases e; rfl))).trans h1
theorem walks_of {W W' : World} (h : KeepsOthers W W') : KeepsWalks W W' := ⟨h.size, fun k o hk ho => h.same k o hk (Obj.not_cells_of_walk ho)⟩
/-- what Uses answers -/
def UseP (i : In) (w : World) (e : Ending) (w' : World) : Prop :=
  (∃ A c, e = .returned (.slice A (usesL i).length c) ∧ Rd w' A (IL (usesL i))) ∧ Below w.heap.size w w'

set_option maxRecDepth 100000 in
set_option maxHeartbeats 4000000 in
theorem uses_in (i : In) (A : Option Addr) (c : Nat) (w : World) (hs : Sh w) (hr : Rd w A (IL i.ar)) (hc : i.ar.length ≤ c) (hz : i.ar.length ≤ 1000) :
    CallsIn Fence.wide 3 Tryd.prog 24 #[.agg (InV i A c)] w (UseP i w) := by
  obtain ⟨i0, hi, hz0, hz1, hz2⟩ := info_parts infoI
  have hrl := regs_len i
  have HMK := Lib.hid (fun w => maker_in 2 i A c w)
  unfold InV at HMK ⊢
  refine callsIn_of_wp_marks Tryd.func24 rfl trivial ?_ rfl
  simp only [Tryd.ntmps24, List.size_toArray, List.length_cons, List.length_nil, Nat.reduceAdd, Nat.reduceSub, Array.replicate_succ, Array.replicate_zero, List.push_toArray, List.append_toArray, List.nil_append, List.cons_append]
  gi_wp2_with (refine ⟨trivial, ?_⟩; gi_at_call 37; refine (HMK.out _).mono ?_; rintro e w' ⟨rfl, rfl⟩)
  clear HMK
  have hW0 : ∃ W0, ((w.alloc (.cells #[.int .i64 i.o, .int .i64 i.a, .int .i64 i.b, .int .i64 i.c, .int .i64 i.k, .string ⟨i.cl.toArray⟩, .string ⟨i.nm.toArray⟩, .string ⟨i.ds.toArray⟩, .slice A i.ar.length c] 28)).alloc (.cells #[.slice none 0 0] 26)).alloc (.cells #[.int .i64 i.o, .int .i64 i.a, .int .i64 i.b, .int .i64 i.c, .int .i64 i.k, .string ⟨i.cl.toArray⟩, .string ⟨i.nm.toArray⟩, .string ⟨i.ds.toArray⟩, .slice A i.ar.length c] 28) = W0 := ⟨_, rfl⟩
  have b1 := Boxed.new (w.alloc (.cells #[.int .i64 i.o, .int .i64 i.a, .int .i64 i.b, .int .i64 i.c, .int .i64 i.k, .string ⟨i.cl.toArray⟩, .string ⟨i.nm.toArray⟩, .string ⟨i.ds.toArray⟩, .slice A i.ar.length c] 28)) 26 (.slice none 0 0)
  rw [World.size_alloc] at b1
  have r0 : (((w.alloc (.cells #[.int .i64 i.o, .int .i64 i.a, .int .i64 i.b, .int .i64 i.c, .int .i64 i.k, .string ⟨i.cl.toArray⟩, .string ⟨i.nm.toArray⟩, .string ⟨i.ds.toArray⟩, .slice A i.ar.length c] 28)).alloc (.cells #[.slice none 0 0] 26)).alloc (.cells #[.int .i64 i.o, .int .i64 i.a, .int .i64 i.b, .int .i64 i.c, .int .i64 i.k, .string ⟨i.cl.toArray⟩, .string ⟨i.nm.toArray⟩, .string ⟨i.ds.toArray⟩, .slice A i.ar.length c] 28)).heap[w.heap.size]? = some (.cells (InV i A c) 28 (0, 0)) :=
    (Below.heap_alloc _ _ _ (by simp; omega)).trans ((Below.heap_alloc _ _ _ (by simp)).trans (heap_alloc_new w _))
  have r2 := heap_alloc_new ((w.alloc (.cells #[.int .i64 i.o, .int .i64 i.a, .int .i64 i.b, .int .i64 i.c, .int .i64 i.k, .string ⟨i.cl.toArray⟩, .string ⟨i.nm.toArray⟩, .string ⟨i.ds.toArray⟩, .slice A i.ar.length c] 28)).alloc (.cells #[.slice none 0 0] 26)) (.cells #[.int .i64 i.o, .int .i64 i.a, .int .i64 i.b, .int .i64 i.c, .int .i64 i.k, .string ⟨i.cl.toArray⟩, .string ⟨i.nm.toArray⟩, .string ⟨i.ds.toArray⟩, .slice A i.ar.length c] 28)
  rw [World.size_alloc, World.size_alloc] at r2
  have hBel : Below w.heap.size w (((w.alloc (.cells #[.int .i64 i.o, .int .i64 i.a, .int .i64 i.b, .int .i64 i.c, .int .i64 i.k, .string ⟨i.cl.toArray⟩, .string ⟨i.nm.toArray⟩, .string ⟨i.ds.toArray⟩, .slice A i.ar.length c] 28)).alloc (.cells #[.slice none 0 0] 26)).alloc (.cells #[.int .i64 i.o, .int .i64 i.a, .int .i64 i.b, .int .i64 i.c, .int .i64 i.k, .string ⟨i.cl.toArray⟩, .string ⟨i.nm.toArray⟩, .string ⟨i.ds.toArray⟩, .slice A i.ar.length c] 28)) := ((((Below.refl _ w).alloc (Nat.le_refl _) _).alloc (by simp) _).alloc (by simp; omega) _)
  have hsz : (((w.alloc (.cells #[.int .i64 i.o, .int .i64 i.a, .int .i64 i.b, .int .i64 i.c, .int .i64 i.k, .string ⟨i.cl.toArray⟩, .string ⟨i.nm.toArray⟩, .string ⟨i.ds.toArray⟩, .slice A i.ar.length c] 28)).alloc (.cells #[.slice none 0 0] 26)).alloc (.cells #[.int .i64 i.o, .int .i64 i.a, .int .i64 i.b, .int .i64 i.c, .int .i64 i.k, .string ⟨i.cl.toArray⟩, .string ⟨i.nm.toArray⟩, .string ⟨i.ds.toArray⟩, .slice A i.ar.length c] 28)).heap.size = w.heap.size + 3 := by simp
  have hHeld : UHeld i A c w [] (((w.alloc (.cells #[.int .i64 i.o, .int .i64 i.a, .int .i64 i.b, .int .i64 i.c, .int .i64 i.k, .string ⟨i.cl.toArray⟩, .string ⟨i.nm.toArray⟩, .string ⟨i.ds.toArray⟩, .slice A i.ar.length c] 28)).alloc (.cells #[.slice none 0 0] 26)).alloc (.cells #[.int .i64 i.o, .int .i64 i.a, .int .i64 i.b, .int .i64 i.c, .int .i64 i.k, .string ⟨i.cl.toArray⟩, .string ⟨i.nm.toArray⟩, .string ⟨i.ds.toArray⟩, .slice A i.ar.length c] 28)) :=
    ⟨⟨⟨_, b1.alloc _, World.ownsRow_nil _ _ _ _, trivial⟩, r0, r2⟩, hBel⟩
  have HR2 : Hid ((((w.alloc (.cells #[.int .i64 i.o, .int .i64 i.a, .int .i64 i.b, .int .i64 i.c, .int .i64 i.k, .string ⟨i.cl.toArray⟩, .string ⟨i.nm.toArray⟩, .string ⟨i.ds.toArray⟩, .slice A i.ar.length c] 28)).alloc (.cells #[.slice none 0 0] 26)).alloc (.cells #[.int .i64 i.o, .int .i64 i.a, .int .i64 i.b, .int .i64 i.c, .int .i64 i.k, .string ⟨i.cl.toArray⟩, .string ⟨i.nm.toArray⟩, .string ⟨i.ds.toArray⟩, .slice A i.ar.length c] 28)).heap[w.heap.size + 1 + 1]? = some (.cells (InV i A c) 28 (0, 0))) := Lib.hid r2
  clear b1 r0 r2
  obtain ⟨W0, hW0⟩ := hW0
  try simp only [World.size_alloc]
  rw [hW0] at hBel hsz hHeld HR2 ⊢
  clear hW0
  refine wpIn_rangeFunc_ownG rfl (by omega) (gf := 59) (lb := #[.pointer (some ⟨w.heap.size + 1 + 1, 0, none⟩)]) rfl trivial (enters_of Tryd.func59 (by kernel_rfl) rfl)
    (regs_stops 2 (by omega) (w.heap.size + 1 + 1) i A c w W0 hs hr hc (by omega) HR2.out hBel) rk_t (fun W l o o' hl h h1 h2 => rk_b (w := W0) (by omega) (by omega) W l o o' hl h h1 h2) (Below.refl _ _) (fun _ => rfl)
    (UHeld i A c w) (fun _ _ _ => False) (uheld_own i A c w _ (by omega)) (fun _ _ _ _ _ hs _ _ => hs) hHeld
    (fun x => { tmps := #[.agg #[.int .i64 i.o, .int .i64 i.a, .int .i64 i.b, .int .i64 i.c, .int .i64 i.k, .string ⟨i.cl.toArray⟩, .string ⟨i.nm.toArray⟩, .string ⟨i.ds.toArray⟩, .slice A i.ar.length c], .pointer (some ⟨w.heap.size, 0, none⟩), .slice none 0 0, .pointer (some ⟨w.heap.size + 1, 0, none⟩), .int .i32 ((x.1.toNat : Nat) : Int), .int .i64 x.2, .agg #[.int .i64 i.o, .int .i64 i.a, .int .i64 i.b, .int .i64 i.c, .int .i64 i.k, .string ⟨i.cl.toArray⟩, .string ⟨i.nm.toArray⟩, .string ⟨i.ds.toArray⟩, .slice A i.ar.length c], .func (.func 59) #[] #[.pointer (some ⟨w.heap.size + 1 + 1, 0, none⟩)], .int .i32 ((x.1.toNat : Nat) : Int), .int .i64 x.2, undef, undef, undef, undef, undef, undef, undef, undef, undef, undef, undef, undef], defers := [] }) ?assign ?body ?done ?stop
  case assign =>
    intro l x W K hK
    dsimp only [encR]
    gi_wp2
    exact hK
  case body =>
    rintro l pre ⟨x, z⟩ W ⟨⟨⟨v, hv, hrow, -⟩, hr0, hr2⟩, hB⟩ hlt
    dsimp only
    obtain ⟨g0, g1, g2, g3, g4, g5, g6, g7, g8⟩ := in_cells hr0
    have hc0 := hv.cell
    have hul := useF_len i pre
    have hle : w.heap.size ≤ w.heap.size + 1 := by omega
    have hmx1 : (useF i pre).length + 1 ≤ maxLen := by unfold maxLen; omega
    have HUI := Lib.hid (fun (h : (decide (x ≠ 97) || decide (i.o = 14)) = true) => useF_in (i := i) (pre := pre) (x := (x, z)) h)
    have HUO := Lib.hid (fun (h : (decide (x ≠ 97) || decide (i.o = 14)) = false) => useF_out (i := i) (pre := pre) (x := (x, z)) h)
    by_cases hx : x = 97
    · by_cases ho : i.o = 14
      · have hb1 : (((x.toNat : Nat) : Int) != 97) = false := by rw [hx]; rfl
        have hb2 : (i.o == 14) = true := by simpa using ho
        have HU := Lib.hid (HUI.out (by simp [ho]))
        clear hx ho HUI HUO
        gi_wp2_with (gi_at_builtin; refine wpListIn_append_own _ rfl _ _ 26 rfl w.heap.size 3 i0 (.int .i64 0) 1 8 Tryd.underlying26 hi hz0 hz1 hz2 rfl (by decide) _ _ _ rfl (hrow.alloc _) ⟨W.heap.size, 0, none⟩ 1 1 [.int .i64 z] rfl rfl (cell_one_new _ _ _) (by simp [Value.oneCell']) (by omega) (by omega) (by have := hB.size; simp; omega) ?_; intro v' w1 hown' hgrow _; obtain ⟨g', cap', rfl⟩ := ownsRow_succ hown'; obtain ⟨hv1, hv2, hr2', hk2, hb2⟩ := hv.appended (by decide) hrow hB.size hle hown' hgrow; have hc1 := hv1.cell; have hf1 := hv1.frozen)
        exact ⟨hk2.from _, ⟨hb2, walks_of hk2, (row_kept2 hr2 (by decide) hrow hgrow (by omega) _).trans hr2.symm⟩, ⟨⟨_, hv2, by rw [HU.out, IL_app, List.length_append]; exact hr2', trivial⟩, row_kept2 hr0 (by decide) hrow hgrow (by omega) _, row_kept2 hr2 (by decide) hrow hgrow (by omega) _⟩, hB.trans hb2⟩
      · have hb1 : (((x.toNat : Nat) : Int) != 97) = false := by rw [hx]; rfl
        have hb2 : (i.o == 14) = false := by simpa using ho
        have HU := Lib.hid (HUO.out (by simp [hx, ho]))
        clear hx ho HUI HUO
        gi_wp2
        exact ⟨(KeepsOthers.refl _).from _, ⟨Below.refl _ _, KeepsWalks.refl _, rfl⟩, ⟨⟨v, hv, by rw [HU.out]; exact hrow, trivial⟩, hr0, hr2⟩, hB⟩
    · have hb1 : (((x.toNat : Nat) : Int) != 97) = true := by
        have := ne_nat (n := 97) hx
        simpa [bne, this] using this
      have HU := Lib.hid (HUI.out (by simp [hx]))
      clear hx HUI HUO
      gi_wp2_with (gi_at_builtin; refine wpListIn_append_own _ rfl _ _ 26 rfl w.heap.size 3 i0 (.int .i64 0) 1 8 Tryd.underlying26 hi hz0 hz1 hz2 rfl (by decide) _ _ _ rfl (hrow.alloc _) ⟨W.heap.size, 0, none⟩ 1 1 [.int .i64 z] rfl rfl (cell_one_new _ _ _) (by simp [Value.oneCell']) (by omega) (by omega) (by have := hB.size; simp; omega) ?_; intro v' w1 hown' hgrow _; obtain ⟨g', cap', rfl⟩ := ownsRow_succ hown'; obtain ⟨hv1, hv2, hr2', hk2, hb2⟩ := hv.appended (by decide) hrow hB.size hle hown' hgrow; have hc1 := hv1.cell; have hf1 := hv1.frozen)
      exact ⟨hk2.from _, ⟨hb2, walks_of hk2, (row_kept2 hr2 (by decide) hrow hgrow (by omega) _).trans hr2.symm⟩, ⟨⟨_, hv2, by rw [HU.out, IL_app, List.length_append]; exact hr2', trivial⟩, row_kept2 hr0 (by decide) hrow hgrow (by omega) _, row_kept2 hr2 (by decide) hrow hgrow (by omega) _⟩, hB.trans hb2⟩
  case done =>
    rintro D ys W hD rfl ⟨⟨⟨v, hv, hrow, -⟩, hr0, hr2⟩, hB⟩ hK
    have hc0 := hv.cell
    obtain ⟨A9, c9, rfl, -, -, -⟩ := own_rd hrow
    gi_wp2
    refine ⟨by simp, .inl ⟨_, _, rfl, run_takeDeferred hK, ?_⟩⟩
    obtain ⟨A8, c8, e8, -, -, hrd⟩ := own_rd (ownsRow_putObj hrow (.deferred none) hK rfl)
    cases e8
    exact ⟨_, results_tmp rfl _ _ _, ⟨_, _, rfl, hrd⟩, hB.trans (belowK_b (w := w) (Nat.le_refl _) W D _ _ (by omega) hK rfl rfl)⟩
  case stop =>
    rintro D c pre W hD _ h _
    exact h.elim
theorem uses_w (i : In) (A : Option Addr) (c : Nat) (w : World) (hs : Sh w) (hr : Rd w A (IL i.ar)) (hc : i.ar.length ≤ c) (hz : i.ar.length ≤ 1000) :
    Calls Tryd.prog 24 #[.agg (InV i A c)] w (UseP i w) := (callsIn_wide (n := 3)).1 (uses_in i A c w hs hr hc hz)
end Go.Proofs.YtdenpefihplnoaaDoor.op

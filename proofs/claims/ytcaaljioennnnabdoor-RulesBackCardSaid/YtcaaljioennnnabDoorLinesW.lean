/-
  Layer 4: a text's lines, or the first one that is none: the program's answer.
-/
import Derived.Test.YtcaaljioennnnabDoorLines
namespace Go.Proofs.YtcaaljioennnnabDoor.word
open Go.RowKit Go.Shelf
open Go.Proofs.YtcaaljioennnnabDoor.num Go.Proofs.YtcaaljioennnnabDoor.words Go.Proofs.YtcaaljioennnnabDoor.give Go.Proofs.YtcaaljioennnnabDoor.write
attribute [local go_sem] Oper.semAt_some

/-- what may stand in a line -/
def plainB (c : Nat) : Bool := decide (32 ≤ c ∧ c ≤ 126)
set_option maxRecDepth 100000 in
theorem plain_w (c : Nat) (w : World) :
    Calls Tryd.prog 38 #[.int .u8 (c : Int)] w fun e w' => e = .returned (.bool (plainB c)) ∧ w' = w := by
  by_cases h1 : (32 : Int) ≤ (c : Int)
  · by_cases h2 : (c : Int) ≤ 126
    · rw [show plainB c = true by simp only [plainB, decide_eq_true_eq]; omega]
      go_enter Tryd.func38, Tryd.ntmps38
      go_wp2
      go_ret
      exact ⟨rfl, rfl⟩
    · rw [show plainB c = false by simp only [plainB, decide_eq_false_iff_not]; omega]
      go_enter Tryd.func38, Tryd.ntmps38
      go_wp2
      go_ret
      exact ⟨rfl, rfl⟩
  · rw [show plainB c = false by simp only [plainB, decide_eq_false_iff_not]; omega]
    go_enter Tryd.func38, Tryd.ntmps38
    go_wp2
    go_ret
    exact ⟨rfl, rfl⟩
/-- a line that is one -/
def goodB (x : Ln) : Bool := x.1.2 && (N x.1.1).all plainB
def Pair2 (W : World) (B : Nat) (e f : Int) : Prop := W.heap[B]? = some (.cells #[.int .i64 e, .int .i64 f] 37 (0, 0))

def strV (x : Ln) : Value := .string x.1.1
theorem row_own {β : Type} (B : Nat) (cs : Array Value) (t : TypeId) (fz : Nat × Nat) : Own (fun (_ : β) W => W.heap[B]? = some (.cells cs t fz)) := by
  intro s A A' row h hg hr
  refine (hg.block B (Array.getElem?_eq_some_iff.1 h).1 (fun e => ?_)).trans h
  obtain ⟨o, ho, hc⟩ := hr B e.symm
  rw [h] at ho; cases ho; cases hc
set_option maxRecDepth 100000 in
theorem infoS : (Tryd.prog.info? 9).map (fun i => (i.zero, i.size, i.bytes)) = some (some (.string ByteArray.empty), 1, 16) := by kernel_rfl
/-- what holds between two rounds -/
def Held (w : World) (pre : List Ln) (W : World) : Prop :=
  ((∃ v, Boxed W (w.heap.size + 1 + 1 + 1) 48 v ∧ W.ownsRow w.heap.size 9 1 v pre.length (pre.map strV) ∧ ((v = .slice none 0 0 ↔ pre = []) ∧ ∀ x ∈ pre, goodB x = true)) ∧
    (W.heap[w.heap.size]? = some (.cells #[.slice none 0 0] 48 (0, 0)) ∧ W.heap[w.heap.size + 1]? = some (.cells #[.int .i64 0, .int .i64 0] 37 (0, 0)) ∧ W.heap[w.heap.size + 1 + 1]? = some (.cells #[.func (.func 38) #[] #[]] 69 (0, 0)))) ∧ Below w.heap.size w W
/-- what holds where a round has left -/
def Left (w : World) (c : Code) (pre : List Ln) (W : World) : Prop :=
  (c = .ret ∧ ∃ p x, pre = p ++ [x] ∧ (∀ y ∈ p, goodB y = true) ∧ goodB x = false ∧ W.heap[w.heap.size]? = some (.cells #[.slice none 0 0] 48 (0, 0)) ∧ W.heap[w.heap.size + 1]? = some (.cells #[.int .i64 1, .int .i64 ((p.length : Int) + 1)] 37 (0, 0))) ∧ Below w.heap.size w W
theorem held_own (w : World) (B : Nat) (hB : w.heap.size ≤ B) : OwnFrom B (Held w) :=
  OwnFrom.and (OwnFrom.and (Own.from (holdsRow_own w.heap.size (w.heap.size + 1 + 1 + 1) 48 9 1 (fun pre => pre.length) (fun pre => pre.map strV) (fun pre v => (v = .slice none 0 0 ↔ pre = []) ∧ ∀ x ∈ pre, goodB x = true)) _)
    (OwnFrom.and (Own.from (row_own _ _ _ _) _) (OwnFrom.and (Own.from (row_own _ _ _ _) _) (Own.from (row_own _ _ _ _) _)))) (ownFrom_below (Nat.le_refl _) hB)
theorem left_own (w : World) (B : Nat) (hB : w.heap.size ≤ B) (c : Code) : OwnFrom B (Left w c) := by
  intro pre A A' row h hg hr
  obtain ⟨⟨hc, p, x, h1, h2, h3, h4, h5⟩, h6⟩ := h
  refine ⟨⟨hc, p, x, h1, h2, h3, ?_, ?_⟩, ?_⟩
  · exact Own.from (row_own (β := List Ln) _ _ _ _) B pre A A' row h4 hg hr
  · exact Own.from (row_own (β := List Ln) _ _ _ _) B pre A A' row h5 hg hr
  · exact ownFrom_below (β := List Ln) (Nat.le_refl _) hB pre A A' row h6 hg hr

theorem row_kept {W w1 : World} {tmp : Obj} {base B C k size : Nat} {t e : TypeId} {v : Value} {xs : List Value} {cs : Array Value} {fz : Nat × Nat} (h : W.heap[B]? = some (.cells cs t fz)) (hte : t ≠ e)
    (hrow : W.ownsRow base e size v k xs) (hgrow : (W.alloc tmp).grownBy w1 v.ownBlock) (hne : B ≠ C) (v' : Value) : (w1.setCell ⟨C, 0, none⟩ v').heap[B]? = some (.cells cs t fz) := by
  have hlt := (Array.getElem?_eq_some_iff.1 h).1
  have ha : (W.alloc tmp).heap[B]? = some (.cells cs t fz) := (Below.heap_alloc W tmp B hlt).trans h
  have hnr : some B ≠ v.ownBlock := by
    rcases hrow.2 with ⟨rfl, _⟩ | ⟨g, cap, cur, rfl, _, hgb, _⟩
    · simp [Value.ownBlock]
    · intro e'
      obtain rfl : B = g := by simpa [Value.ownBlock] using e'
      rw [h] at hgb
      simp only [Option.some.injEq, Obj.cells.injEq] at hgb
      exact hte hgb.2.1
  have h1 : w1.heap[B]? = some (.cells cs t fz) := (hgrow.block B (Array.getElem?_eq_some_iff.1 ha).1 hnr).trans ha
  exact ((grownBy_setCell' w1 C v').block B (Array.getElem?_eq_some_iff.1 h1).1 (fun e => hne (by cases e; rfl))).trans h1

theorem left_of {w W : World} {pre : List Ln} {x : Ln} (hr0 : W.heap[w.heap.size]? = some (.cells #[.slice none 0 0] 48 (0, 0))) (hr1 : W.heap[w.heap.size + 1]? = some (.cells #[.int .i64 0, .int .i64 0] 37 (0, 0))) (hB : Below w.heap.size w W)
    (hg : ∀ y ∈ pre, goodB y = true) (hx : goodB x = false) (B0 : Nat) :
    KeepsFrom B0 W (((W.setCell ⟨w.heap.size, 0, none⟩ (.slice none 0 0)).setCell ⟨w.heap.size + 1, 0, none⟩ (.int .i64 1)).setCell ⟨w.heap.size + 1, 1, none⟩ (.int .i64 ((pre.length : Int) + 1))).drew ∧
    Left w .ret (pre ++ [x]) (((W.setCell ⟨w.heap.size, 0, none⟩ (.slice none 0 0)).setCell ⟨w.heap.size + 1, 0, none⟩ (.int .i64 1)).setCell ⟨w.heap.size + 1, 1, none⟩ (.int .i64 ((pre.length : Int) + 1))).drew := by
  refine ⟨((((KeepsOthers.setCell _ _ _).trans (KeepsOthers.setCell _ _ _)).trans (KeepsOthers.setCell _ _ _)).trans (KeepsOthers.drew _)).from _, ⟨rfl, pre, x, rfl, hg, hx, ?_, ?_⟩, ?_⟩
  · show (((W.setCell ⟨w.heap.size, 0, none⟩ (.slice none 0 0)).setCell ⟨w.heap.size + 1, 0, none⟩ (.int .i64 1)).setCell ⟨w.heap.size + 1, 1, none⟩ (.int .i64 ((pre.length : Int) + 1))).heap[w.heap.size]? = _
    rw [heap_setCell_other _ _ _ _ (by simp), heap_setCell_other _ _ _ _ (by simp)]
    exact heap_setCell_same _ _ 0 _ _ _ hr0
  · show (((W.setCell ⟨w.heap.size, 0, none⟩ (.slice none 0 0)).setCell ⟨w.heap.size + 1, 0, none⟩ (.int .i64 1)).setCell ⟨w.heap.size + 1, 1, none⟩ (.int .i64 ((pre.length : Int) + 1))).heap[w.heap.size + 1]? = _
    have h0 : (W.setCell ⟨w.heap.size, 0, none⟩ (.slice none 0 0)).heap[w.heap.size + 1]? = some (.cells #[.int .i64 0, .int .i64 0] 37 (0, 0)) := by
      rw [heap_setCell_other _ _ _ _ (by simp)]
      exact hr1
    have h1 := heap_setCell_same _ _ 0 _ _ (.int .i64 1) h0
    exact heap_setCell_same _ _ 1 _ _ (.int .i64 ((pre.length : Int) + 1)) h1
  · exact ((((hB.setCell (p := ⟨w.heap.size, 0, none⟩) (Nat.le_refl _) _).setCell (p := ⟨w.heap.size + 1, 0, none⟩) (Nat.le_succ _) _).setCell (p := ⟨w.heap.size + 1, 1, none⟩) (Nat.le_succ _) _)).drew

theorem not_own {W : World} {base B k size : Nat} {t e : TypeId} {v : Value} {xs : List Value} {cs : Array Value} {fz : Nat × Nat} (h : W.heap[B]? = some (.cells cs t fz)) (hte : t ≠ e) (hrow : W.ownsRow base e size v k xs) : some B ≠ v.ownBlock := by
  rcases hrow.2 with ⟨rfl, _⟩ | ⟨g, cap, cur, rfl, _, hgb, _⟩
  · simp [Value.ownBlock]
  · intro e'
    obtain rfl : B = g := by simpa [Value.ownBlock] using e'
    rw [h] at hgb
    simp only [Option.some.injEq, Obj.cells.injEq] at hgb
    exact hte hgb.2.1
theorem grown_set (W : World) (a : Addr) (v : Value) : W.grownBy (W.setCell a v) (some a.block) :=
  ⟨rfl, rfl, rfl, (KeepsWalks.setCell W _ v).size, fun k _ hk => Below.heap_setCell _ _ _ k (fun e => hk (by rw [e]))⟩
theorem own_set {W : World} {base B o k size : Nat} {t e : TypeId} {v : Value} {xs : List Value} {cs : Array Value} {fz : Nat × Nat} (h : W.heap[B]? = some (.cells cs t fz)) (hte : t ≠ e) (hrow : W.ownsRow base e size v k xs) (u : Value) :
    (W.setCell ⟨B, o, none⟩ u).ownsRow base e size v k xs := hrow.kept (grown_set W ⟨B, o, none⟩ u) (.inr (fun e => not_own h hte hrow e.symm))
theorem done_of {w W : World} {D k : Nat} {v : Value} {xs : List Value} (hr0 : W.heap[w.heap.size]? = some (.cells #[.slice none 0 0] 48 (0, 0))) (hr1 : W.heap[w.heap.size + 1]? = some (.cells #[.int .i64 0, .int .i64 0] 37 (0, 0))) (hB : Below w.heap.size w W)
    (hrow : W.ownsRow w.heap.size 9 1 v k xs) (hK : W.heap[D]? = some (.deferred (some []))) :
    ∃ Z, Z = ((W.setCell ⟨w.heap.size, 0, none⟩ v).setCell ⟨w.heap.size + 1, 0, none⟩ (.int .i64 0)).setCell ⟨w.heap.size + 1, 1, none⟩ (.int .i64 0) ∧ Z.heap[w.heap.size]? = some (.cells #[v] 48 (0, 0)) ∧
      Z.heap[w.heap.size + 1]? = some (.cells #[.int .i64 0, .int .i64 0] 37 (0, 0)) ∧ Below w.heap.size w Z ∧ Z.ownsRow w.heap.size 9 1 v k xs ∧ Z.heap[D]? = some (.deferred (some [])) := by
  have a0 := heap_setCell_same _ _ 0 _ _ v hr0
  have a1 : (W.setCell ⟨w.heap.size, 0, none⟩ v).heap[w.heap.size + 1]? = some (.cells #[.int .i64 0, .int .i64 0] 37 (0, 0)) := by
    rw [heap_setCell_other _ _ _ _ (by simp)]; exact hr1
  have b1 := heap_setCell_same _ _ 0 _ _ (.int .i64 0) a1
  have b0 : ((W.setCell ⟨w.heap.size, 0, none⟩ v).setCell ⟨w.heap.size + 1, 0, none⟩ (.int .i64 0)).heap[w.heap.size]? = some (.cells #[v] 48 (0, 0)) := by
    rw [heap_setCell_other _ _ _ _ (by simp)]; exact a0
  refine ⟨_, rfl, ?_, heap_setCell_same _ _ 1 _ _ (.int .i64 0) b1, ?_, ?_, ?_⟩
  · rw [heap_setCell_other _ _ _ _ (by simp)]; exact b0
  · exact ((hB.setCell (p := ⟨w.heap.size, 0, none⟩) (Nat.le_refl _) _).setCell (p := ⟨w.heap.size + 1, 0, none⟩) (Nat.le_succ _) _).setCell (p := ⟨w.heap.size + 1, 1, none⟩) (Nat.le_succ _) _
  · exact own_set b1 (by decide) (own_set a1 (by decide) (own_set hr0 (by decide) hrow v) _) _
  · exact (((KeepsOthers.setCell _ _ _).trans (KeepsOthers.setCell _ _ _)).trans (KeepsOthers.setCell _ _ _)).same D _ hK rfl

/-- what Lines answers of a text that is not too long -/
def LinesPost (s : ByteArray) (hs : s.size ≤ 65536) (w : World) (e : Ending) (W' : World) : Prop :=
  ((∃ v, e = .returned (.tuple #[v, .agg #[.int .i64 0, .int .i64 0]]) ∧ W'.ownsRow w.heap.size 9 1 v (linesOf s hs).length ((linesOf s hs).map strV) ∧ (v = .slice none 0 0 ↔ linesOf s hs = []) ∧ ∀ x ∈ linesOf s hs, goodB x = true) ∨
    (∃ p x, e = .returned (.tuple #[.slice none 0 0, .agg #[.int .i64 1, .int .i64 ((p.length : Int) + 1)]]) ∧ p ++ [x] <+: linesOf s hs ∧ (∀ y ∈ p, goodB y = true) ∧ goodB x = false)) ∧ Below w.heap.size w W'

set_option maxRecDepth 100000 in
set_option maxHeartbeats 2000000 in
theorem linesW_in (s : ByteArray) (hs : s.size ≤ 65536) (mx : Int) (w : World) (hm0 : 0 < w.heap.size) (hm : w.cell? ⟨0, 0, none⟩ = some (.int .i64 mx)) :
    CallsIn Fence.wide 3 Tryd.prog 28 #[.string s] w (LinesPost s hs w) := by
  have hsI : ¬ (65536 : Int) < (s.size : Int) := by omega
  obtain ⟨i0, hi, hz0, hz1, hz2⟩ := info_parts infoS
  refine callsIn_of_wp_marks Tryd.func28 rfl trivial ?_ rfl
  simp only [Tryd.ntmps28, List.size_toArray, List.length_cons, List.length_nil, Nat.reduceAdd, Nat.reduceSub, Array.replicate_succ, Array.replicate_zero, List.push_toArray, List.append_toArray, List.nil_append, List.cons_append]
  have q2 := Boxed.new ((w.alloc (.cells #[.slice none 0 0] 48)).alloc (.cells #[.int .i64 0, .int .i64 0] 37)) 69 .nilFunc
  rw [World.size_alloc, World.size_alloc] at q2
  have q2c := q2.cell
  have q2f := q2.frozen
  have hrs : ∀ (w : World) (a : Addr), (store a (.func (.func 38) #[] #[])).run Tryd.prog w = stored Tryd.prog w a (.func (.func 38) #[] #[]) .plain := fun w a => run_store Tryd.prog w a _ .plain rfl
  gi_wp2_with (refine ⟨trivial, ?_⟩; gi_at_call 39; refine (maker_in 2 _ _).mono ?_; rintro e w' ⟨rfl, rfl⟩)
  clear q2 q2c q2f hrs
  have hW0 : ∃ W0, ((((w.alloc (.cells #[.slice none 0 0] 48)).alloc (.cells #[.int .i64 0, .int .i64 0] 37)).alloc (.cells #[.func (.func 38) #[] #[]] 69)).alloc (.cells #[.slice none 0 0] 48)).alloc (.cells #[.string s] 9) = W0 := ⟨_, rfl⟩
  have b0 := Boxed.new w 48 (.slice none 0 0)
  have r1 := World.alloc_heap_new (w.alloc (.cells #[.slice none 0 0] 48)) (.cells #[.int .i64 0, .int .i64 0] 37)
  have b2 := Boxed.new ((w.alloc (.cells #[.slice none 0 0] 48)).alloc (.cells #[.int .i64 0, .int .i64 0] 37)) 69 (.func (.func 38) #[] #[])
  have b3 := Boxed.new (((w.alloc (.cells #[.slice none 0 0] 48)).alloc (.cells #[.int .i64 0, .int .i64 0] 37)).alloc (.cells #[.func (.func 38) #[] #[]] 69)) 48 (.slice none 0 0)
  have b4 := Boxed.new ((((w.alloc (.cells #[.slice none 0 0] 48)).alloc (.cells #[.int .i64 0, .int .i64 0] 37)).alloc (.cells #[.func (.func 38) #[] #[]] 69)).alloc (.cells #[.slice none 0 0] 48)) 9 (.string s)
  simp only [World.size_alloc] at r1 b2 b3 b4
  have hBel : Below w.heap.size w (((((w.alloc (.cells #[.slice none 0 0] 48)).alloc (.cells #[.int .i64 0, .int .i64 0] 37)).alloc (.cells #[.func (.func 38) #[] #[]] 69)).alloc (.cells #[.slice none 0 0] 48)).alloc (.cells #[.string s] 9)) :=
    (((((Below.refl _ w).alloc (Nat.le_refl _) _).alloc (by simp) _).alloc (by simp; omega) _).alloc (by simp; omega) _).alloc (by simp; omega) _
  have hsz : (((((w.alloc (.cells #[.slice none 0 0] 48)).alloc (.cells #[.int .i64 0, .int .i64 0] 37)).alloc (.cells #[.func (.func 38) #[] #[]] 69)).alloc (.cells #[.slice none 0 0] 48)).alloc (.cells #[.string s] 9)).heap.size = w.heap.size + 5 := by simp
  have hHeld : Held w [] (((((w.alloc (.cells #[.slice none 0 0] 48)).alloc (.cells #[.int .i64 0, .int .i64 0] 37)).alloc (.cells #[.func (.func 38) #[] #[]] 69)).alloc (.cells #[.slice none 0 0] 48)).alloc (.cells #[.string s] 9)) :=
    ⟨⟨⟨_, b3.alloc _, World.ownsRow_nil _ _ _ _, by simp, by simp⟩, (((b0.alloc _).alloc _).alloc _).alloc _, (Below.heap_alloc _ _ _ (by simp)).trans ((Below.heap_alloc _ _ _ (by simp)).trans ((Below.heap_alloc _ _ _ (by simp)).trans r1)), (b2.alloc _).alloc _⟩, hBel⟩
  have b4c := b4.cell
  clear b0 r1 b2 b3 b4
  obtain ⟨W0, hW0⟩ := hW0
  rw [hW0] at hBel hsz hHeld b4c ⊢
  clear hW0
  have hm4 : W0.cell? ⟨0, 0, none⟩ = some (.int .i64 mx) := (hBel.cell (p := ⟨0, 0, none⟩) hm0).trans hm
  refine wpIn_rangeFunc_ownG rfl (by omega) (gf := 47) (lb := #[.pointer (some ⟨w.heap.size + 1 + 1 + 1 + 1, 0, none⟩)]) rfl trivial (enters_of Tryd.func47 (by kernel_rfl) rfl)
    (lines_stops 2 (by omega) (w.heap.size + 1 + 1 + 1 + 1) w.heap.size s hs mx W0 (by omega) (by omega) hm0 b4c hm4) belowK_t (belowK_b (by omega)) (Below.refl _ _) (fun _ => rfl)
    (Held w) (Left w) (held_own w _ (by omega)) (left_own w _ (by omega)) hHeld
    (fun x => { tmps := #[.string s, undef, .pointer (some ⟨w.heap.size, 0, none⟩), .pointer (some ⟨w.heap.size + 1, 0, none⟩), .pointer (some ⟨w.heap.size + 1 + 1, 0, none⟩), .pointer (some ⟨w.heap.size + 1 + 1 + 1, 0, none⟩), .string x.1.1, .bool x.1.2, .string s, .int .i64 s.size, .bool false, undef, .string s, .func (.func 47) #[] #[.pointer (some ⟨w.heap.size + 1 + 1 + 1 + 1, 0, none⟩)], .string x.1.1, .bool x.1.2, undef, undef, undef, undef, undef, undef, undef, undef, undef, undef, undef, undef, undef, undef, undef, undef, undef, undef], defers := [] }) ?assign ?body ?done ?stop
  case assign =>
    intro l x W K hK
    dsimp only [encLn]
    gi_wp2
    exact hK
  case body =>
    rintro l pre ⟨⟨ln, en⟩, hx⟩ W ⟨⟨⟨v, hv, hrow, hnil, hgood⟩, hr0, hr1, hr2⟩, hB⟩ hlt
    have hc := hv.cell
    have hp := (show Boxed W (w.heap.size + 1 + 1) 69 (.func (.func 38) #[] #[]) from hr2).cell
    have hx' : ln.size ≤ 65536 := hx
    have HA := Lib.hid (fun W => all_w ln plainB 38 W (by omega) (fun c w _ => plain_w c w) (fun _ _ => rfl))
    dsimp only
    cases en with
    | false =>
      have v0c := (show Boxed W w.heap.size 48 (.slice none 0 0) from hr0).cell
      have v0f := (show Boxed W w.heap.size 48 (.slice none 0 0) from hr0).frozen
      have v1c : W.cell? ⟨w.heap.size + 1, 0, none⟩ = some (.int .i64 0) := by rw [cell_of_row _ _ _ _ _ _ hr1]; rfl
      have v1d : W.cell? ⟨w.heap.size + 1, 1, none⟩ = some (.int .i64 0) := by rw [cell_of_row _ _ _ _ _ _ hr1]; rfl
      have v1f := frozen_of_row W _ 0 _ _ hr1
      have v1g := frozen_of_row W _ 1 _ _ hr1
      have hmo : Tryd.prog.follows .mixedOrders = true := by kernel_rfl
      have hlen : pre.length < 65536 := Nat.lt_of_lt_of_le hlt (Nat.le_trans (rounds_len _ _ _) hs)
      have hlenI : (pre.length : Int) < 65536 := by omega
      obtain ⟨A, cc, rfl, -, -, -⟩ := own_rd hrow
      gi_wp2
      refine ⟨trivial, ?_⟩
      gi_wp2
      gi_region_with_o (fail)
      all_goals gi_wp2
      all_goals (try go_bits)
      all_goals exact left_of hr0 hr1 hB hgood (show goodB ⟨(ln, false), hx⟩ = false from rfl) _
    | true =>
      have HG := Lib.hid (show goodB ⟨(ln, true), hx⟩ = (N ln).all plainB from Bool.true_and _)
      generalize (N ln).all plainB = b at HA HG
      cases b with
      | false =>
        have v0c := (show Boxed W w.heap.size 48 (.slice none 0 0) from hr0).cell
        have v0f := (show Boxed W w.heap.size 48 (.slice none 0 0) from hr0).frozen
        have v1c : W.cell? ⟨w.heap.size + 1, 0, none⟩ = some (.int .i64 0) := by rw [cell_of_row _ _ _ _ _ _ hr1]; rfl
        have v1d : W.cell? ⟨w.heap.size + 1, 1, none⟩ = some (.int .i64 0) := by rw [cell_of_row _ _ _ _ _ _ hr1]; rfl
        have v1f := frozen_of_row W _ 0 _ _ hr1
        have v1g := frozen_of_row W _ 1 _ _ hr1
        have hmo : Tryd.prog.follows .mixedOrders = true := by kernel_rfl
        have hlen : pre.length < 65536 := Nat.lt_of_lt_of_le hlt (Nat.le_trans (rounds_len _ _ _) hs)
        have hlenI : (pre.length : Int) < 65536 := by omega
        obtain ⟨A, cc, rfl, -, -, -⟩ := own_rd hrow
        gi_wp2_with fail
        refine ⟨trivial, (CallsIn.inRound l (callsIn_wide.2 (HA.out _))).mono ?_⟩
        rintro e W ⟨rfl, rfl⟩
        gi_wp2
        gi_region_with_o (fail)
        all_goals gi_wp2
        all_goals (try go_bits)
        all_goals exact left_of hr0 hr1 hB hgood HG.out _
      | true =>
        have hlen : pre.length < 65536 := Nat.lt_of_lt_of_le hlt (Nat.le_trans (rounds_len _ _ _) hs)
        have hle : w.heap.size ≤ w.heap.size + 1 + 1 + 1 := by omega
        have hmx1 : pre.length + 1 ≤ maxLen := by unfold maxLen; omega
        gi_wp2_with fail
        refine ⟨trivial, (CallsIn.inRound l (callsIn_wide.2 (HA.out _))).mono ?_⟩
        rintro e W ⟨rfl, rfl⟩
        gi_wp2_with (gi_at_builtin; refine wpListIn_append_own _ rfl _ _ 48 rfl w.heap.size 9 i0 (.string ByteArray.empty) 1 16 Tryd.underlying48 hi hz0 hz1 hz2 rfl (by decide) _ _ _ rfl (hrow.alloc _) ⟨W.heap.size, 0, none⟩ 1 1 [.string ln] rfl rfl (cell_one_new _ _ _) (by simp [Value.oneCell']) (by omega) (by omega) (by have := hB.size; simp; omega) ?_; intro v' w1 hown' hgrow _; obtain ⟨g', cap', rfl⟩ := ownsRow_succ hown'; obtain ⟨hv1, hv2, hr2', hk2, hb2⟩ := hv.appended (by decide) hrow hB.size hle hown' hgrow; have hc1 := hv1.cell; have hf1 := hv1.frozen)
        exact ⟨hk2.from _, hb2, ⟨⟨⟨_, hv2, by simpa [strV] using hr2', by simp, fun y hy => (List.mem_append.1 hy).elim (hgood y) (fun h => by rw [List.mem_singleton.1 h]; exact HG.out)⟩, row_kept hr0 (by decide) hrow hgrow (by omega) _, row_kept hr1 (by decide) hrow hgrow (by omega) _, row_kept hr2 (by decide) hrow hgrow (by omega) _⟩, hB.trans hb2⟩⟩
  case done =>
    rintro D ys W hD rfl ⟨⟨⟨v, hv, hrow, hnil, hgood⟩, hr0, hr1, hr2⟩, hB⟩ hK
    have hc := hv.cell
    have v0c := (show Boxed W w.heap.size 48 (.slice none 0 0) from hr0).cell
    have v0f := (show Boxed W w.heap.size 48 (.slice none 0 0) from hr0).frozen
    have v1c : W.cell? ⟨w.heap.size + 1, 0, none⟩ = some (.int .i64 0) := by rw [cell_of_row _ _ _ _ _ _ hr1]; rfl
    have v1d : W.cell? ⟨w.heap.size + 1, 1, none⟩ = some (.int .i64 0) := by rw [cell_of_row _ _ _ _ _ _ hr1]; rfl
    have v1f := frozen_of_row W _ 0 _ _ hr1
    have v1g := frozen_of_row W _ 1 _ _ hr1
    obtain ⟨A, cc, rfl, -, -, -⟩ := own_rd hrow
    gi_wp2
    obtain ⟨Z, hZ, z0, z1, hBz, hrz, hKz⟩ := done_of hr0 hr1 hB hrow hK
    rw [← hZ]
    have hDn : D ≠ w.heap.size := by omega
    have hDm : D ≠ w.heap.size + 1 := by omega
    have k0 := ((grownBy_putObj' Z D (.deferred none)).block _ (Array.getElem?_eq_some_iff.1 z0).1 (fun e => hDn (by cases e; rfl))).trans z0
    have k1 := ((grownBy_putObj' Z D (.deferred none)).block _ (Array.getElem?_eq_some_iff.1 z1).1 (fun e => hDm (by cases e; rfl))).trans z1
    refine ⟨by simp, .inl ⟨_, _, rfl, run_takeDeferred hKz, ?_⟩⟩
    refine ⟨.tuple #[.slice A (linesOf s hs).length cc, .agg #[.int .i64 0, .int .i64 0]], ?_, .inl ⟨_, rfl, ownsRow_putObj hrz _ hKz rfl, hnil, hgood⟩, hBz.trans (belowK_b (w := w) (Nat.le_refl _) Z D _ _ (by omega) hKz rfl rfl)⟩
    have c0 := cell_of_row _ _ 0 _ _ _ k0
    have c1 := cell_of_row _ _ 0 _ _ _ k1
    have c2 := cell_of_row _ _ 1 _ _ _ k1
    simp [results, Tryd.results28, go_sem, c0, c1, c2]
  case stop =>
    rintro D c pre W hD hpre ⟨⟨rfl, p, x, rfl, hg1, hg2, hr0, hr1⟩, hB⟩ hK
    have hDn : D ≠ w.heap.size := by omega
    have hDm : D ≠ w.heap.size + 1 := by omega
    have k0 : (W.putObj D (.deferred none)).heap[w.heap.size]? = some (.cells #[.slice none 0 0] 48 (0, 0)) := ((grownBy_putObj' W D (.deferred none)).block _ (Array.getElem?_eq_some_iff.1 hr0).1 (fun e => hDn (by cases e; rfl))).trans hr0
    have k1 : (W.putObj D (.deferred none)).heap[w.heap.size + 1]? = some (.cells #[.int .i64 1, .int .i64 ((p.length : Int) + 1)] 37 (0, 0)) := ((grownBy_putObj' W D (.deferred none)).block _ (Array.getElem?_eq_some_iff.1 hr1).1 (fun e => hDm (by cases e; rfl))).trans hr1
    gi_wp2
    refine ⟨by simp, .inl ⟨_, _, rfl, run_takeDeferred hK, ?_⟩⟩
    refine ⟨.tuple #[.slice none 0 0, .agg #[.int .i64 1, .int .i64 ((p.length : Int) + 1)]], ?_, .inr ⟨p, x, rfl, hpre, hg1, hg2⟩, hB.trans (belowK_b (w := w) (Nat.le_refl _) W D _ _ (by omega) hK rfl rfl)⟩
    have c0 := cell_of_row _ _ 0 _ _ _ k0
    have c1 := cell_of_row _ _ 0 _ _ _ k1
    have c2 := cell_of_row _ _ 1 _ _ _ k1
    simp [results, Tryd.results28, go_sem, c0, c1, c2]
end Go.Proofs.YtcaaljioennnnabDoor.word

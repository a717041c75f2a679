/-
 Layer 14: by how few steps places are reached: the program's answer.
-/
import Derived.Test.YtnmnnokdoiagkaaDoorFlowB
import Derived.Test.YtnmnnokdoiagkaaDoorFlowE
import Derived.Test.YtnmnnokdoiagkaaDoorCalm
import Derived.Scope
import Derived.Laws.OwnMore
namespace Go.Proofs.YtnmnnokdoiagkaaDoor.flow
open Go.RowKit Go.Shelf
open words kindp opp op prg flowp
attribute [local go_sem] Oper.semAt_some

/-- places as numbers -/
def NI (R : List Nat) : List Int := R.map fun x : Nat => (x : Int)
theorem NI_len (R : List Nat) : (NI R).length = R.length := by simp [NI]
theorem NI_app (R : List Nat) (t : Nat) : NI (R ++ [t]) = NI R ++ [(t : Int)] := by simp [NI]
theorem NI_at {R : List Nat} {i p : Nat} (h : R[i]? = some p) : (NI R)[i]? = some (p : Int) := by simp [NI, h]
theorem IL_set (D : List Int) (t : Nat) (v : Int) : (IL D).set t (.int .i64 v) = IL (D.set t v) := by
 unfold IL; rw [List.map_set]

/-- the memory of a search -/
def SeM (w : World) (A : Option Addr) (c m G B3 : Nat) (X : Nat → Prop) (D : List Int) (R : List Nat) (ib i : Nat) (W : World) : Prop :=
 (((∃ v, Boxed W (B3 + 2) 29 v ∧ W.ownsRow (B3 + 1) 3 1 v R.length (IL (NI R)) ∧ (∃ gb cap, v = .slice (some ⟨gb, 0, none⟩) R.length cap ∧ ¬ X gb)) ∧ Below w.heap.size w W) ∧
 (W.heap[w.heap.size]? = some (.cells #[.slice A m c] 22 (0, 0)) ∧ W.heap[B3]? = some (.cells #[.slice (some ⟨G, 0, none⟩) m m] 29 (0, 0)))) ∧
 (W.heap[G]? = some (.cells (IL D).toArray 3 (0, 0)) ∧ W.heap[ib]? = some (.cells #[.int .i64 (i : Int)] 3 (0, 0)))
theorem sem_own {β : Type} (w : World) (A : Option Addr) (c m G B3 : Nat) (X : Nat → Prop) (D : List Int) (R : List Nat) (ib i B : Nat) (hB : w.heap.size ≤ B) : OwnFrom B (fun (_ : β) W => SeM w A c m G B3 X D R ib i W) :=
 OwnFrom.and (OwnFrom.and (OwnFrom.and (Own.from (holdsRow_own (B3 + 1) (B3 + 2) 29 3 1 (fun _ => R.length) (fun _ => IL (NI R)) (fun _ v => ∃ gb cap, v = .slice (some ⟨gb, 0, none⟩) R.length cap ∧ ¬ X gb)) B) (ownFrom_below (Nat.le_refl _) hB))
  (OwnFrom.and (Own.from (op.row_own2 _ _ _ _) B) (Own.from (op.row_own2 _ _ _ _) B))) (OwnFrom.and (Own.from (op.row_own2 _ _ _ _) B) (Own.from (op.row_own2 _ _ _ _) B))
section
variable {w : World} {A : Option Addr} {c m G B3 : Nat} {X X' : Nat → Prop} {D : List Int} {R : List Nat} {ib i : Nat} {W W' : World}
/-- behind what only makes memory, by another number's box -/
theorem SeM.reib {nb i' : Nat} (h : SeM w A c m G B3 X D R ib i W) (hb : Below W.heap.size W W') (hn : W'.heap[nb]? = some (.cells #[.int .i64 (i' : Int)] 3 (0, 0))) (hX : ∀ b, b < W.heap.size → ¬ X b → ¬ X' b) : SeM w A c m G B3 X' D R nb i' W' := by
 obtain ⟨⟨⟨⟨v, h1, h2, gb, cap, rfl, h3⟩, h4⟩, h5, h6⟩, h7, -⟩ := h
 exact ⟨⟨⟨⟨_, (hb.block _ h1.lt).trans h1, own_below h2 hb, gb, cap, rfl, hX gb (h2.lt gb rfl).2 h3⟩, h4.trans (hb.mono h4.size)⟩, (hb.block _ (blk_lt h5)).trans h5, (hb.block _ (blk_lt h6)).trans h6⟩, (hb.block _ (blk_lt h7)).trans h7, hn⟩
theorem SeM.below (h : SeM w A c m G B3 X D R ib i W) (hb : Below W.heap.size W W') : SeM w A c m G B3 X D R ib i W' :=
 h.reib hb ((hb.block _ (blk_lt h.2.2)).trans h.2.2) fun _ _ h => h
theorem SeM.excl (h : SeM w A c m G B3 X D R ib i W) (hX : ∀ b, b < W.heap.size → ¬ X b → ¬ X' b) : SeM w A c m G B3 X' D R ib i W := h.reib (Below.refl _ _) h.2.2 hX
/-- behind a store into the row of steps -/
theorem SeM.store (h : SeM w A c m G B3 X D R ib i W) (t : Nat) (v : Int) (h1 : w.heap.size < G) (h2 : G < B3) (h3 : B3 < ib) : SeM w A c m G B3 X (D.set t v) R ib i (W.setCell ⟨G, t, none⟩ (.int .i64 v)) := by
 obtain ⟨⟨⟨⟨u, g1, g2, gb, cap, rfl, g3⟩, g4⟩, g5, g6⟩, g7, g8⟩ := h
 have hgb := (g2.lt gb rfl).1
 have hg : W.grownBy (W.setCell ⟨G, t, none⟩ (.int .i64 v)) (some G) := ⟨rfl, rfl, rfl, by simp, fun k _ hk => heap_setCell_other W ⟨G, t, none⟩ k (.int .i64 v) (fun e => hk (by simp [e]))⟩
 have ot : ∀ k, k ≠ G → (W.setCell ⟨G, t, none⟩ (.int .i64 v)).heap[k]? = W.heap[k]? := fun k hk => heap_setCell_other W ⟨G, t, none⟩ k (.int .i64 v) (fun e => hk e)
 refine ⟨⟨⟨⟨_, (ot _ (by omega)).trans g1, g2.kept hg (.inr (by simp [Value.ownBlock]; omega)), gb, cap, rfl, g3⟩, g4.grown hg g4.size (fun k e => by cases e; omega)⟩, (ot _ (by omega)).trans g5, (ot _ (by omega)).trans g6⟩, ?_, (ot _ (by omega)).trans g8⟩
 rw [heap_setCell_same W G t _ _ _ g7, List.setIfInBounds_toArray, IL_set]
end
/-- an append to a row of the call's own, inside a fence, and where the row lies behind it -/
theorem wpListIn_append_at {F : Fence} {n : Nat} {P : Program} (w : World) {ops : Array Oper} {rest : List Oper} {o : Oper} {a : Act} {Q : Exit → Act → World → Prop}
  (hg : o.guard = none) (s x : Operand) (t : TypeId) (hop : o.op = Op.call { callee := Callee.builtin Builtin.append, args := #[s, x], argTypes := #[t, t] })
  (base : Nat) (e : TypeId) (i : TypeInfo) (z : Value) (size bytes : Nat) (h1 : P.underlying t = some (.slice e)) (h2 : P.info? e = some i) (h3 : i.zero = some z) (h4 : i.size = size) (h5 : i.bytes = bytes) (h6 : z.cells.size = size) (h7 : 0 < size)
  (v : Value) (k : Nat) (xs : List Value) (hs : a.eval s = v) (hown : w.ownsRow base e size v k xs) (ad : Addr) (m c : Nat) (news : List Value) (hx : a.eval x = .slice (some ad) m c) (hn : news.length = m * size)
  (hc : ∀ j u, news[j]? = some u → w.cell? (ad.add j) = some u) (h1c : ∀ u ∈ news, u.oneCell' = true) (b1 : k + m ≤ maxLen) (b2 : (k + m) * bytes ≤ 140737488355328) (b3 : base ≤ w.heap.size)
  (hK : ∀ v' w', w'.ownsRow base e size v' (k + m) (xs ++ news) → w.grownBy w' v.ownBlock → (v'.ownBlock = v.ownBlock ∨ v'.ownBlock = some w.heap.size) → wpListIn F n P ops Q rest (a.put o.dst v') w') :
  wpListIn F n P ops Q (o :: rest) a w := by
 refine wpListIn_plain hg fun K hK' => ?_
 obtain ⟨v', w', hrun, r1, r2, -, r3⟩ := run_append_own_at (P := P) w base t o.type e i z size bytes h1 h2 h3 h4 h5 h6 h7 v k xs hown ad m c news hn hc h1c b1 b2 b3
 unfold Oper.wpIn
 refine ⟨?_, ?_⟩
 ·simp [Oper.about, hop, resolve, Target.leads, Sem.run_pure]
 ·rw [Oper.semAt_plain F _ _ (by rw [hop]; intro c hc'; cases hc')]
  simp [execOp, hop, resolve, invoke, builtin, hs, hx, hrun, Result.andThen]
  exact hK' _ _ (hK v' w' r1 r2 r3)

/-- behind an append to the row of what is reached -/
theorem sem_app {w : World} {A : Option Addr} {c m G B3 : Nat} {X : Nat → Prop} {D : List Int} {R : List Nat} {ib i t : Nat} {W w1 : World} {gb cap g' cap' : Nat} (h : SeM w A c m G B3 X D R ib i W) (h1 : w.heap.size < G) (h2 : G < B3) (h3 : B3 + 2 < ib) (hX : X ib) (hXs : ∀ b, X b → b < W.heap.size)
  (hv : Boxed W (B3 + 2) 29 (.slice (some ⟨gb, 0, none⟩) R.length cap)) (hrow : W.ownsRow (B3 + 1) 3 1 (.slice (some ⟨gb, 0, none⟩) R.length cap) R.length (IL (NI R))) (hg : ¬ X gb)
  (hown : w1.ownsRow (B3 + 1) 3 1 (.slice (some ⟨g', 0, none⟩) (R.length + 1) cap') (R.length + 1) (IL (NI R) ++ [.int .i64 (t : Int)])) (hgrow : (W.alloc (.cells #[.int .i64 (t : Int)] 3)).grownBy w1 (Value.ownBlock (.slice (some ⟨gb, 0, none⟩) R.length cap)))
  (hob : Value.ownBlock (.slice (some ⟨g', 0, none⟩) (R.length + 1) cap') = Value.ownBlock (.slice (some ⟨gb, 0, none⟩) R.length cap) ∨ Value.ownBlock (.slice (some ⟨g', 0, none⟩) (R.length + 1) cap') = some (W.alloc (.cells #[.int .i64 (t : Int)] 3)).heap.size) :
  SeM w A c m G B3 X D (R ++ [t]) ib i (w1.setCell ⟨B3 + 2, 0, none⟩ (.slice (some ⟨g', 0, none⟩) (R.length + 1) cap')) ∧ Boxed w1 (B3 + 2) 29 (.slice (some ⟨gb, 0, none⟩) R.length cap) ∧
  KeepsOthers W (w1.setCell ⟨B3 + 2, 0, none⟩ (.slice (some ⟨g', 0, none⟩) (R.length + 1) cap')) ∧ Below (B3 + 1) W (w1.setCell ⟨B3 + 2, 0, none⟩ (.slice (some ⟨g', 0, none⟩) (R.length + 1) cap')) ∧
  ∀ B, B < W.heap.size → B ≠ gb → B ≠ B3 + 2 → (w1.setCell ⟨B3 + 2, 0, none⟩ (.slice (some ⟨g', 0, none⟩) (R.length + 1) cap')).heap[B]? = W.heap[B]? := by
 have hB4 := hv.lt
 obtain ⟨k1, k2, k3, k4, k5⟩ := hv.appended (by decide) hrow (by omega) (by omega) hown hgrow
 have hk : ∀ B, B < W.heap.size → B ≠ gb → B ≠ B3 + 2 → (w1.setCell ⟨B3 + 2, 0, none⟩ (.slice (some ⟨g', 0, none⟩) (R.length + 1) cap')).heap[B]? = W.heap[B]? := fun B hB hgb h4 => by
  rw [heap_setCell_other w1 ⟨B3 + 2, 0, none⟩ B _ (fun e => h4 e)]
  exact (hgrow.block B (by simp; omega) (by simp only [Value.ownBlock, ne_eq, Option.some.injEq]; exact hgb)).trans (Below.heap_alloc _ _ B hB)
 obtain ⟨⟨⟨-, g4⟩, g5, g6⟩, g7, g8⟩ := h
 have hib : ib ≠ gb := fun e => hg (e ▸ hX)
 have hgl := (hrow.lt gb rfl).1
 refine ⟨⟨⟨⟨⟨_, k2, by rw [List.length_append, NI_app, IL_app]; exact k3, g', cap', by rw [List.length_append]; rfl, ?_⟩, g4.trans (k5.mono (by omega))⟩, (hk _ (blk_lt g5) (by omega) (by omega)).trans g5, (hk _ (blk_lt g6) (by omega) (by omega)).trans g6⟩, (hk _ (blk_lt g7) (by omega) (by omega)).trans g7, (hk _ (blk_lt g8) hib (by omega)).trans g8⟩, k1, k4, k5, hk⟩
 rcases hob with e | e
 ·simp only [Value.ownBlock, Option.some.injEq] at e
  rw [e]; exact hg
 ·simp only [Value.ownBlock, Option.some.injEq, World.size_alloc] at e
  intro hx
  have := hXs _ hx
  omega

theorem stepR_scope {P : Program} {b : Frame} {a : Act} {k : List Item} {cs : List Frame} {w : World} {c : Code} : step P (lone (b.atR a (.code (.scope c) :: k)) cs w) = .next (lone (b.atR a (.code c :: .inScope c :: k)) cs w) :=
 step_lone_go (by simp [stepG, stepG.exec, Frame.atR])
theorem stepR_inScope {P : Program} {b : Frame} {a : Act} {k : List Item} {cs : List Frame} {w : World} {c : Code} : step P (lone (b.atR a (.inScope c :: k)) cs w) = .next (lone (b.atR a k) cs w) :=
 step_lone_go (by simp [stepG, stepG.exec, Frame.atR])
/-- a labelled statement's scope, inside a fence -/
theorem wpIn_scope {F : Fence} {n : Nat} {P : Program} {a : Act} {w : World} {Q : Exit → Act → World → Prop} {c : Code} (h : c.wpIn F n P (Exit.noGoto Q) a w) : (Code.scope c).wpIn F n P Q a w := by
 intro b k cs hro hb hr
 have h0 : (lone (b.atR a (.code (.scope c) :: k)) cs w).fenced P F := fenced_calm hb hr rfl
 obtain ⟨e, a₁, w₁, hq, harr⟩ := h b (.inScope c :: k) cs hro hb hr
 cases e with
 | normal => exact ⟨.normal, a₁, w₁, hq, .head h0 stepR_scope (StepsIn.trans harr (.one (fenced_calm hb hr rfl) stepR_inScope))⟩
 | exit id =>
  have hx : exitTo id (.inScope c :: k) = exitTo id k := by simp [exitTo]
  exact ⟨.exit id, a₁, w₁, hq, fun k' hk => .head h0 stepR_scope (harr.1 k' (by rw [hx]; exact hk)),
   fun hr' hk => let ⟨k₁, h1, h2⟩ := harr.2 hr' (by rw [hx]; exact hk); ⟨k₁, h1, .head h0 stepR_scope h2⟩⟩
 | goto l => exact hq.elim
 | ret => exact ⟨_, a₁, w₁, hq, .of_steps (.one h0 stepR_scope) harr⟩
 | panic ch => exact ⟨_, a₁, w₁, hq, .of_steps (.one h0 stepR_scope) harr⟩
 | outgrown => exact ⟨_, a₁, w₁, hq, .of_steps (.one h0 stepR_scope) harr⟩
theorem alloc4 (W We : World) (a b c d : Obj) (h : We = (((W.alloc a).alloc b).alloc c).alloc d) : We.heap[W.heap.size]? = some a ∧ We.heap[W.heap.size + 1]? = some b ∧ We.heap[W.heap.size + 2]? = some c ∧ We.heap[W.heap.size + 3]? = some d ∧ Below W.heap.size W We ∧ We.heap.size = W.heap.size + 4 := by
 subst h
 have h2 := heap_alloc_new (W.alloc a) b
 have h3 := heap_alloc_new ((W.alloc a).alloc b) c
 have h4 := heap_alloc_new (((W.alloc a).alloc b).alloc c) d
 simp only [World.size_alloc] at h2 h3 h4
 refine ⟨?_, ?_, ?_, h4, ((((Below.refl _ W).alloc (Nat.le_refl _) _).alloc (by rw [World.size_alloc]; omega) _).alloc (by rw [World.size_alloc, World.size_alloc]; omega) _).alloc (by rw [World.size_alloc, World.size_alloc, World.size_alloc]; omega) _, by rw [World.size_alloc, World.size_alloc, World.size_alloc, World.size_alloc]⟩
 ·exact (Below.heap_alloc _ _ _ (by simp only [World.size_alloc]; omega)).trans ((Below.heap_alloc _ _ _ (by simp only [World.size_alloc]; omega)).trans ((Below.heap_alloc _ _ _ (by simp only [World.size_alloc]; omega)).trans (heap_alloc_new W a)))
 ·exact (Below.heap_alloc _ _ _ (by simp only [World.size_alloc]; omega)).trans ((Below.heap_alloc _ _ _ (by simp)).trans h2)
 ·exact (Below.heap_alloc _ _ _ (by simp)).trans h3
theorem wrap_succ {i : Nat} (h : (i : Int) ≤ 999) : wrap64 ((i : Int) + 1) = ((i + 1 : Nat) : Int) := by unfold wrap64; omega
/-- what holds between two rounds of the inner loop; how it is left early -/
def DsI (l : List In) (w : World) (A : Option Addr) (c m G B3 : Nat) (X : Nat → Prop) (ib i p T : Nat) (Ds : List Nat) {O : List Int} (q : List {x : Int // x ∈ O}) (W' : World) : Prop :=
 (∃ (D' : List Int) (R' : List Nat), (BInv l D' R' i (q.map (·.1)) ∧ R'[i]? = some p) ∧ SeM w A c m G B3 X D' R' ib i W') ∧ (Marks w.heap.size T Ds W' ∧ T ≤ W'.heap.size)
def DsX (l : List In) (w : World) (A : Option Addr) (c m G B3 : Nat) (X : Nat → Prop) (ib i T : Nat) (Ds : List Nat) {O : List Int} (c' : Code) (_ : List {x : Int // x ∈ O}) (W' : World) : Prop :=
 ((∃ (D' : List Int) (R' : List Nat), DistOk l D' ∧ SeM w A c m G B3 X D' R' ib i W') ∧ Marks w.heap.size T Ds W') ∧ c' = .exit 0
theorem dsi_own {l : List In} {w : World} {A : Option Addr} {c m G B3 : Nat} {X : Nat → Prop} {ib i p T : Nat} {Ds : List Nat} {O : List Int} (hT : w.heap.size ≤ T) : OwnFrom T (DsI l w A c m G B3 X ib i p T Ds (O := O)) :=
 OwnFrom.and (fun s X Y row hs hg hr => by
  obtain ⟨D', R', h1, h2⟩ := hs
  exact ⟨D', R', h1, sem_own (β := Unit) w A c m G B3 _ D' R' ib i _ hT () X Y row h2 hg hr⟩) (OwnFrom.and (marks_own _ _ _) (fun _ _ _ _ hs hg _ => Nat.le_trans hs hg.size))
theorem dsx_own {l : List In} {w : World} {A : Option Addr} {c m G B3 : Nat} {X : Nat → Prop} {ib i T : Nat} {Ds : List Nat} {O : List Int} (hT : w.heap.size ≤ T) (c' : Code) : OwnFrom T (DsX l w A c m G B3 X ib i T Ds (O := O) c') :=
 OwnFrom.and (OwnFrom.and (fun s X Y row hs hg hr => by
  obtain ⟨D', R', h1, h2⟩ := hs
  exact ⟨D', R', h1, sem_own (β := Unit) w A c m G B3 _ D' R' ib i _ hT () X Y row h2 hg hr⟩) (marks_own _ _ _)) (fun _ _ _ _ hs _ _ => hs)
/-- behind a store and a draw -/
theorem drew_set (W X : World) (G t : Nat) (v : Value) (n₀ : Nat) (h0 : n₀ ≤ G) (h1 : n₀ ≤ W.heap.size) (hX : X = (W.setCell ⟨G, t, none⟩ v).drew) : X.heap.size = W.heap.size ∧ (∀ k, k ≠ G → X.heap[k]? = W.heap[k]?) ∧ KeepsOthers W X ∧ Below n₀ W X := by
 obtain ⟨V, hV⟩ : ∃ V, V = W.setCell ⟨G, t, none⟩ v := ⟨_, rfl⟩
 rw [← hV] at hX
 have hh : X.heap = V.heap := by rw [hX]; rfl
 have hb : Below n₀ V X := by rw [hX]; exact below_drew (Below.refl _ _)
 have ot : ∀ k, k ≠ G → V.heap[k]? = W.heap[k]? := fun k hk => by rw [hV]; exact heap_setCell_other W ⟨G, t, none⟩ k v (fun e => hk e)
 have hz : V.heap.size = W.heap.size := by rw [hV]; simp
 have hk : KeepsOthers W V := by rw [hV]; exact KeepsOthers.setCell _ _ _
 have hg : W.grownBy V (some G) := ⟨by rw [hV]; rfl, by rw [hV]; rfl, by rw [hV]; rfl, Nat.le_of_eq hz.symm, fun k _ hk => ot k (fun e => hk (by rw [e]))⟩
 refine ⟨by rw [hh, hz], fun k hk => by rw [hh, ot k hk], hk.trans ⟨Nat.le_of_eq (by rw [hh]), fun k o hk _ => by rw [hh]; exact hk⟩, ?_⟩
 exact ((Below.refl n₀ W).grown hg h1 (fun k e => by cases e; exact h0)).trans hb
/-- the number that is counted up, as it lies in its box -/
def iOf (a : Act) (W : World) : Nat := match a.tmps.getD 5 undef with
 | .pointer (some p) => (match W.cell? p with | some v => (intOf v).toNat | none => 0)
 | _ => 0
theorem iOf_at (a : Act) (W : World) (p : Addr) (v : Value) (h : a.tmps.getD 5 undef = .pointer (some p)) (hc : W.cell? p = some v) : iOf a W = (intOf v).toNat := by
 unfold iOf; rw [h]; simp only [hc]
/-- what Dist answers -/
def DistP (l : List In) (w : World) (e : Ending) (w' : World) : Prop :=
 ∃ D A' c', DistOk l D ∧ e = .returned (.slice A' l.length c') ∧ Rd w' A' (IL D) ∧ Below w.heap.size w w'
theorem dist_nil : DistOk [] [] := ⟨rfl, fun h => absurd h (by decide), fun i => by simp [dl], fun i h => absurd h (by simp [dl]), fun i h => absurd h (by simp [dl])⟩

set_option maxRecDepth 100000 in
set_option maxHeartbeats 4000000 in
set_option linter.all false in
theorem dist_in (A : Option Addr) (c : Nat) (L : List InM) (w : World) (hz : L.length ≤ 1000) (hr : Rd w A (L.flatMap inC)) (hs : Sh w) :
  CallsIn Fence.wide 5 Tryd.prog 17 #[.slice A L.length c] w (DistP (L.map (·.i)) w) := by
 obtain ⟨i0, hi, hz0, hz1, hz2⟩ := info_parts infoI
 obtain ⟨m, hm⟩ : ∃ m, m = L.length := ⟨_, rfl⟩
 have HR := Lib.hid hr; have HS := Lib.hid hs; have HM := Lib.hid hm
 have HML := Lib.hid (show (L.map (·.i)).length = m by rw [List.length_map, ← hm])
 have hmI : (m : Int) ≤ 1000 := by omega
 have HON := Lib.hid (fun k w => onward_w A m c k w)
 rw [← hm]
 unfold DistP
 rw [HML.out]
 by_cases h0 : m = 0
 case pos =>
  have hL : L = [] := List.eq_nil_of_length_eq_zero (by omega)
  subst hL
  subst h0
  clear HM HML HR hr hs hm hz HS HON
  refine callsIn_of_wp_marks Tryd.func17 rfl trivial ?_ rfl
  simp only [Tryd.ntmps17, List.size_toArray, List.length_cons, List.length_nil, Nat.reduceAdd, Nat.reduceSub, Array.replicate_succ, Array.replicate_zero, List.push_toArray, List.append_toArray, List.nil_append, List.cons_append]
  gi_wp2
  refine wpIn_scope ?_
  gi_wp2
  rw [Exit.noGoto_ret]
  exact ⟨_, results_tmp rfl _ _ _, [], none, 0, dist_nil, rfl, Rd.nil _ _, (Below.refl _ w).alloc (Nat.le_refl _) _⟩
 case neg =>
  have hne : ((m : Int) == 0) = false := beq_eq_false_iff_ne.2 (by omega)
  have HRP := Lib.hid (fun b c w hx => repeat_w m (by omega) (by omega) b c w hx)
  clear hr hs hz hm
  refine callsIn_of_wp_marks Tryd.func17 rfl trivial ?_ rfl
  simp only [Tryd.ntmps17, List.size_toArray, List.length_cons, List.length_nil, Nat.reduceAdd, Nat.reduceSub, Array.replicate_succ, Array.replicate_zero, List.push_toArray, List.append_toArray, List.nil_append, List.cons_append]
  gi_wp2
  refine wpIn_scope ?_
  gi_wp2_with fail
  obtain ⟨W1, hW1⟩ : ∃ W1, W1 = (w.alloc (.cells #[.slice A m c] 22)).alloc (.cells #[.int .i64 (-1)] 3) := ⟨_, rfl⟩
  have s1 : W1.heap.size = w.heap.size + 2 := by rw [hW1]; simp
  have b1 : Below w.heap.size w W1 := by rw [hW1]; exact (((Below.refl _ w).alloc (Nat.le_refl _) _).alloc (by simp) _)
  have e1 : W1.heap[w.heap.size]? = some (.cells #[.slice A m c] 22 (0, 0)) := by rw [hW1]; exact (Below.heap_alloc _ _ _ (by simp)).trans (heap_alloc_new w _)
  have e2 : W1.cell? ⟨w.heap.size + 1, 0, none⟩ = some (.int .i64 (-1)) := by
   have := heap_alloc_new (w.alloc (.cells #[.slice A m c] 22)) (.cells #[.int .i64 (-1)] 3)
   rw [World.size_alloc, ← hW1] at this
   exact cell_of_row _ _ 0 _ _ _ this
  rw [← hW1]
  refine ⟨trivial, callsIn_wide.2 ((HRP.out _ _ _ e2).mono ?_)⟩
  rintro e W2 ⟨rfl, hG, hb2⟩
  obtain ⟨G, hGe⟩ : ∃ G, G = W1.heap.size := ⟨_, rfl⟩
  rw [← hGe] at hG hb2 ⊢
  have hGs : G < W2.heap.size := blk_lt hG
  have hGw : w.heap.size < G := by omega
  have hb1 : Below w.heap.size w W2 := b1.trans (hb2.mono (by omega))
  have aw : W2.heap[w.heap.size]? = some (.cells #[.slice A m c] 22 (0, 0)) := (hb2.block _ (by omega)).trans e1
  have c0 : W2.cell? ⟨G, 0, none⟩ = some (.int .i64 (-1)) := cell_of_row _ _ 0 _ _ _ hG |>.trans (by rw [List.getElem?_toArray]; simp [IL, List.getElem?_replicate]; omega)
  have f0 : W2.frozen? ⟨G, 0, none⟩ = false := frozen_of_row _ G 0 _ _ hG
  have h0I : (0 : Int) < (m : Int) := by omega
  have HG := Lib.hid hG; have HB1 := Lib.hid hb1; have HAW := Lib.hid aw
  clear hW1 e1 e2 hG hb2 hGe b1 s1 hb1 aw
  gi_wp2
  refine wpIn_label ?_
  gi_wp2
  obtain ⟨We, hWe⟩ : ∃ We, We = ((((W2.setCell ⟨G, 0, none⟩ (.int .i64 0)).alloc (.cells #[.slice (some ⟨G, 0, none⟩) m m] 29)).alloc (.cells #[.int .i64 0] 3)).alloc (.cells #[.slice (some ⟨W2.heap.size + 1, 0, none⟩) 1 1] 29)).alloc (.cells #[.int .i64 0] 3) := ⟨_, rfl⟩
  obtain ⟨q1, q2, q3, q4, q5, q6⟩ := alloc4 _ _ _ _ _ _ hWe
  obtain ⟨B3, hB3⟩ : ∃ B3, B3 = W2.heap.size := ⟨_, rfl⟩
  rw [show (W2.setCell ⟨G, 0, none⟩ (.int .i64 0)).heap.size = B3 by simp [hB3]] at q1 q2 q3 q4 q5 q6
  rw [← hB3] at q3
  have ot : ∀ k, k ≠ G → (W2.setCell ⟨G, 0, none⟩ (.int .i64 0)).heap[k]? = W2.heap[k]? := fun k hk => heap_setCell_other W2 ⟨G, 0, none⟩ k (.int .i64 0) (fun e => hk e)
  have hgs : W2.grownBy (W2.setCell ⟨G, 0, none⟩ (.int .i64 0)) (some G) := ⟨rfl, rfl, rfl, by simp, fun k _ hk => ot k (fun e => hk (by rw [e]))⟩
  have hbs : Below w.heap.size w (W2.setCell ⟨G, 0, none⟩ (.int .i64 0)) := HB1.out.grown hgs HB1.out.size (fun k e => by cases e; omega)
  have hX : SeM w A c m G B3 (fun b => b = B3 + 3) ((List.replicate m (-1)).set 0 0) [0] (B3 + 3) 0 We := by
   refine ⟨⟨⟨⟨_, q3, ⟨rfl, .inr ⟨B3 + 1, 1, _, rfl, Nat.le_refl _, q2, Nat.le_refl _, by decide, rfl, rfl⟩⟩, _, _, rfl, by omega⟩, hbs.trans (q5.mono (by have := HB1.out.size; omega))⟩, ?_, q1⟩, ?_, q4⟩
   ·exact (q5.block _ (by have := HB1.out.size; omega)).trans ((ot _ (by omega)).trans HAW.out)
   ·refine (q5.block _ (by omega)).trans ?_
    rw [heap_setCell_same W2 G 0 _ _ _ HG.out, List.setIfInBounds_toArray, IL_set]
  have hI := BInv.start (L.map (·.i)) (by rw [HML.out]; omega)
  rw [HML.out] at hI
  rw [← hWe, ← hB3]
  have HGB := Lib.hid (show G < B3 by omega)
  have HGW := Lib.hid hGw
  clear q1 q2 q3 q4 q5 ot hgs hbs HAW HG HB1 hWe hGs hGw c0 f0 hB3
  have hMk : Marks w.heap.size We.heap.size [] We := Marks.nil _ _ _
  refine wpIn_loop (fun a W => ∃ (i ib : Nat) (D : List Int) (R Ds : List Nat) (v17 v18 v19 v20 v21 v22 v23 v24 v25 v26 v27 v28 v55 : Value), i ≤ R.length ∧ a = { tmps := #[.slice A m c, .pointer (some ⟨w.heap.size, 0, none⟩), .slice none 0 0, .pointer (some ⟨B3, 0, none⟩), .pointer (some ⟨B3 + 2, 0, none⟩), .pointer (some ⟨ib, 0, none⟩), undef, .slice A m c, .int .i64 (m : Int), .bool false, .slice (some ⟨w.heap.size + 1, 0, none⟩) 1 1, .slice A m c, .int .i64 (m : Int), .slice (some ⟨G, 0, none⟩) m m, .slice (some ⟨G, 0, none⟩) m m, .pointer (some ⟨G, 0, none⟩), .slice (some ⟨B3 + 1, 0, none⟩) 1 1, v17, v18, v19, v20, v21, v22, v23, v24, v25, v26, v27, v28, undef, undef, undef, undef, undef, undef, undef, undef, undef, undef, undef, undef, undef, undef, undef, undef, undef, undef, undef, undef, undef, undef, undef, undef, undef, undef, v55, undef], defers := marksD Ds } ∧
   BInv (L.map (·.i)) D R i [] ∧ SeM w A c m G B3 (fun b => b = ib) D R ib i W ∧ Marks w.heap.size W.heap.size Ds W ∧ B3 + 2 < ib) (fun a W => m - iOf a W) ⟨0, B3 + 3, _, [0], [], _, _, _, _, _, _, _, _, _, _, _, _, _, by decide, rfl, hI, hX, hMk, by omega⟩ ?_
  clear hI hX hMk q6
  rintro a W ⟨i, ib, D, R, Ds, v17, v18, v19, v20, v21, v22, v23, v24, v25, v26, v27, v28, v55, hiR, rfl, hBI, hSe, hMk, hib⟩
  have hse := hSe
  obtain ⟨⟨⟨⟨v, g1, g2, gb, cap, rfl, g3⟩, g4⟩, g5, g6⟩, g7, g8⟩ := hse
  have c1 := cell_of_row _ _ 0 _ _ _ g5
  have c3 := cell_of_row _ _ 0 _ _ _ g6
  have c4 := g1.cell
  have ci := cell_of_row _ _ 0 _ _ _ g8
  have hRm := hBI.size
  rw [HML.out] at hRm
  have hD := hBI.len
  rw [HML.out] at hD
  have HIO := Lib.hid (show iOf { tmps := #[.slice A m c, .pointer (some ⟨w.heap.size, 0, none⟩), .slice none 0 0, .pointer (some ⟨B3, 0, none⟩), .pointer (some ⟨B3 + 2, 0, none⟩), .pointer (some ⟨ib, 0, none⟩), undef, .slice A m c, .int .i64 (m : Int), .bool false, .slice (some ⟨w.heap.size + 1, 0, none⟩) 1 1, .slice A m c, .int .i64 (m : Int), .slice (some ⟨G, 0, none⟩) m m, .slice (some ⟨G, 0, none⟩) m m, .pointer (some ⟨G, 0, none⟩), .slice (some ⟨B3 + 1, 0, none⟩) 1 1, v17, v18, v19, v20, v21, v22, v23, v24, v25, v26, v27, v28, undef, undef, undef, undef, undef, undef, undef, undef, undef, undef, undef, undef, undef, undef, undef, undef, undef, undef, undef, undef, undef, undef, undef, undef, undef, undef, v55, undef], defers := marksD Ds } W = i from by unfold iOf; simp only [List.getElem_toArray, Array.getD]; simp [ci, intOf])
  have HBI := Lib.hid hBI; have HSE := Lib.hid hSe; have HMK := Lib.hid hMk
  by_cases hlt : i < R.length
  case neg =>
   have hir : i = R.length := by omega
   have hltI : ¬ (i : Int) < (R.length : Int) := by omega
   have hOK := hBI.all (by omega)
   have HOK := Lib.hid hOK; have HG7 := Lib.hid g7; have HG4 := Lib.hid g4
   clear hBI hSe hMk g1 g2 g5 g6 g7 g8 g4 hOK
   gi_wp2
   refine leaves_marks w.heap.size W.heap.size (fun W' => W'.heap[G]? = some (.cells (IL D).toArray 3 (0, 0)) ∧ Below w.heap.size w W') ?_ ?_ Ds W HMK.out ⟨HG7.out, HG4.out⟩
   ·rintro W' E ⟨k1, k2⟩ hE hK
    have hEG : E ≠ G := by rintro rfl; rw [k1] at hK; cases hK
    exact ⟨(World.putObj_heap_other (fun e => hEG (by omega))).trans k1, k2.trans (belowK_b (w := w) (Nat.le_refl _) W' E _ _ hE hK rfl rfl)⟩
   ·rintro W' ⟨k1, k2⟩
    exact ⟨_, results_tmp rfl _ _ _, D, _, _, HOK.out, rfl, rd_blk (k := m) k1 (List.take_of_length_le (by simp [IL]; omega)), k2⟩
  case pos =>
   have hltI : (i : Int) < (R.length : Int) := by omega
   obtain ⟨p, hp⟩ : ∃ p, R[i]? = some p := ⟨R[i], List.getElem?_eq_getElem hlt⟩
   have cp : W.cell? ⟨gb, i, none⟩ = some (.int .i64 (p : Int)) := (g2.cellAt i (by omega)).trans (IL_at (NI_at hp))
   clear hBI hSe hMk g1 g5 g6 g7 g8 g4
   gi_wp2_with fail
   refine wpIn_mono (Q := onlyN (fun a' w' => a' = { tmps := #[.slice A m c, .pointer (some ⟨w.heap.size, 0, none⟩), .slice none 0 0, .pointer (some ⟨B3, 0, none⟩), .pointer (some ⟨B3 + 2, 0, none⟩), .pointer (some ⟨ib, 0, none⟩), undef, .slice A m c, .int .i64 (m : Int), .bool false, .slice (some ⟨w.heap.size + 1, 0, none⟩) 1 1, .slice A m c, .int .i64 (m : Int), .slice (some ⟨G, 0, none⟩) m m, .slice (some ⟨G, 0, none⟩) m m, .pointer (some ⟨G, 0, none⟩), .slice (some ⟨B3 + 1, 0, none⟩) 1 1, .int .i64 (i : Int), .slice (some ⟨gb, 0, none⟩) R.length cap, .int .i64 (R.length : Int), .bool true, v21, v22, .slice A m c, .slice (some ⟨gb, 0, none⟩) R.length cap, .int .i64 (i : Int), .pointer (some ⟨gb, i, none⟩), .int .i64 (p : Int), .func (.func 42) #[] #[.pointer (some ⟨W.heap.size, 0, none⟩), .pointer (some ⟨W.heap.size + 1, 0, none⟩)], undef, undef, undef, undef, undef, undef, undef, undef, undef, undef, undef, undef, undef, undef, undef, undef, undef, undef, undef, undef, undef, undef, undef, undef, undef, undef, v55, undef], defers := marksD Ds } ∧ w' = ((W.alloc (.cells #[.slice A m c] 22)).alloc (.cells #[.int .i64 (p : Int)] 3)).drew)) ?_ ?_
   ·have mixed : Tryd.prog.follows Departure.mixedOrders = true := by kernel_rfl
    gi_region_with_o (refine ⟨trivial, ?_⟩; gi_at_call 31; refine (callsIn_wide.2 (HON.out _ _)).mono ?_; rintro e W2 ⟨rfl, hW2⟩; subst hW2)
    all_goals exact ⟨rfl, rfl⟩
   intro e a2 W2 hq
   obtain ⟨rfl, rfl, hW2⟩ := onlyN_of hq
   have s2 : W2.heap.size = W.heap.size + 2 := by rw [hW2]; simp [World.drew]
   have b2 : Below W.heap.size W W2 := by rw [hW2]; exact below_drew ((((Below.refl _ W).alloc (Nat.le_refl _) _).alloc (by simp) _))
   have d1 : W2.cell? ⟨W.heap.size, 0, none⟩ = some (.slice A m c) := by rw [hW2]; exact ((Below.refl _ (W.alloc (.cells #[.slice A m c] 22))).alloc (Nat.le_refl _) _).cell (p := ⟨W.heap.size, 0, none⟩) (by simp) |>.trans (cell_of_row _ _ 0 _ _ _ (heap_alloc_new W _))
   have d2 : W2.cell? ⟨W.heap.size + 1, 0, none⟩ = some (.int .i64 (p : Int)) := by
    have := heap_alloc_new (W.alloc (.cells #[.slice A m c] 22)) (.cells #[.int .i64 (p : Int)] 3)
    rw [World.size_alloc] at this
    rw [hW2]
    exact cell_of_row _ _ 0 _ _ _ this
   have hibl : ib < W.heap.size := blk_lt HSE.out.2.2
   have hX2 : SeM w A c m G B3 (fun b => b = ib ∨ b = W.heap.size ∨ b = W.heap.size + 1) D R ib i W2 := HSE.out.reib b2 ((b2.block _ hibl).trans HSE.out.2.2) (fun b hb hn => by rintro (h | h | h) <;> omega)
   have hM2 : Marks w.heap.size W2.heap.size Ds W2 := (HMK.out.below b2).up b2.size
   have hwW : Below w.heap.size w W := HSE.out.1.1.2
   have hB2 : Below w.heap.size w W2 := hwW.trans (b2.mono hwW.size)
   obtain ⟨O, hO⟩ : ∃ O, O = onL (L.map (·.i)) (p : Int) := ⟨_, rfl⟩
   have HSQ := Lib.hid (on_stops3 4 (by omega) W.heap.size (W.heap.size + 1) A c L (p : Int) O hO w (by have := HM.out; omega) HR.out HS.out W2 hB2 (by omega) (by omega) (by rw [← HM.out]; exact d1) d2)
   have hle : w.heap.size ≤ W2.heap.size := hB2.size
   have l1 : W.heap.size < W2.heap.size := by omega
   have l2 : W.heap.size + 1 < W2.heap.size := by omega
   have HOO := Lib.hid hO; have HPP := Lib.hid hp; have HIB := Lib.hid hibl; have HWW := Lib.hid hwW.size
   have hI0 : DsI (L.map (·.i)) w A c m G B3 (fun b => b = ib ∨ b = W.heap.size ∨ b = W.heap.size + 1) ib i p W2.heap.size Ds ([] : List {x : Int // x ∈ O}) W2 := ⟨⟨D, R, ⟨HBI.out, hp⟩, hX2⟩, hM2, Nat.le_refl _⟩
   clear hW2 b2 d1 d2 hX2 hM2 hwW hB2 c1 c3 c4 ci cp g2 g3 hp s2 hibl hO hlt hltI hRm hD hiR
   gi_wp2_with fail
   refine wpIn_rangeFunc_ownG rfl (by omega) (gf := 42) (lb := #[.pointer (some ⟨W.heap.size, 0, none⟩), .pointer (some ⟨W.heap.size + 1, 0, none⟩)]) rfl trivial (enters_of Tryd.func42 (by kernel_rfl) rfl)
    HSQ.out rk2_t (fun W l o o' hl h h1 h2 => rk2_b (w := W2) hle l1 l2 W l o o' hl h h1 h2) (Below.refl _ _) (fun _ => rfl) (DsI (L.map (·.i)) w A c m G B3 (fun b => b = ib ∨ b = W.heap.size ∨ b = W.heap.size + 1) ib i p W2.heap.size Ds) (DsX (L.map (·.i)) w A c m G B3 (fun b => b = ib ∨ b = W.heap.size ∨ b = W.heap.size + 1) ib i W2.heap.size Ds) (dsi_own hle) (dsx_own hle) hI0 ?a1 ?assign ?body ?done ?stop
   case assign =>
    intro l x W' K hK
    dsimp only [encP]
    gi_wp2
    exact hK
   case body =>
    rintro l q ⟨x, hx⟩ W' ⟨⟨D', R', ⟨hB', hp'⟩, hse'⟩, hM', hT⟩ hlen
    have hxo := hx
    rw [HOO.out] at hxo
    have hxr := onL_in hxo
    rw [HML.out] at hxr
    obtain ⟨t, rfl⟩ : ∃ t : Nat, x = (t : Int) := ⟨x.toNat, by omega⟩
    have htm : t < m := by omega
    have htI : (t : Int) < (m : Int) := by omega
    have hpI : (p : Int) < (m : Int) := by omega
    have hse := hse'
    obtain ⟨⟨⟨⟨v, g1, g2, gb', cap', rfl, g3⟩, g4⟩, g5, g6⟩, g7, g8⟩ := hse
    have c1 := cell_of_row _ _ 0 _ _ _ g5
    have c3 := cell_of_row _ _ 0 _ _ _ g6
    have c4 := g1.cell
    have ci := cell_of_row _ _ 0 _ _ _ g8
    have hD' := hB'.len
    rw [HML.out] at hD'
    have hR' := hB'.size
    rw [HML.out] at hR'
    have HB' := Lib.hid hB'; have HP' := Lib.hid hp'; have HS' := Lib.hid hse'; have HM' := Lib.hid hM'
    have HQ := Lib.hid (show (q ++ [(⟨(t : Int), hx⟩ : {x : Int // x ∈ O})]).map (·.1) = q.map (·.1) ++ [(t : Int)] from by simp)
    clear HSQ hI0 hxr hlen HSE HMK HBI HPP
    by_cases hfull : R'.length = m
    ·have hfb : ((R'.length : Int) == (m : Int)) = true := by simp; omega
     have HF := Lib.hid (hB'.full (by rw [HML.out]; exact hfull))
     clear hB' hp' hse' hM' hxo g1 g2 g3 g4 g5 g6 g7 g8 hfull
     gi_wp2
     exact ⟨KeepsFrom.refl _ _, ⟨⟨D', R', HF.out, HS'.out⟩, HM'.out⟩, rfl⟩
    ·have hfb : ((R'.length : Int) == (m : Int)) = false := beq_eq_false_iff_ne.2 (by omega)
     have ct : W'.cell? ⟨G, t, none⟩ = some (.int .i64 (dl D' t)) := cell_of_row _ _ _ _ _ _ g7 |>.trans (by rw [List.getElem?_toArray]; exact IL_at (dl_get (by omega)))
     have ft : W'.frozen? ⟨G, t, none⟩ = false := frozen_of_row _ G t _ _ g7
     have cpp : W'.cell? ⟨G, p, none⟩ = some (.int .i64 (dl D' p)) := cell_of_row _ _ _ _ _ _ g7 |>.trans (by rw [List.getElem?_toArray]; exact IL_at (dl_get (by omega)))
     have hlt' : i < R'.length := (List.getElem?_eq_some_iff.1 hp').1
     have cp : W'.cell? ⟨gb', i, none⟩ = some (.int .i64 (p : Int)) := (g2.cellAt i (by omega)).trans (IL_at (NI_at hp'))
     have hltI : (i : Int) < (R'.length : Int) := by omega
     have hds := hB'.small p
     rw [HML.out] at hds
     have hd0 : 0 ≤ dl D' p := (hB'.mem p).2 (List.mem_of_getElem? hp')
     obtain ⟨d, hd⟩ : ∃ d, d = dl D' p := ⟨_, rfl⟩
     obtain ⟨dt, hdt⟩ : ∃ d, d = dl D' t := ⟨_, rfl⟩
     have HDP := Lib.hid hd; have HDT := Lib.hid hdt
     rw [← hd] at cpp hds hd0
     rw [← hdt] at ct
     by_cases hnew : dt = -1
     case neg =>
      have hnb : (dt == -1) = false := by simpa using hnew
      have HO := Lib.hid (hB'.old hp' (t := (t : Int)) (by rw [Int.toNat_natCast, ← hdt]; exact hnew))
      clear hB' hp' hse' hM' hxo g1 g2 g3 g4 g5 g6 g7 g8 hfull hd hdt hnew
      gi_wp2
      exact ⟨KeepsFrom.refl _ _, ⟨Below.refl _ _, rfl, rfl⟩, ⟨D', R', ⟨by rw [HQ.out]; exact HO.out, HP'.out⟩, HS'.out⟩, HM'.out, hT⟩
     case pos =>
      have hnb : (dt == -1) = true := by rw [hnew]; rfl
      have HN := Lib.hid (hB'.new hp' (t := (t : Int)) (by rw [Int.toNat_natCast, ← hdt]; exact hnew) hxo)
      have HR2 := Lib.hid g2
      have HV := Lib.hid g1
      clear hB' hp' hse' hM' hxo g1 g2 g4 g5 g6 g7 g8 hfull hd hdt hnew
      have mixed : Tryd.prog.follows Departure.mixedOrders = true := by kernel_rfl
      have HCT := Lib.hid ct; have HFT := Lib.hid ft; have HVV := Lib.hid g3
      clear g3
      gi_wp2_with fail
      have hwr : IntKind.i64.wrap (d + 1) = d + 1 := by rw [IntKind.wrap_i64]; omega
      have hpt : p ≠ t := by rintro rfl; have e1 := HDP.out; have e2 := HDT.out; rw [← e2] at e1; rw [e1] at hd0; have := eq_of_beq hnb; omega
      have HIX := Lib.hid (show B3 + 2 ≠ G ∧ B3 ≠ G ∧ ib ≠ G ∧ gb' ≠ G from by have := HGB.out; have := (HR2.out.lt gb' rfl).1; refine ⟨?_, ?_, ?_, ?_⟩ <;> omega)
      refine wpIn_mono (Q := onlyN (fun a' w' => a' = { tmps := #[.slice A m c, .pointer (some ⟨w.heap.size, 0, none⟩), .slice none 0 0, .pointer (some ⟨B3, 0, none⟩), .pointer (some ⟨B3 + 2, 0, none⟩), .pointer (some ⟨ib, 0, none⟩), .int .i64 (t : Int), .slice A m c, .int .i64 (m : Int), .bool false, .slice (some ⟨w.heap.size + 1, 0, none⟩) 1 1, .slice A m c, .int .i64 (m : Int), .slice (some ⟨G, 0, none⟩) m m, .slice (some ⟨G, 0, none⟩) m m, .pointer (some ⟨G, 0, none⟩), .slice (some ⟨B3 + 1, 0, none⟩) 1 1, .int .i64 (i : Int), .slice (some ⟨gb, 0, none⟩) R.length cap, .int .i64 (R.length : Int), .bool true, v21, v22, .slice A m c, .slice (some ⟨gb, 0, none⟩) R.length cap, .int .i64 (i : Int), .pointer (some ⟨gb, i, none⟩), .int .i64 (p : Int), .func (.func 42) #[] #[.pointer (some ⟨W.heap.size, 0, none⟩), .pointer (some ⟨W.heap.size + 1, 0, none⟩)], .int .i64 (t : Int), .slice (some ⟨gb', 0, none⟩) R'.length cap', .int .i64 (R'.length : Int), .slice A m c, .int .i64 (m : Int), .bool false, .slice (some ⟨G, 0, none⟩) m m, .int .i64 (t : Int), .pointer (some ⟨G, t, none⟩), .int .i64 dt, .bool true, .slice (some ⟨G, 0, none⟩) m m, .int .i64 (t : Int), .slice (some ⟨G, 0, none⟩) m m, .slice (some ⟨gb', 0, none⟩) R'.length cap', .int .i64 (i : Int), .pointer (some ⟨gb', i, none⟩), .int .i64 (p : Int), .pointer (some ⟨G, p, none⟩), .int .i64 d, .int .i64 (d + 1), .pointer (some ⟨G, t, none⟩), undef, undef, undef, undef, v55, undef], defers := [] } ∧ w' = (W'.setCell ⟨G, t, none⟩ (.int .i64 (d + 1))).drew)) ?_ ?_
      ·refine wpIn_region_calm (S := (fun w' => w'.cell? ⟨B3, 0, none⟩ = some (.slice (some ⟨G, 0, none⟩) m m) ∧ w'.cell? ⟨B3 + 2, 0, none⟩ = some (.slice (some ⟨gb', 0, none⟩) R'.length cap') ∧ w'.cell? ⟨ib, 0, none⟩ = some (.int .i64 (i : Int)) ∧ w'.cell? ⟨gb', i, none⟩ = some (.int .i64 (p : Int)) ∧ w'.cell? ⟨G, p, none⟩ = some (.int .i64 d))) mixed (by kernel_rfl) ⟨c3, c4, ci, cp, cpp⟩ (fun hHeld => ?_)
       refine tkv 0 rfl ?_
       try simp only [puts]
       refine tkv 1 rfl ?_
       try simp only [puts]
       refine tkv 2 rfl ?_
       try simp only [puts]
       refine tkv 3 rfl ?_
       try simp only [puts]
       refine tkv 4 rfl ?_
       try simp only [puts]
       refine tkv 5 rfl ?_
       try simp only [puts]
       refine tkv 6 rfl ?_
       try simp only [puts]
       refine tkv 7 rfl ?_
       try simp only [puts]
       refine tkv 8 rfl ?_
       try simp only [puts]
       refine tkv 9 rfl ?_
       try simp only [puts]
       refine tkv 10 rfl ?_
       try simp only [puts]
       refine wpAnyH_ready (rs := [11]) (by kernel_rfl) (by simp) (AllReadyH.cons rfl (fun K hK => ?_) AllReadyH.nil)
       go_simp
       refine hK.out _ _ ⟨?_, ?_, ?_, ?_, ?_⟩ (fun _ => ?_)
       ·exact (World.cell?_setCell_far W' ⟨G, t, none⟩ _ _ (by show G ≠ B3; exact HIX.out.2.1.symm)).trans c3
       ·exact (World.cell?_setCell_far W' ⟨G, t, none⟩ _ _ (by show G ≠ B3 + 2; exact HIX.out.1.symm)).trans c4
       ·exact (World.cell?_setCell_far W' ⟨G, t, none⟩ _ _ (by show G ≠ ib; exact HIX.out.2.2.1.symm)).trans ci
       ·exact (World.cell?_setCell_far W' ⟨G, t, none⟩ _ _ (by show G ≠ gb'; exact HIX.out.2.2.2.symm)).trans cp
       ·exact (World.cell?_setCell_other W' ⟨G, t, none⟩ _ _ (by intro e; simp only [Addr.mk.injEq, true_and, and_true] at e; exact hpt e.symm)).trans cpp
       clear hK K
       try simp only [puts]
       refine wpAnyH_done (by kernel_rfl) ?_ _
       exact ⟨rfl, rfl⟩
      intro e a3 W3 hq
      obtain ⟨rfl, rfl, hW3⟩ := onlyN_of hq
      have hS3 := (HS'.out.store t (d + 1) HGW.out HGB.out (by omega)).below (below_drew (Below.refl _ _))
      obtain ⟨z3, o3, hk3, hb3⟩ := drew_set W' W3 G t _ w.heap.size (Nat.le_of_lt HGW.out) HS'.out.1.1.2.size hW3
      rw [← hW3] at hS3
      obtain ⟨⟨⟨⟨v3, k1, k2, gb3, cap3, rfl, k3⟩, k4⟩, -, -⟩, -, k8⟩ := id hS3
      have c43 := k1.cell
      have hmx1 : R'.length + 1 ≤ maxLen := by unfold maxLen; omega
      have HM3 := Lib.hid (HM'.out.others hk3); have HK3 := Lib.hid hk3; have HO3 := Lib.hid o3; have HZ3 := Lib.hid z3; have HB3' := Lib.hid hb3; have HS3 := Lib.hid hS3; have HKX := Lib.hid k3; have HK4 := Lib.hid k4
      have HN' := Lib.hid (show BInv (L.map (·.i)) (D'.set t (d + 1)) (R' ++ [t]) i (q.map (·.1) ++ [(t : Int)]) from by
       have := HN.out
       rw [Int.toNat_natCast, ← HDP.out] at this
       exact this)
      have HPI := Lib.hid (show (R' ++ [t])[i]? = some p from by rw [List.getElem?_append_left hlt']; exact HP'.out)
      have hl3 := k1.lt
      have HXS := Lib.hid (show W.heap.size < W3.heap.size ∧ W.heap.size + 1 < W3.heap.size ∧ ib < W3.heap.size ∧ ib < W.heap.size from by have := HIB.out; exact ⟨by omega, by omega, by omega, this⟩)
      clear hS3 hk3 o3 z3 hb3 k3 k4 k8 hW3 c1 c3 c4 ci cp cpp ct ft HN HCT HFT HV HR2 HM' HIX hpt hwr hnb hfb mixed
      gi_wp2_with (gi_at_builtin; refine wpListIn_append_at _ rfl _ _ 29 rfl (B3 + 1) 3 i0 (.int .i64 0) 1 8 Tryd.underlying29 hi hz0 hz1 hz2 rfl (by decide) _ _ _ rfl (k2.alloc _) ⟨W3.heap.size, 0, none⟩ 1 1 [.int .i64 (t : Int)] rfl rfl (cell_one_new _ _ _) (by simp [Value.oneCell']) (by omega) (by omega) (by simp; omega) ?_; intro v' w1 hown' hgrow hob; obtain ⟨g', cap9, rfl⟩ := ownsRow_succ hown'; obtain ⟨r1, r2, r3, r4, r5⟩ := sem_app (t := t) HS3.out HGW.out HGB.out hib (.inl rfl) (by have := HXS.out; rintro b (rfl | rfl | rfl) <;> omega) k1 k2 HKX.out hown' hgrow hob; have hc1 := r2.cell; have hf1 := r2.frozen; have R1 := Lib.hid r1; have R3 := Lib.hid r3; have R4 := Lib.hid r4; have R5 := Lib.hid r5; clear r1 r2 r3 r4 r5 hown' hgrow hob)
      exact ⟨(HK3.out.trans R3.out).from _, ⟨HB3'.out.trans (R4.out.mono (by have := HGW.out; have := HGB.out; omega)),
        (R5.out _ HXS.out.1 (fun e => HKX.out (.inr (.inl e.symm))) (by have := HXS.out; omega)).trans (HO3.out _ (by have := HGB.out; have := HXS.out; omega)),
        (R5.out _ HXS.out.2.1 (fun e => HKX.out (.inr (.inr e.symm))) (by have := HXS.out; omega)).trans (HO3.out _ (by have := HGB.out; have := HXS.out; omega))⟩,
       ⟨⟨_, _, ⟨by rw [HQ.out]; exact HN'.out, HPI.out⟩, R1.out⟩, HM3.out.others R3.out, Nat.le_trans (Nat.le_trans hT (Nat.le_of_eq HZ3.out.symm)) R3.out.size⟩⟩
   case done =>
    rintro Dd ys W' hD hys ⟨⟨D', R', ⟨hB', hp'⟩, hse'⟩, hM', hT⟩ hK
    have hB2 : BInv (L.map (·.i)) D' R' (i + 1) [] := BInv.step (by rw [hys, HOO.out] at hB'; exact hB') hp'
    have hlt' : i < R'.length := (List.getElem?_eq_some_iff.1 hp').1
    have ci := cell_of_row _ _ 0 _ _ _ hse'.2.2
    have HB2 := Lib.hid hB2; have HS' := Lib.hid hse'; have HMM := Lib.hid (hM'.cons (Nat.le_trans hle hD) hD (blk_lt hK) hK)
    have hRs := hB'.size
    rw [HML.out] at hRs
    have hiI : (i : Int) ≤ 999 := by omega
    have hibl' : ib < W'.heap.size := blk_lt hse'.2.2
    have hwr : wrap64 ((i : Int) + 1) = ((i + 1 : Nat) : Int) := wrap_succ hiI
    have HNI := Lib.hid hwr
    have HL := Lib.hid (show i + 1 ≤ R'.length ∧ B3 + 2 < W'.heap.size ∧ i + 1 ≤ m from ⟨hlt', Nat.lt_trans hib hibl', Nat.le_trans hlt' hRs⟩)
    clear hys hB' hp' hse' hM' hK hB2 HSQ hI0 HSE HMK HBI HPP hwr hlt' hRs hibl' hT hiI
    gi_wp2
    rw [HNI.out]
    have hbn : Below W'.heap.size W' (W'.alloc (.cells #[.int .i64 ((i + 1 : Nat) : Int)] 3)) := (Below.refl _ W').alloc (Nat.le_refl _) _
    have hnb := heap_alloc_new W' (.cells #[.int .i64 ((i + 1 : Nat) : Int)] 3)
    refine ⟨⟨i + 1, W'.heap.size, D', R', Dd :: Ds, _, _, _, _, _, _, _, _, _, _, _, _, _, HL.out.1, rfl, HB2.out, HS'.out.reib hbn hnb (fun b hb _ => by omega), (HMM.out.below hbn).up hbn.size, HL.out.2.1⟩, ?_⟩
    rw [HIO.out, iOf_at _ _ ⟨W'.heap.size, 0, none⟩ _ rfl (cell_of_row _ _ 0 _ _ _ hnb)]
    have := HL.out
    simp [intOf]; omega
   case stop =>
    rintro Dd c' pre W' hD hpre ⟨⟨⟨D', R', hOK, hse'⟩, hM'⟩, rfl⟩ hK
    have HOK := Lib.hid hOK; have HMM := Lib.hid (hM'.cons (Nat.le_trans hle hD) hD (blk_lt hK) hK)
    have c3 := cell_of_row _ _ 0 _ _ _ hse'.1.2.2
    have HG7 := Lib.hid hse'.2.1; have HG4 := Lib.hid hse'.1.1.2
    have hD' := hOK.len
    rw [HML.out] at hD'
    clear hpre hse' hM' hK hOK HSQ hI0 HSE HMK HBI HPP
    gi_wp2
    rw [Exit.noGoto_ret]
    refine leaves_marks w.heap.size W'.heap.size (fun V => V.heap[G]? = some (.cells (IL D').toArray 3 (0, 0)) ∧ Below w.heap.size w V) ?_ ?_ (Dd :: Ds) W' HMM.out ⟨HG7.out, HG4.out⟩
    ·rintro V E ⟨k1, k2⟩ hE hK
     have hEG : E ≠ G := by rintro rfl; rw [k1] at hK; cases hK
     exact ⟨(World.putObj_heap_other (fun e => hEG (by omega))).trans k1, k2.trans (belowK_b (w := w) (Nat.le_refl _) V E _ _ hE hK rfl rfl)⟩
    ·rintro V ⟨k1, k2⟩
     exact ⟨_, results_tmp rfl _ _ _, D', _, _, HOK.out, rfl, rd_blk (k := m) k1 (List.take_of_length_le (by simp [IL]; omega)), k2⟩
theorem dist_w (A : Option Addr) (c : Nat) (L : List InM) (w : World) (hz : L.length ≤ 1000) (hr : Rd w A (L.flatMap inC)) (hs : Sh w) :
  Calls Tryd.prog 17 #[.slice A L.length c] w (DistP (L.map (·.i)) w) :=
 (callsIn_wide (n := 5)).1 (dist_in A c L w hz hr hs)
end Go.Proofs.YtnmnnokdoiagkaaDoor.flow

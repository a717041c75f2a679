/- HierX -/
import Derived.Scope
import Derived.Test.YtdifmgeicnndfaaHierT
namespace Go.Proofs.Ytdifmgeicnndfaa.prg
open Go.RowKit Go.Maps
open words kindp opp op kind word
set_option maxRecDepth 100000
set_option maxHeartbeats 8000000
set_option linter.all false
attribute [local go_sem] Oper.semAt_some
theorem callsIn_round {l n : Nat} {P : Program} {f : FuncId} {args : Array Value} {w : World} {R : Ending → World → Prop} (h : Calls P f args w R) : CallsIn (Fence.wide.inRound l) n P f args w R := (show CallsIn Fence.wide n P f args w R from callsIn_wide.2 h)
theorem roundIn_round {l0 n m : Nat} {P : Program} {l : Nat} {f : FuncId} {tmps : Array Value} {assign body : Code} {w : World} {R : Ending → World → Prop} (h : RoundIn Fence.wide n P l f tmps assign body w R) : RoundIn (Fence.wide.inRound l0) m P l f tmps assign body w R := (show RoundIn Fence.wide m P l f tmps assign body w R from roundIn_any h)
theorem stepR_scope {P : Program} {b : Frame} {a : Act} {k : List Item} {cs : List Frame} {w : World} {c : Code} : step P (lone (b.atR a (.code (.scope c) :: k)) cs w) = .next (lone (b.atR a (.code c :: .inScope c :: k)) cs w) :=
 step_lone_go (by simp [stepG, stepG.exec, Frame.atR])
theorem stepR_inScope {P : Program} {b : Frame} {a : Act} {k : List Item} {cs : List Frame} {w : World} {c : Code} : step P (lone (b.atR a (.inScope c :: k)) cs w) = .next (lone (b.atR a k) cs w) :=
 step_lone_go (by simp [stepG, stepG.exec, Frame.atR])
theorem wpIn_scope {F : Fence} {n : Nat} {P : Program} {a : Act} {w : World} {Q : Exit → Act → World → Prop} {c : Code} (h : c.wpIn F n P (Exit.noGoto Q) a w) : (Code.scope c).wpIn F n P Q a w := by
 intro b k cs hro hb hr
 have h0 : (lone (b.atR a (.code (.scope c) :: k)) cs w).fenced P F := fenced_calm hb hr rfl
 obtain ⟨e, a₁, w₁, hq, harr⟩ := h b (.inScope c :: k) cs hro hb hr
 cases e with
 | normal => exact ⟨.normal, a₁, w₁, hq, .head h0 stepR_scope (StepsIn.trans harr (.one (fenced_calm hb hr rfl) stepR_inScope))⟩
 | exit id =>
  have hx : exitTo id (.inScope c :: k) = exitTo id k := by simp [exitTo]
  exact ⟨.exit id, a₁, w₁, hq, fun k' hk => .head h0 stepR_scope (harr.1 k' (by rw [hx]; exact hk)),
   fun hr' hk => let ⟨k₁, h1, h2⟩ := harr.2 hr' (by rw [hx]; exact hk); ⟨k₁, h1, .head h0 stepR_scope h2⟩⟩
 | goto l => exact hq.elim
 | ret => exact ⟨_, a₁, w₁, hq, .of_steps (.one h0 stepR_scope) harr⟩
 | panic ch => exact ⟨_, a₁, w₁, hq, .of_steps (.one h0 stepR_scope) harr⟩
 | outgrown => exact ⟨_, a₁, w₁, hq, .of_steps (.one h0 stepR_scope) harr⟩
def UpA (x : PrM) (kb : Nat) (Kn : List Tx) (gN : Nat) (lbN : Array Value) (w : World) (l B : Nat) (J : List Tx → World → Prop) (met : List Tx) (opn : List Src) (W : World) : Prop :=
 (UpM l B x.cs gN lbN met opn W ∧ J met W) ∧ KnM x.cs Kn kb W ∧ BelM kb w.heap.size w W
theorem up_start {x : PrM} {kb : Nat} {Kn : List Tx} {gN : Nat} {lbN : Array Value} {w : World} {l B : Nat} {J : List Tx → World → Prop} {W We : World} (hB : B = W.heap.size) (hJ : AbX kb B J) (h0 : J [] W) (hK : KnM x.cs Kn kb W) (hU : BelM kb w.heap.size w W) (hk : kb < w.heap.size)
  (hWe : We = ((((W.alloc (.cells #[.func (.yield l) #[] #[]] 162)).alloc (.map #[] 0)).alloc (.cells #[.map (some (B + 1))] 218)).alloc (.cells #[.func (.func gN) #[] lbN] 101)).alloc (.cells #[.slice (some ⟨B + 3, 0, none⟩) 1 1] 219)) :
  UpA x kb Kn gN lbN w l B J [] [.nam] We ∧ We.heap.size = B + 5 := by
 subst hWe
 subst hB
 have h1 := heap_alloc_new W (.cells #[.func (.yield l) #[] #[]] 162)
 have h2 := heap_alloc_new (W.alloc (.cells #[.func (.yield l) #[] #[]] 162)) (.map #[] 0)
 have h3 := heap_alloc_new ((W.alloc (.cells #[.func (.yield l) #[] #[]] 162)).alloc (.map #[] 0)) (.cells #[.map (some (W.heap.size + 1))] 218)
 have h4 := heap_alloc_new (((W.alloc (.cells #[.func (.yield l) #[] #[]] 162)).alloc (.map #[] 0)).alloc (.cells #[.map (some (W.heap.size + 1))] 218)) (.cells #[.func (.func gN) #[] lbN] 101)
 have h5 := heap_alloc_new ((((W.alloc (.cells #[.func (.yield l) #[] #[]] 162)).alloc (.map #[] 0)).alloc (.cells #[.map (some (W.heap.size + 1))] 218)).alloc (.cells #[.func (.func gN) #[] lbN] 101)) (.cells #[.slice (some ⟨W.heap.size + 3, 0, none⟩) 1 1] 219)
 have hmap := World.ownsMap_made (W.alloc (.cells #[.func (.yield l) #[] #[]] 162)) Try.prog 9 (unitElem (H := Unit))
 simp only [World.size_alloc, Nat.add_assoc, Nat.reduceAdd] at h1 h2 h3 h4 h5 hmap
 have hal : Below W.heap.size W (((((W.alloc (.cells #[.func (.yield l) #[] #[]] 162)).alloc (.map #[] 0)).alloc (.cells #[.map (some (W.heap.size + 1))] 218)).alloc (.cells #[.func (.func gN) #[] lbN] 101)).alloc (.cells #[.slice (some ⟨W.heap.size + 3, 0, none⟩) 1 1] 219)) :=
  (((((Below.refl _ W).alloc (Nat.le_refl _) _).alloc (by simp) _).alloc (by simp; omega) _).alloc (by simp; omega) _).alloc (by simp; omega) _
 have up : ∀ (V : World) (o : Obj) (k : Nat) (o' : Obj), V.heap[k]? = some o' → (V.alloc o).heap[k]? = some o' := fun V o k o' h => (Below.heap_alloc V o k (blk_lt h)).trans h
 refine ⟨⟨⟨⟨⟨up _ _ _ _ (up _ _ _ _ (up _ _ _ _ (up _ _ _ _ h1))), up _ _ _ _ (up _ _ _ _ h3)⟩, ⟨0, _, ((hmap.alloc _).alloc _).alloc _, Nat.le_refl _, fun s => rfl⟩, ⟨_, h5, _, 0, 1, _, rfl, Nat.le_refl _, up _ _ _ _ h4, Nat.le_refl _, by decide, by simp, fun i u hu => ?_⟩, fun s hs => ?_⟩, hJ.below h0 hal⟩, hK.same (hal.block _ hK.lt), hU.trans ((BelM.of hal hK.lt).mono hU.size)⟩, by simp⟩
 ·cases i with
  | zero => simp only [List.map_cons, List.map_nil, List.getElem?_cons_zero, Option.some.injEq] at hu; subst hu; rfl
  | succ i => simp at hu
 ·rw [List.mem_singleton] at hs; subst hs; trivial
theorem belm_grown {kb n0 : Nat} {W W' : World} {row : Option Nat} (hg : W.grownBy W' row) (hn : n0 ≤ W.heap.size) (hk : kb < n0) (hr : ∀ r, row = some r → n0 ≤ r) : BelM kb n0 W W' :=
 ⟨hg.os, hg.tape, hg.output, hg.size, fun k hk' _ => hg.block k (by omega) (fun e => by have := hr _ e.symm; omega), fun es c he => ⟨es, c, (hg.block kb (blk_lt he) (fun e => by have := hr _ e.symm; omega)).trans he⟩⟩
structure Stp (kb n0 B T : Nat) (W W' : World) : Prop where
 ki : KI kb n0 B W W'
 hl : W'.heap[T + 1]? = W.heap[T + 1]?
 hd : W'.heap[T]? = W.heap[T]?
 df : ∀ k, B ≤ k → k < T → W.heap[k]? = some (.deferred (some [])) → W'.heap[k]? = some (.deferred (some []))
section
variable {kb n0 B T : Nat} {W W' : World}
theorem Stp.refl (kb n0 B T : Nat) (W : World) : Stp kb n0 B T W W := ⟨KI.refl _ _ _ _, rfl, rfl, fun _ _ _ h => h⟩
theorem Stp.trans {W'' : World} (h : Stp kb n0 B T W W') (k : Stp kb n0 B T W' W'') : Stp kb n0 B T W W'' := ⟨h.ki.trans k.ki, k.hl.trans h.hl, k.hd.trans h.hd, fun i h1 h2 h3 => k.df i h1 h2 (h.df i h1 h2 h3)⟩
theorem Stp.grown {row : Option Nat} (hg : W.grownBy W' row) (hn : n0 ≤ W.heap.size) (hk : kb < n0) (hT : T + 1 < W.heap.size) (hr : ∀ r, row = some r → n0 ≤ r ∧ r ≠ T ∧ r ≠ T + 1 ∧ ∃ o, W.heap[r]? = some o ∧ (∀ cs, o ≠ .cells cs 43 (0, 0)) ∧ o ≠ .deferred (some [])) : Stp kb n0 B T W W' :=
 ⟨⟨belm_grown hg hn hk (fun r e => (hr r e).1), fun k cs _ ho => (hg.block k (blk_lt ho) (fun e => by
  obtain ⟨-, -, -, o, h1, h2, -⟩ := hr k e.symm
  rw [ho] at h1; cases h1; exact h2 _ rfl)).trans ho⟩, hg.block _ hT (fun e => (hr _ e.symm).2.2.1 rfl), hg.block _ (by omega) (fun e => (hr _ e.symm).2.1 rfl), fun k _ _ ho => (hg.block k (blk_lt ho) (fun e => by
  obtain ⟨-, -, -, o, h1, -, h2⟩ := hr k e.symm
  rw [ho] at h1; cases h1; exact h2 rfl)).trans ho⟩
theorem Stp.below (hb : Below W.heap.size W W') (hn : n0 ≤ W.heap.size) (hk : kb < n0) (hT : T + 1 < W.heap.size) : Stp kb n0 B T W W' :=
 Stp.grown (row := none) ⟨hb.os, hb.tape, hb.output, hb.size, fun k hk _ => hb.block k hk⟩ hn hk hT (fun r e => by cases e)
theorem Stp.belm (h : BelM kb W.heap.size W W') (hm : ∃ es c, W.heap[kb]? = some (.map es c)) (hn : n0 ≤ W.heap.size) (hk : kb < n0) (hnT : n0 ≤ T) (hT : T + 1 < W.heap.size) : Stp kb n0 B T W W' :=
 ⟨h.ki hn hm, h.block _ hT (by omega), h.block _ (by omega) (by omega), fun k _ hk ho => (h.block k (blk_lt ho) (fun e => by obtain ⟨es, c, h1⟩ := hm; rw [e, h1] at ho; cases ho)).trans ho⟩
theorem Stp.kpx (h : KpX kb n0 B W W') (hl : ∃ r, W.heap[T + 1]? = some (.loop r)) (hd : W.heap[T]? = some (.deferred (some []))) (hB : B ≤ T) : Stp kb n0 B T W W' := by
 obtain ⟨r, hl⟩ := hl
 exact ⟨h.ki, (h.own _ _ (by omega) hl rfl).trans hl.symm, (h.own _ _ hB hd rfl).trans hd.symm, fun k hk _ ho => h.own k _ hk ho rfl⟩
end
section
variable {x : PrM} {kb : Nat} {Kn : List Tx} {gN : Nat} {lbN : Array Value} {w : World} {l B : Nat} {J : List Tx → World → Prop} {met : List Tx} {opn : List Src} {W W' : World}
theorem UpA.below (h : UpA x kb Kn gN lbN w l B J met opn W) (hJ : AbX kb B J) (hk : kb < w.heap.size) (hb : Below W.heap.size W W') : UpA x kb Kn gN lbN w l B J met opn W' :=
 ⟨⟨h.1.1.keep (keepU_below hb), hJ.below h.1.2 hb⟩, h.2.1.same (hb.block _ h.2.1.lt), h.2.2.trans ((BelM.of hb h.2.1.lt).mono h.2.2.size)⟩
theorem UpA.belm (h : UpA x kb Kn gN lbN w l B J met opn W) (hJ : AbX kb B J) (hk : kb < B) (hb : BelM kb W.heap.size W W') (hK : KnM x.cs Kn kb W') : UpA x kb Kn gN lbN w l B J met opn W' :=
 ⟨⟨h.1.1.keep (keepU_belm hb hk), hJ.belm h.1.2 hb⟩, hK, h.2.2.trans (hb.mono h.2.2.size)⟩
end
def UpJ (x : PrM) (kb : Nat) (Kn names : List Tx) (gN : Nat) (lbN : Array Value) (w : World) (l B : Nat) (J : List Tx → World → Prop) (met0 : List Tx) (opn0 : List Src) (T : Nat) (Ds : List Nat) (pre : List Tx) (W : World) : Prop :=
 ∃ met opn, takeL x.cs (met0, opn0.map (srcN names)) pre = (met, opn.map (srcN names)) ∧ (MI x.cs met ∧ opn.length ≤ met.length + 1) ∧ UpA x kb Kn gN lbN w l B J met opn W ∧ (Marks B T Ds W ∧ T ≤ W.heap.size)
def UpX (x : PrM) (kb : Nat) (Kn : List Tx) (B : Nat) (L : List Tx) (Jx : List Tx → World → Prop) (T : Nat) (Ds : List Nat) (c : Code) (_ : List Tx) (W : World) : Prop :=
 (∃ m, m <+: L ∧ Jx m W) ∧ (KnM x.cs Kn kb W ∧ (Marks B T Ds W ∧ T ≤ W.heap.size)) ∧ c = .exit 0
section
variable {x : PrM} {kb : Nat} {Kn names : List Tx} {gN : Nat} {lbN : Array Value} {w : World} {l B : Nat} {J Jx : List Tx → World → Prop} {met0 L : List Tx} {opn0 : List Src} {T : Nat} {Ds : List Nat}
theorem upj_own (hJ : AbX kb B J) (hk : kb < w.heap.size) (hn : w.heap.size ≤ B) (hT : B + 5 ≤ T) : AbL (fun _ _ => False) T (UpJ x kb Kn names gN lbN w l B J met0 opn0 T Ds) := by
 intro s W W' row ⟨met, opn, h1, h2, ⟨⟨hM, hJ'⟩, hK, hU⟩, hMk, hTs⟩ hg hr
 have hr' : ∀ r, row = some r → T ≤ r ∧ ∃ o : Obj, W.heap[r]? = some o ∧ o.isCells = false := fun r e => by
  rcases hr r e with h | ⟨h, ho⟩
  ·exact h.elim
  ·exact ⟨by omega, ho⟩
 exact ⟨met, opn, h1, h2, ⟨⟨hM.keep (keepU_grown hg (D := T) (by omega) hr'), hJ.ownFrom (B' := T) (by omega) _ _ _ row hJ' hg hr'⟩, hK.same (hg.block kb hK.lt (fun e => by have := (hr' _ e.symm).1; omega)), hU.trans (belm_grown hg hU.size hk (fun r e => by have := (hr' _ e).1; omega))⟩,
  hMk.keep (fun k _ hkT hd => (hg.block k (blk_lt hd) (fun e => by have := (hr' _ e.symm).1; omega)).trans hd), Nat.le_trans hTs hg.size⟩
theorem upx_own (hJx : AbX kb B Jx) (hk : kb < w.heap.size) (hn : w.heap.size ≤ B) (hT : B + 5 ≤ T) (c : Code) : AbL (fun _ _ => False) T (UpX x kb Kn B L Jx T Ds c) := by
 intro s W W' row ⟨⟨m, h1, h2⟩, ⟨hK, hMk, hTs⟩, hc⟩ hg hr
 have hr' : ∀ r, row = some r → T ≤ r ∧ ∃ o : Obj, W.heap[r]? = some o ∧ o.isCells = false := fun r e => by
  rcases hr r e with h | ⟨h, ho⟩
  ·exact h.elim
  ·exact ⟨by omega, ho⟩
 exact ⟨⟨m, h1, hJx.ownFrom (B' := T) (by omega) _ _ _ row h2 hg hr'⟩, ⟨hK.same (hg.block kb hK.lt (fun e => by have := (hr' _ e.symm).1; omega)), hMk.keep (fun k _ hkT hd => (hg.block k (blk_lt hd) (fun e => by have := (hr' _ e.symm).1; omega)).trans hd), Nat.le_trans hTs hg.size⟩, hc⟩
end
theorem step_cut (w : World) {ops : Array Oper} {o : Oper} {a : Act} {K : Act → World → Prop} {Q : Exit → Act → World → Prop} {E : Prop} (hgd : o.guard = none) (s x : Operand)
 (ho : o.op = .call { callee := .builtin .append, args := #[s, x], argTypes := #[219, 219] }) (base : Nat) (v : Value) (xs : List Value) (hs : a.eval s = v) (hown : OwnCut w base v xs)
 (bA : Nat) (u : Value) (hx : a.eval x = .slice (some ⟨bA, 0, none⟩) 1 1) (hu : w.cell? ⟨bA, 0, none⟩ = some u) (h1 : u.oneCell' = true) (hn : xs.length + 1 ≤ 100000) (hbase : base ≤ w.heap.size)
 (h : ∀ v' w' g cur, OwnCut w' base v' (xs ++ [u]) → base ≤ g → w.heap[g]? = some (.cells cur 101 (0, 0)) → w.grownBy w' (some g) → K (a.put o.dst v') w') :
 if Region.wanted o (yielded ops a.tmps) = true then Oper.wp Try.prog o a w K Q else E := by
 have hw : Region.wanted o (yielded ops a.tmps) = true := by simp [Region.wanted, hgd]
 rw [if_pos hw]
 obtain ⟨v', w', hrun, h2, g, cur, h3, h4, h5⟩ := run_append_cut w o.type base v xs hown bA u hu h1 hn hbase
 unfold Oper.wp execOp
 simp only [ho, resolve, invoke, builtin, Sem.run_bind, Sem.run_pure, Result.andThen_ok, List.map_toArray, List.map_cons, List.map_nil, hs, hx, hrun]
 exact h v' w' g cur h2 h3 h4 h5
theorem up_push {x : PrM} {kb : Nat} {Kn : List Tx} {gN : Nat} {lbN : Array Value} {w : World} {l B : Nat} {J : List Tx → World → Prop} {met : List Tx} {opn : List Src} {W w1 : World} {T g : Nat} {v v' : Value} {cur : Array Value} {s : Src}
 (h : UpA x kb Kn gN lbN w l B J met opn W) (hJ : AbX kb B J) (hkb : kb < w.heap.size) (hn0 : w.heap.size ≤ B) (hv : W.heap[B + 4]? = some (.cells #[v] 219 (0, 0))) (ho : OwnCut w1 (B + 3) v' ((opn ++ [s]).map (srcV gN lbN)))
 (hg : W.grownBy w1 (some g)) (hgB : B + 3 ≤ g) (hgc : W.heap[g]? = some (.cells cur 101 (0, 0))) (hs : SrcOk x.cs B W s) (hT : B + 5 ≤ T) (hl : ∃ r, W.heap[T + 1]? = some (.loop r)) (hd : W.heap[T]? = some (.deferred (some []))) :
 UpA x kb Kn gN lbN w l B J met (opn ++ [s]) (w1.setCell ⟨B + 4, 0, none⟩ v') ∧ Stp kb w.heap.size B T W (w1.setCell ⟨B + 4, 0, none⟩ v') := by
 obtain ⟨r, hl⟩ := hl
 have hv1 : w1.heap[B + 4]? = some (.cells #[v] 219 (0, 0)) := (hg.block _ (blk_lt hv) (fun e => by cases e; rw [hv] at hgc; cases hgc)).trans hv
 have hg2 : w1.grownBy (w1.setCell ⟨B + 4, 0, none⟩ v') (some (B + 4)) := grownBy_setCell' w1 (B + 4) _
 have hTs := blk_lt hl
 have s1 : Stp kb w.heap.size B T W w1 := Stp.grown hg h.2.2.size hkb hTs (fun r e => by
  cases e
  exact ⟨by omega, (fun e => by subst e; rw [hd] at hgc; cases hgc), (fun e => by subst e; rw [hl] at hgc; cases hgc), _, hgc, (fun cs e => by cases e), (fun e => by cases e)⟩)
 have s2 : Stp kb w.heap.size B T w1 (w1.setCell ⟨B + 4, 0, none⟩ v') := Stp.grown hg2 (Nat.le_trans h.2.2.size hg.size) hkb (Nat.lt_of_lt_of_le hTs hg.size) (fun r e => by
  cases e
  exact ⟨by omega, by omega, by omega, _, hv1, (fun cs e => by cases e), (fun e => by cases e)⟩)
 refine ⟨⟨⟨h.1.1.push hv ho hg hgc hs, hJ.turn (hJ.turn h.1.2 hg (by omega) hgc (by simp [yo])) hg2 (by omega) hv1 (by simp [yo])⟩, ?_, ?_⟩, s1.trans s2⟩
 ·exact (h.2.1.same (hg.block kb h.2.1.lt (fun e => by cases e; omega))).same (hg2.block kb (Nat.lt_of_lt_of_le h.2.1.lt hg.size) (fun e => by cases e; omega))
 ·exact h.2.2.trans (s1.trans s2).ki.bel
theorem up_end {n : Nat} {fn : Func} {tmps : Array Value} {x : PrM} {kb B : Nat} {Kn L : List Tx} {J Jx : List Tx → World → Prop} {W : World} {Ds : List Nat} (hr : fn.results = #[]) (hJ : AbX kb B J) (hJx : AbX kb B Jx) (hkb : kb < B) (hM : Marks B W.heap.size Ds W) (hK : KnM x.cs Kn kb W) (h : J L W ∨ ∃ pre, pre <+: L ∧ Jx pre W) :
  LeavesInM Fence.wide n Try.prog fn tmps (fun e W' => (∃ v, e = Ending.returned v) ∧ KnM x.cs Kn kb W' ∧ (J L W' ∨ ∃ pre, pre <+: L ∧ Jx pre W')) (marksD Ds) .returning W := by
 refine leaves_marks B W.heap.size (fun W' => KnM x.cs Kn kb W' ∧ (J L W' ∨ ∃ pre, pre <+: L ∧ Jx pre W')) ?_ ?_ Ds W hM ⟨hK, h⟩
 ·rintro V D ⟨k1, k2⟩ hD hV
  refine ⟨k1.same (World.putObj_heap_other (by omega)), ?_⟩
  rcases k2 with k2 | ⟨pre, k3, k2⟩
  ·exact .inl (hJ.turn k2 (grownBy_putObj' V D _) hD hV rfl)
  ·exact .inr ⟨pre, k3, hJx.turn k2 (grownBy_putObj' V D _) hD hV rfl⟩
 ·rintro V ⟨k1, k2⟩
  exact ⟨_, results_none hr _ _ _, ⟨_, rfl⟩, k1, k2⟩
theorem up_T {x : PrM} {kb Bt Bn : Nat} {Kn names : List Tx} {gN : Nat} {lbN : Array Value} {w : World} (H : UpH x kb Bt Bn Kn names gN lbN w) :
  SeqT (fun B W r => r = kb ∨ (B ≤ r ∧ ∃ o : Obj, W.heap[r]? = some o ∧ yo o = true)) (fun B => KpX kb w.heap.size B) (fun B => KfX kb B) (fun W => BelM kb w.heap.size w W ∧ KnM x.cs Kn kb W) (fun W => KnM x.cs Kn kb W) Try.prog 161 #[.pointer (some ⟨Bn, 0, none⟩), .pointer (some ⟨Bt, 0, none⟩)] (upL x.cs names) := by
 intro n l J Jx W0 ⟨hU, hK⟩ hJ hJx hY h0
 replace hJ : AbX kb W0.heap.size J := hJ
 replace hJx : AbX kb W0.heap.size Jx := hJx
 obtain ⟨L, hL⟩ : ∃ L, L = upL x.cs names := ⟨_, rfl⟩
 rw [← hL] at hY ⊢
 have hkb := H.klt
 have hn0 := hU.size
 obtain ⟨B, hB⟩ : ∃ B, B = W0.heap.size := ⟨_, rfl⟩
 rw [← hB] at hJ hJx hY hn0
 have cn : W0.cell? ⟨Bn, 0, none⟩ = some (.func (.func gN) #[] lbN) := cell_of_row _ _ 0 _ _ _ (H.nb' hU)
 have HS := zh (fun We h => up_start (x := x) (kb := kb) (Kn := Kn) (gN := gN) (lbN := lbN) (w := w) (l := l) (W := W0) (We := We) hB hJ h0 hK hU hkb h)
 have HJ := zh hJ; have HJX := zh hJx; have HY := zh hY; have HL := zh hL; have HB := zh hB; have HU := zh hU; have HK := zh hK
 have HNB := zh (H.nb' hU)
 have HH := zh H
 clear hJ hJx hY hL hU hK h0 H
 refine callsIn_of_wp_marks Try.func161 rfl trivial ?_ rfl
 simp only [Try.ntmps161, List.size_toArray, List.length_cons, List.length_nil, Nat.reduceAdd, Nat.reduceSub, Array.replicate_succ, Array.replicate_zero, List.push_toArray, List.append_toArray, List.nil_append, List.cons_append]
 have hmm := @run_makeMap Try.prog
 have cn3 : (((W0.alloc (.cells #[.func (.yield l) #[] #[]] 162)).alloc (.map #[] 0)).alloc (.cells #[.map (some (W0.heap.size + 1))] 218)).cell? ⟨Bn, 0, none⟩ = some (.func (.func gN) #[] lbN) :=
  ((((((Below.refl W0.heap.size W0).alloc (Nat.le_refl _) (.cells #[.func (.yield l) #[] #[]] 162)).alloc (by simp) (.map #[] 0)).alloc (by simp; omega) (.cells #[.map (some (W0.heap.size + 1))] 218))).cell (p := ⟨Bn, 0, none⟩) (World.block_lt_of_cell? _ _ cn)).trans cn
 gi_wp2
 refine wpIn_scope ?_
 gi_wp2
 refine wpIn_label ?_
 gi_wp2
 obtain ⟨We, hWe⟩ : ∃ We, We = ((((W0.alloc (.cells #[.func (.yield l) #[] #[]] 162)).alloc (.map #[] 0)).alloc (.cells #[.map (some (B + 1))] 218)).alloc (.cells #[.func (.func gN) #[] lbN] 101)).alloc (.cells #[.slice (some ⟨B + 3, 0, none⟩) 1 1] 219) := ⟨_, rfl⟩
 obtain ⟨hs, hz⟩ := HS.out We hWe
 have HC := zh HH.out.cl
 refine wpIn_loop_ghost (fun f a W => ∃ (met : List Tx) (opn : List Src) (Ds : List Nat) (v6 v13 v14 v15 v16 v17 v18 v19 v20 v21 : Value), (MI x.cs met ∧ opn.length + x.cs.length ≤ f + met.length ∧ opn.length ≤ met.length + 1 ∧ upS x.cs f met (opn.map (srcN names)) = L) ∧ a = { tmps := #[.func (.yield l) #[] #[], .pointer (some ⟨Bn, 0, none⟩), .pointer (some ⟨Bt, 0, none⟩), .pointer (some ⟨B, 0, none⟩), .pointer (some ⟨B + 2, 0, none⟩), .pointer (some ⟨B + 4, 0, none⟩), v6, undef, undef, undef, .map (some (B + 1)), .func (.func gN) #[] lbN, .slice (some ⟨B + 3, 0, none⟩) 1 1, v13, v14, v15, v16, v17, v18, v19, v20, v21, undef, undef, undef, undef, undef, undef, undef, undef, undef, undef, undef, undef, undef, undef, undef, undef, undef, undef, undef, undef, undef, undef, undef, undef, undef, undef, undef, undef, undef, undef, undef, undef, undef], defers := marksD Ds } ∧
  UpA x kb Kn gN lbN w l B J met opn W ∧ (Marks B W.heap.size Ds W ∧ B + 5 ≤ W.heap.size)) (x.cs.length + 1) ?h0 ?round
 case h0 =>
  refine ⟨[], [.nam], [], undef, undef, undef, undef, undef, undef, undef, undef, undef, undef, ⟨⟨List.nodup_nil, by simp⟩, by simp; omega, by simp, HL.out.symm⟩, (by have e := HB.out; subst e; rfl), ?_⟩
  have e := HB.out
  subst e
  subst hWe
  exact ⟨hs, Marks.nil _ _ _, Nat.le_of_eq hz.symm⟩
 clear hs hz hWe We HS cn cn3 hmm HU HK HNB hB
 case round =>
  rintro f a W ⟨met, opn, Ds, v6, v13, v14, v15, v16, v17, v18, v19, v20, v21, ⟨hMI, hf, hol, hup⟩, rfl, hA, hMk, hBW⟩
  have hA' := hA
  obtain ⟨⟨hM, hJm⟩, hK, hU⟩ := hA'
  cases opn with
  | nil =>
   obtain ⟨-, -, ⟨v, hv, ho⟩, -⟩ := hM
   obtain ⟨g, j, cap, cur, rfl, -⟩ := ho
   have c4 : W.cell? ⟨B + 4, 0, none⟩ = some (.slice (some ⟨g, j, none⟩) 0 cap) := cell_of_row _ _ 0 _ _ _ hv
   have hLm : met = L := by rw [← hup]; cases f <;> rfl
   subst hLm
   have HA := zh hA; have HM := zh hMk; have HKk := zh hK; have HJm := zh hJm
   clear hA hMk hv hJm hK hU hMI hf hol hup
   gi_wp2
   rw [Exit.noGoto_normal]
   exact up_end rfl HJ.out HJX.out (Nat.lt_of_lt_of_le hkb hn0) HM.out HKk.out (.inl HJm.out)
  | cons s opn =>
   obtain ⟨g, j, cap, hv, hc1, hc2, hcg, hM2, hs2⟩ := hM.pop
   obtain ⟨q, hq⟩ : ∃ q, q = opn.length + 1 := ⟨_, rfl⟩
   obtain ⟨A2, hA2⟩ : ∃ A2, A2 = (if cap = 1 then some (⟨g, j, none⟩ : Addr) else some ⟨g, j + 1, none⟩) := ⟨_, rfl⟩
   obtain ⟨W2, hW2⟩ : ∃ W2, W2 = W.setCell ⟨B + 4, 0, none⟩ (.slice A2 (q - 1) (cap - 1)) := ⟨_, rfl⟩
   have hq1 : opn.length = q - 1 := by omega
   rw [← hq] at hv hc1
   rw [← hA2, hq1, ← hW2] at hM2 hs2
   have hU2 : BelM kb w.heap.size w W2 := hU.trans (by rw [hW2]; exact belm_set (by omega) hkb)
   have hgW : W.grownBy W2 (some (B + 4)) := by rw [hW2]; exact grownBy_setCell' W (B + 4) _
   have hJ2 : J met W2 := HJ.out.turn hJm hgW (by omega) hv (by simp [yo])
   have hK2 : KnM x.cs Kn kb W2 := hK.same (hgW.block kb hK.lt (fun e => by cases e; omega))
   have hMk2 : Marks B W2.heap.size Ds W2 := (hMk.keep fun k _ hk hd => (hgW.block k hk (fun e => by cases e; rw [hv] at hd; cases hd)).trans hd).up hgW.size
   have hB2 : B + 5 ≤ W2.heap.size := Nat.le_trans hBW hgW.size
   obtain ⟨gf, lb, U, esv, egf, hsq, hUU⟩ := HH.out.src_T hU2 hs2
   have hkn := HH.out.src_kn hs2
   rw [esv] at hcg
   obtain ⟨hand, hhd⟩ : ∃ hand, hand = srcN names s := ⟨_, rfl⟩
   rw [← hhd] at hsq hkn
   have hf0 : ∃ f', f = f' + 1 ∧ upS x.cs f' (takeL x.cs (met, opn.map (srcN names)) hand).1 (takeL x.cs (met, opn.map (srcN names)) hand).2 = L := by
    have := hMI.len
    have h1 : f ≠ 0 := by rintro rfl; simp at hf; omega
    obtain ⟨f', rfl⟩ := Nat.exists_eq_succ_of_ne_zero h1
    refine ⟨f', rfl, ?_⟩
    rw [List.map_cons, ← hhd] at hup
    exact hup
   obtain ⟨f', rfl, hup2⟩ := hf0
   have c4 : W.cell? ⟨B + 4, 0, none⟩ = some (.slice (some ⟨g, j, none⟩) q cap) := cell_of_row _ _ 0 _ _ _ hv
   have f4 : W.frozen? ⟨B + 4, 0, none⟩ = false := frozen_of_row _ (B + 4) 0 _ _ hv
   have hq0 : 0 < q := by omega
   have hq0I : (0 : Int) < (q : Int) := by omega
   have hqd : decide (0 < q) = true := decide_eq_true hq0
   have hqd' : decide ((0 : Int) < (q : Int)) = true := decide_eq_true hq0I
   have hso : ∀ w, (sizeOf 101).run Try.prog w = .ok 1 w := fun w => by obtain ⟨i0, hi, hz0, hz1, -⟩ := info_parts infoQ; simp [sizeOf, typeInfo, hi, hz1]
   have he : Try.prog.elem 219 = 101 := by kernel_rfl
   have hcut : ∀ w, (Instr.sliceAt 219 (.slice (some ⟨g, j, none⟩) q cap) (some (.int .i64 1)) none none).run Try.prog w = .ok (.slice A2 (q - 1) (cap - 1)) w := fun w => by
    rw [run_sliceAt_slice w _ _ _ _ _ (by rw [he]; exact Try.underlying219), run_slice_l w _ _ q cap (by rw [he]; exact Try.underlying219) .i64 1 (by omega) (by omega), he, hso]
    simp only [Result.andThen_ok, sliced, Nat.mul_one]
    rw [hA2]
    by_cases h1 : cap = 1
    ·subst h1; simp
    ·rw [if_neg h1, if_neg (by omega)]; simp [Addr.add_lit]
   have HM2 := zh hM2; have HJ2 := zh hJ2; have HK2 := zh hK2; have HMk2 := zh hMk2; have HU2 := zh hU2; have HSQ := zh hsq; have HUU := zh hUU; have HKN := zh hkn; have HMI := zh hMI; have HUP := zh hup2; have HF := zh hf; have HOL := zh hol; have HEG := zh egf
   have HQ := zh hq; have HW2 := zh hW2
   clear hM2 hJ2 hK2 hMk2 hU2 hsq hUU hkn hMI hup2 hf hol hv hA hMk hM hJm hK hU hup hs2 esv hhd egf hq hq1 hA2 hgW he hso hW2
   gi_wp2
   rw [← HW2.out]
   obtain ⟨T, hT⟩ : ∃ T, T = W2.heap.size := ⟨_, rfl⟩
   have HT := zh hT
   have hJ0 : UpJ x kb Kn names gN lbN w l B J met opn T Ds [] W2 := ⟨met, opn, rfl, ⟨HMI.out, by have := HOL.out; simp at this; omega⟩, ⟨⟨HM2.out, HJ2.out⟩, HK2.out, HU2.out⟩, by rw [hT]; exact HMk2.out, by rw [hT]; exact Nat.le_refl _⟩
   have HJO := zh (upj_own (x := x) (Kn := Kn) (names := names) (gN := gN) (lbN := lbN) (l := l) (met0 := met) (opn0 := opn) (T := T) (Ds := Ds) HJ.out hkb hn0 (by omega))
   have HXO := zh (fun c => upx_own (x := x) (Kn := Kn) (L := L) (T := T) (Ds := Ds) HJX.out hkb hn0 (by omega) c)
   have HJ0 := zh hJ0
   clear hJ0 c4 f4 hcg hcut hqd hqd' HM2 HJ2 HK2 HMk2 HMI HW2
   refine wpIn_rangeFunc_T (T := fun _ _ _ => False) (Kp := fun _ => KI kb w.heap.size B) (Kf := fun _ _ _ => True) (U := U) (V := fun _ => True) (gf := gf) (lb := lb) (L := hand) rfl HEG.out HSQ.out rfl HUU.out (fun _ _ h => h.elim) (fun h k => h.trans k)
    (fun V o o' ho hc => KI.putObj o' (by rw [← HT.out]; omega) hkb ho hc) (fun _ _ _ _ _ => trivial) (fun _ _ _ _ _ _ => trivial)
    (UpJ x kb Kn names gN lbN w l B J met opn T Ds) (UpX x kb Kn B L Jx T Ds) (by rw [← HT.out]; exact HJO.out) (fun c => by rw [← HT.out]; exact HXO.out c) HJ0.out
    (fun y => { tmps := #[.func (.yield l) #[] #[], .pointer (some ⟨Bn, 0, none⟩), .pointer (some ⟨Bt, 0, none⟩), .pointer (some ⟨B, 0, none⟩), .pointer (some ⟨B + 2, 0, none⟩), .pointer (some ⟨B + 4, 0, none⟩), .func (.func gf) #[] lb, .string ⟨y.toArray⟩, undef, undef, .map (some (B + 1)), .func (.func gN) #[] lbN, .slice (some ⟨B + 3, 0, none⟩) 1 1, .slice (some ⟨g, j, none⟩) q cap, .int .i64 (q : Int), .bool true, .slice (some ⟨g, j, none⟩) q cap, .pointer (some ⟨g, j, none⟩), .func (.func gf) #[] lb, .slice (some ⟨g, j, none⟩) q cap, .slice A2 (q - 1) (cap - 1), .func (.func gf) #[] lb, .string ⟨y.toArray⟩, undef, undef, undef, undef, undef, undef, undef, undef, undef, undef, undef, undef, undef, undef, undef, undef, undef, undef, undef, undef, undef, undef, undef, undef, undef, undef, undef, undef, undef, undef, undef, undef], defers := [] }) ?assign ?body ?done ?stop
   case assign =>
    intro l' y V K hK
    gi_wp2
    exact hK
   case done =>
    rintro V - ⟨met', opn', h1, ⟨h2, h3⟩, hA, hMk, hTs⟩ hd
    have hl := takeL_len x.cs hand (met, opn.map (srcN names))
    have hup := HUP.out
    rw [h1] at hl hup
    have hf := HF.out
    simp only [List.length_map, List.length_cons] at hl hf
    exact ⟨f', Nat.lt_succ_self _, met', opn', W2.heap.size :: Ds, _, _, _, _, _, _, _, _, _, _, ⟨h2, by omega, h3, hup⟩, rfl, hA, hMk.cons (by omega) (by omega) (blk_lt hd) hd, by omega⟩
   case stop =>
    rintro c pre V - hpre ⟨⟨m, h1, h2⟩, ⟨hK, hMk, hTs⟩, rfl⟩ hd
    gi_wp2
    rw [Exit.noGoto_normal]
    exact up_end (Ds := W2.heap.size :: Ds) rfl HJ.out HJX.out (Nat.lt_of_lt_of_le hkb hn0) (hMk.cons (by omega) (by omega) (blk_lt hd) hd) hK (.inr ⟨m, h1, h2⟩)
   case body =>
    rintro pre y V ⟨met', opn', h1, ⟨h2, h3⟩, hA, hMk, hTs⟩ hpre hrec hdef
    rw [← hT] at hrec hdef ⊢
    have hTV : T + 1 < V.heap.size := by obtain ⟨r, hr⟩ := hrec; exact blk_lt hr
    have hyk : y ∈ Kn := HKN.out y (hpre.subset (by simp))
    have hyl := HH.out.ks y hyk
    have hkey := key_s y hyl
    have hA' := hA
    obtain ⟨⟨hM, hJ'⟩, hK, hU⟩ := hA'
    obtain ⟨⟨hyb, hmb⟩, ⟨nn, D, hown, hnn, hh⟩, ⟨v, hv, hcut⟩, hsrc⟩ := id hM
    have htb := HH.out.tb' hU
    obtain ⟨t0, t1, t2, t3, t4, t5⟩ := c6q htb
    have c0 : V.cell? ⟨B, 0, none⟩ = some (.func (.yield l) #[] #[]) := cell_of_row _ _ 0 _ _ _ hyb
    have c2 : V.cell? ⟨B + 2, 0, none⟩ = some (.map (some (B + 1))) := cell_of_row _ _ 0 _ _ _ hmb
    have HHS := zh (fun V' hU' hK' => has_t x kb Kn y V' (HH.out.pr' (W := V') hU').1.2 (by have := HC.out; omega) hK' hyk hyl HH.out.kl)
    unfold trC prC at HHS
    dsimp only [List.cons_append, List.nil_append] at HHS
    obtain ⟨Va, hVa⟩ : ∃ Va, Va = V.alloc (.cells #[] 220) := ⟨_, rfl⟩
    have hab : Below V.heap.size V Va := by rw [hVa]; exact (Below.refl _ _).alloc (Nat.le_refl _) _
    have hnV : w.heap.size ≤ V.heap.size := hU.size
    have hSa : Stp kb w.heap.size B T V Va := Stp.below hab hnV hkb hTV
    have hAa := hA.below HJ.out hkb hab
    obtain ⟨b1, hb1⟩ : ∃ b, b = met'.contains y := ⟨_, rfl⟩
    have hhy := hh y
    rw [← hb1] at hhy
    have HFIN := zh (fun met'' opn'' (W' : World) (k1 : takeL x.cs (met, opn.map (srcN names)) (pre ++ [y]) = (met'', List.map (srcN names) opn'')) (k2 : MI x.cs met'' ∧ opn''.length ≤ met''.length + 1) (k3 : UpA x kb Kn gN lbN w l B J met'' opn'' W') (k4 : Stp kb w.heap.size B T V W') =>
     show (W'.heap[T + 1]? = V.heap[T + 1]? ∧ W'.heap[T]? = V.heap[T]?) ∧ KI kb w.heap.size B V W' ∧ UpJ x kb Kn names gN lbN w l B J met opn T Ds (pre ++ [y]) W' from ⟨⟨k4.hl, k4.hd⟩, k4.ki, met'', opn'', k1, k2, k3, hMk.keep k4.df, Nat.le_trans hTs k4.ki.bel.size⟩)
    have HVA := zh hVa; have HAA := zh hAa; have HSA := zh hSa; have HPRE := zh hpre; have H1 := zh h1; have H2 := zh (And.intro h2 h3)
    have HREC := zh hrec; have HDEF := zh hdef; have HHH := zh hh
    cases b1 with
    | true =>
     have HE := zh (show takeL x.cs (met, opn.map (srcN names)) (pre ++ [y]) = (met', List.map (srcN names) opn') from by
      rw [takeL_snoc, h1, take1_no (by rw [← hb1]; rfl)])
     clear hA hMk hTs hpre hrec hdef hM hJ' hK hU hyb hmb hv hcut hsrc htb h1 h2 h3 hVa hab hSa hAa hb1 hh
     gi_wp2_with (gi_at_lookup; refine wpListIn_lookup_own_unit _ rfl _ _ 218 rfl 9 220 law_s Try.underlying218 (zero_u _) (B + 1) nn D rfl hown _ _ rfl hkey ?_; rw [hhy])
     rw [← HVA.out]
     refine ⟨trivial, ?_⟩
     gi_wp2
     exact HFIN.out met' opn' Va HE.out H2.out HAA.out HSA.out
    | false =>
     have tk : ∀ i u, V.cell? ⟨Bt, i, none⟩ = some u → Va.cell? ⟨Bt, i, none⟩ = some u := fun i u h => (hab.cell (p := ⟨Bt, i, none⟩) (World.block_lt_of_cell? _ _ h)).trans h
     have a0 := tk _ _ t0; have a1 := tk _ _ t1; have a2 := tk _ _ t2; have a3 := tk _ _ t3; have a4 := tk _ _ t4; have a5 := tk _ _ t5
     rw [hVa] at a0 a1 a2 a3 a4 a5
     obtain ⟨b2, hb2⟩ : ∃ b, b = hasC x.cs y := ⟨_, rfl⟩
     rw [← hb2] at HHS
     have HB1 := zh hb1; have HB2 := zh hb2; have hMk' := zh hMk
     clear hA hMk hpre hrec hdef hM hJ' hK hU hyb hmb hv hcut hsrc htb h1 h2 h3 hVa hab hSa hAa hh tk t0 t1 t2 t3 t4 t5 hb1 hb2
     gi_wp2_with (gi_at_lookup; refine wpListIn_lookup_own_unit _ rfl _ _ 218 rfl 9 220 law_s Try.underlying218 (zero_u _) (B + 1) nn D rfl hown _ _ rfl hkey ?_; rw [hhy])
     rw [← HVA.out]
     refine ⟨trivial, rfl, callsIn_round ((HHS.out Va HAA.out.2.2 HAA.out.2.1).mono ?_)⟩
     rintro e Vb ⟨rfl, hKb, hBb⟩
     have hAb := HAA.out.belm HJ.out (Nat.lt_of_lt_of_le hkb hn0) hBb hKb
     have hSb : Stp kb w.heap.size B T V Vb := HSA.out.trans (Stp.belm hBb HAA.out.2.1.map HAA.out.2.2.size hkb (by omega) (Nat.lt_of_lt_of_le hTV HSA.out.ki.bel.size))
     have HAB := zh hAb; have HSB := zh hSb
     clear a0 a1 a2 a3 a4 a5 hKb hBb hAb hSb c0 c2 hown hnn HHS HAA HSA HHH hhy
     cases b2 with
     | false =>
      have HE := zh (show takeL x.cs (met, opn.map (srcN names)) (pre ++ [y]) = (met', List.map (srcN names) opn') from by
       rw [takeL_snoc, H1.out, take1_no (by rw [← HB1.out, ← HB2.out]; rfl)])
      gi_wp2
      exact HFIN.out met' opn' Vb HE.out H2.out HAB.out HSB.out
     | true =>
      obtain ⟨⟨hyb, hmb⟩, ⟨nn, D, hown, hnn, hh⟩, -, -⟩ := id HAB.out.1.1
      have c2 : Vb.cell? ⟨B + 2, 0, none⟩ = some (.map (some (B + 1))) := cell_of_row _ _ 0 _ _ _ hmb
      have hnI : nn < maxLen := by have := H2.out.1.len; have := HC.out; unfold maxLen; omega
      have HOW := zh hown; have HNN := zh hnn; have HHH := zh hh; have HYB := zh hyb; have HNI := zh hnI
      clear hown hnn hh hyb hmb hnI
      gi_wp2_with (gi_at_mapUpdate; refine wpListIn_mapUpdate_own _ rfl _ _ _ 218 rfl 9 220 law_s Try.underlying218 _ (B + 1) nn D rfl HOW.out HNI.out _ _ _ rfl rfl hkey _ [] unitElem_mk ?_; intro Vc hownc hgc; have c0 : Vc.cell? ⟨B, 0, none⟩ = some (.func (.yield l) #[] #[]) := cell_of_row _ _ 0 _ _ _ ((hgc.block B (blk_lt HYB.out) (by simp)).trans HYB.out))
      have hAc : UpM l B x.cs gN lbN (met' ++ [y]) opn' Vc ∧ J met' Vc ∧ KnM x.cs Kn kb Vc ∧ BelM kb w.heap.size w Vc := by
       obtain ⟨⟨k1, k2⟩, k3, k4⟩ := HAB.out
       obtain ⟨es, cl, h9, -⟩ := id HOW.out
       exact ⟨k1.put HOW.out HNN.out HHH.out hownc hgc, HJ.out.turn k2 hgc (by omega) h9 rfl, k3.same (hgc.block kb k3.lt (fun e => by cases e; omega)), k4.trans (belm_grown hgc k4.size hkb (fun r e => by cases e; omega))⟩
      have hSc : Stp kb w.heap.size B T V Vc := by
       obtain ⟨es, cl, h9, -⟩ := id HOW.out
       exact HSB.out.trans (Stp.grown hgc HAB.out.2.2.size hkb (Nat.lt_of_lt_of_le hTV HSB.out.ki.bel.size) (fun r e => by cases e; exact ⟨by omega, by omega, by omega, _, h9, (fun cs e => by cases e), (fun e => by cases e)⟩))
      have hpl : (met' ++ [y]) <+: L := by
       have := up_turn (f := f') (cs := x.cs) (st := (met, opn.map (srcN names))) HPRE.out (by rw [H1.out]; exact HB1.out.symm) HB2.out.symm
       rw [H1.out] at this
       rw [← HUP.out]; exact this
      obtain ⟨fn, tmps, assign, body, hy, hR⟩ := HY.out met' y Vc hAc.2.1 hpl
      have HAC := zh hAc; have HSC := zh hSc; have HR := zh hR; have HPL := zh hpl
      clear hAc hSc hR hpl hownc hgc c2
      rw [hy]
      refine ⟨(fun hh => by simp [Fence.wide, Fence.inRound] at hh), (roundIn_round HR.out).mono ?_⟩
      rintro e Vdd (⟨rfl, hJd, hkp⟩ | ⟨rfl, hJd, hkf⟩)
      case inr =>
       have hKd := HAC.out.2.2.1.same hkf.same
       have HX := zh (show (Vdd.heap[T + 1]? = V.heap[T + 1]? ∧ Vdd.heap[T]? = V.heap[T]?) ∧ True ∧ UpX x kb Kn B L Jx T Ds (.exit 0) (pre ++ [y]) Vdd from by
        obtain ⟨r, hr⟩ := HREC.out
        have hl1 := HSC.out.hl.trans hr
        have hd1 := HSC.out.hd.trans HDEF.out
        exact ⟨⟨(hkf.own _ _ (by omega) hl1 rfl).trans hr.symm, (hkf.own _ _ (by omega) hd1 rfl).trans HDEF.out.symm⟩, trivial, ⟨_, HPL.out, hJd⟩, ⟨hKd, hMk'.out.keep (fun k hk hkt hd => hkf.own k _ hk (HSC.out.df k hk hkt hd) rfl), Nat.le_trans (Nat.le_trans hTs HSC.out.ki.bel.size) hkf.size⟩, rfl⟩)
       clear hKd hkf hJd hy
       gi_wp2
       exact HX.out
      case inl =>
       have hSd : Stp kb w.heap.size B T V Vdd := HSC.out.trans (Stp.kpx hkp (by obtain ⟨r, hr⟩ := HREC.out; exact ⟨r, HSC.out.hl.trans hr⟩) (HSC.out.hd.trans HDEF.out) (by omega))
       have hAd : UpA x kb Kn gN lbN w l B J (met' ++ [y]) opn' Vdd := ⟨⟨HAC.out.1.keep (keepU_kpx hkp), hJd⟩, HAC.out.2.2.1.same hkp.same, HAC.out.2.2.2.trans hkp.bel⟩
       have hld : (∃ r, Vdd.heap[T + 1]? = some (.loop r)) ∧ Vdd.heap[T]? = some (.deferred (some [])) := ⟨by obtain ⟨r, hr⟩ := HREC.out; exact ⟨r, hSd.hl.trans hr⟩, hSd.hd.trans HDEF.out⟩
       obtain ⟨k, c, hpk, hck, hnm, hfc⟩ : ∃ k c, placeI x.cs y = ((k : Nat) : Int) ∧ x.cs[k]? = some c ∧ c.nm = y ∧ findC x.cs y = some c := by
        rcases place_two x.cs y with ⟨-, h⟩ | h
        ·have := HB2.out
         unfold hasC at this
         rw [h] at this; cases this
        ·exact h
       have hav : abvN x.cs y = abv c := by unfold abvN; rw [hfc]
       have hkn : k < x.cs.length := (List.getElem?_eq_some_iff.1 hck).1
       have hkI : (k : Int) < (x.cs.length : Int) := by omega
       have HTK := zh (show takeL x.cs (met, opn.map (srcN names)) (pre ++ [y]) = (met' ++ [y], List.map (srcN names) (opn' ++ [.cls 0 c])) from by
        rw [takeL_snoc, H1.out, take1_yes (by rw [← HB1.out, ← HB2.out]; rfl)]
        simp only [List.map_append, List.map_cons, List.map_nil, srcN, hav])
       have hmi := H2.out.1.more HB1.out.symm HB2.out.symm
       have HMI2 := zh (show MI x.cs (met' ++ [y]) ∧ (opn'.length + 1) ≤ (met' ++ [y]).length + 1 from ⟨hmi, by have := H2.out.2; simp; omega⟩)
       have hol2 : opn'.length + 1 ≤ 100000 := by have := H2.out.2; have := H2.out.1.len; have := HC.out; omega
       obtain ⟨a, ea, hab0, -⟩ := cl_at HH.out.pr.1.2 hck
       have hcm : c ∈ x.cs := List.mem_of_getElem? hck
       have hPd := HH.out.pr' hAd.2.2
       have htd := HH.out.tb' hAd.2.2
       obtain ⟨-, -, ⟨v, hv, hcut⟩, -⟩ := id hAd.1.1
       have HPL := zh (fun V' hU' hK' => place_t x kb Kn y V' (HH.out.pr' (W := V') hU').1.2 (by have := HC.out; omega) hK' hyk hyl HH.out.kl)
       unfold trC prC at HPL
       dsimp only [List.cons_append, List.nil_append] at HPL
       rw [hpk, ea] at HPL
       have HS0 := zh (show ∀ V' : World, (∀ p : Addr, p.block < w.heap.size → V'.cell? p = Vdd.cell? p) → (V'.cell? ⟨Bt, 0, none⟩ = some (.slice (some a) x.cs.length x.c1) ∧ V'.cell? ⟨Bt, 1, none⟩ = some (.slice x.A2 x.ns.length x.c2) ∧ V'.cell? ⟨Bt, 2, none⟩ = some (.string ⟨x.ec.toArray⟩) ∧ V'.cell? ⟨Bt, 3, none⟩ = some (.string ⟨x.en.toArray⟩) ∧ V'.cell? ⟨Bt, 4, none⟩ = some (.string ⟨x.ed.toArray⟩) ∧ V'.cell? ⟨Bt, 5, none⟩ = some (.map (some kb))) ∧
        (V'.cell? (a.add (k * 7)) = some (.string ⟨c.nm.toArray⟩) ∧ V'.cell? ⟨(a.add (k * 7)).block, (a.add (k * 7)).off + 1, none⟩ = some (.string ⟨c.su.toArray⟩) ∧ V'.cell? ⟨(a.add (k * 7)).block, (a.add (k * 7)).off + 2, none⟩ = some (.bool c.fc) ∧ V'.cell? ⟨(a.add (k * 7)).block, (a.add (k * 7)).off + 3, none⟩ = some (.bool c.ab) ∧ V'.cell? ⟨(a.add (k * 7)).block, (a.add (k * 7)).off + 4, none⟩ = some (.slice c.A1 c.is.length c.c1) ∧ V'.cell? ⟨(a.add (k * 7)).block, (a.add (k * 7)).off + 5, none⟩ = some (.slice c.A2 c.fs.length c.c2) ∧ V'.cell? ⟨(a.add (k * 7)).block, (a.add (k * 7)).off + 6, none⟩ = some (.slice c.A3 c.ms.length c.c3)) from fun V' hV' => by
        have hbt := blk_lt HH.out.tb
        obtain ⟨a', ea', -, q0, q1, q2, q3, q4, q5, q6⟩ := cl_at hPd.1.2 hck
        rw [ea] at ea'
        obtain rfl := Option.some.inj ea'
        have hbk : (a.add (k * 7)).block < w.heap.size := by rw [add_block]; exact hab0
        refine ⟨⟨?_, ?_, ?_, ?_, ?_, ?_⟩, ?_, ?_, ?_, ?_, ?_, ?_, ?_⟩
        ·rw [hV' _ hbt]; exact (cell_of_row _ _ 0 _ _ _ htd).trans (by rw [← ea]; rfl)
        ·rw [hV' _ hbt]; exact cell_of_row _ _ 1 _ _ _ htd
        ·rw [hV' _ hbt]; exact cell_of_row _ _ 2 _ _ _ htd
        ·rw [hV' _ hbt]; exact cell_of_row _ _ 3 _ _ _ htd
        ·rw [hV' _ hbt]; exact cell_of_row _ _ 4 _ _ _ htd
        ·rw [hV' _ hbt]; exact cell_of_row _ _ 5 _ _ _ htd
        ·exact (hV' _ hbk).trans q0
        ·exact (hV' ⟨(a.add (k * 7)).block, (a.add (k * 7)).off + 1, none⟩ hbk).trans q1
        ·exact (hV' ⟨(a.add (k * 7)).block, (a.add (k * 7)).off + 2, none⟩ hbk).trans q2
        ·exact (hV' ⟨(a.add (k * 7)).block, (a.add (k * 7)).off + 3, none⟩ hbk).trans q3
        ·exact (hV' ⟨(a.add (k * 7)).block, (a.add (k * 7)).off + 4, none⟩ hbk).trans q4
        ·exact (hV' ⟨(a.add (k * 7)).block, (a.add (k * 7)).off + 5, none⟩ hbk).trans q5
        ·exact (hV' ⟨(a.add (k * 7)).block, (a.add (k * 7)).off + 6, none⟩ hbk).trans q6)
       have hnd : w.heap.size ≤ Vdd.heap.size := hAd.2.2.size
       obtain ⟨U0, hU0⟩ : ∃ U0, U0 = Vdd.drew := ⟨_, rfl⟩
       have hb0 : Below Vdd.heap.size Vdd U0 := by rw [hU0]; exact ⟨rfl, rfl, rfl, Nat.le_refl _, fun _ _ => rfl⟩
       have hz0 : U0.heap.size = Vdd.heap.size := by rw [hU0]; rfl
       have hA0 := hAd.below HJ.out hkb hb0
       have hv0 : U0.heap[B + 4]? = some (.cells #[v] 219 (0, 0)) := (hb0.block _ (blk_lt hv)).trans hv
       have HC0 := zh (show U0.cell? ⟨B + 4, 0, none⟩ = some v from cell_of_row _ _ 0 _ _ _ hv0)
       have HT0 := zh (HS0.out U0 (fun p hp => hb0.cell (Nat.lt_of_lt_of_le hp hnd)))
       have hS00 : Stp kb w.heap.size B T V U0 := hSd.trans (Stp.below hb0 hnd hkb (blk_lt hld.1.choose_spec))
       have hld0 : (∃ r, U0.heap[T + 1]? = some (.loop r)) ∧ U0.heap[T]? = some (.deferred (some [])) := ⟨by obtain ⟨r, hr⟩ := hld.1; exact ⟨r, (hb0.block _ (blk_lt hr)).trans hr⟩, (hb0.block _ (blk_lt hld.2)).trans hld.2⟩
       have HA0 := zh hA0; have HV0 := zh hv0; have HSV := zh hS00; have HLD := zh hld0; have HCM := zh hcm; have HB0 := zh hb0
       have HPC := zh (HPL.out U0 hA0.2.2 hA0.2.1)
       have HBV := zh (show ∀ Ve : World, BelM kb U0.heap.size U0 Ve → ∀ p : Addr, p.block < w.heap.size → Ve.cell? p = Vdd.cell? p from fun Ve h p hp => (h.cell hA0.2.1.map p (by rw [hz0]; exact Nat.lt_of_lt_of_le hp hnd)).trans (hb0.cell (Nat.lt_of_lt_of_le hp hnd)))
       have HAB0 := zh hab0
       clear hSd hAd hld hpk hck hnm hfc hav hmi ea hab0 hcm hPd htd hv hcut hA0 hv0 hS00 hld0 hkp hJd hy hb0 HPL
       gi_wp2_with fail
       refine wpIn_mono (Q := onlyN (fun _ W' => (W'.heap[T + 1]? = V.heap[T + 1]? ∧ W'.heap[T]? = V.heap[T]?) ∧ KI kb w.heap.size B V W' ∧ UpJ x kb Kn names gN lbN w l B J met opn T Ds (pre ++ [y]) W')) ?_ ?_
       case refine_2 =>
        intro e a' W' hq
        obtain ⟨rfl, hq⟩ := onlyN_of hq
        exact hq
       case refine_1 =>
        refine wpIn_region_tame (S := (fun V' => (V'.cell? ⟨Bt, 0, none⟩ = some (.slice (some a) x.cs.length x.c1) ∧ V'.cell? ⟨Bt, 1, none⟩ = some (.slice x.A2 x.ns.length x.c2) ∧ V'.cell? ⟨Bt, 2, none⟩ = some (.string ⟨x.ec.toArray⟩) ∧ V'.cell? ⟨Bt, 3, none⟩ = some (.string ⟨x.en.toArray⟩) ∧ V'.cell? ⟨Bt, 4, none⟩ = some (.string ⟨x.ed.toArray⟩) ∧ V'.cell? ⟨Bt, 5, none⟩ = some (.map (some kb))) ∧ (V'.cell? (a.add (k * 7)) = some (.string ⟨c.nm.toArray⟩) ∧ V'.cell? ⟨(a.add (k * 7)).block, (a.add (k * 7)).off + 1, none⟩ = some (.string ⟨c.su.toArray⟩) ∧ V'.cell? ⟨(a.add (k * 7)).block, (a.add (k * 7)).off + 2, none⟩ = some (.bool c.fc) ∧ V'.cell? ⟨(a.add (k * 7)).block, (a.add (k * 7)).off + 3, none⟩ = some (.bool c.ab) ∧ V'.cell? ⟨(a.add (k * 7)).block, (a.add (k * 7)).off + 4, none⟩ = some (.slice c.A1 c.is.length c.c1) ∧ V'.cell? ⟨(a.add (k * 7)).block, (a.add (k * 7)).off + 5, none⟩ = some (.slice c.A2 c.fs.length c.c2) ∧ V'.cell? ⟨(a.add (k * 7)).block, (a.add (k * 7)).off + 6, none⟩ = some (.slice c.A3 c.ms.length c.c3)))) (by kernel_rfl) (by kernel_rfl) (by rw [← hU0]; exact HT0.out) (fun hHeld => ?_)
        rw [← hU0] at hHeld ⊢
        clear hU0
        refine tkp 1 rfl ?_
        refine tkp 2 rfl ?_
        refine tkp 3 rfl ?_
        refine tkp 4 rfl ?_
        refine tkp 5 rfl ?_
        refine wpAnyH_ready (rs := [0, 6]) (by kernel_rfl) (by simp) (AllReadyH.cons rfl (fun K hK => ?_) (AllReadyH.cons rfl (fun K hK => ?_) AllReadyH.nil))
        ·skip
         have hc0 := HC0.out
         go_simp
         refine hK.out _ _ HT0.out (fun hHeld => ?_)
         clear hK K hc0
         try simp only [puts]
         refine rdy 6 rfl (fun K hK => ?_)
         go_simp
         refine HPC.out.mono ?_
         rintro e U1 ⟨rfl, hk1, hb1⟩
         have HT1 := zh (HS0.out U1 (HBV.out U1 hb1))
         have HA1 := zh (HA0.out.belm HJ.out (Nat.lt_of_lt_of_le hkb hn0) hb1 hk1)
         have HV1 := zh ((hb1.block _ (blk_lt HV0.out) (by omega)).trans HV0.out)
         have HC1 := zh (show U1.cell? ⟨B + 4, 0, none⟩ = some v from cell_of_row _ _ 0 _ _ _ HV1.out)
         have HSV1 := zh (HSV.out.trans (Stp.belm hb1 HA0.out.2.1.map HA0.out.2.2.size hkb (by omega) (blk_lt HLD.out.1.choose_spec)))
         have HLD1 := zh (show (∃ r, U1.heap[T + 1]? = some (.loop r)) ∧ U1.heap[T]? = some (.deferred (some [])) from ⟨by obtain ⟨r, hr⟩ := HLD.out.1; exact ⟨r, (hb1.block _ (blk_lt hr) (by omega)).trans hr⟩, (hb1.block _ (blk_lt HLD.out.2) (by omega)).trans HLD.out.2⟩)
         clear hk1 hb1
         go_wp2_with fail
         refine hK.out _ _ HT1.out (fun hHeld => ?_)
         clear hK K
         try simp only [puts]
         refine tkp 7 rfl ?_
         refine tkp 8 rfl ?_
         refine rdy 9 rfl (fun K hK => ?_)
         go_simp
         refine (above_w c U1).mono ?_
         rintro e U2 ⟨rfl, hu2⟩
         have hb2 : Below U1.heap.size U1 U2 := by rw [hu2]; exact (Below.refl _ _).alloc (Nat.le_refl _) _
         have HCL := zh (show U2.heap[U1.heap.size]? = some (.cells (clC c).toArray 43 (0, 0)) from by rw [hu2]; exact heap_alloc_new U1 _)
         have hn1 := HA1.out.2.2.size
         have HB2' := zh hb2
         have HT2 := zh (show (U2.cell? ⟨Bt, 0, none⟩ = some (.slice (some a) x.cs.length x.c1) ∧ U2.cell? ⟨Bt, 1, none⟩ = some (.slice x.A2 x.ns.length x.c2) ∧ U2.cell? ⟨Bt, 2, none⟩ = some (.string ⟨x.ec.toArray⟩) ∧ U2.cell? ⟨Bt, 3, none⟩ = some (.string ⟨x.en.toArray⟩) ∧ U2.cell? ⟨Bt, 4, none⟩ = some (.string ⟨x.ed.toArray⟩) ∧ U2.cell? ⟨Bt, 5, none⟩ = some (.map (some kb))) ∧ (U2.cell? (a.add (k * 7)) = some (.string ⟨c.nm.toArray⟩) ∧ U2.cell? ⟨(a.add (k * 7)).block, (a.add (k * 7)).off + 1, none⟩ = some (.string ⟨c.su.toArray⟩) ∧ U2.cell? ⟨(a.add (k * 7)).block, (a.add (k * 7)).off + 2, none⟩ = some (.bool c.fc) ∧ U2.cell? ⟨(a.add (k * 7)).block, (a.add (k * 7)).off + 3, none⟩ = some (.bool c.ab) ∧ U2.cell? ⟨(a.add (k * 7)).block, (a.add (k * 7)).off + 4, none⟩ = some (.slice c.A1 c.is.length c.c1) ∧ U2.cell? ⟨(a.add (k * 7)).block, (a.add (k * 7)).off + 5, none⟩ = some (.slice c.A2 c.fs.length c.c2) ∧ U2.cell? ⟨(a.add (k * 7)).block, (a.add (k * 7)).off + 6, none⟩ = some (.slice c.A3 c.ms.length c.c3)) from by
          have h := HT1.out
          have hk : ∀ p u, U1.cell? p = some u → U2.cell? p = some u := fun p u hp => (hb2.cell (World.block_lt_of_cell? _ _ hp)).trans hp
          exact ⟨⟨hk _ _ h.1.1, hk _ _ h.1.2.1, hk _ _ h.1.2.2.1, hk _ _ h.1.2.2.2.1, hk _ _ h.1.2.2.2.2.1, hk _ _ h.1.2.2.2.2.2⟩, hk _ _ h.2.1, hk _ _ h.2.2.1, hk _ _ h.2.2.2.1, hk _ _ h.2.2.2.2.1, hk _ _ h.2.2.2.2.2.1, hk _ _ h.2.2.2.2.2.2.1, hk _ _ h.2.2.2.2.2.2.2⟩)
         have HA2 := zh (HA1.out.below HJ.out hkb hb2)
         have HV2 := zh ((hb2.block _ (blk_lt HV1.out)).trans HV1.out)
         have HC2 := zh (show U2.cell? ⟨B + 4, 0, none⟩ = some v from cell_of_row _ _ 0 _ _ _ HV2.out)
         have HSV2 := zh (HSV1.out.trans (Stp.below hb2 hn1 hkb (blk_lt HLD1.out.1.choose_spec)))
         have HLD2 := zh (show (∃ r, U2.heap[T + 1]? = some (.loop r)) ∧ U2.heap[T]? = some (.deferred (some [])) from ⟨by obtain ⟨r, hr⟩ := HLD1.out.1; exact ⟨r, (hb2.block _ (blk_lt hr)).trans hr⟩, (hb2.block _ (blk_lt HLD1.out.2)).trans HLD1.out.2⟩)
         have HU1 := zh (show B ≤ U1.heap.size ∧ U1.heap.size < U2.heap.size from ⟨by have := blk_lt HV1.out; omega, blk_lt HCL.out⟩)
         clear hu2 hb2 hn1
         go_wp2_with fail
         refine hK.out _ _ HT2.out (fun hHeld => ?_)
         clear hK K
         try simp only [puts]
         refine rdy 10 rfl (fun K hK => ?_)
         go_simp
         obtain ⟨U3, hu3⟩ : ∃ U3, U3 = U2.alloc (.cells #[.func (.func 182) #[] #[.pointer (some ⟨U1.heap.size, 0, none⟩)]] 101) := ⟨_, rfl⟩
         rw [← hu3]
         have hb3 : Below U2.heap.size U2 U3 := by rw [hu3]; exact (Below.refl _ _).alloc (Nat.le_refl _) _
         have HNW := zh (show U3.cell? ⟨U2.heap.size, 0, none⟩ = some (.func (.func 182) #[] #[.pointer (some ⟨U1.heap.size, 0, none⟩)]) from by rw [hu3]; exact cell_of_row _ _ 0 _ _ _ (heap_alloc_new U2 _))
         have HT3 := zh (show (U3.cell? ⟨Bt, 0, none⟩ = some (.slice (some a) x.cs.length x.c1) ∧ U3.cell? ⟨Bt, 1, none⟩ = some (.slice x.A2 x.ns.length x.c2) ∧ U3.cell? ⟨Bt, 2, none⟩ = some (.string ⟨x.ec.toArray⟩) ∧ U3.cell? ⟨Bt, 3, none⟩ = some (.string ⟨x.en.toArray⟩) ∧ U3.cell? ⟨Bt, 4, none⟩ = some (.string ⟨x.ed.toArray⟩) ∧ U3.cell? ⟨Bt, 5, none⟩ = some (.map (some kb))) ∧ (U3.cell? (a.add (k * 7)) = some (.string ⟨c.nm.toArray⟩) ∧ U3.cell? ⟨(a.add (k * 7)).block, (a.add (k * 7)).off + 1, none⟩ = some (.string ⟨c.su.toArray⟩) ∧ U3.cell? ⟨(a.add (k * 7)).block, (a.add (k * 7)).off + 2, none⟩ = some (.bool c.fc) ∧ U3.cell? ⟨(a.add (k * 7)).block, (a.add (k * 7)).off + 3, none⟩ = some (.bool c.ab) ∧ U3.cell? ⟨(a.add (k * 7)).block, (a.add (k * 7)).off + 4, none⟩ = some (.slice c.A1 c.is.length c.c1) ∧ U3.cell? ⟨(a.add (k * 7)).block, (a.add (k * 7)).off + 5, none⟩ = some (.slice c.A2 c.fs.length c.c2) ∧ U3.cell? ⟨(a.add (k * 7)).block, (a.add (k * 7)).off + 6, none⟩ = some (.slice c.A3 c.ms.length c.c3)) from by
          have h := HT2.out
          have hk : ∀ p u, U2.cell? p = some u → U3.cell? p = some u := fun p u hp => (hb3.cell (World.block_lt_of_cell? _ _ hp)).trans hp
          exact ⟨⟨hk _ _ h.1.1, hk _ _ h.1.2.1, hk _ _ h.1.2.2.1, hk _ _ h.1.2.2.2.1, hk _ _ h.1.2.2.2.2.1, hk _ _ h.1.2.2.2.2.2⟩, hk _ _ h.2.1, hk _ _ h.2.2.1, hk _ _ h.2.2.2.1, hk _ _ h.2.2.2.2.1, hk _ _ h.2.2.2.2.2.1, hk _ _ h.2.2.2.2.2.2.1, hk _ _ h.2.2.2.2.2.2.2⟩)
         have HA3 := zh (HA2.out.below HJ.out hkb hb3)
         have HV3 := zh ((hb3.block _ (blk_lt HV2.out)).trans HV2.out)
         have HC3 := zh (show U3.cell? ⟨B + 4, 0, none⟩ = some v from cell_of_row _ _ 0 _ _ _ HV3.out)
         have HSV3 := zh (HSV2.out.trans (Stp.below hb3 HA2.out.2.2.size hkb (blk_lt HLD2.out.1.choose_spec)))
         have HLD3 := zh (show (∃ r, U3.heap[T + 1]? = some (.loop r)) ∧ U3.heap[T]? = some (.deferred (some [])) from ⟨by obtain ⟨r, hr⟩ := HLD2.out.1; exact ⟨r, (hb3.block _ (blk_lt hr)).trans hr⟩, (hb3.block _ (blk_lt HLD2.out.2)).trans HLD2.out.2⟩)
         have HSO := zh (show SrcOk x.cs B U3 (.cls U1.heap.size c) from ⟨HU1.out.1, (hb3.block _ HU1.out.2).trans HCL.out, HCM.out⟩)
         clear hu3 hb3
         refine hK.out _ _ HT3.out (fun hHeld => ?_)
         clear hK K
         try simp only [puts]
         refine rdy 11 rfl (fun K hK => ?_)
         obtain ⟨v3, hv3, hct3⟩ := HA3.out.1.1.2.2.1
         obtain rfl : v = v3 := by
          have := HV3.out.symm.trans hv3
          simpa using this
         refine step_cut U3 rfl _ _ rfl (B + 3) v (opn'.map (srcV gN lbN)) rfl hct3 U2.heap.size _ rfl HNW.out rfl (by rw [List.length_map]; exact hol2) (by have := blk_lt HV3.out; omega) ?_
         intro v' U4 g4 cur4 ho4 hg4 hgc4 hgr4
         obtain ⟨g9, j9, cap9, cur9, ev9, -⟩ := id ho4
         obtain ⟨n9, hn9⟩ : ∃ n9, n9 = (opn'.map (srcV gN lbN) ++ [Value.func (.func 182) #[] #[.pointer (some ⟨U1.heap.size, 0, none⟩)]]).length := ⟨_, rfl⟩
         rw [← hn9] at ev9
         clear hn9
         subst ev9
         have hpush := up_push (s := .cls U1.heap.size c) HA3.out HJ.out hkb hn0 HV3.out (by rw [List.map_append]; exact ho4) hgr4 hg4 hgc4 HSO.out (by omega) HLD3.out.1 HLD3.out.2
         have hv4 : U4.heap[B + 4]? = some (.cells #[v] 219 (0, 0)) := (hgr4.block _ (blk_lt HV3.out) (fun e => by cases e; rw [HV3.out] at hgc4; cases hgc4)).trans HV3.out
         have hcc4 : U4.cell? ⟨B + 4, 0, none⟩ = some v := cell_of_row _ _ 0 _ _ _ hv4
         have hff4 : U4.frozen? ⟨B + 4, 0, none⟩ = false := frozen_of_row _ (B + 4) 0 _ _ hv4
         have HSX := zh hpush.2.ki.bel
         have HFI := zh (HFIN.out (met' ++ [y]) (opn' ++ [.cls U1.heap.size c]) (U4.setCell ⟨B + 4, 0, none⟩ (.slice (some ⟨g9, j9, none⟩) n9 cap9)) (by
          have := HTK.out
          rw [this]
          simp only [List.map_append, List.map_cons, List.map_nil, srcN]) ⟨HMI2.out.1, by simpa using HMI2.out.2⟩ hpush.1 (HSV3.out.trans hpush.2))
         have HT4 := zh (show (U4.cell? ⟨Bt, 0, none⟩ = some (.slice (some a) x.cs.length x.c1) ∧ U4.cell? ⟨Bt, 1, none⟩ = some (.slice x.A2 x.ns.length x.c2) ∧ U4.cell? ⟨Bt, 2, none⟩ = some (.string ⟨x.ec.toArray⟩) ∧ U4.cell? ⟨Bt, 3, none⟩ = some (.string ⟨x.en.toArray⟩) ∧ U4.cell? ⟨Bt, 4, none⟩ = some (.string ⟨x.ed.toArray⟩) ∧ U4.cell? ⟨Bt, 5, none⟩ = some (.map (some kb))) ∧ (U4.cell? (a.add (k * 7)) = some (.string ⟨c.nm.toArray⟩) ∧ U4.cell? ⟨(a.add (k * 7)).block, (a.add (k * 7)).off + 1, none⟩ = some (.string ⟨c.su.toArray⟩) ∧ U4.cell? ⟨(a.add (k * 7)).block, (a.add (k * 7)).off + 2, none⟩ = some (.bool c.fc) ∧ U4.cell? ⟨(a.add (k * 7)).block, (a.add (k * 7)).off + 3, none⟩ = some (.bool c.ab) ∧ U4.cell? ⟨(a.add (k * 7)).block, (a.add (k * 7)).off + 4, none⟩ = some (.slice c.A1 c.is.length c.c1) ∧ U4.cell? ⟨(a.add (k * 7)).block, (a.add (k * 7)).off + 5, none⟩ = some (.slice c.A2 c.fs.length c.c2) ∧ U4.cell? ⟨(a.add (k * 7)).block, (a.add (k * 7)).off + 6, none⟩ = some (.slice c.A3 c.ms.length c.c3)) from by
          have h := HT3.out
          have hk : ∀ p u, p.block < w.heap.size → U3.cell? p = some u → U4.cell? p = some u := fun p u hp hu => (World.cell?_of_block (hgr4.block _ (World.block_lt_of_cell? _ _ hu) (fun e => by cases e; omega))).trans hu
          have hbt := blk_lt HH.out.tb
          have hbk : (a.add (k * 7)).block < w.heap.size := by rw [add_block]; exact HAB0.out
          exact ⟨⟨hk _ _ hbt h.1.1, hk _ _ hbt h.1.2.1, hk _ _ hbt h.1.2.2.1, hk _ _ hbt h.1.2.2.2.1, hk _ _ hbt h.1.2.2.2.2.1, hk _ _ hbt h.1.2.2.2.2.2⟩, hk _ _ hbk h.2.1, hk _ _ hbk h.2.2.1, hk _ _ hbk h.2.2.2.1, hk _ _ hbk h.2.2.2.2.1, hk _ _ hbk h.2.2.2.2.2.1, hk _ _ hbk h.2.2.2.2.2.2.1, hk _ _ hbk h.2.2.2.2.2.2.2⟩)
         have HT5 := zh (show ((U4.setCell ⟨B + 4, 0, none⟩ (.slice (some ⟨g9, j9, none⟩) n9 cap9)).cell? ⟨Bt, 0, none⟩ = some (.slice (some a) x.cs.length x.c1) ∧ (U4.setCell ⟨B + 4, 0, none⟩ (.slice (some ⟨g9, j9, none⟩) n9 cap9)).cell? ⟨Bt, 1, none⟩ = some (.slice x.A2 x.ns.length x.c2) ∧ (U4.setCell ⟨B + 4, 0, none⟩ (.slice (some ⟨g9, j9, none⟩) n9 cap9)).cell? ⟨Bt, 2, none⟩ = some (.string ⟨x.ec.toArray⟩) ∧ (U4.setCell ⟨B + 4, 0, none⟩ (.slice (some ⟨g9, j9, none⟩) n9 cap9)).cell? ⟨Bt, 3, none⟩ = some (.string ⟨x.en.toArray⟩) ∧ (U4.setCell ⟨B + 4, 0, none⟩ (.slice (some ⟨g9, j9, none⟩) n9 cap9)).cell? ⟨Bt, 4, none⟩ = some (.string ⟨x.ed.toArray⟩) ∧ (U4.setCell ⟨B + 4, 0, none⟩ (.slice (some ⟨g9, j9, none⟩) n9 cap9)).cell? ⟨Bt, 5, none⟩ = some (.map (some kb))) ∧ ((U4.setCell ⟨B + 4, 0, none⟩ (.slice (some ⟨g9, j9, none⟩) n9 cap9)).cell? (a.add (k * 7)) = some (.string ⟨c.nm.toArray⟩) ∧ (U4.setCell ⟨B + 4, 0, none⟩ (.slice (some ⟨g9, j9, none⟩) n9 cap9)).cell? ⟨(a.add (k * 7)).block, (a.add (k * 7)).off + 1, none⟩ = some (.string ⟨c.su.toArray⟩) ∧ (U4.setCell ⟨B + 4, 0, none⟩ (.slice (some ⟨g9, j9, none⟩) n9 cap9)).cell? ⟨(a.add (k * 7)).block, (a.add (k * 7)).off + 2, none⟩ = some (.bool c.fc) ∧ (U4.setCell ⟨B + 4, 0, none⟩ (.slice (some ⟨g9, j9, none⟩) n9 cap9)).cell? ⟨(a.add (k * 7)).block, (a.add (k * 7)).off + 3, none⟩ = some (.bool c.ab) ∧ (U4.setCell ⟨B + 4, 0, none⟩ (.slice (some ⟨g9, j9, none⟩) n9 cap9)).cell? ⟨(a.add (k * 7)).block, (a.add (k * 7)).off + 4, none⟩ = some (.slice c.A1 c.is.length c.c1) ∧ (U4.setCell ⟨B + 4, 0, none⟩ (.slice (some ⟨g9, j9, none⟩) n9 cap9)).cell? ⟨(a.add (k * 7)).block, (a.add (k * 7)).off + 5, none⟩ = some (.slice c.A2 c.fs.length c.c2) ∧ (U4.setCell ⟨B + 4, 0, none⟩ (.slice (some ⟨g9, j9, none⟩) n9 cap9)).cell? ⟨(a.add (k * 7)).block, (a.add (k * 7)).off + 6, none⟩ = some (.slice c.A3 c.ms.length c.c3)) from by
          have h := HT4.out
          have hk : ∀ p u, p.block < w.heap.size → U4.cell? p = some u → (U4.setCell ⟨B + 4, 0, none⟩ (.slice (some ⟨g9, j9, none⟩) n9 cap9)).cell? p = some u := fun p u hp hu => (World.cell?_of_block (set_far (by omega))).trans hu
          have hbt := blk_lt HH.out.tb
          have hbk : (a.add (k * 7)).block < w.heap.size := by rw [add_block]; exact HAB0.out
          exact ⟨⟨hk _ _ hbt h.1.1, hk _ _ hbt h.1.2.1, hk _ _ hbt h.1.2.2.1, hk _ _ hbt h.1.2.2.2.1, hk _ _ hbt h.1.2.2.2.2.1, hk _ _ hbt h.1.2.2.2.2.2⟩, hk _ _ hbk h.2.1, hk _ _ hbk h.2.2.1, hk _ _ hbk h.2.2.2.1, hk _ _ hbk h.2.2.2.2.1, hk _ _ hbk h.2.2.2.2.2.1, hk _ _ hbk h.2.2.2.2.2.2.1, hk _ _ hbk h.2.2.2.2.2.2.2⟩)
         clear hv3 hct3 ho4 hgc4 hgr4 hpush hv4
         refine hK.out _ _ HT4.out (fun hHeld => ?_)
         clear hK K
         try simp only [puts]
         refine rdy 12 rfl (fun K hK => ?_)
         go_simp
         refine hK.out _ _ HT5.out (fun hHeld => ?_)
         clear hK K
         try simp only [puts]
         refine wpAnyH_done (by kernel_rfl) ?_ _
         exact HFI.out
        ·skip
         go_simp
         refine HPC.out.mono ?_
         rintro e U1 ⟨rfl, hk1, hb1⟩
         have HT1 := zh (HS0.out U1 (HBV.out U1 hb1))
         have HA1 := zh (HA0.out.belm HJ.out (Nat.lt_of_lt_of_le hkb hn0) hb1 hk1)
         have HV1 := zh ((hb1.block _ (blk_lt HV0.out) (by omega)).trans HV0.out)
         have HC1 := zh (show U1.cell? ⟨B + 4, 0, none⟩ = some v from cell_of_row _ _ 0 _ _ _ HV1.out)
         have HSV1 := zh (HSV.out.trans (Stp.belm hb1 HA0.out.2.1.map HA0.out.2.2.size hkb (by omega) (blk_lt HLD.out.1.choose_spec)))
         have HLD1 := zh (show (∃ r, U1.heap[T + 1]? = some (.loop r)) ∧ U1.heap[T]? = some (.deferred (some [])) from ⟨by obtain ⟨r, hr⟩ := HLD.out.1; exact ⟨r, (hb1.block _ (blk_lt hr) (by omega)).trans hr⟩, (hb1.block _ (blk_lt HLD.out.2) (by omega)).trans HLD.out.2⟩)
         clear hk1 hb1
         go_wp2_with fail
         refine hK.out _ _ HT1.out (fun hHeld => ?_)
         clear hK K
         try simp only [puts]
         refine tkp 7 rfl ?_
         refine tkp 8 rfl ?_
         refine wpAnyH_ready (rs := [0, 9]) (by kernel_rfl) (by simp) (AllReadyH.cons rfl (fun K hK => ?_) (AllReadyH.cons rfl (fun K hK => ?_) AllReadyH.nil))
         ·skip
          have hc0 := HC1.out
          go_simp
          refine hK.out _ _ HT1.out (fun hHeld => ?_)
          clear hK K hc0
          try simp only [puts]
          refine rdy 9 rfl (fun K hK => ?_)
          go_simp
          refine (above_w c U1).mono ?_
          rintro e U2 ⟨rfl, hu2⟩
          have hb2 : Below U1.heap.size U1 U2 := by rw [hu2]; exact (Below.refl _ _).alloc (Nat.le_refl _) _
          have HCL := zh (show U2.heap[U1.heap.size]? = some (.cells (clC c).toArray 43 (0, 0)) from by rw [hu2]; exact heap_alloc_new U1 _)
          have hn1 := HA1.out.2.2.size
          have HB2' := zh hb2
          have HT2 := zh (show (U2.cell? ⟨Bt, 0, none⟩ = some (.slice (some a) x.cs.length x.c1) ∧ U2.cell? ⟨Bt, 1, none⟩ = some (.slice x.A2 x.ns.length x.c2) ∧ U2.cell? ⟨Bt, 2, none⟩ = some (.string ⟨x.ec.toArray⟩) ∧ U2.cell? ⟨Bt, 3, none⟩ = some (.string ⟨x.en.toArray⟩) ∧ U2.cell? ⟨Bt, 4, none⟩ = some (.string ⟨x.ed.toArray⟩) ∧ U2.cell? ⟨Bt, 5, none⟩ = some (.map (some kb))) ∧ (U2.cell? (a.add (k * 7)) = some (.string ⟨c.nm.toArray⟩) ∧ U2.cell? ⟨(a.add (k * 7)).block, (a.add (k * 7)).off + 1, none⟩ = some (.string ⟨c.su.toArray⟩) ∧ U2.cell? ⟨(a.add (k * 7)).block, (a.add (k * 7)).off + 2, none⟩ = some (.bool c.fc) ∧ U2.cell? ⟨(a.add (k * 7)).block, (a.add (k * 7)).off + 3, none⟩ = some (.bool c.ab) ∧ U2.cell? ⟨(a.add (k * 7)).block, (a.add (k * 7)).off + 4, none⟩ = some (.slice c.A1 c.is.length c.c1) ∧ U2.cell? ⟨(a.add (k * 7)).block, (a.add (k * 7)).off + 5, none⟩ = some (.slice c.A2 c.fs.length c.c2) ∧ U2.cell? ⟨(a.add (k * 7)).block, (a.add (k * 7)).off + 6, none⟩ = some (.slice c.A3 c.ms.length c.c3)) from by
           have h := HT1.out
           have hk : ∀ p u, U1.cell? p = some u → U2.cell? p = some u := fun p u hp => (hb2.cell (World.block_lt_of_cell? _ _ hp)).trans hp
           exact ⟨⟨hk _ _ h.1.1, hk _ _ h.1.2.1, hk _ _ h.1.2.2.1, hk _ _ h.1.2.2.2.1, hk _ _ h.1.2.2.2.2.1, hk _ _ h.1.2.2.2.2.2⟩, hk _ _ h.2.1, hk _ _ h.2.2.1, hk _ _ h.2.2.2.1, hk _ _ h.2.2.2.2.1, hk _ _ h.2.2.2.2.2.1, hk _ _ h.2.2.2.2.2.2.1, hk _ _ h.2.2.2.2.2.2.2⟩)
          have HA2 := zh (HA1.out.below HJ.out hkb hb2)
          have HV2 := zh ((hb2.block _ (blk_lt HV1.out)).trans HV1.out)
          have HC2 := zh (show U2.cell? ⟨B + 4, 0, none⟩ = some v from cell_of_row _ _ 0 _ _ _ HV2.out)
          have HSV2 := zh (HSV1.out.trans (Stp.below hb2 hn1 hkb (blk_lt HLD1.out.1.choose_spec)))
          have HLD2 := zh (show (∃ r, U2.heap[T + 1]? = some (.loop r)) ∧ U2.heap[T]? = some (.deferred (some [])) from ⟨by obtain ⟨r, hr⟩ := HLD1.out.1; exact ⟨r, (hb2.block _ (blk_lt hr)).trans hr⟩, (hb2.block _ (blk_lt HLD1.out.2)).trans HLD1.out.2⟩)
          have HU1 := zh (show B ≤ U1.heap.size ∧ U1.heap.size < U2.heap.size from ⟨by have := blk_lt HV1.out; omega, blk_lt HCL.out⟩)
          clear hu2 hb2 hn1
          go_wp2_with fail
          refine hK.out _ _ HT2.out (fun hHeld => ?_)
          clear hK K
          try simp only [puts]
          refine rdy 10 rfl (fun K hK => ?_)
          go_simp
          obtain ⟨U3, hu3⟩ : ∃ U3, U3 = U2.alloc (.cells #[.func (.func 182) #[] #[.pointer (some ⟨U1.heap.size, 0, none⟩)]] 101) := ⟨_, rfl⟩
          rw [← hu3]
          have hb3 : Below U2.heap.size U2 U3 := by rw [hu3]; exact (Below.refl _ _).alloc (Nat.le_refl _) _
          have HNW := zh (show U3.cell? ⟨U2.heap.size, 0, none⟩ = some (.func (.func 182) #[] #[.pointer (some ⟨U1.heap.size, 0, none⟩)]) from by rw [hu3]; exact cell_of_row _ _ 0 _ _ _ (heap_alloc_new U2 _))
          have HT3 := zh (show (U3.cell? ⟨Bt, 0, none⟩ = some (.slice (some a) x.cs.length x.c1) ∧ U3.cell? ⟨Bt, 1, none⟩ = some (.slice x.A2 x.ns.length x.c2) ∧ U3.cell? ⟨Bt, 2, none⟩ = some (.string ⟨x.ec.toArray⟩) ∧ U3.cell? ⟨Bt, 3, none⟩ = some (.string ⟨x.en.toArray⟩) ∧ U3.cell? ⟨Bt, 4, none⟩ = some (.string ⟨x.ed.toArray⟩) ∧ U3.cell? ⟨Bt, 5, none⟩ = some (.map (some kb))) ∧ (U3.cell? (a.add (k * 7)) = some (.string ⟨c.nm.toArray⟩) ∧ U3.cell? ⟨(a.add (k * 7)).block, (a.add (k * 7)).off + 1, none⟩ = some (.string ⟨c.su.toArray⟩) ∧ U3.cell? ⟨(a.add (k * 7)).block, (a.add (k * 7)).off + 2, none⟩ = some (.bool c.fc) ∧ U3.cell? ⟨(a.add (k * 7)).block, (a.add (k * 7)).off + 3, none⟩ = some (.bool c.ab) ∧ U3.cell? ⟨(a.add (k * 7)).block, (a.add (k * 7)).off + 4, none⟩ = some (.slice c.A1 c.is.length c.c1) ∧ U3.cell? ⟨(a.add (k * 7)).block, (a.add (k * 7)).off + 5, none⟩ = some (.slice c.A2 c.fs.length c.c2) ∧ U3.cell? ⟨(a.add (k * 7)).block, (a.add (k * 7)).off + 6, none⟩ = some (.slice c.A3 c.ms.length c.c3)) from by
           have h := HT2.out
           have hk : ∀ p u, U2.cell? p = some u → U3.cell? p = some u := fun p u hp => (hb3.cell (World.block_lt_of_cell? _ _ hp)).trans hp
           exact ⟨⟨hk _ _ h.1.1, hk _ _ h.1.2.1, hk _ _ h.1.2.2.1, hk _ _ h.1.2.2.2.1, hk _ _ h.1.2.2.2.2.1, hk _ _ h.1.2.2.2.2.2⟩, hk _ _ h.2.1, hk _ _ h.2.2.1, hk _ _ h.2.2.2.1, hk _ _ h.2.2.2.2.1, hk _ _ h.2.2.2.2.2.1, hk _ _ h.2.2.2.2.2.2.1, hk _ _ h.2.2.2.2.2.2.2⟩)
          have HA3 := zh (HA2.out.below HJ.out hkb hb3)
          have HV3 := zh ((hb3.block _ (blk_lt HV2.out)).trans HV2.out)
          have HC3 := zh (show U3.cell? ⟨B + 4, 0, none⟩ = some v from cell_of_row _ _ 0 _ _ _ HV3.out)
          have HSV3 := zh (HSV2.out.trans (Stp.below hb3 HA2.out.2.2.size hkb (blk_lt HLD2.out.1.choose_spec)))
          have HLD3 := zh (show (∃ r, U3.heap[T + 1]? = some (.loop r)) ∧ U3.heap[T]? = some (.deferred (some [])) from ⟨by obtain ⟨r, hr⟩ := HLD2.out.1; exact ⟨r, (hb3.block _ (blk_lt hr)).trans hr⟩, (hb3.block _ (blk_lt HLD2.out.2)).trans HLD2.out.2⟩)
          have HSO := zh (show SrcOk x.cs B U3 (.cls U1.heap.size c) from ⟨HU1.out.1, (hb3.block _ HU1.out.2).trans HCL.out, HCM.out⟩)
          clear hu3 hb3
          refine hK.out _ _ HT3.out (fun hHeld => ?_)
          clear hK K
          try simp only [puts]
          refine rdy 11 rfl (fun K hK => ?_)
          obtain ⟨v3, hv3, hct3⟩ := HA3.out.1.1.2.2.1
          obtain rfl : v = v3 := by
           have := HV3.out.symm.trans hv3
           simpa using this
          refine step_cut U3 rfl _ _ rfl (B + 3) v (opn'.map (srcV gN lbN)) rfl hct3 U2.heap.size _ rfl HNW.out rfl (by rw [List.length_map]; exact hol2) (by have := blk_lt HV3.out; omega) ?_
          intro v' U4 g4 cur4 ho4 hg4 hgc4 hgr4
          obtain ⟨g9, j9, cap9, cur9, ev9, -⟩ := id ho4
          obtain ⟨n9, hn9⟩ : ∃ n9, n9 = (opn'.map (srcV gN lbN) ++ [Value.func (.func 182) #[] #[.pointer (some ⟨U1.heap.size, 0, none⟩)]]).length := ⟨_, rfl⟩
          rw [← hn9] at ev9
          clear hn9
          subst ev9
          have hpush := up_push (s := .cls U1.heap.size c) HA3.out HJ.out hkb hn0 HV3.out (by rw [List.map_append]; exact ho4) hgr4 hg4 hgc4 HSO.out (by omega) HLD3.out.1 HLD3.out.2
          have hv4 : U4.heap[B + 4]? = some (.cells #[v] 219 (0, 0)) := (hgr4.block _ (blk_lt HV3.out) (fun e => by cases e; rw [HV3.out] at hgc4; cases hgc4)).trans HV3.out
          have hcc4 : U4.cell? ⟨B + 4, 0, none⟩ = some v := cell_of_row _ _ 0 _ _ _ hv4
          have hff4 : U4.frozen? ⟨B + 4, 0, none⟩ = false := frozen_of_row _ (B + 4) 0 _ _ hv4
          have HSX := zh hpush.2.ki.bel
          have HFI := zh (HFIN.out (met' ++ [y]) (opn' ++ [.cls U1.heap.size c]) (U4.setCell ⟨B + 4, 0, none⟩ (.slice (some ⟨g9, j9, none⟩) n9 cap9)) (by
           have := HTK.out
           rw [this]
           simp only [List.map_append, List.map_cons, List.map_nil, srcN]) ⟨HMI2.out.1, by simpa using HMI2.out.2⟩ hpush.1 (HSV3.out.trans hpush.2))
          have HT4 := zh (show (U4.cell? ⟨Bt, 0, none⟩ = some (.slice (some a) x.cs.length x.c1) ∧ U4.cell? ⟨Bt, 1, none⟩ = some (.slice x.A2 x.ns.length x.c2) ∧ U4.cell? ⟨Bt, 2, none⟩ = some (.string ⟨x.ec.toArray⟩) ∧ U4.cell? ⟨Bt, 3, none⟩ = some (.string ⟨x.en.toArray⟩) ∧ U4.cell? ⟨Bt, 4, none⟩ = some (.string ⟨x.ed.toArray⟩) ∧ U4.cell? ⟨Bt, 5, none⟩ = some (.map (some kb))) ∧ (U4.cell? (a.add (k * 7)) = some (.string ⟨c.nm.toArray⟩) ∧ U4.cell? ⟨(a.add (k * 7)).block, (a.add (k * 7)).off + 1, none⟩ = some (.string ⟨c.su.toArray⟩) ∧ U4.cell? ⟨(a.add (k * 7)).block, (a.add (k * 7)).off + 2, none⟩ = some (.bool c.fc) ∧ U4.cell? ⟨(a.add (k * 7)).block, (a.add (k * 7)).off + 3, none⟩ = some (.bool c.ab) ∧ U4.cell? ⟨(a.add (k * 7)).block, (a.add (k * 7)).off + 4, none⟩ = some (.slice c.A1 c.is.length c.c1) ∧ U4.cell? ⟨(a.add (k * 7)).block, (a.add (k * 7)).off + 5, none⟩ = some (.slice c.A2 c.fs.length c.c2) ∧ U4.cell? ⟨(a.add (k * 7)).block, (a.add (k * 7)).off + 6, none⟩ = some (.slice c.A3 c.ms.length c.c3)) from by
           have h := HT3.out
           have hk : ∀ p u, p.block < w.heap.size → U3.cell? p = some u → U4.cell? p = some u := fun p u hp hu => (World.cell?_of_block (hgr4.block _ (World.block_lt_of_cell? _ _ hu) (fun e => by cases e; omega))).trans hu
           have hbt := blk_lt HH.out.tb
           have hbk : (a.add (k * 7)).block < w.heap.size := by rw [add_block]; exact HAB0.out
           exact ⟨⟨hk _ _ hbt h.1.1, hk _ _ hbt h.1.2.1, hk _ _ hbt h.1.2.2.1, hk _ _ hbt h.1.2.2.2.1, hk _ _ hbt h.1.2.2.2.2.1, hk _ _ hbt h.1.2.2.2.2.2⟩, hk _ _ hbk h.2.1, hk _ _ hbk h.2.2.1, hk _ _ hbk h.2.2.2.1, hk _ _ hbk h.2.2.2.2.1, hk _ _ hbk h.2.2.2.2.2.1, hk _ _ hbk h.2.2.2.2.2.2.1, hk _ _ hbk h.2.2.2.2.2.2.2⟩)
          have HT5 := zh (show ((U4.setCell ⟨B + 4, 0, none⟩ (.slice (some ⟨g9, j9, none⟩) n9 cap9)).cell? ⟨Bt, 0, none⟩ = some (.slice (some a) x.cs.length x.c1) ∧ (U4.setCell ⟨B + 4, 0, none⟩ (.slice (some ⟨g9, j9, none⟩) n9 cap9)).cell? ⟨Bt, 1, none⟩ = some (.slice x.A2 x.ns.length x.c2) ∧ (U4.setCell ⟨B + 4, 0, none⟩ (.slice (some ⟨g9, j9, none⟩) n9 cap9)).cell? ⟨Bt, 2, none⟩ = some (.string ⟨x.ec.toArray⟩) ∧ (U4.setCell ⟨B + 4, 0, none⟩ (.slice (some ⟨g9, j9, none⟩) n9 cap9)).cell? ⟨Bt, 3, none⟩ = some (.string ⟨x.en.toArray⟩) ∧ (U4.setCell ⟨B + 4, 0, none⟩ (.slice (some ⟨g9, j9, none⟩) n9 cap9)).cell? ⟨Bt, 4, none⟩ = some (.string ⟨x.ed.toArray⟩) ∧ (U4.setCell ⟨B + 4, 0, none⟩ (.slice (some ⟨g9, j9, none⟩) n9 cap9)).cell? ⟨Bt, 5, none⟩ = some (.map (some kb))) ∧ ((U4.setCell ⟨B + 4, 0, none⟩ (.slice (some ⟨g9, j9, none⟩) n9 cap9)).cell? (a.add (k * 7)) = some (.string ⟨c.nm.toArray⟩) ∧ (U4.setCell ⟨B + 4, 0, none⟩ (.slice (some ⟨g9, j9, none⟩) n9 cap9)).cell? ⟨(a.add (k * 7)).block, (a.add (k * 7)).off + 1, none⟩ = some (.string ⟨c.su.toArray⟩) ∧ (U4.setCell ⟨B + 4, 0, none⟩ (.slice (some ⟨g9, j9, none⟩) n9 cap9)).cell? ⟨(a.add (k * 7)).block, (a.add (k * 7)).off + 2, none⟩ = some (.bool c.fc) ∧ (U4.setCell ⟨B + 4, 0, none⟩ (.slice (some ⟨g9, j9, none⟩) n9 cap9)).cell? ⟨(a.add (k * 7)).block, (a.add (k * 7)).off + 3, none⟩ = some (.bool c.ab) ∧ (U4.setCell ⟨B + 4, 0, none⟩ (.slice (some ⟨g9, j9, none⟩) n9 cap9)).cell? ⟨(a.add (k * 7)).block, (a.add (k * 7)).off + 4, none⟩ = some (.slice c.A1 c.is.length c.c1) ∧ (U4.setCell ⟨B + 4, 0, none⟩ (.slice (some ⟨g9, j9, none⟩) n9 cap9)).cell? ⟨(a.add (k * 7)).block, (a.add (k * 7)).off + 5, none⟩ = some (.slice c.A2 c.fs.length c.c2) ∧ (U4.setCell ⟨B + 4, 0, none⟩ (.slice (some ⟨g9, j9, none⟩) n9 cap9)).cell? ⟨(a.add (k * 7)).block, (a.add (k * 7)).off + 6, none⟩ = some (.slice c.A3 c.ms.length c.c3)) from by
           have h := HT4.out
           have hk : ∀ p u, p.block < w.heap.size → U4.cell? p = some u → (U4.setCell ⟨B + 4, 0, none⟩ (.slice (some ⟨g9, j9, none⟩) n9 cap9)).cell? p = some u := fun p u hp hu => (World.cell?_of_block (set_far (by omega))).trans hu
           have hbt := blk_lt HH.out.tb
           have hbk : (a.add (k * 7)).block < w.heap.size := by rw [add_block]; exact HAB0.out
           exact ⟨⟨hk _ _ hbt h.1.1, hk _ _ hbt h.1.2.1, hk _ _ hbt h.1.2.2.1, hk _ _ hbt h.1.2.2.2.1, hk _ _ hbt h.1.2.2.2.2.1, hk _ _ hbt h.1.2.2.2.2.2⟩, hk _ _ hbk h.2.1, hk _ _ hbk h.2.2.1, hk _ _ hbk h.2.2.2.1, hk _ _ hbk h.2.2.2.2.1, hk _ _ hbk h.2.2.2.2.2.1, hk _ _ hbk h.2.2.2.2.2.2.1, hk _ _ hbk h.2.2.2.2.2.2.2⟩)
          clear hv3 hct3 ho4 hgc4 hgr4 hpush hv4
          refine hK.out _ _ HT4.out (fun hHeld => ?_)
          clear hK K
          try simp only [puts]
          refine rdy 12 rfl (fun K hK => ?_)
          go_simp
          refine hK.out _ _ HT5.out (fun hHeld => ?_)
          clear hK K
          try simp only [puts]
          refine wpAnyH_done (by kernel_rfl) ?_ _
          exact HFI.out
         ·skip
          go_simp
          refine (above_w c U1).mono ?_
          rintro e U2 ⟨rfl, hu2⟩
          have hb2 : Below U1.heap.size U1 U2 := by rw [hu2]; exact (Below.refl _ _).alloc (Nat.le_refl _) _
          have HCL := zh (show U2.heap[U1.heap.size]? = some (.cells (clC c).toArray 43 (0, 0)) from by rw [hu2]; exact heap_alloc_new U1 _)
          have hn1 := HA1.out.2.2.size
          have HB2' := zh hb2
          have HT2 := zh (show (U2.cell? ⟨Bt, 0, none⟩ = some (.slice (some a) x.cs.length x.c1) ∧ U2.cell? ⟨Bt, 1, none⟩ = some (.slice x.A2 x.ns.length x.c2) ∧ U2.cell? ⟨Bt, 2, none⟩ = some (.string ⟨x.ec.toArray⟩) ∧ U2.cell? ⟨Bt, 3, none⟩ = some (.string ⟨x.en.toArray⟩) ∧ U2.cell? ⟨Bt, 4, none⟩ = some (.string ⟨x.ed.toArray⟩) ∧ U2.cell? ⟨Bt, 5, none⟩ = some (.map (some kb))) ∧ (U2.cell? (a.add (k * 7)) = some (.string ⟨c.nm.toArray⟩) ∧ U2.cell? ⟨(a.add (k * 7)).block, (a.add (k * 7)).off + 1, none⟩ = some (.string ⟨c.su.toArray⟩) ∧ U2.cell? ⟨(a.add (k * 7)).block, (a.add (k * 7)).off + 2, none⟩ = some (.bool c.fc) ∧ U2.cell? ⟨(a.add (k * 7)).block, (a.add (k * 7)).off + 3, none⟩ = some (.bool c.ab) ∧ U2.cell? ⟨(a.add (k * 7)).block, (a.add (k * 7)).off + 4, none⟩ = some (.slice c.A1 c.is.length c.c1) ∧ U2.cell? ⟨(a.add (k * 7)).block, (a.add (k * 7)).off + 5, none⟩ = some (.slice c.A2 c.fs.length c.c2) ∧ U2.cell? ⟨(a.add (k * 7)).block, (a.add (k * 7)).off + 6, none⟩ = some (.slice c.A3 c.ms.length c.c3)) from by
           have h := HT1.out
           have hk : ∀ p u, U1.cell? p = some u → U2.cell? p = some u := fun p u hp => (hb2.cell (World.block_lt_of_cell? _ _ hp)).trans hp
           exact ⟨⟨hk _ _ h.1.1, hk _ _ h.1.2.1, hk _ _ h.1.2.2.1, hk _ _ h.1.2.2.2.1, hk _ _ h.1.2.2.2.2.1, hk _ _ h.1.2.2.2.2.2⟩, hk _ _ h.2.1, hk _ _ h.2.2.1, hk _ _ h.2.2.2.1, hk _ _ h.2.2.2.2.1, hk _ _ h.2.2.2.2.2.1, hk _ _ h.2.2.2.2.2.2.1, hk _ _ h.2.2.2.2.2.2.2⟩)
          have HA2 := zh (HA1.out.below HJ.out hkb hb2)
          have HV2 := zh ((hb2.block _ (blk_lt HV1.out)).trans HV1.out)
          have HC2 := zh (show U2.cell? ⟨B + 4, 0, none⟩ = some v from cell_of_row _ _ 0 _ _ _ HV2.out)
          have HSV2 := zh (HSV1.out.trans (Stp.below hb2 hn1 hkb (blk_lt HLD1.out.1.choose_spec)))
          have HLD2 := zh (show (∃ r, U2.heap[T + 1]? = some (.loop r)) ∧ U2.heap[T]? = some (.deferred (some [])) from ⟨by obtain ⟨r, hr⟩ := HLD1.out.1; exact ⟨r, (hb2.block _ (blk_lt hr)).trans hr⟩, (hb2.block _ (blk_lt HLD1.out.2)).trans HLD1.out.2⟩)
          have HU1 := zh (show B ≤ U1.heap.size ∧ U1.heap.size < U2.heap.size from ⟨by have := blk_lt HV1.out; omega, blk_lt HCL.out⟩)
          clear hu2 hb2 hn1
          go_wp2_with fail
          refine hK.out _ _ HT2.out (fun hHeld => ?_)
          clear hK K
          try simp only [puts]
          refine wpAnyH_ready (rs := [0, 10]) (by kernel_rfl) (by simp) (AllReadyH.cons rfl (fun K hK => ?_) (AllReadyH.cons rfl (fun K hK => ?_) AllReadyH.nil))
          ·skip
           have hc0 := HC2.out
           go_simp
           refine hK.out _ _ HT2.out (fun hHeld => ?_)
           clear hK K hc0
           try simp only [puts]
           refine rdy 10 rfl (fun K hK => ?_)
           go_simp
           obtain ⟨U3, hu3⟩ : ∃ U3, U3 = U2.alloc (.cells #[.func (.func 182) #[] #[.pointer (some ⟨U1.heap.size, 0, none⟩)]] 101) := ⟨_, rfl⟩
           rw [← hu3]
           have hb3 : Below U2.heap.size U2 U3 := by rw [hu3]; exact (Below.refl _ _).alloc (Nat.le_refl _) _
           have HNW := zh (show U3.cell? ⟨U2.heap.size, 0, none⟩ = some (.func (.func 182) #[] #[.pointer (some ⟨U1.heap.size, 0, none⟩)]) from by rw [hu3]; exact cell_of_row _ _ 0 _ _ _ (heap_alloc_new U2 _))
           have HT3 := zh (show (U3.cell? ⟨Bt, 0, none⟩ = some (.slice (some a) x.cs.length x.c1) ∧ U3.cell? ⟨Bt, 1, none⟩ = some (.slice x.A2 x.ns.length x.c2) ∧ U3.cell? ⟨Bt, 2, none⟩ = some (.string ⟨x.ec.toArray⟩) ∧ U3.cell? ⟨Bt, 3, none⟩ = some (.string ⟨x.en.toArray⟩) ∧ U3.cell? ⟨Bt, 4, none⟩ = some (.string ⟨x.ed.toArray⟩) ∧ U3.cell? ⟨Bt, 5, none⟩ = some (.map (some kb))) ∧ (U3.cell? (a.add (k * 7)) = some (.string ⟨c.nm.toArray⟩) ∧ U3.cell? ⟨(a.add (k * 7)).block, (a.add (k * 7)).off + 1, none⟩ = some (.string ⟨c.su.toArray⟩) ∧ U3.cell? ⟨(a.add (k * 7)).block, (a.add (k * 7)).off + 2, none⟩ = some (.bool c.fc) ∧ U3.cell? ⟨(a.add (k * 7)).block, (a.add (k * 7)).off + 3, none⟩ = some (.bool c.ab) ∧ U3.cell? ⟨(a.add (k * 7)).block, (a.add (k * 7)).off + 4, none⟩ = some (.slice c.A1 c.is.length c.c1) ∧ U3.cell? ⟨(a.add (k * 7)).block, (a.add (k * 7)).off + 5, none⟩ = some (.slice c.A2 c.fs.length c.c2) ∧ U3.cell? ⟨(a.add (k * 7)).block, (a.add (k * 7)).off + 6, none⟩ = some (.slice c.A3 c.ms.length c.c3)) from by
            have h := HT2.out
            have hk : ∀ p u, U2.cell? p = some u → U3.cell? p = some u := fun p u hp => (hb3.cell (World.block_lt_of_cell? _ _ hp)).trans hp
            exact ⟨⟨hk _ _ h.1.1, hk _ _ h.1.2.1, hk _ _ h.1.2.2.1, hk _ _ h.1.2.2.2.1, hk _ _ h.1.2.2.2.2.1, hk _ _ h.1.2.2.2.2.2⟩, hk _ _ h.2.1, hk _ _ h.2.2.1, hk _ _ h.2.2.2.1, hk _ _ h.2.2.2.2.1, hk _ _ h.2.2.2.2.2.1, hk _ _ h.2.2.2.2.2.2.1, hk _ _ h.2.2.2.2.2.2.2⟩)
           have HA3 := zh (HA2.out.below HJ.out hkb hb3)
           have HV3 := zh ((hb3.block _ (blk_lt HV2.out)).trans HV2.out)
           have HC3 := zh (show U3.cell? ⟨B + 4, 0, none⟩ = some v from cell_of_row _ _ 0 _ _ _ HV3.out)
           have HSV3 := zh (HSV2.out.trans (Stp.below hb3 HA2.out.2.2.size hkb (blk_lt HLD2.out.1.choose_spec)))
           have HLD3 := zh (show (∃ r, U3.heap[T + 1]? = some (.loop r)) ∧ U3.heap[T]? = some (.deferred (some [])) from ⟨by obtain ⟨r, hr⟩ := HLD2.out.1; exact ⟨r, (hb3.block _ (blk_lt hr)).trans hr⟩, (hb3.block _ (blk_lt HLD2.out.2)).trans HLD2.out.2⟩)
           have HSO := zh (show SrcOk x.cs B U3 (.cls U1.heap.size c) from ⟨HU1.out.1, (hb3.block _ HU1.out.2).trans HCL.out, HCM.out⟩)
           clear hu3 hb3
           refine hK.out _ _ HT3.out (fun hHeld => ?_)
           clear hK K
           try simp only [puts]
           refine rdy 11 rfl (fun K hK => ?_)
           obtain ⟨v3, hv3, hct3⟩ := HA3.out.1.1.2.2.1
           obtain rfl : v = v3 := by
            have := HV3.out.symm.trans hv3
            simpa using this
           refine step_cut U3 rfl _ _ rfl (B + 3) v (opn'.map (srcV gN lbN)) rfl hct3 U2.heap.size _ rfl HNW.out rfl (by rw [List.length_map]; exact hol2) (by have := blk_lt HV3.out; omega) ?_
           intro v' U4 g4 cur4 ho4 hg4 hgc4 hgr4
           obtain ⟨g9, j9, cap9, cur9, ev9, -⟩ := id ho4
           obtain ⟨n9, hn9⟩ : ∃ n9, n9 = (opn'.map (srcV gN lbN) ++ [Value.func (.func 182) #[] #[.pointer (some ⟨U1.heap.size, 0, none⟩)]]).length := ⟨_, rfl⟩
           rw [← hn9] at ev9
           clear hn9
           subst ev9
           have hpush := up_push (s := .cls U1.heap.size c) HA3.out HJ.out hkb hn0 HV3.out (by rw [List.map_append]; exact ho4) hgr4 hg4 hgc4 HSO.out (by omega) HLD3.out.1 HLD3.out.2
           have hv4 : U4.heap[B + 4]? = some (.cells #[v] 219 (0, 0)) := (hgr4.block _ (blk_lt HV3.out) (fun e => by cases e; rw [HV3.out] at hgc4; cases hgc4)).trans HV3.out
           have hcc4 : U4.cell? ⟨B + 4, 0, none⟩ = some v := cell_of_row _ _ 0 _ _ _ hv4
           have hff4 : U4.frozen? ⟨B + 4, 0, none⟩ = false := frozen_of_row _ (B + 4) 0 _ _ hv4
           have HSX := zh hpush.2.ki.bel
           have HFI := zh (HFIN.out (met' ++ [y]) (opn' ++ [.cls U1.heap.size c]) (U4.setCell ⟨B + 4, 0, none⟩ (.slice (some ⟨g9, j9, none⟩) n9 cap9)) (by
            have := HTK.out
            rw [this]
            simp only [List.map_append, List.map_cons, List.map_nil, srcN]) ⟨HMI2.out.1, by simpa using HMI2.out.2⟩ hpush.1 (HSV3.out.trans hpush.2))
           have HT4 := zh (show (U4.cell? ⟨Bt, 0, none⟩ = some (.slice (some a) x.cs.length x.c1) ∧ U4.cell? ⟨Bt, 1, none⟩ = some (.slice x.A2 x.ns.length x.c2) ∧ U4.cell? ⟨Bt, 2, none⟩ = some (.string ⟨x.ec.toArray⟩) ∧ U4.cell? ⟨Bt, 3, none⟩ = some (.string ⟨x.en.toArray⟩) ∧ U4.cell? ⟨Bt, 4, none⟩ = some (.string ⟨x.ed.toArray⟩) ∧ U4.cell? ⟨Bt, 5, none⟩ = some (.map (some kb))) ∧ (U4.cell? (a.add (k * 7)) = some (.string ⟨c.nm.toArray⟩) ∧ U4.cell? ⟨(a.add (k * 7)).block, (a.add (k * 7)).off + 1, none⟩ = some (.string ⟨c.su.toArray⟩) ∧ U4.cell? ⟨(a.add (k * 7)).block, (a.add (k * 7)).off + 2, none⟩ = some (.bool c.fc) ∧ U4.cell? ⟨(a.add (k * 7)).block, (a.add (k * 7)).off + 3, none⟩ = some (.bool c.ab) ∧ U4.cell? ⟨(a.add (k * 7)).block, (a.add (k * 7)).off + 4, none⟩ = some (.slice c.A1 c.is.length c.c1) ∧ U4.cell? ⟨(a.add (k * 7)).block, (a.add (k * 7)).off + 5, none⟩ = some (.slice c.A2 c.fs.length c.c2) ∧ U4.cell? ⟨(a.add (k * 7)).block, (a.add (k * 7)).off + 6, none⟩ = some (.slice c.A3 c.ms.length c.c3)) from by
            have h := HT3.out
            have hk : ∀ p u, p.block < w.heap.size → U3.cell? p = some u → U4.cell? p = some u := fun p u hp hu => (World.cell?_of_block (hgr4.block _ (World.block_lt_of_cell? _ _ hu) (fun e => by cases e; omega))).trans hu
            have hbt := blk_lt HH.out.tb
            have hbk : (a.add (k * 7)).block < w.heap.size := by rw [add_block]; exact HAB0.out
            exact ⟨⟨hk _ _ hbt h.1.1, hk _ _ hbt h.1.2.1, hk _ _ hbt h.1.2.2.1, hk _ _ hbt h.1.2.2.2.1, hk _ _ hbt h.1.2.2.2.2.1, hk _ _ hbt h.1.2.2.2.2.2⟩, hk _ _ hbk h.2.1, hk _ _ hbk h.2.2.1, hk _ _ hbk h.2.2.2.1, hk _ _ hbk h.2.2.2.2.1, hk _ _ hbk h.2.2.2.2.2.1, hk _ _ hbk h.2.2.2.2.2.2.1, hk _ _ hbk h.2.2.2.2.2.2.2⟩)
           have HT5 := zh (show ((U4.setCell ⟨B + 4, 0, none⟩ (.slice (some ⟨g9, j9, none⟩) n9 cap9)).cell? ⟨Bt, 0, none⟩ = some (.slice (some a) x.cs.length x.c1) ∧ (U4.setCell ⟨B + 4, 0, none⟩ (.slice (some ⟨g9, j9, none⟩) n9 cap9)).cell? ⟨Bt, 1, none⟩ = some (.slice x.A2 x.ns.length x.c2) ∧ (U4.setCell ⟨B + 4, 0, none⟩ (.slice (some ⟨g9, j9, none⟩) n9 cap9)).cell? ⟨Bt, 2, none⟩ = some (.string ⟨x.ec.toArray⟩) ∧ (U4.setCell ⟨B + 4, 0, none⟩ (.slice (some ⟨g9, j9, none⟩) n9 cap9)).cell? ⟨Bt, 3, none⟩ = some (.string ⟨x.en.toArray⟩) ∧ (U4.setCell ⟨B + 4, 0, none⟩ (.slice (some ⟨g9, j9, none⟩) n9 cap9)).cell? ⟨Bt, 4, none⟩ = some (.string ⟨x.ed.toArray⟩) ∧ (U4.setCell ⟨B + 4, 0, none⟩ (.slice (some ⟨g9, j9, none⟩) n9 cap9)).cell? ⟨Bt, 5, none⟩ = some (.map (some kb))) ∧ ((U4.setCell ⟨B + 4, 0, none⟩ (.slice (some ⟨g9, j9, none⟩) n9 cap9)).cell? (a.add (k * 7)) = some (.string ⟨c.nm.toArray⟩) ∧ (U4.setCell ⟨B + 4, 0, none⟩ (.slice (some ⟨g9, j9, none⟩) n9 cap9)).cell? ⟨(a.add (k * 7)).block, (a.add (k * 7)).off + 1, none⟩ = some (.string ⟨c.su.toArray⟩) ∧ (U4.setCell ⟨B + 4, 0, none⟩ (.slice (some ⟨g9, j9, none⟩) n9 cap9)).cell? ⟨(a.add (k * 7)).block, (a.add (k * 7)).off + 2, none⟩ = some (.bool c.fc) ∧ (U4.setCell ⟨B + 4, 0, none⟩ (.slice (some ⟨g9, j9, none⟩) n9 cap9)).cell? ⟨(a.add (k * 7)).block, (a.add (k * 7)).off + 3, none⟩ = some (.bool c.ab) ∧ (U4.setCell ⟨B + 4, 0, none⟩ (.slice (some ⟨g9, j9, none⟩) n9 cap9)).cell? ⟨(a.add (k * 7)).block, (a.add (k * 7)).off + 4, none⟩ = some (.slice c.A1 c.is.length c.c1) ∧ (U4.setCell ⟨B + 4, 0, none⟩ (.slice (some ⟨g9, j9, none⟩) n9 cap9)).cell? ⟨(a.add (k * 7)).block, (a.add (k * 7)).off + 5, none⟩ = some (.slice c.A2 c.fs.length c.c2) ∧ (U4.setCell ⟨B + 4, 0, none⟩ (.slice (some ⟨g9, j9, none⟩) n9 cap9)).cell? ⟨(a.add (k * 7)).block, (a.add (k * 7)).off + 6, none⟩ = some (.slice c.A3 c.ms.length c.c3)) from by
            have h := HT4.out
            have hk : ∀ p u, p.block < w.heap.size → U4.cell? p = some u → (U4.setCell ⟨B + 4, 0, none⟩ (.slice (some ⟨g9, j9, none⟩) n9 cap9)).cell? p = some u := fun p u hp hu => (World.cell?_of_block (set_far (by omega))).trans hu
            have hbt := blk_lt HH.out.tb
            have hbk : (a.add (k * 7)).block < w.heap.size := by rw [add_block]; exact HAB0.out
            exact ⟨⟨hk _ _ hbt h.1.1, hk _ _ hbt h.1.2.1, hk _ _ hbt h.1.2.2.1, hk _ _ hbt h.1.2.2.2.1, hk _ _ hbt h.1.2.2.2.2.1, hk _ _ hbt h.1.2.2.2.2.2⟩, hk _ _ hbk h.2.1, hk _ _ hbk h.2.2.1, hk _ _ hbk h.2.2.2.1, hk _ _ hbk h.2.2.2.2.1, hk _ _ hbk h.2.2.2.2.2.1, hk _ _ hbk h.2.2.2.2.2.2.1, hk _ _ hbk h.2.2.2.2.2.2.2⟩)
           clear hv3 hct3 ho4 hgc4 hgr4 hpush hv4
           refine hK.out _ _ HT4.out (fun hHeld => ?_)
           clear hK K
           try simp only [puts]
           refine rdy 12 rfl (fun K hK => ?_)
           go_simp
           refine hK.out _ _ HT5.out (fun hHeld => ?_)
           clear hK K
           try simp only [puts]
           refine wpAnyH_done (by kernel_rfl) ?_ _
           exact HFI.out
          ·skip
           go_simp
           obtain ⟨U3, hu3⟩ : ∃ U3, U3 = U2.alloc (.cells #[.func (.func 182) #[] #[.pointer (some ⟨U1.heap.size, 0, none⟩)]] 101) := ⟨_, rfl⟩
           rw [← hu3]
           have hb3 : Below U2.heap.size U2 U3 := by rw [hu3]; exact (Below.refl _ _).alloc (Nat.le_refl _) _
           have HNW := zh (show U3.cell? ⟨U2.heap.size, 0, none⟩ = some (.func (.func 182) #[] #[.pointer (some ⟨U1.heap.size, 0, none⟩)]) from by rw [hu3]; exact cell_of_row _ _ 0 _ _ _ (heap_alloc_new U2 _))
           have HT3 := zh (show (U3.cell? ⟨Bt, 0, none⟩ = some (.slice (some a) x.cs.length x.c1) ∧ U3.cell? ⟨Bt, 1, none⟩ = some (.slice x.A2 x.ns.length x.c2) ∧ U3.cell? ⟨Bt, 2, none⟩ = some (.string ⟨x.ec.toArray⟩) ∧ U3.cell? ⟨Bt, 3, none⟩ = some (.string ⟨x.en.toArray⟩) ∧ U3.cell? ⟨Bt, 4, none⟩ = some (.string ⟨x.ed.toArray⟩) ∧ U3.cell? ⟨Bt, 5, none⟩ = some (.map (some kb))) ∧ (U3.cell? (a.add (k * 7)) = some (.string ⟨c.nm.toArray⟩) ∧ U3.cell? ⟨(a.add (k * 7)).block, (a.add (k * 7)).off + 1, none⟩ = some (.string ⟨c.su.toArray⟩) ∧ U3.cell? ⟨(a.add (k * 7)).block, (a.add (k * 7)).off + 2, none⟩ = some (.bool c.fc) ∧ U3.cell? ⟨(a.add (k * 7)).block, (a.add (k * 7)).off + 3, none⟩ = some (.bool c.ab) ∧ U3.cell? ⟨(a.add (k * 7)).block, (a.add (k * 7)).off + 4, none⟩ = some (.slice c.A1 c.is.length c.c1) ∧ U3.cell? ⟨(a.add (k * 7)).block, (a.add (k * 7)).off + 5, none⟩ = some (.slice c.A2 c.fs.length c.c2) ∧ U3.cell? ⟨(a.add (k * 7)).block, (a.add (k * 7)).off + 6, none⟩ = some (.slice c.A3 c.ms.length c.c3)) from by
            have h := HT2.out
            have hk : ∀ p u, U2.cell? p = some u → U3.cell? p = some u := fun p u hp => (hb3.cell (World.block_lt_of_cell? _ _ hp)).trans hp
            exact ⟨⟨hk _ _ h.1.1, hk _ _ h.1.2.1, hk _ _ h.1.2.2.1, hk _ _ h.1.2.2.2.1, hk _ _ h.1.2.2.2.2.1, hk _ _ h.1.2.2.2.2.2⟩, hk _ _ h.2.1, hk _ _ h.2.2.1, hk _ _ h.2.2.2.1, hk _ _ h.2.2.2.2.1, hk _ _ h.2.2.2.2.2.1, hk _ _ h.2.2.2.2.2.2.1, hk _ _ h.2.2.2.2.2.2.2⟩)
           have HA3 := zh (HA2.out.below HJ.out hkb hb3)
           have HV3 := zh ((hb3.block _ (blk_lt HV2.out)).trans HV2.out)
           have HC3 := zh (show U3.cell? ⟨B + 4, 0, none⟩ = some v from cell_of_row _ _ 0 _ _ _ HV3.out)
           have HSV3 := zh (HSV2.out.trans (Stp.below hb3 HA2.out.2.2.size hkb (blk_lt HLD2.out.1.choose_spec)))
           have HLD3 := zh (show (∃ r, U3.heap[T + 1]? = some (.loop r)) ∧ U3.heap[T]? = some (.deferred (some [])) from ⟨by obtain ⟨r, hr⟩ := HLD2.out.1; exact ⟨r, (hb3.block _ (blk_lt hr)).trans hr⟩, (hb3.block _ (blk_lt HLD2.out.2)).trans HLD2.out.2⟩)
           have HSO := zh (show SrcOk x.cs B U3 (.cls U1.heap.size c) from ⟨HU1.out.1, (hb3.block _ HU1.out.2).trans HCL.out, HCM.out⟩)
           clear hu3 hb3
           refine hK.out _ _ HT3.out (fun hHeld => ?_)
           clear hK K
           try simp only [puts]
           refine rdy 0 rfl (fun K hK => ?_)
           have hc0 := HC3.out
           go_simp
           refine hK.out _ _ HT3.out (fun hHeld => ?_)
           clear hK K hc0
           try simp only [puts]
           refine rdy 11 rfl (fun K hK => ?_)
           obtain ⟨v3, hv3, hct3⟩ := HA3.out.1.1.2.2.1
           obtain rfl : v = v3 := by
            have := HV3.out.symm.trans hv3
            simpa using this
           refine step_cut U3 rfl _ _ rfl (B + 3) v (opn'.map (srcV gN lbN)) rfl hct3 U2.heap.size _ rfl HNW.out rfl (by rw [List.length_map]; exact hol2) (by have := blk_lt HV3.out; omega) ?_
           intro v' U4 g4 cur4 ho4 hg4 hgc4 hgr4
           obtain ⟨g9, j9, cap9, cur9, ev9, -⟩ := id ho4
           obtain ⟨n9, hn9⟩ : ∃ n9, n9 = (opn'.map (srcV gN lbN) ++ [Value.func (.func 182) #[] #[.pointer (some ⟨U1.heap.size, 0, none⟩)]]).length := ⟨_, rfl⟩
           rw [← hn9] at ev9
           clear hn9
           subst ev9
           have hpush := up_push (s := .cls U1.heap.size c) HA3.out HJ.out hkb hn0 HV3.out (by rw [List.map_append]; exact ho4) hgr4 hg4 hgc4 HSO.out (by omega) HLD3.out.1 HLD3.out.2
           have hv4 : U4.heap[B + 4]? = some (.cells #[v] 219 (0, 0)) := (hgr4.block _ (blk_lt HV3.out) (fun e => by cases e; rw [HV3.out] at hgc4; cases hgc4)).trans HV3.out
           have hcc4 : U4.cell? ⟨B + 4, 0, none⟩ = some v := cell_of_row _ _ 0 _ _ _ hv4
           have hff4 : U4.frozen? ⟨B + 4, 0, none⟩ = false := frozen_of_row _ (B + 4) 0 _ _ hv4
           have HSX := zh hpush.2.ki.bel
           have HFI := zh (HFIN.out (met' ++ [y]) (opn' ++ [.cls U1.heap.size c]) (U4.setCell ⟨B + 4, 0, none⟩ (.slice (some ⟨g9, j9, none⟩) n9 cap9)) (by
            have := HTK.out
            rw [this]
            simp only [List.map_append, List.map_cons, List.map_nil, srcN]) ⟨HMI2.out.1, by simpa using HMI2.out.2⟩ hpush.1 (HSV3.out.trans hpush.2))
           have HT4 := zh (show (U4.cell? ⟨Bt, 0, none⟩ = some (.slice (some a) x.cs.length x.c1) ∧ U4.cell? ⟨Bt, 1, none⟩ = some (.slice x.A2 x.ns.length x.c2) ∧ U4.cell? ⟨Bt, 2, none⟩ = some (.string ⟨x.ec.toArray⟩) ∧ U4.cell? ⟨Bt, 3, none⟩ = some (.string ⟨x.en.toArray⟩) ∧ U4.cell? ⟨Bt, 4, none⟩ = some (.string ⟨x.ed.toArray⟩) ∧ U4.cell? ⟨Bt, 5, none⟩ = some (.map (some kb))) ∧ (U4.cell? (a.add (k * 7)) = some (.string ⟨c.nm.toArray⟩) ∧ U4.cell? ⟨(a.add (k * 7)).block, (a.add (k * 7)).off + 1, none⟩ = some (.string ⟨c.su.toArray⟩) ∧ U4.cell? ⟨(a.add (k * 7)).block, (a.add (k * 7)).off + 2, none⟩ = some (.bool c.fc) ∧ U4.cell? ⟨(a.add (k * 7)).block, (a.add (k * 7)).off + 3, none⟩ = some (.bool c.ab) ∧ U4.cell? ⟨(a.add (k * 7)).block, (a.add (k * 7)).off + 4, none⟩ = some (.slice c.A1 c.is.length c.c1) ∧ U4.cell? ⟨(a.add (k * 7)).block, (a.add (k * 7)).off + 5, none⟩ = some (.slice c.A2 c.fs.length c.c2) ∧ U4.cell? ⟨(a.add (k * 7)).block, (a.add (k * 7)).off + 6, none⟩ = some (.slice c.A3 c.ms.length c.c3)) from by
            have h := HT3.out
            have hk : ∀ p u, p.block < w.heap.size → U3.cell? p = some u → U4.cell? p = some u := fun p u hp hu => (World.cell?_of_block (hgr4.block _ (World.block_lt_of_cell? _ _ hu) (fun e => by cases e; omega))).trans hu
            have hbt := blk_lt HH.out.tb
            have hbk : (a.add (k * 7)).block < w.heap.size := by rw [add_block]; exact HAB0.out
            exact ⟨⟨hk _ _ hbt h.1.1, hk _ _ hbt h.1.2.1, hk _ _ hbt h.1.2.2.1, hk _ _ hbt h.1.2.2.2.1, hk _ _ hbt h.1.2.2.2.2.1, hk _ _ hbt h.1.2.2.2.2.2⟩, hk _ _ hbk h.2.1, hk _ _ hbk h.2.2.1, hk _ _ hbk h.2.2.2.1, hk _ _ hbk h.2.2.2.2.1, hk _ _ hbk h.2.2.2.2.2.1, hk _ _ hbk h.2.2.2.2.2.2.1, hk _ _ hbk h.2.2.2.2.2.2.2⟩)
           have HT5 := zh (show ((U4.setCell ⟨B + 4, 0, none⟩ (.slice (some ⟨g9, j9, none⟩) n9 cap9)).cell? ⟨Bt, 0, none⟩ = some (.slice (some a) x.cs.length x.c1) ∧ (U4.setCell ⟨B + 4, 0, none⟩ (.slice (some ⟨g9, j9, none⟩) n9 cap9)).cell? ⟨Bt, 1, none⟩ = some (.slice x.A2 x.ns.length x.c2) ∧ (U4.setCell ⟨B + 4, 0, none⟩ (.slice (some ⟨g9, j9, none⟩) n9 cap9)).cell? ⟨Bt, 2, none⟩ = some (.string ⟨x.ec.toArray⟩) ∧ (U4.setCell ⟨B + 4, 0, none⟩ (.slice (some ⟨g9, j9, none⟩) n9 cap9)).cell? ⟨Bt, 3, none⟩ = some (.string ⟨x.en.toArray⟩) ∧ (U4.setCell ⟨B + 4, 0, none⟩ (.slice (some ⟨g9, j9, none⟩) n9 cap9)).cell? ⟨Bt, 4, none⟩ = some (.string ⟨x.ed.toArray⟩) ∧ (U4.setCell ⟨B + 4, 0, none⟩ (.slice (some ⟨g9, j9, none⟩) n9 cap9)).cell? ⟨Bt, 5, none⟩ = some (.map (some kb))) ∧ ((U4.setCell ⟨B + 4, 0, none⟩ (.slice (some ⟨g9, j9, none⟩) n9 cap9)).cell? (a.add (k * 7)) = some (.string ⟨c.nm.toArray⟩) ∧ (U4.setCell ⟨B + 4, 0, none⟩ (.slice (some ⟨g9, j9, none⟩) n9 cap9)).cell? ⟨(a.add (k * 7)).block, (a.add (k * 7)).off + 1, none⟩ = some (.string ⟨c.su.toArray⟩) ∧ (U4.setCell ⟨B + 4, 0, none⟩ (.slice (some ⟨g9, j9, none⟩) n9 cap9)).cell? ⟨(a.add (k * 7)).block, (a.add (k * 7)).off + 2, none⟩ = some (.bool c.fc) ∧ (U4.setCell ⟨B + 4, 0, none⟩ (.slice (some ⟨g9, j9, none⟩) n9 cap9)).cell? ⟨(a.add (k * 7)).block, (a.add (k * 7)).off + 3, none⟩ = some (.bool c.ab) ∧ (U4.setCell ⟨B + 4, 0, none⟩ (.slice (some ⟨g9, j9, none⟩) n9 cap9)).cell? ⟨(a.add (k * 7)).block, (a.add (k * 7)).off + 4, none⟩ = some (.slice c.A1 c.is.length c.c1) ∧ (U4.setCell ⟨B + 4, 0, none⟩ (.slice (some ⟨g9, j9, none⟩) n9 cap9)).cell? ⟨(a.add (k * 7)).block, (a.add (k * 7)).off + 5, none⟩ = some (.slice c.A2 c.fs.length c.c2) ∧ (U4.setCell ⟨B + 4, 0, none⟩ (.slice (some ⟨g9, j9, none⟩) n9 cap9)).cell? ⟨(a.add (k * 7)).block, (a.add (k * 7)).off + 6, none⟩ = some (.slice c.A3 c.ms.length c.c3)) from by
            have h := HT4.out
            have hk : ∀ p u, p.block < w.heap.size → U4.cell? p = some u → (U4.setCell ⟨B + 4, 0, none⟩ (.slice (some ⟨g9, j9, none⟩) n9 cap9)).cell? p = some u := fun p u hp hu => (World.cell?_of_block (set_far (by omega))).trans hu
            have hbt := blk_lt HH.out.tb
            have hbk : (a.add (k * 7)).block < w.heap.size := by rw [add_block]; exact HAB0.out
            exact ⟨⟨hk _ _ hbt h.1.1, hk _ _ hbt h.1.2.1, hk _ _ hbt h.1.2.2.1, hk _ _ hbt h.1.2.2.2.1, hk _ _ hbt h.1.2.2.2.2.1, hk _ _ hbt h.1.2.2.2.2.2⟩, hk _ _ hbk h.2.1, hk _ _ hbk h.2.2.1, hk _ _ hbk h.2.2.2.1, hk _ _ hbk h.2.2.2.2.1, hk _ _ hbk h.2.2.2.2.2.1, hk _ _ hbk h.2.2.2.2.2.2.1, hk _ _ hbk h.2.2.2.2.2.2.2⟩)
           clear hv3 hct3 ho4 hgc4 hgr4 hpush hv4
           refine hK.out _ _ HT4.out (fun hHeld => ?_)
           clear hK K
           try simp only [puts]
           refine rdy 12 rfl (fun K hK => ?_)
           go_simp
           refine hK.out _ _ HT5.out (fun hHeld => ?_)
           clear hK K
           try simp only [puts]
           refine wpAnyH_done (by kernel_rfl) ?_ _
           exact HFI.out
end Go.Proofs.Ytdifmgeicnndfaa.prg

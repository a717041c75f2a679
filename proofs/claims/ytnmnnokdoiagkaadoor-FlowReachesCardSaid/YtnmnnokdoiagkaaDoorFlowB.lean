/-
 Layer 14: from where it may come to a place; functions that hold a range over a function within a loop: the program's answers.
-/
import Derived.Test.YtnmnnokdoiagkaaDoorFlowN
namespace Go.Proofs.YtnmnnokdoiagkaaDoor.flow
open Go.RowKit Go.Shelf
open words kindp opp op prg flowp
attribute [local go_sem] Oper.semAt_some

/-- the marks that ranges over functions have left, one a round -/
def marksD (Ds : List Nat) : List Deferred := Ds.map fun D => { target := .collected D, args := #[] }
def Marks (b t : Nat) (Ds : List Nat) (W : World) : Prop := Ds.Nodup ∧ ∀ D ∈ Ds, b ≤ D ∧ D < t ∧ W.heap[D]? = some (.deferred (some []))
theorem Marks.nil (b t : Nat) (W : World) : Marks b t [] W := ⟨List.nodup_nil, fun _ h => by cases h⟩
theorem Marks.up {b t t' : Nat} {Ds : List Nat} {W : World} (h : Marks b t Ds W) (ht : t ≤ t') : Marks b t' Ds W := ⟨h.1, fun D hD => ⟨(h.2 D hD).1, Nat.lt_of_lt_of_le (h.2 D hD).2.1 ht, (h.2 D hD).2.2⟩⟩
theorem marks_own {β : Type} (b t : Nat) (Ds : List Nat) : OwnFrom t (fun (_ : β) W => Marks b t Ds W) := fun _ _ _ _ hs hg hr =>
 ⟨hs.1, fun D hD => by
  obtain ⟨h1, h2, h3⟩ := hs.2 D hD
  exact ⟨h1, h2, (hg.block D (Array.getElem?_eq_some_iff.1 h3).1 (fun e => by have := (hr D e.symm).1; omega)).trans h3⟩⟩
theorem Marks.others {b t : Nat} {Ds : List Nat} {W W' : World} (h : Marks b t Ds W) (hk : KeepsOthers W W') : Marks b t Ds W' := ⟨h.1, fun D hD => ⟨(h.2 D hD).1, (h.2 D hD).2.1, hk.same D _ (h.2 D hD).2.2 rfl⟩⟩
theorem Marks.below {b t : Nat} {Ds : List Nat} {W W' : World} (h : Marks b t Ds W) (hk : Below W.heap.size W W') : Marks b t Ds W' := ⟨h.1, fun D hD => ⟨(h.2 D hD).1, (h.2 D hD).2.1, (hk.block D (Array.getElem?_eq_some_iff.1 (h.2 D hD).2.2).1).trans (h.2 D hD).2.2⟩⟩
theorem Marks.cons {b t t' D : Nat} {Ds : List Nat} {W : World} (h : Marks b t Ds W) (h1 : b ≤ D) (h2 : t ≤ D) (h3 : D < t') (h4 : W.heap[D]? = some (.deferred (some []))) : Marks b t' (D :: Ds) W :=
 ⟨List.nodup_cons.2 ⟨fun hm => by have := (h.2 D hm).2.1; omega, h.1⟩, fun E hE => by
  rcases List.mem_cons.1 hE with rfl | hE
  ·exact ⟨h1, h3, h4⟩
  ·obtain ⟨g1, g2, g3⟩ := h.2 E hE
   exact ⟨g1, by omega, g3⟩⟩
/-- a function leaves through all its marks -/
theorem leaves_marks {F : Fence} {n : Nat} {P : Program} {fn : Func} {tmps : Array Value} {R : Ending → World → Prop} (b t : Nat) (Inv : World → Prop) (hI : ∀ W D, Inv W → b ≤ D → W.heap[D]? = some (.deferred (some [])) → Inv (W.putObj D (.deferred none)))
  (hR : ∀ W, Inv W → LeavesInM F n P fn tmps R [] .returning W) : ∀ (Ds : List Nat) (W : World), Marks b t Ds W → Inv W → LeavesInM F n P fn tmps R (marksD Ds) .returning W
 | [], W, _, h => hR W h
 | D :: Ds, W, hm, h => by
  obtain ⟨h1, h2, h3⟩ := hm.2 D (List.mem_cons_self ..)
  have hnd := List.nodup_cons.1 hm.1
  refine ⟨by simp, .inl ⟨D, _, rfl, run_takeDeferred h3, ?_⟩⟩
  refine leaves_marks b t Inv hI hR Ds _ ⟨hnd.2, fun E hE => ?_⟩ (hI W D h h1 h3)
  obtain ⟨g1, g2, g3⟩ := hm.2 E (List.mem_cons_of_mem _ hE)
  exact ⟨g1, g2, (World.putObj_heap_other (fun e => hnd.1 (by rw [← e]; exact hE))).trans g3⟩

section
variable (base B5 : Nat)
/-- a box that holds a row of numbers -/
def RowBox (acc : List Int) (W : World) : Prop := ∃ v, Boxed W B5 29 v ∧ W.ownsRow base 3 1 v acc.length (IL acc) ∧ True
theorem rowbox_own {β : Type} (f : β → List Int) (B : Nat) : OwnFrom B (fun (s : β) W => RowBox base B5 (f s) W) :=
 Own.from (holdsRow_own base B5 29 3 1 (fun s => (f s).length) (fun s => IL (f s)) (fun _ _ => True)) B
end
theorem RowBox.below {base B5 : Nat} {acc : List Int} {W W' : World} (h : RowBox base B5 acc W) (hb : Below W.heap.size W W') : RowBox base B5 acc W' := by
 obtain ⟨v, h1, h2, -⟩ := h
 exact ⟨v, (hb.block B5 h1.lt).trans h1, own_below h2 hb, trivial⟩

/-- from where it comes: what holds between two rounds of the inner loop -/
def BkI (w : World) (B5 t : Nat) (Ds : List Nat) (at_ : Int) (acc : List Int) (pre : List Int) (W : World) : Prop :=
 ((RowBox w.heap.size B5 acc W ∧ Below w.heap.size w W) ∧ Marks w.heap.size t Ds W) ∧ at_ ∉ pre
def BkX (w : World) (B5 t : Nat) (Ds : List Nat) (at_ : Int) (acc : List Int) (c : Code) (pre : List Int) (W : World) : Prop :=
 ((RowBox w.heap.size B5 acc W ∧ Below w.heap.size w W) ∧ Marks w.heap.size t Ds W) ∧ (at_ ∈ pre ∧ c = .exit 2)
theorem bki_own (w : World) (B5 t : Nat) (Ds : List Nat) (at_ : Int) (acc : List Int) (ht : w.heap.size ≤ t) : OwnFrom t (BkI w B5 t Ds at_ acc) :=
 OwnFrom.and (OwnFrom.and (OwnFrom.and (rowbox_own w.heap.size B5 (fun _ => acc) t) (ownFrom_below (Nat.le_refl _) ht)) (marks_own _ _ _)) (fun _ _ _ _ hs _ _ => hs)
theorem bkx_own (w : World) (B5 t : Nat) (Ds : List Nat) (at_ : Int) (acc : List Int) (ht : w.heap.size ≤ t) (c : Code) : OwnFrom t (BkX w B5 t Ds at_ acc c) :=
 OwnFrom.and (OwnFrom.and (OwnFrom.and (rowbox_own w.heap.size B5 (fun _ => acc) t) (ownFrom_below (Nat.le_refl _) ht)) (marks_own _ _ _)) (fun _ _ _ _ hs _ _ => hs)

set_option maxRecDepth 100000 in
set_option maxHeartbeats 4000000 in
set_option linter.all false in
theorem back_in (A : Option Addr) (c : Nat) (L : List InM) (z : Int) (w : World) (hz : L.length ≤ 1000) (hr : Rd w A (L.flatMap inC)) (hs : Sh w) :
  CallsIn Fence.wide 5 Tryd.prog 15 #[.slice A L.length c, .int .i64 z] w fun e w' => ∃ A' c', e = .returned (.slice A' (comeL (L.map (·.i)) z).length c') ∧ Rd w' A' (IL (comeL (L.map (·.i)) z)) ∧ Below w.heap.size w w' := by
 obtain ⟨i0, hi, hz0, hz1, hz2⟩ := info_parts infoI
 obtain ⟨m, hm⟩ : ∃ m, m = L.length := ⟨_, rfl⟩
 have HR := Lib.hid hr; have HS := Lib.hid hs; have HM := Lib.hid hm
 have hmI : (m : Int) ≤ 1000 := by omega
 have HBK := Lib.hid (show comeL (L.map (·.i)) z = selL m fun k : Nat => (onL (L.map (·.i)) (k : Int)).contains z from by unfold comeL; rw [List.length_map, ← hm])
 obtain ⟨p, hp⟩ : ∃ p : Nat → Bool, p = fun k : Nat => (onL (L.map (·.i)) (k : Int)).contains z := ⟨_, rfl⟩
 rw [← hp] at HBK
 have HPP := Lib.hid (fun k => congrFun hp k)
 have HON := Lib.hid (fun k w => onward_w A m c k w)
 rw [← hm]
 clear hr hs hz hm hp
 refine callsIn_of_wp_marks Tryd.func15 rfl trivial ?_ rfl
 simp only [Tryd.ntmps15, List.size_toArray, List.length_cons, List.length_nil, Nat.reduceAdd, Nat.reduceSub, Array.replicate_succ, Array.replicate_zero, List.push_toArray, List.append_toArray, List.nil_append, List.cons_append]
 gi_wp2
 obtain ⟨Wa, hWa⟩ : ∃ Wa, Wa = w.alloc (.cells #[.int .i64 z] 3) := ⟨_, rfl⟩
 have hsa : Wa.heap.size = w.heap.size + 1 := by rw [hWa]; simp
 have hba : Below w.heap.size w Wa := by rw [hWa]; exact (Below.refl _ w).alloc (Nat.le_refl _) _
 have hat : Wa.cell? ⟨w.heap.size, 0, none⟩ = some (.int .i64 z) := by rw [hWa]; exact cell_of_row _ _ 0 _ _ _ (heap_alloc_new w _)
 obtain ⟨W0, hW0⟩ : ∃ W0, W0 = Wa.alloc (.cells #[.slice none 0 0] 29) := ⟨_, rfl⟩
 have hb0 : Below Wa.heap.size Wa W0 := by rw [hW0]; exact (Below.refl _ Wa).alloc (Nat.le_refl _) _
 have hx0 : RowBox Wa.heap.size Wa.heap.size [] W0 := by
  have b1 := Boxed.new Wa 29 (.slice none 0 0)
  rw [← hW0] at b1
  exact ⟨_, b1, World.ownsRow_nil _ _ _ _, trivial⟩
 rw [← hWa, ← hW0, ← hsa]
 have HBA := Lib.hid hba; have HAT := Lib.hid hat; have HSA := Lib.hid hsa
 clear hWa hW0 hba hat
 refine wpIn_loop (fun a W => ∃ (k : Nat) (Ds : List Nat) (v6 v11 v12 v13 v14 v15 v24 : Value), k ≤ m ∧ a = { tmps := #[.slice A m c, .int .i64 z, undef, .pointer (some ⟨w.heap.size, 0, none⟩), .slice none 0 0, .pointer (some ⟨Wa.heap.size, 0, none⟩), v6, undef, .slice A m c, .int .i64 (m : Int), .int .i64 (k : Int), v11, v12, v13, v14, v15, undef, undef, undef, undef, undef, undef, undef, undef, v24, undef], defers := marksD Ds } ∧
   RowBox Wa.heap.size Wa.heap.size (selL k p) W ∧ Below Wa.heap.size Wa W ∧ Marks Wa.heap.size W.heap.size Ds W) (fun a _ => m - (intOf (a.tmps.getD 10 undef)).toNat) ⟨0, [], _, _, _, _, _, _, _, Nat.zero_le _, rfl, hx0, hb0, Marks.nil _ _ _⟩ ?_
 clear hb0 hx0 hsa
 rintro a W ⟨k, Ds, v6, v11, v12, v13, v14, v15, v24, hk, rfl, hx, hb, hm⟩
 by_cases hlt : k < m
 case neg =>
  have hkm : k = m := by omega
  have hltI : ¬ (k : Int) < (m : Int) := by omega
  rw [hkm, ← HBK.out] at hx
  obtain ⟨v, h1, h2, -⟩ := hx
  obtain ⟨A9, c9, rfl, -, -, -⟩ := own_rd h2
  have hcx := h1.cell
  have H2 := Lib.hid h2; have HB := Lib.hid hb; have HMK := Lib.hid hm
  clear h1 h2 hb hm
  gi_wp2
  refine leaves_marks Wa.heap.size W.heap.size (fun W' => W'.ownsRow Wa.heap.size 3 1 (.slice A9 (comeL (L.map (·.i)) z).length c9) (comeL (L.map (·.i)) z).length (IL (comeL (L.map (·.i)) z)) ∧ Below Wa.heap.size Wa W') ?_ ?_ Ds W HMK.out ⟨H2.out, HB.out⟩
  ·rintro W' D ⟨g1, g2⟩ hD hK
   exact ⟨ownsRow_putObj g1 (.deferred none) hK rfl, g2.trans (belowK_b (w := Wa) (Nat.le_refl _) W' D _ _ hD hK rfl rfl)⟩
  ·rintro W' ⟨g1, g2⟩
   obtain ⟨A8, c8, e8, -, -, hrd⟩ := own_rd g1
   cases e8
   exact ⟨_, results_tmp rfl _ _ _, _, ⟨_, rfl⟩, hrd, HBA.out.trans (g2.mono HBA.out.size)⟩
 case pos =>
  have hltI : (k : Int) < (m : Int) := by omega
  have HX := Lib.hid hx; have HB := Lib.hid hb; have HMK := Lib.hid hm
  clear hx hb hm
  gi_wp2_with fail
  refine ⟨trivial, callsIn_wide.2 ((HON.out _ _).mono ?_)⟩
  rintro e W2 ⟨rfl, hW2⟩
  obtain ⟨W1, hW1⟩ : ∃ W1, W1 = W.alloc (.cells #[.int .i64 (k : Int)] 3) := ⟨_, rfl⟩
  rw [← hW1] at hW2 ⊢
  have s1 : W1.heap.size = W.heap.size + 1 := by rw [hW1]; simp
  have s2 : W2.heap.size = W1.heap.size + 2 := by rw [hW2]; simp
  have b1 : Below W.heap.size W W1 := by rw [hW1]; exact (Below.refl _ W).alloc (Nat.le_refl _) _
  have b2 : Below W1.heap.size W1 W2 := by rw [hW2]; exact (((Below.refl _ W1).alloc (Nat.le_refl _) _).alloc (by simp) _)
  have c0 : W2.heap[W.heap.size]? = some (.cells #[.int .i64 (k : Int)] 3 (0, 0)) := by
   have := heap_alloc_new W (.cells #[.int .i64 (k : Int)] 3)
   rw [← hW1] at this
   exact (b2.block _ (by omega)).trans this
  have c1 : W2.cell? ⟨W1.heap.size, 0, none⟩ = some (.slice A m c) := by rw [hW2]; exact ((Below.refl _ (W1.alloc (.cells #[.slice A m c] 22))).alloc (Nat.le_refl _) _).cell (p := ⟨W1.heap.size, 0, none⟩) (by simp) |>.trans (cell_of_row _ _ 0 _ _ _ (heap_alloc_new W1 _))
  have c2 : W2.cell? ⟨W1.heap.size + 1, 0, none⟩ = some (.int .i64 (k : Int)) := by
   have := heap_alloc_new (W1.alloc (.cells #[.slice A m c] 22)) (.cells #[.int .i64 (k : Int)] 3)
   rw [World.size_alloc, ← hW2] at this
   exact cell_of_row _ _ 0 _ _ _ this
  have b3 : Below W.heap.size W W2 := b1.trans (b2.mono b1.size)
  have hB2 : Below Wa.heap.size Wa W2 := HB.out.trans (b3.mono HB.out.size)
  have hX2 := HX.out.below b3
  have hM2 : Marks Wa.heap.size W2.heap.size Ds W2 := (HMK.out.below b3).up b3.size
  have HSQ := Lib.hid (on_stops2 4 (by omega) W1.heap.size (W1.heap.size + 1) A c L (k : Int) Wa (by have := HM.out; omega) (HR.out.below HBA.out) (HS.out.below HBA.out) W2 hB2 (by omega) (by omega) (by rw [← HM.out]; exact c1) c2)
  have HC0 := Lib.hid c0; have HBB := Lib.hid b3
  have hkk := b3.size
  have hle : Wa.heap.size ≤ W2.heap.size := hB2.size
  have l1 : W1.heap.size < W2.heap.size := by omega
  have l2 : W1.heap.size + 1 < W2.heap.size := by omega
  have HS1 := Lib.hid s1
  clear s1 s2
  clear HX HB HMK hW1 hW2 b1 b2 c0 c1 c2 b3
  gi_wp2_with fail
  refine wpIn_rangeFunc_ownG rfl (by omega) (gf := 42) (lb := #[.pointer (some ⟨W1.heap.size, 0, none⟩), .pointer (some ⟨W1.heap.size + 1, 0, none⟩)]) rfl trivial (enters_of Tryd.func42 (by kernel_rfl) rfl)
   HSQ.out rk2_t (fun W l o o' hl h h1 h2 => rk2_b (w := W2) hle l1 l2 W l o o' hl h h1 h2) (Below.refl _ _) (fun _ => rfl)
   (fun pre W' => BkI Wa Wa.heap.size W2.heap.size Ds z (selL k p) pre W' ∧ W'.heap[W.heap.size]? = some (.cells #[.int .i64 (k : Int)] 3 (0, 0))) (BkX Wa Wa.heap.size W2.heap.size Ds z (selL k p ++ [(k : Int)])) (OwnFrom.and (bki_own _ _ _ _ _ _ hle) (Own.from (op.row_own2 _ _ _ _) _)) (bkx_own _ _ _ _ _ _ hle)
   ⟨⟨⟨⟨hX2, hB2⟩, hM2⟩, by simp⟩, HC0.out⟩ ?a1 ?assign ?body ?done ?stop
  case assign =>
   intro l x W' K hK
   dsimp only [encP]
   gi_wp2
   exact hK
  case body =>
   rintro l pre x W' ⟨⟨⟨⟨⟨v, hv, hrow, -⟩, hB⟩, hM⟩, hnot⟩, hk0⟩ hlen
   have cz : W'.cell? ⟨w.heap.size, 0, none⟩ = some (.int .i64 z) := (hB.cell (p := ⟨w.heap.size, 0, none⟩) (by show w.heap.size < _; have := HSA.out; omega)).trans HAT.out
   have hc0 := hv.cell
   have hck := cell_of_row _ _ 0 _ _ _ hk0
   have hln := selL_len k p
   have hmx1 : (selL k p).length + 1 ≤ maxLen := by unfold maxLen; omega
   have hll : Wa.heap.size ≤ Wa.heap.size := Nat.le_refl _
   have HBB2 := Lib.hid hB; have HM2 := Lib.hid hM; have HNO := Lib.hid hnot; have HKK := Lib.hid hk0
   clear hlen hX2 hM2 HSQ HBB hkk hM hnot hk0
   by_cases hxz : x = z
   ·have hxb : (x == z) = true := by simpa using hxz
    have HXZ := Lib.hid hxz
    clear hxz
    gi_wp2_with (gi_at_builtin; refine wpListIn_append_own _ rfl _ _ 29 rfl Wa.heap.size 3 i0 (.int .i64 0) 1 8 Tryd.underlying29 hi hz0 hz1 hz2 rfl (by decide) _ _ _ rfl (hrow.alloc _) ⟨W'.heap.size, 0, none⟩ 1 1 [.int .i64 (k : Int)] rfl rfl (cell_one_new _ _ _) (by simp [Value.oneCell']) (by omega) (by omega) (by have := hB.size; simp; omega) ?_; intro v' w1 hown' hgrow _; obtain ⟨g', cap', rfl⟩ := ownsRow_succ hown'; obtain ⟨hv1, hv2, hr2', hk2, hb2⟩ := hv.appended (by decide) hrow hB.size hll hown' hgrow; have hc1 := hv1.cell; have hf1 := hv1.frozen)
    exact ⟨hk2.from _, ⟨⟨⟨_, hv2, by rw [IL_app, List.length_append]; exact hr2', trivial⟩, HBB2.out.trans hb2⟩, HM2.out.others hk2⟩, by rw [HXZ.out]; simp, rfl⟩
   ·have hxb : (x == z) = false := by simpa using hxz
    have HXZ := Lib.hid hxz
    clear hxz
    gi_wp2
    exact ⟨KeepsFrom.refl _ _, ⟨Below.refl _ _, rfl, rfl⟩, ⟨⟨⟨⟨v, hv, hrow, trivial⟩, HBB2.out⟩, HM2.out⟩, by rw [List.mem_append, List.mem_singleton]; rintro (h | h); exact HNO.out h; exact HXZ.out h.symm⟩, HKK.out⟩
  case done =>
   rintro D ys W' hD rfl ⟨⟨⟨⟨hx, hB⟩, hM⟩, hnot⟩, -⟩ hK
   have hpk : p k = false := by rw [HPP.out]; exact Bool.eq_false_iff.2 fun h => hnot (List.contains_iff_mem.1 h)
   have hsl : selL (k + 1) p = selL k p := by rw [selL_succ, hpk]; simp
   have HX := Lib.hid hx; have HB := Lib.hid hB; have HMK := Lib.hid (hM.cons (Nat.le_trans hle hD) hD (blk_lt hK) hK); have HSL := Lib.hid hsl
   clear hx hB hM hnot hK hpk hsl hX2 hM2 HSQ HBB hkk
   gi_wp2
   exact ⟨⟨k + 1, D :: Ds, _, _, _, _, _, _, _, by omega, rfl, by rw [HSL.out]; exact HX.out, HB.out, HMK.out⟩, by simp [intOf]; omega⟩
  case stop =>
   rintro D c' pre W' hD hpre ⟨⟨⟨hx, hB⟩, hM⟩, hin, rfl⟩ hK
   have hpk : p k = true := by rw [HPP.out]; exact List.contains_iff_mem.2 (hpre.subset hin)
   have hsl : selL (k + 1) p = selL k p ++ [(k : Int)] := by rw [selL_succ, hpk]; rfl
   have HX := Lib.hid hx; have HB := Lib.hid hB; have HMK := Lib.hid (hM.cons (Nat.le_trans hle hD) hD (blk_lt hK) hK); have HSL := Lib.hid hsl
   clear hx hB hM hin hK hpk hsl hX2 hM2 HSQ HBB hkk
   gi_wp2
   exact ⟨⟨k + 1, D :: Ds, _, _, _, _, _, _, _, by omega, rfl, by rw [HSL.out]; exact HX.out, HB.out, HMK.out⟩, by simp [intOf]; omega⟩
theorem back_w (A : Option Addr) (c : Nat) (L : List InM) (z : Int) (w : World) (hz : L.length ≤ 1000) (hr : Rd w A (L.flatMap inC)) (hs : Sh w) :
  Calls Tryd.prog 15 #[.slice A L.length c, .int .i64 z] w fun e w' => ∃ A' c', e = .returned (.slice A' (comeL (L.map (·.i)) z).length c') ∧ Rd w' A' (IL (comeL (L.map (·.i)) z)) ∧ Below w.heap.size w w' :=
 (callsIn_wide (n := 5)).1 (back_in A c L z w hz hr hs)
end Go.Proofs.YtnmnnokdoiagkaaDoor.flow

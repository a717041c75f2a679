/- JoinE -/
import Derived.Test.YtdifmgeicnndfaaSortP
import Derived.Test.YtdifmgeicnndfaaHierW
import Derived.Test.YtdifmgeicnndfaaNormRl
import Derived.Test.YtdifmgeicnndfaaFind
namespace Go.Proofs.Ytdifmgeicnndfaa.prg
open Go.RowKit
open words kindp opp op kind word
set_option maxRecDepth 100000
set_option maxHeartbeats 8000000
set_option linter.all false
theorem pairs0_in (n : Nat) (hn : 1 ≤ n) (l Bs : Nat) (A : Option Addr) (W : World) (J Jx : List Empty → World → Prop)
  (hB1 : W.cell? ⟨Bs, 0, none⟩ = some (.slice A 1 1)) (hB2 : W.cell? ⟨Bs + 1, 0, none⟩ = some (.slice none 0 0)) (h0 : J [] W) :
  CallsIn Fence.wide n Try.prog 127 #[.func (.yield l) #[] #[], .pointer (some ⟨Bs, 0, none⟩), .pointer (some ⟨Bs + 1, 0, none⟩)] W fun e W' => (∃ v, e = .returned v) ∧
   ((∃ ys, ys = [] ∧ J ys W') ∨ (∃ pre, pre <+: ([] : List Empty) ∧ Jx pre W')) := by
 have HJ := zh h0
 clear h0
 refine callsIn_of_wp Try.func127 rfl trivial ?_ rfl
 simp only [Try.ntmps127, List.size_toArray, List.length_cons, List.length_nil, Nat.reduceAdd, Nat.reduceSub, Array.replicate_succ, Array.replicate_zero, List.push_toArray, List.append_toArray, List.nil_append, List.cons_append]
 gi_wp2
 gi_loopw [10] (fun i wr => i = .int .i64 0 ∧ wr = W) (fun i _ => 0)
 case atStart => exact ⟨rfl, rfl⟩
 case round =>
  obtain ⟨rfl, rfl⟩ := hrel
  gi_wp2
  go_end0
  exact ⟨⟨_, rfl⟩, .inl ⟨_, rfl, HJ.out⟩⟩
theorem pairs_w (A C : Option Addr) (n m c d : Nat) (w : World) :
  Calls Try.prog 87 #[.slice A n c, .slice C m d] w fun e w' => e = .returned (.func (.func 127) #[] #[.pointer (some ⟨w.heap.size, 0, none⟩), .pointer (some ⟨w.heap.size + 1, 0, none⟩)]) ∧ w' = (w.alloc (.cells #[.slice A n c] 117)).alloc (.cells #[.slice C m d] 117) := by
 go_enter Try.func87, Try.ntmps87
 go_wp2
 go_ret
 exact ⟨rfl, rfl⟩
theorem merge0_w (v0 v1 v2 v3 v4 : Value) (h5 : ∀ v ∈ [v0, v1, v2, v3, v4], v.oneCell' = true) (A : Option Addr) (w : World) :
  Calls Try.prog 54 #[.agg #[v0, v1, v2, v3, v4], .slice A 1 1, .slice none 0 0] w fun e w' => e = .returned (.slice none 0 0) ∧ Below w.heap.size w w' := by
 have g0 := h5 v0 (by simp); have g1 := h5 v1 (by simp); have g2 := h5 v2 (by simp); have g3 := h5 v3 (by simp); have g4 := h5 v4 (by simp)
 obtain ⟨W0, hW0⟩ : ∃ W, W = (((w.alloc (.cells #[v0, v1, v2, v3, v4] 27)).alloc (.cells #[.slice none 0 0] 117)).alloc (.cells #[.slice A 1 1] 117)).alloc (.cells #[.slice none 0 0] 117) := ⟨_, rfl⟩
 obtain ⟨h1, h2, h3, h4, hal⟩ := four w _ _ _ _ W0 hW0
 have hsz : W0.heap.size = w.heap.size + 4 := by rw [hW0]; simp
 have d1 := cell_of_row _ _ 0 _ _ _ h2; have d2 := cell_of_row _ _ 0 _ _ _ h3; have d3 := cell_of_row _ _ 0 _ _ _ h4
 have HPW := zh (fun v => pairs_w A none 1 0 1 0 v)
 have HW0 := zh hW0
 clear hW0 h1 h3 h4 h5
 refine (callsIn_wide (n := 3)).1 ?_
 refine callsIn_of_wp_marks Try.func54 rfl trivial ?_ rfl
 simp only [Try.ntmps54, List.size_toArray, List.length_cons, List.length_nil, Nat.reduceAdd, Nat.reduceSub, Array.replicate_succ, Array.replicate_zero, List.push_toArray, List.append_toArray, List.nil_append, List.cons_append]
 gi_wp2_with fail
 refine ⟨trivial, callsIn_wide.2 ((HPW.out _).mono ?_)⟩
 rintro e w' ⟨rfl, rfl⟩
 gi_wp2_with fail
 try simp only [World.size_alloc]
 rw [← HW0.out]
 refine wpIn_rangeFunc_ownG (α := Empty) rfl (by omega) (gf := 127) (lb := #[.pointer (some ⟨w.heap.size + 1 + 1, 0, none⟩), .pointer (some ⟨w.heap.size + 1 + 1 + 1, 0, none⟩)]) rfl trivial (enters_of Try.func127 (by kernel_rfl) rfl)
  (encs := fun x => x.elim) (S := fun ys => ys = []) (Sp := fun pre => pre <+: []) (N := 0) (w0 := W0)
  (show SeqStopsK Fence.wide 2 Try.prog 127 #[.pointer (some ⟨w.heap.size + 1 + 1, 0, none⟩), .pointer (some ⟨w.heap.size + 1 + 1 + 1, 0, none⟩)] (fun x : Empty => x.elim) (Below W0.heap.size) (fun ys => ys = []) (fun pre => pre <+: []) 0 W0 from
   fun l J Jx W hW _ _ _ h0 => pairs0_in 2 (by omega) l (w.heap.size + 1 + 1) A W J Jx ((hW.cell (World.block_lt_of_cell? _ _ d2)).trans d2) ((hW.cell (World.block_lt_of_cell? _ _ d3)).trans d3) h0)
  belowK_t (belowK_b (Nat.le_refl _)) (Below.refl _ _) (fun x => x.elim)
  (fun pre W => Below W0.heap.size W0 W) (fun cd pre W => False)
  (ownFrom_below (Nat.le_refl _) (Nat.le_refl _)) (fun cd => Own.from (fun _ _ _ _ hs _ _ => hs) _) (Below.refl _ _)
  (fun x => x.elim) ?assign ?body ?done ?stop
 case assign => exact fun l x => x.elim
 case body => exact fun l pre x => x.elim
 case done =>
  rintro D ys W hD hS hB hK
  have c0 := (hB.cell (World.block_lt_of_cell? _ _ d1)).trans d1
  have HB := zh (hal.trans (hB.mono hal.size))
  clear hB d2 d3
  gi_wp2
  refine ⟨by simp, .inl ⟨_, _, rfl, run_takeDeferred hK, ?_⟩⟩
  exact ⟨_, results_tmp rfl _ _ _, rfl, HB.out.trans (belowK_b (w := w) (Nat.le_refl _) W D _ _ (by omega) hK rfl rfl)⟩
 case stop =>
  rintro D c pre W hD hpre hF hK
  exact hF.elim
theorem clsB_ne {s : Tx} (h : clsB s = true) : s ≠ [] := by
 intro e
 rw [e] at h
 exact absurd h (by decide +kernel)
theorem right_fin {x : PrM} (h : rightE x = 0) : (∀ c ∈ x.cs, c.nm ≠ []) ∧ ∀ c ∈ x.cs, c.fc = true → c.su = [] := by
 obtain ⟨-, h2, -, -⟩ := right_zero h
 have hc := fun c (hc : c ∈ x.cs) => ((class_iff c).1 (List.all_eq_true.1 h2 c hc)).1
 refine ⟨fun c hm => clsB_ne ?_, fun c hm hf => ?_⟩
 ·have := hc c hm
  unfold topB at this
  simp only [Bool.and_eq_true] at this
  exact this.1
 ·have := hc c hm
  unfold topB at this
  simp only [Bool.and_eq_true, Bool.or_eq_true, hf, Bool.not_true, Bool.false_eq_true, false_or] at this
  simpa using this.2.2.2.1
theorem sound_j (x : PrM) (w : World) (hk : PrOk w x) (hb : PrBd x) (hg : GrP x) :
  Calls Try.prog 15 #[.agg (prC x).toArray] w fun e w' => ∃ b : Bool, e = .returned (.bool b) ∧ (b = true → FinJ x.cs) ∧ Below w.heap.size w w' := by
 obtain ⟨cs, A1, c1, ns, A2, c2, ec, en, ed⟩ := x
 obtain ⟨W, hW⟩ : ∃ W, W = w.alloc (.cells (prC ⟨cs, A1, c1, ns, A2, c2, ec, en, ed⟩).toArray 27) := ⟨_, rfl⟩
 have hal : Below w.heap.size w W := by rw [hW]; exact (Below.refl _ w).alloc (Nat.le_refl _) _
 have hblk : W.heap[w.heap.size]? = some (.cells (prC ⟨cs, A1, c1, ns, A2, c2, ec, en, ed⟩).toArray 27 (0, 0)) := by rw [hW]; exact heap_alloc_new w _
 have hkW := hk.below hal
 have HCK := check_r ⟨cs, A1, c1, ns, A2, c2, ec, en, ed⟩ W hkW hg
 have HRR := fun v (hv : Below W.heap.size W v) => right8_r ⟨cs, A1, c1, ns, A2, c2, ec, en, ed⟩ v (hkW.below hv) hb (fun c hc m hm z hz => method_r m z (((hkW.2.2 c hc).2.2.2 m hm).below (hv.trans (hz.mono hv.size))) ((hb.1.2 c hc).2.2.2.2.2 m hm) (hg.fit c hc m hm))
 have HCE := zh (fun v (hv : Below W.heap.size W v) => pr_cells ((hv.block _ (blk_lt hblk)).trans hblk))
 obtain ⟨R, hR⟩ : ∃ r, r = rightE ⟨cs, A1, c1, ns, A2, c2, ec, en, ed⟩ := ⟨_, rfl⟩
 rw [← hR] at HRR
 have HR := zh hR
 unfold CheckR at HCK
 dsimp only at HCK HCE
 unfold prC at hW HCK HRR ⊢
 try dsimp only [List.cons_append, List.nil_append] at hW HCK HRR ⊢
 have HCK := zh HCK; have HRR := zh HRR
 have HAL := zh hal; have HW := zh hW
 clear hal hblk hW hk hb hg hkW hR
 obtain ⟨x0, x1, x2, x3, x4⟩ := HCE.out W (Below.refl _ _)
 go_enter Try.func15, Try.ntmps15
 go_wp2_with fail
 rw [← HW.out]
 (try go_wp2_with fail)
 refine HCK.out.mono ?_
 rintro e w1 ⟨E, s, rfl, hE, hb1⟩
 have K1 := zh hb1
 have HE := zh hE
 clear x0 x1 x2 x3 x4 hE
 obtain ⟨x0, x1, x2, x3, x4⟩ := HCE.out w1 hb1
 clear hb1
 by_cases hE0 : E = 0
 ·subst hE0
  have HAB := zh (HE.out rfl)
  go_wp2_with fail
  refine (HRR.out w1 K1.out).mono ?_
  rintro e w2 ⟨rfl, hb2⟩
  have K2 := zh (then' K1.out hb2)
  clear hb2 x0 x1 x2 x3 x4
  by_cases hR0 : R = 0
  ·have HF := zh (show FinJ cs from by
    obtain ⟨h1, h2⟩ := right_fin (x := ⟨cs, A1, c1, ns, A2, c2, ec, en, ed⟩) (by rw [← HR.out]; exact hR0)
    exact finJ_of HAB.out.1 HAB.out.2 h1 h2)
   subst hR0
   go_wp2_with fail
   go_ret
   exact ⟨true, rfl, fun _ => HF.out, HAL.out.trans (K2.out.mono HAL.out.size)⟩
  ·have hz : (R == 0) = false := beq_eq_false_iff_ne.2 hR0
   clear hR0
   go_wp2_with fail
   go_ret
   exact ⟨false, rfl, fun h => (by cases h), HAL.out.trans (K2.out.mono HAL.out.size)⟩
 ·have hz : (E == 0) = false := beq_eq_false_iff_ne.2 hE0
  clear hE0
  go_wp2_with fail
  go_ret
  exact ⟨false, rfl, fun h => (by cases h), HAL.out.trans (K1.out.mono HAL.out.size)⟩
end Go.Proofs.Ytdifmgeicnndfaa.prg
namespace Go.Proofs.Ytdifmgeicnndfaa.prg
open Go.RowKit
open words kindp opp op kind word
set_option maxRecDepth 100000
set_option maxHeartbeats 16000000
set_option linter.all false
def jvA : ClM := ⟨[65], [], false, false, [], none, 0, [], none, 0, [], none, 0⟩
def jvB : ClM := ⟨[66], [65], false, false, [], none, 0, [], none, 0, [], none, 0⟩
def jvC : ClM := ⟨[67], [65], false, false, [], none, 0, [], none, 0, [], none, 0⟩
def jvP : List ClM := [jvA, jvB, jvC]
def jvN : List Tx := [[65], [66], [67], []]
def jvX (b : Nat) : PrM := ⟨jvP, some ⟨b, 0, none⟩, 3, [], none, 0, [], [], []⟩
theorem jv_com : joinF jvP (3, [66]) (3, [67]) = (3, [65]) := by decide +kernel
theorem jv_nil : joinF jvP (2, []) (4, []) = (4, []) := by decide +kernel
theorem jv_fit : fitF jvP (3, [66]) (3, [65]) = true := by decide +kernel
theorem jv_not : fitF jvP (3, [65]) (3, [66]) = false := by decide +kernel
theorem jv_bel : decide (joinF jvP (3, [66]) (3, [65]) = (3, [65])) = true := by decide +kernel
theorem jvX_gr (b : Nat) : GrP (jvX b) := by
 refine ⟨⟨by simp [jvX, jvP], by simp [jvX]⟩, fun y hy => ?_⟩
 simp only [jvX, jvP, List.mem_cons, List.not_mem_nil, or_false] at hy
 rcases hy with rfl | rfl | rfl <;> exact ⟨⟨by simp [jvA, jvB, jvC], by simp [jvA, jvB, jvC], by simp [jvA, jvB, jvC], by simp [jvA, jvB, jvC], by simp [jvA, jvB, jvC]⟩, fun m hm => by simp [jvA, jvB, jvC] at hm⟩
theorem jvX_kn (b : Nat) : KnH (jvX b) jvN := by
 refine ⟨by simp [jvX, jvP], fun c hc => ?_, by simp [jvN], fun s hs => ?_, fun c hc s hs => ?_⟩
 ·simp only [jvX, jvP, List.mem_cons, List.not_mem_nil, or_false] at hc
  rcases hc with rfl | rfl | rfl <;> simp [jvA, jvB, jvC]
 ·simp only [jvN, List.mem_cons, List.not_mem_nil, or_false] at hs
  rcases hs with rfl | rfl | rfl | rfl <;> simp
 ·simp only [jvX, jvP, List.mem_cons, List.not_mem_nil, or_false] at hc
  rcases hc with rfl | rfl | rfl <;> simp [abv, jvA, jvB, jvC] at hs <;> simp_all [jvN]
theorem jvX_ok {w : World} {b t : Nat} (h : w.heap[b]? = some (.cells (jvP.flatMap clC).toArray t (0, 0))) : PrOk w (jvX b) := by
 refine ⟨⟨by simp [jvX, jvP], rd_blk h (k := 21) rfl⟩, ⟨Nat.zero_le _, Rd.nil _ _⟩, fun y hy => ?_⟩
 simp only [jvX, jvP, List.mem_cons, List.not_mem_nil, or_false] at hy
 rcases hy with rfl | rfl | rfl
 ·exact ⟨⟨Nat.zero_le _, Rd.nil _ _⟩, ⟨Nat.zero_le _, Rd.nil _ _⟩, ⟨Nat.zero_le _, Rd.nil _ _⟩, fun y hy => by cases hy⟩
 ·exact ⟨⟨Nat.zero_le _, Rd.nil _ _⟩, ⟨Nat.zero_le _, Rd.nil _ _⟩, ⟨Nat.zero_le _, Rd.nil _ _⟩, fun y hy => by cases hy⟩
 ·exact ⟨⟨Nat.zero_le _, Rd.nil _ _⟩, ⟨Nat.zero_le _, Rd.nil _ _⟩, ⟨Nat.zero_le _, Rd.nil _ _⟩, fun y hy => by cases hy⟩
theorem ref_j (s : Tx) (w : World) : Calls Try.prog 50 #[.string ⟨s.toArray⟩] w fun e w' => e = .returned (.agg #[.int .i64 3, .string ⟨s.toArray⟩]) ∧ Below w.heap.size w w' := by
 obtain ⟨W, hW⟩ : ∃ W, W = w.alloc (.cells #[.int .i64 3, .string ⟨s.toArray⟩] 50) := ⟨_, rfl⟩
 have HAL := zh (show Below w.heap.size w W from by rw [hW]; exact (Below.refl _ w).alloc (Nat.le_refl _) _)
 have h2 : W.heap[w.heap.size]? = some (.cells #[.int .i64 3, .string ⟨s.toArray⟩] 50 (0, 0)) := by rw [hW]; exact heap_alloc_new w _
 have d0 := zh (cell_of_row _ _ 0 _ _ _ h2); have d1 := zh (cell_of_row _ _ 1 _ _ _ h2)
 have HW := zh hW
 clear h2 hW
 go_enter Try.func50, Try.ntmps50
 go_wp2_with fail
 rw [← HW.out]
 refine bodyPost_ret (v := .agg #[.int .i64 3, .string ⟨s.toArray⟩]) ?_ rfl ⟨rfl, HAL.out⟩
 simp [results, Try.results50, go_sem, d0.out, d1.out]
theorem live_j (w : World) : Calls Try.prog 16 #[] w fun e w' => e = .returned (.bool true) ∧ Below w.heap.size w w' := by
 obtain ⟨W, hW⟩ : ∃ W, W = ((w.alloc (.cells #[.string ⟨#[65]⟩, .string ⟨#[]⟩, .bool false, .bool false, .slice none 0 0, .slice none 0 0, .slice none 0 0, .string ⟨#[66]⟩, .string ⟨#[65]⟩, .bool false, .bool false, .slice none 0 0, .slice none 0 0, .slice none 0 0, .string ⟨#[67]⟩, .string ⟨#[65]⟩, .bool false, .bool false, .slice none 0 0, .slice none 0 0, .slice none 0 0] 43)).alloc (.cells #[.slice (some ⟨w.heap.size, 0, none⟩) 3 3, .slice none 0 0, .string ⟨#[]⟩, .string ⟨#[]⟩, .string ⟨#[]⟩] 27)).alloc (.cells #[.int .i64 2, .string ⟨#[]⟩] 50) := ⟨_, rfl⟩
 obtain ⟨h1, h2, h3, hal⟩ := three w _ _ _ W hW
 have HX := fun v (hv : Below W.heap.size W v) => PrOk.below (jvX_ok (b := w.heap.size) (show W.heap[w.heap.size]? = some (.cells (jvP.flatMap clC).toArray 43 (0, 0)) from h1)) hv
 have HS := zh (show ∀ v, Below W.heap.size W v → (fun w' : World => (w'.cell? ⟨w.heap.size + 1, 0, none⟩ = some (.slice (some ⟨w.heap.size, 0, none⟩) 3 3) ∧ w'.cell? ⟨w.heap.size + 1, 1, none⟩ = some (.slice none 0 0) ∧ w'.cell? ⟨w.heap.size + 1, 2, none⟩ = some (.string ⟨#[]⟩) ∧ w'.cell? ⟨w.heap.size + 1, 3, none⟩ = some (.string ⟨#[]⟩) ∧ w'.cell? ⟨w.heap.size + 1, 4, none⟩ = some (.string ⟨#[]⟩)) ∧ (w'.cell? ⟨w.heap.size + 1 + 1, 0, none⟩ = some (.int .i64 2) ∧ w'.cell? ⟨w.heap.size + 1 + 1, 1, none⟩ = some (.string ⟨#[]⟩))) v from fun v hv => ⟨pr_cells (x := jvX w.heap.size) ((hv.block _ (blk_lt h2)).trans h2), fa_cells (a := ((2, []) : Fa)) ((hv.block _ (blk_lt h3)).trans h3)⟩)
 have HREF := zh (fun (s : Tx) v => ref_j s v)
 have HJ1 := zh (show ∀ v, Below W.heap.size W v → Calls Try.prog 18 #[.agg #[.slice (some ⟨w.heap.size, 0, none⟩) 3 3, .slice none 0 0, .string ⟨#[]⟩, .string ⟨#[]⟩, .string ⟨#[]⟩], .agg #[.int .i64 3, .string ⟨#[66]⟩], .agg #[.int .i64 3, .string ⟨#[67]⟩]] v (fun e w' => e = .returned (.agg #[.int .i64 3, .string ⟨#[65]⟩]) ∧ Below v.heap.size v w') from fun v hv => by
  have h := join_j (jvX w.heap.size) jvN (3, [66]) (3, [67]) v (HX v hv) (jvX_gr _) (jvX_kn _) (fun _ => by simp [jvN]) (fun _ => by simp [jvN])
  rw [show (jvX w.heap.size).cs = jvP from rfl, jv_com] at h
  exact h)
 have HJ2 := zh (show ∀ v, Below W.heap.size W v → Calls Try.prog 18 #[.agg #[.slice (some ⟨w.heap.size, 0, none⟩) 3 3, .slice none 0 0, .string ⟨#[]⟩, .string ⟨#[]⟩, .string ⟨#[]⟩], .agg #[.int .i64 2, .string ⟨#[]⟩], .agg #[.int .i64 4, .string ⟨#[]⟩]] v (fun e w' => e = .returned (.agg #[.int .i64 4, .string ⟨#[]⟩]) ∧ Below v.heap.size v w') from fun v hv => by
  have h := join_j (jvX w.heap.size) jvN (2, []) (4, []) v (HX v hv) (jvX_gr _) (jvX_kn _) (fun h => by cases h) (fun h => by cases h)
  rw [show (jvX w.heap.size).cs = jvP from rfl, jv_nil] at h
  exact h)
 have HF1 := zh (show ∀ v, Below W.heap.size W v → Calls Try.prog 51 #[.agg #[.slice (some ⟨w.heap.size, 0, none⟩) 3 3, .slice none 0 0, .string ⟨#[]⟩, .string ⟨#[]⟩, .string ⟨#[]⟩], .agg #[.int .i64 3, .string ⟨#[66]⟩], .agg #[.int .i64 3, .string ⟨#[65]⟩]] v (fun e w' => e = .returned (.bool true) ∧ Below v.heap.size v w') from fun v hv => by
  have h := fits_j (jvX w.heap.size) jvN (3, [66]) (3, [65]) v (HX v hv) (jvX_kn _) (fun _ => by simp [jvN])
  rw [show (jvX w.heap.size).cs = jvP from rfl, jv_fit] at h
  exact h)
 have HF2 := zh (show ∀ v, Below W.heap.size W v → Calls Try.prog 51 #[.agg #[.slice (some ⟨w.heap.size, 0, none⟩) 3 3, .slice none 0 0, .string ⟨#[]⟩, .string ⟨#[]⟩, .string ⟨#[]⟩], .agg #[.int .i64 3, .string ⟨#[65]⟩], .agg #[.int .i64 3, .string ⟨#[66]⟩]] v (fun e w' => e = .returned (.bool false) ∧ Below v.heap.size v w') from fun v hv => by
  have h := fits_j (jvX w.heap.size) jvN (3, [65]) (3, [66]) v (HX v hv) (jvX_kn _) (fun _ => by simp [jvN])
  rw [show (jvX w.heap.size).cs = jvP from rfl, jv_not] at h
  exact h)
 have HBL := zh (show ∀ v, Below W.heap.size W v → Calls Try.prog 19 #[.agg #[.slice (some ⟨w.heap.size, 0, none⟩) 3 3, .slice none 0 0, .string ⟨#[]⟩, .string ⟨#[]⟩, .string ⟨#[]⟩], .agg #[.int .i64 3, .string ⟨#[66]⟩], .agg #[.int .i64 3, .string ⟨#[65]⟩]] v (fun e w' => e = .returned (.bool true) ∧ Below v.heap.size v w') from fun v hv => by
  have h := below_j (jvX w.heap.size) jvN (3, [66]) (3, [65]) v (HX v hv) (jvX_gr _) (jvX_kn _) (fun _ => by simp [jvN]) (fun _ => by simp [jvN])
  rw [show (jvX w.heap.size).cs = jvP from rfl, jv_bel] at h
  exact h)
 have HIR := zh (show ∀ v, Below W.heap.size W v → Calls Try.prog 52 #[.agg #[.int .i64 2, .string ⟨#[]⟩]] v (fun e w' => e = .returned (.bool true) ∧ Below v.heap.size v w') from fun v hv => by
  exact isref_j (2, []) v)
 have HOF := zh (show ∀ v, Below W.heap.size W v → Calls Try.prog 53 #[.agg #[.int .i64 2, .string ⟨#[]⟩]] v (fun e w' => e = .returned (.agg #[.int .i64 1, .string ⟨#[]⟩]) ∧ Below v.heap.size v w') from fun v hv => by
  exact of_int v)
 have HMG := zh (show ∀ (N : Nat) v, Below W.heap.size W v → Calls Try.prog 54 #[.agg #[.slice (some ⟨w.heap.size, 0, none⟩) 3 3, .slice none 0 0, .string ⟨#[]⟩, .string ⟨#[]⟩, .string ⟨#[]⟩], .slice (some ⟨N, 0, none⟩) 1 1, .slice none 0 0] v (fun e w' => e = .returned (.slice none 0 0) ∧ Below v.heap.size v w') from fun N v hv => by
  exact merge0_w _ _ _ _ _ (by intro v hv; simp at hv; rcases hv with rfl | rfl | rfl | rfl | rfl <;> rfl) _ v)
 have hfl : ∀ v : World, (Instr.field 50 (.agg #[.int .i64 1, .string ⟨#[]⟩]) 0).run Try.prog v = .ok (.int .i64 1) v := fun _ => by kernel_rfl
 have HAL := zh hal; have HW := zh hW
 clear h1 h2 h3 hal hW HX
 have hmx : Try.prog.follows .mixedOrders = true := by kernel_rfl
 go_enter Try.func16, Try.ntmps16
 go_wp2_with fail
 try simp only [World.size_alloc]
 rw [← HW.out]
 (try go_wp2_with fail)
 refine wp_region_held_drew (S := fun w' : World => (w'.cell? ⟨w.heap.size + 1, 0, none⟩ = some (.slice (some ⟨w.heap.size, 0, none⟩) 3 3) ∧ w'.cell? ⟨w.heap.size + 1, 1, none⟩ = some (.slice none 0 0) ∧ w'.cell? ⟨w.heap.size + 1, 2, none⟩ = some (.string ⟨#[]⟩) ∧ w'.cell? ⟨w.heap.size + 1, 3, none⟩ = some (.string ⟨#[]⟩) ∧ w'.cell? ⟨w.heap.size + 1, 4, none⟩ = some (.string ⟨#[]⟩)) ∧ (w'.cell? ⟨w.heap.size + 1 + 1, 0, none⟩ = some (.int .i64 2) ∧ w'.cell? ⟨w.heap.size + 1 + 1, 1, none⟩ = some (.string ⟨#[]⟩))) (by kernel_rfl) ?_ (fun hHeld => ?_)
 ·exact HS.out _ ⟨rfl, rfl, rfl, Nat.le_refl _, fun _ _ => rfl⟩
 obtain ⟨u0, hWd⟩ : ∃ u, u = W.drew := ⟨_, rfl⟩
 have HB0 := zh (show Below W.heap.size W u0 from by rw [hWd]; exact ⟨rfl, rfl, rfl, Nat.le_refl _, fun _ _ => rfl⟩)
 rw [← hWd]
 have hS0 := HS.out _ HB0.out
 clear hWd
 refine tkp 0 rfl ?_
 clear hS0
 refine rdy 1 rfl (fun K hK => ?_)
 go_simp
 refine (HREF.out [66] u0).mono ?_
 rintro e u1 ⟨rfl, hb⟩
 have HB1 := zh (then' HB0.out hb)
 clear hb
 go_wp2_with fail
 refine hK.out _ _ (HS.out _ HB1.out) (fun hHeld => ?_)
 clear hK K
 try simp only [puts]
 have hS1 := HS.out _ HB1.out
 clear hS1
 refine rdy 2 rfl (fun K hK => ?_)
 go_simp
 refine (HREF.out [67] u1).mono ?_
 rintro e u2 ⟨rfl, hb⟩
 have HB2 := zh (then' HB1.out hb)
 clear hb
 go_wp2_with fail
 refine hK.out _ _ (HS.out _ HB2.out) (fun hHeld => ?_)
 clear hK K
 try simp only [puts]
 have hS2 := HS.out _ HB2.out
 clear hS2
 refine rdy 3 rfl (fun K hK => ?_)
 go_simp
 refine (HJ1.out u2 HB2.out).mono ?_
 rintro e u3 ⟨rfl, hb⟩
 have HB3 := zh (then' HB2.out hb)
 clear hb
 go_wp2_with fail
 refine hK.out _ _ (HS.out _ HB3.out) (fun hHeld => ?_)
 clear hK K
 try simp only [puts]
 have hS3 := HS.out _ HB3.out
 clear hS3
 refine rdy 4 rfl (fun K hK => ?_)
 go_simp
 refine (HREF.out [65] u3).mono ?_
 rintro e u4 ⟨rfl, hb⟩
 have HB4 := zh (then' HB3.out hb)
 clear hb
 go_wp2_with fail
 refine hK.out _ _ (HS.out _ HB4.out) (fun hHeld => ?_)
 clear hK K
 try simp only [puts]
 have hS4 := HS.out _ HB4.out
 refine tkp 5 rfl ?_
 refine tkp 6 rfl ?_
 refine tkp 7 rfl ?_
 refine tkp 8 rfl ?_
 refine tkp 9 rfl ?_
 refine tkp 11 rfl ?_
 clear hS4
 refine rdy 10 rfl (fun K hK => ?_)
 go_simp
 refine (HJ2.out u4 HB4.out).mono ?_
 rintro e u5 ⟨rfl, hb⟩
 have HB5 := zh (then' HB4.out hb)
 clear hb
 go_wp2_with fail
 refine hK.out _ _ (HS.out _ HB5.out) (fun hHeld => ?_)
 clear hK K
 try simp only [puts]
 have hS5 := HS.out _ HB5.out
 refine tkp 12 rfl ?_
 refine tkp 13 rfl ?_
 refine tkp 14 rfl ?_
 refine tkp 15 rfl ?_
 refine tkp 17 rfl ?_
 clear hS5
 refine rdy 16 rfl (fun K hK => ?_)
 go_simp
 refine (HREF.out [66] u5).mono ?_
 rintro e u6 ⟨rfl, hb⟩
 have HB6 := zh (then' HB5.out hb)
 clear hb
 go_wp2_with fail
 refine hK.out _ _ (HS.out _ HB6.out) (fun hHeld => ?_)
 clear hK K
 try simp only [puts]
 have hS6 := HS.out _ HB6.out
 clear hS6
 refine rdy 18 rfl (fun K hK => ?_)
 go_simp
 refine (HF1.out u6 HB6.out).mono ?_
 rintro e u7 ⟨rfl, hb⟩
 have HB7 := zh (then' HB6.out hb)
 clear hb
 go_wp2_with fail
 refine hK.out _ _ (HS.out _ HB7.out) (fun hHeld => ?_)
 clear hK K
 try simp only [puts]
 have hS7 := HS.out _ HB7.out
 refine tkp 19 rfl ?_
 refine tkp 20 rfl ?_
 refine tkp 21 rfl ?_
 refine tkp 23 rfl ?_
 clear hS7
 refine rdy 22 rfl (fun K hK => ?_)
 go_simp
 refine (HREF.out [65] u7).mono ?_
 rintro e u8 ⟨rfl, hb⟩
 have HB8 := zh (then' HB7.out hb)
 clear hb
 go_wp2_with fail
 refine hK.out _ _ (HS.out _ HB8.out) (fun hHeld => ?_)
 clear hK K
 try simp only [puts]
 have hS8 := HS.out _ HB8.out
 clear hS8
 refine rdy 24 rfl (fun K hK => ?_)
 go_simp
 refine (HF2.out u8 HB8.out).mono ?_
 rintro e u9 ⟨rfl, hb⟩
 have HB9 := zh (then' HB8.out hb)
 clear hb
 go_wp2_with fail
 refine hK.out _ _ (HS.out _ HB9.out) (fun hHeld => ?_)
 clear hK K
 try simp only [puts]
 have hS9 := HS.out _ HB9.out
 refine tkp 25 rfl ?_
 refine tkp 26 rfl ?_
 refine tkp 27 rfl ?_
 refine tkp 28 rfl ?_
 clear hS9
 refine rdy 29 rfl (fun K hK => ?_)
 go_simp
 refine (HREF.out [66] u9).mono ?_
 rintro e u10 ⟨rfl, hb⟩
 have HB10 := zh (then' HB9.out hb)
 clear hb
 go_wp2_with fail
 refine hK.out _ _ (HS.out _ HB10.out) (fun hHeld => ?_)
 clear hK K
 try simp only [puts]
 have hS10 := HS.out _ HB10.out
 clear hS10
 refine rdy 30 rfl (fun K hK => ?_)
 go_simp
 refine (HREF.out [65] u10).mono ?_
 rintro e u11 ⟨rfl, hb⟩
 have HB11 := zh (then' HB10.out hb)
 clear hb
 go_wp2_with fail
 refine hK.out _ _ (HS.out _ HB11.out) (fun hHeld => ?_)
 clear hK K
 try simp only [puts]
 have hS11 := HS.out _ HB11.out
 clear hS11
 refine rdy 31 rfl (fun K hK => ?_)
 go_simp
 refine (HBL.out u11 HB11.out).mono ?_
 rintro e u12 ⟨rfl, hb⟩
 have HB12 := zh (then' HB11.out hb)
 clear hb
 go_wp2_with fail
 refine hK.out _ _ (HS.out _ HB12.out) (fun hHeld => ?_)
 clear hK K
 try simp only [puts]
 have hS12 := HS.out _ HB12.out
 refine tkp 32 rfl ?_
 refine tkp 33 rfl ?_
 refine tkp 34 rfl ?_
 clear hS12
 refine rdy 35 rfl (fun K hK => ?_)
 go_simp
 refine (HIR.out u12 HB12.out).mono ?_
 rintro e u13 ⟨rfl, hb⟩
 have HB13 := zh (then' HB12.out hb)
 clear hb
 go_wp2_with fail
 refine hK.out _ _ (HS.out _ HB13.out) (fun hHeld => ?_)
 clear hK K
 try simp only [puts]
 have hS13 := HS.out _ HB13.out
 refine tkp 36 rfl ?_
 refine tkp 37 rfl ?_
 refine tkp 38 rfl ?_
 clear hS13
 refine rdy 39 rfl (fun K hK => ?_)
 go_simp
 refine (HOF.out u13 HB13.out).mono ?_
 rintro e u14 ⟨rfl, hb⟩
 have HB14 := zh (then' HB13.out hb)
 clear hb
 go_wp2_with fail
 refine hK.out _ _ (HS.out _ HB14.out) (fun hHeld => ?_)
 clear hK K
 try simp only [puts]
 have hS14 := HS.out _ HB14.out
 refine tkp 40 rfl ?_
 refine tkp 41 rfl ?_
 refine tkp 42 rfl ?_
 refine tkp 43 rfl ?_
 refine tkp 44 rfl ?_
 refine tkp 45 rfl ?_
 clear hS14
 refine rdy 46 rfl (fun K hK => ?_)
 go_simp
 obtain ⟨uN, hn1⟩ : ∃ v, v = u14.alloc (.cells #[.int .i64 2, .string ⟨#[]⟩] 50) := ⟨_, rfl⟩
 have HBN := zh (show Below W.heap.size W uN from by rw [hn1]; exact HB14.out.alloc HB14.out.size _)
 rw [← hn1]
 clear hn1
 refine hK.out _ _ (HS.out _ HBN.out) (fun hHeld => ?_)
 clear hK K
 try simp only [puts]
 refine rdy 47 rfl (fun K hK => ?_)
 go_simp
 refine (HMG.out _ uN HBN.out).mono ?_
 rintro e uM ⟨rfl, hb⟩
 have HBM := zh (then' HBN.out hb)
 clear hb
 go_wp2_with fail
 refine hK.out _ _ (HS.out _ HBM.out) (fun hHeld => ?_)
 clear hK K
 try simp only [puts]
 have hSM := HS.out _ HBM.out
 refine tkp 48 rfl ?_
 refine tkp 49 rfl ?_
 refine tkp 50 rfl ?_
 refine tkp 51 rfl ?_
 clear hSM
 refine wpAnyH_done (by kernel_rfl) ?_ _
 go_wp2
 go_ret
 exact ⟨rfl, HAL.out.trans (HBM.out.mono HAL.out.size)⟩
end Go.Proofs.Ytdifmgeicnndfaa.prg

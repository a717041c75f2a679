/- SortP -/
import Derived.Test.YtdifmgeicnndfaaJoinB
import Derived.Test.YtdifmgeicnndfaaFind
import Derived.Test.YtdifmgeicnndfaaHierT
import Derived.Test.YtdifmgeicnndfaaOp
import Derived.Laws.OwnMore
import Derived.Deep.MidRow
import Derived.Deep.RegionHeld3
namespace Go.Proofs.Ytdifmgeicnndfaa.prg
open Go.RowKit
open words kindp opp op kind word
set_option maxRecDepth 100000
set_option maxHeartbeats 8000000
theorem below_j (x : PrM) (Kn : List Tx) (a b : Fa) (w : World) (hpr : PrOk w x) (hgr : GrP x) (hH : KnH x Kn) (ha : a.1 = 3 → a.2 ∈ Kn) (hb : b.1 = 3 → b.2 ∈ Kn) :
  Calls Try.prog 19 #[.agg (prC x).toArray, .agg (faC a).toArray, .agg (faC b).toArray] w fun e w' => e = .returned (.bool (decide (joinF x.cs a b = b))) ∧ Below w.heap.size w w' := by
 obtain ⟨cs, A1, c1, ns, A2, c2, ec, en, ed⟩ := x
 have HJO := fun v (hv : Below w.heap.size w v) => join_j ⟨cs, A1, c1, ns, A2, c2, ec, en, ed⟩ Kn a b v (hpr.below hv) hgr hH ha hb
 obtain ⟨k, c⟩ := a
 obtain ⟨l, d⟩ := b
 obtain ⟨W, hW⟩ : ∃ W, W = ((w.alloc (.cells #[.slice A1 cs.length c1, .slice A2 ns.length c2, .string ⟨ec.toArray⟩, .string ⟨en.toArray⟩, .string ⟨ed.toArray⟩] 27)).alloc (.cells #[.int .i64 k, .string ⟨c.toArray⟩] 50)).alloc (.cells #[.int .i64 l, .string ⟨d.toArray⟩] 50) := ⟨_, rfl⟩
 obtain ⟨h1, h2, h3, hal⟩ := three w _ _ _ W hW
 have HS := zh (show ∀ v, Below W.heap.size W v → (fun w' : World => (w'.cell? ⟨w.heap.size, 0, none⟩ = some (.slice A1 cs.length c1) ∧ w'.cell? ⟨w.heap.size, 1, none⟩ = some (.slice A2 ns.length c2) ∧ w'.cell? ⟨w.heap.size, 2, none⟩ = some (.string ⟨ec.toArray⟩) ∧ w'.cell? ⟨w.heap.size, 3, none⟩ = some (.string ⟨en.toArray⟩) ∧ w'.cell? ⟨w.heap.size, 4, none⟩ = some (.string ⟨ed.toArray⟩)) ∧ (w'.cell? ⟨w.heap.size + 1, 0, none⟩ = some (.int .i64 k) ∧ w'.cell? ⟨w.heap.size + 1, 1, none⟩ = some (.string ⟨c.toArray⟩)) ∧ (w'.cell? ⟨w.heap.size + 1 + 1, 0, none⟩ = some (.int .i64 l) ∧ w'.cell? ⟨w.heap.size + 1 + 1, 1, none⟩ = some (.string ⟨d.toArray⟩))) v from fun v hv => And.intro (pr_cells (x := ⟨cs, A1, c1, ns, A2, c2, ec, en, ed⟩) ((hv.block _ (blk_lt h1)).trans h1)) (And.intro (fa_cells (a := (k, c)) ((hv.block _ (blk_lt h2)).trans h2)) (fa_cells (a := (l, d)) ((hv.block _ (blk_lt h3)).trans h3))))
 obtain ⟨J, hJ⟩ : ∃ j, j = joinF cs (k, c) (l, d) := ⟨_, rfl⟩
 obtain ⟨jk, jc⟩ := J
 dsimp only at HJO
 rw [← hJ] at HJO ⊢
 unfold prC at HJO ⊢
 unfold faC at HJO ⊢
 try dsimp only [List.cons_append, List.nil_append] at HJO ⊢
 have HJO := zh HJO
 have HAL := zh hal; have HW := zh hW
 clear h1 h2 h3 hal hW hpr hgr hH ha hb hJ
 have hmx : Try.prog.follows .mixedOrders = true := by kernel_rfl
 obtain ⟨r, hr⟩ : ∃ r, r = decide (((jk, jc) : Fa) = (l, d)) := ⟨_, rfl⟩
 rw [← hr]
 have HR := zh hr
 clear hr
 by_cases hkl : jk = l
 ·subst hkl
  by_cases hcd : jc = d
  ·subst hcd
   have HQ := zh (show r = true from by rw [HR.out]; simp)
   go_enter Try.func19, Try.ntmps19
   go_wp2_with fail
   try simp only [World.size_alloc]
   rw [← HW.out]
   (try go_wp2_with fail)
   refine wp_region_held_drew (S := fun w' : World => (w'.cell? ⟨w.heap.size, 0, none⟩ = some (.slice A1 cs.length c1) ∧ w'.cell? ⟨w.heap.size, 1, none⟩ = some (.slice A2 ns.length c2) ∧ w'.cell? ⟨w.heap.size, 2, none⟩ = some (.string ⟨ec.toArray⟩) ∧ w'.cell? ⟨w.heap.size, 3, none⟩ = some (.string ⟨en.toArray⟩) ∧ w'.cell? ⟨w.heap.size, 4, none⟩ = some (.string ⟨ed.toArray⟩)) ∧ (w'.cell? ⟨w.heap.size + 1, 0, none⟩ = some (.int .i64 k) ∧ w'.cell? ⟨w.heap.size + 1, 1, none⟩ = some (.string ⟨c.toArray⟩)) ∧ (w'.cell? ⟨w.heap.size + 1 + 1, 0, none⟩ = some (.int .i64 jk) ∧ w'.cell? ⟨w.heap.size + 1 + 1, 1, none⟩ = some (.string ⟨jc.toArray⟩))) (by kernel_rfl) ?_ (fun hHeld => ?_)
   ·exact HS.out _ ⟨rfl, rfl, rfl, Nat.le_refl _, fun _ _ => rfl⟩
   obtain ⟨u0, hWd⟩ : ∃ u, u = W.drew := ⟨_, rfl⟩
   have HB0 := zh (show Below W.heap.size W u0 from by rw [hWd]; exact ⟨rfl, rfl, rfl, Nat.le_refl _, fun _ _ => rfl⟩)
   rw [← hWd]
   have hS0 := HS.out _ HB0.out
   clear hWd
   refine tkp 0 rfl ?_
   refine tkp 1 rfl ?_
   refine tkp 2 rfl ?_
   refine tkp 4 rfl ?_
   clear hS0
   refine rdy 3 rfl (fun K hK => ?_)
   go_simp
   refine (HJO.out u0 (HAL.out.trans (HB0.out.mono HAL.out.size))).mono ?_
   rintro e u1 ⟨rfl, hb⟩
   have HB1 := zh (then' HB0.out hb)
   clear hb
   go_wp2_with fail
   refine hK.out _ _ (HS.out _ HB1.out) (fun hHeld => ?_)
   clear hK K
   try simp only [puts]
   have hS1 := HS.out _ HB1.out
   refine tkp 5 rfl ?_
   refine tkp 6 rfl ?_
   clear hS1
   refine wpAnyH_done (by kernel_rfl) ?_ _
   go_wp2
   go_ret
   exact ⟨by rw [HQ.out]; try rfl, HAL.out.trans (HB1.out.mono HAL.out.size)⟩
  ·have HQ := zh (show r = false from by rw [HR.out]; simp [hcd])
   go_enter Try.func19, Try.ntmps19
   go_wp2_with fail
   try simp only [World.size_alloc]
   rw [← HW.out]
   (try go_wp2_with fail)
   refine wp_region_held_drew (S := fun w' : World => (w'.cell? ⟨w.heap.size, 0, none⟩ = some (.slice A1 cs.length c1) ∧ w'.cell? ⟨w.heap.size, 1, none⟩ = some (.slice A2 ns.length c2) ∧ w'.cell? ⟨w.heap.size, 2, none⟩ = some (.string ⟨ec.toArray⟩) ∧ w'.cell? ⟨w.heap.size, 3, none⟩ = some (.string ⟨en.toArray⟩) ∧ w'.cell? ⟨w.heap.size, 4, none⟩ = some (.string ⟨ed.toArray⟩)) ∧ (w'.cell? ⟨w.heap.size + 1, 0, none⟩ = some (.int .i64 k) ∧ w'.cell? ⟨w.heap.size + 1, 1, none⟩ = some (.string ⟨c.toArray⟩)) ∧ (w'.cell? ⟨w.heap.size + 1 + 1, 0, none⟩ = some (.int .i64 jk) ∧ w'.cell? ⟨w.heap.size + 1 + 1, 1, none⟩ = some (.string ⟨d.toArray⟩))) (by kernel_rfl) ?_ (fun hHeld => ?_)
   ·exact HS.out _ ⟨rfl, rfl, rfl, Nat.le_refl _, fun _ _ => rfl⟩
   obtain ⟨u0, hWd⟩ : ∃ u, u = W.drew := ⟨_, rfl⟩
   have HB0 := zh (show Below W.heap.size W u0 from by rw [hWd]; exact ⟨rfl, rfl, rfl, Nat.le_refl _, fun _ _ => rfl⟩)
   rw [← hWd]
   have hS0 := HS.out _ HB0.out
   clear hWd
   refine tkp 0 rfl ?_
   refine tkp 1 rfl ?_
   refine tkp 2 rfl ?_
   refine tkp 4 rfl ?_
   clear hS0
   refine rdy 3 rfl (fun K hK => ?_)
   go_simp
   refine (HJO.out u0 (HAL.out.trans (HB0.out.mono HAL.out.size))).mono ?_
   rintro e u1 ⟨rfl, hb⟩
   have HB1 := zh (then' HB0.out hb)
   clear hb
   go_wp2_with fail
   refine hK.out _ _ (HS.out _ HB1.out) (fun hHeld => ?_)
   clear hK K
   try simp only [puts]
   have hS1 := HS.out _ HB1.out
   refine tkp 5 rfl ?_
   refine tkp 6 rfl ?_
   clear hS1
   refine wpAnyH_done (by kernel_rfl) ?_ _
   go_wp2
   go_ret
   exact ⟨by rw [HQ.out]; try rfl, HAL.out.trans (HB1.out.mono HAL.out.size)⟩
 ·have HQ := zh (show r = false from by rw [HR.out]; simp [hkl])
  go_enter Try.func19, Try.ntmps19
  go_wp2_with fail
  try simp only [World.size_alloc]
  rw [← HW.out]
  (try go_wp2_with fail)
  refine wp_region_held_drew (S := fun w' : World => (w'.cell? ⟨w.heap.size, 0, none⟩ = some (.slice A1 cs.length c1) ∧ w'.cell? ⟨w.heap.size, 1, none⟩ = some (.slice A2 ns.length c2) ∧ w'.cell? ⟨w.heap.size, 2, none⟩ = some (.string ⟨ec.toArray⟩) ∧ w'.cell? ⟨w.heap.size, 3, none⟩ = some (.string ⟨en.toArray⟩) ∧ w'.cell? ⟨w.heap.size, 4, none⟩ = some (.string ⟨ed.toArray⟩)) ∧ (w'.cell? ⟨w.heap.size + 1, 0, none⟩ = some (.int .i64 k) ∧ w'.cell? ⟨w.heap.size + 1, 1, none⟩ = some (.string ⟨c.toArray⟩)) ∧ (w'.cell? ⟨w.heap.size + 1 + 1, 0, none⟩ = some (.int .i64 l) ∧ w'.cell? ⟨w.heap.size + 1 + 1, 1, none⟩ = some (.string ⟨d.toArray⟩))) (by kernel_rfl) ?_ (fun hHeld => ?_)
  ·exact HS.out _ ⟨rfl, rfl, rfl, Nat.le_refl _, fun _ _ => rfl⟩
  obtain ⟨u0, hWd⟩ : ∃ u, u = W.drew := ⟨_, rfl⟩
  have HB0 := zh (show Below W.heap.size W u0 from by rw [hWd]; exact ⟨rfl, rfl, rfl, Nat.le_refl _, fun _ _ => rfl⟩)
  rw [← hWd]
  have hS0 := HS.out _ HB0.out
  clear hWd
  refine tkp 0 rfl ?_
  refine tkp 1 rfl ?_
  refine tkp 2 rfl ?_
  refine tkp 4 rfl ?_
  clear hS0
  refine rdy 3 rfl (fun K hK => ?_)
  go_simp
  refine (HJO.out u0 (HAL.out.trans (HB0.out.mono HAL.out.size))).mono ?_
  rintro e u1 ⟨rfl, hb⟩
  have HB1 := zh (then' HB0.out hb)
  clear hb
  go_wp2_with fail
  refine hK.out _ _ (HS.out _ HB1.out) (fun hHeld => ?_)
  clear hK K
  try simp only [puts]
  have hS1 := HS.out _ HB1.out
  refine tkp 5 rfl ?_
  refine tkp 6 rfl ?_
  clear hS1
  refine wpAnyH_done (by kernel_rfl) ?_ _
  go_wp2
  go_ret
  exact ⟨by rw [HQ.out]; try rfl, HAL.out.trans (HB1.out.mono HAL.out.size)⟩
def nearK (k : Int) : Int := (k.tmod 7 + 7).tmod 7
def nearC (cs : List ClM) (n : Nat) : Tx := if 0 < cs.length ∧ n < 250 then (match cs[n % cs.length]? with | some c => c.nm | none => []) else [78, 111]
def nearF (cs : List ClM) (k : Int) (n : Nat) : Fa := (nearK k, if nearK k = 3 ∨ nearK k = 5 then nearC cs n else [])
def knJ (cs : List ClM) : List Tx := [78, 111] :: [] :: cs.flatMap fun c => c.nm :: abv c
theorem knJ_nm {cs : List ClM} {c : ClM} (h : c ∈ cs) : c.nm ∈ knJ cs := List.mem_cons_of_mem _ (List.mem_cons_of_mem _ (List.mem_flatMap.2 ⟨c, h, by simp⟩))
theorem nearC_kn (cs : List ClM) (n : Nat) : nearC cs n ∈ knJ cs := by
 unfold nearC
 split
 ·split
  ·rename_i h; exact knJ_nm (List.mem_of_getElem? h)
  ·simp [knJ]
 ·simp [knJ]
theorem tmod_in (k : Int) : -6 ≤ k.tmod 7 ∧ k.tmod 7 ≤ 6 := by
 obtain ⟨n, rfl | rfl⟩ := Int.eq_nat_or_neg k
 ·have e : (n : Int).tmod 7 = ((n % 7 : Nat) : Int) := rfl
  rw [e]; omega
 ·have e : (-(n : Int)).tmod 7 = -((n % 7 : Nat) : Int) := by rw [Int.neg_tmod]; rfl
  rw [e]; omega
theorem nearK_in (k : Int) : 0 ≤ nearK k ∧ nearK k ≤ 6 := by
 unfold nearK
 have h := tmod_in k
 obtain ⟨n, hn⟩ : ∃ n : Nat, (n : Int) = k.tmod 7 + 7 := ⟨(k.tmod 7 + 7).toNat, by omega⟩
 rw [← hn]
 have e : (n : Int).tmod 7 = ((n % 7 : Nat) : Int) := rfl
 rw [e]; omega
theorem near_fk (cs : List ClM) (k : Int) (n : Nat) : ∃ z : FK, nearF cs k n = toF z ∧ ((toF z).1 = 3 → (toF z).2 ∈ knJ cs) := by
 have h := nearK_in k
 have hc := nearC_kn cs n
 unfold nearF
 generalize nearK k = j at h
 generalize nearC cs n = c at hc
 have : j = 0 ∨ j = 1 ∨ j = 2 ∨ j = 3 ∨ j = 4 ∨ j = 5 ∨ j = 6 := by omega
 rcases this with rfl | rfl | rfl | rfl | rfl | rfl | rfl
 ·exact ⟨.un, by simp [toF], by simp [toF]⟩
 ·exact ⟨.it, by simp [toF], by simp [toF]⟩
 ·exact ⟨.ni, by simp [toF], by simp [toF]⟩
 ·exact ⟨.rf c, by simp [toF], fun _ => hc⟩
 ·exact ⟨.is, by simp [toF], by simp [toF]⟩
 ·exact ⟨.rs c, by simp [toF], by simp [toF]⟩
 ·exact ⟨.an, by simp [toF], by simp [toF]⟩
theorem sup_has (cs : List ClM) (a s : Tx) (h : s ∈ supersL cs a) : (findC cs s).isSome = true := by
 have key : ∀ (f : Nat) (t : Tx) (l : List Tx), (∀ o ∈ l, (findC cs o).isSome = true) → ∀ o ∈ supS cs f t l, (findC cs o).isSome = true := by
  intro f
  induction f with
  | zero => intro t l hl; exact hl
  | succ f ih =>
   intro t l hl
   unfold supS
   cases hf : findC cs t with
   | none => exact hl
   | some c =>
    dsimp only
    by_cases hc : l.contains t = true
    ·rw [if_pos hc]; exact hl
    ·rw [if_neg hc]
     refine ih _ _ fun o ho => ?_
     rcases List.mem_append.1 ho with h | h
     ·exact hl o h
     ·simp at h; subst h; rw [hf]; rfl
 exact key _ a [] (by simp) s h
theorem JK_kn {cs : List ClM} {Kn : List Tx} (hn : ∀ c ∈ cs, c.nm ∈ Kn) {x y : FK} (hx : (toF x).1 = 3 → (toF x).2 ∈ Kn) (hy : (toF y).1 = 3 → (toF y).2 ∈ Kn) : (toF (JK cs x y)).1 = 3 → (toF (JK cs x y)).2 ∈ Kn := by
 cases x <;> cases y <;> simp only [JK, refK, arrK] <;> (try exact hx) <;> (try exact hy) <;> (try (intro h; simp [toF] at h; done))
 ·rename_i a b
  split
  ·exact hx
  ·split
   ·intro h; simp [toF] at h
   ·rename_i hc
    intro _
    show commonE cs a b ∈ Kn
    unfold commonE commonN at hc ⊢
    split at hc
    ·exact absurd rfl hc
    ·rename_i hn2
     rw [if_neg hn2]
     unfold nearL at hc ⊢
     cases hf : (supersL cs a).find? (fun s => (supersL cs b).contains s) with
     | none => rw [hf] at hc; exact absurd rfl hc
     | some s =>
      have hm := List.mem_of_find?_eq_some hf
      have hs := sup_has cs a s hm
      obtain ⟨c, hc2⟩ := Option.isSome_iff_exists.1 hs
      have := hn c (findC_nm hc2).2
      rw [(findC_nm hc2).1] at this
      exact this
 ·rename_i a b
  split <;> (intro h; simp [toF] at h)
theorem near_j (x : PrM) (f : Fa) (n : Nat) (w : World) (hpr : PrOk w x) (h70 : x.cs.length ≤ 70) (h256 : n < 256) :
  Calls Try.prog 17 #[.agg (prC x).toArray, .agg (faC f).toArray, .int .u8 (n : Int)] w fun e w' => e = .returned (.agg (faC (nearF x.cs f.1 n)).toArray) ∧ Below w.heap.size w w' := by
 obtain ⟨cs, A1, c1, ns, A2, c2, ec, en, ed⟩ := x
 obtain ⟨k, c⟩ := f
 have ht := tmod_in k
 have hk := nearK_in k
 obtain ⟨m1, hm1⟩ : ∃ m, m = k.tmod 7 := ⟨_, rfl⟩
 obtain ⟨m2, hm2⟩ : ∃ m, m = nearK k := ⟨_, rfl⟩
 unfold nearF
 dsimp only
 rw [← hm2]
 rw [← hm1] at ht
 rw [← hm2] at hk
 have e1 : k.tmod 7 = m1 := hm1.symm
 have e2 : (m1 + 7).tmod 7 = m2 := by rw [hm1, hm2]; rfl
 have wr1 : IntKind.i64.wrap (m1 + 7) = m1 + 7 := IntWalk.i64_in _ (by omega)
 have wr2 : IntKind.i64.wrap m1 = m1 := IntWalk.i64_in _ (by omega)
 have wr3 : IntKind.i64.wrap m2 = m2 := IntWalk.i64_in _ (by omega)
 clear hm1 hm2
 obtain ⟨L, hL⟩ : ∃ l, l = cs.length := ⟨_, rfl⟩
 have hL70 : L ≤ 70 := by rw [hL]; exact h70
 unfold prC faC
 try dsimp only [List.cons_append, List.nil_append]
 obtain ⟨C, hC⟩ : ∃ c, c = (if m2 = 3 ∨ m2 = 5 then nearC cs n else []) := ⟨_, rfl⟩
 rw [← hC, ← hL]
 have HNC := zh (show nearC cs n = if 0 < L ∧ n < 250 then (match cs[n % L]? with | some c => c.nm | none => []) else [78, 111] from by rw [hL]; rfl)
 have HLL := zh hL
 clear hL
 by_cases h35 : m2 = 3 ∨ m2 = 5
 ·have HQ := zh (show C = nearC cs n from hC.trans (if_pos h35))
  clear hC
  by_cases hLn : 0 < L ∧ n < 250
  ·obtain ⟨hL0, hn5⟩ := hLn
   have hn5I : (n : Int) < 250 := by omega
   have hL0I : (0 : Int) < (L : Int) := by omega
   obtain ⟨j, hjj⟩ : ∃ j, j = n % L := ⟨_, rfl⟩
   have hjL : j < L := by rw [hjj]; exact Nat.mod_lt _ (by omega)
   have hjLI : (j : Int) < (L : Int) := by omega
   have hj0I : (0 : Int) ≤ (j : Int) := by omega
   obtain ⟨y, hy⟩ : ∃ y, cs[j]? = some y := ⟨cs[j]'(by rw [← HLL.out]; exact hjL), List.getElem?_eq_getElem _⟩
   have HQ2 := zh (show nearC cs n = y.nm from by rw [HNC.out, if_pos ⟨hL0, hn5⟩, ← hjj, hy])
   have hma : (n : Int).tmod (L : Int) = (j : Int) := by rw [hjj]; rfl
   have hea : (n : Int) % (L : Int) = (j : Int) := by rw [hjj]; rfl
   have hLnI : ¬ (L : Int) = 0 := by omega
   have hwa : IntKind.i64.wrap (n : Int) = (n : Int) := IntWalk.i64_in _ (by omega)
   have hwj : IntKind.i64.wrap (j : Int) = (j : Int) := IntWalk.i64_in _ (by omega)
   have hmx : Try.prog.follows .mixedOrders = true := by kernel_rfl
   clear hjj
   rcases h35 with rfl | rfl
   ·skip
    go_enter Try.func17, Try.ntmps17
    go_wp2_with fail
    try simp only [World.size_alloc]
    obtain ⟨W, hW⟩ : ∃ W, W = ((w.alloc (.cells #[.slice A1 L c1, .slice A2 ns.length c2, .string ⟨ec.toArray⟩, .string ⟨en.toArray⟩, .string ⟨ed.toArray⟩] 27)).alloc (.cells #[.int .i64 3, .string ⟨#[78, 111]⟩] 50)).alloc (.cells #[.int .i64 0, .string ⟨#[]⟩] 50) := ⟨_, rfl⟩
    obtain ⟨h1, h2, h3, hal⟩ := three w _ _ _ W hW
    rw [← hW]
    have h1' := h1
    rw [HLL.out] at h1'
    obtain ⟨x0, x1, x2, x3, x4⟩ := pr_cells (x := ⟨cs, A1, c1, ns, A2, c2, ec, en, ed⟩) h1'
    clear h1'
    have y0 := cell_of_row _ _ 0 _ _ _ h2; have y1 := cell_of_row _ _ 1 _ _ _ h2
    have f0 := frozen_of_row _ _ 0 _ _ h2; have f1 := frozen_of_row _ _ 1 _ _ h2
    dsimp only at x0 x1 x2 x3 x4
    rw [← HLL.out] at x0
    have hrd := (hpr.below hal).1.2
    obtain ⟨a, ha, -, p0, p1, p2, p3, p4, p5, p6⟩ := cl_at hrd hy
    dsimp only at ha
    subst ha
    have HAL := zh hal; have H1 := zh h1; have H2 := zh h2; have H3 := zh h3; have HW := zh hW
    clear hal h1 h2 h3 hW hpr hrd hy p1 p2 p3 p4 p5 p6
    go_region
    obtain ⟨V, hV⟩ : ∃ v, v = (W.setCell ⟨w.heap.size + 1, 1, none⟩ (.string ⟨y.nm.toArray⟩)).drew := ⟨_, rfl⟩
    have s1 := heap_setCell_same _ (w.heap.size + 1) 1 _ _ (.string ⟨y.nm.toArray⟩) H2.out
    have v2 : V.heap[w.heap.size + 1]? = some (.cells #[.int .i64 3, .string ⟨y.nm.toArray⟩] 50 (0, 0)) := by rw [hV]; show (W.setCell _ _).heap[_]? = _; rw [s1]; simp
    have v3 : V.heap[w.heap.size + 1 + 1]? = some (.cells #[.int .i64 0, .string ⟨#[]⟩] 50 (0, 0)) := by rw [hV]; show (W.setCell _ _).heap[_]? = _; rw [heap_setCell_other _ _ _ _ (by simp)]; exact H3.out
    have kb : Below w.heap.size w V := by rw [hV]; exact ⟨HAL.out.os, HAL.out.tape, HAL.out.output, by simpa using HAL.out.size, fun q hq => (heap_setCell_other _ _ _ _ (by simp; omega)).trans (HAL.out.block q hq)⟩
    rw [← hV]
    clear hV s1 x0 x1 x2 x3 x4 y0 y1 f0 f1 p0
    have y0 := cell_of_row _ _ 0 _ _ _ v2; have y1 := cell_of_row _ _ 1 _ _ _ v2
    have r0 := cell_of_row _ _ 0 _ _ _ v3; have r1 := cell_of_row _ _ 1 _ _ _ v3
    have f0 := frozen_of_row _ _ 0 _ _ v3; have f1 := frozen_of_row _ _ 1 _ _ v3
    have s9 := fa_set (3, y.nm) v3
    have b9 := set_below (b := w.heap.size + 1 + 1) (3, y.nm) kb (by omega)
    dsimp only at s9 b9
    have t0 := cell_of_row _ _ 0 _ _ _ s9; have t1 := cell_of_row _ _ 1 _ _ _ s9
    have B9 := zh b9; have T0 := zh t0; have T1 := zh t1
    clear s9 b9 t0 t1 v2 v3 kb
    (try go_wp2_with fail)
    refine bodyPost_ret (v := .agg #[.int .i64 3, .string ⟨y.nm.toArray⟩]) ?_ rfl ⟨by rw [HQ.out, HQ2.out], B9.out⟩
    simp [results, Try.results17, go_sem, T0.out, T1.out]
   ·skip
    go_enter Try.func17, Try.ntmps17
    go_wp2_with fail
    try simp only [World.size_alloc]
    obtain ⟨W, hW⟩ : ∃ W, W = ((w.alloc (.cells #[.slice A1 L c1, .slice A2 ns.length c2, .string ⟨ec.toArray⟩, .string ⟨en.toArray⟩, .string ⟨ed.toArray⟩] 27)).alloc (.cells #[.int .i64 5, .string ⟨#[78, 111]⟩] 50)).alloc (.cells #[.int .i64 0, .string ⟨#[]⟩] 50) := ⟨_, rfl⟩
    obtain ⟨h1, h2, h3, hal⟩ := three w _ _ _ W hW
    rw [← hW]
    have h1' := h1
    rw [HLL.out] at h1'
    obtain ⟨x0, x1, x2, x3, x4⟩ := pr_cells (x := ⟨cs, A1, c1, ns, A2, c2, ec, en, ed⟩) h1'
    clear h1'
    have y0 := cell_of_row _ _ 0 _ _ _ h2; have y1 := cell_of_row _ _ 1 _ _ _ h2
    have f0 := frozen_of_row _ _ 0 _ _ h2; have f1 := frozen_of_row _ _ 1 _ _ h2
    dsimp only at x0 x1 x2 x3 x4
    rw [← HLL.out] at x0
    have hrd := (hpr.below hal).1.2
    obtain ⟨a, ha, -, p0, p1, p2, p3, p4, p5, p6⟩ := cl_at hrd hy
    dsimp only at ha
    subst ha
    have HAL := zh hal; have H1 := zh h1; have H2 := zh h2; have H3 := zh h3; have HW := zh hW
    clear hal h1 h2 h3 hW hpr hrd hy p1 p2 p3 p4 p5 p6
    go_region
    obtain ⟨V, hV⟩ : ∃ v, v = (W.setCell ⟨w.heap.size + 1, 1, none⟩ (.string ⟨y.nm.toArray⟩)).drew := ⟨_, rfl⟩
    have s1 := heap_setCell_same _ (w.heap.size + 1) 1 _ _ (.string ⟨y.nm.toArray⟩) H2.out
    have v2 : V.heap[w.heap.size + 1]? = some (.cells #[.int .i64 5, .string ⟨y.nm.toArray⟩] 50 (0, 0)) := by rw [hV]; show (W.setCell _ _).heap[_]? = _; rw [s1]; simp
    have v3 : V.heap[w.heap.size + 1 + 1]? = some (.cells #[.int .i64 0, .string ⟨#[]⟩] 50 (0, 0)) := by rw [hV]; show (W.setCell _ _).heap[_]? = _; rw [heap_setCell_other _ _ _ _ (by simp)]; exact H3.out
    have kb : Below w.heap.size w V := by rw [hV]; exact ⟨HAL.out.os, HAL.out.tape, HAL.out.output, by simpa using HAL.out.size, fun q hq => (heap_setCell_other _ _ _ _ (by simp; omega)).trans (HAL.out.block q hq)⟩
    rw [← hV]
    clear hV s1 x0 x1 x2 x3 x4 y0 y1 f0 f1 p0
    have y0 := cell_of_row _ _ 0 _ _ _ v2; have y1 := cell_of_row _ _ 1 _ _ _ v2
    have r0 := cell_of_row _ _ 0 _ _ _ v3; have r1 := cell_of_row _ _ 1 _ _ _ v3
    have f0 := frozen_of_row _ _ 0 _ _ v3; have f1 := frozen_of_row _ _ 1 _ _ v3
    have s9 := fa_set (5, y.nm) v3
    have b9 := set_below (b := w.heap.size + 1 + 1) (5, y.nm) kb (by omega)
    dsimp only at s9 b9
    have t0 := cell_of_row _ _ 0 _ _ _ s9; have t1 := cell_of_row _ _ 1 _ _ _ s9
    have B9 := zh b9; have T0 := zh t0; have T1 := zh t1
    clear s9 b9 t0 t1 v2 v3 kb
    (try go_wp2_with fail)
    refine bodyPost_ret (v := .agg #[.int .i64 5, .string ⟨y.nm.toArray⟩]) ?_ rfl ⟨by rw [HQ.out, HQ2.out], B9.out⟩
    simp [results, Try.results17, go_sem, T0.out, T1.out]
  ·have HQ2 := zh (show nearC cs n = [78, 111] from by rw [HNC.out, if_neg hLn])
   have hdec : 0 < L → ¬ (n : Int) < 250 := fun h => by omega
   clear hpr
   by_cases hL0 : 0 < L
   ·have hn5 : ¬ (n : Int) < 250 := hdec hL0
    have hn6 : (250 : Int) ≤ (n : Int) := by omega
    clear hdec hLn
    rcases h35 with rfl | rfl
    ·skip
     go_enter Try.func17, Try.ntmps17
     go_wp2_with fail
     try simp only [World.size_alloc]
     obtain ⟨W, hW⟩ : ∃ W, W = ((w.alloc (.cells #[.slice A1 L c1, .slice A2 ns.length c2, .string ⟨ec.toArray⟩, .string ⟨en.toArray⟩, .string ⟨ed.toArray⟩] 27)).alloc (.cells #[.int .i64 3, .string ⟨#[78, 111]⟩] 50)).alloc (.cells #[.int .i64 3, .string ⟨#[78, 111]⟩] 50) := ⟨_, rfl⟩
     obtain ⟨h1, h2, h3, hal⟩ := three w _ _ _ W hW
     rw [← hW]
     have t0 := cell_of_row _ _ 0 _ _ _ h3; have t1 := cell_of_row _ _ 1 _ _ _ h3
     refine bodyPost_ret (v := .agg #[.int .i64 3, .string ⟨#[78, 111]⟩]) ?_ rfl ⟨by rw [HQ.out, HQ2.out], hal⟩
     simp [results, Try.results17, go_sem, t0, t1]
    ·skip
     go_enter Try.func17, Try.ntmps17
     go_wp2_with fail
     try simp only [World.size_alloc]
     obtain ⟨W, hW⟩ : ∃ W, W = ((w.alloc (.cells #[.slice A1 L c1, .slice A2 ns.length c2, .string ⟨ec.toArray⟩, .string ⟨en.toArray⟩, .string ⟨ed.toArray⟩] 27)).alloc (.cells #[.int .i64 5, .string ⟨#[78, 111]⟩] 50)).alloc (.cells #[.int .i64 5, .string ⟨#[78, 111]⟩] 50) := ⟨_, rfl⟩
     obtain ⟨h1, h2, h3, hal⟩ := three w _ _ _ W hW
     rw [← hW]
     have t0 := cell_of_row _ _ 0 _ _ _ h3; have t1 := cell_of_row _ _ 1 _ _ _ h3
     refine bodyPost_ret (v := .agg #[.int .i64 5, .string ⟨#[78, 111]⟩]) ?_ rfl ⟨by rw [HQ.out, HQ2.out], hal⟩
     simp [results, Try.results17, go_sem, t0, t1]
   ·clear hdec hLn
    rcases h35 with rfl | rfl
    ·skip
     go_enter Try.func17, Try.ntmps17
     go_wp2_with fail
     try simp only [World.size_alloc]
     obtain ⟨W, hW⟩ : ∃ W, W = ((w.alloc (.cells #[.slice A1 L c1, .slice A2 ns.length c2, .string ⟨ec.toArray⟩, .string ⟨en.toArray⟩, .string ⟨ed.toArray⟩] 27)).alloc (.cells #[.int .i64 3, .string ⟨#[78, 111]⟩] 50)).alloc (.cells #[.int .i64 3, .string ⟨#[78, 111]⟩] 50) := ⟨_, rfl⟩
     obtain ⟨h1, h2, h3, hal⟩ := three w _ _ _ W hW
     rw [← hW]
     have t0 := cell_of_row _ _ 0 _ _ _ h3; have t1 := cell_of_row _ _ 1 _ _ _ h3
     refine bodyPost_ret (v := .agg #[.int .i64 3, .string ⟨#[78, 111]⟩]) ?_ rfl ⟨by rw [HQ.out, HQ2.out], hal⟩
     simp [results, Try.results17, go_sem, t0, t1]
    ·skip
     go_enter Try.func17, Try.ntmps17
     go_wp2_with fail
     try simp only [World.size_alloc]
     obtain ⟨W, hW⟩ : ∃ W, W = ((w.alloc (.cells #[.slice A1 L c1, .slice A2 ns.length c2, .string ⟨ec.toArray⟩, .string ⟨en.toArray⟩, .string ⟨ed.toArray⟩] 27)).alloc (.cells #[.int .i64 5, .string ⟨#[78, 111]⟩] 50)).alloc (.cells #[.int .i64 5, .string ⟨#[78, 111]⟩] 50) := ⟨_, rfl⟩
     obtain ⟨h1, h2, h3, hal⟩ := three w _ _ _ W hW
     rw [← hW]
     have t0 := cell_of_row _ _ 0 _ _ _ h3; have t1 := cell_of_row _ _ 1 _ _ _ h3
     refine bodyPost_ret (v := .agg #[.int .i64 5, .string ⟨#[78, 111]⟩]) ?_ rfl ⟨by rw [HQ.out, HQ2.out], hal⟩
     simp [results, Try.results17, go_sem, t0, t1]
 ·have HQ := zh (show C = [] from hC.trans (if_neg h35))
  clear hC
  have g3 : ¬ m2 = 3 := fun e => h35 (.inl e)
  have g5 : ¬ m2 = 5 := fun e => h35 (.inr e)
  have g3b : (m2 == 3) = false := beq_eq_false_iff_ne.2 g3
  have g5b : (m2 == 5) = false := beq_eq_false_iff_ne.2 g5
  clear h35 hpr
  go_enter Try.func17, Try.ntmps17
  go_wp2_with fail
  try simp only [World.size_alloc]
  obtain ⟨W, hW⟩ : ∃ W, W = ((w.alloc (.cells #[.slice A1 L c1, .slice A2 ns.length c2, .string ⟨ec.toArray⟩, .string ⟨en.toArray⟩, .string ⟨ed.toArray⟩] 27)).alloc (.cells #[.int .i64 m2, .string ⟨#[]⟩] 50)).alloc (.cells #[.int .i64 m2, .string ⟨#[]⟩] 50) := ⟨_, rfl⟩
  obtain ⟨h1, h2, h3, hal⟩ := three w _ _ _ W hW
  rw [← hW]
  have t0 := cell_of_row _ _ 0 _ _ _ h3; have t1 := cell_of_row _ _ 1 _ _ _ h3
  refine bodyPost_ret (v := .agg #[.int .i64 m2, .string ⟨#[]⟩]) ?_ rfl ⟨by rw [HQ.out], hal⟩
  simp [results, Try.results17, go_sem, t0, t1]
end Go.Proofs.Ytdifmgeicnndfaa.prg
namespace Go.Proofs.Ytdifmgeicnndfaa.prg
open Go.RowKit
open words kindp opp op kind word
set_option maxRecDepth 100000
set_option maxHeartbeats 4000000
set_option linter.all false
theorem rplace_cl (x : PrM) (s : Tx) (w : World) (hr : Rd w x.A1 (x.cs.flatMap clC)) (hl : x.cs.length ≤ 140737488351232) : Calls Try.prog 11 #[.agg (prC x).toArray, .string ⟨s.toArray⟩] w fun e w' => ∃ r, e = .returned (.int .i64 r) ∧ Idx (fun u : ClM => (u.nm == s)) x.cs r ∧ Below w.heap.size w w' := by
 obtain ⟨W, hW⟩ : ∃ W, W = w.alloc (.cells (prC x).toArray 27) := ⟨_, rfl⟩
 have hal : Below w.heap.size w W := by rw [hW]; exact (Below.refl _ w).alloc (Nat.le_refl _) _
 have HAL := zh hal
 have hblk : W.heap[w.heap.size]? = some (.cells (prC x).toArray 27 (0, 0)) := by rw [hW]; exact heap_alloc_new w _
 have HBK := zh hblk; have HLT := zh (blk_lt hblk)
 obtain ⟨x0_0, x0_1, x0_2, x0_3, x0_4⟩ := pr_cells hblk
 have K0 := zh (Below.refl W.heap.size W)
 have HRD := zh (hr.below hal)
 obtain ⟨n, hn⟩ : ∃ n, n = x.cs.length := ⟨_, rfl⟩
 rw [← hn] at hl
 have nI : (n : Int) ≤ 281474976710656 := by omega
 have HN := zh hn
 have HCE := zh (show ∀ v : World, Below W.heap.size W v → v.cell? ⟨w.heap.size, 0, none⟩ = some (.slice x.A1 n x.c1) from fun v hv => by
  have h := pr_cells ((hv.block _ HLT.out).trans HBK.out)
  rw [hn]; exact h.1)
 clear x0_0 x0_1 x0_2 x0_3 x0_4
 have x0 := HCE.out W K0.out
 unfold prC at hW ⊢
 rw [← hn] at hW ⊢
 try dsimp only at hW ⊢
 have HW := zh hW
 clear hal hblk hW hr hn hl
 go_enter Try.func11, Try.ntmps11
 go_wp2_with fail
 rw [← HW.out]
 (try go_wp2_with fail)
 clear x0
 go_loopw [5] (fun i wr => ∃ k : Nat, i = .int .i64 (k : Int) ∧ k ≤ n ∧ (∀ t ∈ x.cs.take k, (fun u : ClM => (u.nm == s)) t = false) ∧ Below W.heap.size W wr) (fun i _ => n - (intOf i).toNat)
 case atStart => exact ⟨0, rfl, Nat.zero_le _, by simp, K0.out⟩
 case round =>
  obtain ⟨k, rfl, hk, hall, hbw⟩ := hrel
  obtain ⟨wa, wa_eq⟩ : ∃ v, v = wr := ⟨_, rfl⟩
  subst wa_eq
  have HA := zh hall; have HB := zh hbw
  have g0 := HCE.out _ hbw
  clear hall
  by_cases hlt : k < n
  ·have hltI : (k : Int) < (n : Int) := by omega
   obtain ⟨u, hx⟩ : ∃ u, x.cs[k]? = some u := ⟨x.cs[k]'(by rw [← HN.out]; exact hlt), List.getElem?_eq_getElem _⟩
   obtain ⟨a, ea, ha, c0, c1, c2, c3, c4, c5, c6⟩ := cl_at (HRD.out.below hbw) hx
   rw [ea] at g0
   have hmt := take_more (P := (fun u : ClM => (u.nm == s))) HA.out hx
   cases h1 : (u.nm == s) with
   | true =>
    have HI := zh (show Idx (fun u : ClM => (u.nm == s)) x.cs (k : Int) from .inr ⟨k, _, rfl, hx, h1, HA.out⟩)
    clear hx hmt hbw ha ea
    go_wp2
    go_ret
    exact ⟨_, rfl, HI.out, HAL.out.trans (HB.out.mono HAL.out.size)⟩
   | false =>
    have HM := zh (hmt (h1))
    clear hx hmt hbw ha ea
    go_wp2
    go_roundw
    case rel => exact ⟨k + 1, by go_num, by omega, HM.out, HB.out⟩
    case measure => simp [intOf]; omega
  ·have hltI : ¬ (k : Int) < (n : Int) := by omega
   have hall := HA.out
   rw [List.take_of_length_le (by rw [← HN.out]; omega)] at hall
   have HI := zh (show Idx (fun u : ClM => (u.nm == s)) x.cs (-1) from .inl ⟨rfl, hall⟩)
   clear hall hbw
   go_wp2
   go_ret
   exact ⟨_, rfl, HI.out, HAL.out.trans (HB.out.mono HAL.out.size)⟩
end Go.Proofs.Ytdifmgeicnndfaa.prg
namespace Go.Proofs.Ytdifmgeicnndfaa.prg
open Go.RowKit
open words kindp opp op kind word
set_option maxRecDepth 100000
set_option maxHeartbeats 8000000
set_option linter.all false
theorem rin_w (A : Option Addr) (c : Nat) (l : List Tx) (s : Tx) (w : World) (hr : Rd w A (SX l)) (hl : l.length ≤ 281474976710656) :
  Calls Try.prog 80 #[.slice A l.length c, .string ⟨s.toArray⟩] w fun e w' => e = .returned (.bool (l.contains s)) ∧ Below w.heap.size w w' := by
 obtain ⟨n, hn⟩ : ∃ n, n = l.length := ⟨_, rfl⟩
 rw [← hn] at hl ⊢
 have hnI : (n : Int) ≤ 281474976710656 := by omega
 have HN := zh hn; have HRD := zh hr
 obtain ⟨b, hb⟩ : ∃ b, b = l.contains s := ⟨_, rfl⟩
 rw [← hb]
 have HBB := zh hb
 clear hr hn hl hb
 go_enter Try.func80, Try.ntmps80
 go_wp2
 go_loopw [5] (fun i wr => ∃ k : Nat, i = .int .i64 (k : Int) ∧ k ≤ n ∧ (∀ t ∈ l.take k, (fun y : Tx => y == s) t = false) ∧ Below w.heap.size w wr) (fun i _ => n - (intOf i).toNat)
 case atStart => exact ⟨0, rfl, Nat.zero_le _, by simp, Below.refl _ _⟩
 case round =>
  obtain ⟨k, rfl, hk, hall, hbw⟩ := hrel
  have HA := zh hall; have HB := zh hbw
  clear hall
  by_cases hlt : k < n
  ·have hltI : (k : Int) < (n : Int) := by omega
   obtain ⟨y, hy⟩ : ∃ y, l[k]? = some y := ⟨l[k]'(by rw [← HN.out]; exact hlt), List.getElem?_eq_getElem _⟩
   obtain ⟨a, rfl, _, hcell⟩ := (HRD.out.below hbw).at_ (sx_get hy)
   have hmt := take_more (P := (fun y : Tx => y == s)) HA.out hy
   cases hsy : (y == s) with
   | true =>
    obtain rfl : b = true := HBB.out.trans (show l.contains s = true from List.contains_iff_mem.2 (by rw [← show y = s from by simpa using hsy]; exact List.mem_of_getElem? hy))
    clear hy hmt hbw
    go_wp2
    go_ret
    exact ⟨rfl, HB.out⟩
   | false =>
    have HM := zh (hmt hsy)
    clear hy hmt hbw
    go_wp2
    go_roundw
    case rel => exact ⟨k + 1, by go_num, by omega, HM.out, HB.out⟩
    case measure => simp [intOf]; omega
  ·have hltI : ¬ (k : Int) < (n : Int) := by omega
   have hall := HA.out
   rw [List.take_of_length_le (by rw [← HN.out]; omega)] at hall
   obtain rfl : b = false := HBB.out.trans (show l.contains s = false from by
    cases hc : l.contains s with
    | false => rfl
    | true => have := hall s (List.contains_iff_mem.1 hc); simp at this)
   clear hall hbw
   go_wp2
   go_ret
   exact ⟨rfl, HB.out⟩
theorem riface_w (x : PrM) (s : Tx) (w : World) (hpr : PrOk w x) (h70 : x.cs.length ≤ 70) :
  Calls Try.prog 47 #[.agg (prC x).toArray, .string ⟨s.toArray⟩] w fun e w' => e = .returned (.bool ((findC x.cs s).elim false (·.fc))) ∧ Below w.heap.size w w' := by
 obtain ⟨cs, A1, c1, ns, A2, c2, ec, en, ed⟩ := x
 obtain ⟨W, hW⟩ : ∃ W, W = w.alloc (.cells (prC ⟨cs, A1, c1, ns, A2, c2, ec, en, ed⟩).toArray 27) := ⟨_, rfl⟩
 have hal : Below w.heap.size w W := by rw [hW]; exact (Below.refl _ w).alloc (Nat.le_refl _) _
 have hblk : W.heap[w.heap.size]? = some (.cells (prC ⟨cs, A1, c1, ns, A2, c2, ec, en, ed⟩).toArray 27 (0, 0)) := by rw [hW]; exact heap_alloc_new w _
 obtain ⟨x0, x1, x2, x3, x4⟩ := pr_cells hblk
 have HPL := rplace_cl ⟨cs, A1, c1, ns, A2, c2, ec, en, ed⟩ s W (hpr.1.2.below hal) (by show cs.length ≤ _; have : cs.length ≤ 70 := h70; omega)
 have HRD := zh (show Rd W A1 (cs.flatMap clC) from hpr.1.2.below hal)
 have HAL := zh hal; have HBK := zh hblk
 have hnI : (cs.length : Int) ≤ 70 := by have : cs.length ≤ 70 := h70; omega
 dsimp only
 obtain ⟨b, hb⟩ : ∃ b, b = (findC cs s).elim false (·.fc) := ⟨_, rfl⟩
 rw [← hb]
 have HBB := zh hb
 unfold prC at hW HPL ⊢
 try dsimp only [List.cons_append, List.nil_append] at hW HPL ⊢
 have HPL := zh HPL
 have HW := zh hW
 clear hal hblk hW hpr h70 hb
 go_enter Try.func47, Try.ntmps47
 go_wp2_with fail
 rw [← HW.out]
 (try go_wp2_with fail)
 refine HPL.out.mono ?_
 rintro e w1 ⟨r, rfl, hix, hb1⟩
 have HE := zh (HAL.out.trans (hb1.mono HAL.out.size))
 clear x0 x1 x2 x3 x4
 obtain ⟨x0, x1, x2, x3, x4⟩ := pr_cells ((hb1.block _ (blk_lt HBK.out)).trans HBK.out)
 dsimp only at x0 x1 x2 x3 x4
 rcases idx_two hix with ⟨rfl, -, hf⟩ | ⟨k, y, rfl, hy, -, -, hf⟩
 ·obtain rfl : b = false := by rw [HBB.out]; unfold findC; rw [hf]; rfl
  clear hix hf hb1
  go_wp2
  go_ret
  exact ⟨rfl, HE.out⟩
 ·have hbf : b = y.fc := by rw [HBB.out]; unfold findC; rw [hf]; rfl
  subst hbf
  have hk0 : (0 : Int) ≤ (k : Int) := by omega
  have hkn : k < cs.length := (List.getElem?_eq_some_iff.1 hy).1
  have hknI : (k : Int) < (cs.length : Int) := by omega
  obtain ⟨a, rfl, -, q0, q1, q2, q3, q4, q5, q6⟩ := cl_at (HRD.out.below hb1) hy
  clear hix hf hb1 hy
  go_wp2
  go_ret
  exact ⟨rfl, HE.out⟩
def RiseP (n : Nat) (l : List Tx) (w : World) (e : Ending) (w' : World) : Prop := (∃ (A : Option Addr) (c : Nat) (M : List Tx), e = .returned (.slice A M.length c) ∧ M.length ≤ n ∧ (∀ x ∈ l, x ∈ M) ∧ Rd w' A (SX M)) ∧ Below w.heap.size w w'
theorem mem_more {l M : List Tx} {k : Nat} {y : Tx} (h : ∀ x ∈ l.take k, x ∈ M) (hy : l[k]? = some y) {R : List Tx} (hM : ∀ x ∈ M, x ∈ R) (hR : y ∈ R) : ∀ x ∈ l.take (k + 1), x ∈ R := by
 intro x hx
 rw [List.take_add_one, hy] at hx
 rcases List.mem_append.1 hx with hx | hx
 ·exact hM x (h x hx)
 ·simp at hx; subst hx; exact hR
theorem mem_swap {M : List Tx} {p q : Nat} {x y : Tx} (hq : M[q]? = some x) (hp : M[p]? = some y) : ∀ z ∈ M, z ∈ (M.set q y).set p x := by
 intro z hz
 obtain ⟨j, hj, rfl⟩ := List.mem_iff_getElem.1 hz
 obtain ⟨hql, hqe⟩ := List.getElem?_eq_some_iff.1 hq
 obtain ⟨hpl, hpe⟩ := List.getElem?_eq_some_iff.1 hp
 by_cases h1 : j = p
 ·subst h1
  by_cases h2 : j = q
  ·subst h2; exact List.mem_of_getElem? (i := j) (by rw [List.getElem?_set_self (by simpa using hpl)]; rw [← hqe])
  ·exact List.mem_of_getElem? (i := q) (by rw [List.getElem?_set_ne h2, List.getElem?_set_self hql, ← hpe])
 ·by_cases h2 : j = q
  ·subst h2
   exact List.mem_of_getElem? (i := p) (by rw [List.getElem?_set_self (by simpa using hpl), ← hqe])
  ·exact List.mem_of_getElem? (i := j) (by rw [List.getElem?_set_ne (fun e => h1 e.symm), List.getElem?_set_ne (fun e => h2 e.symm), List.getElem?_eq_getElem hj])
theorem sx_len (l : List Tx) : (SX l).length = l.length := by simp [SX]
theorem sx_put (l : List Tx) (j : Nat) (x : Tx) : (SX l).set j (.string ⟨x.toArray⟩) = SX (l.set j x) := by unfold SX; rw [List.map_set]
theorem rise_w (A : Option Addr) (c : Nat) (l : List Tx) (w : World) (hr : Rd w A (SX l)) (hl : l.length ≤ 1000) :
  Calls Try.prog 119 #[.slice A l.length c] w (RiseP l.length l w) := by
 obtain ⟨i0, hi0, hz0, hz1, hz2⟩ := info_parts infoSt
 obtain ⟨n, hn⟩ : ∃ n, n = l.length := ⟨_, rfl⟩
 rw [← hn] at hl ⊢
 have hnI : (n : Int) ≤ 1000 := by omega
 have HN := zh hn; have HRD := zh hr; have HL := zh hl
 clear hr hn hl
 go_enter Try.func119, Try.ntmps119
 go_wp2
 go_loopw [3, 4] (fun v i wr => ∃ (k : Nat) (M : List Tx), i = .int .i64 (k : Int) ∧ k ≤ n ∧ M.length ≤ k ∧ (∀ x ∈ l.take k, x ∈ M) ∧ wr.ownsRow w.heap.size 9 1 v M.length (SX M) ∧ Below w.heap.size w wr) (fun _ i _ => n - (intOf i).toNat)
 case atStart => exact ⟨0, [], rfl, Nat.zero_le _, Nat.le_refl _, by simp, World.ownsRow_nil _ _ _ _, Below.refl _ _⟩
 case round =>
  obtain ⟨k, M, rfl, hk, hMk, hmem, hown, hbw⟩ := hrel
  have HMEM := zh hmem
  clear hmem
  obtain ⟨B, d, rfl, hnd, -, hrd⟩ := own_rd hown
  obtain ⟨m, hm⟩ : ∃ m, m = M.length := ⟨_, rfl⟩
  have HM := zh hm
  rw [← hm] at hown hMk hnd ⊢
  have HO := zh hown; have HB := zh hbw
  have hsz := hbw.size
  by_cases hlt : k < n
  ·have hltI : (k : Int) < (n : Int) := by omega
   obtain ⟨y, hy⟩ : ∃ y, l[k]? = some y := ⟨l[k]'(by rw [← HN.out]; exact hlt), List.getElem?_eq_getElem _⟩
   obtain ⟨a, rfl, _, hcell⟩ := (HRD.out.below hbw).at_ (sx_get hy)
   have HQ := rin_w B d M y wr hrd (by rw [← hm]; have := HL.out; omega)
   rw [← hm] at HQ
   have HYC := zh (fun u (hu : Below w.heap.size w u) => show u.cell? (a.add k) = some (.string ⟨y.toArray⟩) from by
    obtain ⟨a', e', _, h⟩ := (HRD.out.below hu).at_ (sx_get hy)
    cases e'; exact h)
   cases hh : M.contains y with
   | true =>
    have HMN := zh (mem_more HMEM.out hy (fun x h => h) (List.contains_iff_mem.1 hh))
    rw [hh] at HQ
    have HQ := zh HQ
    clear hy hbw hown hrd hm hh
    go_wp2_with fail
    refine HQ.out.mono ?_
    rintro e w1 ⟨rfl, hb1⟩
    have HB1 := zh (HB.out.trans (hb1.mono hsz)); have HO1 := zh (own_below HO.out hb1)
    clear hb1
    go_wp2
    go_roundw
    case rel => exact ⟨k + 1, M, by go_num, by omega, by rw [← HM.out]; omega, HMN.out, by rw [← HM.out]; exact HO1.out, HB1.out⟩
    case measure => simp [intOf]; omega
   | false =>
    have HMN := zh (mem_more (R := M ++ [y]) HMEM.out hy (fun x h => List.mem_append_left _ h) (by simp))
    rw [hh] at HQ
    have HQ := zh HQ
    clear hy hbw hown hrd hm hh
    go_wp2_with fail
    refine HQ.out.mono ?_
    rintro e w1 ⟨rfl, hb1⟩
    have HB1 := zh (HB.out.trans (hb1.mono hsz)); have HO1 := zh (own_below HO.out hb1)
    have hs1 := HB1.out.size
    have hcy := HYC.out w1 HB1.out
    have hm9 : m + 1 ≤ 1001 := by have := HL.out; omega
    clear hb1 hcell
    go_wp2_with (at_builtin; refine wpList_app _ rfl (.tmp 21) (.tmp 26) _ rfl w.heap.size 9 i0 _ 1 16 Try.underlying23 hi0 hz0 hz1 hz2 rfl (by omega) _ m (SX M) rfl (HO1.out.alloc _) _ 1 1 [_] rfl rfl (rd_blk (heap_alloc_new w1 _) (k := 1) rfl) (by simp [Value.oneCell']) (by simp only [maxLen]; omega) (by omega) (by first | (simp; omega) | omega) ?_; intro v3 w3 hown3 hg3 hb3 hat3; clear hg3 hat3)
    have HO3 := zh (show w3.ownsRow w.heap.size 9 1 v3 (M ++ [y]).length (SX (M ++ [y])) from by rw [SX_app, List.length_append, ← HM.out]; exact hown3)
    have HB3 := zh ((HB1.out.alloc hs1 _).trans hb3)
    clear hown3 hb3
    go_wp2
    go_roundw
    case rel => exact ⟨k + 1, M ++ [y], by go_num, by omega, by rw [List.length_append, ← HM.out]; simp; omega, HMN.out, HO3.out, HB3.out⟩
    case measure => simp [intOf]; omega
  ·have hltI : ¬ (k : Int) < (n : Int) := by omega
   have hmn : m ≤ n := by omega
   have HMN := zh hmn
   have hmI : (m : Int) ≤ 1000 := by omega
   have HO9 := zh (show ∃ M : List Tx, M.length = m ∧ (∀ x ∈ l, x ∈ M) ∧ wr.ownsRow w.heap.size 9 1 (.slice B m d) m (SX M) from ⟨M, hm.symm, (by have := HMEM.out; rw [List.take_of_length_le (by rw [← HN.out]; omega)] at this; exact this), HO.out⟩)
   clear hbw hown hrd hm hlt HO hMk hmn HMEM
   go_wp2
   obtain ⟨v0, hv0⟩ : ∃ u, u = wr := ⟨_, rfl⟩
   subst hv0
   go_loopw [5] (fun i wr => ∃ (t : Nat) (M : List Tx), i = .int .i64 (t : Int) ∧ 1 ≤ t ∧ t ≤ m + 1 ∧ M.length = m ∧ (∀ x ∈ l, x ∈ M) ∧ wr.ownsRow w.heap.size 9 1 (.slice B m d) m (SX M) ∧ Below w.heap.size w wr) (fun i _ => m + 1 - (intOf i).toNat)
   case atStart =>
    obtain ⟨M, h1, h3, h2⟩ := HO9.out
    exact ⟨1, M, rfl, Nat.le_refl _, by omega, h1, h3, h2, HB.out⟩
   case round =>
    obtain ⟨t, M, rfl, ht1, htm, hML, hmem, hown, hbw⟩ := hrel
    have HMEM := zh hmem
    clear hmem
    have HO1 := zh hown; have HB1 := zh hbw; have HML := zh hML
    by_cases hlt : t < m
    ·have hltI : (t : Int) < (m : Int) := by omega
     clear hbw hown hML
     go_wp2
     obtain ⟨v1, hv1⟩ : ∃ u, u = wr := ⟨_, rfl⟩
     subst hv1
     go_loopw [6] (fun i wr => ∃ (q : Nat) (M : List Tx), i = .int .i64 (q : Int) ∧ q ≤ t ∧ M.length = m ∧ (∀ x ∈ l, x ∈ M) ∧ wr.ownsRow w.heap.size 9 1 (.slice B m d) m (SX M) ∧ Below w.heap.size w wr) (fun i _ => (intOf i).toNat)
     case atStart => exact ⟨t, M, rfl, Nat.le_refl _, HML.out, HMEM.out, HO1.out, HB1.out⟩
     case round =>
      obtain ⟨q, M2, rfl, hqt, hML2, hmem2, hown2, hbw2⟩ := hrel
      have HMEM2 := zh hmem2
      clear hmem2
      have HO2 := zh hown2; have HB2 := zh hbw2
      obtain ⟨g, rfl⟩ : ∃ g, B = some ⟨g, 0, none⟩ := by
       rcases hown2.2 with ⟨h, h0⟩ | ⟨g, cap, cur, h, -⟩
       ·omega
       ·injection h with h1; exact ⟨g, h1⟩
      by_cases hq : q = 0
      ·subst hq
       have hqd : decide ((0 : Int) < ((0 : Nat) : Int)) = false := by decide
       have HRE := zh (show ∃ (t' : Nat) (M : List Tx), Value.int .i64 ((t : Int) + 1) = .int .i64 (t' : Int) ∧ 1 ≤ t' ∧ t' ≤ m + 1 ∧ M.length = m ∧ wr.ownsRow w.heap.size 9 1 (.slice (some ⟨g, 0, none⟩) m d) m (SX M) ∧ Below w.heap.size w wr from ⟨t + 1, M2, by simp, by omega, by omega, hML2, HO2.out, HB2.out⟩)
       clear hown2 hbw2
       have HMM2 := zh hML2
       clear hML2 HRE
       (try go_wp2_with fail)
       (try go_quiet (fail))
       (try go_wp2)
       go_roundw
       case rel => exact ⟨t + 1, M2, by go_num, by omega, by omega, HMM2.out, HMEM2.out, HO2.out, ⟨HB2.out.os, HB2.out.tape, HB2.out.output, HB2.out.size, HB2.out.block⟩⟩
       case measure => simp [intOf]; omega
      ·obtain ⟨p, rfl⟩ : ∃ p, q = p + 1 := ⟨q - 1, by omega⟩
       have hqm : p + 1 < M2.length := by omega
       have hqx : M2[p + 1]? = some M2[p + 1] := List.getElem?_eq_getElem hqm
       have hpy : M2[p]? = some (M2[p]'(by omega)) := List.getElem?_eq_getElem (by omega)
       obtain ⟨x, hx⟩ : ∃ x, x = M2[p + 1] := ⟨_, rfl⟩
       obtain ⟨y, hy⟩ : ∃ y, y = M2[p]'(by omega) := ⟨_, rfl⟩
       rw [← hx] at hqx; rw [← hy] at hpy
       have c0 : wr.cell? ⟨g, p + 1, none⟩ = some (.string ⟨x.toArray⟩) := by rw [hown2.cellAt (p + 1) (by omega)]; exact sx_get hqx
       have c1 : wr.cell? ⟨g, p, none⟩ = some (.string ⟨y.toArray⟩) := by rw [hown2.cellAt p (by omega)]; exact sx_get hpy
       obtain ⟨q, hq9⟩ : ∃ q, q = p + 1 := ⟨_, rfl⟩
       rw [← hq9] at c0 hqt ⊢
       have hqi : (0 : Int) < (q : Int) := by omega
       have hqd : decide ((0 : Int) < (q : Int)) = true := decide_eq_true hqi
       have hqn : decide (0 < q) = true := decide_eq_true (by omega)
       have hpn : (p : Int) < (m : Int) := by omega
       have hqN : (q : Int) < (m : Int) := by omega
       have hp0 : (0 : Int) ≤ (p : Int) := by omega
       have hq0 : (0 : Int) ≤ (q : Int) := by omega
       have hsq : IntKind.i64.wrap ((q : Int) - 1) = (p : Int) := by rw [show (q : Int) - 1 = (p : Int) by omega]; exact IntWalk.i64_in _ (by omega)
       have fz0 := hown2.frozenAt q
       have fz1 := hown2.frozenAt p
       have HMM2 := zh hML2
       have HW2 := zh (show ∀ u : World, u.heap = wr.heap → True from fun _ _ => trivial)
       have HST := zh (show ∀ u : World, u.ownsRow w.heap.size 9 1 (.slice (some ⟨g, 0, none⟩) m d) m (SX M2) → Below w.heap.size w u → ((u.setCell ⟨g, q, none⟩ (.string ⟨y.toArray⟩)).setCell ⟨g, p, none⟩ (.string ⟨x.toArray⟩)).ownsRow w.heap.size 9 1 (.slice (some ⟨g, 0, none⟩) m d) m (SX ((M2.set q y).set p x)) ∧ Below w.heap.size w ((u.setCell ⟨g, q, none⟩ (.string ⟨y.toArray⟩)).setCell ⟨g, p, none⟩ (.string ⟨x.toArray⟩)) from fun u hu hb => by
        obtain ⟨o1, g1⟩ := hu.stored q (.string ⟨y.toArray⟩)
        obtain ⟨o2, g2⟩ := o1.stored p (.string ⟨x.toArray⟩)
        rw [sx_put, sx_put] at o2
        have hgl : w.heap.size ≤ g := (hu.lt g rfl).1
        exact ⟨o2, (hb.grown g1 hb.size (fun j e => by cases e; exact hgl)).grown g2 (Nat.le_trans hb.size g1.size) (fun j e => by cases e; exact hgl)⟩)
       have HF9 := zh (show ∀ u : World, u.ownsRow w.heap.size 9 1 (.slice (some ⟨g, 0, none⟩) m d) m (SX M2) → (u.setCell ⟨g, q, none⟩ (.string ⟨y.toArray⟩)).cell? ⟨g, p, none⟩ = some (.string ⟨y.toArray⟩) ∧ (u.setCell ⟨g, q, none⟩ (.string ⟨y.toArray⟩)).frozen? ⟨g, p, none⟩ = false from fun u hu => by
        obtain ⟨o1, g1⟩ := hu.stored q (.string ⟨y.toArray⟩)
        exact ⟨by rw [o1.cellAt p (by omega), List.getElem?_set_ne (by omega)]; exact sx_get hpy, o1.frozenAt p⟩)
       have HLL := zh (show ((M2.set q y).set p x).length = m from by rw [List.length_set, List.length_set]; exact hML2)
       have HMW := zh (show ∀ z ∈ l, z ∈ (M2.set q y).set p x from fun z hz => mem_swap (by rw [hq9]; exact hqx) hpy z (HMEM2.out z hz))
       have HQ9 := zh hq9
       have hqm9 : q < m := by omega
       have hpm9 : p < m := by omega
       clear hown2 hbw2 hML2 hqx hpy hx hy hqm hq hq9 HW2
       cases hb1 : Op.bytesLess x y with
       | false =>
        (try go_wp2_with fail)
        (try go_quiet (fail))
        (try go_wp2)
        go_roundw
        case rel => exact ⟨t + 1, M2, by go_num, by omega, by omega, HMM2.out, HMEM2.out, HO2.out, ⟨HB2.out.os, HB2.out.tape, HB2.out.output, HB2.out.size, HB2.out.block⟩⟩
        case measure => simp [intOf]; omega
       | true =>
        (try go_wp2_with fail)
        go_quiet (fail)
        obtain ⟨v9, hv9⟩ : ∃ v, v = wr.drewN nq := ⟨_, rfl⟩
        have HO9 := zh (show v9.ownsRow w.heap.size 9 1 (.slice (some ⟨g, 0, none⟩) m d) m (SX M2) from by rw [hv9]; exact HO2.out)
        have HB9 := zh (show Below w.heap.size w v9 from by rw [hv9]; exact ⟨HB2.out.os, HB2.out.tape, HB2.out.output, HB2.out.size, HB2.out.block⟩)
        have d0 : v9.cell? ⟨g, q, none⟩ = some (.string ⟨x.toArray⟩) := by rw [hv9]; exact c0
        have d1 : v9.cell? ⟨g, p, none⟩ = some (.string ⟨y.toArray⟩) := by rw [hv9]; exact c1
        have e0 := HO9.out.frozenAt q
        have e1 := HO9.out.frozenAt p
        obtain ⟨k0, k1⟩ := HF9.out v9 HO9.out
        have HNX := zh (HST.out v9 HO9.out HB9.out)
        rw [← hv9]
        clear c0 c1 fz0 fz1 hv9
        go_wp2
        go_roundw
        case rel => exact ⟨p, _, by first | go_num | (rw [hsq]), by have := HQ9.out; omega, HLL.out, HMW.out, HNX.out.1, HNX.out.2⟩
        case measure => have := HQ9.out; simp [intOf]; omega
    ·have hltI : ¬ (t : Int) < (m : Int) := by omega
     have HRP := zh (show RiseP n l w (.returned (.slice B m d)) wr from ⟨⟨B, d, M, by rw [hML], by rw [hML]; exact HMN.out, HMEM.out, (own_rd hown).elim fun A h => h.elim fun c h => by obtain ⟨e, -, -, hr⟩ := h; cases e; exact hr⟩, hbw⟩)
     clear hbw hown
     go_wp2
     go_ret
     exact HRP.out
end Go.Proofs.Ytdifmgeicnndfaa.prg
namespace Go.Proofs.Ytdifmgeicnndfaa.sorts
open Go.RowKit
open words
set_option linter.all false
variable {α : Type}
structure Swo (lt : α → α → Bool) : Prop where
 asymm : ∀ a b, lt a b = true → lt b a = false
 split : ∀ a b c, lt a c = true → lt a b = true ∨ lt b c = true
theorem Swo.trans {lt : α → α → Bool} (h : Swo lt) {a b c : α} (h1 : lt a b = true) (h2 : lt b c = true) : lt a c = true := by
 rcases h.split a c b h1 with h3 | h3
 ·exact h3
 ·rw [h.asymm b c h2] at h3; cases h3
theorem Swo.le {lt : α → α → Bool} (h : Swo lt) {a b c : α} (h1 : lt b a = false) (h2 : lt c b = false) : lt c a = false := by
 cases e : lt c a with
 | false => rfl
 | true => rcases h.split c b a e with h3 | h3
           ·rw [h3] at h2; cases h2
           ·rw [h3] at h1; cases h1
def Asc (lt : α → α → Bool) (l : List α) : Prop := l.Pairwise fun a b => lt b a = false
theorem Asc.left {lt : α → α → Bool} {l r : List α} (h : Asc lt (l ++ r)) : Asc lt l := (List.pairwise_append.1 h).1
theorem Asc.right {lt : α → α → Bool} {l r : List α} (h : Asc lt (l ++ r)) : Asc lt r := (List.pairwise_append.1 h).2.1
structure Row (T : TypeId) (k : Nat) (f : α → List Value) (b g n c : Nat) (w : World) (xs : List α) : Prop where
 len : xs.length = n
 own : w.ownsRow b T k (.slice (some ⟨g, 0, none⟩) n c) n (xs.flatMap f)
section
variable {T : TypeId} {k : Nat} {f : α → List Value} {b g n c : Nat} {w w' : World} {xs : List α}
theorem flat_get (hf : ∀ x, (f x).length = k) : ∀ {l : List α} {i : Nat} {x : α} {t : Nat} {u : Value}, l[i]? = some x → (f x)[t]? = some u → (l.flatMap f)[i * k + t]? = some u
 | [], _, _, _, _, h, _ => by simp at h
 | y :: l, 0, x, t, u, h, hu => by
  simp at h; subst h
  rw [List.flatMap_cons, Nat.zero_mul, Nat.zero_add, List.getElem?_append_left (List.getElem?_eq_some_iff.1 hu).1]
  exact hu
 | y :: l, i + 1, x, t, u, h, hu => by
  rw [List.flatMap_cons, List.getElem?_append_right (by rw [hf, Nat.succ_mul]; omega), hf, show (i + 1) * k + t - k = i * k + t by rw [Nat.succ_mul]; omega]
  exact flat_get hf (by simpa using h) hu
theorem flat_size (hf : ∀ x, (f x).length = k) : ∀ l : List α, (l.flatMap f).length = l.length * k
 | [] => by simp
 | x :: l => by rw [List.flatMap_cons, List.length_append, hf, flat_size hf l, List.length_cons, Nat.succ_mul, Nat.add_comm]
def setsAt (L : List Value) (o : Nat) : List Value → List Value
 | [] => L
 | v :: vs => setsAt (L.set o v) (o + 1) vs
theorem setsAt_app : ∀ (vs P M Q : List Value), M.length = vs.length → setsAt (P ++ (M ++ Q)) P.length vs = P ++ (vs ++ Q)
 | [], P, M, Q, h => by
  have : M = [] := List.length_eq_zero_iff.1 (by simpa using h)
  subst this; rfl
 | v :: vs, P, m :: M, Q, h => by
  rw [setsAt, List.set_append_right _ _ (Nat.le_refl _), Nat.sub_self]
  have := setsAt_app vs (P ++ [v]) M Q (by simpa using h)
  simp only [List.append_assoc, List.cons_append, List.nil_append, List.length_append, List.length_cons, List.length_nil, Nat.zero_add] at this
  simpa using this
 | v :: vs, P, [], Q, h => by simp at h
theorem flat_set (hf : ∀ x, (f x).length = k) (l : List α) (i : Nat) (y : α) (hi : i < l.length) : (l.set i y).flatMap f = setsAt (l.flatMap f) (i * k) (f y) := by
 have e : l = l.take i ++ (l[i] :: l.drop (i + 1)) := by rw [← List.drop_eq_getElem_cons hi, List.take_append_drop]
 have e2 : l.set i y = l.take i ++ (y :: l.drop (i + 1)) := by
  conv => lhs; rw [e]
  rw [List.set_append_right _ _ (by rw [List.length_take]; omega), List.length_take, Nat.min_eq_left (by omega), Nat.sub_self, List.set_cons_zero]
 rw [e2]
 conv => rhs; rw [e]
 rw [List.flatMap_append, List.flatMap_append, List.flatMap_cons, List.flatMap_cons]
 have hl : ((l.take i).flatMap f).length = i * k := by rw [flat_size hf, List.length_take, Nat.min_eq_left (by omega)]
 rw [← hl, setsAt_app _ _ _ _ (by rw [hf, hf])]
theorem own_sets (vs : List Value) : ∀ {w : World} {L : List Value} {o : Nat}, w.ownsRow b T k (.slice (some ⟨g, 0, none⟩) n c) n L → (w.setCells g o vs).ownsRow b T k (.slice (some ⟨g, 0, none⟩) n c) n (setsAt L o vs) ∧ w.grownBy (w.setCells g o vs) (some g) := by
 induction vs with
 | nil => intro w L o h; exact ⟨h, rfl, rfl, rfl, Nat.le_refl _, fun _ _ _ => rfl⟩
 | cons v vs ih =>
  intro w L o h
  obtain ⟨h1, g1⟩ := h.stored o v
  obtain ⟨h2, g2⟩ := ih (o := o + 1) h1
  refine ⟨h2, ?_⟩
  exact ⟨g2.os.trans g1.os, g2.tape.trans g1.tape, g2.output.trans g1.output, Nat.le_trans g1.size g2.size, fun k hk hn => (g2.block k (Nat.lt_of_lt_of_le hk g1.size) hn).trans (g1.block k hk hn)⟩
theorem Row.range (h : Row T k f b g n c w xs) (hf : ∀ x, (f x).length = k) {i : Nat} {x : α} (hi : xs[i]? = some x) : w.rangeAt g (i * k) (f x) := fun j v hv => by
 have hl := flat_get hf hi hv
 rw [h.own.cellAt (i * k + j) (by rw [← h.len, ← flat_size hf]; exact (List.getElem?_eq_some_iff.1 hl).1)]
 exact hl
theorem Row.there (h : Row T k f b g n c w xs) (hf : ∀ x, (f x).length = k) {i : Nat} (hi : i < n) : w.there g (i * k) k := fun j hj => by
 obtain ⟨x, hx⟩ : ∃ x, xs[i]? = some x := ⟨xs[i]'(by rw [h.len]; exact hi), List.getElem?_eq_getElem _⟩
 obtain ⟨v, hv⟩ : ∃ v, (f x)[j]? = some v := ⟨(f x)[j]'(by rw [hf]; exact hj), List.getElem?_eq_getElem _⟩
 exact ⟨by rw [h.range hf hx j v hv]; rfl, h.own.frozenAt _⟩
theorem Row.set (h : Row T k f b g n c w xs) (hf : ∀ x, (f x).length = k) {i : Nat} (y : α) (hi : i < n) : Row T k f b g n c (w.setCells g (i * k) (f y)) (xs.set i y) ∧ w.grownBy (w.setCells g (i * k) (f y)) (some g) := by
 obtain ⟨h1, h2⟩ := own_sets (f y) (o := i * k) h.own
 rw [← flat_set hf xs i y (by rw [h.len]; exact hi)] at h1
 exact ⟨⟨by rw [List.length_set]; exact h.len, h1⟩, h2⟩
theorem Row.below (h : Row T k f b g n c w xs) (hb : Below w.heap.size w w') : Row T k f b g n c w' xs := ⟨h.len, own_below h.own hb⟩
theorem Row.drew (h : Row T k f b g n c w xs) : Row T k f b g n c w.drew xs := ⟨h.len, h.own⟩
theorem Row.drewN (h : Row T k f b g n c w xs) (q : Nat) : Row T k f b g n c (w.drewN q) xs := ⟨h.len, h.own⟩
theorem gt_trans {w v u : World} {g : Nat} (h : w.grownBy v (some g)) (k : v.grownBy u (some g)) : w.grownBy u (some g) :=
 ⟨k.os.trans h.os, k.tape.trans h.tape, k.output.trans h.output, Nat.le_trans h.size k.size, fun b hb hn => (k.block b (Nat.lt_of_lt_of_le hb h.size) hn).trans (h.block b hb hn)⟩
theorem gt_undrew {w v : World} {g : Nat} (h : w.drew.grownBy v (some g)) : w.grownBy v (some g) := ⟨h.os, h.tape, h.output, h.size, h.block⟩
theorem Row.two (h : Row T k f b g n c w xs) (hf : ∀ x, (f x).length = k) {i j : Nat} (x y : α) (hi : i < n) (hj : j < n) : Row T k f b g n c ((w.drew.setCells g (i * k) (f y)).setCells g (j * k) (f x)) ((xs.set i y).set j x) ∧ w.grownBy ((w.drew.setCells g (i * k) (f y)).setCells g (j * k) (f x)) (some g) := by
 obtain ⟨h1, g1⟩ := h.drew.set hf y hi
 obtain ⟨h2, g2⟩ := h1.set hf x hj
 exact ⟨h2, gt_undrew (gt_trans g1 g2)⟩
end
section
variable {P : Program} {md : Region.Mode} {ops : Array Oper} {Q : Exit → Act → World → Prop} {S : World → Prop} {oi : Oper} {fuel : Nat} {listed : Array Bool} {a : Act} {w : World}
theorem tst (i : Nat) (b o : Nat) (cs : List Value) {ty : TypeId} {x y : Operand} (hi : ops[i]? = some oi) (ho : oi.op = .store ty x y) (hx : a.eval x = .pointer (some ⟨b, o, none⟩)) (hy : a.eval y = .agg cs.toArray) (ht : w.there b o cs.length)
  (hn : (P.info? ty).map (·.size) = some cs.length) (h1 : ∀ v ∈ cs, v.oneCell' = true) (hS : S (w.setCells b o cs)) (h : S (w.setCells b o cs) → wpAnyH P md ops Q S fuel (listed.setIfInBounds i true) (a.put oi.dst undef) (w.setCells b o cs))
  (hr : Region.ready md ops listed = [i] := by kernel_rfl) (hw : Region.wanted oi (yielded ops a.tmps) = true := by kernel_rfl) : wpAnyH P md ops Q S (fuel + 1) listed a w := by
 refine wpAnyH_ready hr (by simp) (AllReadyH.cons hi (fun K hK => ?_) AllReadyH.nil)
 rw [if_pos hw]
 refine wp_store_mid ty x y ho b o cs.toArray hx hy (by simpa using ht) (by simpa using hn) (all_oneCell_toArray h1) ?_
 have e : cs.toArray.toList = cs := by simp
 rw [e]
 exact hK.out _ _ hS h
end
end Go.Proofs.Ytdifmgeicnndfaa.sorts

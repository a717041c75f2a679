/- JoinP -/
import Derived.Test.YtdifmgeicnndfaaHier
import Derived.Test.YtdifmgeicnndfaaHierT
import Derived.Test.YtdifmgeicnndfaaHierE
namespace Go.Proofs.Ytdifmgeicnndfaa.prg
open Go.RowKit
open words kindp opp op kind word
set_option maxRecDepth 100000
set_option maxHeartbeats 4000000
set_option linter.all false
theorem rplace_cl (x : PrM) (s : Tx) (w : World) (hr : Rd w x.A1 (x.cs.flatMap clC)) (hl : x.cs.length ≤ 140737488351232) : Calls Try.prog 11 #[.agg (prC x).toArray, .string ⟨s.toArray⟩] w fun e w' => ∃ r, e = .returned (.int .i64 r) ∧ Idx (fun u : ClM => (u.nm == s)) x.cs r ∧ Below w.heap.size w w' := by
 obtain ⟨W, hW⟩ : ∃ W, W = w.alloc (.cells (prC x).toArray 27) := ⟨_, rfl⟩
 have hal : Below w.heap.size w W := by rw [hW]; exact (Below.refl _ w).alloc (Nat.le_refl _) _
 have HAL := zh hal
 have hblk : W.heap[w.heap.size]? = some (.cells (prC x).toArray 27 (0, 0)) := by rw [hW]; exact heap_alloc_new w _
 have HBK := zh hblk; have HLT := zh (blk_lt hblk)
 obtain ⟨x0_0, x0_1, x0_2, x0_3, x0_4⟩ := pr_cells hblk
 have K0 := zh (Below.refl W.heap.size W)
 have HRD := zh (hr.below hal)
 obtain ⟨n, hn⟩ : ∃ n, n = x.cs.length := ⟨_, rfl⟩
 rw [← hn] at hl
 have nI : (n : Int) ≤ 281474976710656 := by omega
 have HN := zh hn
 have HCE := zh (show ∀ v : World, Below W.heap.size W v → v.cell? ⟨w.heap.size, 0, none⟩ = some (.slice x.A1 n x.c1) from fun v hv => by
  have h := pr_cells ((hv.block _ HLT.out).trans HBK.out)
  rw [hn]; exact h.1)
 clear x0_0 x0_1 x0_2 x0_3 x0_4
 have x0 := HCE.out W K0.out
 unfold prC at hW ⊢
 rw [← hn] at hW ⊢
 try dsimp only at hW ⊢
 have HW := zh hW
 clear hal hblk hW hr hn hl
 go_enter Try.func11, Try.ntmps11
 go_wp2_with fail
 rw [← HW.out]
 (try go_wp2_with fail)
 clear x0
 go_loopw [5] (fun i wr => ∃ k : Nat, i = .int .i64 (k : Int) ∧ k ≤ n ∧ (∀ t ∈ x.cs.take k, (fun u : ClM => (u.nm == s)) t = false) ∧ Below W.heap.size W wr) (fun i _ => n - (intOf i).toNat)
 case atStart => exact ⟨0, rfl, Nat.zero_le _, by simp, K0.out⟩
 case round =>
  obtain ⟨k, rfl, hk, hall, hbw⟩ := hrel
  obtain ⟨wa, wa_eq⟩ : ∃ v, v = wr := ⟨_, rfl⟩
  subst wa_eq
  have HA := zh hall; have HB := zh hbw
  have g0 := HCE.out _ hbw
  clear hall
  by_cases hlt : k < n
  ·have hltI : (k : Int) < (n : Int) := by omega
   obtain ⟨u, hx⟩ : ∃ u, x.cs[k]? = some u := ⟨x.cs[k]'(by rw [← HN.out]; exact hlt), List.getElem?_eq_getElem _⟩
   obtain ⟨a, ea, ha, c0, c1, c2, c3, c4, c5, c6⟩ := cl_at (HRD.out.below hbw) hx
   rw [ea] at g0
   have hmt := take_more (P := (fun u : ClM => (u.nm == s))) HA.out hx
   cases h1 : (u.nm == s) with
   | true =>
    have HI := zh (show Idx (fun u : ClM => (u.nm == s)) x.cs (k : Int) from .inr ⟨k, _, rfl, hx, h1, HA.out⟩)
    clear hx hmt hbw ha ea
    go_wp2
    go_ret
    exact ⟨_, rfl, HI.out, HAL.out.trans (HB.out.mono HAL.out.size)⟩
   | false =>
    have HM := zh (hmt (h1))
    clear hx hmt hbw ha ea
    go_wp2
    go_roundw
    case rel => exact ⟨k + 1, by go_num, by omega, HM.out, HB.out⟩
    case measure => simp [intOf]; omega
  ·have hltI : ¬ (k : Int) < (n : Int) := by omega
   have hall := HA.out
   rw [List.take_of_length_le (by rw [← HN.out]; omega)] at hall
   have HI := zh (show Idx (fun u : ClM => (u.nm == s)) x.cs (-1) from .inl ⟨rfl, hall⟩)
   clear hall hbw
   go_wp2
   go_ret
   exact ⟨_, rfl, HI.out, HAL.out.trans (HB.out.mono HAL.out.size)⟩
end Go.Proofs.Ytdifmgeicnndfaa.prg
namespace Go.Proofs.Ytdifmgeicnndfaa.prg
open Go.RowKit
open words kindp opp op kind word
set_option maxRecDepth 100000
set_option maxHeartbeats 8000000
set_option linter.all false
theorem rin_w (A : Option Addr) (c : Nat) (l : List Tx) (s : Tx) (w : World) (hr : Rd w A (SX l)) (hl : l.length ≤ 281474976710656) :
  Calls Try.prog 80 #[.slice A l.length c, .string ⟨s.toArray⟩] w fun e w' => e = .returned (.bool (l.contains s)) ∧ Below w.heap.size w w' := by
 obtain ⟨n, hn⟩ : ∃ n, n = l.length := ⟨_, rfl⟩
 rw [← hn] at hl ⊢
 have hnI : (n : Int) ≤ 281474976710656 := by omega
 have HN := zh hn; have HRD := zh hr
 obtain ⟨b, hb⟩ : ∃ b, b = l.contains s := ⟨_, rfl⟩
 rw [← hb]
 have HBB := zh hb
 clear hr hn hl hb
 go_enter Try.func80, Try.ntmps80
 go_wp2
 go_loopw [5] (fun i wr => ∃ k : Nat, i = .int .i64 (k : Int) ∧ k ≤ n ∧ (∀ t ∈ l.take k, (fun y : Tx => y == s) t = false) ∧ Below w.heap.size w wr) (fun i _ => n - (intOf i).toNat)
 case atStart => exact ⟨0, rfl, Nat.zero_le _, by simp, Below.refl _ _⟩
 case round =>
  obtain ⟨k, rfl, hk, hall, hbw⟩ := hrel
  have HA := zh hall; have HB := zh hbw
  clear hall
  by_cases hlt : k < n
  ·have hltI : (k : Int) < (n : Int) := by omega
   obtain ⟨y, hy⟩ : ∃ y, l[k]? = some y := ⟨l[k]'(by rw [← HN.out]; exact hlt), List.getElem?_eq_getElem _⟩
   obtain ⟨a, rfl, _, hcell⟩ := (HRD.out.below hbw).at_ (sx_get hy)
   have hmt := take_more (P := (fun y : Tx => y == s)) HA.out hy
   cases hsy : (y == s) with
   | true =>
    obtain rfl : b = true := HBB.out.trans (show l.contains s = true from List.contains_iff_mem.2 (by rw [← show y = s from by simpa using hsy]; exact List.mem_of_getElem? hy))
    clear hy hmt hbw
    go_wp2
    go_ret
    exact ⟨rfl, HB.out⟩
   | false =>
    have HM := zh (hmt hsy)
    clear hy hmt hbw
    go_wp2
    go_roundw
    case rel => exact ⟨k + 1, by go_num, by omega, HM.out, HB.out⟩
    case measure => simp [intOf]; omega
  ·have hltI : ¬ (k : Int) < (n : Int) := by omega
   have hall := HA.out
   rw [List.take_of_length_le (by rw [← HN.out]; omega)] at hall
   obtain rfl : b = false := HBB.out.trans (show l.contains s = false from by
    cases hc : l.contains s with
    | false => rfl
    | true => have := hall s (List.contains_iff_mem.1 hc); simp at this)
   clear hall hbw
   go_wp2
   go_ret
   exact ⟨rfl, HB.out⟩
theorem riface_w (x : PrM) (s : Tx) (w : World) (hpr : PrOk w x) (h70 : x.cs.length ≤ 70) :
  Calls Try.prog 47 #[.agg (prC x).toArray, .string ⟨s.toArray⟩] w fun e w' => e = .returned (.bool ((findC x.cs s).elim false (·.fc))) ∧ Below w.heap.size w w' := by
 obtain ⟨cs, A1, c1, ns, A2, c2, ec, en, ed⟩ := x
 obtain ⟨W, hW⟩ : ∃ W, W = w.alloc (.cells (prC ⟨cs, A1, c1, ns, A2, c2, ec, en, ed⟩).toArray 27) := ⟨_, rfl⟩
 have hal : Below w.heap.size w W := by rw [hW]; exact (Below.refl _ w).alloc (Nat.le_refl _) _
 have hblk : W.heap[w.heap.size]? = some (.cells (prC ⟨cs, A1, c1, ns, A2, c2, ec, en, ed⟩).toArray 27 (0, 0)) := by rw [hW]; exact heap_alloc_new w _
 obtain ⟨x0, x1, x2, x3, x4⟩ := pr_cells hblk
 have HPL := rplace_cl ⟨cs, A1, c1, ns, A2, c2, ec, en, ed⟩ s W (hpr.1.2.below hal) (by show cs.length ≤ _; have : cs.length ≤ 70 := h70; omega)
 have HRD := zh (show Rd W A1 (cs.flatMap clC) from hpr.1.2.below hal)
 have HAL := zh hal; have HBK := zh hblk
 have hnI : (cs.length : Int) ≤ 70 := by have : cs.length ≤ 70 := h70; omega
 dsimp only
 obtain ⟨b, hb⟩ : ∃ b, b = (findC cs s).elim false (·.fc) := ⟨_, rfl⟩
 rw [← hb]
 have HBB := zh hb
 unfold prC at hW HPL ⊢
 try dsimp only [List.cons_append, List.nil_append] at hW HPL ⊢
 have HPL := zh HPL
 have HW := zh hW
 clear hal hblk hW hpr h70 hb
 go_enter Try.func47, Try.ntmps47
 go_wp2_with fail
 rw [← HW.out]
 (try go_wp2_with fail)
 refine HPL.out.mono ?_
 rintro e w1 ⟨r, rfl, hix, hb1⟩
 have HE := zh (HAL.out.trans (hb1.mono HAL.out.size))
 clear x0 x1 x2 x3 x4
 obtain ⟨x0, x1, x2, x3, x4⟩ := pr_cells ((hb1.block _ (blk_lt HBK.out)).trans HBK.out)
 dsimp only at x0 x1 x2 x3 x4
 rcases idx_two hix with ⟨rfl, -, hf⟩ | ⟨k, y, rfl, hy, -, -, hf⟩
 ·obtain rfl : b = false := by rw [HBB.out]; unfold findC; rw [hf]; rfl
  clear hix hf hb1
  go_wp2
  go_ret
  exact ⟨rfl, HE.out⟩
 ·have hbf : b = y.fc := by rw [HBB.out]; unfold findC; rw [hf]; rfl
  subst hbf
  have hk0 : (0 : Int) ≤ (k : Int) := by omega
  have hkn : k < cs.length := (List.getElem?_eq_some_iff.1 hy).1
  have hknI : (k : Int) < (cs.length : Int) := by omega
  obtain ⟨a, rfl, -, q0, q1, q2, q3, q4, q5, q6⟩ := cl_at (HRD.out.below hb1) hy
  clear hix hf hb1 hy
  go_wp2
  go_ret
  exact ⟨rfl, HE.out⟩
def RiseP (n : Nat) (l : List Tx) (w : World) (e : Ending) (w' : World) : Prop := (∃ (A : Option Addr) (c : Nat) (M : List Tx), e = .returned (.slice A M.length c) ∧ M.length ≤ n ∧ (∀ x ∈ l, x ∈ M) ∧ Rd w' A (SX M)) ∧ Below w.heap.size w w'
theorem mem_more {l M : List Tx} {k : Nat} {y : Tx} (h : ∀ x ∈ l.take k, x ∈ M) (hy : l[k]? = some y) {R : List Tx} (hM : ∀ x ∈ M, x ∈ R) (hR : y ∈ R) : ∀ x ∈ l.take (k + 1), x ∈ R := by
 intro x hx
 rw [List.take_add_one, hy] at hx
 rcases List.mem_append.1 hx with hx | hx
 ·exact hM x (h x hx)
 ·simp at hx; subst hx; exact hR
theorem mem_swap {M : List Tx} {p q : Nat} {x y : Tx} (hq : M[q]? = some x) (hp : M[p]? = some y) : ∀ z ∈ M, z ∈ (M.set q y).set p x := by
 intro z hz
 obtain ⟨j, hj, rfl⟩ := List.mem_iff_getElem.1 hz
 obtain ⟨hql, hqe⟩ := List.getElem?_eq_some_iff.1 hq
 obtain ⟨hpl, hpe⟩ := List.getElem?_eq_some_iff.1 hp
 by_cases h1 : j = p
 ·subst h1
  by_cases h2 : j = q
  ·subst h2; exact List.mem_of_getElem? (i := j) (by rw [List.getElem?_set_self (by simpa using hpl)]; rw [← hqe])
  ·exact List.mem_of_getElem? (i := q) (by rw [List.getElem?_set_ne h2, List.getElem?_set_self hql, ← hpe])
 ·by_cases h2 : j = q
  ·subst h2
   exact List.mem_of_getElem? (i := p) (by rw [List.getElem?_set_self (by simpa using hpl), ← hqe])
  ·exact List.mem_of_getElem? (i := j) (by rw [List.getElem?_set_ne (fun e => h1 e.symm), List.getElem?_set_ne (fun e => h2 e.symm), List.getElem?_eq_getElem hj])
theorem sx_len (l : List Tx) : (SX l).length = l.length := by simp [SX]
theorem sx_put (l : List Tx) (j : Nat) (x : Tx) : (SX l).set j (.string ⟨x.toArray⟩) = SX (l.set j x) := by unfold SX; rw [List.map_set]
theorem rise_w (A : Option Addr) (c : Nat) (l : List Tx) (w : World) (hr : Rd w A (SX l)) (hl : l.length ≤ 1000) :
  Calls Try.prog 119 #[.slice A l.length c] w (RiseP l.length l w) := by
 obtain ⟨i0, hi0, hz0, hz1, hz2⟩ := info_parts infoSt
 obtain ⟨n, hn⟩ : ∃ n, n = l.length := ⟨_, rfl⟩
 rw [← hn] at hl ⊢
 have hnI : (n : Int) ≤ 1000 := by omega
 have HN := zh hn; have HRD := zh hr; have HL := zh hl
 clear hr hn hl
 go_enter Try.func119, Try.ntmps119
 go_wp2
 go_loopw [3, 4] (fun v i wr => ∃ (k : Nat) (M : List Tx), i = .int .i64 (k : Int) ∧ k ≤ n ∧ M.length ≤ k ∧ (∀ x ∈ l.take k, x ∈ M) ∧ wr.ownsRow w.heap.size 9 1 v M.length (SX M) ∧ Below w.heap.size w wr) (fun _ i _ => n - (intOf i).toNat)
 case atStart => exact ⟨0, [], rfl, Nat.zero_le _, Nat.le_refl _, by simp, World.ownsRow_nil _ _ _ _, Below.refl _ _⟩
 case round =>
  obtain ⟨k, M, rfl, hk, hMk, hmem, hown, hbw⟩ := hrel
  have HMEM := zh hmem
  clear hmem
  obtain ⟨B, d, rfl, hnd, -, hrd⟩ := own_rd hown
  obtain ⟨m, hm⟩ : ∃ m, m = M.length := ⟨_, rfl⟩
  have HM := zh hm
  rw [← hm] at hown hMk hnd ⊢
  have HO := zh hown; have HB := zh hbw
  have hsz := hbw.size
  by_cases hlt : k < n
  ·have hltI : (k : Int) < (n : Int) := by omega
   obtain ⟨y, hy⟩ : ∃ y, l[k]? = some y := ⟨l[k]'(by rw [← HN.out]; exact hlt), List.getElem?_eq_getElem _⟩
   obtain ⟨a, rfl, _, hcell⟩ := (HRD.out.below hbw).at_ (sx_get hy)
   have HQ := rin_w B d M y wr hrd (by rw [← hm]; have := HL.out; omega)
   rw [← hm] at HQ
   have HYC := zh (fun u (hu : Below w.heap.size w u) => show u.cell? (a.add k) = some (.string ⟨y.toArray⟩) from by
    obtain ⟨a', e', _, h⟩ := (HRD.out.below hu).at_ (sx_get hy)
    cases e'; exact h)
   cases hh : M.contains y with
   | true =>
    have HMN := zh (mem_more HMEM.out hy (fun x h => h) (List.contains_iff_mem.1 hh))
    rw [hh] at HQ
    have HQ := zh HQ
    clear hy hbw hown hrd hm hh
    go_wp2_with fail
    refine HQ.out.mono ?_
    rintro e w1 ⟨rfl, hb1⟩
    have HB1 := zh (HB.out.trans (hb1.mono hsz)); have HO1 := zh (own_below HO.out hb1)
    clear hb1
    go_wp2
    go_roundw
    case rel => exact ⟨k + 1, M, by go_num, by omega, by rw [← HM.out]; omega, HMN.out, by rw [← HM.out]; exact HO1.out, HB1.out⟩
    case measure => simp [intOf]; omega
   | false =>
    have HMN := zh (mem_more (R := M ++ [y]) HMEM.out hy (fun x h => List.mem_append_left _ h) (by simp))
    rw [hh] at HQ
    have HQ := zh HQ
    clear hy hbw hown hrd hm hh
    go_wp2_with fail
    refine HQ.out.mono ?_
    rintro e w1 ⟨rfl, hb1⟩
    have HB1 := zh (HB.out.trans (hb1.mono hsz)); have HO1 := zh (own_below HO.out hb1)
    have hs1 := HB1.out.size
    have hcy := HYC.out w1 HB1.out
    have hm9 : m + 1 ≤ 1001 := by have := HL.out; omega
    clear hb1 hcell
    go_wp2_with (at_builtin; refine wpList_app _ rfl (.tmp 21) (.tmp 26) _ rfl w.heap.size 9 i0 _ 1 16 Try.underlying23 hi0 hz0 hz1 hz2 rfl (by omega) _ m (SX M) rfl (HO1.out.alloc _) _ 1 1 [_] rfl rfl (rd_blk (heap_alloc_new w1 _) (k := 1) rfl) (by simp [Value.oneCell']) (by simp only [maxLen]; omega) (by omega) (by first | (simp; omega) | omega) ?_; intro v3 w3 hown3 hg3 hb3 hat3; clear hg3 hat3)
    have HO3 := zh (show w3.ownsRow w.heap.size 9 1 v3 (M ++ [y]).length (SX (M ++ [y])) from by rw [SX_app, List.length_append, ← HM.out]; exact hown3)
    have HB3 := zh ((HB1.out.alloc hs1 _).trans hb3)
    clear hown3 hb3
    go_wp2
    go_roundw
    case rel => exact ⟨k + 1, M ++ [y], by go_num, by omega, by rw [List.length_append, ← HM.out]; simp; omega, HMN.out, HO3.out, HB3.out⟩
    case measure => simp [intOf]; omega
  ·have hltI : ¬ (k : Int) < (n : Int) := by omega
   have hmn : m ≤ n := by omega
   have HMN := zh hmn
   have hmI : (m : Int) ≤ 1000 := by omega
   have HO9 := zh (show ∃ M : List Tx, M.length = m ∧ (∀ x ∈ l, x ∈ M) ∧ wr.ownsRow w.heap.size 9 1 (.slice B m d) m (SX M) from ⟨M, hm.symm, (by have := HMEM.out; rw [List.take_of_length_le (by rw [← HN.out]; omega)] at this; exact this), HO.out⟩)
   clear hbw hown hrd hm hlt HO hMk hmn HMEM
   go_wp2
   obtain ⟨v0, hv0⟩ : ∃ u, u = wr := ⟨_, rfl⟩
   subst hv0
   go_loopw [5] (fun i wr => ∃ (t : Nat) (M : List Tx), i = .int .i64 (t : Int) ∧ 1 ≤ t ∧ t ≤ m + 1 ∧ M.length = m ∧ (∀ x ∈ l, x ∈ M) ∧ wr.ownsRow w.heap.size 9 1 (.slice B m d) m (SX M) ∧ Below w.heap.size w wr) (fun i _ => m + 1 - (intOf i).toNat)
   case atStart =>
    obtain ⟨M, h1, h3, h2⟩ := HO9.out
    exact ⟨1, M, rfl, Nat.le_refl _, by omega, h1, h3, h2, HB.out⟩
   case round =>
    obtain ⟨t, M, rfl, ht1, htm, hML, hmem, hown, hbw⟩ := hrel
    have HMEM := zh hmem
    clear hmem
    have HO1 := zh hown; have HB1 := zh hbw; have HML := zh hML
    by_cases hlt : t < m
    ·have hltI : (t : Int) < (m : Int) := by omega
     clear hbw hown hML
     go_wp2
     obtain ⟨v1, hv1⟩ : ∃ u, u = wr := ⟨_, rfl⟩
     subst hv1
     go_loopw [6] (fun i wr => ∃ (q : Nat) (M : List Tx), i = .int .i64 (q : Int) ∧ q ≤ t ∧ M.length = m ∧ (∀ x ∈ l, x ∈ M) ∧ wr.ownsRow w.heap.size 9 1 (.slice B m d) m (SX M) ∧ Below w.heap.size w wr) (fun i _ => (intOf i).toNat)
     case atStart => exact ⟨t, M, rfl, Nat.le_refl _, HML.out, HMEM.out, HO1.out, HB1.out⟩
     case round =>
      obtain ⟨q, M2, rfl, hqt, hML2, hmem2, hown2, hbw2⟩ := hrel
      have HMEM2 := zh hmem2
      clear hmem2
      have HO2 := zh hown2; have HB2 := zh hbw2
      obtain ⟨g, rfl⟩ : ∃ g, B = some ⟨g, 0, none⟩ := by
       rcases hown2.2 with ⟨h, h0⟩ | ⟨g, cap, cur, h, -⟩
       ·omega
       ·injection h with h1; exact ⟨g, h1⟩
      by_cases hq : q = 0
      ·subst hq
       have hqd : decide ((0 : Int) < ((0 : Nat) : Int)) = false := by decide
       have HRE := zh (show ∃ (t' : Nat) (M : List Tx), Value.int .i64 ((t : Int) + 1) = .int .i64 (t' : Int) ∧ 1 ≤ t' ∧ t' ≤ m + 1 ∧ M.length = m ∧ wr.ownsRow w.heap.size 9 1 (.slice (some ⟨g, 0, none⟩) m d) m (SX M) ∧ Below w.heap.size w wr from ⟨t + 1, M2, by simp, by omega, by omega, hML2, HO2.out, HB2.out⟩)
       clear hown2 hbw2
       have HMM2 := zh hML2
       clear hML2 HRE
       (try go_wp2_with fail)
       (try go_quiet (fail))
       (try go_wp2)
       go_roundw
       case rel => exact ⟨t + 1, M2, by go_num, by omega, by omega, HMM2.out, HMEM2.out, HO2.out, ⟨HB2.out.os, HB2.out.tape, HB2.out.output, HB2.out.size, HB2.out.block⟩⟩
       case measure => simp [intOf]; omega
      ·obtain ⟨p, rfl⟩ : ∃ p, q = p + 1 := ⟨q - 1, by omega⟩
       have hqm : p + 1 < M2.length := by omega
       have hqx : M2[p + 1]? = some M2[p + 1] := List.getElem?_eq_getElem hqm
       have hpy : M2[p]? = some (M2[p]'(by omega)) := List.getElem?_eq_getElem (by omega)
       obtain ⟨x, hx⟩ : ∃ x, x = M2[p + 1] := ⟨_, rfl⟩
       obtain ⟨y, hy⟩ : ∃ y, y = M2[p]'(by omega) := ⟨_, rfl⟩
       rw [← hx] at hqx; rw [← hy] at hpy
       have c0 : wr.cell? ⟨g, p + 1, none⟩ = some (.string ⟨x.toArray⟩) := by rw [hown2.cellAt (p + 1) (by omega)]; exact sx_get hqx
       have c1 : wr.cell? ⟨g, p, none⟩ = some (.string ⟨y.toArray⟩) := by rw [hown2.cellAt p (by omega)]; exact sx_get hpy
       obtain ⟨q, hq9⟩ : ∃ q, q = p + 1 := ⟨_, rfl⟩
       rw [← hq9] at c0 hqt ⊢
       have hqi : (0 : Int) < (q : Int) := by omega
       have hqd : decide ((0 : Int) < (q : Int)) = true := decide_eq_true hqi
       have hqn : decide (0 < q) = true := decide_eq_true (by omega)
       have hpn : (p : Int) < (m : Int) := by omega
       have hqN : (q : Int) < (m : Int) := by omega
       have hp0 : (0 : Int) ≤ (p : Int) := by omega
       have hq0 : (0 : Int) ≤ (q : Int) := by omega
       have hsq : IntKind.i64.wrap ((q : Int) - 1) = (p : Int) := by rw [show (q : Int) - 1 = (p : Int) by omega]; exact IntWalk.i64_in _ (by omega)
       have fz0 := hown2.frozenAt q
       have fz1 := hown2.frozenAt p
       have HMM2 := zh hML2
       have HW2 := zh (show ∀ u : World, u.heap = wr.heap → True from fun _ _ => trivial)
       have HST := zh (show ∀ u : World, u.ownsRow w.heap.size 9 1 (.slice (some ⟨g, 0, none⟩) m d) m (SX M2) → Below w.heap.size w u → ((u.setCell ⟨g, q, none⟩ (.string ⟨y.toArray⟩)).setCell ⟨g, p, none⟩ (.string ⟨x.toArray⟩)).ownsRow w.heap.size 9 1 (.slice (some ⟨g, 0, none⟩) m d) m (SX ((M2.set q y).set p x)) ∧ Below w.heap.size w ((u.setCell ⟨g, q, none⟩ (.string ⟨y.toArray⟩)).setCell ⟨g, p, none⟩ (.string ⟨x.toArray⟩)) from fun u hu hb => by
        obtain ⟨o1, g1⟩ := hu.stored q (.string ⟨y.toArray⟩)
        obtain ⟨o2, g2⟩ := o1.stored p (.string ⟨x.toArray⟩)
        rw [sx_put, sx_put] at o2
        have hgl : w.heap.size ≤ g := (hu.lt g rfl).1
        exact ⟨o2, (hb.grown g1 hb.size (fun j e => by cases e; exact hgl)).grown g2 (Nat.le_trans hb.size g1.size) (fun j e => by cases e; exact hgl)⟩)
       have HF9 := zh (show ∀ u : World, u.ownsRow w.heap.size 9 1 (.slice (some ⟨g, 0, none⟩) m d) m (SX M2) → (u.setCell ⟨g, q, none⟩ (.string ⟨y.toArray⟩)).cell? ⟨g, p, none⟩ = some (.string ⟨y.toArray⟩) ∧ (u.setCell ⟨g, q, none⟩ (.string ⟨y.toArray⟩)).frozen? ⟨g, p, none⟩ = false from fun u hu => by
        obtain ⟨o1, g1⟩ := hu.stored q (.string ⟨y.toArray⟩)
        exact ⟨by rw [o1.cellAt p (by omega), List.getElem?_set_ne (by omega)]; exact sx_get hpy, o1.frozenAt p⟩)
       have HLL := zh (show ((M2.set q y).set p x).length = m from by rw [List.length_set, List.length_set]; exact hML2)
       have HMW := zh (show ∀ z ∈ l, z ∈ (M2.set q y).set p x from fun z hz => mem_swap (by rw [hq9]; exact hqx) hpy z (HMEM2.out z hz))
       have HQ9 := zh hq9
       have hqm9 : q < m := by omega
       have hpm9 : p < m := by omega
       clear hown2 hbw2 hML2 hqx hpy hx hy hqm hq hq9 HW2
       cases hb1 : Op.bytesLess x y with
       | false =>
        (try go_wp2_with fail)
        (try go_quiet (fail))
        (try go_wp2)
        go_roundw
        case rel => exact ⟨t + 1, M2, by go_num, by omega, by omega, HMM2.out, HMEM2.out, HO2.out, ⟨HB2.out.os, HB2.out.tape, HB2.out.output, HB2.out.size, HB2.out.block⟩⟩
        case measure => simp [intOf]; omega
       | true =>
        (try go_wp2_with fail)
        go_quiet (fail)
        obtain ⟨v9, hv9⟩ : ∃ v, v = wr.drewN nq := ⟨_, rfl⟩
        have HO9 := zh (show v9.ownsRow w.heap.size 9 1 (.slice (some ⟨g, 0, none⟩) m d) m (SX M2) from by rw [hv9]; exact HO2.out)
        have HB9 := zh (show Below w.heap.size w v9 from by rw [hv9]; exact ⟨HB2.out.os, HB2.out.tape, HB2.out.output, HB2.out.size, HB2.out.block⟩)
        have d0 : v9.cell? ⟨g, q, none⟩ = some (.string ⟨x.toArray⟩) := by rw [hv9]; exact c0
        have d1 : v9.cell? ⟨g, p, none⟩ = some (.string ⟨y.toArray⟩) := by rw [hv9]; exact c1
        have e0 := HO9.out.frozenAt q
        have e1 := HO9.out.frozenAt p
        obtain ⟨k0, k1⟩ := HF9.out v9 HO9.out
        have HNX := zh (HST.out v9 HO9.out HB9.out)
        rw [← hv9]
        clear c0 c1 fz0 fz1 hv9
        go_wp2
        go_roundw
        case rel => exact ⟨p, _, by first | go_num | (rw [hsq]), by have := HQ9.out; omega, HLL.out, HMW.out, HNX.out.1, HNX.out.2⟩
        case measure => have := HQ9.out; simp [intOf]; omega
    ·have hltI : ¬ (t : Int) < (m : Int) := by omega
     have HRP := zh (show RiseP n l w (.returned (.slice B m d)) wr from ⟨⟨B, d, M, by rw [hML], by rw [hML]; exact HMN.out, HMEM.out, (own_rd hown).elim fun A h => h.elim fun c h => by obtain ⟨e, -, -, hr⟩ := h; cases e; exact hr⟩, hbw⟩)
     clear hbw hown
     go_wp2
     go_ret
     exact HRP.out
end Go.Proofs.Ytdifmgeicnndfaa.prg
namespace Go.Proofs.Ytdifmgeicnndfaa.prg
open Go.RowKit
open words kindp opp op kind word
set_option linter.all false
inductive Chn (cs : List ClM) : Tx → List Tx → Prop where
 | none {s : Tx} (h : findC cs s = none) : Chn cs s []
 | more {s : Tx} {c : ClM} {L : List Tx} (h : findC cs s = some c) (k : Chn cs c.su L) : Chn cs s (s :: L)
theorem has_of {cs : List ClM} {s : Tx} {c : ClM} (h : findC cs s = some c) : hasC cs s = true := by unfold hasC; rw [h]; rfl
theorem su_abv {cs : List ClM} {s : Tx} {c : ClM} (h : findC cs s = some c) : c.su ∈ abvN cs s := by unfold abvN; rw [h]; simp [abv]
theorem Chn.from_ {cs : List ClM} {s x : Tx} {L : List Tx} (h : Chn cs s L) (hx : x ∈ L) : ∃ P R, L = P ++ R ∧ Chn cs x R ∧ x ∈ R ∧ ∀ y ∈ P, y ≠ x := by
 induction h with
 | none _ => cases hx
 | more hf k ih =>
  rename_i s c L
  by_cases e : s = x
  ·subst e; exact ⟨[], s :: L, rfl, .more hf k, by simp, by simp⟩
  ·obtain ⟨P, R, h1, h2, h3, h4⟩ := ih (by rcases List.mem_cons.1 hx with h | h; exact absurd h.symm e; exact h)
   exact ⟨s :: P, R, by rw [h1]; rfl, h2, h3, fun y hy => by rcases List.mem_cons.1 hy with rfl | hy; exact e; exact h4 y hy⟩
theorem Chn.reach {cs : List ClM} {s x : Tx} {L : List Tx} (h : Chn cs s L) (hx : x ∈ L) : subB cs s x = true := by
 rw [sub_reach]
 induction h with
 | none _ => cases hx
 | more hf k ih =>
  rename_i s c L
  rcases List.mem_cons.1 hx with rfl | hx
  ·exact .base (by simp) (has_of hf)
  ·have h1 := ih hx
   have h2 : hasC cs c.su = true := by
    cases k with
    | none _ => cases hx
    | more h _ => exact has_of h
   exact (Reach.step (.base (by simp) (has_of hf)) (su_abv hf) h2).trans h1
theorem Chn.has {cs : List ClM} {s x : Tx} {L : List Tx} (h : Chn cs s L) (hx : x ∈ L) : ∃ c, findC cs x = some c := by
 obtain ⟨P, R, -, h2, h3, -⟩ := h.from_ hx
 cases h2 with
 | none _ => cases h3
 | more h _ => exact ⟨_, h⟩
theorem Chn.next {cs : List ClM} {s x : Tx} {L : List Tx} {c d : ClM} (h : Chn cs s L) (hx : x ∈ L) (hc : findC cs x = some c) (hd : findC cs c.su = some d) : c.su ∈ L := by
 obtain ⟨P, R, h1, h2, h3, -⟩ := h.from_ hx
 cases h2 with
 | none _ => cases h3
 | more h k =>
  rw [hc] at h; cases h
  cases k with
  | none h' => rw [hd] at h'; cases h'
  | more _ _ => rw [h1]; simp
structure Fine (cs : List ClM) : Prop where
 cyc : ∀ c ∈ cs, cycB cs c = false
 ifs : ∀ c ∈ cs, ∀ s ∈ c.is, ifB cs s = true
 emp : ∀ c ∈ cs, c.nm ≠ []
 sup : ∀ c ∈ cs, c.fc = true → c.su = []
theorem Fine.no {cs : List ClM} (h : Fine cs) : findC cs [] = none := by
 cases hf : findC cs [] with
 | none => rfl
 | some c => exact absurd (findC_nm hf).1 (h.emp c (findC_nm hf).2)
end Go.Proofs.Ytdifmgeicnndfaa.prg
namespace Go.Proofs.Ytdifmgeicnndfaa.prg
open Go.RowKit
open words kindp opp op kind word
end Go.Proofs.Ytdifmgeicnndfaa.prg

/- HierV -/
import Derived.Test.YtdifmgeicnndfaaJoinP
import Derived.Test.YtdifmgeicnndfaaSortP
namespace Go.Proofs.Ytdifmgeicnndfaa.prg
open Go.RowKit
open words kindp opp op kind word sorts
set_option maxRecDepth 100000
set_option maxHeartbeats 8000000
set_option linter.all false
def nxt (c : ClM) : List Tx := (if c.su = [] then [] else [c.su]) ++ c.is
def nxtN (cs : List ClM) (x : Tx) : List Tx := match findC cs x with
 | some c => nxt c
 | none => []
structure AncI (cs : List ClM) (s : Tx) (M : List Tx) (k : Nat) : Prop where
 nd : M.Nodup
 has : ∀ x ∈ M, hasC cs x = true
 st : hasC cs s = true → s ∈ M
 cl : ∀ x ∈ M.take k, ∀ y ∈ nxtN cs x, hasC cs y = true → y ∈ M
theorem nd_len {cs : List ClM} {M : List Tx} (nd : M.Nodup) (has : ∀ x ∈ M, hasC cs x = true) : M.length ≤ cs.length := by
  have := len_sub (m := cs.map (·.nm)) nd fun o ho => by
    obtain ⟨c, hc⟩ := Option.isSome_iff_exists.1 (has o ho)
    obtain ⟨e, hm⟩ := findC_nm hc
    exact List.mem_map.2 ⟨c, hm, e⟩
  simpa using this
theorem AncI.done {cs : List ClM} {s : Tx} {M : List Tx} {k : Nat} (h : AncI cs s M k) (hk : M.length ≤ k) (h0 : findC cs [] = none) : ∀ t, Reach cs [s] t → t ∈ M := by
 intro t hr
 induction hr with
 | base m k => rw [List.mem_singleton] at m; subst m; exact h.st k
 | @step y x _ m k2 ih =>
  have hx := h.cl x (by rw [List.take_of_length_le hk]; exact ih)
  refine hx y ?_ k2
  unfold abvN at m
  unfold nxtN
  cases hf : findC cs x with
  | none => rw [hf] at m; cases m
  | some c =>
   rw [hf] at m
   simp only [abv, List.mem_cons] at m
   unfold nxt
   rcases m with rfl | m
   ·by_cases he : c.su = []
    ·rw [he] at k2; unfold hasC at k2; rw [h0] at k2; cases k2
    ·simp [he]
   ·exact List.mem_append_right _ m
structure AncJ (cs : List ClM) (M Nx : List Tx) (q : Nat) (R : List Tx) : Prop where
 pre : M <+: R
 nd : R.Nodup
 has : ∀ x ∈ R, hasC cs x = true
 cl : ∀ y ∈ Nx.take q, hasC cs y = true → y ∈ R
theorem AncI.into {cs : List ClM} {s : Tx} {M : List Tx} {k : Nat} (h : AncI cs s M k) (Nx : List Tx) : AncJ cs M Nx 0 M := ⟨List.prefix_refl _, h.nd, h.has, by simp⟩
theorem AncJ.skip {cs : List ClM} {M Nx R : List Tx} {q : Nat} (h : AncJ cs M Nx q R) {y : Tx} (hy : Nx[q]? = some y) (hs : hasC cs y = true → y ∈ R) : AncJ cs M Nx (q + 1) R :=
 ⟨h.pre, h.nd, h.has, fun z hz hh => by
  rw [List.take_add_one, hy] at hz
  rcases List.mem_append.1 hz with hz | hz
  ·exact h.cl z hz hh
  ·simp at hz; subst hz; exact hs hh⟩
theorem AncJ.put {cs : List ClM} {M Nx R : List Tx} {q : Nat} (h : AncJ cs M Nx q R) {y : Tx} (hy : Nx[q]? = some y) (hh : hasC cs y = true) (hn : R.contains y = false) : AncJ cs M Nx (q + 1) (R ++ [y]) := by
 have hn' : y ∉ R := fun e => by rw [List.contains_iff_mem.2 e] at hn; cases hn
 refine ⟨h.pre.trans (List.prefix_append _ _), ?_, ?_, ?_⟩
 ·rw [List.nodup_append]
  exact ⟨h.nd, by simp, fun a ha b hb e => by simp at hb; subst hb; subst e; exact hn' ha⟩
 ·intro x hx
  rcases List.mem_append.1 hx with hx | hx
  ·exact h.has x hx
  ·simp at hx; subst hx; exact hh
 ·intro z hz hk
  rw [List.take_add_one, hy] at hz
  rcases List.mem_append.1 hz with hz | hz
  ·exact List.mem_append_left _ (h.cl z hz hk)
  ·simp at hz; subst hz; simp
theorem AncI.next {cs : List ClM} {s x : Tx} {M R Nx : List Tx} {k q : Nat} {c : ClM} (h : AncI cs s M k) (hx : M[k]? = some x) (hc : findC cs x = some c) (hN : Nx = nxt c) (j : AncJ cs M Nx q R) (hq : Nx.length ≤ q) : AncI cs s R (k + 1) := by
 refine ⟨j.nd, j.has, fun hs => j.pre.subset (h.st hs), fun z hz y hy hh => ?_⟩
 obtain ⟨t, rfl⟩ := j.pre
 have hkl : k < M.length := (List.getElem?_eq_some_iff.1 hx).1
 rw [List.take_append_of_le_length (by omega), List.take_add_one, hx] at hz
 rcases List.mem_append.1 hz with hz | hz
 ·exact List.mem_append_left _ (h.cl z hz y hy hh)
 ·simp at hz; subst hz
  unfold nxtN at hy
  rw [hc] at hy
  exact j.cl y (by rw [List.take_of_length_le hq, hN]; exact hy) hh
def Dj (u v : Value) : Prop := u.ownBlock = none ∨ u.ownBlock ≠ v.ownBlock
theorem Dj.symm {u v : Value} (h : Dj u v) : Dj v u := by
 unfold Dj at h ⊢
 rcases h with h | h
 ·cases hv : v.ownBlock with
  | none => exact .inl rfl
  | some k => exact .inr (by rw [h]; simp)
 ·exact .inr fun e => h e.symm
theorem Dj.grow {u v v' : Value} {w : World} {base n : Nat} {e : TypeId} {xs : List Value} {s : Nat} (h : Dj u v) (hu : w.ownsRow base e s u n xs) (k : v'.ownBlock = v.ownBlock ∨ v'.ownBlock = some w.heap.size) : Dj u v' := by
 unfold Dj at h ⊢
 rcases h with h | h
 ·exact .inl h
 ·rcases k with k | k
  ·exact .inr (by rw [k]; exact h)
  ·right
   rw [k]
   intro e
   have := (hu.lt _ e).2
   omega
theorem there_cl {u : World} {b : Nat} {T : TypeId} (h : u.heap[b]? = some (.cells #[.string ⟨#[]⟩, .string ⟨#[]⟩, .bool false, .bool false, .slice none 0 0, .slice none 0 0, .slice none 0 0] T (0, 0))) : u.there b 0 7 := fun j hj => by
  rw [Nat.zero_add]
  refine ⟨?_, frozen_of_row _ _ j _ _ h⟩
  match j, hj with
  | 0, _ => rw [show u.cell? ⟨b, 0, none⟩ = some (.string ⟨#[]⟩) from cell_of_row _ _ 0 _ _ _ h]; rfl
  | 1, _ => rw [show u.cell? ⟨b, 1, none⟩ = some (.string ⟨#[]⟩) from cell_of_row _ _ 1 _ _ _ h]; rfl
  | 2, _ => rw [show u.cell? ⟨b, 2, none⟩ = some (.bool false) from cell_of_row _ _ 2 _ _ _ h]; rfl
  | 3, _ => rw [show u.cell? ⟨b, 3, none⟩ = some (.bool false) from cell_of_row _ _ 3 _ _ _ h]; rfl
  | 4, _ => rw [show u.cell? ⟨b, 4, none⟩ = some (.slice none 0 0) from cell_of_row _ _ 4 _ _ _ h]; rfl
  | 5, _ => rw [show u.cell? ⟨b, 5, none⟩ = some (.slice none 0 0) from cell_of_row _ _ 5 _ _ _ h]; rfl
  | 6, _ => rw [show u.cell? ⟨b, 6, none⟩ = some (.slice none 0 0) from cell_of_row _ _ 6 _ _ _ h]; rfl
theorem sets_cl {u : World} {b : Nat} {T : TypeId} {cs : List Value} (hl : cs.length = 7) (h : u.heap[b]? = some (.cells #[.string ⟨#[]⟩, .string ⟨#[]⟩, .bool false, .bool false, .slice none 0 0, .slice none 0 0, .slice none 0 0] T (0, 0))) : (u.setCells b 0 cs).heap[b]? = some (.cells cs.toArray T (0, 0)) := by
  obtain ⟨a0, a1, a2, a3, a4, a5, a6, rfl⟩ : ∃ a0 a1 a2 a3 a4 a5 a6, cs = [a0, a1, a2, a3, a4, a5, a6] := by
    match cs, hl with
    | [a0, a1, a2, a3, a4, a5, a6], _ => exact ⟨a0, a1, a2, a3, a4, a5, a6, rfl⟩
  have s0 := heap_setCell_same _ b 0 _ _ a0 h
  have s1 := heap_setCell_same _ b 1 _ _ a1 s0
  have s2 := heap_setCell_same _ b 2 _ _ a2 s1
  have s3 := heap_setCell_same _ b 3 _ _ a3 s2
  have s4 := heap_setCell_same _ b 4 _ _ a4 s3
  have s5 := heap_setCell_same _ b 5 _ _ a5 s4
  have s6 := heap_setCell_same _ b 6 _ _ a6 s5
  show ((((((((u.setCell ⟨b, 0, none⟩ a0).setCell ⟨b, 1, none⟩ a1).setCell ⟨b, 2, none⟩ a2).setCell ⟨b, 3, none⟩ a3).setCell ⟨b, 4, none⟩ a4).setCell ⟨b, 5, none⟩ a5).setCell ⟨b, 6, none⟩ a6).heap[b]?) = _
  rw [s6]; simp
theorem set_grow (w : World) (g j : Nat) (u : Value) : w.grownBy (w.setCell ⟨g, j, none⟩ u) (some g) := ⟨rfl, rfl, rfl, by simp, fun k _ hk => heap_setCell_other w ⟨g, j, none⟩ k u (fun e => hk (by simp [e]))⟩
theorem sets_grow (u : World) (b o : Nat) (cs : List Value) : u.grownBy (u.setCells b o cs) (some b) := by
  induction cs generalizing u o with
  | nil => exact ⟨rfl, rfl, rfl, Nat.le_refl _, fun _ _ _ => rfl⟩
  | cons v cs ih =>
   have h := set_grow u b o v
   have k := ih (u.setCell ⟨b, o, none⟩ v) (o + 1)
   exact ⟨k.os.trans h.os, k.tape.trans h.tape, k.output.trans h.output, Nat.le_trans h.size k.size, fun q hq hn => (k.block q (Nat.lt_of_lt_of_le hq h.size) hn).trans (h.block q hq hn)⟩
theorem size_cl : (Try.prog.info? 43).map (·.size) = some 7 := by kernel_rfl
theorem one_cl (x : ClM) : ∀ v ∈ clC x, v.oneCell' = true := by
  intro v hv
  simp only [clC, List.mem_cons, List.not_mem_nil, or_false] at hv
  rcases hv with rfl | rfl | rfl | rfl | rfl | rfl | rfl <;> rfl
theorem Dj.of_lt {u v : Value} {w w' : World} {b1 b2 n m s : Nat} {e : TypeId} {xs ys : List Value} (hu : w'.ownsRow b2 e s u n xs) (hv : w.ownsRow b1 e s v m ys) (h : w.heap.size ≤ b2) : Dj u v := by
 unfold Dj
 cases hn : u.ownBlock with
 | none => exact .inl rfl
 | some g =>
  right
  intro e
  have h1 := (hu.lt g hn).1
  have h2 := (hv.lt g e.symm).2
  omega
theorem sx_one (l : List Tx) : ∀ u ∈ SX l, u.oneCell' = true := by
 intro u hu
 unfold SX at hu
 obtain ⟨_, _, rfl⟩ := List.mem_map.1 hu
 rfl
theorem overA {b : Nat} {a c : World} (h : Below b a c) : Below b a c.drew := ⟨h.os, h.tape, h.output, h.size, h.block⟩
theorem anc_at {cs : List ClM} {y : Tx} {c : ClM} (h : findC cs y = some c) : ∃ j, cs[j]? = some c ∧ j < cs.length ∧ ∀ r : Int, Idx (fun u : ClM => u.nm == y) cs r → r = (j : Int) := by
 obtain ⟨j, hj⟩ : ∃ j, cs.findIdx? (fun u : ClM => u.nm == y) = some j := by
  cases hi : cs.findIdx? (fun u : ClM => u.nm == y) with
  | some j => exact ⟨j, rfl⟩
  | none =>
   have := List.findIdx?_eq_none_iff.1 hi
   unfold findC at h
   have h1 := List.find?_some h
   rw [this c (List.mem_of_find?_eq_some h)] at h1; cases h1
 have hjl : j < cs.length := (List.findIdx?_eq_some_iff_getElem.1 hj).1
 refine ⟨j, ?_, hjl, ?_⟩
 ·have h2 := List.findIdx?_eq_some_iff_getElem.1 hj
  obtain ⟨hl, hp, ha⟩ := h2
  have h3 := (idx_at (P := fun u : ClM => u.nm == y) (List.getElem?_eq_getElem hl) hp (fun t ht => by
   obtain ⟨q, hq, rfl⟩ := List.mem_iff_getElem.1 ht
   rw [List.getElem_take]
   rw [List.length_take] at hq
   simpa using ha q (by omega))).2
  unfold findC at h
  rw [h] at h3
  rw [List.getElem?_eq_getElem hl]; exact h3.symm
 ·intro r hr
  rcases idx_two hr with ⟨-, h1, -⟩ | ⟨k, x, rfl, -, -, h1, -⟩
  ·rw [hj] at h1; cases h1
  ·rw [hj] at h1; cases h1; rfl
def AncR (cs : List ClM) (s : Tx) (w : World) (e : Ending) (w' : World) : Prop := (∃ (A : Option Addr) (c : Nat) (M : List Tx), e = .returned (.slice A M.length c) ∧ M.length ≤ 70 ∧ (findC cs [] = none → ∀ t, Reach cs [s] t → t ∈ M) ∧ Rd w' A (SX M)) ∧ Below w.heap.size w w'
def SubR (cs : List ClM) (a b : Tx) (w : World) (e : Ending) (w' : World) : Prop := ∃ r : Bool, e = .returned (.bool r) ∧ (findC cs [] = none → subB cs a b = true → r = true) ∧ Below w.heap.size w w'
theorem anc_r (x : PrM) (s : Tx) (w : World) (hpr : PrOk w x) (hgr : GrP x) :
  Calls Try.prog 81 #[.agg (prC x).toArray, .string ⟨s.toArray⟩] w (AncR x.cs s w) := by
 obtain ⟨i0, hi0, hz0, hz1, hz2⟩ := info_parts infoSt
 obtain ⟨cs, A1, c1, ns, A2, c2, ec, en, ed⟩ := x
 obtain ⟨W, hW⟩ : ∃ W, W = w.alloc (.cells (prC ⟨cs, A1, c1, ns, A2, c2, ec, en, ed⟩).toArray 27) := ⟨_, rfl⟩
 have hal : Below w.heap.size w W := by rw [hW]; exact (Below.refl _ w).alloc (Nat.le_refl _) _
 have hblk : W.heap[w.heap.size]? = some (.cells (prC ⟨cs, A1, c1, ns, A2, c2, ec, en, ed⟩).toArray 27 (0, 0)) := by rw [hW]; exact heap_alloc_new w _
 have h70 : cs.length ≤ 70 := hgr.1.1
 have HPL := fun (t : Tx) v (hv : Below W.heap.size W v) => rplace_cl ⟨cs, A1, c1, ns, A2, c2, ec, en, ed⟩ t v ((hpr.below hal).below hv).1.2 (by show cs.length ≤ _; omega)
 have HPO := zh (fun v (hv : Below W.heap.size W v) => (hpr.below hal).below hv)
 have HCE := zh (fun v (hv : Below W.heap.size W v) => pr_cells ((hv.block _ (blk_lt hblk)).trans hblk))
 have HGR := zh (fun (c : ClM) (hc : c ∈ cs) => show c.is.length ≤ 40 from (hgr.2 c hc).1.1)
 have HBS := zh (show w.heap.size < W.heap.size from blk_lt hblk)
 have H70 := zh h70
 have HAL := zh hal
 dsimp only at HPL
 unfold prC at hW HPL ⊢
 try dsimp only [List.cons_append, List.nil_append] at hW HPL ⊢
 have HPL := zh HPL
 have HW := zh hW
 clear hal hblk hW hpr hgr h70
 have hnI : (cs.length : Int) ≤ 70 := by have := H70.out; omega
 obtain ⟨x0, x1, x2, x3, x4⟩ := HCE.out W (Below.refl _ _)
 go_enter Try.func81, Try.ntmps81
 go_wp2_with fail
 rw [← HW.out]
 (try go_wp2_with fail)
 refine (HPL.out s W (Below.refl _ _)).mono ?_
 rintro e w1 ⟨r, rfl, hix, hb1⟩
 have K1 := zh (show Below W.heap.size W w1 from hb1)
 clear x0 x1 x2 x3 x4 hb1
 rcases idx_two hix with ⟨rfl, -, hf⟩ | ⟨k, y, rfl, hy, -, -, hf⟩
 ·have HST := zh (show AncI cs s [] 0 from ⟨List.nodup_nil, by simp, fun h => (by unfold hasC findC at h; rw [hf] at h; cases h), by simp⟩)
  have HRI := zh (rise_w none 0 [] w1 (Rd.nil _ _) (by simp))
  clear hix hf
  go_wp2
  go_loopw [5, 6] (fun v i wr => v = .slice none 0 0 ∧ i = .int .i64 0 ∧ wr = w1) (fun _ _ _ => 0)
  case atStart => exact ⟨rfl, rfl, rfl⟩
  case round =>
   obtain ⟨rfl, rfl, rfl⟩ := hrel
   go_wp2_with fail
   refine HRI.out.mono ?_
   rintro e w2 ⟨⟨A, cc, M, rfl, hl, -, hr⟩, hb⟩
   have HRR := zh (show AncR cs s w (.returned (.slice A M.length cc)) w2 from ⟨⟨A, cc, M, rfl, (by have : M.length ≤ 0 := hl; omega), fun h0 t ht => absurd (HST.out.done (by simp) h0 t ht) (by simp), hr⟩, HAL.out.trans ((K1.out.trans (hb.mono K1.out.size)).mono HAL.out.size)⟩)
   clear hl hr hb
   go_wp2
   go_ret
   exact HRR.out
 ·have hk0 : (0 : Int) ≤ (k : Int) := by omega
  have HST := zh (show AncI cs s [s] 0 from ⟨by simp, fun x hx => by simp at hx; subst hx; unfold hasC findC; rw [hf]; rfl, fun _ => by simp, by simp⟩)
  clear hix hf hy
  go_wp2_with (at_builtin; refine wpList_app _ rfl (.tmp 14) (.tmp 16) _ rfl W.heap.size 9 i0 _ 1 16 Try.underlying23 hi0 hz0 hz1 hz2 rfl (by omega) _ 0 [] rfl (World.ownsRow_nil _ _ _ _) _ 1 1 [_] rfl rfl (rd_blk (heap_alloc_new w1 _) (k := 1) rfl) (by simp [Value.oneCell']) (by simp only [maxLen]; omega) (by omega) (by simp; have := K1.out.size; omega) ?_; intro v3 w3 hown3 hg3 hb3 hat3; clear hg3 hat3)
  have HO3 := zh (show w3.ownsRow W.heap.size 9 1 v3 [s].length (SX [s]) from hown3)
  have HB3 := zh ((K1.out.alloc K1.out.size _).trans hb3)
  clear hown3 hb3
  go_wp2
  go_loopw [5, 6] (fun v i wr => ∃ (k : Nat) (M : List Tx), i = .int .i64 (k : Int) ∧ AncI cs s M k ∧ k ≤ M.length ∧ wr.ownsRow W.heap.size 9 1 v M.length (SX M) ∧ Below W.heap.size W wr) (fun _ i _ => 71 - (intOf i).toNat)
  case atStart => exact ⟨0, [s], rfl, HST.out, by simp, HO3.out, HB3.out⟩
  case round =>
   obtain ⟨k, M, rfl, hA, hkM, hown, hbw⟩ := hrel
   obtain ⟨B, d, rfl, hnd, -, hrd⟩ := own_rd hown
   have hm70 : M.length ≤ 70 := Nat.le_trans (nd_len hA.nd hA.has) H70.out
   obtain ⟨m, hm⟩ : ∃ m, m = M.length := ⟨_, rfl⟩
   have HM := zh hm
   rw [← hm] at hown hkM hm70 hnd ⊢
   have HO := zh hown; have HB := zh hbw; have HAI := zh hA
   have hmI : (m : Int) ≤ 70 := by omega
   by_cases hlt : k < m
   ·have hltI : (k : Int) < (m : Int) := by omega
    obtain ⟨y, hy⟩ : ∃ y, M[k]? = some y := ⟨M[k]'(by rw [← HM.out]; exact hlt), List.getElem?_eq_getElem _⟩
    obtain ⟨c, hfc⟩ := Option.isSome_iff_exists.1 (show (findC cs y).isSome = true from hA.has y (List.mem_of_getElem? hy))
    obtain ⟨j, hcj, hjn, hrj⟩ := anc_at hfc
    obtain ⟨a, rfl, _, hcell⟩ := hrd.at_ (sx_get hy)
    have HQ := zh (fun v hv => (HPL.out y v hv).mono (R' := fun e w' => e = .returned (.int .i64 (j : Int)) ∧ Below v.heap.size v w') (fun e w' ⟨r, he, hr, hb⟩ => ⟨by rw [he, hrj r hr], hb⟩))
    obtain ⟨b1, hA1⟩ : ∃ b1, A1 = some b1 := by
     obtain ⟨b1, e, -⟩ := cl_at (HPO.out wr hbw).1.2 hcj
     exact ⟨b1, e⟩
    subst hA1
    have HS := zh (show ∀ v, Below wr.heap.size wr v → (fun w9 : World => (w9.cell? ⟨w.heap.size, 0, none⟩ = some (.slice (some b1) cs.length c1) ∧ w9.cell? ⟨w.heap.size, 1, none⟩ = some (.slice A2 ns.length c2) ∧ w9.cell? ⟨w.heap.size, 2, none⟩ = some (.string ⟨ec.toArray⟩) ∧ w9.cell? ⟨w.heap.size, 3, none⟩ = some (.string ⟨en.toArray⟩) ∧ w9.cell? ⟨w.heap.size, 4, none⟩ = some (.string ⟨ed.toArray⟩)) ∧ w9.cell? (a.add k) = some (.string ⟨y.toArray⟩) ∧ w9.cell? (b1.add (j * 7)) = some (.string ⟨c.nm.toArray⟩) ∧ w9.cell? ⟨(b1.add (j * 7)).block, (b1.add (j * 7)).off + 1, none⟩ = some (.string ⟨c.su.toArray⟩) ∧ w9.cell? ⟨(b1.add (j * 7)).block, (b1.add (j * 7)).off + 2, none⟩ = some (.bool c.fc) ∧ w9.cell? ⟨(b1.add (j * 7)).block, (b1.add (j * 7)).off + 3, none⟩ = some (.bool c.ab) ∧ w9.cell? ⟨(b1.add (j * 7)).block, (b1.add (j * 7)).off + 4, none⟩ = some (.slice c.A1 c.is.length c.c1) ∧ w9.cell? ⟨(b1.add (j * 7)).block, (b1.add (j * 7)).off + 5, none⟩ = some (.slice c.A2 c.fs.length c.c2) ∧ w9.cell? ⟨(b1.add (j * 7)).block, (b1.add (j * 7)).off + 6, none⟩ = some (.slice c.A3 c.ms.length c.c3)) v from fun v hv => by
     have hv' := hbw.trans (hv.mono hbw.size)
     refine ⟨HCE.out v hv', ?_, ?_⟩
     ·obtain ⟨a', e', -, h⟩ := (hrd.below hv).at_ (sx_get hy)
      cases e'; exact h
     ·obtain ⟨b', e', -, h⟩ := cl_at (HPO.out v hv').1.2 hcj
      cases e'
      exact h)
    have hjI : (j : Int) < (cs.length : Int) := by omega
    have hj0I : (0 : Int) ≤ (j : Int) := by omega
    have HYY := zh hy; have HFC := zh hfc
    obtain ⟨x0, x1, x2, x3, x4⟩ := HCE.out wr hbw
    clear hy hfc hA hown hrd hm hbw hcj hrj
    have hmx : Try.prog.follows .mixedOrders = true := by kernel_rfl
    go_wp2_with fail
    refine wp_region_held_drew (S := fun w9 : World => (w9.cell? ⟨w.heap.size, 0, none⟩ = some (.slice (some b1) cs.length c1) ∧ w9.cell? ⟨w.heap.size, 1, none⟩ = some (.slice A2 ns.length c2) ∧ w9.cell? ⟨w.heap.size, 2, none⟩ = some (.string ⟨ec.toArray⟩) ∧ w9.cell? ⟨w.heap.size, 3, none⟩ = some (.string ⟨en.toArray⟩) ∧ w9.cell? ⟨w.heap.size, 4, none⟩ = some (.string ⟨ed.toArray⟩)) ∧ w9.cell? (a.add k) = some (.string ⟨y.toArray⟩) ∧ w9.cell? (b1.add (j * 7)) = some (.string ⟨c.nm.toArray⟩) ∧ w9.cell? ⟨(b1.add (j * 7)).block, (b1.add (j * 7)).off + 1, none⟩ = some (.string ⟨c.su.toArray⟩) ∧ w9.cell? ⟨(b1.add (j * 7)).block, (b1.add (j * 7)).off + 2, none⟩ = some (.bool c.fc) ∧ w9.cell? ⟨(b1.add (j * 7)).block, (b1.add (j * 7)).off + 3, none⟩ = some (.bool c.ab) ∧ w9.cell? ⟨(b1.add (j * 7)).block, (b1.add (j * 7)).off + 4, none⟩ = some (.slice c.A1 c.is.length c.c1) ∧ w9.cell? ⟨(b1.add (j * 7)).block, (b1.add (j * 7)).off + 5, none⟩ = some (.slice c.A2 c.fs.length c.c2) ∧ w9.cell? ⟨(b1.add (j * 7)).block, (b1.add (j * 7)).off + 6, none⟩ = some (.slice c.A3 c.ms.length c.c3)) (by kernel_rfl) ?_ (fun hHeld => ?_)
    ·exact HS.out _ ⟨rfl, rfl, rfl, Nat.le_refl _, fun _ _ => rfl⟩
    obtain ⟨u0, hWd⟩ : ∃ u, u = wr.drew := ⟨_, rfl⟩
    have HB0 := zh (show Below wr.heap.size wr u0 from by rw [hWd]; exact ⟨rfl, rfl, rfl, Nat.le_refl _, fun _ _ => rfl⟩)
    rw [← hWd]
    have hS0 := HS.out _ HB0.out
    clear hWd x0 x1 x2 x3 x4 hcell
    refine tkp 0 rfl ?_
    refine tkp 1 rfl ?_
    refine tkp 2 rfl ?_
    refine tkp 3 rfl ?_
    refine tkp 4 rfl ?_
    refine tkp 5 rfl ?_
    refine tkp 6 rfl ?_
    clear hS0
    refine wpAnyH_ready (rs := [7, 10]) (by kernel_rfl) (by simp) (AllReadyH.cons rfl (fun K hK => ?_) (AllReadyH.cons rfl (fun K hK => ?_) AllReadyH.nil))
    focus
     go_simp
     refine (HQ.out _ (HB.out.trans (HB0.out.mono HB.out.size))).mono ?_
     rintro e u1 ⟨rfl, hb⟩
     have Hu1 := zh (show Below wr.heap.size wr u1 from HB0.out.trans (hb.mono HB0.out.size))
     have HL := zh (show Below u0.heap.size u0 u1 from hb)
     clear hb
     go_wp2_with fail
     refine hK.out _ _ (HS.out _ Hu1.out) (fun hHeld => ?_)
     clear hK K
     try simp only [puts]
     have hS1 := HS.out _ Hu1.out
     refine tkp 8 rfl ?_
     refine tkp 9 rfl ?_
     clear hS1
     refine rdy 10 rfl (fun K hK => ?_)
     go_simp
     obtain ⟨u2, hn1⟩ : ∃ v, v = u1.alloc (.cells #[.string ⟨#[]⟩, .string ⟨#[]⟩, .bool false, .bool false, .slice none 0 0, .slice none 0 0, .slice none 0 0] 43) := ⟨_, rfl⟩
     have hz1 : u2.heap[u1.heap.size]? = some (.cells #[.string ⟨#[]⟩, .string ⟨#[]⟩, .bool false, .bool false, .slice none 0 0, .slice none 0 0, .slice none 0 0] 43 (0, 0)) := by rw [hn1]; exact heap_alloc_new _ _
     have hb1 : Below wr.heap.size wr u2 := by rw [hn1]; exact Hu1.out.alloc Hu1.out.size _
     rw [← hn1]
     clear hn1
     have Hu2 := zh hb1
     have HZ1 := zh hz1
     have HGE := zh (show wr.heap.size ≤ u1.heap.size from Hu1.out.size)
     clear hb1 hz1
     refine hK.out _ _ (HS.out _ Hu2.out) (fun hHeld => ?_)
     clear hK K
     try simp only [puts]
     obtain ⟨bz, hbz⟩ : ∃ b, b = u1.heap.size := ⟨_, rfl⟩
     have hz1 := HZ1.out
     have hge := HGE.out
     rw [← hbz] at hz1 hge ⊢
     have hgr := sets_grow u2 bz 0 (clC c)
     obtain ⟨uF, huF⟩ : ∃ v, v = u2.setCells bz 0 (clC c) := ⟨_, rfl⟩
     have hBF : Below wr.heap.size wr uF := by rw [huF]; exact Hu2.out.grown hgr Hu2.out.size (fun k hk => by cases hk; exact hge)
     have HU := zh (show uF.heap[bz]? = some (.cells (clC c).toArray 43 (0, 0)) from by rw [huF]; exact sets_cl rfl hz1)
     have HBF := zh hBF; have HUF := zh huF
     refine tst 11 bz 0 (clC c) rfl rfl rfl rfl (there_cl hz1) size_cl (one_cl _) (by rw [← huF]; exact HS.out _ hBF) (fun hx9 => ?_)
     clear hx9
     clear hz1 hge hgr hBF huF hbz
     rw [← HUF.out]
     try simp only [puts]
     refine wpAnyH_done (by kernel_rfl) ?_ _
     clear HUF HGE HZ1 HL Hu2
     try clear hHeld
     try clear hHeld
     try clear hHeld
     try clear hHeld
     clear Hu1 HB0
    rotate_left 1
    focus
     go_simp
     obtain ⟨u1, hn1⟩ : ∃ v, v = u0.alloc (.cells #[.string ⟨#[]⟩, .string ⟨#[]⟩, .bool false, .bool false, .slice none 0 0, .slice none 0 0, .slice none 0 0] 43) := ⟨_, rfl⟩
     have hz1 : u1.heap[u0.heap.size]? = some (.cells #[.string ⟨#[]⟩, .string ⟨#[]⟩, .bool false, .bool false, .slice none 0 0, .slice none 0 0, .slice none 0 0] 43 (0, 0)) := by rw [hn1]; exact heap_alloc_new _ _
     have hb1 : Below wr.heap.size wr u1 := by rw [hn1]; exact HB0.out.alloc HB0.out.size _
     rw [← hn1]
     clear hn1
     have Hu1 := zh hb1
     have HZ1 := zh hz1
     have HGE := zh (show wr.heap.size ≤ u0.heap.size from HB0.out.size)
     clear hb1 hz1
     refine hK.out _ _ (HS.out _ Hu1.out) (fun hHeld => ?_)
     clear hK K
     try simp only [puts]
     refine rdy 7 rfl (fun K hK => ?_)
     go_simp
     refine (HQ.out _ (HB.out.trans (Hu1.out.mono HB.out.size))).mono ?_
     rintro e u2 ⟨rfl, hb⟩
     have Hu2 := zh (show Below wr.heap.size wr u2 from Hu1.out.trans (hb.mono Hu1.out.size))
     have HL := zh (show Below u1.heap.size u1 u2 from hb)
     clear hb
     go_wp2_with fail
     refine hK.out _ _ (HS.out _ Hu2.out) (fun hHeld => ?_)
     clear hK K
     try simp only [puts]
     have hS1 := HS.out _ Hu2.out
     refine tkp 8 rfl ?_
     refine tkp 9 rfl ?_
     clear hS1
     obtain ⟨bz, hbz⟩ : ∃ b, b = u0.heap.size := ⟨_, rfl⟩
     have hz1 := (HL.out.block _ (blk_lt HZ1.out)).trans HZ1.out
     have hge := HGE.out
     rw [← hbz] at hz1 hge ⊢
     have hgr := sets_grow u2 bz 0 (clC c)
     obtain ⟨uF, huF⟩ : ∃ v, v = u2.setCells bz 0 (clC c) := ⟨_, rfl⟩
     have hBF : Below wr.heap.size wr uF := by rw [huF]; exact Hu2.out.grown hgr Hu2.out.size (fun k hk => by cases hk; exact hge)
     have HU := zh (show uF.heap[bz]? = some (.cells (clC c).toArray 43 (0, 0)) from by rw [huF]; exact sets_cl rfl hz1)
     have HBF := zh hBF; have HUF := zh huF
     refine tst 11 bz 0 (clC c) rfl rfl rfl rfl (there_cl hz1) size_cl (one_cl _) (by rw [← huF]; exact HS.out _ hBF) (fun hx9 => ?_)
     clear hx9
     clear hz1 hge hgr hBF huF hbz
     rw [← HUF.out]
     try simp only [puts]
     refine wpAnyH_done (by kernel_rfl) ?_ _
     clear HUF HGE HZ1 HL Hu2
     try clear hHeld
     try clear hHeld
     try clear hHeld
     try clear hHeld
     clear Hu1 HB0
    all_goals (
     have HBW := zh (HB.out.trans (HBF.out.mono HB.out.size))
     have HOF := zh (own_below HO.out HBF.out)
     obtain ⟨b9, hb9⟩ : ∃ b, b = uF.heap.size := ⟨_, rfl⟩
     have hlt9 : W.heap.size ≤ b9 := by rw [hb9]; exact HBW.out.size
     have HB9 := zh hb9
     have HCB := zh (fun v (hv : Below b9 uF v) => cl_cells ((hv.block bz (by rw [hb9]; exact blk_lt HU.out)).trans HU.out))
     have HB0 := zh (Below.refl b9 uF)
     have hmem := (findC_nm HFC.out).2
     have HIL := zh (HGR.out c hmem)
     have hil : (c.is.length : Int) ≤ 40 := by have := HIL.out; omega
     have HRI := zh (fun v (hv : Below b9 uF v) => show Rd v c.A1 (SX c.is) from ((HPO.out v (HBW.out.trans (hv.mono hlt9))).2.2 c hmem).1.2)
     have HLT9 := zh hlt9
     obtain ⟨z0, z1, z2, z3, z4, z5, z6⟩ := HCB.out uF HB0.out
     clear hb9 hmem hlt9
     cases hs0 : (c.su == [])
     rotate_left 1
     focus
      have g1 := e_empty hs0
      go_wp2_with (at_builtin; refine wpList_app _ rfl (.tmp 42) (.tmp 44) _ rfl b9 9 i0 _ 1 16 Try.underlying23 hi0 hz0 hz1 hz2 rfl (by omega) _ 0 [] rfl (World.ownsRow_nil _ _ _ _) c.A1 c.is.length c.c1 (SX c.is) rfl ?_ ?_ ?_ ?_ ?_ ?_ ?_)
      ·simp [sx_len]
      ·exact HRI.out _ HB0.out
      ·exact sx_one _
      ·have := HIL.out; simp only [maxLen]; omega
      ·have := HIL.out; omega
      ·have := HB9.out; omega
      intro v5 w5 hown5 hg5 hb5 hat5
      clear hg5 hat5
      have HN5 := zh (show w5.ownsRow b9 9 1 v5 (nxt c).length (SX (nxt c)) from by
       have e : nxt c = c.is := by unfold nxt; rw [if_pos (by simpa using hs0)]; rfl
       rw [e]; simpa using hown5)
      have HB5 := zh (show Below b9 uF w5 from hb5)
      clear hown5 hb5 z0 z1 z2 z3 z4 z5 z6
      obtain ⟨C, dN, rfl, -, -, -⟩ := own_rd HN5.out
      go_wp2
     rotate_left 1
     focus
      have g1 := e_empty hs0
      go_wp2_with (first
       | (at_builtin; refine wpList_app _ rfl (.tmp 37) (.tmp 40) _ rfl b9 9 i0 _ 1 16 Try.underlying23 hi0 hz0 hz1 hz2 rfl (by omega) _ 0 [] rfl (World.ownsRow_nil _ _ _ _) _ 1 1 [_] rfl rfl (rd_blk (heap_alloc_new uF _) (k := 1) rfl) (by simp [Value.oneCell']) (by simp only [maxLen]; omega) (by omega) (by have := HB9.out; simp; omega) ?_; intro v4 w4 hown4 hg4 hb4 hat4; clear hg4 hat4
          have HB4 := zh (show Below b9 uF w4 from (HB0.out.alloc (by rw [HB9.out]; exact Nat.le_refl _) _).trans hb4)
          have HO4 := zh (show w4.ownsRow b9 9 1 v4 1 (SX [c.su]) from by simpa [SX] using hown4)
          clear hown4 hb4 z0 z1 z2 z3 z4 z5 z6
          obtain ⟨z0, z1, z2, z3, z4, z5, z6⟩ := HCB.out w4 HB4.out)
       | (at_builtin; refine wpList_app _ rfl (.tmp 42) (.tmp 44) _ rfl b9 9 i0 _ 1 16 Try.underlying23 hi0 hz0 hz1 hz2 rfl (by omega) _ 1 (SX [c.su]) rfl HO4.out c.A1 c.is.length c.c1 (SX c.is) rfl (by simp [sx_len]) (HRI.out _ HB4.out) (sx_one _) (by have := HIL.out; simp only [maxLen]; omega) (by have := HIL.out; omega) (by have := HB9.out; have := HB4.out.size; omega) ?_; intro v5 w5 hown5 hg5 hb5 hat5; clear hg5 hat5))
      have HN5 := zh (show w5.ownsRow b9 9 1 v5 (nxt c).length (SX (nxt c)) from by
       have e : nxt c = [c.su] ++ c.is := by unfold nxt; rw [if_neg (by intro e; rw [e] at hs0; cases hs0)]
       rw [e, SX_app, List.length_append]; exact hown5)
      have HB5 := zh (show Below b9 uF w5 from HB4.out.trans hb5)
      clear hown5 hb5 z0 z1 z2 z3 z4 z5 z6 HB4 HO4
      obtain ⟨C, dN, rfl, -, -, -⟩ := own_rd HN5.out
      go_wp2
     all_goals (
      obtain ⟨Nx, hNx⟩ : ∃ l, l = nxt c := ⟨_, rfl⟩
      obtain ⟨nN, hnN⟩ : ∃ n, n = Nx.length := ⟨_, rfl⟩
      have hn5 := HN5.out
      rw [← hNx, ← hnN] at hn5 ⊢
      have HNX := zh hNx; have HNN := zh hnN
      have h41 : nN ≤ 41 := by
       rw [hnN, hNx]; unfold nxt; rw [List.length_append]
       have := HIL.out
       split <;> simp <;> omega
      have hnNI : (nN : Int) ≤ 41 := by omega
      have hdj := Dj.of_lt hn5 HOF.out (by rw [HB9.out]; exact Nat.le_refl _)
      have hoO : w5.ownsRow W.heap.size 9 1 (.slice (some a) m d) m (SX M) := own_below HOF.out (by rw [← HB9.out]; exact HB5.out)
      have hbW5 : Below W.heap.size W w5 := HBW.out.trans (HB5.out.mono HLT9.out)
      have H5 := zh (And.intro hn5 (And.intro hdj (And.intro hoO hbW5)))
      clear hn5 hdj hoO hbW5 hNx hnN HN5 HB5 HOF HCB HB0 HRI HU HBF hil HO HB HS HQ
      go_loopw [5, 9] (fun v kk wq => ∃ (q : Nat) (R : List Tx), kk = .int .i64 (q : Int) ∧ AncJ cs M Nx q R ∧ q ≤ nN ∧ wq.ownsRow W.heap.size 9 1 v R.length (SX R) ∧ wq.ownsRow b9 9 1 (.slice C nN dN) nN (SX Nx) ∧ Dj (.slice C nN dN) v ∧ Below W.heap.size W wq) (fun _ kk _ => nN - (intOf kk).toNat)
      case atStart => exact ⟨0, M, rfl, HAI.out.into Nx, Nat.zero_le _, by rw [← HM.out]; exact H5.out.2.2.1, H5.out.1, H5.out.2.1, H5.out.2.2.2⟩
      case round =>
       obtain ⟨wq, hwq⟩ : ∃ v, v = wr := ⟨_, rfl⟩
       subst hwq
       obtain ⟨q, R, rfl, hJ, hqN, hown, hoN, hdj, hbw⟩ := hrel
       obtain ⟨D, dd, rfl, -, -, hrd⟩ := own_rd hown
       have hr70 : R.length ≤ 70 := Nat.le_trans (nd_len hJ.nd hJ.has) H70.out
       obtain ⟨r, hr⟩ : ∃ r, r = R.length := ⟨_, rfl⟩
       rw [← hr] at hown hr70 hdj ⊢
       have HRL := zh hr; have HJ := zh hJ; have HO1 := zh hown; have HN1 := zh hoN; have HD1 := zh hdj; have HB1 := zh hbw
       have hrI : (r : Int) ≤ 70 := by omega
       by_cases hlt2 : q < nN
       ·have hlt2I : (q : Int) < (nN : Int) := by omega
        obtain ⟨t, ht⟩ : ∃ t, Nx[q]? = some t := ⟨Nx[q]'(by rw [← HNN.out]; exact hlt2), List.getElem?_eq_getElem _⟩
        obtain ⟨C', dN', e1, -, -, hrN⟩ := own_rd hoN
        cases e1
        obtain ⟨a2, rfl, _, htc⟩ := hrN.at_ (sx_get ht)
        have HTC := zh (fun u (hu : Below wq.heap.size wq u) => show u.cell? (a2.add q) = some (.string ⟨t.toArray⟩) from by
         obtain ⟨a', e', _, h⟩ := (hrN.below hu).at_ (sx_get ht)
         cases e'; exact h)
        have HIN := zh (fun u (hu : Below wq.heap.size wq u) => show Calls Try.prog 80 #[.slice D r dd, .string ⟨t.toArray⟩] u (fun e w' => e = .returned (.bool (R.contains t)) ∧ Below u.heap.size u w') from by
         have h := rin_w D dd R t u (hrd.below hu) (by rw [← hr]; omega)
         rw [← hr] at h; exact h)
        have HT := zh ht
        obtain ⟨x0, x1, x2, x3, x4⟩ := HCE.out wq hbw
        have HSQ := zh (fun u (hu : Below wq.heap.size wq u) => show (fun w9 : World => (w9.cell? ⟨w.heap.size, 0, none⟩ = some (.slice (some b1) cs.length c1) ∧ w9.cell? ⟨w.heap.size, 1, none⟩ = some (.slice A2 ns.length c2) ∧ w9.cell? ⟨w.heap.size, 2, none⟩ = some (.string ⟨ec.toArray⟩) ∧ w9.cell? ⟨w.heap.size, 3, none⟩ = some (.string ⟨en.toArray⟩) ∧ w9.cell? ⟨w.heap.size, 4, none⟩ = some (.string ⟨ed.toArray⟩)) ∧ w9.cell? (a2.add q) = some (.string ⟨t.toArray⟩)) u from ⟨HCE.out u (hbw.trans (hu.mono hbw.size)), HTC.out u hu⟩)
        have hmx : Try.prog.follows .mixedOrders = true := by kernel_rfl
        clear ht hJ hown hoN hdj hbw hr hrd hrN
        cases hft : findC cs t with
        | none =>
         have HSK := zh (HJ.out.skip HT.out (fun hh => by unfold hasC at hh; rw [hft] at hh; cases hh))
         have HQ1 := zh (fun v (hv : Below W.heap.size W v) => Calls.mono (R' := fun e w' => e = .returned (.int .i64 (-1)) ∧ Below v.heap.size v w') (HPL.out t v hv) (fun e w' ⟨r, he, hr, hb⟩ => by
          rcases idx_two hr with ⟨rfl, -, -⟩ | ⟨k, x, -, -, -, -, h2⟩
          ·exact ⟨he, hb⟩
          ·unfold findC at hft; rw [hft] at h2; cases h2))
         clear hft
         go_wp2_with fail
         refine wp_region_held_drew (S := fun w9 : World => (w9.cell? ⟨w.heap.size, 0, none⟩ = some (.slice (some b1) cs.length c1) ∧ w9.cell? ⟨w.heap.size, 1, none⟩ = some (.slice A2 ns.length c2) ∧ w9.cell? ⟨w.heap.size, 2, none⟩ = some (.string ⟨ec.toArray⟩) ∧ w9.cell? ⟨w.heap.size, 3, none⟩ = some (.string ⟨en.toArray⟩) ∧ w9.cell? ⟨w.heap.size, 4, none⟩ = some (.string ⟨ed.toArray⟩)) ∧ w9.cell? (a2.add q) = some (.string ⟨t.toArray⟩)) (by kernel_rfl) ?_ (fun hHeld => ?_)
         ·exact HSQ.out _ ⟨rfl, rfl, rfl, Nat.le_refl _, fun _ _ => rfl⟩
         obtain ⟨u0, hWd⟩ : ∃ u, u = wq.drew := ⟨_, rfl⟩
         have HV0 := zh (show Below wq.heap.size wq u0 from by rw [hWd]; exact ⟨rfl, rfl, rfl, Nat.le_refl _, fun _ _ => rfl⟩)
         rw [← hWd]
         have hS0 := HSQ.out _ HV0.out
         clear hWd x0 x1 x2 x3 x4 htc
         refine tkp 0 rfl ?_
         refine tkp 1 rfl ?_
         refine tkp 2 rfl ?_
         refine tkp 3 rfl ?_
         refine tkp 4 rfl ?_
         clear hS0
         refine rdy 5 rfl (fun K hK => ?_)
         go_simp
         refine (HQ1.out _ (HB1.out.trans (HV0.out.mono HB1.out.size))).mono ?_
         rintro e u1 ⟨rfl, hb⟩
         have HV1 := zh (show Below wq.heap.size wq u1 from HV0.out.trans (hb.mono HV0.out.size))
         clear hb
         go_wp2_with fail
         refine hK.out _ _ (HSQ.out _ HV1.out) (fun hHeld => ?_)
         clear hK K
         try simp only [puts]
         have hS1 := HSQ.out _ HV1.out
         refine tkp 6 rfl ?_
         refine tkp 7 rfl ?_
         refine tup 8 rfl ?_
         refine tup 9 rfl ?_
         refine tup 10 rfl ?_
         refine tup 11 rfl ?_
         refine tup 12 rfl ?_
         refine tup 13 rfl ?_
         refine tup 14 rfl ?_
         refine tkp 15 rfl ?_
         clear hS1
         refine wpAnyH_done (by kernel_rfl) ?_ _
         have HV := zh HV1.out
         have HBB := zh (HB1.out.trans (HV.out.mono HB1.out.size))
         have HO2 := zh (own_below HO1.out HV.out); have HN2 := zh (own_below HN1.out HV.out)
         go_wp2
         go_roundw
         case rel => exact ⟨q + 1, R, by go_num, HSK.out, by omega, by rw [← HRL.out]; exact HO2.out, HN2.out, HD1.out, HBB.out⟩
         case measure => simp [intOf]; omega
        | some cj =>
         obtain ⟨j2, -, hj2n, hrj2⟩ := anc_at hft
         have HQ1 := zh (fun v (hv : Below W.heap.size W v) => Calls.mono (R' := fun e w' => e = .returned (.int .i64 (j2 : Int)) ∧ Below v.heap.size v w') (HPL.out t v hv) (fun e w' ⟨r, he, hr, hb⟩ => ⟨by rw [he, hrj2 r hr], hb⟩))
         have hj20 : (0 : Int) ≤ (j2 : Int) := by omega
         have HHC := zh (show hasC cs t = true from by unfold hasC; rw [hft]; rfl)
         clear hft hrj2
         cases hin : R.contains t
         focus
          simp only [hin] at HIN
 
          go_wp2_with fail
          refine wp_region_held_drew (S := fun w9 : World => (w9.cell? ⟨w.heap.size, 0, none⟩ = some (.slice (some b1) cs.length c1) ∧ w9.cell? ⟨w.heap.size, 1, none⟩ = some (.slice A2 ns.length c2) ∧ w9.cell? ⟨w.heap.size, 2, none⟩ = some (.string ⟨ec.toArray⟩) ∧ w9.cell? ⟨w.heap.size, 3, none⟩ = some (.string ⟨en.toArray⟩) ∧ w9.cell? ⟨w.heap.size, 4, none⟩ = some (.string ⟨ed.toArray⟩)) ∧ w9.cell? (a2.add q) = some (.string ⟨t.toArray⟩)) (by kernel_rfl) ?_ (fun hHeld => ?_)
          ·exact HSQ.out _ ⟨rfl, rfl, rfl, Nat.le_refl _, fun _ _ => rfl⟩
          obtain ⟨u0, hWd⟩ : ∃ u, u = wq.drew := ⟨_, rfl⟩
          have HV0 := zh (show Below wq.heap.size wq u0 from by rw [hWd]; exact ⟨rfl, rfl, rfl, Nat.le_refl _, fun _ _ => rfl⟩)
          rw [← hWd]
          have hS0 := HSQ.out _ HV0.out
          clear hWd x0 x1 x2 x3 x4 htc
          refine tkp 0 rfl ?_
          refine tkp 1 rfl ?_
          refine tkp 2 rfl ?_
          refine tkp 3 rfl ?_
          refine tkp 4 rfl ?_
          clear hS0
          refine rdy 5 rfl (fun K hK => ?_)
          go_simp
          refine (HQ1.out _ (HB1.out.trans (HV0.out.mono HB1.out.size))).mono ?_
          rintro e u1 ⟨rfl, hb⟩
          have HV1 := zh (show Below wq.heap.size wq u1 from HV0.out.trans (hb.mono HV0.out.size))
          clear hb
          go_wp2_with fail
          refine hK.out _ _ (HSQ.out _ HV1.out) (fun hHeld => ?_)
          clear hK K
          try simp only [puts]
          have hS1 := HSQ.out _ HV1.out
          refine tkp 6 rfl ?_
          refine tkp 7 rfl ?_
          refine tkp 8 rfl ?_
          refine tkp 9 rfl ?_
          refine tkp 10 rfl ?_
          refine tkp 11 rfl ?_
          refine tkp 12 rfl ?_
          clear hS1
          refine rdy 13 rfl (fun K hK => ?_)
          go_simp
          refine (HIN.out _ HV1.out).mono ?_
          rintro e u2 ⟨rfl, hb⟩
          have HV2 := zh (show Below wq.heap.size wq u2 from HV1.out.trans (hb.mono HV1.out.size))
          clear hb
          go_wp2_with fail
          refine hK.out _ _ (HSQ.out _ HV2.out) (fun hHeld => ?_)
          clear hK K
          try simp only [puts]
          have hS1 := HSQ.out _ HV2.out
          refine tkp 14 rfl ?_
          refine tkp 15 rfl ?_
          clear hS1
          refine wpAnyH_done (by kernel_rfl) ?_ _
          have HV := zh HV2.out
          have HBB := zh (HB1.out.trans (HV.out.mono HB1.out.size))
          have HO2 := zh (own_below HO1.out HV.out); have HN2 := zh (own_below HN1.out HV.out)
          go_wp2_with (at_builtin; refine wpList_app _ rfl (.tmp 68) (.tmp 73) _ rfl W.heap.size 9 i0 _ 1 16 Try.underlying23 hi0 hz0 hz1 hz2 rfl (by omega) _ r (SX R) rfl (HO2.out.alloc _) _ 1 1 [_] rfl rfl (rd_blk (heap_alloc_new _ _) (k := 1) rfl) ?_ ?_ ?_ ?_ ?_)
          ·simp [Value.oneCell']
          ·simp only [maxLen]; omega
          ·omega
          ·simp; have := HBB.out.size; omega
          intro v6 w6 hown6 hg6 hb6 hat6
          have HO6 := zh (show w6.ownsRow W.heap.size 9 1 v6 (R ++ [t]).length (SX (R ++ [t])) from by rw [SX_app, List.length_append, ← HRL.out]; exact hown6)
          have HN6 := zh ((HN2.out.alloc _).kept hg6 HD1.out)
          have HD6 := zh (Dj.grow (v' := v6) HD1.out (HN2.out.alloc (.cells #[.string ⟨t.toArray⟩] 9)) (by rw [World.size_alloc]; exact hat6))
          have HB6 := zh ((HBB.out.alloc HBB.out.size _).trans hb6)
          have HJ6 := zh (HJ.out.put HT.out HHC.out hin)
          clear hown6 hg6 hb6 hat6
          go_wp2
          go_roundw
          case rel => exact ⟨q + 1, R ++ [t], by go_num, HJ6.out, by omega, HO6.out, HN6.out, HD6.out, HB6.out⟩
          case measure => simp [intOf]; omega
         focus
          have HSK := zh (HJ.out.skip HT.out (fun _ => List.contains_iff_mem.1 hin))
          simp only [hin] at HIN
          go_wp2_with fail
          refine wp_region_held_drew (S := fun w9 : World => (w9.cell? ⟨w.heap.size, 0, none⟩ = some (.slice (some b1) cs.length c1) ∧ w9.cell? ⟨w.heap.size, 1, none⟩ = some (.slice A2 ns.length c2) ∧ w9.cell? ⟨w.heap.size, 2, none⟩ = some (.string ⟨ec.toArray⟩) ∧ w9.cell? ⟨w.heap.size, 3, none⟩ = some (.string ⟨en.toArray⟩) ∧ w9.cell? ⟨w.heap.size, 4, none⟩ = some (.string ⟨ed.toArray⟩)) ∧ w9.cell? (a2.add q) = some (.string ⟨t.toArray⟩)) (by kernel_rfl) ?_ (fun hHeld => ?_)
          ·exact HSQ.out _ ⟨rfl, rfl, rfl, Nat.le_refl _, fun _ _ => rfl⟩
          obtain ⟨u0, hWd⟩ : ∃ u, u = wq.drew := ⟨_, rfl⟩
          have HV0 := zh (show Below wq.heap.size wq u0 from by rw [hWd]; exact ⟨rfl, rfl, rfl, Nat.le_refl _, fun _ _ => rfl⟩)
          rw [← hWd]
          have hS0 := HSQ.out _ HV0.out
          clear hWd x0 x1 x2 x3 x4 htc
          refine tkp 0 rfl ?_
          refine tkp 1 rfl ?_
          refine tkp 2 rfl ?_
          refine tkp 3 rfl ?_
          refine tkp 4 rfl ?_
          clear hS0
          refine rdy 5 rfl (fun K hK => ?_)
          go_simp
          refine (HQ1.out _ (HB1.out.trans (HV0.out.mono HB1.out.size))).mono ?_
          rintro e u1 ⟨rfl, hb⟩
          have HV1 := zh (show Below wq.heap.size wq u1 from HV0.out.trans (hb.mono HV0.out.size))
          clear hb
          go_wp2_with fail
          refine hK.out _ _ (HSQ.out _ HV1.out) (fun hHeld => ?_)
          clear hK K
          try simp only [puts]
          have hS1 := HSQ.out _ HV1.out
          refine tkp 6 rfl ?_
          refine tkp 7 rfl ?_
          refine tkp 8 rfl ?_
          refine tkp 9 rfl ?_
          refine tkp 10 rfl ?_
          refine tkp 11 rfl ?_
          refine tkp 12 rfl ?_
          clear hS1
          refine rdy 13 rfl (fun K hK => ?_)
          go_simp
          refine (HIN.out _ HV1.out).mono ?_
          rintro e u2 ⟨rfl, hb⟩
          have HV2 := zh (show Below wq.heap.size wq u2 from HV1.out.trans (hb.mono HV1.out.size))
          clear hb
          go_wp2_with fail
          refine hK.out _ _ (HSQ.out _ HV2.out) (fun hHeld => ?_)
          clear hK K
          try simp only [puts]
          have hS1 := HSQ.out _ HV2.out
          refine tkp 14 rfl ?_
          refine tkp 15 rfl ?_
          clear hS1
          refine wpAnyH_done (by kernel_rfl) ?_ _
          have HV := zh HV2.out
          have HBB := zh (HB1.out.trans (HV.out.mono HB1.out.size))
          have HO2 := zh (own_below HO1.out HV.out); have HN2 := zh (own_below HN1.out HV.out)
          go_wp2
          go_roundw
          case rel => exact ⟨q + 1, R, by go_num, HSK.out, by omega, by rw [← HRL.out]; exact HO2.out, HN2.out, HD1.out, HBB.out⟩
          case measure => simp [intOf]; omega
       ·have hlt2I : ¬ (q : Int) < (nN : Int) := by omega
        have hmR : m ≤ r := by rw [HM.out, hr]; exact hJ.pre.length_le
        have HAN := zh (HAI.out.next HYY.out HFC.out HNX.out hJ (by rw [← HNN.out]; omega))
        clear hJ hown hoN hdj hbw hr hrd
        go_wp2
        go_roundw
        case rel => exact ⟨k + 1, R, by go_num, HAN.out, by rw [← HRL.out]; omega, by rw [← HRL.out]; exact HO1.out, HB1.out⟩
        case measure => simp [intOf]; omega))
   ·have hge : ¬ (k : Int) < (m : Int) := by omega
    have HRS := rise_w B d M wr hrd (by rw [← hm]; omega)
    rw [← hm] at HRS
    have HRS := zh HRS
    have HDN := zh (hA.done (by rw [← hm]; omega))
    clear hA hown hrd hm hbw
    go_wp2_with fail
    refine HRS.out.mono ?_
    rintro e w2 ⟨⟨A, cc, L, rfl, hl, hmm, hr⟩, hb⟩
    have HRR := zh (show AncR cs s w (.returned (.slice A L.length cc)) w2 from ⟨⟨A, cc, L, rfl, by omega, fun h0 t ht => hmm t (HDN.out h0 t ht), hr⟩, HAL.out.trans ((HB.out.trans (hb.mono HB.out.size)).mono HAL.out.size)⟩)
    clear hl hmm hr hb
    go_wp2
    go_ret
    exact HRR.out
end Go.Proofs.Ytdifmgeicnndfaa.prg

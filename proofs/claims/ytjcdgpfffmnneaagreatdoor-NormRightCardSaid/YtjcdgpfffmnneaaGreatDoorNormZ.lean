/-
 Layer 8: a program of two classes in order: the program's answer.
-/
import Derived.Test.YtjcdgpfffmnneaaGreatDoorNormT
import Derived.Test.YtjcdgpfffmnneaaGreatDoorShelf
namespace Go.Proofs.YtjcdgpfffmnneaaGreatDoor.prg
open Go.RowKit
open words kindp opp op kind word

/-- none, or two methods in order -/
def TwoM (c : ClM) : Prop := c.ms = [] ∨ ∃ m n, c.ms = [m, n] ∧ ltM n m = false
theorem two_list {α β : Type} {f : α → β} {l : List α} {x y : β} (h : l.map f = [x, y]) : ∃ a b, l = [a, b] ∧ f a = x ∧ f b = y := by
 rcases l with _ | ⟨a, _ | ⟨b, _ | ⟨c, t⟩⟩⟩
 ·simp at h
 ·simp at h
 ·simp only [List.map_cons, List.map_nil, List.cons.injEq, and_true] at h
  exact ⟨a, b, rfl, h.1, h.2⟩
 ·simp at h
theorem two_of {z c : ClM} (h : pC z = pC c) (hc : TwoM c) : TwoM z := by
 have hm : z.ms.map pM = c.ms.map pM := congrArg ClP.ms h
 rcases hc with hc | ⟨m, n, hc, hl⟩
 ·rw [hc] at hm; exact .inl (by simpa using hm)
 ·rw [hc] at hm
  obtain ⟨m', n', hz, k1, k2⟩ := two_list hm
  refine .inr ⟨m', n', hz, ?_⟩
  have e1 : m'.nm = m.nm := congrArg MeP.nm k1
  have e2 : m'.ds = m.ds := congrArg MeP.ds k1
  have e3 : n'.nm = n.nm := congrArg MeP.nm k2
  have e4 : n'.ds = n.ds := congrArg MeP.ds k2
  unfold ltM at *
  rw [e1, e2, e3, e4]; exact hl
theorem sort_ms (z : ClM) (w : World) (hr : Rd w z.A3 (z.ms.flatMap meC)) (h : TwoM z) : Calls Tryz.prog 42 #[.slice z.A3 z.ms.length z.c3, .func (.func 33) #[] #[]] w fun e w' => e = .returned (.tuple #[]) ∧ Below w.heap.size w w' := by
 rcases h with h | ⟨m, n, h, hl⟩
 ·rw [h]; exact sorted_me z.A3 0 z.c3 w _ (by omega) (ins_none_me z.A3 z.c3 w)
 ·rw [h] at hr ⊢; exact sorted_me z.A3 2 z.c3 w _ (by omega) (ins_two_me m n z.A3 z.c3 w hr hl)
theorem own_some {w : World} {base : Nat} {e : TypeId} {size : Nat} {B : Option Addr} {n d : Nat} {xs : List Value} (h : w.ownsRow base e size (.slice B n d) n xs) (hn : 0 < n) : ∃ a, B = some a := by
 rcases h.2 with ⟨h1, h2⟩ | ⟨q, cap, cur, h1, _⟩
 ·omega
 ·cases h1; exact ⟨_, rfl⟩
/-- what Sorted answers of two classes that change places -/
def SorP (x : PrM) (a b : ClM) (v : World) (e : Ending) (w' : World) : Prop := (∃ y : PrM, e = .returned (.agg (prC y).toArray) ∧ pP y = ⟨[pC b, pC a], [], x.ec, x.en, x.ed⟩ ∧ PrOk w' y ∧ PrBd y ∧ (∀ c ∈ y.cs, c.fs = []) ∧ y.ec = x.ec ∧ y.en = x.en ∧ y.ed = x.ed) ∧ Below v.heap.size v w'
theorem plain_of {z c : ClM} (h : pC z = pC c) (hc : PlC c) : z.is.length = 0 ∧ z.fs.length = 0 ∧ z.fs = [] := by
 have h1 : z.is = c.is := congrArg ClP.is h
 have h2 : z.fs.map pF = c.fs.map pF := congrArg ClP.fs h
 rw [hc.1.1] at h1
 rw [hc.2.1.1] at h2
 have h3 : z.fs = [] := by simpa using h2
 exact ⟨by rw [h1]; rfl, by rw [h3]; rfl, h3⟩

set_option maxRecDepth 100000 in
set_option maxHeartbeats 4000000 in
set_option linter.all false in
theorem sorted_p (x : PrM) (a b : ClM) (v : World) (hk : PrOk v x) (hb : PrBd x) (hp : PlP x) (hcs : x.cs = [a, b]) (hlt : ltC b a = true) (hma : TwoM a) (hmb : TwoM b) : Calls Tryz.prog 12 #[.agg (prC x).toArray] v (SorP x a b v) := by
 have HCP := Lib.hid (fun w (h : Below v.heap.size v w) => cloP_w x w (hk.below h) hb hp)
 have HPO := Lib.hid (fun (a' b' : ClM) (g d : Nat) (w' : World) (h1 : pC a' = pC a) (h2 : pC b' = pC b) (h3 : 2 ≤ d) (h4 : Rd w' (some ⟨g, 0, none⟩) ([b', a'].flatMap clC)) (h5 : ∀ y ∈ [b', a'], NwC (g + 1) w' y) (k : Below v.heap.size v w') =>
  show SorP x a b v (.returned (.agg (prC ⟨[b', a'], some ⟨g, 0, none⟩, d, [], none, 0, x.ec, x.en, x.ed⟩).toArray)) w' from
   ⟨⟨_, rfl, by unfold pP; simp only [List.map_cons, List.map_nil, h1, h2], ⟨⟨h3, h4⟩, ⟨Nat.le_refl _, Rd.nil _ _⟩, fun y hy => (h5 y hy).1⟩, ⟨⟨by simp, fun y hy => (h5 y hy).2.1⟩, ⟨by simp, by simp⟩, hb.2.2⟩,
    fun c hc => by
     have hpa := hp.2.2.2 a (by rw [hcs]; simp)
     have hpb := hp.2.2.2 b (by rw [hcs]; simp)
     simp only [List.mem_cons, List.not_mem_nil, or_false] at hc
     rcases hc with rfl | rfl
     ·exact (plain_of h2 hpb).2.2
     ·exact (plain_of h1 hpa).2.2, rfl, rfl, rfl⟩, k⟩)
 have HPL := Lib.hid (fun (a' b' : ClM) (h1 : pC a' = pC a) (h2 : pC b' = pC b) => show ∀ z ∈ [b', a'], z.is.length = 0 ∧ z.fs.length = 0 ∧ TwoM z from by
  have hpa := hp.2.2.2 a (by rw [hcs]; simp)
  have hpb := hp.2.2.2 b (by rw [hcs]; simp)
  intro z hz
  simp only [List.mem_cons, List.not_mem_nil, or_false] at hz
  rcases hz with rfl | rfl
  ·exact ⟨(plain_of h2 hpb).1, (plain_of h2 hpb).2.1, two_of h2 hmb⟩
  ·exact ⟨(plain_of h1 hpa).1, (plain_of h1 hpa).2.1, two_of h1 hma⟩)
 have HLT := Lib.hid (fun (a' b' : ClM) (h1 : pC a' = pC a) (h2 : pC b' = pC b) => show ltC b' a' = true from by
  have e1 : a'.nm = a.nm := congrArg ClP.nm h1
  have e2 : b'.nm = b.nm := congrArg ClP.nm h2
  unfold ltC at *; rw [e1, e2]; exact hlt)
 obtain ⟨p1, -, -, -⟩ := hp
 obtain ⟨cs, A, c, ns, A2, c2, ec, en, ed⟩ := x
 dsimp only at p1 hcs
 obtain ⟨rfl, rfl, rfl⟩ := p1
 subst hcs
 unfold prC at HPO HCP ⊢
 dsimp only [List.length_nil, List.length_cons] at HPO HCP ⊢
 simp only [Nat.zero_add, Nat.reduceAdd] at HPO HCP ⊢
 obtain ⟨V, hV⟩ : ∃ V, V = (v.alloc (.cells #[.slice A 2 c, .slice none 0 0, .string ⟨ec.toArray⟩, .string ⟨en.toArray⟩, .string ⟨ed.toArray⟩] 27)).alloc (.cells #[.slice none 0 0, .slice none 0 0, .string ⟨#[]⟩, .string ⟨#[]⟩, .string ⟨#[]⟩] 27) := ⟨_, rfl⟩
 have hal : Below v.heap.size v V := by rw [hV]; exact ((Below.refl _ v).alloc (Nat.le_refl _) _).alloc (by simp) _
 have hbi : V.heap[v.heap.size]? = some (.cells #[.slice A 2 c, .slice none 0 0, .string ⟨ec.toArray⟩, .string ⟨en.toArray⟩, .string ⟨ed.toArray⟩] 27 (0, 0)) := by rw [hV]; exact (Below.heap_alloc _ _ _ (by simp)).trans (heap_alloc_new v _)
 have hbj : V.heap[v.heap.size + 1]? = some (.cells #[.slice none 0 0, .slice none 0 0, .string ⟨#[]⟩, .string ⟨#[]⟩, .string ⟨#[]⟩] 27 (0, 0)) := by
  rw [hV]
  have := heap_alloc_new (v.alloc (.cells #[.slice A 2 c, .slice none 0 0, .string ⟨ec.toArray⟩, .string ⟨en.toArray⟩, .string ⟨ed.toArray⟩] 27)) (.cells #[.slice none 0 0, .slice none 0 0, .string ⟨#[]⟩, .string ⟨#[]⟩, .string ⟨#[]⟩] 27)
  rwa [World.size_alloc] at this
 have HV := Lib.hid hV; have HAL := Lib.hid hal
 have d0 : V.cell? ⟨v.heap.size, 0, none⟩ = some (.slice A 2 c) := cell_of_row _ _ 0 _ _ _ hbi
 have d1 : V.cell? ⟨v.heap.size, 1, none⟩ = some (.slice none 0 0) := cell_of_row _ _ 1 _ _ _ hbi
 have d2 : V.cell? ⟨v.heap.size, 2, none⟩ = some (.string ⟨ec.toArray⟩) := cell_of_row _ _ 2 _ _ _ hbi
 have d3 : V.cell? ⟨v.heap.size, 3, none⟩ = some (.string ⟨en.toArray⟩) := cell_of_row _ _ 3 _ _ _ hbi
 have d4 : V.cell? ⟨v.heap.size, 4, none⟩ = some (.string ⟨ed.toArray⟩) := cell_of_row _ _ 4 _ _ _ hbi
 have HBI := Lib.hid hbi; have HBJ := Lib.hid hbj
 clear hk hb hV hal hbi hbj hlt hma hmb
 go_enter Tryz.func12, Tryz.ntmps12
 go_wp2_with fail
 try simp only [World.size_alloc]
 rw [← HV.out]
 (try go_wp2_with fail)
 refine (HCP.out V HAL.out).mono ?_
 rintro e v1 ⟨⟨B, d, l, rfl, h1, h2, h4, g, hg, h3, h5⟩, hb1⟩
 obtain ⟨a', b', rfl, ha, hb⟩ := two_list (show l.map pC = [pC a, pC b] from h1)
 obtain ⟨q, hq⟩ := own_some h4 (by simp)
 obtain rfl := h3 q hq
 subst hq
 unfold prC
 simp only [List.length_cons, List.length_nil, Nat.zero_add, Nat.reduceAdd] at h2 h4 ⊢
 have HA := Lib.hid ha; have HB := Lib.hid hb
 have g1 : v.heap.size < V.heap.size := blk_lt HBI.out
 have g2 : v.heap.size + 1 < V.heap.size := blk_lt HBJ.out
 have hbi1 := (hb1.block _ g1).trans HBI.out
 have hbj1 := (hb1.block _ g2).trans HBJ.out
 have q0 : v1.cell? ⟨v.heap.size, 0, none⟩ = some (.slice A 2 c) := cell_of_row _ _ 0 _ _ _ hbi1
 have qf0 := frozen_of_row _ _ 0 _ _ hbi1
 have q1 : v1.cell? ⟨v.heap.size, 1, none⟩ = some (.slice none 0 0) := cell_of_row _ _ 1 _ _ _ hbi1
 have qf1 := frozen_of_row _ _ 1 _ _ hbi1
 have q2 : v1.cell? ⟨v.heap.size, 2, none⟩ = some (.string ⟨ec.toArray⟩) := cell_of_row _ _ 2 _ _ _ hbi1
 have qf2 := frozen_of_row _ _ 2 _ _ hbi1
 have q3 : v1.cell? ⟨v.heap.size, 3, none⟩ = some (.string ⟨en.toArray⟩) := cell_of_row _ _ 3 _ _ _ hbi1
 have qf3 := frozen_of_row _ _ 3 _ _ hbi1
 have q4 : v1.cell? ⟨v.heap.size, 4, none⟩ = some (.string ⟨ed.toArray⟩) := cell_of_row _ _ 4 _ _ _ hbi1
 have qf4 := frozen_of_row _ _ 4 _ _ hbi1
 have s0 := heap_setCell_same _ v.heap.size 0 _ _ (.slice (some ⟨g, 0, none⟩) 2 d) hbi1
 have s1 := heap_setCell_same _ v.heap.size 1 _ _ (.slice none 0 0) s0
 have s2 := heap_setCell_same _ v.heap.size 2 _ _ (.string ⟨ec.toArray⟩) s1
 have s3 := heap_setCell_same _ v.heap.size 3 _ _ (.string ⟨en.toArray⟩) s2
 have s4 := heap_setCell_same _ v.heap.size 4 _ _ (.string ⟨ed.toArray⟩) s3
 obtain ⟨W1, hW1⟩ : ∃ WF, WF = (((((v1.setCell ⟨v.heap.size, 0, none⟩ (.slice (some ⟨g, 0, none⟩) 2 d)).setCell ⟨v.heap.size, 1, none⟩ (.slice none 0 0)).setCell ⟨v.heap.size, 2, none⟩ (.string ⟨ec.toArray⟩)).setCell ⟨v.heap.size, 3, none⟩ (.string ⟨en.toArray⟩)).setCell ⟨v.heap.size, 4, none⟩ (.string ⟨ed.toArray⟩)) := ⟨_, rfl⟩
 rw [← hW1] at s4
 have sF : W1.heap[v.heap.size]? = some (.cells #[.slice (some ⟨g, 0, none⟩) 2 d, .slice none 0 0, .string ⟨ec.toArray⟩, .string ⟨en.toArray⟩, .string ⟨ed.toArray⟩] 27 (0, 0)) := by rw [s4]; simp
 have gA : v1.grownBy W1 (some v.heap.size) := by rw [hW1]; exact (gb_trans (gb_trans (gb_trans (gb_trans (gb_set _ (v.heap.size) 0 (.slice (some ⟨g, 0, none⟩) 2 d)) (gb_set _ (v.heap.size) 1 (.slice none 0 0))) (gb_set _ (v.heap.size) 2 (.string ⟨ec.toArray⟩))) (gb_set _ (v.heap.size) 3 (.string ⟨en.toArray⟩))) (gb_set _ (v.heap.size) 4 (.string ⟨ed.toArray⟩)))
 have tF : W1.heap[v.heap.size + 1]? = some (.cells #[.slice none 0 0, .slice none 0 0, .string ⟨#[]⟩, .string ⟨#[]⟩, .string ⟨#[]⟩] 27 (0, 0)) := gb_at gA hbj1 (by omega)
 have ho1 := own_gb h4 g1 gA
 have hn1 : ∀ y ∈ [a', b'], NwC (g + 1) W1 y := fun y hy => (h5 y hy).gb (by omega) gA
 have hbw1 : Below v.heap.size v W1 := by rw [hW1]; exact (((((HAL.out.trans (hb1.mono HAL.out.size)).setCell (p := ⟨v.heap.size, 0, none⟩) (Nat.le_refl _) (.slice (some ⟨g, 0, none⟩) 2 d)).setCell (p := ⟨v.heap.size, 1, none⟩) (Nat.le_refl _) (.slice none 0 0)).setCell (p := ⟨v.heap.size, 2, none⟩) (Nat.le_refl _) (.string ⟨ec.toArray⟩)).setCell (p := ⟨v.heap.size, 3, none⟩) (Nat.le_refl _) (.string ⟨en.toArray⟩)).setCell (p := ⟨v.heap.size, 4, none⟩) (Nat.le_refl _) (.string ⟨ed.toArray⟩)
 have r0 : W1.cell? ⟨v.heap.size, 0, none⟩ = some (.slice (some ⟨g, 0, none⟩) 2 d) := cell_of_row _ _ 0 _ _ _ sF
 have HSO := Lib.hid (sorted_cl (some ⟨g, 0, none⟩) 2 d W1 _ (by omega) (ins_two_cl a' b' g d V.heap.size W1 ho1 (HLT.out a' b' HA.out HB.out)))
 have HW1 := Lib.hid hW1; have HSF := Lib.hid sF; have HTF := Lib.hid tF; have HN1 := Lib.hid hn1; have HBW1 := Lib.hid hbw1; have H2 := Lib.hid h2
 have hgv : v.heap.size + 1 < g := by omega
 clear h1 hbi1 hbj1 h4 h5 h3 hb1 gA ho1 hn1 hbw1 hW1 sF tF h2 ha hb hg s0 s1 s2 s3 s4 d0 d1 d2 d3 d4
 go_wp2_with fail
 rw [← HW1.out]
 (try go_wp2_with fail)
 refine HSO.out.mono ?_
 rintro e v2 ⟨rfl, ho2, hg2⟩
 have hx2 := gb_at hg2 HSF.out (by omega)
 have hy2 := gb_at hg2 HTF.out (by omega)
 have hn2 : ∀ y ∈ [b', a'], NwC (g + 1) v2 y := fun y hy => (HN1.out y (by simpa [or_comm] using hy)).gb (Nat.lt_succ_self g) hg2
 have hbw2 : Below v.heap.size v v2 := HBW1.out.grown hg2 HBW1.out.size (fun k hk => by cases hk; omega)
 have HO2 := Lib.hid ho2; have HX2 := Lib.hid hx2; have HY2 := Lib.hid hy2; have HN2 := Lib.hid hn2; have HBW2 := Lib.hid hbw2
 have u0 : v2.cell? ⟨v.heap.size, 0, none⟩ = some (.slice (some ⟨g, 0, none⟩) 2 d) := cell_of_row _ _ 0 _ _ _ hx2
 clear ho2 hg2 hx2 hy2 hn2 hbw2 r0 q0 q1 q2 q3 q4 qf0 qf1 qf2 qf3 qf4
 go_wp2
 clear u0
 go_loopw [13] (fun i wr => ∃ k : Nat, i = .int .i64 (k : Int) ∧ k ≤ 2 ∧ Below v2.heap.size v2 wr) (fun i _ => 2 - (intOf i).toNat)
 case atStart => exact ⟨0, rfl, Nat.zero_le _, Below.refl _ _⟩
 case round =>
  obtain ⟨k, rfl, hk, hbw⟩ := hrel
  obtain ⟨wr0, hwr0⟩ : ∃ u, u = wr := ⟨_, rfl⟩
  subst hwr0
  have HBR := Lib.hid hbw
  by_cases hlt : k < 2
  ·have hltI : (k : Int) < 2 := by omega
   obtain ⟨z, hz⟩ : ∃ z, [b', a'][k]? = some z := ⟨[b', a'][k]'(by simpa using hlt), List.getElem?_eq_getElem _⟩
   have hzm := List.mem_of_getElem? hz
   obtain ⟨z1, z2, z3⟩ := HPL.out a' b' HA.out HB.out z hzm
   have hor := own_below HO2.out hbw
   have hnz := (HN2.out z hzm).below hbw
   have y0 := flat_at (f := clC) (k := 7) (fun _ => rfl) hz (t := 0) (u := .string ⟨z.nm.toArray⟩) rfl
   rw [Nat.add_zero] at y0
   have c0 : wr0.cell? ⟨g, k * 7, none⟩ = some (.string ⟨z.nm.toArray⟩) := (hor.cellAt (k * 7) (by omega)).trans y0
   have y1 := flat_at (f := clC) (k := 7) (fun _ => rfl) hz (t := 1) (u := .string ⟨z.su.toArray⟩) rfl
   have c1 : wr0.cell? ⟨g, k * 7 + 1, none⟩ = some (.string ⟨z.su.toArray⟩) := (hor.cellAt (k * 7 + 1) (by omega)).trans y1
   have y2 := flat_at (f := clC) (k := 7) (fun _ => rfl) hz (t := 2) (u := .bool z.fc) rfl
   have c2 : wr0.cell? ⟨g, k * 7 + 2, none⟩ = some (.bool z.fc) := (hor.cellAt (k * 7 + 2) (by omega)).trans y2
   have y3 := flat_at (f := clC) (k := 7) (fun _ => rfl) hz (t := 3) (u := .bool z.ab) rfl
   have c3 : wr0.cell? ⟨g, k * 7 + 3, none⟩ = some (.bool z.ab) := (hor.cellAt (k * 7 + 3) (by omega)).trans y3
   have y4 := flat_at (f := clC) (k := 7) (fun _ => rfl) hz (t := 4) (u := .slice z.A1 z.is.length z.c1) rfl
   have c4 : wr0.cell? ⟨g, k * 7 + 4, none⟩ = some (.slice z.A1 z.is.length z.c1) := (hor.cellAt (k * 7 + 4) (by omega)).trans y4
   have y5 := flat_at (f := clC) (k := 7) (fun _ => rfl) hz (t := 5) (u := .slice z.A2 z.fs.length z.c2) rfl
   have c5 : wr0.cell? ⟨g, k * 7 + 5, none⟩ = some (.slice z.A2 z.fs.length z.c2) := (hor.cellAt (k * 7 + 5) (by omega)).trans y5
   have y6 := flat_at (f := clC) (k := 7) (fun _ => rfl) hz (t := 6) (u := .slice z.A3 z.ms.length z.c3) rfl
   have c6 : wr0.cell? ⟨g, k * 7 + 6, none⟩ = some (.slice z.A3 z.ms.length z.c3) := (hor.cellAt (k * 7 + 6) (by omega)).trans y6
   rw [z1] at c4
   rw [z2] at c5
   have hnew := heap_alloc_new wr0 (.cells #[.string ⟨z.nm.toArray⟩, .string ⟨z.su.toArray⟩, .bool z.fc, .bool z.ab, .slice z.A1 0 z.c1, .slice z.A2 0 z.c2, .slice z.A3 z.ms.length z.c3] 39)
   have hal4 : Below wr0.heap.size wr0 (wr0.alloc (.cells #[.string ⟨z.nm.toArray⟩, .string ⟨z.su.toArray⟩, .bool z.fc, .bool z.ab, .slice z.A1 0 z.c1, .slice z.A2 0 z.c2, .slice z.A3 z.ms.length z.c3] 39)) := (Below.refl _ _).alloc (Nat.le_refl _) _
   have HNZ := Lib.hid hnz; have HNW := Lib.hid hnew; have HAL4 := Lib.hid hal4; have HZ3 := Lib.hid z3
   have HSS := Lib.hid (fun w => Tryz.slices_Sort_string_none z.A1 z.c1 w)
   have HSF2 := Lib.hid (fun w => sorted_fi z.A2 0 z.c2 w _ (by omega) (ins_none_fi z.A2 z.c2 w))
   clear hz hzm z1 z2 z3 hor hnz hnew hal4 hbw y0 y1 y2 y3 y4 y5 y6
   go_wp2_with fail
   refine (HSS.out _).mono ?_
   rintro e v3 ⟨rfl, h3⟩
   subst h3
   go_wp2_with fail
   refine (HSF2.out _).mono ?_
   rintro e v4 ⟨rfl, hb4⟩
   have hn4 := (hb4.block _ (blk_lt HNW.out)).trans HNW.out
   have e6 : v4.cell? ⟨wr0.heap.size, 6, none⟩ = some (.slice z.A3 z.ms.length z.c3) := cell_of_row _ _ 6 _ _ _ hn4
   have hb5 := HAL4.out.trans (hb4.mono HAL4.out.size)
   have HB5 := Lib.hid (HBR.out.trans (hb5.mono HBR.out.size))
   have HSM := Lib.hid (sort_ms z v4 ((HNZ.out.1.2.2.1.2).below hb5) HZ3.out)
   clear hb4 hb5 hn4 c0 c1 c2 c3 c4 c5 c6
   go_wp2_with fail
   refine HSM.out.mono ?_
   rintro e v5 ⟨rfl, hb6⟩
   have HB6 := Lib.hid (HB5.out.trans (hb6.mono HB5.out.size))
   clear hb6 e6
   go_wp2
   go_roundw
   case rel => exact ⟨k + 1, by go_num, by omega, HB6.out⟩
   case measure => simp [intOf]; omega
  ·have hltI : ¬ (k : Int) < 2 := by omega
   have hx9 := (hbw.block _ (blk_lt HX2.out)).trans HX2.out
   have hy9 := (hbw.block _ (blk_lt HY2.out)).trans HY2.out
   have e0 : wr0.cell? ⟨v.heap.size, 0, none⟩ = some (.slice (some ⟨g, 0, none⟩) 2 d) := cell_of_row _ _ 0 _ _ _ hx9
   have e1 : wr0.cell? ⟨v.heap.size, 1, none⟩ = some (.slice none 0 0) := cell_of_row _ _ 1 _ _ _ hx9
   have e2 : wr0.cell? ⟨v.heap.size, 2, none⟩ = some (.string ⟨ec.toArray⟩) := cell_of_row _ _ 2 _ _ _ hx9
   have e3 : wr0.cell? ⟨v.heap.size, 3, none⟩ = some (.string ⟨en.toArray⟩) := cell_of_row _ _ 3 _ _ _ hx9
   have e4 : wr0.cell? ⟨v.heap.size, 4, none⟩ = some (.string ⟨ed.toArray⟩) := cell_of_row _ _ 4 _ _ _ hx9
   have z0 : wr0.cell? ⟨v.heap.size + 1, 0, none⟩ = some (.slice none 0 0) := cell_of_row _ _ 0 _ _ _ hy9
   have zf0 := frozen_of_row _ _ 0 _ _ hy9
   have z1 : wr0.cell? ⟨v.heap.size + 1, 1, none⟩ = some (.slice none 0 0) := cell_of_row _ _ 1 _ _ _ hy9
   have zf1 := frozen_of_row _ _ 1 _ _ hy9
   have z2 : wr0.cell? ⟨v.heap.size + 1, 2, none⟩ = some (.string ⟨#[]⟩) := cell_of_row _ _ 2 _ _ _ hy9
   have zf2 := frozen_of_row _ _ 2 _ _ hy9
   have z3 : wr0.cell? ⟨v.heap.size + 1, 3, none⟩ = some (.string ⟨#[]⟩) := cell_of_row _ _ 3 _ _ _ hy9
   have zf3 := frozen_of_row _ _ 3 _ _ hy9
   have z4 : wr0.cell? ⟨v.heap.size + 1, 4, none⟩ = some (.string ⟨#[]⟩) := cell_of_row _ _ 4 _ _ _ hy9
   have zf4 := frozen_of_row _ _ 4 _ _ hy9
   have s0 := heap_setCell_same _ (v.heap.size + 1) 0 _ _ (.slice (some ⟨g, 0, none⟩) 2 d) hy9
   have s1 := heap_setCell_same _ (v.heap.size + 1) 1 _ _ (.slice none 0 0) s0
   have s2 := heap_setCell_same _ (v.heap.size + 1) 2 _ _ (.string ⟨ec.toArray⟩) s1
   have s3 := heap_setCell_same _ (v.heap.size + 1) 3 _ _ (.string ⟨en.toArray⟩) s2
   have s4 := heap_setCell_same _ (v.heap.size + 1) 4 _ _ (.string ⟨ed.toArray⟩) s3
   obtain ⟨WF, hWF⟩ : ∃ WF, WF = (((((wr0.setCell ⟨v.heap.size + 1, 0, none⟩ (.slice (some ⟨g, 0, none⟩) 2 d)).setCell ⟨v.heap.size + 1, 1, none⟩ (.slice none 0 0)).setCell ⟨v.heap.size + 1, 2, none⟩ (.string ⟨ec.toArray⟩)).setCell ⟨v.heap.size + 1, 3, none⟩ (.string ⟨en.toArray⟩)).setCell ⟨v.heap.size + 1, 4, none⟩ (.string ⟨ed.toArray⟩)) := ⟨_, rfl⟩
   rw [← hWF] at s4
   have sF : WF.heap[v.heap.size + 1]? = some (.cells #[.slice (some ⟨g, 0, none⟩) 2 d, .slice none 0 0, .string ⟨ec.toArray⟩, .string ⟨en.toArray⟩, .string ⟨ed.toArray⟩] 27 (0, 0)) := by rw [s4]; simp
   have r0 : WF.cell? ⟨v.heap.size + 1, 0, none⟩ = some (.slice (some ⟨g, 0, none⟩) 2 d) := cell_of_row _ _ 0 _ _ _ sF
   have r1 : WF.cell? ⟨v.heap.size + 1, 1, none⟩ = some (.slice none 0 0) := cell_of_row _ _ 1 _ _ _ sF
   have r2 : WF.cell? ⟨v.heap.size + 1, 2, none⟩ = some (.string ⟨ec.toArray⟩) := cell_of_row _ _ 2 _ _ _ sF
   have r3 : WF.cell? ⟨v.heap.size + 1, 3, none⟩ = some (.string ⟨en.toArray⟩) := cell_of_row _ _ 3 _ _ _ sF
   have r4 : WF.cell? ⟨v.heap.size + 1, 4, none⟩ = some (.string ⟨ed.toArray⟩) := cell_of_row _ _ 4 _ _ _ sF
   have HBF := Lib.hid (show Below v.heap.size v WF from by rw [hWF]; exact ((((((HBW2.out.trans (hbw.mono HBW2.out.size)).setCell (p := ⟨v.heap.size + 1, 0, none⟩) (by simp) (.slice (some ⟨g, 0, none⟩) 2 d)).setCell (p := ⟨v.heap.size + 1, 1, none⟩) (by simp) (.slice none 0 0)).setCell (p := ⟨v.heap.size + 1, 2, none⟩) (by simp) (.string ⟨ec.toArray⟩)).setCell (p := ⟨v.heap.size + 1, 3, none⟩) (by simp) (.string ⟨en.toArray⟩)).setCell (p := ⟨v.heap.size + 1, 4, none⟩) (by simp) (.string ⟨ed.toArray⟩)))
   have HWF := Lib.hid hWF
   have R0 := Lib.hid r0
   have R1 := Lib.hid r1
   have R2 := Lib.hid r2
   have R3 := Lib.hid r3
   have R4 := Lib.hid r4
   have gB : wr0.grownBy WF (some (v.heap.size + 1)) := by rw [hWF]; exact (gb_trans (gb_trans (gb_trans (gb_trans (gb_set _ (v.heap.size + 1) 0 (.slice (some ⟨g, 0, none⟩) 2 d)) (gb_set _ (v.heap.size + 1) 1 (.slice none 0 0))) (gb_set _ (v.heap.size + 1) 2 (.string ⟨ec.toArray⟩))) (gb_set _ (v.heap.size + 1) 3 (.string ⟨en.toArray⟩))) (gb_set _ (v.heap.size + 1) 4 (.string ⟨ed.toArray⟩)))
   have HRS := Lib.hid (HPO.out a' b' g d WF HA.out HB.out H2.out (rd_own (own_gb (own_below HO2.out hbw) (by omega) gB)) (fun y hy => ((HN2.out y hy).below hbw).gb (by omega) gB) HBF.out)
   clear hx9 hy9 hWF gB hbw sF s0 r0 s1 r1 s2 r2 s3 r3 s4 r4
   go_wp2
   rw [← HWF.out]
   refine bodyPost_ret (v := .agg #[.slice (some ⟨g, 0, none⟩) 2 d, .slice none 0 0, .string ⟨ec.toArray⟩, .string ⟨en.toArray⟩, .string ⟨ed.toArray⟩]) ?_ rfl HRS.out
   simp [results, Tryz.results12, go_sem, R0.out, R1.out, R2.out, R3.out, R4.out]
end Go.Proofs.YtjcdgpfffmnneaaGreatDoor.prg

/-
  Layer 8: of two programs that are the same the document's Same says so.
-/
import Derived.Test.YtjahilfapcljiaaGreatDoorNormXg
import Derived.Test.YtjahilfapcljiaaGreatDoorOpTellsW
namespace Go.Proofs.YtjahilfapcljiaaGreatDoor.prg
open Go.RowKit
open words kindp opp op kind word

theorem fs_same {l k : List FiM} (h : l.map pF = k.map pF) : l = k := by
  induction l generalizing k with
  | nil => cases k with
    | nil => rfl
    | cons _ _ => simp at h
  | cons x l ih => cases k with
    | nil => simp at h
    | cons y k =>
      simp only [List.map_cons, List.cons.injEq] at h
      obtain ⟨h1, h2⟩ := h
      rw [ih h2]
      unfold pF at h1
      simp only [FiP.mk.injEq] at h1
      obtain ⟨a, b, c, d⟩ := x; obtain ⟨a', b', c', d'⟩ := y
      obtain ⟨rfl, rfl, rfl, rfl⟩ := h1; rfl
theorem map_at {α β : Type} {f : α → β} {l k : List α} (h : l.map f = k.map f) {i : Nat} {x : α} (hx : k[i]? = some x) : ∃ y, l[i]? = some y ∧ f y = f x := by
  have h1 : (l.map f)[i]? = (k.map f)[i]? := by rw [h]
  rw [List.getElem?_map, List.getElem?_map, hx] at h1
  cases hl : l[i]? with
  | none => rw [hl] at h1; cases h1
  | some y => rw [hl] at h1; exact ⟨y, rfl, by simpa using h1⟩

set_option maxRecDepth 100000 in
set_option maxHeartbeats 8000000 in
set_option linter.all false in
theorem rsameM (x y : MeM) (w : World) (hx : MeOk w x) (hy : MeOk w y) (bx : MeBd x) (h : pM y = pM x) : Calls Tryz.prog 103 #[.agg (meC x).toArray, .agg (meC y).toArray] w fun e w' => e = .returned (.bool true) ∧ Below w.heap.size w w' := by
  have by' := pM_bd h bx
  have HX := Lib.hid (fun v (hv : Below w.heap.size w v) => hx.below hv); have HY := Lib.hid (fun v (hv : Below w.heap.size w v) => hy.below hv)
  have HBX := Lib.hid bx; have HBY := Lib.hid by'
  unfold pM at h
  simp only [MeP.mk.injEq] at h
  obtain ⟨e1, e2, e3, e4, e5, e6⟩ := h
  clear hx hy bx by'
  obtain ⟨nm, ds, st, ab, rg, co, A, c⟩ := x
  obtain ⟨nm', ds', st', ab', rg', ko, E, z⟩ := y
  dsimp only at e1 e2 e3 e4 e5 e6
  subst e1; subst e2; subst e3; subst e4; subst e5
  have hl := map_len e6
  obtain ⟨n, hn⟩ : ∃ n, n = co.length := ⟨_, rfl⟩
  have nI : (n : Int) ≤ 281474976710656 := by have := HBX.out.2.2.1; dsimp only at this; omega
  have HE := Lib.hid e6
  unfold meC
  dsimp only
  rw [hl, ← hn]
  obtain ⟨W, hW⟩ : ∃ W, W = (w.alloc (.cells #[.string ⟨nm'.toArray⟩, .string ⟨ds'.toArray⟩, .bool st', .bool ab', .int .i64 rg', .slice A n c] 46)).alloc (.cells #[.string ⟨nm'.toArray⟩, .string ⟨ds'.toArray⟩, .bool st', .bool ab', .int .i64 rg', .slice E n z] 46) := ⟨_, rfl⟩
  have hal : Below w.heap.size w W := by rw [hW]; exact ((Below.refl _ w).alloc (Nat.le_refl _) _).alloc (by simp) _
  have hbi : W.heap[w.heap.size]? = some (.cells #[.string ⟨nm'.toArray⟩, .string ⟨ds'.toArray⟩, .bool st', .bool ab', .int .i64 rg', .slice A n c] 46 (0, 0)) := by rw [hW]; exact (Below.heap_alloc _ _ _ (by simp)).trans (heap_alloc_new w _)
  have hbj : W.heap[w.heap.size + 1]? = some (.cells #[.string ⟨nm'.toArray⟩, .string ⟨ds'.toArray⟩, .bool st', .bool ab', .int .i64 rg', .slice E n z] 46 (0, 0)) := by
    rw [hW]
    have := heap_alloc_new (w.alloc (.cells #[.string ⟨nm'.toArray⟩, .string ⟨ds'.toArray⟩, .bool st', .bool ab', .int .i64 rg', .slice A n c] 46)) (.cells #[.string ⟨nm'.toArray⟩, .string ⟨ds'.toArray⟩, .bool st', .bool ab', .int .i64 rg', .slice E n z] 46)
    rwa [World.size_alloc] at this
  have HW := Lib.hid hW; have HAL := Lib.hid hal; have HBI := Lib.hid hbi; have HBJ := Lib.hid hbj; have G1 := Lib.hid (blk_lt hbi); have G2 := Lib.hid (blk_lt hbj)
  have d0 : W.cell? ⟨w.heap.size, 0, none⟩ = some (.string ⟨nm'.toArray⟩) := cell_of_row _ _ 0 _ _ _ hbi
  have f0 : W.cell? ⟨w.heap.size + 1, 0, none⟩ = some (.string ⟨nm'.toArray⟩) := cell_of_row _ _ 0 _ _ _ hbj
  have d1 : W.cell? ⟨w.heap.size, 1, none⟩ = some (.string ⟨ds'.toArray⟩) := cell_of_row _ _ 1 _ _ _ hbi
  have f1 : W.cell? ⟨w.heap.size + 1, 1, none⟩ = some (.string ⟨ds'.toArray⟩) := cell_of_row _ _ 1 _ _ _ hbj
  have d2 : W.cell? ⟨w.heap.size, 2, none⟩ = some (.bool st') := cell_of_row _ _ 2 _ _ _ hbi
  have f2 : W.cell? ⟨w.heap.size + 1, 2, none⟩ = some (.bool st') := cell_of_row _ _ 2 _ _ _ hbj
  have d3 : W.cell? ⟨w.heap.size, 3, none⟩ = some (.bool ab') := cell_of_row _ _ 3 _ _ _ hbi
  have f3 : W.cell? ⟨w.heap.size + 1, 3, none⟩ = some (.bool ab') := cell_of_row _ _ 3 _ _ _ hbj
  have d4 : W.cell? ⟨w.heap.size, 4, none⟩ = some (.int .i64 rg') := cell_of_row _ _ 4 _ _ _ hbi
  have f4 : W.cell? ⟨w.heap.size + 1, 4, none⟩ = some (.int .i64 rg') := cell_of_row _ _ 4 _ _ _ hbj
  have d5 : W.cell? ⟨w.heap.size, 5, none⟩ = some (.slice A n c) := cell_of_row _ _ 5 _ _ _ hbi
  have f5 : W.cell? ⟨w.heap.size + 1, 5, none⟩ = some (.slice E n z) := cell_of_row _ _ 5 _ _ _ hbj
  have HC := Lib.hid (show ∀ v : World, Below W.heap.size W v → v.cell? ⟨w.heap.size, 5, none⟩ = some (.slice A n c) ∧ v.cell? ⟨w.heap.size + 1, 5, none⟩ = some (.slice E n z) from fun v hv => ⟨cell_of_row _ _ 5 _ _ _ ((hv.block _ G1.out).trans HBI.out), cell_of_row _ _ 5 _ _ _ ((hv.block _ G2.out).trans HBJ.out)⟩)
  have HR1 := Lib.hid (fun v (hv : Below W.heap.size W v) => (HX.out _ (hal.trans (hv.mono hal.size))).2.1)
  have HR2 := Lib.hid (fun v (hv : Below W.heap.size W v) => (HY.out _ (hal.trans (hv.mono hal.size))).2.1)
  dsimp only at HR1 HR2
  have k1 : (nm' == nm') = true := by simp
  have k2 : (ds' == ds') = true := by simp
  have k3 : (st' != st') = false := by simp
  have k4 : (ab' != ab') = false := by simp
  have k5 : (rg' != rg') = false := by simp
  have k6 : ((n : Int) != (n : Int)) = false := by simp
  have HN := Lib.hid hn
  clear hW hal hbi hbj hl e6 hn
  go_enter Tryz.func103, Tryz.ntmps103
  go_wp2_with fail
  try simp only [World.size_alloc]
  rw [← HW.out]
  (try go_wp2_with fail)
  clear d0 f0 d1 f1 d2 f2 d3 f3 d4 f4 d5 f5
  go_loopw [5] (fun i wr => ∃ k : Nat, i = .int .i64 (k : Int) ∧ k ≤ n ∧ Below W.heap.size W wr) (fun i _ => n - (intOf i).toNat)
  case atStart => exact ⟨0, rfl, Nat.zero_le _, Below.refl _ _⟩
  case round =>
    obtain ⟨k, rfl, hk, hbw⟩ := hrel
    obtain ⟨wa, hwa⟩ : ∃ u, u = wr := ⟨_, rfl⟩
    subst hwa
    have Bwa := Lib.hid hbw
    obtain ⟨g0, g1⟩ := HC.out _ hbw
    by_cases hlt : k < n
    · have hltI : (k : Int) < (n : Int) := by omega
      obtain ⟨x, hx⟩ : ∃ x, co[k]? = some x := ⟨co[k]'(by rw [← HN.out]; exact hlt), List.getElem?_eq_getElem _⟩
      obtain ⟨y, hy, hp⟩ := map_at HE.out hx
      obtain ⟨a, ea, ha, s0, s1, s2, s3, s4, s5, s6, s7, s8⟩ := in_at (HR1.out _ hbw) hx
      obtain ⟨b, eb, hb, t0, t1, t2, t3, t4, t5, t6, t7, t8⟩ := in_at (HR2.out _ hbw) hy
      subst ea
      subst eb
      have HF := Lib.hid (show ∀ u : World, Below W.heap.size W u → u.cell? ⟨w.heap.size, 5, none⟩ = some (.slice (some a) n c) ∧ u.cell? ⟨w.heap.size + 1, 5, none⟩ = some (.slice (some b) n z) ∧ u.cell? (a.add (k * 9)) = some (.int .i64 x.i.o) ∧ u.cell? ⟨(a.add (k * 9)).block, (a.add (k * 9)).off + 1, none⟩ = some (.int .i64 x.i.a) ∧ u.cell? ⟨(a.add (k * 9)).block, (a.add (k * 9)).off + 2, none⟩ = some (.int .i64 x.i.b) ∧ u.cell? ⟨(a.add (k * 9)).block, (a.add (k * 9)).off + 3, none⟩ = some (.int .i64 x.i.c) ∧ u.cell? ⟨(a.add (k * 9)).block, (a.add (k * 9)).off + 4, none⟩ = some (.int .i64 x.i.k) ∧ u.cell? ⟨(a.add (k * 9)).block, (a.add (k * 9)).off + 5, none⟩ = some (.string ⟨x.i.cl.toArray⟩) ∧ u.cell? ⟨(a.add (k * 9)).block, (a.add (k * 9)).off + 6, none⟩ = some (.string ⟨x.i.nm.toArray⟩) ∧ u.cell? ⟨(a.add (k * 9)).block, (a.add (k * 9)).off + 7, none⟩ = some (.string ⟨x.i.ds.toArray⟩) ∧ u.cell? ⟨(a.add (k * 9)).block, (a.add (k * 9)).off + 8, none⟩ = some (.slice x.A x.i.ar.length x.c) ∧ u.cell? (b.add (k * 9)) = some (.int .i64 y.i.o) ∧ u.cell? ⟨(b.add (k * 9)).block, (b.add (k * 9)).off + 1, none⟩ = some (.int .i64 y.i.a) ∧ u.cell? ⟨(b.add (k * 9)).block, (b.add (k * 9)).off + 2, none⟩ = some (.int .i64 y.i.b) ∧ u.cell? ⟨(b.add (k * 9)).block, (b.add (k * 9)).off + 3, none⟩ = some (.int .i64 y.i.c) ∧ u.cell? ⟨(b.add (k * 9)).block, (b.add (k * 9)).off + 4, none⟩ = some (.int .i64 y.i.k) ∧ u.cell? ⟨(b.add (k * 9)).block, (b.add (k * 9)).off + 5, none⟩ = some (.string ⟨y.i.cl.toArray⟩) ∧ u.cell? ⟨(b.add (k * 9)).block, (b.add (k * 9)).off + 6, none⟩ = some (.string ⟨y.i.nm.toArray⟩) ∧ u.cell? ⟨(b.add (k * 9)).block, (b.add (k * 9)).off + 7, none⟩ = some (.string ⟨y.i.ds.toArray⟩) ∧ u.cell? ⟨(b.add (k * 9)).block, (b.add (k * 9)).off + 8, none⟩ = some (.slice y.A y.i.ar.length y.c) from fun u hu => by
        obtain ⟨_, e1, _, p0, p1, p2, p3, p4, p5, p6, p7, p8⟩ := in_at (HR1.out _ hu) hx
        obtain ⟨_, e2, _, r0, r1, r2, r3, r4, r5, r6, r7, r8⟩ := in_at (HR2.out _ hu) hy
        cases e1; cases e2
        exact ⟨(HC.out _ hu).1, (HC.out _ hu).2, p0, p1, p2, p3, p4, p5, p6, p7, p8, r0, r1, r2, r3, r4, r5, r6, r7, r8⟩)
      have hie : x.i = y.i := hp.symm
      have HS := Lib.hid (fun u (hu : Below wa.heap.size wa u) => show Calls Tryz.prog 137 #[.agg (inC x).toArray, .agg (inC y).toArray] u fun e w' => e = .returned (.bool true) ∧ Below u.heap.size u w' from by
        have kx := (HX.out _ (HAL.out.trans ((Bwa.out.trans (hu.mono Bwa.out.size)).mono HAL.out.size))).2.2 x (List.mem_of_getElem? hx)
        have ky := (HY.out _ (HAL.out.trans ((Bwa.out.trans (hu.mono Bwa.out.size)).mono HAL.out.size))).2.2 y (List.mem_of_getElem? hy)
        have h := Go.Proofs.YtjahilfapcljiaaGreatDoor.op.same_r x.i y.i x.A y.A x.c y.c u kx.2 ky.2 (by have := (HBX.out.2.2.2 x (List.mem_of_getElem? hx)).1; omega) (by have := (HBY.out.2.2.2 y (List.mem_of_getElem? hy)).1; omega)
        rw [decide_eq_true hie] at h
        exact h)
      dsimp only [inC] at HS
      clear hie
      clear s0 t0 s1 t1 s2 t2 s3 t3 s4 t4 s5 t5 s6 t6 s7 t7 s8 t8 g0 g1 hx hy hp ha hb hbw
      obtain ⟨g0, g1, s0, s1, s2, s3, s4, s5, s6, s7, s8, t0, t1, t2, t3, t4, t5, t6, t7, t8⟩ := HF.out _ Bwa.out
      go_wp2_with fail
      refine wp_region_held_drew (S := (fun w' => w'.cell? ⟨w.heap.size, 5, none⟩ = some (.slice (some a) n c) ∧ w'.cell? ⟨w.heap.size + 1, 5, none⟩ = some (.slice (some b) n z) ∧ w'.cell? (a.add (k * 9)) = some (.int .i64 x.i.o) ∧ w'.cell? ⟨(a.add (k * 9)).block, (a.add (k * 9)).off + 1, none⟩ = some (.int .i64 x.i.a) ∧ w'.cell? ⟨(a.add (k * 9)).block, (a.add (k * 9)).off + 2, none⟩ = some (.int .i64 x.i.b) ∧ w'.cell? ⟨(a.add (k * 9)).block, (a.add (k * 9)).off + 3, none⟩ = some (.int .i64 x.i.c) ∧ w'.cell? ⟨(a.add (k * 9)).block, (a.add (k * 9)).off + 4, none⟩ = some (.int .i64 x.i.k) ∧ w'.cell? ⟨(a.add (k * 9)).block, (a.add (k * 9)).off + 5, none⟩ = some (.string ⟨x.i.cl.toArray⟩) ∧ w'.cell? ⟨(a.add (k * 9)).block, (a.add (k * 9)).off + 6, none⟩ = some (.string ⟨x.i.nm.toArray⟩) ∧ w'.cell? ⟨(a.add (k * 9)).block, (a.add (k * 9)).off + 7, none⟩ = some (.string ⟨x.i.ds.toArray⟩) ∧ w'.cell? ⟨(a.add (k * 9)).block, (a.add (k * 9)).off + 8, none⟩ = some (.slice x.A x.i.ar.length x.c) ∧ w'.cell? (b.add (k * 9)) = some (.int .i64 y.i.o) ∧ w'.cell? ⟨(b.add (k * 9)).block, (b.add (k * 9)).off + 1, none⟩ = some (.int .i64 y.i.a) ∧ w'.cell? ⟨(b.add (k * 9)).block, (b.add (k * 9)).off + 2, none⟩ = some (.int .i64 y.i.b) ∧ w'.cell? ⟨(b.add (k * 9)).block, (b.add (k * 9)).off + 3, none⟩ = some (.int .i64 y.i.c) ∧ w'.cell? ⟨(b.add (k * 9)).block, (b.add (k * 9)).off + 4, none⟩ = some (.int .i64 y.i.k) ∧ w'.cell? ⟨(b.add (k * 9)).block, (b.add (k * 9)).off + 5, none⟩ = some (.string ⟨y.i.cl.toArray⟩) ∧ w'.cell? ⟨(b.add (k * 9)).block, (b.add (k * 9)).off + 6, none⟩ = some (.string ⟨y.i.nm.toArray⟩) ∧ w'.cell? ⟨(b.add (k * 9)).block, (b.add (k * 9)).off + 7, none⟩ = some (.string ⟨y.i.ds.toArray⟩) ∧ w'.cell? ⟨(b.add (k * 9)).block, (b.add (k * 9)).off + 8, none⟩ = some (.slice y.A y.i.ar.length y.c))) (by kernel_rfl) ?_ (fun hHeld => ?_)
      · exact HF.out wa Bwa.out
      refine tkv 0 rfl ?_
      try simp only [puts]
      refine tkv 1 rfl ?_
      try simp only [puts]
      refine tkv 2 rfl ?_
      try simp only [puts]
      refine tkv 3 rfl ?_
      try simp only [puts]
      refine tkv 4 rfl ?_
      try simp only [puts]
      refine tkv 5 rfl ?_
      try simp only [puts]
      refine tkv 6 rfl ?_
      try simp only [puts]
      refine tkv 7 rfl ?_
      try simp only [puts]
      refine tkv 8 rfl ?_
      try simp only [puts]
      refine tkv 9 rfl ?_
      try simp only [puts]
      refine wpAnyH_ready (rs := [10]) (by kernel_rfl) (by simp) (AllReadyH.cons rfl (fun K hK => ?_) AllReadyH.nil)
      go_simp
      refine (HS.out _ (by first | exact Below.refl _ _ | exact overD (Below.refl _ _))).mono ?_; rintro e u1 ⟨rfl, hb⟩; have B1 := Lib.hid (show Below W.heap.size W u1 from (by first | exact Bwa.out.trans (hb.mono Bwa.out.size) | exact Bwa.out.trans (Below.mono (under hb) Bwa.out.size))); clear hb; go_wp2_with fail
      refine hK.out _ _ (HF.out _ B1.out) (fun hHeld => ?_)
      clear hK K
      try simp only [puts]
      refine tkv 11 rfl ?_
      try simp only [puts]
      refine wpAnyH_done (by kernel_rfl) ?_ _
      clear g0 g1 s0 t0 s1 t1 s2 t2 s3 t3 s4 t4 s5 t5 s6 t6 s7 t7 s8 t8
      go_wp2
      go_roundw
      case rel => exact ⟨k + 1, by go_num, by omega, B1.out⟩
      case measure => simp [intOf]; omega
    · have hltI : ¬ (k : Int) < (n : Int) := by omega
      clear hbw
      go_wp2
      go_ret
      exact ⟨rfl, HAL.out.trans (Bwa.out.mono HAL.out.size)⟩

set_option maxRecDepth 100000 in
set_option maxHeartbeats 8000000 in
set_option linter.all false in
theorem rsameC (x y : ClM) (w : World) (hx : ClOk w x) (hy : ClOk w y) (bx : ClBd x) (h : pC y = pC x) : Calls Tryz.prog 54 #[.agg (clC x).toArray, .agg (clC y).toArray] w fun e w' => e = .returned (.bool true) ∧ Below w.heap.size w w' := by
  have HX := Lib.hid (fun v (hv : Below w.heap.size w v) => hx.below hv); have HY := Lib.hid (fun v (hv : Below w.heap.size w v) => hy.below hv)
  have HBX := Lib.hid bx
  unfold pC at h
  simp only [ClP.mk.injEq] at h
  obtain ⟨e1, e2, e3, e4, e5, e6, e7⟩ := h
  have e6' := fs_same e6
  clear hx hy bx e6
  obtain ⟨nm, su, fc, ab, is, A1, c1, fs, A2, c2, ms, A3, c3⟩ := x
  obtain ⟨nm', su', fc', ab', is', E1, z1, fs', E2, z2, ks, E3, z3⟩ := y
  dsimp only at e1 e2 e3 e4 e5 e6' e7
  subst e1; subst e2; subst e3; subst e4; subst e5; subst e6'
  have hl := map_len e7
  obtain ⟨n1, hn1⟩ : ∃ n, n = is'.length := ⟨_, rfl⟩
  obtain ⟨n2, hn2⟩ : ∃ n, n = fs'.length := ⟨_, rfl⟩
  obtain ⟨n3, hn3⟩ : ∃ n, n = ms.length := ⟨_, rfl⟩
  have n1I : (n1 : Int) ≤ 281474976710656 := by have := HBX.out.2.2.1.1; dsimp only at this; omega
  have n2I : (n2 : Int) ≤ 281474976710656 := by have := HBX.out.2.2.2.1.1; dsimp only at this; omega
  have n3I : (n3 : Int) ≤ 281474976710656 := by have := HBX.out.2.2.2.2.1; dsimp only at this; omega
  have HE := Lib.hid e7
  unfold clC
  dsimp only
  rw [hl, ← hn1, ← hn2, ← hn3]
  obtain ⟨W, hW⟩ : ∃ W, W = (w.alloc (.cells #[.string ⟨nm'.toArray⟩, .string ⟨su'.toArray⟩, .bool fc', .bool ab', .slice A1 n1 c1, .slice A2 n2 c2, .slice A3 n3 c3] 37)).alloc (.cells #[.string ⟨nm'.toArray⟩, .string ⟨su'.toArray⟩, .bool fc', .bool ab', .slice E1 n1 z1, .slice E2 n2 z2, .slice E3 n3 z3] 37) := ⟨_, rfl⟩
  have hal : Below w.heap.size w W := by rw [hW]; exact ((Below.refl _ w).alloc (Nat.le_refl _) _).alloc (by simp) _
  have hbi : W.heap[w.heap.size]? = some (.cells #[.string ⟨nm'.toArray⟩, .string ⟨su'.toArray⟩, .bool fc', .bool ab', .slice A1 n1 c1, .slice A2 n2 c2, .slice A3 n3 c3] 37 (0, 0)) := by rw [hW]; exact (Below.heap_alloc _ _ _ (by simp)).trans (heap_alloc_new w _)
  have hbj : W.heap[w.heap.size + 1]? = some (.cells #[.string ⟨nm'.toArray⟩, .string ⟨su'.toArray⟩, .bool fc', .bool ab', .slice E1 n1 z1, .slice E2 n2 z2, .slice E3 n3 z3] 37 (0, 0)) := by
    rw [hW]
    have := heap_alloc_new (w.alloc (.cells #[.string ⟨nm'.toArray⟩, .string ⟨su'.toArray⟩, .bool fc', .bool ab', .slice A1 n1 c1, .slice A2 n2 c2, .slice A3 n3 c3] 37)) (.cells #[.string ⟨nm'.toArray⟩, .string ⟨su'.toArray⟩, .bool fc', .bool ab', .slice E1 n1 z1, .slice E2 n2 z2, .slice E3 n3 z3] 37)
    rwa [World.size_alloc] at this
  have HW := Lib.hid hW; have HAL := Lib.hid hal; have HBI := Lib.hid hbi; have HBJ := Lib.hid hbj; have G1 := Lib.hid (blk_lt hbi); have G2 := Lib.hid (blk_lt hbj)
  have d0 : W.cell? ⟨w.heap.size, 0, none⟩ = some (.string ⟨nm'.toArray⟩) := cell_of_row _ _ 0 _ _ _ hbi
  have f0 : W.cell? ⟨w.heap.size + 1, 0, none⟩ = some (.string ⟨nm'.toArray⟩) := cell_of_row _ _ 0 _ _ _ hbj
  have d1 : W.cell? ⟨w.heap.size, 1, none⟩ = some (.string ⟨su'.toArray⟩) := cell_of_row _ _ 1 _ _ _ hbi
  have f1 : W.cell? ⟨w.heap.size + 1, 1, none⟩ = some (.string ⟨su'.toArray⟩) := cell_of_row _ _ 1 _ _ _ hbj
  have d2 : W.cell? ⟨w.heap.size, 2, none⟩ = some (.bool fc') := cell_of_row _ _ 2 _ _ _ hbi
  have f2 : W.cell? ⟨w.heap.size + 1, 2, none⟩ = some (.bool fc') := cell_of_row _ _ 2 _ _ _ hbj
  have d3 : W.cell? ⟨w.heap.size, 3, none⟩ = some (.bool ab') := cell_of_row _ _ 3 _ _ _ hbi
  have f3 : W.cell? ⟨w.heap.size + 1, 3, none⟩ = some (.bool ab') := cell_of_row _ _ 3 _ _ _ hbj
  have d4 : W.cell? ⟨w.heap.size, 4, none⟩ = some (.slice A1 n1 c1) := cell_of_row _ _ 4 _ _ _ hbi
  have f4 : W.cell? ⟨w.heap.size + 1, 4, none⟩ = some (.slice E1 n1 z1) := cell_of_row _ _ 4 _ _ _ hbj
  have d5 : W.cell? ⟨w.heap.size, 5, none⟩ = some (.slice A2 n2 c2) := cell_of_row _ _ 5 _ _ _ hbi
  have f5 : W.cell? ⟨w.heap.size + 1, 5, none⟩ = some (.slice E2 n2 z2) := cell_of_row _ _ 5 _ _ _ hbj
  have d6 : W.cell? ⟨w.heap.size, 6, none⟩ = some (.slice A3 n3 c3) := cell_of_row _ _ 6 _ _ _ hbi
  have f6 : W.cell? ⟨w.heap.size + 1, 6, none⟩ = some (.slice E3 n3 z3) := cell_of_row _ _ 6 _ _ _ hbj
  have HCa := Lib.hid (show ∀ v : World, Below W.heap.size W v → v.cell? ⟨w.heap.size, 4, none⟩ = some (.slice A1 n1 c1) ∧ v.cell? ⟨w.heap.size + 1, 4, none⟩ = some (.slice E1 n1 z1) from fun v hv => ⟨cell_of_row _ _ 4 _ _ _ ((hv.block _ G1.out).trans HBI.out), cell_of_row _ _ 4 _ _ _ ((hv.block _ G2.out).trans HBJ.out)⟩)
  have HCb := Lib.hid (show ∀ v : World, Below W.heap.size W v → v.cell? ⟨w.heap.size, 5, none⟩ = some (.slice A2 n2 c2) ∧ v.cell? ⟨w.heap.size + 1, 5, none⟩ = some (.slice E2 n2 z2) from fun v hv => ⟨cell_of_row _ _ 5 _ _ _ ((hv.block _ G1.out).trans HBI.out), cell_of_row _ _ 5 _ _ _ ((hv.block _ G2.out).trans HBJ.out)⟩)
  have HC := Lib.hid (show ∀ v : World, Below W.heap.size W v → v.cell? ⟨w.heap.size, 6, none⟩ = some (.slice A3 n3 c3) ∧ v.cell? ⟨w.heap.size + 1, 6, none⟩ = some (.slice E3 n3 z3) from fun v hv => ⟨cell_of_row _ _ 6 _ _ _ ((hv.block _ G1.out).trans HBI.out), cell_of_row _ _ 6 _ _ _ ((hv.block _ G2.out).trans HBJ.out)⟩)
  have Ra1 := Lib.hid (fun v (hv : Below W.heap.size W v) => (HX.out _ (hal.trans (hv.mono hal.size))).1.2)
  have Ra2 := Lib.hid (fun v (hv : Below W.heap.size W v) => (HY.out _ (hal.trans (hv.mono hal.size))).1.2)
  have Rb1 := Lib.hid (fun v (hv : Below W.heap.size W v) => (HX.out _ (hal.trans (hv.mono hal.size))).2.1.2)
  have Rb2 := Lib.hid (fun v (hv : Below W.heap.size W v) => (HY.out _ (hal.trans (hv.mono hal.size))).2.1.2)
  have HR1 := Lib.hid (fun v (hv : Below W.heap.size W v) => (HX.out _ (hal.trans (hv.mono hal.size))).2.2.1.2)
  have HR2 := Lib.hid (fun v (hv : Below W.heap.size W v) => (HY.out _ (hal.trans (hv.mono hal.size))).2.2.1.2)
  dsimp only at Ra1 Ra2 Rb1 Rb2 HR1 HR2
  have k1 : (nm' == nm') = true := by simp
  have k2 : (su' == su') = true := by simp
  have k3 : (fc' != fc') = false := by simp
  have k4 : (ab' != ab') = false := by simp
  have k5 : ((n1 : Int) != (n1 : Int)) = false := by simp
  have k6 : ((n2 : Int) != (n2 : Int)) = false := by simp
  have k7 : ((n3 : Int) != (n3 : Int)) = false := by simp
  have HN1 := Lib.hid hn1; have HN2 := Lib.hid hn2; have HN3 := Lib.hid hn3
  clear hW hal hbi hbj hl e7 hn1 hn2 hn3
  go_enter Tryz.func54, Tryz.ntmps54
  go_wp2_with fail
  try simp only [World.size_alloc]
  rw [← HW.out]
  (try go_wp2_with fail)
  clear d0 f0 d1 f1 d2 f2 d3 f3 d4 f4 d5 f5 d6 f6
  go_loopw [5] (fun i wr => ∃ k : Nat, i = .int .i64 (k : Int) ∧ k ≤ n1 ∧ Below W.heap.size W wr) (fun i _ => n1 - (intOf i).toNat)
  case atStart => exact ⟨0, rfl, Nat.zero_le _, Below.refl _ _⟩
  case round =>
    obtain ⟨k, rfl, hk, hbw⟩ := hrel
    obtain ⟨wa, hwa⟩ : ∃ u, u = wr := ⟨_, rfl⟩
    subst hwa
    have Bwa := Lib.hid hbw
    obtain ⟨g0, g1⟩ := HCa.out _ hbw
    by_cases hlt : k < n1
    · have hltI : (k : Int) < (n1 : Int) := by omega
      obtain ⟨s, hs⟩ : ∃ s, is'[k]? = some s := ⟨is'[k]'(by rw [← HN1.out]; exact hlt), List.getElem?_eq_getElem _⟩
      obtain ⟨a, ea, ha, s0⟩ := (Ra1.out _ hbw).at_ (sx_get hs)
      obtain ⟨b, eb, hb, t0⟩ := (Ra2.out _ hbw).at_ (sx_get hs)
      subst ea
      subst eb
      have kk : (s == s) = true := by simp
      clear hs ha hb hbw
      go_wp2
      go_quiet (fail)
      go_wp2
      go_roundw
      case rel => exact ⟨k + 1, by go_num, by omega, over Bwa.out⟩
      case measure => simp [intOf]; omega
    · have hltI : ¬ (k : Int) < (n1 : Int) := by omega
      clear hbw hk hlt
      go_wp2_with fail
      go_loopw [6] (fun i wr => ∃ k : Nat, i = .int .i64 (k : Int) ∧ k ≤ n2 ∧ Below W.heap.size W wr) (fun i _ => n2 - (intOf i).toNat)
      case atStart => exact ⟨0, rfl, Nat.zero_le _, Bwa.out⟩
      case round =>
        obtain ⟨k, rfl, hk, hbw⟩ := hrel
        obtain ⟨wb, hwb⟩ : ∃ u, u = wr := ⟨_, rfl⟩
        subst hwb
        have Bwb := Lib.hid hbw
        obtain ⟨g0, g1⟩ := HCb.out _ hbw
        by_cases hlt : k < n2
        · have hltI : (k : Int) < (n2 : Int) := by omega
          obtain ⟨x, hx⟩ : ∃ s, fs'[k]? = some s := ⟨fs'[k]'(by rw [← HN2.out]; exact hlt), List.getElem?_eq_getElem _⟩
          obtain ⟨a, ea, ha, s0, s1, s2, s3⟩ := fi_at (Rb1.out _ hbw) hx
          obtain ⟨b, eb, hb, t0, t1, t2, t3⟩ := fi_at (Rb2.out _ hbw) hx
          subst ea
          subst eb
          have j1 : (x.nm == x.nm) = true := by simp
          have j2 : (x.k == x.k) = true := by simp
          have j3 : (x.cl == x.cl) = true := by simp
          have j4 : (x.st == x.st) = true := by simp
          clear hx ha hb hbw
          go_wp2
          go_quiet (fail)
          go_wp2
          go_roundw
          case rel => exact ⟨k + 1, by go_num, by omega, over Bwb.out⟩
          case measure => simp [intOf]; omega
        · have hltI : ¬ (k : Int) < (n2 : Int) := by omega
          clear hbw hk hlt
          go_wp2_with fail
          go_loopw [7] (fun i wr => ∃ k : Nat, i = .int .i64 (k : Int) ∧ k ≤ n3 ∧ Below W.heap.size W wr) (fun i _ => n3 - (intOf i).toNat)
          case atStart => exact ⟨0, rfl, Nat.zero_le _, Bwb.out⟩
          case round =>
            obtain ⟨k, rfl, hk, hbw⟩ := hrel
            obtain ⟨wc, hwc⟩ : ∃ u, u = wr := ⟨_, rfl⟩
            subst hwc
            have Bwc := Lib.hid hbw
            obtain ⟨g0, g1⟩ := HC.out _ hbw
            by_cases hlt : k < n3
            · have hltI : (k : Int) < (n3 : Int) := by omega
              obtain ⟨x, hx⟩ : ∃ x, ms[k]? = some x := ⟨ms[k]'(by rw [← HN3.out]; exact hlt), List.getElem?_eq_getElem _⟩
              obtain ⟨y, hy, hp⟩ := map_at HE.out hx
              obtain ⟨a, ea, ha, s0, s1, s2, s3, s4, s5⟩ := me_at (HR1.out _ hbw) hx
              obtain ⟨b, eb, hb, t0, t1, t2, t3, t4, t5⟩ := me_at (HR2.out _ hbw) hy
              subst ea
              subst eb
              have HF := Lib.hid (show ∀ u : World, Below W.heap.size W u → u.cell? ⟨w.heap.size, 6, none⟩ = some (.slice (some a) n3 c3) ∧ u.cell? ⟨w.heap.size + 1, 6, none⟩ = some (.slice (some b) n3 z3) ∧ u.cell? (a.add (k * 6)) = some (.string ⟨x.nm.toArray⟩) ∧ u.cell? ⟨(a.add (k * 6)).block, (a.add (k * 6)).off + 1, none⟩ = some (.string ⟨x.ds.toArray⟩) ∧ u.cell? ⟨(a.add (k * 6)).block, (a.add (k * 6)).off + 2, none⟩ = some (.bool x.st) ∧ u.cell? ⟨(a.add (k * 6)).block, (a.add (k * 6)).off + 3, none⟩ = some (.bool x.ab) ∧ u.cell? ⟨(a.add (k * 6)).block, (a.add (k * 6)).off + 4, none⟩ = some (.int .i64 x.rg) ∧ u.cell? ⟨(a.add (k * 6)).block, (a.add (k * 6)).off + 5, none⟩ = some (.slice x.A x.co.length x.c) ∧ u.cell? (b.add (k * 6)) = some (.string ⟨y.nm.toArray⟩) ∧ u.cell? ⟨(b.add (k * 6)).block, (b.add (k * 6)).off + 1, none⟩ = some (.string ⟨y.ds.toArray⟩) ∧ u.cell? ⟨(b.add (k * 6)).block, (b.add (k * 6)).off + 2, none⟩ = some (.bool y.st) ∧ u.cell? ⟨(b.add (k * 6)).block, (b.add (k * 6)).off + 3, none⟩ = some (.bool y.ab) ∧ u.cell? ⟨(b.add (k * 6)).block, (b.add (k * 6)).off + 4, none⟩ = some (.int .i64 y.rg) ∧ u.cell? ⟨(b.add (k * 6)).block, (b.add (k * 6)).off + 5, none⟩ = some (.slice y.A y.co.length y.c) from fun u hu => by
                obtain ⟨_, e1, _, p0, p1, p2, p3, p4, p5⟩ := me_at (HR1.out _ hu) hx
                obtain ⟨_, e2, _, r0, r1, r2, r3, r4, r5⟩ := me_at (HR2.out _ hu) hy
                cases e1; cases e2
                exact ⟨(HC.out _ hu).1, (HC.out _ hu).2, p0, p1, p2, p3, p4, p5, r0, r1, r2, r3, r4, r5⟩)
              have HS := Lib.hid (fun u (hu : Below wc.heap.size wc u) => rsameM x y u ((HX.out _ (HAL.out.trans ((Bwc.out.trans (hu.mono Bwc.out.size)).mono HAL.out.size))).2.2.2 x (List.mem_of_getElem? hx)) ((HY.out _ (HAL.out.trans ((Bwc.out.trans (hu.mono Bwc.out.size)).mono HAL.out.size))).2.2.2 y (List.mem_of_getElem? hy)) (HBX.out.2.2.2.2.2 x (List.mem_of_getElem? hx)) hp)
              dsimp only [meC] at HS
              clear s0 t0 s1 t1 s2 t2 s3 t3 s4 t4 s5 t5 g0 g1 hx hy hp ha hb hbw
              obtain ⟨g0, g1, s0, s1, s2, s3, s4, s5, t0, t1, t2, t3, t4, t5⟩ := HF.out _ Bwc.out
              go_wp2_with fail
              refine wp_region_held_drew (S := (fun w' => w'.cell? ⟨w.heap.size, 6, none⟩ = some (.slice (some a) n3 c3) ∧ w'.cell? ⟨w.heap.size + 1, 6, none⟩ = some (.slice (some b) n3 z3) ∧ w'.cell? (a.add (k * 6)) = some (.string ⟨x.nm.toArray⟩) ∧ w'.cell? ⟨(a.add (k * 6)).block, (a.add (k * 6)).off + 1, none⟩ = some (.string ⟨x.ds.toArray⟩) ∧ w'.cell? ⟨(a.add (k * 6)).block, (a.add (k * 6)).off + 2, none⟩ = some (.bool x.st) ∧ w'.cell? ⟨(a.add (k * 6)).block, (a.add (k * 6)).off + 3, none⟩ = some (.bool x.ab) ∧ w'.cell? ⟨(a.add (k * 6)).block, (a.add (k * 6)).off + 4, none⟩ = some (.int .i64 x.rg) ∧ w'.cell? ⟨(a.add (k * 6)).block, (a.add (k * 6)).off + 5, none⟩ = some (.slice x.A x.co.length x.c) ∧ w'.cell? (b.add (k * 6)) = some (.string ⟨y.nm.toArray⟩) ∧ w'.cell? ⟨(b.add (k * 6)).block, (b.add (k * 6)).off + 1, none⟩ = some (.string ⟨y.ds.toArray⟩) ∧ w'.cell? ⟨(b.add (k * 6)).block, (b.add (k * 6)).off + 2, none⟩ = some (.bool y.st) ∧ w'.cell? ⟨(b.add (k * 6)).block, (b.add (k * 6)).off + 3, none⟩ = some (.bool y.ab) ∧ w'.cell? ⟨(b.add (k * 6)).block, (b.add (k * 6)).off + 4, none⟩ = some (.int .i64 y.rg) ∧ w'.cell? ⟨(b.add (k * 6)).block, (b.add (k * 6)).off + 5, none⟩ = some (.slice y.A y.co.length y.c))) (by kernel_rfl) ?_ (fun hHeld => ?_)
              · exact HF.out wc Bwc.out
              refine tkv 0 rfl ?_
              try simp only [puts]
              refine tkv 1 rfl ?_
              try simp only [puts]
              refine tkv 2 rfl ?_
              try simp only [puts]
              refine tkv 3 rfl ?_
              try simp only [puts]
              refine tkv 4 rfl ?_
              try simp only [puts]
              refine tkv 5 rfl ?_
              try simp only [puts]
              refine tkv 6 rfl ?_
              try simp only [puts]
              refine tkv 7 rfl ?_
              try simp only [puts]
              refine tkv 8 rfl ?_
              try simp only [puts]
              refine tkv 9 rfl ?_
              try simp only [puts]
              refine wpAnyH_ready (rs := [10]) (by kernel_rfl) (by simp) (AllReadyH.cons rfl (fun K hK => ?_) AllReadyH.nil)
              go_simp
              refine (HS.out _ (by first | exact Below.refl _ _ | exact overD (Below.refl _ _))).mono ?_; rintro e u1 ⟨rfl, hb⟩; have B1 := Lib.hid (show Below W.heap.size W u1 from (by first | exact Bwc.out.trans (hb.mono Bwc.out.size) | exact Bwc.out.trans (Below.mono (under hb) Bwc.out.size))); clear hb; go_wp2_with fail
              refine hK.out _ _ (HF.out _ B1.out) (fun hHeld => ?_)
              clear hK K
              try simp only [puts]
              refine tkv 11 rfl ?_
              try simp only [puts]
              refine wpAnyH_done (by kernel_rfl) ?_ _
              clear g0 g1 s0 t0 s1 t1 s2 t2 s3 t3 s4 t4 s5 t5
              go_wp2
              go_roundw
              case rel => exact ⟨k + 1, by go_num, by omega, B1.out⟩
              case measure => simp [intOf]; omega
            · have hltI : ¬ (k : Int) < (n3 : Int) := by omega
              clear hbw
              go_wp2
              go_ret
              exact ⟨rfl, HAL.out.trans (Bwc.out.mono HAL.out.size)⟩

set_option maxRecDepth 100000 in
set_option maxHeartbeats 8000000 in
set_option linter.all false in
theorem rsame (x y : PrM) (w : World) (hx : PrOk w x) (hy : PrOk w y) (bx : PrBd x) (h : pP y = pP x) : Calls Tryz.prog 15 #[.agg (prC x).toArray, .agg (prC y).toArray] w fun e w' => e = .returned (.bool true) ∧ Below w.heap.size w w' := by
  have HX := Lib.hid (fun v (hv : Below w.heap.size w v) => hx.below hv); have HY := Lib.hid (fun v (hv : Below w.heap.size w v) => hy.below hv)
  have HBX := Lib.hid bx
  unfold pP at h
  simp only [PrP.mk.injEq] at h
  obtain ⟨e7, e2, e3, e4, e5⟩ := h
  clear hx hy bx
  obtain ⟨cs, A1, c1, ns, A2, c2, ec, en, ed⟩ := x
  obtain ⟨ks, E1, z1, ns', E2, z2, ec', en', ed'⟩ := y
  dsimp only at e2 e3 e4 e5 e7
  subst e2; subst e3; subst e4; subst e5
  have hl := map_len e7
  obtain ⟨n1, hn1⟩ : ∃ n, n = cs.length := ⟨_, rfl⟩
  obtain ⟨n2, hn2⟩ : ∃ n, n = ns'.length := ⟨_, rfl⟩
  have n1I : (n1 : Int) ≤ 281474976710656 := by have := HBX.out.1.1; dsimp only at this; omega
  have n2I : (n2 : Int) ≤ 281474976710656 := by have := HBX.out.2.1.1; dsimp only at this; omega
  have HE := Lib.hid e7
  unfold prC
  dsimp only
  rw [hl, ← hn1, ← hn2]
  obtain ⟨W, hW⟩ : ∃ W, W = (w.alloc (.cells #[.slice A1 n1 c1, .slice A2 n2 c2, .string ⟨ec'.toArray⟩, .string ⟨en'.toArray⟩, .string ⟨ed'.toArray⟩] 27)).alloc (.cells #[.slice E1 n1 z1, .slice E2 n2 z2, .string ⟨ec'.toArray⟩, .string ⟨en'.toArray⟩, .string ⟨ed'.toArray⟩] 27) := ⟨_, rfl⟩
  have hal : Below w.heap.size w W := by rw [hW]; exact ((Below.refl _ w).alloc (Nat.le_refl _) _).alloc (by simp) _
  have hbi : W.heap[w.heap.size]? = some (.cells #[.slice A1 n1 c1, .slice A2 n2 c2, .string ⟨ec'.toArray⟩, .string ⟨en'.toArray⟩, .string ⟨ed'.toArray⟩] 27 (0, 0)) := by rw [hW]; exact (Below.heap_alloc _ _ _ (by simp)).trans (heap_alloc_new w _)
  have hbj : W.heap[w.heap.size + 1]? = some (.cells #[.slice E1 n1 z1, .slice E2 n2 z2, .string ⟨ec'.toArray⟩, .string ⟨en'.toArray⟩, .string ⟨ed'.toArray⟩] 27 (0, 0)) := by
    rw [hW]
    have := heap_alloc_new (w.alloc (.cells #[.slice A1 n1 c1, .slice A2 n2 c2, .string ⟨ec'.toArray⟩, .string ⟨en'.toArray⟩, .string ⟨ed'.toArray⟩] 27)) (.cells #[.slice E1 n1 z1, .slice E2 n2 z2, .string ⟨ec'.toArray⟩, .string ⟨en'.toArray⟩, .string ⟨ed'.toArray⟩] 27)
    rwa [World.size_alloc] at this
  have HW := Lib.hid hW; have HAL := Lib.hid hal; have HBI := Lib.hid hbi; have HBJ := Lib.hid hbj; have G1 := Lib.hid (blk_lt hbi); have G2 := Lib.hid (blk_lt hbj)
  have d0 : W.cell? ⟨w.heap.size, 0, none⟩ = some (.slice A1 n1 c1) := cell_of_row _ _ 0 _ _ _ hbi
  have f0 : W.cell? ⟨w.heap.size + 1, 0, none⟩ = some (.slice E1 n1 z1) := cell_of_row _ _ 0 _ _ _ hbj
  have d1 : W.cell? ⟨w.heap.size, 1, none⟩ = some (.slice A2 n2 c2) := cell_of_row _ _ 1 _ _ _ hbi
  have f1 : W.cell? ⟨w.heap.size + 1, 1, none⟩ = some (.slice E2 n2 z2) := cell_of_row _ _ 1 _ _ _ hbj
  have d2 : W.cell? ⟨w.heap.size, 2, none⟩ = some (.string ⟨ec'.toArray⟩) := cell_of_row _ _ 2 _ _ _ hbi
  have f2 : W.cell? ⟨w.heap.size + 1, 2, none⟩ = some (.string ⟨ec'.toArray⟩) := cell_of_row _ _ 2 _ _ _ hbj
  have d3 : W.cell? ⟨w.heap.size, 3, none⟩ = some (.string ⟨en'.toArray⟩) := cell_of_row _ _ 3 _ _ _ hbi
  have f3 : W.cell? ⟨w.heap.size + 1, 3, none⟩ = some (.string ⟨en'.toArray⟩) := cell_of_row _ _ 3 _ _ _ hbj
  have d4 : W.cell? ⟨w.heap.size, 4, none⟩ = some (.string ⟨ed'.toArray⟩) := cell_of_row _ _ 4 _ _ _ hbi
  have f4 : W.cell? ⟨w.heap.size + 1, 4, none⟩ = some (.string ⟨ed'.toArray⟩) := cell_of_row _ _ 4 _ _ _ hbj
  have HC := Lib.hid (show ∀ v : World, Below W.heap.size W v → v.cell? ⟨w.heap.size, 0, none⟩ = some (.slice A1 n1 c1) ∧ v.cell? ⟨w.heap.size + 1, 0, none⟩ = some (.slice E1 n1 z1) from fun v hv => ⟨cell_of_row _ _ 0 _ _ _ ((hv.block _ G1.out).trans HBI.out), cell_of_row _ _ 0 _ _ _ ((hv.block _ G2.out).trans HBJ.out)⟩)
  have HCa := Lib.hid (show ∀ v : World, Below W.heap.size W v → v.cell? ⟨w.heap.size, 1, none⟩ = some (.slice A2 n2 c2) ∧ v.cell? ⟨w.heap.size + 1, 1, none⟩ = some (.slice E2 n2 z2) from fun v hv => ⟨cell_of_row _ _ 1 _ _ _ ((hv.block _ G1.out).trans HBI.out), cell_of_row _ _ 1 _ _ _ ((hv.block _ G2.out).trans HBJ.out)⟩)
  have Ra1 := Lib.hid (fun v (hv : Below W.heap.size W v) => (HX.out _ (hal.trans (hv.mono hal.size))).2.1.2)
  have Ra2 := Lib.hid (fun v (hv : Below W.heap.size W v) => (HY.out _ (hal.trans (hv.mono hal.size))).2.1.2)
  have HR1 := Lib.hid (fun v (hv : Below W.heap.size W v) => (HX.out _ (hal.trans (hv.mono hal.size))).1.2)
  have HR2 := Lib.hid (fun v (hv : Below W.heap.size W v) => (HY.out _ (hal.trans (hv.mono hal.size))).1.2)
  dsimp only at Ra1 Ra2 HR1 HR2
  have k1 : (ec' == ec') = true := by simp
  have k2 : (en' == en') = true := by simp
  have k3 : (ed' == ed') = true := by simp
  have k5 : ((n1 : Int) != (n1 : Int)) = false := by simp
  have k6 : ((n2 : Int) != (n2 : Int)) = false := by simp
  have HN1 := Lib.hid hn1; have HN2 := Lib.hid hn2
  clear hW hal hbi hbj hl e7 hn1 hn2
  go_enter Tryz.func15, Tryz.ntmps15
  go_wp2_with fail
  try simp only [World.size_alloc]
  rw [← HW.out]
  (try go_wp2_with fail)
  clear d0 f0 d1 f1 d2 f2 d3 f3 d4 f4
  go_loopw [5] (fun i wr => ∃ k : Nat, i = .int .i64 (k : Int) ∧ k ≤ n1 ∧ Below W.heap.size W wr) (fun i _ => n1 - (intOf i).toNat)
  case atStart => exact ⟨0, rfl, Nat.zero_le _, Below.refl _ _⟩
  case round =>
    obtain ⟨k, rfl, hk, hbw⟩ := hrel
    obtain ⟨wa, hwa⟩ : ∃ u, u = wr := ⟨_, rfl⟩
    subst hwa
    have Bwa := Lib.hid hbw
    obtain ⟨g0, g1⟩ := HC.out _ hbw
    by_cases hlt : k < n1
    · have hltI : (k : Int) < (n1 : Int) := by omega
      obtain ⟨x, hx⟩ : ∃ x, cs[k]? = some x := ⟨cs[k]'(by rw [← HN1.out]; exact hlt), List.getElem?_eq_getElem _⟩
      obtain ⟨y, hy, hp⟩ := map_at HE.out hx
      obtain ⟨a, ea, ha, s0, s1, s2, s3, s4, s5, s6⟩ := cl_at (HR1.out _ hbw) hx
      obtain ⟨b, eb, hb, t0, t1, t2, t3, t4, t5, t6⟩ := cl_at (HR2.out _ hbw) hy
      subst ea
      subst eb
      have HF := Lib.hid (show ∀ u : World, Below W.heap.size W u → u.cell? ⟨w.heap.size, 0, none⟩ = some (.slice (some a) n1 c1) ∧ u.cell? ⟨w.heap.size + 1, 0, none⟩ = some (.slice (some b) n1 z1) ∧ u.cell? (a.add (k * 7)) = some (.string ⟨x.nm.toArray⟩) ∧ u.cell? ⟨(a.add (k * 7)).block, (a.add (k * 7)).off + 1, none⟩ = some (.string ⟨x.su.toArray⟩) ∧ u.cell? ⟨(a.add (k * 7)).block, (a.add (k * 7)).off + 2, none⟩ = some (.bool x.fc) ∧ u.cell? ⟨(a.add (k * 7)).block, (a.add (k * 7)).off + 3, none⟩ = some (.bool x.ab) ∧ u.cell? ⟨(a.add (k * 7)).block, (a.add (k * 7)).off + 4, none⟩ = some (.slice x.A1 x.is.length x.c1) ∧ u.cell? ⟨(a.add (k * 7)).block, (a.add (k * 7)).off + 5, none⟩ = some (.slice x.A2 x.fs.length x.c2) ∧ u.cell? ⟨(a.add (k * 7)).block, (a.add (k * 7)).off + 6, none⟩ = some (.slice x.A3 x.ms.length x.c3) ∧ u.cell? (b.add (k * 7)) = some (.string ⟨y.nm.toArray⟩) ∧ u.cell? ⟨(b.add (k * 7)).block, (b.add (k * 7)).off + 1, none⟩ = some (.string ⟨y.su.toArray⟩) ∧ u.cell? ⟨(b.add (k * 7)).block, (b.add (k * 7)).off + 2, none⟩ = some (.bool y.fc) ∧ u.cell? ⟨(b.add (k * 7)).block, (b.add (k * 7)).off + 3, none⟩ = some (.bool y.ab) ∧ u.cell? ⟨(b.add (k * 7)).block, (b.add (k * 7)).off + 4, none⟩ = some (.slice y.A1 y.is.length y.c1) ∧ u.cell? ⟨(b.add (k * 7)).block, (b.add (k * 7)).off + 5, none⟩ = some (.slice y.A2 y.fs.length y.c2) ∧ u.cell? ⟨(b.add (k * 7)).block, (b.add (k * 7)).off + 6, none⟩ = some (.slice y.A3 y.ms.length y.c3) from fun u hu => by
        obtain ⟨_, e1, _, p0, p1, p2, p3, p4, p5, p6⟩ := cl_at (HR1.out _ hu) hx
        obtain ⟨_, e2, _, r0, r1, r2, r3, r4, r5, r6⟩ := cl_at (HR2.out _ hu) hy
        cases e1; cases e2
        exact ⟨(HC.out _ hu).1, (HC.out _ hu).2, p0, p1, p2, p3, p4, p5, p6, r0, r1, r2, r3, r4, r5, r6⟩)
      have HS := Lib.hid (fun u (hu : Below wa.heap.size wa u) => rsameC x y u ((HX.out _ (HAL.out.trans ((Bwa.out.trans (hu.mono Bwa.out.size)).mono HAL.out.size))).2.2 x (List.mem_of_getElem? hx)) ((HY.out _ (HAL.out.trans ((Bwa.out.trans (hu.mono Bwa.out.size)).mono HAL.out.size))).2.2 y (List.mem_of_getElem? hy)) (HBX.out.1.2 x (List.mem_of_getElem? hx)) hp)
      dsimp only [clC] at HS
      clear s0 t0 s1 t1 s2 t2 s3 t3 s4 t4 s5 t5 s6 t6 g0 g1 hx hy hp ha hb hbw
      obtain ⟨g0, g1, s0, s1, s2, s3, s4, s5, s6, t0, t1, t2, t3, t4, t5, t6⟩ := HF.out _ Bwa.out
      go_wp2_with fail
      refine wp_region_held_drew (S := (fun w' => w'.cell? ⟨w.heap.size, 0, none⟩ = some (.slice (some a) n1 c1) ∧ w'.cell? ⟨w.heap.size + 1, 0, none⟩ = some (.slice (some b) n1 z1) ∧ w'.cell? (a.add (k * 7)) = some (.string ⟨x.nm.toArray⟩) ∧ w'.cell? ⟨(a.add (k * 7)).block, (a.add (k * 7)).off + 1, none⟩ = some (.string ⟨x.su.toArray⟩) ∧ w'.cell? ⟨(a.add (k * 7)).block, (a.add (k * 7)).off + 2, none⟩ = some (.bool x.fc) ∧ w'.cell? ⟨(a.add (k * 7)).block, (a.add (k * 7)).off + 3, none⟩ = some (.bool x.ab) ∧ w'.cell? ⟨(a.add (k * 7)).block, (a.add (k * 7)).off + 4, none⟩ = some (.slice x.A1 x.is.length x.c1) ∧ w'.cell? ⟨(a.add (k * 7)).block, (a.add (k * 7)).off + 5, none⟩ = some (.slice x.A2 x.fs.length x.c2) ∧ w'.cell? ⟨(a.add (k * 7)).block, (a.add (k * 7)).off + 6, none⟩ = some (.slice x.A3 x.ms.length x.c3) ∧ w'.cell? (b.add (k * 7)) = some (.string ⟨y.nm.toArray⟩) ∧ w'.cell? ⟨(b.add (k * 7)).block, (b.add (k * 7)).off + 1, none⟩ = some (.string ⟨y.su.toArray⟩) ∧ w'.cell? ⟨(b.add (k * 7)).block, (b.add (k * 7)).off + 2, none⟩ = some (.bool y.fc) ∧ w'.cell? ⟨(b.add (k * 7)).block, (b.add (k * 7)).off + 3, none⟩ = some (.bool y.ab) ∧ w'.cell? ⟨(b.add (k * 7)).block, (b.add (k * 7)).off + 4, none⟩ = some (.slice y.A1 y.is.length y.c1) ∧ w'.cell? ⟨(b.add (k * 7)).block, (b.add (k * 7)).off + 5, none⟩ = some (.slice y.A2 y.fs.length y.c2) ∧ w'.cell? ⟨(b.add (k * 7)).block, (b.add (k * 7)).off + 6, none⟩ = some (.slice y.A3 y.ms.length y.c3))) (by kernel_rfl) ?_ (fun hHeld => ?_)
      · exact HF.out wa Bwa.out
      refine tkv 0 rfl ?_
      try simp only [puts]
      refine tkv 1 rfl ?_
      try simp only [puts]
      refine tkv 2 rfl ?_
      try simp only [puts]
      refine tkv 3 rfl ?_
      try simp only [puts]
      refine tkv 4 rfl ?_
      try simp only [puts]
      refine tkv 5 rfl ?_
      try simp only [puts]
      refine tkv 6 rfl ?_
      try simp only [puts]
      refine tkv 7 rfl ?_
      try simp only [puts]
      refine tkv 8 rfl ?_
      try simp only [puts]
      refine tkv 9 rfl ?_
      try simp only [puts]
      refine wpAnyH_ready (rs := [10]) (by kernel_rfl) (by simp) (AllReadyH.cons rfl (fun K hK => ?_) AllReadyH.nil)
      go_simp
      refine (HS.out _ (by first | exact Below.refl _ _ | exact overD (Below.refl _ _))).mono ?_; rintro e u1 ⟨rfl, hb⟩; have B1 := Lib.hid (show Below W.heap.size W u1 from (by first | exact Bwa.out.trans (hb.mono Bwa.out.size) | exact Bwa.out.trans (Below.mono (under hb) Bwa.out.size))); clear hb; go_wp2_with fail
      refine hK.out _ _ (HF.out _ B1.out) (fun hHeld => ?_)
      clear hK K
      try simp only [puts]
      refine tkv 11 rfl ?_
      try simp only [puts]
      refine wpAnyH_done (by kernel_rfl) ?_ _
      clear g0 g1 s0 t0 s1 t1 s2 t2 s3 t3 s4 t4 s5 t5 s6 t6
      go_wp2
      go_roundw
      case rel => exact ⟨k + 1, by go_num, by omega, B1.out⟩
      case measure => simp [intOf]; omega
    · have hltI : ¬ (k : Int) < (n1 : Int) := by omega
      clear hbw hk hlt
      go_wp2_with fail
      go_loopw [6] (fun i wr => ∃ k : Nat, i = .int .i64 (k : Int) ∧ k ≤ n2 ∧ Below W.heap.size W wr) (fun i _ => n2 - (intOf i).toNat)
      case atStart => exact ⟨0, rfl, Nat.zero_le _, Bwa.out⟩
      case round =>
        obtain ⟨k, rfl, hk, hbw⟩ := hrel
        obtain ⟨wb, hwb⟩ : ∃ u, u = wr := ⟨_, rfl⟩
        subst hwb
        have Bwb := Lib.hid hbw
        obtain ⟨g0, g1⟩ := HCa.out _ hbw
        by_cases hlt : k < n2
        · have hltI : (k : Int) < (n2 : Int) := by omega
          obtain ⟨s, hs⟩ : ∃ s, ns'[k]? = some s := ⟨ns'[k]'(by rw [← HN2.out]; exact hlt), List.getElem?_eq_getElem _⟩
          obtain ⟨a, ea, ha, s0⟩ := (Ra1.out _ hbw).at_ (sx_get hs)
          obtain ⟨b, eb, hb, t0⟩ := (Ra2.out _ hbw).at_ (sx_get hs)
          subst ea
          subst eb
          have kk : (s == s) = true := by simp
          clear hs ha hb hbw
          go_wp2
          go_quiet (fail)
          go_wp2
          go_roundw
          case rel => exact ⟨k + 1, by go_num, by omega, over Bwb.out⟩
          case measure => simp [intOf]; omega
        · have hltI : ¬ (k : Int) < (n2 : Int) := by omega
          clear hbw
          go_wp2
          go_ret
          exact ⟨rfl, HAL.out.trans (Bwb.out.mono HAL.out.size)⟩
end Go.Proofs.YtjahilfapcljiaaGreatDoor.prg

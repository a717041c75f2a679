/-
 Through the layers: an object's code for a method is that of the first class, from its own one up, that declares it: walked through the program.
-/
import Derived.Test.YtokaecnhjdgjgaaFindH
namespace Go.Proofs.Ytokaecnhjdgjgaa.topNearest
open Go.RowKit
open words kindp opp op kind word prg sorts find

theorem overD {b : Nat} {a c : World} (h : Below b a c) : Below b a c.drew := ⟨h.os, h.tape, h.output, h.size, h.block⟩
theorem refV_two {o : Option Tx} {s d d1 d2 d3 : Tx} {ok : Bool} (h : refV o s d = .tuple #[.agg #[.string ⟨d1.toArray⟩, .string ⟨d2.toArray⟩, .string ⟨d3.toArray⟩], .bool ok]) : (o = none → ok = false) ∧ ∀ q, o = some q → ok = true ∧ d1 = q := by
  refine ⟨fun e => ?_, fun q e => ?_⟩
  · subst e
    simp only [refV, Value.tuple.injEq] at h
    simp at h
    first | exact h.2.symm | exact h.symm | simp_all
  · subst e
    simp only [refV] at h
    simp at h
    exact ⟨by simp_all, by simp_all⟩
theorem first_one {cs : List ClM} {s d nm : Tx} {c : ClM} {k : Nat} (h : firstM cs [nm] s d = some (c, k)) : c.nm = nm := by
  unfold firstM at h
  have h1 : oneM cs s d nm = some (c, k) := by simpa using h
  unfold oneM at h1
  cases hc : findC cs nm with
  | none => rw [hc] at h1; cases h1
  | some c' =>
    rw [hc] at h1; dsimp only at h1
    cases hd : declM c' s d with
    | none => rw [hd] at h1; cases h1
    | some k' =>
      rw [hd] at h1
      simp only [Option.some.injEq, Prod.mk.injEq] at h1
      obtain ⟨rfl, rfl⟩ := h1
      exact (findC_nm hc).1
theorem size_mex : (Try.prog.info? 48).map (·.size) = some 6 := by kernel_rfl
theorem one_mex (x : MeM) : ∀ v ∈ meC x, v.oneCell' = true := by
  intro v hv
  simp only [meC, List.mem_cons, List.not_mem_nil, or_false] at hv
  rcases hv with rfl | rfl | rfl | rfl | rfl | rfl <;> rfl
theorem there_new6 {u : World} {b : Nat} {T : TypeId} (h : u.heap[b]? = some (.cells #[.string ⟨#[]⟩, .string ⟨#[]⟩, .bool false, .bool false, .int .i64 0, .slice none 0 0] T (0, 0))) : u.there b 0 6 := fun j hj => by
  rw [Nat.zero_add]
  refine ⟨?_, frozen_of_row _ _ j _ _ h⟩
  match j, hj with
  | 0, _ => rw [show u.cell? ⟨b, 0, none⟩ = some (.string ⟨#[]⟩) from cell_of_row _ _ 0 _ _ _ h]; rfl
  | 1, _ => rw [show u.cell? ⟨b, 1, none⟩ = some (.string ⟨#[]⟩) from cell_of_row _ _ 1 _ _ _ h]; rfl
  | 2, _ => rw [show u.cell? ⟨b, 2, none⟩ = some (.bool false) from cell_of_row _ _ 2 _ _ _ h]; rfl
  | 3, _ => rw [show u.cell? ⟨b, 3, none⟩ = some (.bool false) from cell_of_row _ _ 3 _ _ _ h]; rfl
  | 4, _ => rw [show u.cell? ⟨b, 4, none⟩ = some (.int .i64 0) from cell_of_row _ _ 4 _ _ _ h]; rfl
  | 5, _ => rw [show u.cell? ⟨b, 5, none⟩ = some (.slice none 0 0) from cell_of_row _ _ 5 _ _ _ h]; rfl
theorem sets_new6 {u : World} {b : Nat} {T : TypeId} {cs : List Value} (hl : cs.length = 6) (h : u.heap[b]? = some (.cells #[.string ⟨#[]⟩, .string ⟨#[]⟩, .bool false, .bool false, .int .i64 0, .slice none 0 0] T (0, 0))) : (u.setCells b 0 cs).heap[b]? = some (.cells cs.toArray T (0, 0)) := by
  obtain ⟨a0, a1, a2, a3, a4, a5, rfl⟩ : ∃ a0 a1 a2 a3 a4 a5, cs = [a0, a1, a2, a3, a4, a5] := by
    match cs, hl with
    | [a0, a1, a2, a3, a4, a5], _ => exact ⟨a0, a1, a2, a3, a4, a5, rfl⟩
  have s0 := heap_setCell_same _ b 0 _ _ a0 h
  have s1 := heap_setCell_same _ b 1 _ _ a1 s0
  have s2 := heap_setCell_same _ b 2 _ _ a2 s1
  have s3 := heap_setCell_same _ b 3 _ _ a3 s2
  have s4 := heap_setCell_same _ b 4 _ _ a4 s3
  have s5 := heap_setCell_same _ b 5 _ _ a5 s4
  show (((((((u.setCell ⟨b, 0, none⟩ a0).setCell ⟨b, 1, none⟩ a1).setCell ⟨b, 2, none⟩ a2).setCell ⟨b, 3, none⟩ a3).setCell ⟨b, 4, none⟩ a4).setCell ⟨b, 5, none⟩ a5).heap[b]?) = _
  rw [s5]; simp
def clA : ClM := ⟨[65], [], false, false, [], none, 0, [], none, 0, [], none, 0⟩
def pA (b : Nat) : PrM := ⟨[clA], some ⟨b, 0, none⟩, 1, [], none, 0, [], [], []⟩
theorem pA_gr (b : Nat) : GrP (pA b) := by
  refine ⟨⟨by simp [pA], by simp [pA]⟩, fun y hy => ?_⟩
  unfold pA at hy
  dsimp only at hy
  rw [List.mem_singleton] at hy; subst hy
  exact ⟨⟨by simp [clA], by simp [clA], by simp [clA], by simp [clA], by simp [clA]⟩, fun y hy => by cases hy⟩

set_option maxRecDepth 100000 in
set_option maxHeartbeats 16000000 in
set_option linter.all false in
theorem walk (x : PrM) (a0 b0 c0 : Nat) (w : World) (hk : PrOk w x) (hb : PrBd x) (he : a0 < 256 ∧ b0 < 256 ∧ c0 < 256) : Calls Try.prog 6 #[.agg (prC x).toArray, .agg #[.int .u8 (a0 : Int), .int .u8 (b0 : Int), .int .u8 (c0 : Int)]] w fun e w' => e = .returned (.bool true) ∧ Below w.heap.size w w' := by
  obtain ⟨cs, xA1, xc1, xns, xA2, xc2, xec, xen, xed⟩ := x
  obtain ⟨n, hn⟩ : ∃ n, n = cs.length := ⟨_, rfl⟩
  obtain ⟨W, hW⟩ : ∃ W, W = (w.alloc (.cells (prC ⟨cs, xA1, xc1, xns, xA2, xc2, xec, xen, xed⟩).toArray 27)).alloc (.cells #[.int .u8 (a0 : Int), .int .u8 (b0 : Int), .int .u8 (c0 : Int)] 28) := ⟨_, rfl⟩
  have hal : Below w.heap.size w W := by rw [hW]; exact ((Below.refl _ w).alloc (Nat.le_refl _) _).alloc (by simp) _
  have hbi : W.heap[w.heap.size]? = some (.cells (prC ⟨cs, xA1, xc1, xns, xA2, xc2, xec, xen, xed⟩).toArray 27 (0, 0)) := by rw [hW]; exact (Below.heap_alloc _ _ _ (by simp)).trans (heap_alloc_new w _)
  have hbj : W.heap[w.heap.size + 1]? = some (.cells #[.int .u8 (a0 : Int), .int .u8 (b0 : Int), .int .u8 (c0 : Int)] 28 (0, 0)) := by
    have := heap_alloc_new (w.alloc (.cells (prC ⟨cs, xA1, xc1, xns, xA2, xc2, xec, xen, xed⟩).toArray 27)) (.cells #[.int .u8 (a0 : Int), .int .u8 (b0 : Int), .int .u8 (c0 : Int)] 28)
    rw [World.size_alloc] at this
    rw [hW]; exact this
  have HAL := Lib.hid hal
  have HCE := Lib.hid (show ∀ v : World, Below W.heap.size W v → (v.cell? ⟨w.heap.size, 0, none⟩ = some (.slice xA1 n xc1) ∧ v.cell? ⟨w.heap.size, 1, none⟩ = some (.slice xA2 xns.length xc2) ∧ v.cell? ⟨w.heap.size, 2, none⟩ = some (.string ⟨xec.toArray⟩) ∧ v.cell? ⟨w.heap.size, 3, none⟩ = some (.string ⟨xen.toArray⟩) ∧ v.cell? ⟨w.heap.size, 4, none⟩ = some (.string ⟨xed.toArray⟩)) ∧ (v.cell? ⟨w.heap.size + 1, 0, none⟩ = some (.int .u8 (a0 : Int)) ∧ v.cell? ⟨w.heap.size + 1, 1, none⟩ = some (.int .u8 (b0 : Int)) ∧ v.cell? ⟨w.heap.size + 1, 2, none⟩ = some (.int .u8 (c0 : Int))) from fun v hv => by
    rw [hn]
    exact ⟨pr_cells ((hv.block _ (blk_lt hbi)).trans hbi), cell_of_row _ _ 0 _ _ _ ((hv.block _ (blk_lt hbj)).trans hbj), cell_of_row _ _ 1 _ _ _ ((hv.block _ (blk_lt hbj)).trans hbj), cell_of_row _ _ 2 _ _ _ ((hv.block _ (blk_lt hbj)).trans hbj)⟩)
  have HKX := Lib.hid (fun v (hv : Below W.heap.size W v) => (hk.below hal).below hv)
  have HGR := Lib.hid (fun v (hv : Below W.heap.size W v) => great_w ⟨cs, xA1, xc1, xns, xA2, xc2, xec, xen, xed⟩ v ((hk.below hal).below hv) hb)
  have HE := Lib.hid he
  have HN := Lib.hid hn
  unfold prC at hW HGR ⊢
  try dsimp only at hW HGR ⊢
  rw [← hn] at hW HGR ⊢
  have HW := Lib.hid hW
  clear hal hbi hbj hW hk hb hn he
  go_enter Try.func6, Try.ntmps6
  go_wp2_with fail
  try simp only [World.size_alloc]
  rw [← HW.out]
  (try go_wp2_with fail)
  obtain ⟨V, hV⟩ : ∃ V, V = (W.alloc (.cells #[.string ⟨#[65]⟩, .string ⟨#[]⟩, .bool false, .bool false, .slice none 0 0, .slice none 0 0, .slice none 0 0] 42)) := ⟨_, rfl⟩
  have hws : W.heap.size = w.heap.size + 1 + 1 := by rw [HW.out]; simp
  have hbv : Below W.heap.size W V := by rw [hV]; exact (Below.refl _ _).alloc (Nat.le_refl _) _
  have k0 : V.heap[w.heap.size + 1 + 1]? = some (.cells #[.string ⟨#[65]⟩, .string ⟨#[]⟩, .bool false, .bool false, .slice none 0 0, .slice none 0 0, .slice none 0 0] 42 (0, 0)) := by rw [hV, ← hws]; exact heap_alloc_new W _
  have hok1 : PrOk V (pA (w.heap.size + 1 + 1)) := by
    refine ⟨⟨Nat.le_refl _, ?_⟩, ⟨Nat.zero_le _, Rd.nil _ _⟩, fun y hy => ?_⟩
    · unfold pA; dsimp only; rw [List.flatMap_cons, List.flatMap_nil, List.append_nil]; exact rd_blk k0 (k := 7) rfl
    · unfold pA at hy
      dsimp only at hy
      rw [List.mem_singleton] at hy; subst hy
      exact ⟨⟨Nat.zero_le _, Rd.nil _ _⟩, ⟨Nat.zero_le _, Rd.nil _ _⟩, ⟨Nat.zero_le _, Rd.nil _ _⟩, fun y hy => by cases hy⟩
  have HSA := Lib.hid (show Calls Try.prog 20 #[.agg #[.slice (some ⟨w.heap.size + 1 + 1, 0, none⟩) 1 1, .slice none 0 0, .string ⟨#[]⟩, .string ⟨#[]⟩, .string ⟨#[]⟩], .string ⟨#[65]⟩] V (SupP [clA] [65] V) from supers_w (pA (w.heap.size + 1 + 1)) [65] V hok1 (pA_gr _))
  rw [← hV]
  have HBV := Lib.hid hbv
  clear hbv k0 hok1 hV hws
  refine HSA.out.mono ?_
  rintro e v1 ⟨⟨A, c, rfl, -, -⟩, hb1⟩
  rw [show (supersL [clA] [65]).length = 1 from by decide +kernel]
  have K1 := Lib.hid (show Below W.heap.size W v1 from HBV.out.trans (hb1.mono HBV.out.size))
  clear hb1
  obtain ⟨⟨x0, x1, x2, x3, x4⟩, a1, a2, a3⟩ := HCE.out _ K1.out
  go_wp2_with fail
  clear x0 x1 x2 x3 x4 a1 a2 a3
  refine (HGR.out _ K1.out).mono ?_
  rintro e v2 ⟨g, rfl, hg, hb2⟩
  have K2 := Lib.hid (then' K1.out hb2)
  have HGA := Lib.hid hg
  clear hb2 hg
  obtain ⟨⟨x0, x1, x2, x3, x4⟩, a1, a2, a3⟩ := HCE.out _ K2.out
  cases g with
  | true =>
    go_wp2
    go_ret
    exact ⟨rfl, HAL.out.trans (K2.out.mono HAL.out.size)⟩
  | false =>
    have hgp := HGA.out (by first | rfl | trivial)
    have hn70 : n ≤ 70 := by rw [HN.out]; exact hgp.1.1
    have HGP := Lib.hid hgp
    by_cases hn0 : n = 0
    · have g0 : ((n : Int) == 0) = true := by rw [hn0]; rfl
      go_wp2
      go_ret
      exact ⟨rfl, HAL.out.trans (K2.out.mono HAL.out.size)⟩
    · have g0 : ((n : Int) == 0) = false := by rw [beq_eq_false_iff_ne]; omega
      obtain ⟨ha9, hb9, hc9⟩ := HE.out
      have hn0I : ¬ (n : Int) = 0 := by omega
      have hma : (a0 : Int).tmod (n : Int) = ((a0 % n : Nat) : Int) := rfl
      have hmb : (b0 : Int).tmod (n : Int) = ((b0 % n : Nat) : Int) := rfl
      have hwa : IntKind.i64.wrap (a0 : Int) = (a0 : Int) := IntWalk.i64_in _ (by omega)
      have hwb : IntKind.i64.wrap (b0 : Int) = (b0 : Int) := IntWalk.i64_in _ (by omega)
      have hwma : IntKind.i64.wrap ((a0 % n : Nat) : Int) = ((a0 % n : Nat) : Int) := IntWalk.i64_in _ (by have := Nat.mod_lt a0 (show 0 < n by omega); omega)
      have hwmb : IntKind.i64.wrap ((b0 % n : Nat) : Int) = ((b0 % n : Nat) : Int) := IntWalk.i64_in _ (by have := Nat.mod_lt b0 (show 0 < n by omega); omega)
      obtain ⟨k, hkk⟩ : ∃ k, k = a0 % n := ⟨_, rfl⟩
      obtain ⟨j, hjj⟩ : ∃ j, j = b0 % n := ⟨_, rfl⟩
      have hkn : k < n := by rw [hkk]; exact Nat.mod_lt _ (by omega)
      have hjn : j < n := by rw [hjj]; exact Nat.mod_lt _ (by omega)
      rw [← hkk] at hma hwma
      have hea : (a0 : Int) % (n : Int) = (k : Int) := by rw [hkk]; rfl
      have heb : (b0 : Int) % (n : Int) = (j : Int) := by rw [hjj]; rfl
      rw [← hjj] at hmb hwmb
      obtain ⟨y, hy⟩ : ∃ y, cs[k]? = some y := ⟨cs[k]'(by rw [← HN.out]; exact hkn), List.getElem?_eq_getElem _⟩
      obtain ⟨⟨znm, zsu, zfc, zab, zis, zA1, zc1, zfs, zA2, zc2, zms, zA3, zc3⟩, hz⟩ : ∃ z, cs[j]? = some z := ⟨cs[j]'(by rw [← HN.out]; exact hjn), List.getElem?_eq_getElem _⟩
      have hknI : (k : Int) < (n : Int) := by omega
      have hjnI : (j : Int) < (n : Int) := by omega
      have hk0I : (0 : Int) ≤ (k : Int) := by omega
      have hj0I : (0 : Int) ≤ (j : Int) := by omega
      have hrd := (HKX.out _ K2.out).1.2
      dsimp only at hrd
      obtain ⟨a, rfl, -, p0, p1, p2, p3, p4, p5, p6⟩ := cl_at hrd hy
      clear hgp
      clear hkk hjj ha9 hb9
      have hmx : Try.prog.follows .mixedOrders = true := by kernel_rfl
      go_wp2_with fail
      go_quiet (fail)
      obtain ⟨v3, hv3⟩ : ∃ v, v = v2.drewN nq := ⟨_, rfl⟩
      have K3 := Lib.hid (show Below W.heap.size W v3 from by rw [hv3]; exact over K2.out)
      have HYM := Lib.hid (List.mem_of_getElem? hy); have HZM := Lib.hid (List.mem_of_getElem? hz)
      have HS5 := Lib.hid (show ∀ u : World, Below W.heap.size W u → (fun w' => w'.cell? ⟨w.heap.size, 0, none⟩ = some (.slice (some a) n xc1) ∧ w'.cell? ⟨w.heap.size + 1, 0, none⟩ = some (.int .u8 (a0 : Int)) ∧ w'.cell? ⟨w.heap.size + 1, 1, none⟩ = some (.int .u8 (b0 : Int)) ∧ w'.cell? ⟨w.heap.size + 1, 2, none⟩ = some (.int .u8 (c0 : Int)) ∧ w'.cell? (a.add (j * 7)) = some (.string ⟨znm.toArray⟩) ∧ w'.cell? ⟨(a.add (j * 7)).block, (a.add (j * 7)).off + 1, none⟩ = some (.string ⟨zsu.toArray⟩) ∧ w'.cell? ⟨(a.add (j * 7)).block, (a.add (j * 7)).off + 2, none⟩ = some (.bool zfc) ∧ w'.cell? ⟨(a.add (j * 7)).block, (a.add (j * 7)).off + 3, none⟩ = some (.bool zab) ∧ w'.cell? ⟨(a.add (j * 7)).block, (a.add (j * 7)).off + 4, none⟩ = some (.slice zA1 zis.length zc1) ∧ w'.cell? ⟨(a.add (j * 7)).block, (a.add (j * 7)).off + 5, none⟩ = some (.slice zA2 zfs.length zc2) ∧ w'.cell? ⟨(a.add (j * 7)).block, (a.add (j * 7)).off + 6, none⟩ = some (.slice zA3 zms.length zc3)) u from fun u hu => by
        obtain ⟨⟨x0, -⟩, a1, a2, a3⟩ := HCE.out u hu
        obtain ⟨a', ea', -, q0, q1, q2, q3, q4, q5, q6⟩ := cl_at (HKX.out u hu).1.2 hz
        cases ea'
        exact ⟨x0, a1, a2, a3, q0, q1, q2, q3, q4, q5, q6⟩)
      rw [← hv3]
      clear p0 p1 p2 p3 p4 p5 p6 x0 x1 x2 x3 x4 a1 a2 a3 hy hz hrd hv3 hwa hma hwma hea
      go_wp2_with fail
      refine wp_region_held_drew (S := (fun w' => w'.cell? ⟨w.heap.size, 0, none⟩ = some (.slice (some a) n xc1) ∧ w'.cell? ⟨w.heap.size + 1, 0, none⟩ = some (.int .u8 (a0 : Int)) ∧ w'.cell? ⟨w.heap.size + 1, 1, none⟩ = some (.int .u8 (b0 : Int)) ∧ w'.cell? ⟨w.heap.size + 1, 2, none⟩ = some (.int .u8 (c0 : Int)) ∧ w'.cell? (a.add (j * 7)) = some (.string ⟨znm.toArray⟩) ∧ w'.cell? ⟨(a.add (j * 7)).block, (a.add (j * 7)).off + 1, none⟩ = some (.string ⟨zsu.toArray⟩) ∧ w'.cell? ⟨(a.add (j * 7)).block, (a.add (j * 7)).off + 2, none⟩ = some (.bool zfc) ∧ w'.cell? ⟨(a.add (j * 7)).block, (a.add (j * 7)).off + 3, none⟩ = some (.bool zab) ∧ w'.cell? ⟨(a.add (j * 7)).block, (a.add (j * 7)).off + 4, none⟩ = some (.slice zA1 zis.length zc1) ∧ w'.cell? ⟨(a.add (j * 7)).block, (a.add (j * 7)).off + 5, none⟩ = some (.slice zA2 zfs.length zc2) ∧ w'.cell? ⟨(a.add (j * 7)).block, (a.add (j * 7)).off + 6, none⟩ = some (.slice zA3 zms.length zc3))) (by kernel_rfl) ?_ (fun hHeld => ?_)
      · exact HS5.out _ ((overD K3.out))
      obtain ⟨u0, hu0⟩ : ∃ u, u = v3.drew := ⟨_, rfl⟩
      have HB0 := Lib.hid (show Below W.heap.size W u0 from by rw [hu0]; exact overD K3.out)
      rw [← hu0]
      have hS0 := HS5.out _ HB0.out
      clear hu0
      refine tkv 0 rfl ?_
      try simp only [puts]
      refine tkv 1 rfl ?_
      try simp only [puts]
      refine tkv 2 rfl ?_
      try simp only [puts]
      refine tkv 3 rfl ?_
      try simp only [puts]
      refine tkv 4 rfl ?_
      try simp only [puts]
      refine tkv 5 rfl ?_
      try simp only [puts]
      refine tkv 6 rfl ?_
      try simp only [puts]
      refine tkv 7 rfl ?_
      try simp only [puts]
      refine tkv 8 rfl ?_
      try simp only [puts]
      refine tkv 9 rfl ?_
      try simp only [puts]
      refine tkv 10 rfl ?_
      try simp only [puts]
      clear hS0
      refine wpAnyH_ready (rs := [11]) (by kernel_rfl) (by simp) (AllReadyH.cons rfl (fun K hK => ?_) AllReadyH.nil)
      go_simp
      obtain ⟨u1, hn1⟩ : ∃ v, v = u0.alloc (.cells #[.string ⟨#[]⟩, .string ⟨#[]⟩, .bool false, .bool false, .slice none 0 0, .slice none 0 0, .slice none 0 0] 42) := ⟨_, rfl⟩
      have hz1 : u1.heap[u0.heap.size]? = some (.cells #[.string ⟨#[]⟩, .string ⟨#[]⟩, .bool false, .bool false, .slice none 0 0, .slice none 0 0, .slice none 0 0] 42 (0, 0)) := by rw [hn1]; exact heap_alloc_new _ _
      have hb1 : Below W.heap.size W u1 := by rw [hn1]; exact HB0.out.alloc HB0.out.size _
      rw [← hn1]
      clear hn1
      have HB1 := Lib.hid hb1
      refine hK.out _ _ (HS5.out _ hb1) (fun hHeld => ?_)
      clear hK K
      try simp only [puts]
      have hge := HB0.out.size
      obtain ⟨bz, hbz⟩ : ∃ b, b = u0.heap.size := ⟨_, rfl⟩
      rw [← hbz] at hz1 hge ⊢
      have hgr := sets_grown u1 bz 0 (clC ⟨znm, zsu, zfc, zab, zis, zA1, zc1, zfs, zA2, zc2, zms, zA3, zc3⟩)
      obtain ⟨uF, huF⟩ : ∃ v, v = u1.setCells bz 0 (clC ⟨znm, zsu, zfc, zab, zis, zA1, zc1, zfs, zA2, zc2, zms, zA3, zc3⟩) := ⟨_, rfl⟩
      have hBF : Below W.heap.size W uF := by rw [huF]; exact hb1.grown hgr hb1.size (fun k hk => by cases hk; exact hge)
      have HU := Lib.hid (show uF.heap[bz]? = some (.cells (clC ⟨znm, zsu, zfc, zab, zis, zA1, zc1, zfs, zA2, zc2, zms, zA3, zc3⟩).toArray 42 (0, 0)) from by rw [huF]; exact sets_new rfl hz1)
      have HBF := Lib.hid hBF; have HUF := Lib.hid huF
      have HGZ := Lib.hid hge
      refine tst 12 bz 0 (clC ⟨znm, zsu, zfc, zab, zis, zA1, zc1, zfs, zA2, zc2, zms, zA3, zc3⟩) rfl rfl rfl rfl (there_new hz1) size_clx (one_clx _) (by rw [← huF]; exact HS5.out _ hBF) (fun _ => ?_)
      clear hz1 hge hb1 hgr hBF huF hbz
      rw [← HUF.out]
      try simp only [puts]
      refine wpAnyH_done (by kernel_rfl) ?_ _
      obtain ⟨q, hq⟩ : ∃ q, q = zms.length := ⟨_, rfl⟩
      have e6 : uF.cell? ⟨bz, 6, none⟩ = some (.slice zA3 q zc3) := by rw [hq]; exact cell_of_row _ _ 6 _ _ _ HU.out
      have hq40 : (q : Int) ≤ 40 := by have := (HGP.out.2 _ HZM.out).1.2.2.1; dsimp only at this; omega
      have HQ := Lib.hid hq
      clear hq
      by_cases hq0 : q = 0
      · have g1 : ((q : Int) == 0) = true := by rw [hq0]; rfl
        go_wp2
        go_ret
        exact ⟨rfl, HAL.out.trans (HBF.out.mono HAL.out.size)⟩
      · have g1 : ((q : Int) == 0) = false := by rw [beq_eq_false_iff_ne]; omega
        have hq0I : ¬ (q : Int) = 0 := by omega
        have hwc : IntKind.i64.wrap (c0 : Int) = (c0 : Int) := IntWalk.i64_in _ (by omega)
        have hwmc : IntKind.i64.wrap ((c0 % q : Nat) : Int) = ((c0 % q : Nat) : Int) := IntWalk.i64_in _ (by have := Nat.mod_lt c0 (show 0 < q by omega); omega)
        obtain ⟨l, hll⟩ : ∃ l, l = c0 % q := ⟨_, rfl⟩
        have hmc : (c0 : Int).tmod (q : Int) = (l : Int) := by rw [hll]; rfl
        have hec : (c0 : Int) % (q : Int) = (l : Int) := by rw [hll]; rfl
        have hlq : l < q := by rw [hll]; exact Nat.mod_lt _ (by omega)
        rw [← hll] at hwmc
        obtain ⟨m, hm⟩ : ∃ m, zms[l]? = some m := ⟨zms[l]'(by rw [← HQ.out]; exact hlq), List.getElem?_eq_getElem _⟩
        have hlqI : (l : Int) < (q : Int) := by omega
        have hl0I : (0 : Int) ≤ (l : Int) := by omega
        have hrm := ((HKX.out _ HBF.out).2.2 _ HZM.out).2.2.1.2
        dsimp only at hrm
        obtain ⟨a2, rfl, -⟩ := me_at hrm hm
        have HS8 := Lib.hid (show ∀ u : World, Below uF.heap.size uF u → (fun w' => w'.cell? ⟨bz, 6, none⟩ = some (.slice (some a2) q zc3) ∧ w'.cell? ⟨w.heap.size + 1, 0, none⟩ = some (.int .u8 (a0 : Int)) ∧ w'.cell? ⟨w.heap.size + 1, 1, none⟩ = some (.int .u8 (b0 : Int)) ∧ w'.cell? ⟨w.heap.size + 1, 2, none⟩ = some (.int .u8 (c0 : Int)) ∧ w'.cell? (a2.add (l * 6)) = some (.string ⟨m.nm.toArray⟩) ∧ w'.cell? ⟨(a2.add (l * 6)).block, (a2.add (l * 6)).off + 1, none⟩ = some (.string ⟨m.ds.toArray⟩) ∧ w'.cell? ⟨(a2.add (l * 6)).block, (a2.add (l * 6)).off + 2, none⟩ = some (.bool m.st) ∧ w'.cell? ⟨(a2.add (l * 6)).block, (a2.add (l * 6)).off + 3, none⟩ = some (.bool m.ab) ∧ w'.cell? ⟨(a2.add (l * 6)).block, (a2.add (l * 6)).off + 4, none⟩ = some (.int .i64 m.rg) ∧ w'.cell? ⟨(a2.add (l * 6)).block, (a2.add (l * 6)).off + 5, none⟩ = some (.slice m.A m.co.length m.c)) u from fun u hu => by
          have hwu := HBF.out.trans (hu.mono HBF.out.size)
          obtain ⟨-, a1, a2, a3⟩ := HCE.out u hwu
          obtain ⟨a', ea', -, m0, m1, m2, m3, m4, m5⟩ := me_at ((HKX.out u hwu).2.2 _ HZM.out).2.2.1.2 hm
          cases ea'
          exact ⟨(hu.cell (World.block_lt_of_cell? _ _ e6)).trans e6, a1, a2, a3, m0, m1, m2, m3, m4, m5⟩)
        have HMM := Lib.hid (List.mem_of_getElem? hm)
        clear hll hrm hm
        go_wp2_with fail
        refine wp_region_held_drew (S := (fun w' => w'.cell? ⟨bz, 6, none⟩ = some (.slice (some a2) q zc3) ∧ w'.cell? ⟨w.heap.size + 1, 0, none⟩ = some (.int .u8 (a0 : Int)) ∧ w'.cell? ⟨w.heap.size + 1, 1, none⟩ = some (.int .u8 (b0 : Int)) ∧ w'.cell? ⟨w.heap.size + 1, 2, none⟩ = some (.int .u8 (c0 : Int)) ∧ w'.cell? (a2.add (l * 6)) = some (.string ⟨m.nm.toArray⟩) ∧ w'.cell? ⟨(a2.add (l * 6)).block, (a2.add (l * 6)).off + 1, none⟩ = some (.string ⟨m.ds.toArray⟩) ∧ w'.cell? ⟨(a2.add (l * 6)).block, (a2.add (l * 6)).off + 2, none⟩ = some (.bool m.st) ∧ w'.cell? ⟨(a2.add (l * 6)).block, (a2.add (l * 6)).off + 3, none⟩ = some (.bool m.ab) ∧ w'.cell? ⟨(a2.add (l * 6)).block, (a2.add (l * 6)).off + 4, none⟩ = some (.int .i64 m.rg) ∧ w'.cell? ⟨(a2.add (l * 6)).block, (a2.add (l * 6)).off + 5, none⟩ = some (.slice m.A m.co.length m.c))) (by kernel_rfl) ?_ (fun hHeld => ?_)
        · exact HS8.out _ (overD (Below.refl _ _))
        obtain ⟨t0, ht0⟩ : ∃ u, u = uF.drew := ⟨_, rfl⟩
        have HT0 := Lib.hid (show Below uF.heap.size uF t0 from by rw [ht0]; exact overD (Below.refl _ _))
        rw [← ht0]
        have hS0 := HS8.out _ HT0.out
        clear ht0 e6
        refine tkv 0 rfl ?_
        try simp only [puts]
        refine tkv 1 rfl ?_
        try simp only [puts]
        refine tkv 2 rfl ?_
        try simp only [puts]
        refine tkv 3 rfl ?_
        try simp only [puts]
        refine tkv 4 rfl ?_
        try simp only [puts]
        refine tkv 5 rfl ?_
        try simp only [puts]
        refine tkv 6 rfl ?_
        try simp only [puts]
        refine tkv 7 rfl ?_
        try simp only [puts]
        refine tkv 8 rfl ?_
        try simp only [puts]
        refine tkv 9 rfl ?_
        try simp only [puts]
        refine tkv 10 rfl ?_
        try simp only [puts]
        clear hS0
        refine wpAnyH_ready (rs := [11]) (by kernel_rfl) (by simp) (AllReadyH.cons rfl (fun K hK => ?_) AllReadyH.nil)
        go_simp
        obtain ⟨t1, hn1⟩ : ∃ v, v = t0.alloc (.cells #[.string ⟨#[]⟩, .string ⟨#[]⟩, .bool false, .bool false, .int .i64 0, .slice none 0 0] 48) := ⟨_, rfl⟩
        have hz1 : t1.heap[t0.heap.size]? = some (.cells #[.string ⟨#[]⟩, .string ⟨#[]⟩, .bool false, .bool false, .int .i64 0, .slice none 0 0] 48 (0, 0)) := by rw [hn1]; exact heap_alloc_new _ _
        have hb1 : Below uF.heap.size uF t1 := by rw [hn1]; exact HT0.out.alloc HT0.out.size _
        rw [← hn1]
        clear hn1
        refine hK.out _ _ (HS8.out _ hb1) (fun hHeld => ?_)
        clear hK K
        try simp only [puts]
        have hge := HT0.out.size
        obtain ⟨bm, hbm⟩ : ∃ b, b = t0.heap.size := ⟨_, rfl⟩
        rw [← hbm] at hz1 hge ⊢
        have hgr := sets_grown t1 bm 0 (meC m)
        obtain ⟨tF, htF⟩ : ∃ v, v = t1.setCells bm 0 (meC m) := ⟨_, rfl⟩
        have hBT : Below uF.heap.size uF tF := by rw [htF]; exact hb1.grown hgr hb1.size (fun k hk => by cases hk; exact hge)
        have HM := Lib.hid (show tF.heap[bm]? = some (.cells (meC m).toArray 48 (0, 0)) from by rw [htF]; exact sets_new6 rfl hz1)
        have HTF := Lib.hid htF
        have HBT := Lib.hid (show Below W.heap.size W tF from HBF.out.trans (hBT.mono HBF.out.size))
        refine tst 12 bm 0 (meC m) rfl rfl rfl rfl (there_new6 hz1) size_mex (one_mex _) (by rw [← htF]; exact HS8.out _ hBT) (fun _ => ?_)
        clear hz1 hge hb1 hgr hBT htF hbm
        rw [← HTF.out]
        try simp only [puts]
        refine wpAnyH_done (by kernel_rfl) ?_ _
        obtain ⟨d1, d2, d3, ok, hv⟩ := refV_form (dispR cs y.nm m.nm m.ds) m.nm m.ds
        have HV := Lib.hid (refV_two hv)
        have HDI := Lib.hid (fun v (hu : Below W.heap.size W v) => dispatch_w ⟨cs, some a, xc1, xns, xA2, xc2, xec, xen, xed⟩ y.nm m.nm m.ds v (HKX.out v hu) HGP.out)
        have HSU := Lib.hid (fun v (hu : Below W.heap.size W v) => supers_w ⟨cs, some a, xc1, xns, xA2, xc2, xec, xen, xed⟩ y.nm v (HKX.out v hu) HGP.out)
        have HGE := Lib.hid (fun (sk : Tx) v (hu : Below W.heap.size W v) => get_w ⟨cs, some a, xc1, xns, xA2, xc2, xec, xen, xed⟩ sk m.nm m.ds v (HKX.out v hu) HGP.out)
        have HLL := Lib.hid (show (supersL cs y.nm).length ≤ 71 from by have := supers_len cs y.nm; have := HN.out; omega)
        have HDR := Lib.hid (show dispR cs y.nm m.nm m.ds = if (m.nm == clinit) = true then none else declR (fun m => !m.st && !m.ab) cs (supersL cs y.nm) m.nm m.ds from rfl)
        rw [show refV (dispR cs y.nm m.nm m.ds) m.nm m.ds = .tuple #[.agg #[.string ⟨d1.toArray⟩, .string ⟨d2.toArray⟩, .string ⟨d3.toArray⟩], .bool ok] from hv] at HDI
        obtain ⟨L, hL⟩ : ∃ L, L = supersL cs y.nm := ⟨_, rfl⟩
        unfold SupP at HSU
        rw [← hL] at HSU HLL HDR
        unfold prC at HDI HSU HGE
        dsimp only at HDI HSU HGE
        rw [← HN.out] at HDI HSU HGE
        obtain ⟨n0, n1, n2, n3, n4, n5⟩ := me_cells HM.out
        obtain ⟨⟨x0, x1, x2, x3, x4⟩, -⟩ := HCE.out _ HBT.out
        clear hv hL
        go_wp2_with fail
        refine (HDI.out _ HBT.out).mono ?_
        rintro e v6 ⟨rfl, hb6⟩
        have k6 : Below W.heap.size W v6 := HBT.out.trans (hb6.mono HBT.out.size)
        obtain ⟨V7, hV7⟩ : ∃ V, V = v6.alloc (.cells #[.string ⟨d1.toArray⟩, .string ⟨d2.toArray⟩, .string ⟨d3.toArray⟩] 25) := ⟨_, rfl⟩
        have b7 : Below v6.heap.size v6 V7 := by rw [hV7]; exact (Below.refl _ _).alloc (Nat.le_refl _) _
        have K7 := Lib.hid (show Below W.heap.size W V7 from k6.trans (b7.mono k6.size))
        have HR7 := Lib.hid (show V7.heap[v6.heap.size]? = some (.cells #[.string ⟨d1.toArray⟩, .string ⟨d2.toArray⟩, .string ⟨d3.toArray⟩] 25 (0, 0)) from by rw [hV7]; exact heap_alloc_new _ _)
        have HM7 := Lib.hid (show V7.heap[bm]? = some (.cells (meC m).toArray 48 (0, 0)) from (b7.block _ (Nat.lt_of_lt_of_le (blk_lt HM.out) hb6.size)).trans ((hb6.block _ (blk_lt HM.out)).trans HM.out))
        clear x0 x1 x2 x3 x4 n0 n1 n2 n3 n4 n5
        obtain ⟨⟨x0, x1, x2, x3, x4⟩, -⟩ := HCE.out _ K7.out
        have f0 := x0; have f1 := x1; have f2 := x2; have f3 := x3; have f4 := x4
        rw [hV7] at f0 f1 f2 f3 f4
        have HV7 := Lib.hid hV7
        clear hV7 b7 k6 hb6
        go_wp2_with fail
        rw [← HV7.out]
        clear f0 f1 f2 f3 f4
        (try go_wp2_with fail)
        clear x0 x1 x2 x3 x4
        refine (HSU.out _ K7.out).mono ?_
        rintro e v8 ⟨⟨A8, c8, rfl, hc8, hr8⟩, hb8⟩
        have K8 := Lib.hid (show Below W.heap.size W v8 from K7.out.trans (hb8.mono K7.out.size))
        have HR8 := Lib.hid ((hb8.block _ (blk_lt HR7.out)).trans HR7.out)
        have HM8 := Lib.hid ((hb8.block _ (blk_lt HM7.out)).trans HM7.out)
        have HRL := Lib.hid hr8
        obtain ⟨len, hlen⟩ : ∃ k, k = L.length := ⟨_, rfl⟩
        rw [← hlen] at HLL ⊢
        have HLN := Lib.hid hlen
        have hlenI : (len : Int) ≤ 71 := by have := HLL.out; omega
        clear hr8 hb8 hc8 hlen
        go_wp2_with fail
        go_loopw [12] (fun i wr => ∃ k : Nat, i = .int .i64 (k : Int) ∧ k ≤ len ∧ firstM cs (L.take k) m.nm m.ds = none ∧ Below v8.heap.size v8 wr) (fun i _ => len - (intOf i).toNat)
        case atStart => exact ⟨0, rfl, Nat.zero_le _, rfl, Below.refl _ _⟩
        case round =>
          obtain ⟨k, rfl, hkl, hfn, hbw⟩ := hrel
          obtain ⟨wa, hwa⟩ : ∃ u, u = wr := ⟨_, rfl⟩
          subst hwa
          have HFN := Lib.hid hfn
          have HW9 := Lib.hid hbw
          have HK9 := Lib.hid (show Below W.heap.size W wa from K8.out.trans (hbw.mono K8.out.size))
          clear hfn
          by_cases hlt : k < len
          · have hltI : (k : Int) < (len : Int) := by omega
            have hk0 : (0 : Int) ≤ (k : Int) := by omega
            obtain ⟨sk, hsk⟩ : ∃ sk, L[k]? = some sk := ⟨L[k]'(by rw [← HLN.out]; exact hlt), List.getElem?_eq_getElem _⟩
            obtain ⟨a8, rfl, -, -⟩ := HRL.out.at_ (sx_get hsk)
            have HS4 := Lib.hid (show ∀ u : World, Below wa.heap.size wa u → (fun w' => w'.cell? ⟨w.heap.size, 0, none⟩ = some (.slice (some a) n xc1) ∧ w'.cell? ⟨w.heap.size, 1, none⟩ = some (.slice xA2 xns.length xc2) ∧ w'.cell? ⟨w.heap.size, 2, none⟩ = some (.string ⟨xec.toArray⟩) ∧ w'.cell? ⟨w.heap.size, 3, none⟩ = some (.string ⟨xen.toArray⟩) ∧ w'.cell? ⟨w.heap.size, 4, none⟩ = some (.string ⟨xed.toArray⟩) ∧ w'.cell? ⟨bm, 0, none⟩ = some (.string ⟨m.nm.toArray⟩) ∧ w'.cell? ⟨bm, 1, none⟩ = some (.string ⟨m.ds.toArray⟩) ∧ w'.cell? (a8.add k) = some (.string ⟨sk.toArray⟩)) u from fun u hu => by
              have h8 := hbw.trans (hu.mono hbw.size)
              obtain ⟨⟨x0, x1, x2, x3, x4⟩, -⟩ := HCE.out u (K8.out.trans (h8.mono K8.out.size))
              obtain ⟨n0, n1, -⟩ := me_cells ((h8.block _ (blk_lt HM8.out)).trans HM8.out)
              obtain ⟨a', e', -, r0⟩ := (HRL.out.below h8).at_ (sx_get hsk)
              cases e'
              exact ⟨x0, x1, x2, x3, x4, n0, n1, r0⟩)
            have HTK := Lib.hid (show L.take (k + 1) = L.take k ++ [sk] from by rw [List.take_add_one, hsk]; rfl)
            have HPR := Lib.hid (show L.take k ++ [sk] <+: L from by rw [← HTK.out]; exact List.take_prefix _ _)
            clear hsk hbw
            go_wp2_with fail
            refine wp_region_held_drew (S := (fun w' => w'.cell? ⟨w.heap.size, 0, none⟩ = some (.slice (some a) n xc1) ∧ w'.cell? ⟨w.heap.size, 1, none⟩ = some (.slice xA2 xns.length xc2) ∧ w'.cell? ⟨w.heap.size, 2, none⟩ = some (.string ⟨xec.toArray⟩) ∧ w'.cell? ⟨w.heap.size, 3, none⟩ = some (.string ⟨xen.toArray⟩) ∧ w'.cell? ⟨w.heap.size, 4, none⟩ = some (.string ⟨xed.toArray⟩) ∧ w'.cell? ⟨bm, 0, none⟩ = some (.string ⟨m.nm.toArray⟩) ∧ w'.cell? ⟨bm, 1, none⟩ = some (.string ⟨m.ds.toArray⟩) ∧ w'.cell? (a8.add k) = some (.string ⟨sk.toArray⟩))) (by kernel_rfl) ?_ (fun hHeld => ?_)
            · exact HS4.out _ (overD (Below.refl _ _))
            obtain ⟨r0, hr0⟩ : ∃ u, u = wa.drew := ⟨_, rfl⟩
            have HB9 := Lib.hid (show Below wa.heap.size wa r0 from by rw [hr0]; exact overD (Below.refl _ _))
            rw [← hr0]
            have hS0 := HS4.out _ HB9.out
            clear hr0
            refine tkv 0 rfl ?_
            try simp only [puts]
            refine tkv 1 rfl ?_
            try simp only [puts]
            refine tkv 2 rfl ?_
            try simp only [puts]
            refine tkv 3 rfl ?_
            try simp only [puts]
            refine tkv 4 rfl ?_
            try simp only [puts]
            refine tkv 5 rfl ?_
            try simp only [puts]
            refine tkv 6 rfl ?_
            try simp only [puts]
            refine tkv 7 rfl ?_
            try simp only [puts]
            refine tkv 8 rfl ?_
            try simp only [puts]
            refine tkv 9 rfl ?_
            try simp only [puts]
            clear hS0
            refine wpAnyH_ready (rs := [10, 14]) (by kernel_rfl) (by simp) (AllReadyH.cons rfl (fun K hK => ?_) (AllReadyH.cons rfl (fun K hK => ?_) AllReadyH.nil))
            · go_simp
              refine (HGE.out sk _ (HK9.out.trans (HB9.out.mono HK9.out.size))).mono ?_
              rintro e r1 ⟨⟨r, ok', rfl, hgr⟩, hb⟩
              dsimp only [meC]
              have HGR9 := Lib.hid hgr
              have Hr1 := Lib.hid (show Below wa.heap.size wa r1 from HB9.out.trans ((show Below r0.heap.size r0 r1 from ⟨hb.os, hb.tape, hb.output, hb.size, hb.block⟩).mono HB9.out.size))
              have HLr1 := Lib.hid (show Below r0.heap.size r0 r1 from ⟨hb.os, hb.tape, hb.output, hb.size, hb.block⟩)
              clear hb hgr
              go_wp2_with fail
              refine hK.out _ _ (HS4.out _ Hr1.out) (fun hHeld => ?_)
              clear hK K
              try simp only [puts]
              have hS1 := HS4.out _ Hr1.out
              refine tkv 11 rfl ?_
              try simp only [puts]
              refine tkv 12 rfl ?_
              try simp only [puts]
              refine tkv 13 rfl ?_
              try simp only [puts]
              clear hS1
              refine wpAnyH_ready (rs := [14]) (by kernel_rfl) (by simp) (AllReadyH.cons rfl (fun K hK => ?_) AllReadyH.nil)
              go_simp
              obtain ⟨r2, hn1⟩ : ∃ v, v = r1.alloc (.cells #[.string ⟨#[]⟩, .string ⟨#[]⟩, .bool false, .bool false, .int .i64 0, .slice none 0 0] 48) := ⟨_, rfl⟩
              have hz1 : r2.heap[r1.heap.size]? = some (.cells #[.string ⟨#[]⟩, .string ⟨#[]⟩, .bool false, .bool false, .int .i64 0, .slice none 0 0] 48 (0, 0)) := by rw [hn1]; exact heap_alloc_new _ _
              have hb1 : Below wa.heap.size wa r2 := by rw [hn1]; exact Hr1.out.alloc Hr1.out.size _
              rw [← hn1]
              clear hn1
              have HZ1 := Lib.hid hz1
              have Hr2 := Lib.hid hb1
              have HGE1 := Lib.hid (show wa.heap.size ≤ r1.heap.size from Hr1.out.size)
              clear hz1 hb1
              refine hK.out _ _ (HS4.out _ Hr2.out) (fun hHeld => ?_)
              clear hK K
              try simp only [puts]
              have hz2 : r2.heap[r1.heap.size]? = some (.cells #[.string ⟨#[]⟩, .string ⟨#[]⟩, .bool false, .bool false, .int .i64 0, .slice none 0 0] 48 (0, 0)) := HZ1.out
              have hgr := sets_grown r2 (r1.heap.size) 0 (meC r)
              obtain ⟨rF, hrF⟩ : ∃ v, v = r2.setCells (r1.heap.size) 0 (meC r) := ⟨_, rfl⟩
              have hBR : Below wa.heap.size wa rF := by rw [hrF]; exact Hr2.out.grown hgr Hr2.out.size (fun k hk => by cases hk; exact HGE1.out)
              have HRR := Lib.hid (show rF.heap[r1.heap.size]? = some (.cells (meC r).toArray 48 (0, 0)) from by rw [hrF]; exact sets_new6 rfl hz2)
              have HRF := Lib.hid hrF
              have HBR := Lib.hid hBR
              refine tst 15 (r1.heap.size) 0 (meC r) rfl rfl rfl rfl (there_new6 hz2) size_mex (one_mex _) (by rw [← hrF]; exact HS4.out _ hBR) (fun _ => ?_)
              clear hz2 hgr hBR hrF
              rw [← HRF.out]
              try simp only [puts]
              have hS2 := HS4.out _ HBR.out
              refine tkv 16 rfl ?_
              try simp only [puts]
              clear hS2
              refine wpAnyH_done (by kernel_rfl) ?_ _
              have hg9 := HGR9.out
              unfold GetR at hg9
              cases hf : firstM cs [sk] m.nm m.ds with
              | none =>
                rw [hf] at hg9
                obtain ⟨rfl, -⟩ := hg9
                have HNX := Lib.hid (show firstM cs (L.take (k + 1)) m.nm m.ds = none from by
                  rw [HTK.out, firstM_snoc _ _ _ _ _ HFN.out]
                  have h1 := hf
                  unfold firstM at h1
                  simpa using h1)
                clear hf
                go_wp2
                go_roundw
                case rel => exact ⟨k + 1, by go_num, by omega, HNX.out, HW9.out.trans (HBR.out.mono HW9.out.size)⟩
                case measure => simp [intOf]; omega
              | some cj =>
                obtain ⟨c9, j9⟩ := cj
                rw [hf] at hg9
                obtain ⟨rfl, m', hm', hpm⟩ := hg9
                have hfl : firstM cs L m.nm m.ds = some (c9, j9) := firstM_pre HPR.out (by
                  rw [firstM_snoc _ _ _ _ _ HFN.out]
                  have h1 := hf
                  unfold firstM at h1
                  simpa using h1)
                have hcn : c9.nm = sk := first_one hf
                have hst' : r.st = m'.st := congrArg MeP.st hpm
                have hab' : r.ab = m'.ab := congrArg MeP.ab hpm
                have hde : declR (fun m => !m.st && !m.ab) cs L m.nm m.ds = if (!r.st && !r.ab) = true then some sk else none := by
                  unfold declR; rw [hfl]; dsimp only; rw [hm']; dsimp only; rw [hst', hab', hcn]
                obtain ⟨n0, n1, n2, n3, n4, n5⟩ := me_cells HRR.out
                have h8r := HW9.out.trans (HBR.out.mono HW9.out.size)
                obtain ⟨y0, y1, -⟩ := me_cells ((h8r.block _ (blk_lt HM8.out)).trans HM8.out)
                have d0 : rF.cell? ⟨v6.heap.size, 0, none⟩ = some (.string ⟨d1.toArray⟩) := cell_of_row _ _ 0 _ _ _ ((h8r.block _ (blk_lt HR8.out)).trans HR8.out)
                obtain ⟨-, -, -, -, -, -, -, l0⟩ := HS4.out _ HBR.out
                have HDE := Lib.hid hde
                have HZZ := Lib.hid (show Below w.heap.size w rF from HAL.out.trans ((K8.out.trans (h8r.mono K8.out.size)).mono HAL.out.size))
                clear hf hm' hpm hfl hcn hst' hab' hde h8r
                have hst : ∃ b, b = r.st := ⟨_, rfl⟩
                have hab : ∃ b, b = r.ab := ⟨_, rfl⟩
                obtain ⟨bs, hbs⟩ := hst
                obtain ⟨ba, hba⟩ := hab
                rw [← hbs, ← hba] at HDE
                rw [← hbs] at n2
                rw [← hba] at n3
                clear hbs hba
                cases hcl : (m.nm == clinit) with
                | true =>
                  have hne : (m.nm == [60, 99, 108, 105, 110, 105, 116, 62]) = true := hcl
                  have hok : ok = false := HV.out.1 (by rw [HDR.out, if_pos hcl])
                  subst hok
                  cases bs <;> cases ba <;> (go_wp2_with fail; go_quiet (fail); go_wp2; go_ret; exact ⟨rfl, over HZZ.out⟩)
                | false =>
                  have hne : (m.nm == [60, 99, 108, 105, 110, 105, 116, 62]) = false := hcl
                  have HDD := Lib.hid (show dispR cs y.nm m.nm m.ds = declR (fun m => !m.st && !m.ab) cs L m.nm m.ds from by rw [HDR.out, if_neg (by rw [hcl]; simp)])
                  cases bs with
                  | true =>
                    have hok : ok = false := HV.out.1 (by rw [HDD.out, HDE.out]; rfl)
                    subst hok
                    cases ba <;> (go_wp2_with fail; go_quiet (fail); go_wp2; go_ret; exact ⟨rfl, over HZZ.out⟩)
                  | false =>
                    cases ba with
                    | true =>
                      have hok : ok = false := HV.out.1 (by rw [HDD.out, HDE.out]; rfl)
                      subst hok
                      (go_wp2_with fail; go_quiet (fail); go_wp2; go_ret; exact ⟨rfl, over HZZ.out⟩)
                    | false =>
                      obtain ⟨hok, hd1⟩ := HV.out.2 sk (by rw [HDD.out, HDE.out]; rfl)
                      subst hok
                      subst hd1
                      (go_wp2_with fail; go_quiet (fail); go_wp2; go_ret; exact ⟨rfl, over HZZ.out⟩)
            · go_simp
              obtain ⟨r1, hn1⟩ : ∃ v, v = r0.alloc (.cells #[.string ⟨#[]⟩, .string ⟨#[]⟩, .bool false, .bool false, .int .i64 0, .slice none 0 0] 48) := ⟨_, rfl⟩
              have hz1 : r1.heap[r0.heap.size]? = some (.cells #[.string ⟨#[]⟩, .string ⟨#[]⟩, .bool false, .bool false, .int .i64 0, .slice none 0 0] 48 (0, 0)) := by rw [hn1]; exact heap_alloc_new _ _
              have hb1 : Below wa.heap.size wa r1 := by rw [hn1]; exact HB9.out.alloc HB9.out.size _
              rw [← hn1]
              clear hn1
              have HZ1 := Lib.hid hz1
              have Hr1 := Lib.hid hb1
              have HGE1 := Lib.hid (show wa.heap.size ≤ r0.heap.size from HB9.out.size)
              clear hz1 hb1
              refine hK.out _ _ (HS4.out _ Hr1.out) (fun hHeld => ?_)
              clear hK K
              try simp only [puts]
              refine wpAnyH_ready (rs := [10]) (by kernel_rfl) (by simp) (AllReadyH.cons rfl (fun K hK => ?_) AllReadyH.nil)
              go_simp
              refine (HGE.out sk _ (HK9.out.trans (Hr1.out.mono HK9.out.size))).mono ?_
              rintro e r2 ⟨⟨r, ok', rfl, hgr⟩, hb⟩
              dsimp only [meC]
              have HGR9 := Lib.hid hgr
              have Hr2 := Lib.hid (show Below wa.heap.size wa r2 from Hr1.out.trans ((show Below r1.heap.size r1 r2 from ⟨hb.os, hb.tape, hb.output, hb.size, hb.block⟩).mono Hr1.out.size))
              have HLr2 := Lib.hid (show Below r1.heap.size r1 r2 from ⟨hb.os, hb.tape, hb.output, hb.size, hb.block⟩)
              clear hb hgr
              go_wp2_with fail
              refine hK.out _ _ (HS4.out _ Hr2.out) (fun hHeld => ?_)
              clear hK K
              try simp only [puts]
              have hS1 := HS4.out _ Hr2.out
              refine tkv 11 rfl ?_
              try simp only [puts]
              refine tkv 12 rfl ?_
              try simp only [puts]
              refine tkv 13 rfl ?_
              try simp only [puts]
              clear hS1
              have hz2 : r2.heap[r0.heap.size]? = some (.cells #[.string ⟨#[]⟩, .string ⟨#[]⟩, .bool false, .bool false, .int .i64 0, .slice none 0 0] 48 (0, 0)) := (HLr2.out.block _ (blk_lt HZ1.out)).trans HZ1.out
              have hgr := sets_grown r2 (r0.heap.size) 0 (meC r)
              obtain ⟨rF, hrF⟩ : ∃ v, v = r2.setCells (r0.heap.size) 0 (meC r) := ⟨_, rfl⟩
              have hBR : Below wa.heap.size wa rF := by rw [hrF]; exact Hr2.out.grown hgr Hr2.out.size (fun k hk => by cases hk; exact HGE1.out)
              have HRR := Lib.hid (show rF.heap[r0.heap.size]? = some (.cells (meC r).toArray 48 (0, 0)) from by rw [hrF]; exact sets_new6 rfl hz2)
              have HRF := Lib.hid hrF
              have HBR := Lib.hid hBR
              refine tst 15 (r0.heap.size) 0 (meC r) rfl rfl rfl rfl (there_new6 hz2) size_mex (one_mex _) (by rw [← hrF]; exact HS4.out _ hBR) (fun _ => ?_)
              clear hz2 hgr hBR hrF
              rw [← HRF.out]
              try simp only [puts]
              have hS2 := HS4.out _ HBR.out
              refine tkv 16 rfl ?_
              try simp only [puts]
              clear hS2
              refine wpAnyH_done (by kernel_rfl) ?_ _
              have hg9 := HGR9.out
              unfold GetR at hg9
              cases hf : firstM cs [sk] m.nm m.ds with
              | none =>
                rw [hf] at hg9
                obtain ⟨rfl, -⟩ := hg9
                have HNX := Lib.hid (show firstM cs (L.take (k + 1)) m.nm m.ds = none from by
                  rw [HTK.out, firstM_snoc _ _ _ _ _ HFN.out]
                  have h1 := hf
                  unfold firstM at h1
                  simpa using h1)
                clear hf
                go_wp2
                go_roundw
                case rel => exact ⟨k + 1, by go_num, by omega, HNX.out, HW9.out.trans (HBR.out.mono HW9.out.size)⟩
                case measure => simp [intOf]; omega
              | some cj =>
                obtain ⟨c9, j9⟩ := cj
                rw [hf] at hg9
                obtain ⟨rfl, m', hm', hpm⟩ := hg9
                have hfl : firstM cs L m.nm m.ds = some (c9, j9) := firstM_pre HPR.out (by
                  rw [firstM_snoc _ _ _ _ _ HFN.out]
                  have h1 := hf
                  unfold firstM at h1
                  simpa using h1)
                have hcn : c9.nm = sk := first_one hf
                have hst' : r.st = m'.st := congrArg MeP.st hpm
                have hab' : r.ab = m'.ab := congrArg MeP.ab hpm
                have hde : declR (fun m => !m.st && !m.ab) cs L m.nm m.ds = if (!r.st && !r.ab) = true then some sk else none := by
                  unfold declR; rw [hfl]; dsimp only; rw [hm']; dsimp only; rw [hst', hab', hcn]
                obtain ⟨n0, n1, n2, n3, n4, n5⟩ := me_cells HRR.out
                have h8r := HW9.out.trans (HBR.out.mono HW9.out.size)
                obtain ⟨y0, y1, -⟩ := me_cells ((h8r.block _ (blk_lt HM8.out)).trans HM8.out)
                have d0 : rF.cell? ⟨v6.heap.size, 0, none⟩ = some (.string ⟨d1.toArray⟩) := cell_of_row _ _ 0 _ _ _ ((h8r.block _ (blk_lt HR8.out)).trans HR8.out)
                obtain ⟨-, -, -, -, -, -, -, l0⟩ := HS4.out _ HBR.out
                have HDE := Lib.hid hde
                have HZZ := Lib.hid (show Below w.heap.size w rF from HAL.out.trans ((K8.out.trans (h8r.mono K8.out.size)).mono HAL.out.size))
                clear hf hm' hpm hfl hcn hst' hab' hde h8r
                have hst : ∃ b, b = r.st := ⟨_, rfl⟩
                have hab : ∃ b, b = r.ab := ⟨_, rfl⟩
                obtain ⟨bs, hbs⟩ := hst
                obtain ⟨ba, hba⟩ := hab
                rw [← hbs, ← hba] at HDE
                rw [← hbs] at n2
                rw [← hba] at n3
                clear hbs hba
                cases hcl : (m.nm == clinit) with
                | true =>
                  have hne : (m.nm == [60, 99, 108, 105, 110, 105, 116, 62]) = true := hcl
                  have hok : ok = false := HV.out.1 (by rw [HDR.out, if_pos hcl])
                  subst hok
                  cases bs <;> cases ba <;> (go_wp2_with fail; go_quiet (fail); go_wp2; go_ret; exact ⟨rfl, over HZZ.out⟩)
                | false =>
                  have hne : (m.nm == [60, 99, 108, 105, 110, 105, 116, 62]) = false := hcl
                  have HDD := Lib.hid (show dispR cs y.nm m.nm m.ds = declR (fun m => !m.st && !m.ab) cs L m.nm m.ds from by rw [HDR.out, if_neg (by rw [hcl]; simp)])
                  cases bs with
                  | true =>
                    have hok : ok = false := HV.out.1 (by rw [HDD.out, HDE.out]; rfl)
                    subst hok
                    cases ba <;> (go_wp2_with fail; go_quiet (fail); go_wp2; go_ret; exact ⟨rfl, over HZZ.out⟩)
                  | false =>
                    cases ba with
                    | true =>
                      have hok : ok = false := HV.out.1 (by rw [HDD.out, HDE.out]; rfl)
                      subst hok
                      (go_wp2_with fail; go_quiet (fail); go_wp2; go_ret; exact ⟨rfl, over HZZ.out⟩)
                    | false =>
                      obtain ⟨hok, hd1⟩ := HV.out.2 sk (by rw [HDD.out, HDE.out]; rfl)
                      subst hok
                      subst hd1
                      (go_wp2_with fail; go_quiet (fail); go_wp2; go_ret; exact ⟨rfl, over HZZ.out⟩)
          · obtain rfl : k = len := by omega
            have hltI : ¬ (k : Int) < (k : Int) := by omega
            have HOK := Lib.hid (show ok = false from by
              refine HV.out.1 ?_
              rw [HDR.out]
              have h0 := HFN.out
              rw [List.take_of_length_le (by rw [HLN.out]; exact Nat.le_refl _)] at h0
              split
              · rfl
              · unfold declR; rw [h0])
            clear hbw
            obtain rfl := HOK.out
            go_wp2
            go_ret
            exact ⟨rfl, HAL.out.trans (HK9.out.mono HAL.out.size)⟩
end Go.Proofs.Ytokaecnhjdgjgaa.topNearest


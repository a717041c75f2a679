/-
  Layer 6: a reading that gives up is caught, and comes to ErrForm; the type of a text; lists of types, cell by cell.
-/
import Derived.Test.YtdenpefihplnoaaKindA
/- Layer 6: a reading that gives up is caught, and comes to ErrForm; the type of a text. -/
namespace Go.Proofs.Ytdenpefihplnoaa.kind
open Go.RowKit
open Go.Proofs.Ytdenpefihplnoaa.words Go.Proofs.Ytdenpefihplnoaa.kindp Go.Proofs.Ytdenpefihplnoaa.word Go.Proofs.Ytdenpefihplnoaa.rdr

set_option maxRecDepth 100000 in
set_option maxHeartbeats 400000 in
theorem idle_t (g : Nat) (w : World) :
    CallsD Try.prog 42 #[.pointer (some ⟨g, 0, none⟩)] .returning w fun e u' w' => e = .returned (.tuple #[]) ∧ u' = .returning ∧ w' = w := by
  refine callsD_of_wpS Try.func42 rfl fun c₀ cs hu => ?_
  simp only [Try.ntmps42, List.size_toArray, List.length_cons, List.length_nil, Nat.reduceAdd, Nat.reduceSub, Array.replicate_succ,
     Array.replicate_zero, List.push_toArray, List.append_toArray, List.nil_append, List.cons_append]
  apply wpS_seq
  apply wpS_region
  simp [wpOpsS, go_sem, recoverD, hu, Exit.thenS]
  refine wpS_of_wp ?_
  have hnn : ∀ w : World, (binOp .eql 20 .nilIface .nilIface).run Try.prog w = .ok (.bool true) w := fun _ => by kernel_rfl
  go_wp2
  cases c₀
  simp only at hu
  subst hu
  exact ⟨rfl, _, rfl, _, results_none rfl _ _ _, rfl, rfl, rfl⟩

/-- what the caught failure leaves -/
def Caught (g : Nat) (t : TypeId) (w : World) (e : Ending) (u' : FrameMode) (w' : World) : Prop :=
  e = .returned (.tuple #[]) ∧ u' = .panicking [{ v := noV, recovered := true }] ∧ w'.heap[g]? = some (.cells #[.int .i64 1] t (0, 0)) ∧ But g w w'
theorem caught_at {g : Nat} {t u : TypeId} {w : World} (hg : w.heap[g]? = some (.cells #[.int .i64 0] t (0, 0))) :
    ((w.setCell ⟨g, 0, none⟩ (.int .i64 1)).alloc (.cells #[] u)).heap[g]? = some (.cells #[.int .i64 1] t (0, 0)) ∧ But g w ((w.setCell ⟨g, 0, none⟩ (.int .i64 1)).alloc (.cells #[] u)) := by
  have h1 := heap_setCell_same w g 0 _ _ (.int .i64 1) hg
  exact ⟨(((Below.refl _ (w.setCell ⟨g, 0, none⟩ (.int .i64 1))).alloc (Nat.le_refl _) _).block g (blk_lt h1)).trans h1, ((But.refl g w).set 0 _).alloc _⟩
theorem caught_at2 {g : Nat} {t u : TypeId} {w : World} (hg : w.heap[g]? = some (.cells #[.int .i64 0] t (0, 0))) :
    ((w.alloc (.cells #[] u)).setCell ⟨g, 0, none⟩ (.int .i64 1)).heap[g]? = some (.cells #[.int .i64 1] t (0, 0)) ∧ But g w ((w.alloc (.cells #[] u)).setCell ⟨g, 0, none⟩ (.int .i64 1)) := by
  have h0 := (((Below.refl _ w).alloc (Nat.le_refl _) (.cells #[] u)).block g (blk_lt hg)).trans hg
  exact ⟨heap_setCell_same _ g 0 _ _ (.int .i64 1) h0, ((But.refl g w).alloc _).set 0 _⟩

set_option maxRecDepth 100000 in
set_option maxHeartbeats 400000 in
theorem catch_t (g : Nat) (w : World) (t : TypeId) (hg : w.heap[g]? = some (.cells #[.int .i64 0] t (0, 0))) :
    CallsD Try.prog 42 #[.pointer (some ⟨g, 0, none⟩)] (.panicking [{ v := noV, recovered := false }]) w (Caught g t w) := by
  refine callsD_of_wpS Try.func42 rfl fun c₀ cs hu => ?_
  simp only [Try.ntmps42, List.size_toArray, List.length_cons, List.length_nil, Nat.reduceAdd, Nat.reduceSub, Array.replicate_succ,
     Array.replicate_zero, List.push_toArray, List.append_toArray, List.nil_append, List.cons_append]
  apply wpS_seq
  apply wpS_region
  simp [wpOpsS, go_sem, recoverD, hu, Exit.thenS]
  refine wpS_of_wp ?_
  unfold noV
  have hta : ∀ (v : Value) (w : World), (Instr.typeAssert (.iface 76 v) 20 76 true).run Try.prog w = .ok (.tuple #[v, .bool true]) w := fun _ _ => by kernel_rfl
  have hnn : ∀ (v : Value) (w : World), (binOp .eql 20 (.iface 76 v) .nilIface).run Try.prog w = .ok (.bool false) w := fun _ _ => by kernel_rfl
  have c0 : w.cell? ⟨g, 0, none⟩ = some (.int .i64 0) := cell_of_row w g 0 _ _ _ hg
  have f0 := frozen_of_row w g 0 _ _ hg
  have hlt := blk_lt hg
  have HA := Lib.hid (caught_at (u := 76) hg)
  have HA2 := Lib.hid (caught_at2 (u := 76) hg)
  clear hg
  go_wp2
  cases c₀
  exact ⟨rfl, _, rfl, _, results_none rfl _ _ _, rfl, rfl, by first | exact HA.out.1 | exact HA2.out.1, by first | exact HA.out.2 | exact HA2.out.2⟩

theorem two_new (w : World) (A B : Obj) : ((w.alloc A).alloc B).heap[w.heap.size]? = some A ∧ ((w.alloc A).alloc B).heap[w.heap.size + 1]? = some B := by
  have h1 := heap_alloc_new w A
  have h2 := heap_alloc_new (w.alloc A) B
  rw [show (w.alloc A).heap.size = w.heap.size + 1 by simp] at h2
  exact ⟨(((Below.refl _ (w.alloc A)).alloc (Nat.le_refl _) B).block _ (blk_lt h1)).trans h1, h2⟩
/-- what a reading of a type comes to -/
def outT (q : Option Ty) : Ty × Nat := match q with | some t => (t, 0) | none => ((0, []), 1)
def twoV (x : Ty × Nat) : Value := .tuple #[tyV x.1, .int .i64 (x.2 : Int)]

set_option maxRecDepth 100000 in
set_option maxHeartbeats 1600000 in
theorem read_t (q : Option Ty) (K : Nat) (fi ca : Array Value) (w : World)
    (hcf : ∀ (args : Array Value) (w : World), (callFunc K args).run Try.prog w = .ok (.enter K args) w) (hk : ∀ w1, Below w.heap.size w w1 → Calls Try.prog K (fi ++ ca) w1 (Gave q w1)) :
    Calls Try.prog 26 #[.func (.func K) fi ca] w fun e w' => e = .returned (twoV (outT q)) ∧ Below w.heap.size w w' := by
  have hmf : ∀ (fn : Fn) (first cap : Array Value) (w : World), (Instr.makeFunc fn first cap).run Try.prog w = .ok (.func fn first cap) w := fun _ _ _ _ => rfl
  have hal : Below w.heap.size w ((w.alloc (.cells #[.int .i64 0, .string ⟨#[]⟩] 27)).alloc (.cells #[.int .i64 0] 30)) := ((Below.refl _ _).alloc (Nat.le_refl _) _).alloc (by simp) _
  have HK := Lib.hid (hk _ hal)
  have HAL := Lib.hid hal
  clear hk hal
  cases q with
  | none =>
    go_enter_defers Try.func26, Try.ntmps26
    go_wp2_with fail
    refine HK.out.mono ?_
    rintro e w1 ⟨rfl, hb1⟩
    have hg0 := (hb1.block (w.heap.size) (by simp; omega)).trans (two_new w _ _).1
    have hg := (hb1.block (w.heap.size + 1) (by simp)).trans (two_new w _ _).2
    have HB := Lib.hid (HAL.out.trans (hb1.mono (by simp; omega)))
    have HG0 := Lib.hid hg0; have HG := Lib.hid hg
    clear hg hg0 hb1
    show Leaves _ _ _ _ _ _ _
    refine leaves_cons (f := 42) (args := #[.pointer (some ⟨w.heap.size + 1, 0, none⟩)]) (by simp) (by simp [go_sem]) ?_
    refine (catch_t (w.heap.size + 1) _ _ HG.out).mono ?_
    rintro e u' w2 ⟨rfl, rfl, hg2, hbt⟩
    have hg3 := (hbt.block _ (blk_lt HG0.out) (fun e => absurd (Option.some.inj e) (by omega))).trans HG0.out
    have c0 : w2.cell? ⟨w.heap.size, 0, none⟩ = some (.int .i64 0) := cell_of_row _ _ _ _ _ _ hg3
    have c1 : w2.cell? ⟨w.heap.size, 1, none⟩ = some (.string ⟨#[]⟩) := cell_of_row _ _ _ _ _ _ hg3
    have c2 : w2.cell? ⟨w.heap.size + 1, 0, none⟩ = some (.int .i64 1) := cell_of_row _ _ _ _ _ _ hg2
    exact ⟨twoV (outT none), by simp [results, Try.results26, go_sem, c0, c1, c2, twoV, tyV, outT], rfl, HB.out.trans (hbt.below (by omega) HB.out.size)⟩
  | some t =>
    obtain ⟨k, c⟩ := t
    go_enter_defers Try.func26, Try.ntmps26
    go_wp2_with fail
    refine HK.out.mono ?_
    rintro e w1 ⟨rfl, hb1⟩
    unfold tyV
    dsimp only
    have hg0 := (hb1.block (w.heap.size) (by simp; omega)).trans (two_new w _ _).1
    have hg := (hb1.block (w.heap.size + 1) (by simp)).trans (two_new w _ _).2
    have c0 : w1.cell? ⟨w.heap.size, 0, none⟩ = some (.int .i64 0) := cell_of_row _ _ _ _ _ _ hg0
    have c1 : w1.cell? ⟨w.heap.size, 1, none⟩ = some (.string ⟨#[]⟩) := cell_of_row _ _ _ _ _ _ hg0
    have c2 : w1.cell? ⟨w.heap.size + 1, 0, none⟩ = some (.int .i64 0) := cell_of_row _ _ _ _ _ _ hg
    have f0 := frozen_of_row w1 _ 0 _ _ hg0
    have f1 := frozen_of_row w1 _ 1 _ _ hg0
    have f2 := frozen_of_row w1 _ 0 _ _ hg
    have HB := Lib.hid (HAL.out.trans (hb1.mono (by simp; omega)))
    have HG0 := Lib.hid hg0; have HG := Lib.hid hg
    clear hg hg0 hb1
    obtain ⟨z0, z1, -⟩ := two_set HG0.out (.int .i64 k) (.string ⟨c.toArray⟩)
    go_wp2
    refine leaves_cons (f := 42) (args := #[.pointer (some ⟨w.heap.size + 1, 0, none⟩)]) (by simp) (by simp [go_sem]) ?_
    refine (idle_t _ _).mono ?_
    rintro e u' w2 ⟨rfl, rfl, rfl⟩
    exact ⟨twoV (outT (some (k, c))), by simp [results, Try.results26, go_sem, c2, z0, z1, twoV, tyV, outT], rfl, ((HB.out.setCell (by simp) _).setCell (by simp) _).setCell (by simp) _⟩

set_option maxRecDepth 100000 in
set_option maxHeartbeats 1600000 in
theorem clo_t (g : Nat) (s : Tx) (w : World) (hs : s.length < 4294967281) (hm : Mx w) (hg : w.cell? ⟨g, 0, none⟩ = some (.string ⟨s.toArray⟩)) :
    Calls Try.prog 27 #[.pointer (some ⟨g, 0, none⟩)] w (Gave (allT s) w) := by
  have hal : Below w.heap.size w (w.alloc (.cells #[.int .i64 0, .string ⟨#[]⟩] 27)) := (Below.refl _ _).alloc (Nat.le_refl _) _
  have hg2 := (hal.cell (World.block_lt_of_cell? _ _ hg)).trans hg
  have HK := Lib.hid (all_k s _ hs (hm.below hal))
  have HAL := Lib.hid hal
  cases h : allT s with
  | none =>
    rw [h] at HK
    clear h hs hm hal
    go_enter Try.func27, Try.ntmps27
    go_wp2_with fail
    refine HK.out.mono ?_
    rintro e w1 ⟨rfl, hb1⟩
    exact ⟨rfl, gave_none rfl rfl (HAL.out.trans (hb1.mono (by simp)))⟩
  | some t =>
    obtain ⟨k, c⟩ := t
    rw [h] at HK
    clear h hs hm hal
    go_enter Try.func27, Try.ntmps27
    go_wp2_with fail
    refine HK.out.mono ?_
    rintro e w1 ⟨rfl, hb1⟩
    unfold tyV
    dsimp only
    have hce := (hb1.block w.heap.size (by simp)).trans (heap_alloc_new w _)
    obtain ⟨z0, z1, -⟩ := two_set hce (.int .i64 k) (.string ⟨c.toArray⟩)
    have c0 : w1.cell? ⟨w.heap.size, 0, none⟩ = some (.int .i64 0) := cell_of_row _ _ _ _ _ _ hce
    have c1 : w1.cell? ⟨w.heap.size, 1, none⟩ = some (.string ⟨#[]⟩) := cell_of_row _ _ _ _ _ _ hce
    have f0 := frozen_of_row w1 _ 0 _ _ hce
    have f1 := frozen_of_row w1 _ 1 _ _ hce
    have HB := Lib.hid (HAL.out.trans (hb1.mono (by simp)))
    clear hb1 hce
    go_wp2
    exact bodyPost_ret (v := .agg #[.int .i64 k, .string ⟨c.toArray⟩]) (by simp [results, Try.results27, go_sem, z0, z1]) rfl (gave_some rfl rfl ((HB.out.setCell (by simp) _).setCell (by simp) _))

/-- THE TYPE OF A TEXT. -/
def parseV (s : Tx) : Value := twoV (parseT s)
theorem out_all (s : Tx) : outT (allT s) = parseT s := by unfold outT parseT; rfl

set_option maxRecDepth 100000 in
set_option maxHeartbeats 1600000 in
theorem parse_w (s : Tx) (w : World) (hs : s.length < 4294967281) (hm : Mx w) :
    Calls Try.prog 12 #[.string ⟨s.toArray⟩] w fun e w' => e = .returned (parseV s) ∧ Below w.heap.size w w' := by
  have hmf : ∀ (fn : Fn) (first cap : Array Value) (w : World), (Instr.makeFunc fn first cap).run Try.prog w = .ok (.func fn first cap) w := fun _ _ _ _ => rfl
  have hal : Below w.heap.size w ((w.alloc (.cells #[.string ⟨s.toArray⟩] 9)).alloc (.cells #[.int .i64 0, .string ⟨#[]⟩] 27)) := ((Below.refl _ _).alloc (Nat.le_refl _) _).alloc (by simp) _
  have hg : ((w.alloc (.cells #[.string ⟨s.toArray⟩] 9)).alloc (.cells #[.int .i64 0, .string ⟨#[]⟩] 27)).cell? ⟨w.heap.size, 0, none⟩ = some (.string ⟨s.toArray⟩) := cell_of_row _ _ _ _ _ _ (two_new w _ _).1
  have hr := read_t (allT s) 27 #[] #[.pointer (some ⟨w.heap.size, 0, none⟩)] _ (fun _ _ => rfl) (fun w1 hb => clo_t w.heap.size s w1 hs ((hm.below hal).below hb) ((hb.cell (World.block_lt_of_cell? _ _ hg)).trans hg))
  have HR := Lib.hid hr; have HAL := Lib.hid hal
  have HG := Lib.hid (two_new w (.cells #[.string ⟨s.toArray⟩] 9) (.cells #[.int .i64 0, .string ⟨#[]⟩] 27)).2
  have HE := Lib.hid (show parseV s = twoV (outT (allT s)) by rw [out_all]; rfl)
  obtain ⟨⟨⟨k, c⟩, n⟩, hx⟩ : ∃ x, x = outT (allT s) := ⟨_, rfl⟩
  rw [← hx] at HR HE
  clear hr hg hal hs hm hx
  go_enter Try.func12, Try.ntmps12
  go_wp2_with fail
  refine HR.out.mono ?_
  rintro e w1 ⟨rfl, hb1⟩
  unfold twoV tyV
  dsimp only
  have hce := (hb1.block (w.heap.size + 1) (by simp)).trans HG.out
  obtain ⟨z0, z1, -⟩ := two_set hce (.int .i64 k) (.string ⟨c.toArray⟩)
  have c0 : w1.cell? ⟨w.heap.size + 1, 0, none⟩ = some (.int .i64 0) := cell_of_row _ _ _ _ _ _ hce
  have c1 : w1.cell? ⟨w.heap.size + 1, 1, none⟩ = some (.string ⟨#[]⟩) := cell_of_row _ _ _ _ _ _ hce
  have f0 := frozen_of_row w1 _ 0 _ _ hce
  have f1 := frozen_of_row w1 _ 1 _ _ hce
  have HB := Lib.hid (HAL.out.trans (hb1.mono (by simp; omega)))
  clear hb1 hce
  go_wp2
  exact bodyPost_ret (v := .tuple #[.agg #[.int .i64 k, .string ⟨c.toArray⟩], .int .i64 (n : Int)]) (by simp [results, Try.results12, go_sem, z0, z1]) rfl ⟨by rw [HE.out]; rfl, (HB.out.setCell (by simp) _).setCell (by simp) _⟩
end Go.Proofs.Ytdenpefihplnoaa.kind

/- Layer 6: lists of types, cell by cell. -/
namespace Go.Proofs.Ytdenpefihplnoaa.kind
open Go.RowKit
open Go.Proofs.Ytdenpefihplnoaa.words Go.Proofs.Ytdenpefihplnoaa.kindp

/-- types, cell by cell -/
def TL (l : List Ty) : List Value := l.flatMap fun t => [.int .i64 t.1, .string ⟨t.2.toArray⟩]
theorem TL_app (a b : List Ty) : TL (a ++ b) = TL a ++ TL b := by simp [TL]
theorem TL_len : ∀ l : List Ty, (TL l).length = l.length * 2
  | [] => rfl
  | t :: l => by
    have := TL_len l
    show (TL ([t] ++ l)).length = _
    rw [TL_app, List.length_append, this]
    show 2 + l.length * 2 = (l.length + 1) * 2
    omega
theorem TL_at : ∀ {l : List Ty} {i : Nat} {t : Ty}, l[i]? = some t → (TL l)[i * 2]? = some (.int .i64 t.1) ∧ (TL l)[i * 2 + 1]? = some (.string ⟨t.2.toArray⟩)
  | [], _, _, h => by simp at h
  | x :: l, 0, t, h => by simp at h; subst h; exact ⟨rfl, rfl⟩
  | x :: l, i + 1, t, h => by
    have h2 : l[i]? = some t := by simpa using h
    have ih := TL_at h2
    have e : TL (x :: l) = [.int .i64 x.1, .string ⟨x.2.toArray⟩] ++ TL l := rfl
    rw [e, show (i + 1) * 2 = i * 2 + 2 by omega, show i * 2 + 2 + 1 = (i * 2 + 1) + 2 by omega]
    simpa using ih
theorem TL_cells (l : List Ty) : ∀ u ∈ TL l, u.oneCell' = true := by
  intro u hu
  unfold TL at hu
  obtain ⟨t, _, h⟩ := List.mem_flatMap.1 hu
  simp at h
  rcases h with rfl | rfl <;> simp [Value.oneCell']
theorem tl_cell {w : World} {A : Option Addr} {l : List Ty} (h : Rd w A (TL l)) {i : Nat} {t : Ty} (hi : l[i]? = some t) :
    ∃ a, A = some a ∧ a.block < w.heap.size ∧ w.cell? (a.add (i * 2)) = some (.int .i64 t.1) ∧ w.cell? ⟨(a.add (i * 2)).block, (a.add (i * 2)).off + 1, none⟩ = some (.string ⟨t.2.toArray⟩) := by
  obtain ⟨h0, h1⟩ := TL_at hi
  obtain ⟨a, rfl, hb, hc⟩ := h.at_ h0
  obtain ⟨a', e, _, hc1⟩ := h.at_ h1
  cases e
  exact ⟨a, rfl, hb, hc, by rw [← add_add] at hc1; exact hc1⟩
set_option maxRecDepth 100000 in
theorem infoT : (Try.prog.info? 27).map (fun i => (i.zero, i.size, i.bytes)) = some (some (.agg #[.int .i64 0, .string ⟨#[]⟩]), 2, 24) := by kernel_rfl
end Go.Proofs.Ytdenpefihplnoaa.kind

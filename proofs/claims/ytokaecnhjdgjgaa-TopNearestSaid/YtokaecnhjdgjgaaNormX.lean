/-
 Layer 8: a clone of a program without Ifaces, Fields, Args and Names: the program’s answers.
-/
import Derived.Test.YtokaecnhjdgjgaaNormQ
import Derived.Laws.OwnMore
import Derived.Laws.MakeOwn
/- Layer 8: lists in memory of their own: the program's answers. -/
namespace Go.Proofs.Ytokaecnhjdgjgaa.prg
open Go.RowKit
open words kindp opp op kind word

/-- nothing of it lies ahead of b -/
def Fr (b : Nat) (A : Option Addr) : Prop := ∀ a, A = some a → b ≤ a.block
theorem Fr.mono {b c : Nat} {A : Option Addr} (h : Fr b A) (hc : c ≤ b) : Fr c A := fun a ha => Nat.le_trans hc (h a ha)
def NwI (b : Nat) (w : World) (y : InM) : Prop := InOk w y ∧ InBd y ∧ Fr b y.A
def NwM (b : Nat) (w : World) (m : MeM) : Prop := MeOk w m ∧ MeBd m ∧ Fr b m.A ∧ ∀ y ∈ m.co, Fr b y.A
def NwC (b : Nat) (w : World) (c : ClM) : Prop := ClOk w c ∧ ClBd c ∧ (Fr b c.A1 ∧ Fr b c.A2 ∧ Fr b c.A3) ∧ ∀ m ∈ c.ms, Fr b m.A ∧ ∀ y ∈ m.co, Fr b y.A
theorem rd_gb {w w' : World} {A : Option Addr} {xs : List Value} {b g : Nat} (h : Rd w A xs) (hf : Fr b A) (hg : g < b) (k : w.grownBy w' (some g)) : Rd w' A xs := by
 rcases h with rfl | ⟨a, rfl, hb, hc⟩
 ·exact .inl rfl
 ·refine .inr ⟨a, rfl, Nat.lt_of_lt_of_le hb k.size, fun j u hu => (World.cell?_of_block (k.block _ (by rw [add_block]; exact hb) ?_)).trans (hc j u hu)⟩
  rw [add_block]
  have := hf a rfl
  intro e
  cases e
  omega
theorem gb_trans {w v u : World} {g : Nat} (h : w.grownBy v (some g)) (k : v.grownBy u (some g)) : w.grownBy u (some g) :=
 ⟨k.os.trans h.os, k.tape.trans h.tape, k.output.trans h.output, Nat.le_trans h.size k.size, fun j hj hn => (k.block j (Nat.lt_of_lt_of_le hj h.size) hn).trans (h.block j hj hn)⟩
section
variable {b c g : Nat} {w w' : World}
theorem NwI.gb {y : InM} (h : NwI b w y) (hg : g < b) (k : w.grownBy w' (some g)) : NwI b w' y := ⟨⟨h.1.1, rd_gb h.1.2 h.2.2 hg k⟩, h.2⟩
theorem NwI.below {y : InM} (h : NwI b w y) (k : Below w.heap.size w w') : NwI b w' y := ⟨h.1.below k, h.2⟩
theorem NwI.mono {y : InM} (h : NwI b w y) (hc : c ≤ b) : NwI c w y := ⟨h.1, h.2.1, h.2.2.mono hc⟩
theorem NwM.gb {m : MeM} (h : NwM b w m) (hg : g < b) (k : w.grownBy w' (some g)) : NwM b w' m := ⟨⟨h.1.1, rd_gb h.1.2.1 h.2.2.1 hg k, fun y hy => ⟨(h.1.2.2 y hy).1, rd_gb (h.1.2.2 y hy).2 (h.2.2.2 y hy) hg k⟩⟩, h.2⟩
theorem NwM.below {m : MeM} (h : NwM b w m) (k : Below w.heap.size w w') : NwM b w' m := ⟨h.1.below k, h.2⟩
theorem NwM.mono {m : MeM} (h : NwM b w m) (hc : c ≤ b) : NwM c w m := ⟨h.1, h.2.1, h.2.2.1.mono hc, fun y hy => (h.2.2.2 y hy).mono hc⟩
theorem NwC.gb {m : ClM} (h : NwC b w m) (hg : g < b) (k : w.grownBy w' (some g)) : NwC b w' m :=
 ⟨⟨⟨h.1.1.1, rd_gb h.1.1.2 h.2.2.1.1 hg k⟩, ⟨h.1.2.1.1, rd_gb h.1.2.1.2 h.2.2.1.2.1 hg k⟩, ⟨h.1.2.2.1.1, rd_gb h.1.2.2.1.2 h.2.2.1.2.2 hg k⟩,
  fun z hz => ⟨(h.1.2.2.2 z hz).1, rd_gb (h.1.2.2.2 z hz).2.1 (h.2.2.2 z hz).1 hg k, fun y hy => ⟨((h.1.2.2.2 z hz).2.2 y hy).1, rd_gb ((h.1.2.2.2 z hz).2.2 y hy).2 ((h.2.2.2 z hz).2 y hy) hg k⟩⟩⟩, h.2⟩
theorem NwC.below {m : ClM} (h : NwC b w m) (k : Below w.heap.size w w') : NwC b w' m := ⟨h.1.below k, h.2⟩
theorem NwC.mono {m : ClM} (h : NwC b w m) (hc : c ≤ b) : NwC c w m := ⟨h.1, h.2.1, ⟨h.2.2.1.1.mono hc, h.2.2.1.2.1.mono hc, h.2.2.1.2.2.mono hc⟩, fun z hz => ⟨(h.2.2.2 z hz).1.mono hc, fun y hy => ((h.2.2.2 z hz).2 y hy).mono hc⟩⟩
end
/-- what is made at first -/
theorem made_flat {α : Type} {C : α → List Value} {K : Nat} (hC : ∀ x, (C x).length = K) (hK : 0 < K) (Z : α) (n : Nat) : (madeCells (C Z).toArray (n * K)).toList = (List.replicate n Z).flatMap C := by
 apply List.ext_getElem?
 intro i
 by_cases hi : i < n * K
 ·have h1 : (List.replicate n Z)[i / K]? = some Z := by rw [List.getElem?_replicate, if_pos (Nat.div_lt_of_lt_mul (by rw [Nat.mul_comm]; exact hi))]
  obtain ⟨u, hu⟩ : ∃ u, (C Z)[i % K]? = some u := ⟨_, List.getElem?_eq_getElem (by rw [hC]; exact Nat.mod_lt _ hK)⟩
  have h2 := flat_at hC h1 hu
  rw [Nat.div_add_mod'] at h2
  rw [h2]
  have hz : (C Z).toArray.size = K := by simp [hC]
  simp only [madeCells, Array.toList_map, Array.toList_range, List.getElem?_map, List.getElem?_range hi, Option.map_some, hz]
  congr 1
  rw [getElem!_def]
  simp [hu]
 ·rw [List.getElem?_eq_none (by simp [madeCells]; omega), List.getElem?_eq_none (by rw [flat_len hC, List.length_replicate]; omega)]
/-- cells that are set one behind the other -/
def setL (X : List Value) : Nat → List Value → List Value
 | _, [] => X
 | o, v :: vs => setL (X.set o v) (o + 1) vs
theorem setL_mid : ∀ (news old pre post : List Value), old.length = news.length → setL (pre ++ old ++ post) pre.length news = pre ++ news ++ post
 | [], old, pre, post, h => by
  have : old = [] := List.length_eq_zero_iff.1 (by simpa using h)
  subst this; rfl
 | v :: vs, [], pre, post, h => by simp at h
 | v :: vs, o :: os, pre, post, h => by
  have ih := setL_mid vs os (pre ++ [v]) post (by simpa using h)
  have e : (pre ++ o :: os ++ post).set pre.length v = pre ++ [v] ++ os ++ post := by
   rw [List.append_assoc, List.set_append_right _ _ (Nat.le_refl _)]
   simp
  show setL ((pre ++ o :: os ++ post).set pre.length v) (pre.length + 1) vs = _
  rw [e]
  rw [List.length_append] at ih
  simpa using ih
theorem setL_flat {α : Type} {C : α → List Value} {K : Nat} (hC : ∀ x, (C x).length = K) {l : List α} {k : Nat} (hk : k < l.length) (y : α) : setL (l.flatMap C) (k * K) (C y) = (l.set k y).flatMap C := by
 have e1 : l = l.take k ++ l[k] :: l.drop (k + 1) := by rw [List.getElem_cons_drop, List.take_append_drop]
 have e2 : l.set k y = l.take k ++ y :: l.drop (k + 1) := by rw [List.set_eq_take_append_cons_drop, if_pos hk]
 have hl : ((l.take k).flatMap C).length = k * K := by rw [flat_len hC, List.length_take, Nat.min_eq_left (by omega)]
 have h := setL_mid (C y) (C l[k]) ((l.take k).flatMap C) ((l.drop (k + 1)).flatMap C) (by rw [hC, hC])
 rw [hl] at h
 have e3 : l.flatMap C = (l.take k).flatMap C ++ C l[k] ++ (l.drop (k + 1)).flatMap C := by
  conv => lhs; rw [e1]
  rw [List.flatMap_append, List.flatMap_cons, List.append_assoc]
 rw [e3, h, e2, List.flatMap_append, List.flatMap_cons, List.append_assoc]
def zI : InM := ⟨⟨0, 0, 0, 0, 0, [], [], [], []⟩, none, 0⟩
def zM : MeM := ⟨[], [], false, false, 0, [], none, 0⟩
def zC : ClM := ⟨[], [], false, false, [], none, 0, [], none, 0, [], none, 0⟩
theorem mix_set {α : Type} {done : List α} {n : Nat} {Z y : α} (h : done.length < n) : (done ++ List.replicate (n - done.length) Z).set done.length y = (done ++ [y]) ++ List.replicate (n - (done.length + 1)) Z := by
 rw [List.set_append_right _ _ (Nat.le_refl _), Nat.sub_self]
 obtain ⟨m, hm⟩ : ∃ m, n - done.length = m + 1 := ⟨n - done.length - 1, by omega⟩
 rw [hm, show n - (done.length + 1) = m by omega, List.replicate_succ]
 simp

/-- what becomes of one -/
def CloIn (x : InM) (v : World) (e : Ending) (w' : World) : Prop := (∃ y, e = .returned (.agg (inC y).toArray) ∧ pI y = pI x ∧ NwI v.heap.size w' y) ∧ Below v.heap.size v w'
/-- what becomes of all -/
def CopIn (l : List InM) (w : World) (e : Ending) (w' : World) : Prop := (∃ (B : Option Addr) (d : Nat) (l' : List InM), e = .returned (.slice B l'.length d) ∧ l'.map pI = l.map pI ∧ l'.length ≤ d ∧ (∀ a, B = some a → a = ⟨w.heap.size, 0, none⟩) ∧ w'.ownsRow w.heap.size 55 9 (.slice B l'.length d) l'.length (l'.flatMap inC) ∧ ∀ y ∈ l', NwI (w.heap.size + 1) w' y) ∧ Below w.heap.size w w'
set_option maxRecDepth 100000 in
theorem info_in : (Try.prog.info? 55).map (fun i => (i.zero, i.size, i.bytes)) = some (some (.agg (inC zI).toArray), 9, 112) := by kernel_rfl
set_option maxRecDepth 100000 in
set_option maxHeartbeats 8000000 in
set_option linter.all false in
theorem copied_in (A : Option Addr) (c : Nat) (l : List InM) (w : World) (hr : Rd w A (l.flatMap inC)) (hA : A = none → c = 0) (hl : l.length ≤ 100000)
  (HO : ∀ x ∈ l, ∀ v : World, Below w.heap.size w v → Calls Try.prog 88 #[.agg (inC x).toArray] v (CloIn x v)) :
  Calls Try.prog 87 #[.slice A l.length c, .func (.func 88) #[] #[]] w (CopIn l w) := by
 have heq := Lib.run_eql_slice_nil w 46 55 A l.length c 0 0 Try.underlying46
 rcases A with _ | a
 ·have hnil : l = [] := by
   rcases hr with h | ⟨a, h, _⟩
   ·have := congrArg List.length h
    rw [flat_len (f := inC) (k := 9) (fun _ => rfl)] at this
    exact List.length_eq_zero_iff.1 (by simp at this; omega)
   ·cases h
  subst hnil
  obtain rfl := hA rfl
  have HR := Lib.hid (show CopIn [] w (.returned (.slice none 0 0)) w from ⟨⟨none, 0, [], rfl, rfl, Nat.le_refl _, (fun _ h => by cases h), World.ownsRow_nil _ _ _ _, by simp⟩, Below.refl _ _⟩)
  clear HO hA hl hr
  simp only [List.length_nil] at heq ⊢
  go_enter Try.func87, Try.ntmps87
  go_wp2
  go_ret
  exact HR.out
 ·obtain ⟨i0, hi0, hz0, hz1, hz2⟩ := info_parts info_in
  obtain ⟨n, hn⟩ : ∃ n, n = l.length := ⟨_, rfl⟩
  rw [← hn] at hl heq ⊢
  obtain ⟨wm, hmk, hown0, hgr0⟩ := run_makeSlice_full (P := Try.prog) w w.heap.size 46 55 i0 _ 9 Try.underlying46 hi0 hz0 hz1 .i64 .i64 n (by omega) (by rw [hz2]; omega) (by simp only [maxLen]; omega) (Nat.le_refl _)
  rw [show (Value.agg (inC zI).toArray).cells = (inC zI).toArray from rfl, made_flat (C := inC) (K := 9) (fun _ => rfl) (by omega)] at hown0
  have hbm : Below w.heap.size w wm := (Below.refl _ _).grown hgr0 (Nat.le_refl _) (fun k hk => by cases hk)
  have hszm : w.heap.size < wm.heap.size := (hown0.lt w.heap.size rfl).2
  have hnI : (n : Int) ≤ 100000 := by omega
  have HN := Lib.hid hn; have HRD := Lib.hid hr; have HOO := Lib.hid HO; have HO0 := Lib.hid hown0; have HBM := Lib.hid hbm
  clear hr hn HO hA hown0 hgr0 hz0 hz1 hz2 hi0
  go_enter Try.func87, Try.ntmps87
  go_wp2
  go_loopw [15] (fun i wr => ∃ (k : Nat) (done : List InM), i = .int .i64 (k : Int) ∧ k ≤ n ∧ done.length = k ∧ done.map pI = (l.take k).map pI ∧ (∀ y ∈ done, NwI (w.heap.size + 1) wr y) ∧ wr.ownsRow w.heap.size 55 9 (.slice (some ⟨w.heap.size, 0, none⟩) n n) n ((done ++ List.replicate (n - k) zI).flatMap inC) ∧ Below w.heap.size w wr) (fun i _ => n - (intOf i).toNat)
  case atStart => exact ⟨0, [], rfl, Nat.zero_le _, rfl, by simp, by simp, by simpa using HO0.out, HBM.out⟩
  case round =>
   obtain ⟨k, done, rfl, hk, hdl, hdp, hdn, hown, hbw⟩ := hrel
   have HB := Lib.hid hbw; have HDP := Lib.hid hdp; have HDN := Lib.hid hdn; have HOW := Lib.hid hown; have HDL := Lib.hid hdl
   have hgs : w.heap.size < wr.heap.size := (hown.lt w.heap.size rfl).2
   by_cases hlt : k < n
   ·have hltI : (k : Int) < (n : Int) := by omega
    obtain ⟨x, hx⟩ : ∃ x, l[k]? = some x := ⟨l[k]'(by rw [← HN.out]; exact hlt), List.getElem?_eq_getElem _⟩
    obtain ⟨a', ea, _, c0, c1, c2, c3, c4, c5, c6, c7, c8⟩ := in_at (HRD.out.below hbw) hx
    cases ea
    have HX := Lib.hid hx
    have hal := hbw.alloc hbw.size (.cells (inC x).toArray 55)
    have hal1 : Below wr.heap.size wr (wr.alloc (.cells (inC x).toArray 55)) := (Below.refl _ _).alloc (Nat.le_refl _) _
    have HAL := Lib.hid hal; have HAL1 := Lib.hid hal1
    have HCL := Lib.hid (HOO.out x (List.mem_of_getElem? hx) _ hal)
    dsimp only [inC] at HCL HAL HAL1
    clear hx hal hal1 hdp hdn hown hbw
    go_wp2_with fail
    refine HCL.out.mono ?_
    rintro e w4 ⟨⟨y, rfl, hyp, hyn⟩, hb4⟩
    have hb5 := HAL1.out.trans (hb4.mono HAL1.out.size)
    have hyn' := hyn.mono (c := w.heap.size + 1) (by have := HAL1.out.size; omega)
    have o0 := own_below HOW.out hb5
    have HD4 := Lib.hid (fun z hz => (HDN.out z hz).below hb5)
    have hml : k < (done ++ List.replicate (n - k) zI).length := by rw [List.length_append, List.length_replicate, HDL.out]; omega
    obtain ⟨q, hq⟩ : ∃ q, (done ++ List.replicate (n - k) zI)[k]? = some q := ⟨_, List.getElem?_eq_getElem hml⟩
    have y0 := flat_at (f := inC) (k := 9) (fun _ => rfl) hq (t := 0) (u := (inC q)[0]'(by simp [inC])) (by simp [inC])
    rw [Nat.add_zero] at y0
    have d0 : w4.cell? ⟨w.heap.size, k * 9, none⟩ = some _ := (o0.cellAt (k * 9) (by omega)).trans y0
    have f0 := o0.frozenAt (k * 9)
    have y1 := flat_at (f := inC) (k := 9) (fun _ => rfl) hq (t := 1) (u := (inC q)[1]'(by simp [inC])) (by simp [inC])
    have d1 : w4.cell? ⟨w.heap.size, k * 9 + 1, none⟩ = some _ := (o0.cellAt (k * 9 + 1) (by omega)).trans y1
    have f1 := o0.frozenAt (k * 9 + 1)
    have y2 := flat_at (f := inC) (k := 9) (fun _ => rfl) hq (t := 2) (u := (inC q)[2]'(by simp [inC])) (by simp [inC])
    have d2 : w4.cell? ⟨w.heap.size, k * 9 + 2, none⟩ = some _ := (o0.cellAt (k * 9 + 2) (by omega)).trans y2
    have f2 := o0.frozenAt (k * 9 + 2)
    have y3 := flat_at (f := inC) (k := 9) (fun _ => rfl) hq (t := 3) (u := (inC q)[3]'(by simp [inC])) (by simp [inC])
    have d3 : w4.cell? ⟨w.heap.size, k * 9 + 3, none⟩ = some _ := (o0.cellAt (k * 9 + 3) (by omega)).trans y3
    have f3 := o0.frozenAt (k * 9 + 3)
    have y4 := flat_at (f := inC) (k := 9) (fun _ => rfl) hq (t := 4) (u := (inC q)[4]'(by simp [inC])) (by simp [inC])
    have d4 : w4.cell? ⟨w.heap.size, k * 9 + 4, none⟩ = some _ := (o0.cellAt (k * 9 + 4) (by omega)).trans y4
    have f4 := o0.frozenAt (k * 9 + 4)
    have y5 := flat_at (f := inC) (k := 9) (fun _ => rfl) hq (t := 5) (u := (inC q)[5]'(by simp [inC])) (by simp [inC])
    have d5 : w4.cell? ⟨w.heap.size, k * 9 + 5, none⟩ = some _ := (o0.cellAt (k * 9 + 5) (by omega)).trans y5
    have f5 := o0.frozenAt (k * 9 + 5)
    have y6 := flat_at (f := inC) (k := 9) (fun _ => rfl) hq (t := 6) (u := (inC q)[6]'(by simp [inC])) (by simp [inC])
    have d6 : w4.cell? ⟨w.heap.size, k * 9 + 6, none⟩ = some _ := (o0.cellAt (k * 9 + 6) (by omega)).trans y6
    have f6 := o0.frozenAt (k * 9 + 6)
    have y7 := flat_at (f := inC) (k := 9) (fun _ => rfl) hq (t := 7) (u := (inC q)[7]'(by simp [inC])) (by simp [inC])
    have d7 : w4.cell? ⟨w.heap.size, k * 9 + 7, none⟩ = some _ := (o0.cellAt (k * 9 + 7) (by omega)).trans y7
    have f7 := o0.frozenAt (k * 9 + 7)
    have y8 := flat_at (f := inC) (k := 9) (fun _ => rfl) hq (t := 8) (u := (inC q)[8]'(by simp [inC])) (by simp [inC])
    have d8 : w4.cell? ⟨w.heap.size, k * 9 + 8, none⟩ = some _ := (o0.cellAt (k * 9 + 8) (by omega)).trans y8
    have f8 := o0.frozenAt (k * 9 + 8)
    obtain ⟨o1, g1⟩ := o0.stored (k * 9) (.int .i64 y.i.o)
    obtain ⟨o2, g2⟩ := o1.stored (k * 9 + 1) (.int .i64 y.i.a)
    obtain ⟨o3, g3⟩ := o2.stored (k * 9 + 2) (.int .i64 y.i.b)
    obtain ⟨o4, g4⟩ := o3.stored (k * 9 + 3) (.int .i64 y.i.c)
    obtain ⟨o5, g5⟩ := o4.stored (k * 9 + 4) (.int .i64 y.i.k)
    obtain ⟨o6, g6⟩ := o5.stored (k * 9 + 5) (.string ⟨y.i.cl.toArray⟩)
    obtain ⟨o7, g7⟩ := o6.stored (k * 9 + 6) (.string ⟨y.i.nm.toArray⟩)
    obtain ⟨o8, g8⟩ := o7.stored (k * 9 + 7) (.string ⟨y.i.ds.toArray⟩)
    obtain ⟨o9, g9⟩ := o8.stored (k * 9 + 8) (.slice y.A y.i.ar.length y.c)
    have hset := setL_flat (C := inC) (K := 9) (fun _ => rfl) hml y
    have hmx : (done ++ List.replicate (n - k) zI).set k y = (done ++ [y]) ++ List.replicate (n - (k + 1)) zI := by have := mix_set (Z := zI) (y := y) (show done.length < n by rw [HDL.out]; exact hlt); rwa [HDL.out] at this
    rw [hmx] at hset
    rw [show (((((((((((done ++ List.replicate (n - k) zI).flatMap inC).set (k * 9) (.int .i64 y.i.o)).set (k * 9 + 1) (.int .i64 y.i.a)).set (k * 9 + 2) (.int .i64 y.i.b)).set (k * 9 + 3) (.int .i64 y.i.c)).set (k * 9 + 4) (.int .i64 y.i.k)).set (k * 9 + 5) (.string ⟨y.i.cl.toArray⟩)).set (k * 9 + 6) (.string ⟨y.i.nm.toArray⟩)).set (k * 9 + 7) (.string ⟨y.i.ds.toArray⟩)).set (k * 9 + 8) (.slice y.A y.i.ar.length y.c)) = ((done ++ [y]) ++ List.replicate (n - (k + 1)) zI).flatMap inC from hset] at o9
    have HOX := Lib.hid o9
    have hgall := (gb_trans (gb_trans (gb_trans (gb_trans (gb_trans (gb_trans (gb_trans (gb_trans g1 g2) g3) g4) g5) g6) g7) g8) g9)
    have HDX := Lib.hid (show ∀ z ∈ done ++ [y], NwI (w.heap.size + 1) _ z from fun z hz => by
     rcases List.mem_append.1 hz with h | h
     ·exact (HD4.out z h).gb (Nat.lt_succ_self _) hgall
     ·simp at h; subst h; exact hyn'.gb (Nat.lt_succ_self _) hgall)
    have HBX := Lib.hid ((((((((((HB.out.trans (hb5.mono HB.out.size)).setCell (p := ⟨w.heap.size, k * 9, none⟩) (Nat.le_refl _) (.int .i64 y.i.o)).setCell (p := ⟨w.heap.size, k * 9 + 1, none⟩) (Nat.le_refl _) (.int .i64 y.i.a)).setCell (p := ⟨w.heap.size, k * 9 + 2, none⟩) (Nat.le_refl _) (.int .i64 y.i.b)).setCell (p := ⟨w.heap.size, k * 9 + 3, none⟩) (Nat.le_refl _) (.int .i64 y.i.c)).setCell (p := ⟨w.heap.size, k * 9 + 4, none⟩) (Nat.le_refl _) (.int .i64 y.i.k)).setCell (p := ⟨w.heap.size, k * 9 + 5, none⟩) (Nat.le_refl _) (.string ⟨y.i.cl.toArray⟩)).setCell (p := ⟨w.heap.size, k * 9 + 6, none⟩) (Nat.le_refl _) (.string ⟨y.i.nm.toArray⟩)).setCell (p := ⟨w.heap.size, k * 9 + 7, none⟩) (Nat.le_refl _) (.string ⟨y.i.ds.toArray⟩)).setCell (p := ⟨w.heap.size, k * 9 + 8, none⟩) (Nat.le_refl _) (.slice y.A y.i.ar.length y.c))
    have HYP := Lib.hid hyp
    clear hb4 hb5 o0 o1 o2 o3 o4 o5 o6 o7 o8 o9 g1 g2 g3 g4 g5 g6 g7 g8 g9 hyn hyn' hyp hset hmx hgall hml hq c0 c1 c2 c3 c4 c5 c6 c7 c8 y0 y1 y2 y3 y4 y5 y6 y7 y8
    dsimp only [inC]
    go_wp2
    go_roundw
    case rel => exact ⟨k + 1, done ++ [y], by go_num, by omega, by rw [List.length_append, HDL.out]; rfl, by rw [List.take_add_one, HX.out, List.map_append, List.map_append, HDP.out]; simp [HYP.out], HDX.out, HOX.out, HBX.out⟩
    case measure => simp [intOf]; omega
   ·have hltI : ¬ (k : Int) < (n : Int) := by omega
    have hkn : k = n := by omega
    have ho := HOW.out
    rw [show n - k = 0 by omega, List.replicate_zero, List.append_nil] at ho
    have hln : done.length = n := by rw [HDL.out]; exact hkn
    have HR := Lib.hid (show CopIn l w (.returned (.slice (some ⟨w.heap.size, 0, none⟩) n n)) wr from
     ⟨⟨some ⟨w.heap.size, 0, none⟩, n, done, by rw [hln], by rw [HDP.out, List.take_of_length_le (by rw [← HN.out]; omega)], by omega, fun a ha => by cases ha; rfl, by rw [hln]; exact ho, fun y hy => HDN.out y hy⟩, HB.out⟩)
    clear ho hown hbw hdn hdp hln
    go_wp2
    go_ret
    exact HR.out

/-- what becomes of one -/
def CloMe (x : MeM) (v : World) (e : Ending) (w' : World) : Prop := (∃ y, e = .returned (.agg (meC y).toArray) ∧ pM y = pM x ∧ NwM v.heap.size w' y) ∧ Below v.heap.size v w'
/-- what becomes of all -/
def CopMe (l : List MeM) (w : World) (e : Ending) (w' : World) : Prop := (∃ (B : Option Addr) (d : Nat) (l' : List MeM), e = .returned (.slice B l'.length d) ∧ l'.map pM = l.map pM ∧ l'.length ≤ d ∧ (∀ a, B = some a → a = ⟨w.heap.size, 0, none⟩) ∧ w'.ownsRow w.heap.size 48 6 (.slice B l'.length d) l'.length (l'.flatMap meC) ∧ ∀ y ∈ l', NwM (w.heap.size + 1) w' y) ∧ Below w.heap.size w w'
set_option maxRecDepth 100000 in
theorem info_me : (Try.prog.info? 48).map (fun i => (i.zero, i.size, i.bytes)) = some (some (.agg (meC zM).toArray), 6, 72) := by kernel_rfl
set_option maxRecDepth 100000 in
set_option maxHeartbeats 8000000 in
set_option linter.all false in
theorem copied_me (A : Option Addr) (c : Nat) (l : List MeM) (w : World) (hr : Rd w A (l.flatMap meC)) (hA : A = none → c = 0) (hl : l.length ≤ 100000)
  (HO : ∀ x ∈ l, ∀ v : World, Below w.heap.size w v → Calls Try.prog 86 #[.agg (meC x).toArray] v (CloMe x v)) :
  Calls Try.prog 85 #[.slice A l.length c, .func (.func 86) #[] #[]] w (CopMe l w) := by
 have heq := Lib.run_eql_slice_nil w 40 48 A l.length c 0 0 Try.underlying40
 rcases A with _ | a
 ·have hnil : l = [] := by
   rcases hr with h | ⟨a, h, _⟩
   ·have := congrArg List.length h
    rw [flat_len (f := meC) (k := 6) (fun _ => rfl)] at this
    exact List.length_eq_zero_iff.1 (by simp at this; omega)
   ·cases h
  subst hnil
  obtain rfl := hA rfl
  have HR := Lib.hid (show CopMe [] w (.returned (.slice none 0 0)) w from ⟨⟨none, 0, [], rfl, rfl, Nat.le_refl _, (fun _ h => by cases h), World.ownsRow_nil _ _ _ _, by simp⟩, Below.refl _ _⟩)
  clear HO hA hl hr
  simp only [List.length_nil] at heq ⊢
  go_enter Try.func85, Try.ntmps85
  go_wp2
  go_ret
  exact HR.out
 ·obtain ⟨i0, hi0, hz0, hz1, hz2⟩ := info_parts info_me
  obtain ⟨n, hn⟩ : ∃ n, n = l.length := ⟨_, rfl⟩
  rw [← hn] at hl heq ⊢
  obtain ⟨wm, hmk, hown0, hgr0⟩ := run_makeSlice_full (P := Try.prog) w w.heap.size 40 48 i0 _ 6 Try.underlying40 hi0 hz0 hz1 .i64 .i64 n (by omega) (by rw [hz2]; omega) (by simp only [maxLen]; omega) (Nat.le_refl _)
  rw [show (Value.agg (meC zM).toArray).cells = (meC zM).toArray from rfl, made_flat (C := meC) (K := 6) (fun _ => rfl) (by omega)] at hown0
  have hbm : Below w.heap.size w wm := (Below.refl _ _).grown hgr0 (Nat.le_refl _) (fun k hk => by cases hk)
  have hszm : w.heap.size < wm.heap.size := (hown0.lt w.heap.size rfl).2
  have hnI : (n : Int) ≤ 100000 := by omega
  have HN := Lib.hid hn; have HRD := Lib.hid hr; have HOO := Lib.hid HO; have HO0 := Lib.hid hown0; have HBM := Lib.hid hbm
  clear hr hn HO hA hown0 hgr0 hz0 hz1 hz2 hi0
  go_enter Try.func85, Try.ntmps85
  go_wp2
  go_loopw [15] (fun i wr => ∃ (k : Nat) (done : List MeM), i = .int .i64 (k : Int) ∧ k ≤ n ∧ done.length = k ∧ done.map pM = (l.take k).map pM ∧ (∀ y ∈ done, NwM (w.heap.size + 1) wr y) ∧ wr.ownsRow w.heap.size 48 6 (.slice (some ⟨w.heap.size, 0, none⟩) n n) n ((done ++ List.replicate (n - k) zM).flatMap meC) ∧ Below w.heap.size w wr) (fun i _ => n - (intOf i).toNat)
  case atStart => exact ⟨0, [], rfl, Nat.zero_le _, rfl, by simp, by simp, by simpa using HO0.out, HBM.out⟩
  case round =>
   obtain ⟨k, done, rfl, hk, hdl, hdp, hdn, hown, hbw⟩ := hrel
   have HB := Lib.hid hbw; have HDP := Lib.hid hdp; have HDN := Lib.hid hdn; have HOW := Lib.hid hown; have HDL := Lib.hid hdl
   have hgs : w.heap.size < wr.heap.size := (hown.lt w.heap.size rfl).2
   by_cases hlt : k < n
   ·have hltI : (k : Int) < (n : Int) := by omega
    obtain ⟨x, hx⟩ : ∃ x, l[k]? = some x := ⟨l[k]'(by rw [← HN.out]; exact hlt), List.getElem?_eq_getElem _⟩
    obtain ⟨a', ea, _, c0, c1, c2, c3, c4, c5⟩ := me_at (HRD.out.below hbw) hx
    cases ea
    have HX := Lib.hid hx
    have hal := hbw.alloc hbw.size (.cells (meC x).toArray 48)
    have hal1 : Below wr.heap.size wr (wr.alloc (.cells (meC x).toArray 48)) := (Below.refl _ _).alloc (Nat.le_refl _) _
    have HAL := Lib.hid hal; have HAL1 := Lib.hid hal1
    have HCL := Lib.hid (HOO.out x (List.mem_of_getElem? hx) _ hal)
    dsimp only [meC] at HCL HAL HAL1
    clear hx hal hal1 hdp hdn hown hbw
    go_wp2_with fail
    refine HCL.out.mono ?_
    rintro e w4 ⟨⟨y, rfl, hyp, hyn⟩, hb4⟩
    have hb5 := HAL1.out.trans (hb4.mono HAL1.out.size)
    have hyn' := hyn.mono (c := w.heap.size + 1) (by have := HAL1.out.size; omega)
    have o0 := own_below HOW.out hb5
    have HD4 := Lib.hid (fun z hz => (HDN.out z hz).below hb5)
    have hml : k < (done ++ List.replicate (n - k) zM).length := by rw [List.length_append, List.length_replicate, HDL.out]; omega
    obtain ⟨q, hq⟩ : ∃ q, (done ++ List.replicate (n - k) zM)[k]? = some q := ⟨_, List.getElem?_eq_getElem hml⟩
    have y0 := flat_at (f := meC) (k := 6) (fun _ => rfl) hq (t := 0) (u := (meC q)[0]'(by simp [meC])) (by simp [meC])
    rw [Nat.add_zero] at y0
    have d0 : w4.cell? ⟨w.heap.size, k * 6, none⟩ = some _ := (o0.cellAt (k * 6) (by omega)).trans y0
    have f0 := o0.frozenAt (k * 6)
    have y1 := flat_at (f := meC) (k := 6) (fun _ => rfl) hq (t := 1) (u := (meC q)[1]'(by simp [meC])) (by simp [meC])
    have d1 : w4.cell? ⟨w.heap.size, k * 6 + 1, none⟩ = some _ := (o0.cellAt (k * 6 + 1) (by omega)).trans y1
    have f1 := o0.frozenAt (k * 6 + 1)
    have y2 := flat_at (f := meC) (k := 6) (fun _ => rfl) hq (t := 2) (u := (meC q)[2]'(by simp [meC])) (by simp [meC])
    have d2 : w4.cell? ⟨w.heap.size, k * 6 + 2, none⟩ = some _ := (o0.cellAt (k * 6 + 2) (by omega)).trans y2
    have f2 := o0.frozenAt (k * 6 + 2)
    have y3 := flat_at (f := meC) (k := 6) (fun _ => rfl) hq (t := 3) (u := (meC q)[3]'(by simp [meC])) (by simp [meC])
    have d3 : w4.cell? ⟨w.heap.size, k * 6 + 3, none⟩ = some _ := (o0.cellAt (k * 6 + 3) (by omega)).trans y3
    have f3 := o0.frozenAt (k * 6 + 3)
    have y4 := flat_at (f := meC) (k := 6) (fun _ => rfl) hq (t := 4) (u := (meC q)[4]'(by simp [meC])) (by simp [meC])
    have d4 : w4.cell? ⟨w.heap.size, k * 6 + 4, none⟩ = some _ := (o0.cellAt (k * 6 + 4) (by omega)).trans y4
    have f4 := o0.frozenAt (k * 6 + 4)
    have y5 := flat_at (f := meC) (k := 6) (fun _ => rfl) hq (t := 5) (u := (meC q)[5]'(by simp [meC])) (by simp [meC])
    have d5 : w4.cell? ⟨w.heap.size, k * 6 + 5, none⟩ = some _ := (o0.cellAt (k * 6 + 5) (by omega)).trans y5
    have f5 := o0.frozenAt (k * 6 + 5)
    obtain ⟨o1, g1⟩ := o0.stored (k * 6) (.string ⟨y.nm.toArray⟩)
    obtain ⟨o2, g2⟩ := o1.stored (k * 6 + 1) (.string ⟨y.ds.toArray⟩)
    obtain ⟨o3, g3⟩ := o2.stored (k * 6 + 2) (.bool y.st)
    obtain ⟨o4, g4⟩ := o3.stored (k * 6 + 3) (.bool y.ab)
    obtain ⟨o5, g5⟩ := o4.stored (k * 6 + 4) (.int .i64 y.rg)
    obtain ⟨o6, g6⟩ := o5.stored (k * 6 + 5) (.slice y.A y.co.length y.c)
    have hset := setL_flat (C := meC) (K := 6) (fun _ => rfl) hml y
    have hmx : (done ++ List.replicate (n - k) zM).set k y = (done ++ [y]) ++ List.replicate (n - (k + 1)) zM := by have := mix_set (Z := zM) (y := y) (show done.length < n by rw [HDL.out]; exact hlt); rwa [HDL.out] at this
    rw [hmx] at hset
    rw [show ((((((((done ++ List.replicate (n - k) zM).flatMap meC).set (k * 6) (.string ⟨y.nm.toArray⟩)).set (k * 6 + 1) (.string ⟨y.ds.toArray⟩)).set (k * 6 + 2) (.bool y.st)).set (k * 6 + 3) (.bool y.ab)).set (k * 6 + 4) (.int .i64 y.rg)).set (k * 6 + 5) (.slice y.A y.co.length y.c)) = ((done ++ [y]) ++ List.replicate (n - (k + 1)) zM).flatMap meC from hset] at o6
    have HOX := Lib.hid o6
    have hgall := (gb_trans (gb_trans (gb_trans (gb_trans (gb_trans g1 g2) g3) g4) g5) g6)
    have HDX := Lib.hid (show ∀ z ∈ done ++ [y], NwM (w.heap.size + 1) _ z from fun z hz => by
     rcases List.mem_append.1 hz with h | h
     ·exact (HD4.out z h).gb (Nat.lt_succ_self _) hgall
     ·simp at h; subst h; exact hyn'.gb (Nat.lt_succ_self _) hgall)
    have HBX := Lib.hid (((((((HB.out.trans (hb5.mono HB.out.size)).setCell (p := ⟨w.heap.size, k * 6, none⟩) (Nat.le_refl _) (.string ⟨y.nm.toArray⟩)).setCell (p := ⟨w.heap.size, k * 6 + 1, none⟩) (Nat.le_refl _) (.string ⟨y.ds.toArray⟩)).setCell (p := ⟨w.heap.size, k * 6 + 2, none⟩) (Nat.le_refl _) (.bool y.st)).setCell (p := ⟨w.heap.size, k * 6 + 3, none⟩) (Nat.le_refl _) (.bool y.ab)).setCell (p := ⟨w.heap.size, k * 6 + 4, none⟩) (Nat.le_refl _) (.int .i64 y.rg)).setCell (p := ⟨w.heap.size, k * 6 + 5, none⟩) (Nat.le_refl _) (.slice y.A y.co.length y.c))
    have HYP := Lib.hid hyp
    clear hb4 hb5 o0 o1 o2 o3 o4 o5 o6 g1 g2 g3 g4 g5 g6 hyn hyn' hyp hset hmx hgall hml hq c0 c1 c2 c3 c4 c5 y0 y1 y2 y3 y4 y5
    dsimp only [meC]
    go_wp2
    go_roundw
    case rel => exact ⟨k + 1, done ++ [y], by go_num, by omega, by rw [List.length_append, HDL.out]; rfl, by rw [List.take_add_one, HX.out, List.map_append, List.map_append, HDP.out]; simp [HYP.out], HDX.out, HOX.out, HBX.out⟩
    case measure => simp [intOf]; omega
   ·have hltI : ¬ (k : Int) < (n : Int) := by omega
    have hkn : k = n := by omega
    have ho := HOW.out
    rw [show n - k = 0 by omega, List.replicate_zero, List.append_nil] at ho
    have hln : done.length = n := by rw [HDL.out]; exact hkn
    have HR := Lib.hid (show CopMe l w (.returned (.slice (some ⟨w.heap.size, 0, none⟩) n n)) wr from
     ⟨⟨some ⟨w.heap.size, 0, none⟩, n, done, by rw [hln], by rw [HDP.out, List.take_of_length_le (by rw [← HN.out]; omega)], by omega, fun a ha => by cases ha; rfl, by rw [hln]; exact ho, fun y hy => HDN.out y hy⟩, HB.out⟩)
    clear ho hown hbw hdn hdp hln
    go_wp2
    go_ret
    exact HR.out

/-- what becomes of one -/
def CloCl (x : ClM) (v : World) (e : Ending) (w' : World) : Prop := (∃ y, e = .returned (.agg (clC y).toArray) ∧ pC y = pC x ∧ NwC v.heap.size w' y) ∧ Below v.heap.size v w'
/-- what becomes of all -/
def CopCl (l : List ClM) (w : World) (e : Ending) (w' : World) : Prop := (∃ (B : Option Addr) (d : Nat) (l' : List ClM), e = .returned (.slice B l'.length d) ∧ l'.map pC = l.map pC ∧ l'.length ≤ d ∧ (∀ a, B = some a → a = ⟨w.heap.size, 0, none⟩) ∧ w'.ownsRow w.heap.size 42 7 (.slice B l'.length d) l'.length (l'.flatMap clC) ∧ ∀ y ∈ l', NwC (w.heap.size + 1) w' y) ∧ Below w.heap.size w w'
set_option maxRecDepth 100000 in
theorem info_cl : (Try.prog.info? 42).map (fun i => (i.zero, i.size, i.bytes)) = some (some (.agg (clC zC).toArray), 7, 112) := by kernel_rfl
set_option maxRecDepth 100000 in
set_option maxHeartbeats 8000000 in
set_option linter.all false in
theorem copied_cl (A : Option Addr) (c : Nat) (l : List ClM) (w : World) (hr : Rd w A (l.flatMap clC)) (hA : A = none → c = 0) (hl : l.length ≤ 100000)
  (HO : ∀ x ∈ l, ∀ v : World, Below w.heap.size w v → Calls Try.prog 83 #[.agg (clC x).toArray] v (CloCl x v)) :
  Calls Try.prog 82 #[.slice A l.length c, .func (.func 83) #[] #[]] w (CopCl l w) := by
 have heq := Lib.run_eql_slice_nil w 22 42 A l.length c 0 0 Try.underlying22
 rcases A with _ | a
 ·have hnil : l = [] := by
   rcases hr with h | ⟨a, h, _⟩
   ·have := congrArg List.length h
    rw [flat_len (f := clC) (k := 7) (fun _ => rfl)] at this
    exact List.length_eq_zero_iff.1 (by simp at this; omega)
   ·cases h
  subst hnil
  obtain rfl := hA rfl
  have HR := Lib.hid (show CopCl [] w (.returned (.slice none 0 0)) w from ⟨⟨none, 0, [], rfl, rfl, Nat.le_refl _, (fun _ h => by cases h), World.ownsRow_nil _ _ _ _, by simp⟩, Below.refl _ _⟩)
  clear HO hA hl hr
  simp only [List.length_nil] at heq ⊢
  go_enter Try.func82, Try.ntmps82
  go_wp2
  go_ret
  exact HR.out
 ·obtain ⟨i0, hi0, hz0, hz1, hz2⟩ := info_parts info_cl
  obtain ⟨n, hn⟩ : ∃ n, n = l.length := ⟨_, rfl⟩
  rw [← hn] at hl heq ⊢
  obtain ⟨wm, hmk, hown0, hgr0⟩ := run_makeSlice_full (P := Try.prog) w w.heap.size 22 42 i0 _ 7 Try.underlying22 hi0 hz0 hz1 .i64 .i64 n (by omega) (by rw [hz2]; omega) (by simp only [maxLen]; omega) (Nat.le_refl _)
  rw [show (Value.agg (clC zC).toArray).cells = (clC zC).toArray from rfl, made_flat (C := clC) (K := 7) (fun _ => rfl) (by omega)] at hown0
  have hbm : Below w.heap.size w wm := (Below.refl _ _).grown hgr0 (Nat.le_refl _) (fun k hk => by cases hk)
  have hszm : w.heap.size < wm.heap.size := (hown0.lt w.heap.size rfl).2
  have hnI : (n : Int) ≤ 100000 := by omega
  have HN := Lib.hid hn; have HRD := Lib.hid hr; have HOO := Lib.hid HO; have HO0 := Lib.hid hown0; have HBM := Lib.hid hbm
  clear hr hn HO hA hown0 hgr0 hz0 hz1 hz2 hi0
  go_enter Try.func82, Try.ntmps82
  go_wp2
  go_loopw [15] (fun i wr => ∃ (k : Nat) (done : List ClM), i = .int .i64 (k : Int) ∧ k ≤ n ∧ done.length = k ∧ done.map pC = (l.take k).map pC ∧ (∀ y ∈ done, NwC (w.heap.size + 1) wr y) ∧ wr.ownsRow w.heap.size 42 7 (.slice (some ⟨w.heap.size, 0, none⟩) n n) n ((done ++ List.replicate (n - k) zC).flatMap clC) ∧ Below w.heap.size w wr) (fun i _ => n - (intOf i).toNat)
  case atStart => exact ⟨0, [], rfl, Nat.zero_le _, rfl, by simp, by simp, by simpa using HO0.out, HBM.out⟩
  case round =>
   obtain ⟨k, done, rfl, hk, hdl, hdp, hdn, hown, hbw⟩ := hrel
   have HB := Lib.hid hbw; have HDP := Lib.hid hdp; have HDN := Lib.hid hdn; have HOW := Lib.hid hown; have HDL := Lib.hid hdl
   have hgs : w.heap.size < wr.heap.size := (hown.lt w.heap.size rfl).2
   by_cases hlt : k < n
   ·have hltI : (k : Int) < (n : Int) := by omega
    obtain ⟨x, hx⟩ : ∃ x, l[k]? = some x := ⟨l[k]'(by rw [← HN.out]; exact hlt), List.getElem?_eq_getElem _⟩
    obtain ⟨a', ea, _, c0, c1, c2, c3, c4, c5, c6⟩ := cl_at (HRD.out.below hbw) hx
    cases ea
    have HX := Lib.hid hx
    have hal := hbw.alloc hbw.size (.cells (clC x).toArray 42)
    have hal1 : Below wr.heap.size wr (wr.alloc (.cells (clC x).toArray 42)) := (Below.refl _ _).alloc (Nat.le_refl _) _
    have HAL := Lib.hid hal; have HAL1 := Lib.hid hal1
    have HCL := Lib.hid (HOO.out x (List.mem_of_getElem? hx) _ hal)
    dsimp only [clC] at HCL HAL HAL1
    clear hx hal hal1 hdp hdn hown hbw
    go_wp2_with fail
    refine HCL.out.mono ?_
    rintro e w4 ⟨⟨y, rfl, hyp, hyn⟩, hb4⟩
    have hb5 := HAL1.out.trans (hb4.mono HAL1.out.size)
    have hyn' := hyn.mono (c := w.heap.size + 1) (by have := HAL1.out.size; omega)
    have o0 := own_below HOW.out hb5
    have HD4 := Lib.hid (fun z hz => (HDN.out z hz).below hb5)
    have hml : k < (done ++ List.replicate (n - k) zC).length := by rw [List.length_append, List.length_replicate, HDL.out]; omega
    obtain ⟨q, hq⟩ : ∃ q, (done ++ List.replicate (n - k) zC)[k]? = some q := ⟨_, List.getElem?_eq_getElem hml⟩
    have y0 := flat_at (f := clC) (k := 7) (fun _ => rfl) hq (t := 0) (u := (clC q)[0]'(by simp [clC])) (by simp [clC])
    rw [Nat.add_zero] at y0
    have d0 : w4.cell? ⟨w.heap.size, k * 7, none⟩ = some _ := (o0.cellAt (k * 7) (by omega)).trans y0
    have f0 := o0.frozenAt (k * 7)
    have y1 := flat_at (f := clC) (k := 7) (fun _ => rfl) hq (t := 1) (u := (clC q)[1]'(by simp [clC])) (by simp [clC])
    have d1 : w4.cell? ⟨w.heap.size, k * 7 + 1, none⟩ = some _ := (o0.cellAt (k * 7 + 1) (by omega)).trans y1
    have f1 := o0.frozenAt (k * 7 + 1)
    have y2 := flat_at (f := clC) (k := 7) (fun _ => rfl) hq (t := 2) (u := (clC q)[2]'(by simp [clC])) (by simp [clC])
    have d2 : w4.cell? ⟨w.heap.size, k * 7 + 2, none⟩ = some _ := (o0.cellAt (k * 7 + 2) (by omega)).trans y2
    have f2 := o0.frozenAt (k * 7 + 2)
    have y3 := flat_at (f := clC) (k := 7) (fun _ => rfl) hq (t := 3) (u := (clC q)[3]'(by simp [clC])) (by simp [clC])
    have d3 : w4.cell? ⟨w.heap.size, k * 7 + 3, none⟩ = some _ := (o0.cellAt (k * 7 + 3) (by omega)).trans y3
    have f3 := o0.frozenAt (k * 7 + 3)
    have y4 := flat_at (f := clC) (k := 7) (fun _ => rfl) hq (t := 4) (u := (clC q)[4]'(by simp [clC])) (by simp [clC])
    have d4 : w4.cell? ⟨w.heap.size, k * 7 + 4, none⟩ = some _ := (o0.cellAt (k * 7 + 4) (by omega)).trans y4
    have f4 := o0.frozenAt (k * 7 + 4)
    have y5 := flat_at (f := clC) (k := 7) (fun _ => rfl) hq (t := 5) (u := (clC q)[5]'(by simp [clC])) (by simp [clC])
    have d5 : w4.cell? ⟨w.heap.size, k * 7 + 5, none⟩ = some _ := (o0.cellAt (k * 7 + 5) (by omega)).trans y5
    have f5 := o0.frozenAt (k * 7 + 5)
    have y6 := flat_at (f := clC) (k := 7) (fun _ => rfl) hq (t := 6) (u := (clC q)[6]'(by simp [clC])) (by simp [clC])
    have d6 : w4.cell? ⟨w.heap.size, k * 7 + 6, none⟩ = some _ := (o0.cellAt (k * 7 + 6) (by omega)).trans y6
    have f6 := o0.frozenAt (k * 7 + 6)
    obtain ⟨o1, g1⟩ := o0.stored (k * 7) (.string ⟨y.nm.toArray⟩)
    obtain ⟨o2, g2⟩ := o1.stored (k * 7 + 1) (.string ⟨y.su.toArray⟩)
    obtain ⟨o3, g3⟩ := o2.stored (k * 7 + 2) (.bool y.fc)
    obtain ⟨o4, g4⟩ := o3.stored (k * 7 + 3) (.bool y.ab)
    obtain ⟨o5, g5⟩ := o4.stored (k * 7 + 4) (.slice y.A1 y.is.length y.c1)
    obtain ⟨o6, g6⟩ := o5.stored (k * 7 + 5) (.slice y.A2 y.fs.length y.c2)
    obtain ⟨o7, g7⟩ := o6.stored (k * 7 + 6) (.slice y.A3 y.ms.length y.c3)
    have hset := setL_flat (C := clC) (K := 7) (fun _ => rfl) hml y
    have hmx : (done ++ List.replicate (n - k) zC).set k y = (done ++ [y]) ++ List.replicate (n - (k + 1)) zC := by have := mix_set (Z := zC) (y := y) (show done.length < n by rw [HDL.out]; exact hlt); rwa [HDL.out] at this
    rw [hmx] at hset
    rw [show (((((((((done ++ List.replicate (n - k) zC).flatMap clC).set (k * 7) (.string ⟨y.nm.toArray⟩)).set (k * 7 + 1) (.string ⟨y.su.toArray⟩)).set (k * 7 + 2) (.bool y.fc)).set (k * 7 + 3) (.bool y.ab)).set (k * 7 + 4) (.slice y.A1 y.is.length y.c1)).set (k * 7 + 5) (.slice y.A2 y.fs.length y.c2)).set (k * 7 + 6) (.slice y.A3 y.ms.length y.c3)) = ((done ++ [y]) ++ List.replicate (n - (k + 1)) zC).flatMap clC from hset] at o7
    have HOX := Lib.hid o7
    have hgall := (gb_trans (gb_trans (gb_trans (gb_trans (gb_trans (gb_trans g1 g2) g3) g4) g5) g6) g7)
    have HDX := Lib.hid (show ∀ z ∈ done ++ [y], NwC (w.heap.size + 1) _ z from fun z hz => by
     rcases List.mem_append.1 hz with h | h
     ·exact (HD4.out z h).gb (Nat.lt_succ_self _) hgall
     ·simp at h; subst h; exact hyn'.gb (Nat.lt_succ_self _) hgall)
    have HBX := Lib.hid ((((((((HB.out.trans (hb5.mono HB.out.size)).setCell (p := ⟨w.heap.size, k * 7, none⟩) (Nat.le_refl _) (.string ⟨y.nm.toArray⟩)).setCell (p := ⟨w.heap.size, k * 7 + 1, none⟩) (Nat.le_refl _) (.string ⟨y.su.toArray⟩)).setCell (p := ⟨w.heap.size, k * 7 + 2, none⟩) (Nat.le_refl _) (.bool y.fc)).setCell (p := ⟨w.heap.size, k * 7 + 3, none⟩) (Nat.le_refl _) (.bool y.ab)).setCell (p := ⟨w.heap.size, k * 7 + 4, none⟩) (Nat.le_refl _) (.slice y.A1 y.is.length y.c1)).setCell (p := ⟨w.heap.size, k * 7 + 5, none⟩) (Nat.le_refl _) (.slice y.A2 y.fs.length y.c2)).setCell (p := ⟨w.heap.size, k * 7 + 6, none⟩) (Nat.le_refl _) (.slice y.A3 y.ms.length y.c3))
    have HYP := Lib.hid hyp
    clear hb4 hb5 o0 o1 o2 o3 o4 o5 o6 o7 g1 g2 g3 g4 g5 g6 g7 hyn hyn' hyp hset hmx hgall hml hq c0 c1 c2 c3 c4 c5 c6 y0 y1 y2 y3 y4 y5 y6
    dsimp only [clC]
    go_wp2
    go_roundw
    case rel => exact ⟨k + 1, done ++ [y], by go_num, by omega, by rw [List.length_append, HDL.out]; rfl, by rw [List.take_add_one, HX.out, List.map_append, List.map_append, HDP.out]; simp [HYP.out], HDX.out, HOX.out, HBX.out⟩
    case measure => simp [intOf]; omega
   ·have hltI : ¬ (k : Int) < (n : Int) := by omega
    have hkn : k = n := by omega
    have ho := HOW.out
    rw [show n - k = 0 by omega, List.replicate_zero, List.append_nil] at ho
    have hln : done.length = n := by rw [HDL.out]; exact hkn
    have HR := Lib.hid (show CopCl l w (.returned (.slice (some ⟨w.heap.size, 0, none⟩) n n)) wr from
     ⟨⟨some ⟨w.heap.size, 0, none⟩, n, done, by rw [hln], by rw [HDP.out, List.take_of_length_le (by rw [← HN.out]; omega)], by omega, fun a ha => by cases ha; rfl, by rw [hln]; exact ho, fun y hy => HDN.out y hy⟩, HB.out⟩)
    clear ho hown hbw hdn hdp hln
    go_wp2
    go_ret
    exact HR.out

end Go.Proofs.Ytokaecnhjdgjgaa.prg

/- Layer 8: a clone of a program without Ifaces, Fields, Args and Names: the program's answer. -/
namespace Go.Proofs.Ytokaecnhjdgjgaa.prg
open Go.RowKit
open words kindp opp op kind word

set_option maxRecDepth 100000 in
set_option maxHeartbeats 8000000 in
set_option linter.all false in
theorem nil_int (w : World) : Calls Try.prog 89 #[.slice none 0 0] w fun e w' => e = .returned (.slice none 0 0) ∧ w' = w := by
 have heq := Lib.run_eql_slice_nil w 53 3 none 0 0 0 0 Try.underlying53
 go_enter Try.func89, Try.ntmps89
 go_wp2
 go_ret
 exact ⟨rfl, rfl⟩

set_option maxRecDepth 100000 in
set_option maxHeartbeats 8000000 in
set_option linter.all false in
theorem nil_str (w : World) : Calls Try.prog 81 #[.slice none 0 0] w fun e w' => e = .returned (.slice none 0 0) ∧ w' = w := by
 have heq := Lib.run_eql_slice_nil w 23 9 none 0 0 0 0 Try.underlying23
 go_enter Try.func81, Try.ntmps81
 go_wp2
 go_ret
 exact ⟨rfl, rfl⟩

set_option maxRecDepth 100000 in
set_option maxHeartbeats 8000000 in
set_option linter.all false in
theorem nil_fi (w : World) : Calls Try.prog 84 #[.slice none 0 0] w fun e w' => e = .returned (.slice none 0 0) ∧ w' = w := by
 have heq := Lib.run_eql_slice_nil w 39 74 none 0 0 0 0 Try.underlying39
 go_enter Try.func84, Try.ntmps84
 go_wp2
 go_ret
 exact ⟨rfl, rfl⟩

set_option maxRecDepth 100000 in
set_option maxHeartbeats 8000000 in
set_option linter.all false in
theorem cloI_w (x : InM) (v : World) (hb : InBd x) (hA : x.A = none) (hc : x.c = 0) (ha : x.i.ar = []) : Calls Try.prog 88 #[.agg (inC x).toArray] v (CloIn x v) := by
 have HPO := Lib.hid (fun (w' : World) (k : Below v.heap.size v w') => show CloIn x v (.returned (.agg (inC x).toArray)) w' from ⟨⟨x, rfl, rfl, ⟨by rw [ha, hc]; exact Nat.le_refl _, by rw [ha]; exact Rd.nil _ _⟩, hb, by rw [hA]; intro a h; cases h⟩, k⟩)
 obtain ⟨⟨o, a, b, cc, k, cl, nm, ds, ar⟩, A, c⟩ := x
 dsimp only at hA hc ha
 subst hA; subst hc; subst ha
 unfold inC at HPO ⊢
 dsimp only [List.length_nil] at HPO ⊢
 obtain ⟨V, hV⟩ : ∃ V, V = (v.alloc (.cells #[.int .i64 o, .int .i64 a, .int .i64 b, .int .i64 cc, .int .i64 k, .string ⟨cl.toArray⟩, .string ⟨nm.toArray⟩, .string ⟨ds.toArray⟩, .slice none 0 0] 55)).alloc (.cells #[.int .i64 0, .int .i64 0, .int .i64 0, .int .i64 0, .int .i64 0, .string ⟨#[]⟩, .string ⟨#[]⟩, .string ⟨#[]⟩, .slice none 0 0] 55) := ⟨_, rfl⟩
 have hal : Below v.heap.size v V := by rw [hV]; exact ((Below.refl _ v).alloc (Nat.le_refl _) _).alloc (by simp) _
 have hbi : V.heap[v.heap.size]? = some (.cells #[.int .i64 o, .int .i64 a, .int .i64 b, .int .i64 cc, .int .i64 k, .string ⟨cl.toArray⟩, .string ⟨nm.toArray⟩, .string ⟨ds.toArray⟩, .slice none 0 0] 55 (0, 0)) := by rw [hV]; exact (Below.heap_alloc _ _ _ (by simp)).trans (heap_alloc_new v _)
 have hbj : V.heap[v.heap.size + 1]? = some (.cells #[.int .i64 0, .int .i64 0, .int .i64 0, .int .i64 0, .int .i64 0, .string ⟨#[]⟩, .string ⟨#[]⟩, .string ⟨#[]⟩, .slice none 0 0] 55 (0, 0)) := by
  rw [hV]
  have := heap_alloc_new (v.alloc (.cells #[.int .i64 o, .int .i64 a, .int .i64 b, .int .i64 cc, .int .i64 k, .string ⟨cl.toArray⟩, .string ⟨nm.toArray⟩, .string ⟨ds.toArray⟩, .slice none 0 0] 55)) (.cells #[.int .i64 0, .int .i64 0, .int .i64 0, .int .i64 0, .int .i64 0, .string ⟨#[]⟩, .string ⟨#[]⟩, .string ⟨#[]⟩, .slice none 0 0] 55)
  rwa [World.size_alloc] at this
 have HV := Lib.hid hV; have HAL := Lib.hid hal
 have d0 : V.cell? ⟨v.heap.size, 0, none⟩ = some (.int .i64 o) := cell_of_row _ _ 0 _ _ _ hbi
 have d1 : V.cell? ⟨v.heap.size, 1, none⟩ = some (.int .i64 a) := cell_of_row _ _ 1 _ _ _ hbi
 have d2 : V.cell? ⟨v.heap.size, 2, none⟩ = some (.int .i64 b) := cell_of_row _ _ 2 _ _ _ hbi
 have d3 : V.cell? ⟨v.heap.size, 3, none⟩ = some (.int .i64 cc) := cell_of_row _ _ 3 _ _ _ hbi
 have d4 : V.cell? ⟨v.heap.size, 4, none⟩ = some (.int .i64 k) := cell_of_row _ _ 4 _ _ _ hbi
 have d5 : V.cell? ⟨v.heap.size, 5, none⟩ = some (.string ⟨cl.toArray⟩) := cell_of_row _ _ 5 _ _ _ hbi
 have d6 : V.cell? ⟨v.heap.size, 6, none⟩ = some (.string ⟨nm.toArray⟩) := cell_of_row _ _ 6 _ _ _ hbi
 have d7 : V.cell? ⟨v.heap.size, 7, none⟩ = some (.string ⟨ds.toArray⟩) := cell_of_row _ _ 7 _ _ _ hbi
 have d8 : V.cell? ⟨v.heap.size, 8, none⟩ = some (.slice none 0 0) := cell_of_row _ _ 8 _ _ _ hbi
 have df8 := frozen_of_row _ _ 8 _ _ hbi
 have hb8 : (V.setCell ⟨v.heap.size, 8, none⟩ (.slice none 0 0)).heap[v.heap.size]? = some (.cells #[.int .i64 o, .int .i64 a, .int .i64 b, .int .i64 cc, .int .i64 k, .string ⟨cl.toArray⟩, .string ⟨nm.toArray⟩, .string ⟨ds.toArray⟩, .slice none 0 0] 55 (0, 0)) := heap_setCell_same V v.heap.size 8 _ _ (.slice none 0 0) hbi
 have hj8 : (V.setCell ⟨v.heap.size, 8, none⟩ (.slice none 0 0)).heap[v.heap.size + 1]? = some (.cells #[.int .i64 0, .int .i64 0, .int .i64 0, .int .i64 0, .int .i64 0, .string ⟨#[]⟩, .string ⟨#[]⟩, .string ⟨#[]⟩, .slice none 0 0] 55 (0, 0)) := (Below.heap_setCell _ _ _ _ (by simp)).trans hbj
 have e0 : (V.setCell ⟨v.heap.size, 8, none⟩ (.slice none 0 0)).cell? ⟨v.heap.size, 0, none⟩ = some (.int .i64 o) := cell_of_row _ _ 0 _ _ _ hb8
 have e1 : (V.setCell ⟨v.heap.size, 8, none⟩ (.slice none 0 0)).cell? ⟨v.heap.size, 1, none⟩ = some (.int .i64 a) := cell_of_row _ _ 1 _ _ _ hb8
 have e2 : (V.setCell ⟨v.heap.size, 8, none⟩ (.slice none 0 0)).cell? ⟨v.heap.size, 2, none⟩ = some (.int .i64 b) := cell_of_row _ _ 2 _ _ _ hb8
 have e3 : (V.setCell ⟨v.heap.size, 8, none⟩ (.slice none 0 0)).cell? ⟨v.heap.size, 3, none⟩ = some (.int .i64 cc) := cell_of_row _ _ 3 _ _ _ hb8
 have e4 : (V.setCell ⟨v.heap.size, 8, none⟩ (.slice none 0 0)).cell? ⟨v.heap.size, 4, none⟩ = some (.int .i64 k) := cell_of_row _ _ 4 _ _ _ hb8
 have e5 : (V.setCell ⟨v.heap.size, 8, none⟩ (.slice none 0 0)).cell? ⟨v.heap.size, 5, none⟩ = some (.string ⟨cl.toArray⟩) := cell_of_row _ _ 5 _ _ _ hb8
 have e6 : (V.setCell ⟨v.heap.size, 8, none⟩ (.slice none 0 0)).cell? ⟨v.heap.size, 6, none⟩ = some (.string ⟨nm.toArray⟩) := cell_of_row _ _ 6 _ _ _ hb8
 have e7 : (V.setCell ⟨v.heap.size, 8, none⟩ (.slice none 0 0)).cell? ⟨v.heap.size, 7, none⟩ = some (.string ⟨ds.toArray⟩) := cell_of_row _ _ 7 _ _ _ hb8
 have e8 : (V.setCell ⟨v.heap.size, 8, none⟩ (.slice none 0 0)).cell? ⟨v.heap.size, 8, none⟩ = some (.slice none 0 0) := cell_of_row _ _ 8 _ _ _ hb8
 have z0 : (V.setCell ⟨v.heap.size, 8, none⟩ (.slice none 0 0)).cell? ⟨v.heap.size + 1, 0, none⟩ = some (.int .i64 0) := cell_of_row _ _ 0 _ _ _ hj8
 have zf0 := frozen_of_row _ _ 0 _ _ hj8
 have z1 : (V.setCell ⟨v.heap.size, 8, none⟩ (.slice none 0 0)).cell? ⟨v.heap.size + 1, 1, none⟩ = some (.int .i64 0) := cell_of_row _ _ 1 _ _ _ hj8
 have zf1 := frozen_of_row _ _ 1 _ _ hj8
 have z2 : (V.setCell ⟨v.heap.size, 8, none⟩ (.slice none 0 0)).cell? ⟨v.heap.size + 1, 2, none⟩ = some (.int .i64 0) := cell_of_row _ _ 2 _ _ _ hj8
 have zf2 := frozen_of_row _ _ 2 _ _ hj8
 have z3 : (V.setCell ⟨v.heap.size, 8, none⟩ (.slice none 0 0)).cell? ⟨v.heap.size + 1, 3, none⟩ = some (.int .i64 0) := cell_of_row _ _ 3 _ _ _ hj8
 have zf3 := frozen_of_row _ _ 3 _ _ hj8
 have z4 : (V.setCell ⟨v.heap.size, 8, none⟩ (.slice none 0 0)).cell? ⟨v.heap.size + 1, 4, none⟩ = some (.int .i64 0) := cell_of_row _ _ 4 _ _ _ hj8
 have zf4 := frozen_of_row _ _ 4 _ _ hj8
 have z5 : (V.setCell ⟨v.heap.size, 8, none⟩ (.slice none 0 0)).cell? ⟨v.heap.size + 1, 5, none⟩ = some (.string ⟨#[]⟩) := cell_of_row _ _ 5 _ _ _ hj8
 have zf5 := frozen_of_row _ _ 5 _ _ hj8
 have z6 : (V.setCell ⟨v.heap.size, 8, none⟩ (.slice none 0 0)).cell? ⟨v.heap.size + 1, 6, none⟩ = some (.string ⟨#[]⟩) := cell_of_row _ _ 6 _ _ _ hj8
 have zf6 := frozen_of_row _ _ 6 _ _ hj8
 have z7 : (V.setCell ⟨v.heap.size, 8, none⟩ (.slice none 0 0)).cell? ⟨v.heap.size + 1, 7, none⟩ = some (.string ⟨#[]⟩) := cell_of_row _ _ 7 _ _ _ hj8
 have zf7 := frozen_of_row _ _ 7 _ _ hj8
 have z8 : (V.setCell ⟨v.heap.size, 8, none⟩ (.slice none 0 0)).cell? ⟨v.heap.size + 1, 8, none⟩ = some (.slice none 0 0) := cell_of_row _ _ 8 _ _ _ hj8
 have zf8 := frozen_of_row _ _ 8 _ _ hj8
 have s0 := heap_setCell_same _ (v.heap.size + 1) 0 _ _ (.int .i64 o) hj8
 have s1 := heap_setCell_same _ (v.heap.size + 1) 1 _ _ (.int .i64 a) s0
 have s2 := heap_setCell_same _ (v.heap.size + 1) 2 _ _ (.int .i64 b) s1
 have s3 := heap_setCell_same _ (v.heap.size + 1) 3 _ _ (.int .i64 cc) s2
 have s4 := heap_setCell_same _ (v.heap.size + 1) 4 _ _ (.int .i64 k) s3
 have s5 := heap_setCell_same _ (v.heap.size + 1) 5 _ _ (.string ⟨cl.toArray⟩) s4
 have s6 := heap_setCell_same _ (v.heap.size + 1) 6 _ _ (.string ⟨nm.toArray⟩) s5
 have s7 := heap_setCell_same _ (v.heap.size + 1) 7 _ _ (.string ⟨ds.toArray⟩) s6
 have s8 := heap_setCell_same _ (v.heap.size + 1) 8 _ _ (.slice none 0 0) s7
 obtain ⟨WF, hWF⟩ : ∃ WF, WF = ((((((((((V.setCell ⟨v.heap.size, 8, none⟩ (.slice none 0 0)).setCell ⟨v.heap.size + 1, 0, none⟩ (.int .i64 o)).setCell ⟨v.heap.size + 1, 1, none⟩ (.int .i64 a)).setCell ⟨v.heap.size + 1, 2, none⟩ (.int .i64 b)).setCell ⟨v.heap.size + 1, 3, none⟩ (.int .i64 cc)).setCell ⟨v.heap.size + 1, 4, none⟩ (.int .i64 k)).setCell ⟨v.heap.size + 1, 5, none⟩ (.string ⟨cl.toArray⟩)).setCell ⟨v.heap.size + 1, 6, none⟩ (.string ⟨nm.toArray⟩)).setCell ⟨v.heap.size + 1, 7, none⟩ (.string ⟨ds.toArray⟩)).setCell ⟨v.heap.size + 1, 8, none⟩ (.slice none 0 0)) := ⟨_, rfl⟩
 rw [← hWF] at s8
 have sF : WF.heap[v.heap.size + 1]? = some (.cells #[.int .i64 o, .int .i64 a, .int .i64 b, .int .i64 cc, .int .i64 k, .string ⟨cl.toArray⟩, .string ⟨nm.toArray⟩, .string ⟨ds.toArray⟩, .slice none 0 0] 55 (0, 0)) := by rw [s8]; simp
 have r0 : WF.cell? ⟨v.heap.size + 1, 0, none⟩ = some (.int .i64 o) := cell_of_row _ _ 0 _ _ _ sF
 have r1 : WF.cell? ⟨v.heap.size + 1, 1, none⟩ = some (.int .i64 a) := cell_of_row _ _ 1 _ _ _ sF
 have r2 : WF.cell? ⟨v.heap.size + 1, 2, none⟩ = some (.int .i64 b) := cell_of_row _ _ 2 _ _ _ sF
 have r3 : WF.cell? ⟨v.heap.size + 1, 3, none⟩ = some (.int .i64 cc) := cell_of_row _ _ 3 _ _ _ sF
 have r4 : WF.cell? ⟨v.heap.size + 1, 4, none⟩ = some (.int .i64 k) := cell_of_row _ _ 4 _ _ _ sF
 have r5 : WF.cell? ⟨v.heap.size + 1, 5, none⟩ = some (.string ⟨cl.toArray⟩) := cell_of_row _ _ 5 _ _ _ sF
 have r6 : WF.cell? ⟨v.heap.size + 1, 6, none⟩ = some (.string ⟨nm.toArray⟩) := cell_of_row _ _ 6 _ _ _ sF
 have r7 : WF.cell? ⟨v.heap.size + 1, 7, none⟩ = some (.string ⟨ds.toArray⟩) := cell_of_row _ _ 7 _ _ _ sF
 have r8 : WF.cell? ⟨v.heap.size + 1, 8, none⟩ = some (.slice none 0 0) := cell_of_row _ _ 8 _ _ _ sF
 have HBF := Lib.hid (show Below v.heap.size v WF from by rw [hWF]; exact ((((((((((HAL.out.setCell (p := ⟨v.heap.size, 8, none⟩) (Nat.le_refl _) (.slice none 0 0)).setCell (p := ⟨v.heap.size + 1, 0, none⟩) (by simp) (.int .i64 o)).setCell (p := ⟨v.heap.size + 1, 1, none⟩) (by simp) (.int .i64 a)).setCell (p := ⟨v.heap.size + 1, 2, none⟩) (by simp) (.int .i64 b)).setCell (p := ⟨v.heap.size + 1, 3, none⟩) (by simp) (.int .i64 cc)).setCell (p := ⟨v.heap.size + 1, 4, none⟩) (by simp) (.int .i64 k)).setCell (p := ⟨v.heap.size + 1, 5, none⟩) (by simp) (.string ⟨cl.toArray⟩)).setCell (p := ⟨v.heap.size + 1, 6, none⟩) (by simp) (.string ⟨nm.toArray⟩)).setCell (p := ⟨v.heap.size + 1, 7, none⟩) (by simp) (.string ⟨ds.toArray⟩)).setCell (p := ⟨v.heap.size + 1, 8, none⟩) (by simp) (.slice none 0 0)))
 have HWF := Lib.hid hWF
 have R0 := Lib.hid r0
 have R1 := Lib.hid r1
 have R2 := Lib.hid r2
 have R3 := Lib.hid r3
 have R4 := Lib.hid r4
 have R5 := Lib.hid r5
 have R6 := Lib.hid r6
 have R7 := Lib.hid r7
 have R8 := Lib.hid r8
 clear hV hal hbi hbj hb8 hj8 hWF hb sF s0 r0 s1 r1 s2 r2 s3 r3 s4 r4 s5 r5 s6 r6 s7 r7 s8 r8
 go_enter Try.func88, Try.ntmps88
 go_wp2_with fail
 try simp only [World.size_alloc]
 rw [← HV.out]
 (try go_wp2_with fail)
 refine (nil_int _).mono ?_
 rintro e v1 ⟨rfl, h1⟩
 subst h1
 go_wp2
 rw [← HWF.out]
 refine bodyPost_ret (v := .agg #[.int .i64 o, .int .i64 a, .int .i64 b, .int .i64 cc, .int .i64 k, .string ⟨cl.toArray⟩, .string ⟨nm.toArray⟩, .string ⟨ds.toArray⟩, .slice none 0 0]) ?_ rfl (HPO.out WF HBF.out)
 simp [results, Try.results88, go_sem, R0.out, R1.out, R2.out, R3.out, R4.out, R5.out, R6.out, R7.out, R8.out]

/-- what is cloned here: no Ifaces, Fields, Args -/
def PlI (x : InM) : Prop := x.A = none ∧ x.c = 0 ∧ x.i.ar = []
def PlM (m : MeM) : Prop := (m.A = none → m.c = 0) ∧ m.co.length ≤ 100000 ∧ ∀ y ∈ m.co, PlI y
def PlC (c : ClM) : Prop := (c.is = [] ∧ c.A1 = none ∧ c.c1 = 0) ∧ (c.fs = [] ∧ c.A2 = none ∧ c.c2 = 0) ∧ (c.A3 = none → c.c3 = 0) ∧ c.ms.length ≤ 100000 ∧ ∀ m ∈ c.ms, PlM m
theorem gb_set (w : World) (g j : Nat) (u : Value) : w.grownBy (w.setCell ⟨g, j, none⟩ u) (some g) := ⟨rfl, rfl, rfl, by simp, fun k _ hk => heap_setCell_other w ⟨g, j, none⟩ k u (fun e => hk (by simp [e]))⟩
theorem bd_in {x y : InM} (h : pI y = pI x) (hb : InBd x) : InBd y := by unfold pI at h; unfold InBd at *; rw [h]; exact hb
theorem me_eq {m k : MeM} (h1 : m.nm = k.nm) (h2 : m.ds = k.ds) (h3 : m.st = k.st) (h4 : m.ab = k.ab) (h5 : m.rg = k.rg) (h6 : m.co.map pI = k.co.map pI) : pM m = pM k := by unfold pM; rw [h1, h2, h3, h4, h5, h6]
theorem rd_own {w : World} {base : Nat} {e : TypeId} {size : Nat} {B : Option Addr} {n d : Nat} {xs : List Value} (h : w.ownsRow base e size (.slice B n d) n xs) : Rd w B xs := by
 obtain ⟨A', c', e1, _, _, hrd⟩ := own_rd h
 cases e1
 exact hrd

set_option maxRecDepth 100000 in
set_option maxHeartbeats 8000000 in
set_option linter.all false in
theorem cloM_w (x : MeM) (v : World) (hk : MeOk v x) (hb : MeBd x) (hp : PlM x) : Calls Try.prog 86 #[.agg (meC x).toArray] v (CloMe x v) := by
 have HK := Lib.hid hk; have HB := Lib.hid hb; have HP := Lib.hid hp
 have HCP := Lib.hid (fun w (h : Below v.heap.size v w) => copied_in x.A x.c x.co w (hk.2.1.below h) hp.1 hp.2.1 (fun y hy u hu => cloI_w y u (hb.2.2.2 y hy) (hp.2.2 y hy).1 (hp.2.2 y hy).2.1 (hp.2.2 y hy).2.2))
 have HPO := Lib.hid (fun (B : Option Addr) (d : Nat) (l' : List InM) (w' : World) (h1 : l'.map pI = x.co.map pI) (h2 : l'.length ≤ d) (h3 : Fr v.heap.size B) (h4 : Rd w' B (l'.flatMap inC)) (h5 : ∀ y ∈ l', NwI v.heap.size w' y) (k : Below v.heap.size v w') =>
  show CloMe x v (.returned (.agg (meC ⟨x.nm, x.ds, x.st, x.ab, x.rg, l', B, d⟩).toArray)) w' from
   ⟨⟨_, rfl, me_eq rfl rfl rfl rfl rfl h1, ⟨h2, h4, fun y hy => (h5 y hy).1⟩, ⟨hb.1, hb.2.1, by have := congrArg List.length h1; simp only [List.length_map] at this; rw [this]; exact hb.2.2.1, fun y hy => (h5 y hy).2.1⟩, h3, fun y hy => (h5 y hy).2.2⟩, k⟩)
 obtain ⟨nm, ds, st, ab, rg, co, A, c⟩ := x
 unfold meC at HPO ⊢
 dsimp only at HPO HCP ⊢
 obtain ⟨V, hV⟩ : ∃ V, V = (v.alloc (.cells #[.string ⟨nm.toArray⟩, .string ⟨ds.toArray⟩, .bool st, .bool ab, .int .i64 rg, .slice A co.length c] 48)).alloc (.cells #[.string ⟨#[]⟩, .string ⟨#[]⟩, .bool false, .bool false, .int .i64 0, .slice none 0 0] 48) := ⟨_, rfl⟩
 have hal : Below v.heap.size v V := by rw [hV]; exact ((Below.refl _ v).alloc (Nat.le_refl _) _).alloc (by simp) _
 have hbi : V.heap[v.heap.size]? = some (.cells #[.string ⟨nm.toArray⟩, .string ⟨ds.toArray⟩, .bool st, .bool ab, .int .i64 rg, .slice A co.length c] 48 (0, 0)) := by rw [hV]; exact (Below.heap_alloc _ _ _ (by simp)).trans (heap_alloc_new v _)
 have hbj : V.heap[v.heap.size + 1]? = some (.cells #[.string ⟨#[]⟩, .string ⟨#[]⟩, .bool false, .bool false, .int .i64 0, .slice none 0 0] 48 (0, 0)) := by
  rw [hV]
  have := heap_alloc_new (v.alloc (.cells #[.string ⟨nm.toArray⟩, .string ⟨ds.toArray⟩, .bool st, .bool ab, .int .i64 rg, .slice A co.length c] 48)) (.cells #[.string ⟨#[]⟩, .string ⟨#[]⟩, .bool false, .bool false, .int .i64 0, .slice none 0 0] 48)
  rwa [World.size_alloc] at this
 have HV := Lib.hid hV; have HAL := Lib.hid hal
 have d0 : V.cell? ⟨v.heap.size, 0, none⟩ = some (.string ⟨nm.toArray⟩) := cell_of_row _ _ 0 _ _ _ hbi
 have d1 : V.cell? ⟨v.heap.size, 1, none⟩ = some (.string ⟨ds.toArray⟩) := cell_of_row _ _ 1 _ _ _ hbi
 have d2 : V.cell? ⟨v.heap.size, 2, none⟩ = some (.bool st) := cell_of_row _ _ 2 _ _ _ hbi
 have d3 : V.cell? ⟨v.heap.size, 3, none⟩ = some (.bool ab) := cell_of_row _ _ 3 _ _ _ hbi
 have d4 : V.cell? ⟨v.heap.size, 4, none⟩ = some (.int .i64 rg) := cell_of_row _ _ 4 _ _ _ hbi
 have d5 : V.cell? ⟨v.heap.size, 5, none⟩ = some (.slice A co.length c) := cell_of_row _ _ 5 _ _ _ hbi
 have HBI := Lib.hid hbi; have HBJ := Lib.hid hbj
 clear hk hb hp hV hal hbi hbj
 go_enter Try.func86, Try.ntmps86
 go_wp2_with fail
 try simp only [World.size_alloc]
 rw [← HV.out]
 (try go_wp2_with fail)
 refine (HCP.out V HAL.out).mono ?_
 rintro e v1 ⟨⟨B, d, l, rfl, h1, h2, h3, h4, h5⟩, hb1⟩
 have g1 : v.heap.size < V.heap.size := blk_lt HBI.out
 have g2 : v.heap.size + 1 < V.heap.size := blk_lt HBJ.out
 have h3f : Fr V.heap.size B := fun a ha => by rw [h3 a ha]; exact Nat.le_refl _
 have hbi1 := (hb1.block _ g1).trans HBI.out
 have hbj1 := (hb1.block _ g2).trans HBJ.out
 have q5 : v1.cell? ⟨v.heap.size, 5, none⟩ = some (.slice A co.length c) := cell_of_row _ _ 5 _ _ _ hbi1
 have qf5 := frozen_of_row _ _ 5 _ _ hbi1
 have hb8 : (v1.setCell ⟨v.heap.size, 5, none⟩ (.slice B l.length d)).heap[v.heap.size]? = some (.cells #[.string ⟨nm.toArray⟩, .string ⟨ds.toArray⟩, .bool st, .bool ab, .int .i64 rg, .slice B l.length d] 48 (0, 0)) := heap_setCell_same v1 v.heap.size 5 _ _ (.slice B l.length d) hbi1
 have hj8 : (v1.setCell ⟨v.heap.size, 5, none⟩ (.slice B l.length d)).heap[v.heap.size + 1]? = some (.cells #[.string ⟨#[]⟩, .string ⟨#[]⟩, .bool false, .bool false, .int .i64 0, .slice none 0 0] 48 (0, 0)) := (Below.heap_setCell _ _ _ _ (by simp)).trans hbj1
 have e0 : (v1.setCell ⟨v.heap.size, 5, none⟩ (.slice B l.length d)).cell? ⟨v.heap.size, 0, none⟩ = some (.string ⟨nm.toArray⟩) := cell_of_row _ _ 0 _ _ _ hb8
 have e1 : (v1.setCell ⟨v.heap.size, 5, none⟩ (.slice B l.length d)).cell? ⟨v.heap.size, 1, none⟩ = some (.string ⟨ds.toArray⟩) := cell_of_row _ _ 1 _ _ _ hb8
 have e2 : (v1.setCell ⟨v.heap.size, 5, none⟩ (.slice B l.length d)).cell? ⟨v.heap.size, 2, none⟩ = some (.bool st) := cell_of_row _ _ 2 _ _ _ hb8
 have e3 : (v1.setCell ⟨v.heap.size, 5, none⟩ (.slice B l.length d)).cell? ⟨v.heap.size, 3, none⟩ = some (.bool ab) := cell_of_row _ _ 3 _ _ _ hb8
 have e4 : (v1.setCell ⟨v.heap.size, 5, none⟩ (.slice B l.length d)).cell? ⟨v.heap.size, 4, none⟩ = some (.int .i64 rg) := cell_of_row _ _ 4 _ _ _ hb8
 have e5 : (v1.setCell ⟨v.heap.size, 5, none⟩ (.slice B l.length d)).cell? ⟨v.heap.size, 5, none⟩ = some (.slice B l.length d) := cell_of_row _ _ 5 _ _ _ hb8
 have z0 : (v1.setCell ⟨v.heap.size, 5, none⟩ (.slice B l.length d)).cell? ⟨v.heap.size + 1, 0, none⟩ = some (.string ⟨#[]⟩) := cell_of_row _ _ 0 _ _ _ hj8
 have zf0 := frozen_of_row _ _ 0 _ _ hj8
 have z1 : (v1.setCell ⟨v.heap.size, 5, none⟩ (.slice B l.length d)).cell? ⟨v.heap.size + 1, 1, none⟩ = some (.string ⟨#[]⟩) := cell_of_row _ _ 1 _ _ _ hj8
 have zf1 := frozen_of_row _ _ 1 _ _ hj8
 have z2 : (v1.setCell ⟨v.heap.size, 5, none⟩ (.slice B l.length d)).cell? ⟨v.heap.size + 1, 2, none⟩ = some (.bool false) := cell_of_row _ _ 2 _ _ _ hj8
 have zf2 := frozen_of_row _ _ 2 _ _ hj8
 have z3 : (v1.setCell ⟨v.heap.size, 5, none⟩ (.slice B l.length d)).cell? ⟨v.heap.size + 1, 3, none⟩ = some (.bool false) := cell_of_row _ _ 3 _ _ _ hj8
 have zf3 := frozen_of_row _ _ 3 _ _ hj8
 have z4 : (v1.setCell ⟨v.heap.size, 5, none⟩ (.slice B l.length d)).cell? ⟨v.heap.size + 1, 4, none⟩ = some (.int .i64 0) := cell_of_row _ _ 4 _ _ _ hj8
 have zf4 := frozen_of_row _ _ 4 _ _ hj8
 have z5 : (v1.setCell ⟨v.heap.size, 5, none⟩ (.slice B l.length d)).cell? ⟨v.heap.size + 1, 5, none⟩ = some (.slice none 0 0) := cell_of_row _ _ 5 _ _ _ hj8
 have zf5 := frozen_of_row _ _ 5 _ _ hj8
 have HB1 := Lib.hid (HAL.out.trans (hb1.mono HAL.out.size))
 have s0 := heap_setCell_same _ (v.heap.size + 1) 0 _ _ (.string ⟨nm.toArray⟩) hj8
 have s1 := heap_setCell_same _ (v.heap.size + 1) 1 _ _ (.string ⟨ds.toArray⟩) s0
 have s2 := heap_setCell_same _ (v.heap.size + 1) 2 _ _ (.bool st) s1
 have s3 := heap_setCell_same _ (v.heap.size + 1) 3 _ _ (.bool ab) s2
 have s4 := heap_setCell_same _ (v.heap.size + 1) 4 _ _ (.int .i64 rg) s3
 have s5 := heap_setCell_same _ (v.heap.size + 1) 5 _ _ (.slice B l.length d) s4
 obtain ⟨WF, hWF⟩ : ∃ WF, WF = (((((((v1.setCell ⟨v.heap.size, 5, none⟩ (.slice B l.length d)).setCell ⟨v.heap.size + 1, 0, none⟩ (.string ⟨nm.toArray⟩)).setCell ⟨v.heap.size + 1, 1, none⟩ (.string ⟨ds.toArray⟩)).setCell ⟨v.heap.size + 1, 2, none⟩ (.bool st)).setCell ⟨v.heap.size + 1, 3, none⟩ (.bool ab)).setCell ⟨v.heap.size + 1, 4, none⟩ (.int .i64 rg)).setCell ⟨v.heap.size + 1, 5, none⟩ (.slice B l.length d)) := ⟨_, rfl⟩
 rw [← hWF] at s5
 have sF : WF.heap[v.heap.size + 1]? = some (.cells #[.string ⟨nm.toArray⟩, .string ⟨ds.toArray⟩, .bool st, .bool ab, .int .i64 rg, .slice B l.length d] 48 (0, 0)) := by rw [s5]; simp
 have r0 : WF.cell? ⟨v.heap.size + 1, 0, none⟩ = some (.string ⟨nm.toArray⟩) := cell_of_row _ _ 0 _ _ _ sF
 have r1 : WF.cell? ⟨v.heap.size + 1, 1, none⟩ = some (.string ⟨ds.toArray⟩) := cell_of_row _ _ 1 _ _ _ sF
 have r2 : WF.cell? ⟨v.heap.size + 1, 2, none⟩ = some (.bool st) := cell_of_row _ _ 2 _ _ _ sF
 have r3 : WF.cell? ⟨v.heap.size + 1, 3, none⟩ = some (.bool ab) := cell_of_row _ _ 3 _ _ _ sF
 have r4 : WF.cell? ⟨v.heap.size + 1, 4, none⟩ = some (.int .i64 rg) := cell_of_row _ _ 4 _ _ _ sF
 have r5 : WF.cell? ⟨v.heap.size + 1, 5, none⟩ = some (.slice B l.length d) := cell_of_row _ _ 5 _ _ _ sF
 have HBF := Lib.hid (show Below v.heap.size v WF from by rw [hWF]; exact (((((((HB1.out.setCell (p := ⟨v.heap.size, 5, none⟩) (Nat.le_refl _) (.slice B l.length d)).setCell (p := ⟨v.heap.size + 1, 0, none⟩) (by simp) (.string ⟨nm.toArray⟩)).setCell (p := ⟨v.heap.size + 1, 1, none⟩) (by simp) (.string ⟨ds.toArray⟩)).setCell (p := ⟨v.heap.size + 1, 2, none⟩) (by simp) (.bool st)).setCell (p := ⟨v.heap.size + 1, 3, none⟩) (by simp) (.bool ab)).setCell (p := ⟨v.heap.size + 1, 4, none⟩) (by simp) (.int .i64 rg)).setCell (p := ⟨v.heap.size + 1, 5, none⟩) (by simp) (.slice B l.length d)))
 have HWF := Lib.hid hWF
 have R0 := Lib.hid r0
 have R1 := Lib.hid r1
 have R2 := Lib.hid r2
 have R3 := Lib.hid r3
 have R4 := Lib.hid r4
 have R5 := Lib.hid r5
 have gA := gb_set v1 v.heap.size 5 (.slice B l.length d)
 have gB : (v1.setCell ⟨v.heap.size, 5, none⟩ (.slice B l.length d)).grownBy WF (some (v.heap.size + 1)) := by rw [hWF]; exact (gb_trans (gb_trans (gb_trans (gb_trans (gb_trans (gb_set _ (v.heap.size + 1) 0 (.string ⟨nm.toArray⟩)) (gb_set _ (v.heap.size + 1) 1 (.string ⟨ds.toArray⟩))) (gb_set _ (v.heap.size + 1) 2 (.bool st))) (gb_set _ (v.heap.size + 1) 3 (.bool ab))) (gb_set _ (v.heap.size + 1) 4 (.int .i64 rg))) (gb_set _ (v.heap.size + 1) 5 (.slice B l.length d)))
 have HRS := Lib.hid (HPO.out B d l WF h1 h2 (h3f.mono (Nat.le_of_lt g1)) (rd_gb (rd_gb (rd_own h4) h3f g1 gA) h3f g2 gB) (fun y hy => (((h5 y hy).gb (Nat.lt_succ_of_lt g1) gA).gb (Nat.lt_succ_of_lt g2) gB).mono (Nat.le_succ_of_le (Nat.le_of_lt g1))) HBF.out)
 clear hbi1 hbj1 hb8 hj8 hWF gA gB h1 h2 h3 h3f h4 h5 hb1 g1 g2 sF s0 r0 s1 r1 s2 r2 s3 r3 s4 r4 s5 r5 d0 d1 d2 d3 d4 d5
 go_wp2
 rw [← HWF.out]
 refine bodyPost_ret (v := .agg #[.string ⟨nm.toArray⟩, .string ⟨ds.toArray⟩, .bool st, .bool ab, .int .i64 rg, .slice B l.length d]) ?_ rfl HRS.out
 simp [results, Try.results86, go_sem, R0.out, R1.out, R2.out, R3.out, R4.out, R5.out]
end Go.Proofs.Ytokaecnhjdgjgaa.prg

/- Layer 8: a clone of a class, and of a program: the program's answers. -/
namespace Go.Proofs.Ytokaecnhjdgjgaa.prg
open Go.RowKit
open words kindp opp op kind word

theorem cl_eq {m k : ClM} (h1 : m.nm = k.nm) (h2 : m.su = k.su) (h3 : m.fc = k.fc) (h4 : m.ab = k.ab) (h5 : m.is = k.is) (h6 : m.fs.map pF = k.fs.map pF) (h7 : m.ms.map pM = k.ms.map pM) : pC m = pC k := by unfold pC; rw [h1, h2, h3, h4, h5, h6, h7]

set_option maxRecDepth 100000 in
set_option maxHeartbeats 8000000 in
set_option linter.all false in
theorem cloC_w (x : ClM) (v : World) (hk : ClOk v x) (hb : ClBd x) (hp : PlC x) : Calls Try.prog 83 #[.agg (clC x).toArray] v (CloCl x v) := by
 have HCP := Lib.hid (fun w (h : Below v.heap.size v w) => copied_me x.A3 x.c3 x.ms w (hk.2.2.1.2.below h) hp.2.2.1 hp.2.2.2.1 (fun y hy u hu => cloM_w y u (((hk.2.2.2 y hy).below h).below hu) (hb.2.2.2.2.2 y hy) (hp.2.2.2.2 y hy)))
 have HPO := Lib.hid (fun (B : Option Addr) (d : Nat) (l' : List MeM) (w' : World) (h1 : l'.map pM = x.ms.map pM) (h2 : l'.length ≤ d) (h3 : Fr v.heap.size B) (h4 : Rd w' B (l'.flatMap meC)) (h5 : ∀ y ∈ l', NwM v.heap.size w' y) (k : Below v.heap.size v w') =>
  show CloCl x v (.returned (.agg (clC ⟨x.nm, x.su, x.fc, x.ab, [], none, 0, [], none, 0, l', B, d⟩).toArray)) w' from
   ⟨⟨_, rfl, cl_eq rfl rfl rfl rfl hp.1.1.symm (by rw [hp.2.1.1]) h1, ⟨⟨Nat.le_refl _, Rd.nil _ _⟩, ⟨Nat.le_refl _, Rd.nil _ _⟩, ⟨h2, h4⟩, fun y hy => (h5 y hy).1⟩,
    ⟨hb.1, hb.2.1, ⟨by simp, by simp⟩, ⟨by simp, by simp⟩, by have := congrArg List.length h1; simp only [List.length_map] at this; rw [this]; exact hb.2.2.2.2.1, fun y hy => (h5 y hy).2.1⟩,
    ⟨(fun _ h => by cases h), (fun _ h => by cases h), h3⟩, fun y hy => ⟨(h5 y hy).2.2.1, (h5 y hy).2.2.2⟩⟩, k⟩)
 obtain ⟨p1, p2, -, -, -⟩ := hp
 obtain ⟨nm, su, fc, ab, is, A1, c1, fs, A2, c2, ms, A, c⟩ := x
 dsimp only at p1 p2
 obtain ⟨rfl, rfl, rfl⟩ := p1
 obtain ⟨rfl, rfl, rfl⟩ := p2
 unfold clC at HPO ⊢
 dsimp only [List.length_nil] at HPO HCP ⊢
 obtain ⟨V, hV⟩ : ∃ V, V = (v.alloc (.cells #[.string ⟨nm.toArray⟩, .string ⟨su.toArray⟩, .bool fc, .bool ab, .slice none 0 0, .slice none 0 0, .slice A ms.length c] 42)).alloc (.cells #[.string ⟨#[]⟩, .string ⟨#[]⟩, .bool false, .bool false, .slice none 0 0, .slice none 0 0, .slice none 0 0] 42) := ⟨_, rfl⟩
 have hal : Below v.heap.size v V := by rw [hV]; exact ((Below.refl _ v).alloc (Nat.le_refl _) _).alloc (by simp) _
 have hbi : V.heap[v.heap.size]? = some (.cells #[.string ⟨nm.toArray⟩, .string ⟨su.toArray⟩, .bool fc, .bool ab, .slice none 0 0, .slice none 0 0, .slice A ms.length c] 42 (0, 0)) := by rw [hV]; exact (Below.heap_alloc _ _ _ (by simp)).trans (heap_alloc_new v _)
 have hbj : V.heap[v.heap.size + 1]? = some (.cells #[.string ⟨#[]⟩, .string ⟨#[]⟩, .bool false, .bool false, .slice none 0 0, .slice none 0 0, .slice none 0 0] 42 (0, 0)) := by
  rw [hV]
  have := heap_alloc_new (v.alloc (.cells #[.string ⟨nm.toArray⟩, .string ⟨su.toArray⟩, .bool fc, .bool ab, .slice none 0 0, .slice none 0 0, .slice A ms.length c] 42)) (.cells #[.string ⟨#[]⟩, .string ⟨#[]⟩, .bool false, .bool false, .slice none 0 0, .slice none 0 0, .slice none 0 0] 42)
  rwa [World.size_alloc] at this
 have HV := Lib.hid hV; have HAL := Lib.hid hal
 have d0 : V.cell? ⟨v.heap.size, 0, none⟩ = some (.string ⟨nm.toArray⟩) := cell_of_row _ _ 0 _ _ _ hbi
 have d1 : V.cell? ⟨v.heap.size, 1, none⟩ = some (.string ⟨su.toArray⟩) := cell_of_row _ _ 1 _ _ _ hbi
 have d2 : V.cell? ⟨v.heap.size, 2, none⟩ = some (.bool fc) := cell_of_row _ _ 2 _ _ _ hbi
 have d3 : V.cell? ⟨v.heap.size, 3, none⟩ = some (.bool ab) := cell_of_row _ _ 3 _ _ _ hbi
 have d4 : V.cell? ⟨v.heap.size, 4, none⟩ = some (.slice none 0 0) := cell_of_row _ _ 4 _ _ _ hbi
 have d5 : V.cell? ⟨v.heap.size, 5, none⟩ = some (.slice none 0 0) := cell_of_row _ _ 5 _ _ _ hbi
 have d6 : V.cell? ⟨v.heap.size, 6, none⟩ = some (.slice A ms.length c) := cell_of_row _ _ 6 _ _ _ hbi
 have df4 := frozen_of_row _ _ 4 _ _ hbi
 have df5 := frozen_of_row _ _ 5 _ _ hbi
 have hb4 : (V.setCell ⟨v.heap.size, 4, none⟩ (.slice none 0 0)).heap[v.heap.size]? = some (.cells #[.string ⟨nm.toArray⟩, .string ⟨su.toArray⟩, .bool fc, .bool ab, .slice none 0 0, .slice none 0 0, .slice A ms.length c] 42 (0, 0)) := heap_setCell_same V v.heap.size 4 _ _ (.slice none 0 0) hbi
 have hj4 : (V.setCell ⟨v.heap.size, 4, none⟩ (.slice none 0 0)).heap[v.heap.size + 1]? = some (.cells #[.string ⟨#[]⟩, .string ⟨#[]⟩, .bool false, .bool false, .slice none 0 0, .slice none 0 0, .slice none 0 0] 42 (0, 0)) := (Below.heap_setCell _ _ _ _ (by simp)).trans hbj
 have hb5 : ((V.setCell ⟨v.heap.size, 4, none⟩ (.slice none 0 0)).setCell ⟨v.heap.size, 5, none⟩ (.slice none 0 0)).heap[v.heap.size]? = some (.cells #[.string ⟨nm.toArray⟩, .string ⟨su.toArray⟩, .bool fc, .bool ab, .slice none 0 0, .slice none 0 0, .slice A ms.length c] 42 (0, 0)) := heap_setCell_same _ v.heap.size 5 _ _ (.slice none 0 0) hb4
 have hj5 : ((V.setCell ⟨v.heap.size, 4, none⟩ (.slice none 0 0)).setCell ⟨v.heap.size, 5, none⟩ (.slice none 0 0)).heap[v.heap.size + 1]? = some (.cells #[.string ⟨#[]⟩, .string ⟨#[]⟩, .bool false, .bool false, .slice none 0 0, .slice none 0 0, .slice none 0 0] 42 (0, 0)) := (Below.heap_setCell _ _ _ _ (by simp)).trans hj4
 have e4 : (V.setCell ⟨v.heap.size, 4, none⟩ (.slice none 0 0)).cell? ⟨v.heap.size, 4, none⟩ = some (.slice none 0 0) := cell_of_row _ _ 4 _ _ _ hb4
 have e5 : (V.setCell ⟨v.heap.size, 4, none⟩ (.slice none 0 0)).cell? ⟨v.heap.size, 5, none⟩ = some (.slice none 0 0) := cell_of_row _ _ 5 _ _ _ hb4
 have ef5 := frozen_of_row _ _ 5 _ _ hb4
 have g4 : ((V.setCell ⟨v.heap.size, 4, none⟩ (.slice none 0 0)).setCell ⟨v.heap.size, 5, none⟩ (.slice none 0 0)).cell? ⟨v.heap.size, 4, none⟩ = some (.slice none 0 0) := cell_of_row _ _ 4 _ _ _ hb5
 have g5 : ((V.setCell ⟨v.heap.size, 4, none⟩ (.slice none 0 0)).setCell ⟨v.heap.size, 5, none⟩ (.slice none 0 0)).cell? ⟨v.heap.size, 5, none⟩ = some (.slice none 0 0) := cell_of_row _ _ 5 _ _ _ hb5
 have g6 : ((V.setCell ⟨v.heap.size, 4, none⟩ (.slice none 0 0)).setCell ⟨v.heap.size, 5, none⟩ (.slice none 0 0)).cell? ⟨v.heap.size, 6, none⟩ = some (.slice A ms.length c) := cell_of_row _ _ 6 _ _ _ hb5
 have HB5 := Lib.hid (show Below v.heap.size v ((V.setCell ⟨v.heap.size, 4, none⟩ (.slice none 0 0)).setCell ⟨v.heap.size, 5, none⟩ (.slice none 0 0)) from (HAL.out.setCell (p := ⟨v.heap.size, 4, none⟩) (Nat.le_refl _) _).setCell (p := ⟨v.heap.size, 5, none⟩) (Nat.le_refl _) _)
 have HBI := Lib.hid hb5; have HBJ := Lib.hid hj5
 have D4 := Lib.hid d4; have D5 := Lib.hid d5; have E4 := Lib.hid e4; have E5 := Lib.hid e5; have G4 := Lib.hid g4; have G5 := Lib.hid g5
 clear hk hb hV hal hbi hbj hb4 hj4 hb5 hj5
 go_enter Try.func83, Try.ntmps83
 go_wp2_with fail
 try simp only [World.size_alloc]
 rw [← HV.out]
 (try go_wp2_with fail)
 refine wp_region_held_drew (S := (fun w' => w'.cell? ⟨v.heap.size, 4, none⟩ = some (.slice none 0 0) ∧ w'.cell? ⟨v.heap.size, 5, none⟩ = some (.slice none 0 0))) (by kernel_rfl) ?_ (fun hHeld => ?_)
 ·exact ⟨d4, d5⟩
 refine tkv 0 rfl ?_
 try simp only [puts]
 refine tkv 1 rfl ?_
 try simp only [puts]
 refine tkv 3 rfl ?_
 try simp only [puts]
 refine tkv 4 rfl ?_
 try simp only [puts]
 refine wpAnyH_ready (rs := [2]) (by kernel_rfl) (by simp) (AllReadyH.cons rfl (fun K hK => ?_) AllReadyH.nil)
 go_simp
 refine (nil_str _).mono ?_; rintro e v0 ⟨rfl, rfl⟩; go_wp2_with fail
 refine hK.out _ _ (by assumption) (fun hHeld => ?_)
 clear hK K
 try simp only [puts]
 refine tkv 6 rfl ?_
 try simp only [puts]
 refine wpAnyH_ready (rs := [5]) (by kernel_rfl) (by simp) (AllReadyH.cons rfl (fun K hK => ?_) AllReadyH.nil)
 go_simp
 refine (nil_fi _).mono ?_; rintro e v0 ⟨rfl, rfl⟩; go_wp2_with fail
 refine hK.out _ _ (by assumption) (fun hHeld => ?_)
 clear hK K
 try simp only [puts]
 refine wpAnyH_ready (rs := [7]) (by kernel_rfl) (by simp) (AllReadyH.cons rfl (fun K hK => ?_) AllReadyH.nil)
 go_simp
 skip
 refine hK.out _ _ ⟨E4.out, E5.out⟩ (fun hHeld => ?_)
 clear hK K
 try simp only [puts]
 refine tkv 8 rfl ?_
 try simp only [puts]
 refine wpAnyH_ready (rs := [9]) (by kernel_rfl) (by simp) (AllReadyH.cons rfl (fun K hK => ?_) AllReadyH.nil)
 go_simp
 skip
 refine hK.out _ _ ⟨G4.out, G5.out⟩ (fun hHeld => ?_)
 clear hK K
 try simp only [puts]
 refine wpAnyH_done (by kernel_rfl) ?_ _
 have n6 : ((V.setCell ⟨v.heap.size, 4, none⟩ (.slice none 0 0)).setCell ⟨v.heap.size, 5, none⟩ (.slice none 0 0)).drew.cell? ⟨v.heap.size, 6, none⟩ = some (.slice A ms.length c) := g6
 clear d0 d1 d2 d3 d4 d5 d6 df4 df5 e4 e5 ef5 g4 g5 g6
 go_wp2_with fail
 refine (HCP.out ((V.setCell ⟨v.heap.size, 4, none⟩ (.slice none 0 0)).setCell ⟨v.heap.size, 5, none⟩ (.slice none 0 0)).drew (overD HB5.out)).mono ?_
 rintro e v1 ⟨⟨B, d, l, rfl, h1, h2, h3, h4, h5⟩, hb1⟩
 have g1 : v.heap.size < ((V.setCell ⟨v.heap.size, 4, none⟩ (.slice none 0 0)).setCell ⟨v.heap.size, 5, none⟩ (.slice none 0 0)).drew.heap.size := blk_lt HBI.out
 have g2 : v.heap.size + 1 < ((V.setCell ⟨v.heap.size, 4, none⟩ (.slice none 0 0)).setCell ⟨v.heap.size, 5, none⟩ (.slice none 0 0)).drew.heap.size := blk_lt HBJ.out
 have h3f : Fr ((V.setCell ⟨v.heap.size, 4, none⟩ (.slice none 0 0)).setCell ⟨v.heap.size, 5, none⟩ (.slice none 0 0)).drew.heap.size B := fun a ha => by rw [h3 a ha]; exact Nat.le_refl _
 have hbi1 := (hb1.block _ g1).trans (show ((V.setCell ⟨v.heap.size, 4, none⟩ (.slice none 0 0)).setCell ⟨v.heap.size, 5, none⟩ (.slice none 0 0)).drew.heap[v.heap.size]? = _ from HBI.out)
 have hbj1 := (hb1.block _ g2).trans (show ((V.setCell ⟨v.heap.size, 4, none⟩ (.slice none 0 0)).setCell ⟨v.heap.size, 5, none⟩ (.slice none 0 0)).drew.heap[v.heap.size + 1]? = _ from HBJ.out)
 have q6 : v1.cell? ⟨v.heap.size, 6, none⟩ = some (.slice A ms.length c) := cell_of_row _ _ 6 _ _ _ hbi1
 have qf6 := frozen_of_row _ _ 6 _ _ hbi1
 have hb8 : (v1.setCell ⟨v.heap.size, 6, none⟩ (.slice B l.length d)).heap[v.heap.size]? = some (.cells #[.string ⟨nm.toArray⟩, .string ⟨su.toArray⟩, .bool fc, .bool ab, .slice none 0 0, .slice none 0 0, .slice B l.length d] 42 (0, 0)) := heap_setCell_same v1 v.heap.size 6 _ _ (.slice B l.length d) hbi1
 have hj8 : (v1.setCell ⟨v.heap.size, 6, none⟩ (.slice B l.length d)).heap[v.heap.size + 1]? = some (.cells #[.string ⟨#[]⟩, .string ⟨#[]⟩, .bool false, .bool false, .slice none 0 0, .slice none 0 0, .slice none 0 0] 42 (0, 0)) := (Below.heap_setCell _ _ _ _ (by simp)).trans hbj1
 have e0 : (v1.setCell ⟨v.heap.size, 6, none⟩ (.slice B l.length d)).cell? ⟨v.heap.size, 0, none⟩ = some (.string ⟨nm.toArray⟩) := cell_of_row _ _ 0 _ _ _ hb8
 have e1 : (v1.setCell ⟨v.heap.size, 6, none⟩ (.slice B l.length d)).cell? ⟨v.heap.size, 1, none⟩ = some (.string ⟨su.toArray⟩) := cell_of_row _ _ 1 _ _ _ hb8
 have e2 : (v1.setCell ⟨v.heap.size, 6, none⟩ (.slice B l.length d)).cell? ⟨v.heap.size, 2, none⟩ = some (.bool fc) := cell_of_row _ _ 2 _ _ _ hb8
 have e3 : (v1.setCell ⟨v.heap.size, 6, none⟩ (.slice B l.length d)).cell? ⟨v.heap.size, 3, none⟩ = some (.bool ab) := cell_of_row _ _ 3 _ _ _ hb8
 have e4 : (v1.setCell ⟨v.heap.size, 6, none⟩ (.slice B l.length d)).cell? ⟨v.heap.size, 4, none⟩ = some (.slice none 0 0) := cell_of_row _ _ 4 _ _ _ hb8
 have e5 : (v1.setCell ⟨v.heap.size, 6, none⟩ (.slice B l.length d)).cell? ⟨v.heap.size, 5, none⟩ = some (.slice none 0 0) := cell_of_row _ _ 5 _ _ _ hb8
 have e6 : (v1.setCell ⟨v.heap.size, 6, none⟩ (.slice B l.length d)).cell? ⟨v.heap.size, 6, none⟩ = some (.slice B l.length d) := cell_of_row _ _ 6 _ _ _ hb8
 have z0 : (v1.setCell ⟨v.heap.size, 6, none⟩ (.slice B l.length d)).cell? ⟨v.heap.size + 1, 0, none⟩ = some (.string ⟨#[]⟩) := cell_of_row _ _ 0 _ _ _ hj8
 have zf0 := frozen_of_row _ _ 0 _ _ hj8
 have z1 : (v1.setCell ⟨v.heap.size, 6, none⟩ (.slice B l.length d)).cell? ⟨v.heap.size + 1, 1, none⟩ = some (.string ⟨#[]⟩) := cell_of_row _ _ 1 _ _ _ hj8
 have zf1 := frozen_of_row _ _ 1 _ _ hj8
 have z2 : (v1.setCell ⟨v.heap.size, 6, none⟩ (.slice B l.length d)).cell? ⟨v.heap.size + 1, 2, none⟩ = some (.bool false) := cell_of_row _ _ 2 _ _ _ hj8
 have zf2 := frozen_of_row _ _ 2 _ _ hj8
 have z3 : (v1.setCell ⟨v.heap.size, 6, none⟩ (.slice B l.length d)).cell? ⟨v.heap.size + 1, 3, none⟩ = some (.bool false) := cell_of_row _ _ 3 _ _ _ hj8
 have zf3 := frozen_of_row _ _ 3 _ _ hj8
 have z4 : (v1.setCell ⟨v.heap.size, 6, none⟩ (.slice B l.length d)).cell? ⟨v.heap.size + 1, 4, none⟩ = some (.slice none 0 0) := cell_of_row _ _ 4 _ _ _ hj8
 have zf4 := frozen_of_row _ _ 4 _ _ hj8
 have z5 : (v1.setCell ⟨v.heap.size, 6, none⟩ (.slice B l.length d)).cell? ⟨v.heap.size + 1, 5, none⟩ = some (.slice none 0 0) := cell_of_row _ _ 5 _ _ _ hj8
 have zf5 := frozen_of_row _ _ 5 _ _ hj8
 have z6 : (v1.setCell ⟨v.heap.size, 6, none⟩ (.slice B l.length d)).cell? ⟨v.heap.size + 1, 6, none⟩ = some (.slice none 0 0) := cell_of_row _ _ 6 _ _ _ hj8
 have zf6 := frozen_of_row _ _ 6 _ _ hj8
 have HB1 := Lib.hid ((overD HB5.out).trans (hb1.mono (overD HB5.out).size))
 have s0 := heap_setCell_same _ (v.heap.size + 1) 0 _ _ (.string ⟨nm.toArray⟩) hj8
 have s1 := heap_setCell_same _ (v.heap.size + 1) 1 _ _ (.string ⟨su.toArray⟩) s0
 have s2 := heap_setCell_same _ (v.heap.size + 1) 2 _ _ (.bool fc) s1
 have s3 := heap_setCell_same _ (v.heap.size + 1) 3 _ _ (.bool ab) s2
 have s4 := heap_setCell_same _ (v.heap.size + 1) 4 _ _ (.slice none 0 0) s3
 have s5 := heap_setCell_same _ (v.heap.size + 1) 5 _ _ (.slice none 0 0) s4
 have s6 := heap_setCell_same _ (v.heap.size + 1) 6 _ _ (.slice B l.length d) s5
 obtain ⟨WF, hWF⟩ : ∃ WF, WF = ((((((((v1.setCell ⟨v.heap.size, 6, none⟩ (.slice B l.length d)).setCell ⟨v.heap.size + 1, 0, none⟩ (.string ⟨nm.toArray⟩)).setCell ⟨v.heap.size + 1, 1, none⟩ (.string ⟨su.toArray⟩)).setCell ⟨v.heap.size + 1, 2, none⟩ (.bool fc)).setCell ⟨v.heap.size + 1, 3, none⟩ (.bool ab)).setCell ⟨v.heap.size + 1, 4, none⟩ (.slice none 0 0)).setCell ⟨v.heap.size + 1, 5, none⟩ (.slice none 0 0)).setCell ⟨v.heap.size + 1, 6, none⟩ (.slice B l.length d)) := ⟨_, rfl⟩
 rw [← hWF] at s6
 have sF : WF.heap[v.heap.size + 1]? = some (.cells #[.string ⟨nm.toArray⟩, .string ⟨su.toArray⟩, .bool fc, .bool ab, .slice none 0 0, .slice none 0 0, .slice B l.length d] 42 (0, 0)) := by rw [s6]; simp
 have r0 : WF.cell? ⟨v.heap.size + 1, 0, none⟩ = some (.string ⟨nm.toArray⟩) := cell_of_row _ _ 0 _ _ _ sF
 have r1 : WF.cell? ⟨v.heap.size + 1, 1, none⟩ = some (.string ⟨su.toArray⟩) := cell_of_row _ _ 1 _ _ _ sF
 have r2 : WF.cell? ⟨v.heap.size + 1, 2, none⟩ = some (.bool fc) := cell_of_row _ _ 2 _ _ _ sF
 have r3 : WF.cell? ⟨v.heap.size + 1, 3, none⟩ = some (.bool ab) := cell_of_row _ _ 3 _ _ _ sF
 have r4 : WF.cell? ⟨v.heap.size + 1, 4, none⟩ = some (.slice none 0 0) := cell_of_row _ _ 4 _ _ _ sF
 have r5 : WF.cell? ⟨v.heap.size + 1, 5, none⟩ = some (.slice none 0 0) := cell_of_row _ _ 5 _ _ _ sF
 have r6 : WF.cell? ⟨v.heap.size + 1, 6, none⟩ = some (.slice B l.length d) := cell_of_row _ _ 6 _ _ _ sF
 have HBF := Lib.hid (show Below v.heap.size v WF from by rw [hWF]; exact ((((((((HB1.out.setCell (p := ⟨v.heap.size, 6, none⟩) (Nat.le_refl _) (.slice B l.length d)).setCell (p := ⟨v.heap.size + 1, 0, none⟩) (by simp) (.string ⟨nm.toArray⟩)).setCell (p := ⟨v.heap.size + 1, 1, none⟩) (by simp) (.string ⟨su.toArray⟩)).setCell (p := ⟨v.heap.size + 1, 2, none⟩) (by simp) (.bool fc)).setCell (p := ⟨v.heap.size + 1, 3, none⟩) (by simp) (.bool ab)).setCell (p := ⟨v.heap.size + 1, 4, none⟩) (by simp) (.slice none 0 0)).setCell (p := ⟨v.heap.size + 1, 5, none⟩) (by simp) (.slice none 0 0)).setCell (p := ⟨v.heap.size + 1, 6, none⟩) (by simp) (.slice B l.length d)))
 have HWF := Lib.hid hWF
 have R0 := Lib.hid r0
 have R1 := Lib.hid r1
 have R2 := Lib.hid r2
 have R3 := Lib.hid r3
 have R4 := Lib.hid r4
 have R5 := Lib.hid r5
 have R6 := Lib.hid r6
 have gA := gb_set v1 v.heap.size 6 (.slice B l.length d)
 have gB : (v1.setCell ⟨v.heap.size, 6, none⟩ (.slice B l.length d)).grownBy WF (some (v.heap.size + 1)) := by rw [hWF]; exact (gb_trans (gb_trans (gb_trans (gb_trans (gb_trans (gb_trans (gb_set _ (v.heap.size + 1) 0 (.string ⟨nm.toArray⟩)) (gb_set _ (v.heap.size + 1) 1 (.string ⟨su.toArray⟩))) (gb_set _ (v.heap.size + 1) 2 (.bool fc))) (gb_set _ (v.heap.size + 1) 3 (.bool ab))) (gb_set _ (v.heap.size + 1) 4 (.slice none 0 0))) (gb_set _ (v.heap.size + 1) 5 (.slice none 0 0))) (gb_set _ (v.heap.size + 1) 6 (.slice B l.length d)))
 have HRS := Lib.hid (HPO.out B d l WF h1 h2 (h3f.mono (Nat.le_of_lt g1)) (rd_gb (rd_gb (rd_own h4) h3f g1 gA) h3f g2 gB) (fun y hy => (((h5 y hy).gb (Nat.lt_succ_of_lt g1) gA).gb (Nat.lt_succ_of_lt g2) gB).mono (Nat.le_succ_of_le (Nat.le_of_lt g1))) HBF.out)
 clear hbi1 hbj1 hb8 hj8 hWF gA gB h1 h2 h3 h3f h4 h5 hb1 g1 g2 sF n6 s0 r0 s1 r1 s2 r2 s3 r3 s4 r4 s5 r5 s6 r6
 go_wp2
 rw [← HWF.out]
 refine bodyPost_ret (v := .agg #[.string ⟨nm.toArray⟩, .string ⟨su.toArray⟩, .bool fc, .bool ab, .slice none 0 0, .slice none 0 0, .slice B l.length d]) ?_ rfl HRS.out
 simp [results, Try.results83, go_sem, R0.out, R1.out, R2.out, R3.out, R4.out, R5.out, R6.out]
end Go.Proofs.Ytokaecnhjdgjgaa.prg

/- Layer 8: a clone of a program: the program's answer. -/
namespace Go.Proofs.Ytokaecnhjdgjgaa.prg
open Go.RowKit
open words kindp opp op kind word

/-- one's own row stays where another block is written -/
theorem own_gb {w w' : World} {base g : Nat} {e : TypeId} {size n : Nat} {v : Value} {xs : List Value} (h : w.ownsRow base e size v n xs) (hg : g < base) (k : w.grownBy w' (some g)) : w'.ownsRow base e size v n xs := by
 have hlt := h.lt
 refine ⟨h.1, ?_⟩
 rcases h.2 with h0 | ⟨q, cap, cur, rfl, hbg, hq, rest⟩
 ·exact .inl h0
 ·exact .inr ⟨q, cap, cur, rfl, hbg, (k.block q (hlt q rfl).2 (by intro e; cases e; omega)).trans hq, rest⟩
/-- what is cloned here -/
def PlP (p : PrM) : Prop := (p.ns = [] ∧ p.A2 = none ∧ p.c2 = 0) ∧ (p.A1 = none → p.c1 = 0) ∧ p.cs.length ≤ 100000 ∧ ∀ c ∈ p.cs, PlC c
/-- what Clone answers -/
def CloP (x : PrM) (v : World) (e : Ending) (w' : World) : Prop := (∃ (B : Option Addr) (d : Nat) (l : List ClM), e = .returned (.agg (prC ⟨l, B, d, [], none, 0, x.ec, x.en, x.ed⟩).toArray) ∧ l.map pC = x.cs.map pC ∧ l.length ≤ d ∧ w'.ownsRow v.heap.size 42 7 (.slice B l.length d) l.length (l.flatMap clC) ∧ ∃ g, v.heap.size + 1 < g ∧ (∀ a, B = some a → a = ⟨g, 0, none⟩) ∧ ∀ y ∈ l, NwC (g + 1) w' y) ∧ Below v.heap.size v w'

set_option maxRecDepth 100000 in
set_option maxHeartbeats 4000000 in
set_option linter.all false in
theorem cloP_w (x : PrM) (v : World) (hk : PrOk v x) (hb : PrBd x) (hp : PlP x) : Calls Try.prog 65 #[.agg (prC x).toArray] v (CloP x v) := by
 have HCP := Lib.hid (fun w (h : Below v.heap.size v w) => copied_cl x.A1 x.c1 x.cs w (hk.1.2.below h) hp.2.1 hp.2.2.1 (fun y hy u hu => cloC_w y u (((hk.2.2 y hy).below h).below hu) (hb.1.2 y hy) (hp.2.2.2 y hy)))
 have HPO := Lib.hid (fun (B : Option Addr) (d : Nat) (l' : List ClM) (w' : World) (h1 : l'.map pC = x.cs.map pC) (h2 : l'.length ≤ d) (g : Nat) (hg : v.heap.size + 1 < g) (h3 : ∀ a, B = some a → a = ⟨g, 0, none⟩) (h4 : w'.ownsRow v.heap.size 42 7 (.slice B l'.length d) l'.length (l'.flatMap clC)) (h5 : ∀ y ∈ l', NwC (g + 1) w' y) (k : Below v.heap.size v w') =>
  show CloP x v (.returned (.agg (prC ⟨l', B, d, [], none, 0, x.ec, x.en, x.ed⟩).toArray)) w' from ⟨⟨B, d, l', rfl, h1, h2, h4, g, hg, h3, h5⟩, k⟩)
 obtain ⟨p1, -, -, -⟩ := hp
 obtain ⟨cs, A, c, ns, A2, c2, ec, en, ed⟩ := x
 dsimp only at p1
 obtain ⟨rfl, rfl, rfl⟩ := p1
 unfold prC at HPO ⊢
 dsimp only [List.length_nil] at HPO HCP ⊢
 obtain ⟨V, hV⟩ : ∃ V, V = (v.alloc (.cells #[.slice A cs.length c, .slice none 0 0, .string ⟨ec.toArray⟩, .string ⟨en.toArray⟩, .string ⟨ed.toArray⟩] 27)).alloc (.cells #[.slice none 0 0, .slice none 0 0, .string ⟨#[]⟩, .string ⟨#[]⟩, .string ⟨#[]⟩] 27) := ⟨_, rfl⟩
 have hal : Below v.heap.size v V := by rw [hV]; exact ((Below.refl _ v).alloc (Nat.le_refl _) _).alloc (by simp) _
 have hbi : V.heap[v.heap.size]? = some (.cells #[.slice A cs.length c, .slice none 0 0, .string ⟨ec.toArray⟩, .string ⟨en.toArray⟩, .string ⟨ed.toArray⟩] 27 (0, 0)) := by rw [hV]; exact (Below.heap_alloc _ _ _ (by simp)).trans (heap_alloc_new v _)
 have hbj : V.heap[v.heap.size + 1]? = some (.cells #[.slice none 0 0, .slice none 0 0, .string ⟨#[]⟩, .string ⟨#[]⟩, .string ⟨#[]⟩] 27 (0, 0)) := by
  rw [hV]
  have := heap_alloc_new (v.alloc (.cells #[.slice A cs.length c, .slice none 0 0, .string ⟨ec.toArray⟩, .string ⟨en.toArray⟩, .string ⟨ed.toArray⟩] 27)) (.cells #[.slice none 0 0, .slice none 0 0, .string ⟨#[]⟩, .string ⟨#[]⟩, .string ⟨#[]⟩] 27)
  rwa [World.size_alloc] at this
 have HV := Lib.hid hV; have HAL := Lib.hid hal
 have d0 : V.cell? ⟨v.heap.size, 0, none⟩ = some (.slice A cs.length c) := cell_of_row _ _ 0 _ _ _ hbi
 have d1 : V.cell? ⟨v.heap.size, 1, none⟩ = some (.slice none 0 0) := cell_of_row _ _ 1 _ _ _ hbi
 have d2 : V.cell? ⟨v.heap.size, 2, none⟩ = some (.string ⟨ec.toArray⟩) := cell_of_row _ _ 2 _ _ _ hbi
 have d3 : V.cell? ⟨v.heap.size, 3, none⟩ = some (.string ⟨en.toArray⟩) := cell_of_row _ _ 3 _ _ _ hbi
 have d4 : V.cell? ⟨v.heap.size, 4, none⟩ = some (.string ⟨ed.toArray⟩) := cell_of_row _ _ 4 _ _ _ hbi
 have df1 := frozen_of_row _ _ 1 _ _ hbi
 have hb4 : (V.setCell ⟨v.heap.size, 1, none⟩ (.slice none 0 0)).heap[v.heap.size]? = some (.cells #[.slice A cs.length c, .slice none 0 0, .string ⟨ec.toArray⟩, .string ⟨en.toArray⟩, .string ⟨ed.toArray⟩] 27 (0, 0)) := heap_setCell_same V v.heap.size 1 _ _ (.slice none 0 0) hbi
 have hj4 : (V.setCell ⟨v.heap.size, 1, none⟩ (.slice none 0 0)).heap[v.heap.size + 1]? = some (.cells #[.slice none 0 0, .slice none 0 0, .string ⟨#[]⟩, .string ⟨#[]⟩, .string ⟨#[]⟩] 27 (0, 0)) := (Below.heap_setCell _ _ _ _ (by simp)).trans hbj
 have g0 : (V.setCell ⟨v.heap.size, 1, none⟩ (.slice none 0 0)).cell? ⟨v.heap.size, 0, none⟩ = some (.slice A cs.length c) := cell_of_row _ _ 0 _ _ _ hb4
 have g1 : (V.setCell ⟨v.heap.size, 1, none⟩ (.slice none 0 0)).cell? ⟨v.heap.size, 1, none⟩ = some (.slice none 0 0) := cell_of_row _ _ 1 _ _ _ hb4
 have HB5 := Lib.hid (show Below v.heap.size v (V.setCell ⟨v.heap.size, 1, none⟩ (.slice none 0 0)) from HAL.out.setCell (p := ⟨v.heap.size, 1, none⟩) (Nat.le_refl _) _)
 have HBI := Lib.hid hb4; have HBJ := Lib.hid hj4
 clear hk hb hV hal hbi hbj hb4 hj4
 go_enter Try.func65, Try.ntmps65
 go_wp2_with fail
 try simp only [World.size_alloc]
 rw [← HV.out]
 (try go_wp2_with fail)
 refine (nil_str _).mono ?_
 rintro e v0 ⟨rfl, h0⟩
 subst h0
 go_wp2_with fail
 refine (HCP.out _ HB5.out).mono ?_
 rintro e v1 ⟨⟨B, d, l, rfl, h1, h2, h3, h4, h5⟩, hb1⟩
 have g1 : v.heap.size < (v0.setCell ⟨v.heap.size, 1, none⟩ (.slice none 0 0)).heap.size := blk_lt HBI.out
 have g2 : v.heap.size + 1 < (v0.setCell ⟨v.heap.size, 1, none⟩ (.slice none 0 0)).heap.size := blk_lt HBJ.out
 have hbi1 := (hb1.block _ g1).trans HBI.out
 have hbj1 := (hb1.block _ g2).trans HBJ.out
 have q0 : v1.cell? ⟨v.heap.size, 0, none⟩ = some (.slice A cs.length c) := cell_of_row _ _ 0 _ _ _ hbi1
 have qf0 := frozen_of_row _ _ 0 _ _ hbi1
 have hb8 : (v1.setCell ⟨v.heap.size, 0, none⟩ (.slice B l.length d)).heap[v.heap.size]? = some (.cells #[.slice B l.length d, .slice none 0 0, .string ⟨ec.toArray⟩, .string ⟨en.toArray⟩, .string ⟨ed.toArray⟩] 27 (0, 0)) := heap_setCell_same v1 v.heap.size 0 _ _ (.slice B l.length d) hbi1
 have hj8 : (v1.setCell ⟨v.heap.size, 0, none⟩ (.slice B l.length d)).heap[v.heap.size + 1]? = some (.cells #[.slice none 0 0, .slice none 0 0, .string ⟨#[]⟩, .string ⟨#[]⟩, .string ⟨#[]⟩] 27 (0, 0)) := (Below.heap_setCell _ _ _ _ (by simp)).trans hbj1
 have e0 : (v1.setCell ⟨v.heap.size, 0, none⟩ (.slice B l.length d)).cell? ⟨v.heap.size, 0, none⟩ = some (.slice B l.length d) := cell_of_row _ _ 0 _ _ _ hb8
 have e1 : (v1.setCell ⟨v.heap.size, 0, none⟩ (.slice B l.length d)).cell? ⟨v.heap.size, 1, none⟩ = some (.slice none 0 0) := cell_of_row _ _ 1 _ _ _ hb8
 have e2 : (v1.setCell ⟨v.heap.size, 0, none⟩ (.slice B l.length d)).cell? ⟨v.heap.size, 2, none⟩ = some (.string ⟨ec.toArray⟩) := cell_of_row _ _ 2 _ _ _ hb8
 have e3 : (v1.setCell ⟨v.heap.size, 0, none⟩ (.slice B l.length d)).cell? ⟨v.heap.size, 3, none⟩ = some (.string ⟨en.toArray⟩) := cell_of_row _ _ 3 _ _ _ hb8
 have e4 : (v1.setCell ⟨v.heap.size, 0, none⟩ (.slice B l.length d)).cell? ⟨v.heap.size, 4, none⟩ = some (.string ⟨ed.toArray⟩) := cell_of_row _ _ 4 _ _ _ hb8
 have z0 : (v1.setCell ⟨v.heap.size, 0, none⟩ (.slice B l.length d)).cell? ⟨v.heap.size + 1, 0, none⟩ = some (.slice none 0 0) := cell_of_row _ _ 0 _ _ _ hj8
 have zf0 := frozen_of_row _ _ 0 _ _ hj8
 have z1 : (v1.setCell ⟨v.heap.size, 0, none⟩ (.slice B l.length d)).cell? ⟨v.heap.size + 1, 1, none⟩ = some (.slice none 0 0) := cell_of_row _ _ 1 _ _ _ hj8
 have zf1 := frozen_of_row _ _ 1 _ _ hj8
 have z2 : (v1.setCell ⟨v.heap.size, 0, none⟩ (.slice B l.length d)).cell? ⟨v.heap.size + 1, 2, none⟩ = some (.string ⟨#[]⟩) := cell_of_row _ _ 2 _ _ _ hj8
 have zf2 := frozen_of_row _ _ 2 _ _ hj8
 have z3 : (v1.setCell ⟨v.heap.size, 0, none⟩ (.slice B l.length d)).cell? ⟨v.heap.size + 1, 3, none⟩ = some (.string ⟨#[]⟩) := cell_of_row _ _ 3 _ _ _ hj8
 have zf3 := frozen_of_row _ _ 3 _ _ hj8
 have z4 : (v1.setCell ⟨v.heap.size, 0, none⟩ (.slice B l.length d)).cell? ⟨v.heap.size + 1, 4, none⟩ = some (.string ⟨#[]⟩) := cell_of_row _ _ 4 _ _ _ hj8
 have zf4 := frozen_of_row _ _ 4 _ _ hj8
 have HB1 := Lib.hid (HB5.out.trans (hb1.mono HB5.out.size))
 have s0 := heap_setCell_same _ (v.heap.size + 1) 0 _ _ (.slice B l.length d) hj8
 have s1 := heap_setCell_same _ (v.heap.size + 1) 1 _ _ (.slice none 0 0) s0
 have s2 := heap_setCell_same _ (v.heap.size + 1) 2 _ _ (.string ⟨ec.toArray⟩) s1
 have s3 := heap_setCell_same _ (v.heap.size + 1) 3 _ _ (.string ⟨en.toArray⟩) s2
 have s4 := heap_setCell_same _ (v.heap.size + 1) 4 _ _ (.string ⟨ed.toArray⟩) s3
 obtain ⟨WF, hWF⟩ : ∃ WF, WF = ((((((v1.setCell ⟨v.heap.size, 0, none⟩ (.slice B l.length d)).setCell ⟨v.heap.size + 1, 0, none⟩ (.slice B l.length d)).setCell ⟨v.heap.size + 1, 1, none⟩ (.slice none 0 0)).setCell ⟨v.heap.size + 1, 2, none⟩ (.string ⟨ec.toArray⟩)).setCell ⟨v.heap.size + 1, 3, none⟩ (.string ⟨en.toArray⟩)).setCell ⟨v.heap.size + 1, 4, none⟩ (.string ⟨ed.toArray⟩)) := ⟨_, rfl⟩
 rw [← hWF] at s4
 have sF : WF.heap[v.heap.size + 1]? = some (.cells #[.slice B l.length d, .slice none 0 0, .string ⟨ec.toArray⟩, .string ⟨en.toArray⟩, .string ⟨ed.toArray⟩] 27 (0, 0)) := by rw [s4]; simp
 have r0 : WF.cell? ⟨v.heap.size + 1, 0, none⟩ = some (.slice B l.length d) := cell_of_row _ _ 0 _ _ _ sF
 have r1 : WF.cell? ⟨v.heap.size + 1, 1, none⟩ = some (.slice none 0 0) := cell_of_row _ _ 1 _ _ _ sF
 have r2 : WF.cell? ⟨v.heap.size + 1, 2, none⟩ = some (.string ⟨ec.toArray⟩) := cell_of_row _ _ 2 _ _ _ sF
 have r3 : WF.cell? ⟨v.heap.size + 1, 3, none⟩ = some (.string ⟨en.toArray⟩) := cell_of_row _ _ 3 _ _ _ sF
 have r4 : WF.cell? ⟨v.heap.size + 1, 4, none⟩ = some (.string ⟨ed.toArray⟩) := cell_of_row _ _ 4 _ _ _ sF
 have HBF := Lib.hid (show Below v.heap.size v WF from by rw [hWF]; exact ((((((HB1.out.setCell (p := ⟨v.heap.size, 0, none⟩) (Nat.le_refl _) (.slice B l.length d)).setCell (p := ⟨v.heap.size + 1, 0, none⟩) (by simp) (.slice B l.length d)).setCell (p := ⟨v.heap.size + 1, 1, none⟩) (by simp) (.slice none 0 0)).setCell (p := ⟨v.heap.size + 1, 2, none⟩) (by simp) (.string ⟨ec.toArray⟩)).setCell (p := ⟨v.heap.size + 1, 3, none⟩) (by simp) (.string ⟨en.toArray⟩)).setCell (p := ⟨v.heap.size + 1, 4, none⟩) (by simp) (.string ⟨ed.toArray⟩)))
 have HWF := Lib.hid hWF
 have R0 := Lib.hid r0
 have R1 := Lib.hid r1
 have R2 := Lib.hid r2
 have R3 := Lib.hid r3
 have R4 := Lib.hid r4
 have gA := gb_set v1 v.heap.size 0 (.slice B l.length d)
 have gB : (v1.setCell ⟨v.heap.size, 0, none⟩ (.slice B l.length d)).grownBy WF (some (v.heap.size + 1)) := by rw [hWF]; exact (gb_trans (gb_trans (gb_trans (gb_trans (gb_set _ (v.heap.size + 1) 0 (.slice B l.length d)) (gb_set _ (v.heap.size + 1) 1 (.slice none 0 0))) (gb_set _ (v.heap.size + 1) 2 (.string ⟨ec.toArray⟩))) (gb_set _ (v.heap.size + 1) 3 (.string ⟨en.toArray⟩))) (gb_set _ (v.heap.size + 1) 4 (.string ⟨ed.toArray⟩)))
 have HRS := Lib.hid (HPO.out B d l WF h1 h2 _ g2 h3 (own_base (own_gb (own_gb h4 g1 gA) g2 gB) (Nat.le_of_lt g1)) (fun y hy => ((h5 y hy).gb (Nat.lt_succ_of_lt g1) gA).gb (Nat.lt_succ_of_lt g2) gB) HBF.out)
 clear hbi1 hbj1 hb8 hj8 hWF gA gB h1 h2 h3 h4 h5 hb1 g1 g2 sF s0 r0 s1 r1 s2 r2 s3 r3 s4 r4
 go_wp2
 rw [← HWF.out]
 refine bodyPost_ret (v := .agg #[.slice B l.length d, .slice none 0 0, .string ⟨ec.toArray⟩, .string ⟨en.toArray⟩, .string ⟨ed.toArray⟩]) ?_ rfl HRS.out
 simp [results, Try.results65, go_sem, R0.out, R1.out, R2.out, R3.out, R4.out]
end Go.Proofs.Ytokaecnhjdgjgaa.prg

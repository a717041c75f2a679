/- PrgO -/
import Derived.Test.YtdifmgeicnndfaaNormE
import Derived.Test.YtdifmgeicnndfaaLaid7A
import Derived.Deep.Slices
import Derived.ChangeArms
namespace Go.Proofs.Ytdifmgeicnndfaa.prg
open Go.ChangeShapes Go.WideShapes Go.ChangeAt Go.RowKit Go.Deep
open words frame kindp opp op kind
set_option maxRecDepth 100000
set_option maxHeartbeats 1000000
set_option linter.all false
def Wt {H : Type} (P : Program) (t : TypeId) (d : DataW H) : Prop := ∀ m ∈ DataW.weights P t d, m ≤ 140737488351232
section
variable {H : Type} {enc : TypeId × Value → H} {W : World} {P : Program}
theorem open_rows {α : Type} [Inhabited α] {t e : TypeId} {k bytes : Nat} {f : α → List Value} {Ok Bd : α → Prop} (ht : P.underlying t = some (.slice e)) (hk : P.cellsOf e = k) (hby : P.bytesOf e = bytes) (hf : ∀ a, (f a).length = k) (h0 : 0 < k)
  (hone : ∀ {n : Nat} {cs : List Value} {x : DataW H × List MemPlace}, DataW.trod enc P W 0 (fun _ => true) true n e cs = some x → ∃ a, cs = f a ∧ Ok a ∧ (Wt P e x.1 → Bd a))
  {n : Nat} {cs : List Value} {x : DataW H × List MemPlace} (h : DataW.trod enc P W 0 (fun _ => true) true n t cs = some x) :
  ∃ (A : Option Addr) (c : Nat) (l : List α), cs = [.slice A l.length c] ∧ l.length ≤ c ∧ Rd W A (l.flatMap f) ∧ (∀ a ∈ l, Ok a) ∧ (Wt P t x.1 → l.length * bytes ≤ 140737488351232 ∧ ∀ a ∈ l, Bd a) := by
 rcases open_slice ht h with ⟨rfl, rfl⟩ | ⟨a, len, cap, m, n', D, Pl, rfl, -, hl, -, hm, rfl, hx⟩
 ·exact ⟨none, 0, [], rfl, Nat.le_refl _, .inl rfl, by simp, fun _ => by simp⟩
 ·have hmc : m = cap := by simpa using hm
  have each : ∀ i, i < len → ∃ q : α, (W.cells? 0 (a.add (i * k)) k = some (f q)) ∧ Ok q ∧ (Wt P e (D i) → Bd q) := by
   intro i hi
   obtain ⟨cs', h1, h2⟩ := hx i (by omega)
   rw [hk] at h1
   obtain ⟨q, rfl, hok, hbd⟩ := hone h2
   exact ⟨q, h1, hok, hbd⟩
  obtain ⟨q, hq⟩ := choose_lt each
  refine ⟨some a, cap, (List.range len).map q, by simp, by simpa using hl, ?_, ?_, ?_⟩
  ·by_cases hz : len = 0
   ·subst hz; exact .inl rfl
   ·have hc : ∀ i t u, i < len → t < k → (f (q i))[t]? = some u → W.cell? (a.add (i * k + t)) = some u := by
     intro i t u hi ht2 hu
     obtain ⟨-, hlen, hat⟩ := World.cells?_some (hq i hi).1
     rw [← words.add_add, hat t ht2]; exact hu
    refine .inr ⟨a, rfl, ?_, fun j u hu => ?_⟩
    ·obtain ⟨u, hu⟩ : ∃ u, (f (q 0))[0]? = some u := ⟨_, List.getElem?_eq_getElem (by rw [hf]; exact h0)⟩
     have := cell_lt (hc 0 0 u (by omega) h0 hu)
     rwa [add_block] at this
    ·have hjl : j < len * k := by
      have := (List.getElem?_eq_some_iff.1 hu).1
      rw [flat_len hf] at this; simpa using this
     have hi : j / k < len := Nat.div_lt_of_lt_mul (by rw [Nat.mul_comm]; exact hjl)
     have ht2 : j % k < k := Nat.mod_lt _ h0
     have hjj : j / k * k + j % k = j := by rw [Nat.mul_comm]; exact Nat.div_add_mod j k
     obtain ⟨v, hv⟩ : ∃ v, (f (q (j / k)))[j % k]? = some v := ⟨_, List.getElem?_eq_getElem (by rw [hf]; exact ht2)⟩
     have hg := flat_at hf (l := (List.range len).map q) (i := j / k) (x := q (j / k)) (by rw [List.getElem?_map, List.getElem?_range hi]; rfl) hv
     rw [hjj, hu] at hg
     cases hg
     have := hc _ _ _ hi ht2 hv
     rwa [hjj] at this
  ·intro y hy
   obtain ⟨i, hi, rfl⟩ := List.mem_map.1 hy
   exact (hq i (by simpa using hi)).2.1
  ·intro hw
   have hw2 : ∀ m', m' ∈ (((List.range len).map D).length + ((List.range (m - len)).map fun j => D (len + j)).length) * P.bytesOf e :: (DataW.weightsAll P e ((List.range len).map D) ++ DataW.weightsAll P e ((List.range (m - len)).map fun j => D (len + j))) → m' ≤ 140737488351232 := by
    intro m' hm'
    refine hw m' ?_
    simp only [DataW.weights, ht]
    exact hm'
   refine ⟨?_, ?_⟩
   ·have := hw2 _ (List.mem_cons_self ..)
    rw [hby] at this
    simp only [List.length_map, List.length_range] at this ⊢
    have h2 : len * bytes ≤ (len + (m - len)) * bytes := Nat.mul_le_mul_right _ (by omega)
    omega
   ·intro y hy
    obtain ⟨i, hi, rfl⟩ := List.mem_map.1 hy
    have hi2 : i < len := by simpa using hi
    refine (hq i hi2).2.2 fun m' hm' => hw2 m' (List.mem_cons_of_mem _ (List.mem_append_left _ (weights_all hm' (List.mem_map.2 ⟨i, List.mem_range.2 hi2, rfl⟩))))
end
theorem map_flat {α : Type} (f : α → Value) : ∀ l : List α, l.map f = l.flatMap fun z => [f z]
 | [] => rfl
 | x :: l => by rw [List.map_cons, List.flatMap_cons, map_flat f l]; rfl
instance : Inhabited InM := ⟨⟨⟨0, 0, 0, 0, 0, [], [], [], []⟩, none, 0⟩⟩
instance : Inhabited FiM := ⟨⟨[], 0, [], false⟩⟩
instance : Inhabited MeM := ⟨⟨[], [], false, false, 0, [], none, 0⟩⟩
instance : Inhabited ClM := ⟨⟨[], [], false, false, [], none, 0, [], none, 0, [], none, 0⟩⟩
section
variable {H : Type} {enc : TypeId × Value → H} {W : World}
theorem one_int {n : Nat} {cs : List Value} {x : DataW H × List MemPlace} (h : DataW.trod enc Try.prog W 0 (fun _ => true) true n 3 cs = some x) : ∃ z : Int, cs = [Value.int .i64 z] ∧ True ∧ (Wt Try.prog 3 x.1 → True) := by
 obtain ⟨z, rfl, -, -⟩ := DataW.trod_int Try.underlying3 h
 exact ⟨z, rfl, trivial, fun _ => trivial⟩
theorem one_text {n : Nat} {cs : List Value} {x : DataW H × List MemPlace} (h : DataW.trod enc Try.prog W 0 (fun _ => true) true n 9 cs = some x) : ∃ s : Tx, cs = [Value.string ⟨s.toArray⟩] ∧ True ∧ (Wt Try.prog 9 x.1 → s.length ≤ 140737488351232) := by
 obtain ⟨s, rfl, rfl, -⟩ := DataW.trod_string Try.underlying9 h
 exact ⟨s.data.toList, rfl, trivial, fun hw => hw _ (by simp [DataW.weights])⟩
theorem open_args {n : Nat} {cs : List Value} {x : DataW H × List MemPlace} (h : DataW.trod enc Try.prog W 0 (fun _ => true) true n 88 cs = some x) :
  ∃ (A : Option Addr) (c : Nat) (l : List Int), cs = [.slice A l.length c] ∧ l.length ≤ c ∧ Rd W A (IL l) ∧ (Wt Try.prog 88 x.1 → l.length ≤ 140737488351232) := by
 obtain ⟨A, c, l, h1, h2, h3, -, h5⟩ := open_rows (k := 1) (f := fun z : Int => [Value.int .i64 z]) Try.underlying88 (by kernel_rfl) (show Try.prog.bytesOf 3 = 8 by kernel_rfl) (fun _ => rfl) (by omega) one_int h
 refine ⟨A, c, l, h1, h2, ?_, fun hw => by have := (h5 hw).1; omega⟩
 rw [show IL l = l.flatMap fun z : Int => [Value.int .i64 z] from map_flat _ l]
 exact h3
theorem open_strs {n : Nat} {cs : List Value} {x : DataW H × List MemPlace} (h : DataW.trod enc Try.prog W 0 (fun _ => true) true n 23 cs = some x) :
  ∃ (A : Option Addr) (c : Nat) (l : List Tx), cs = [.slice A l.length c] ∧ l.length ≤ c ∧ Rd W A (SX l) ∧ (Wt Try.prog 23 x.1 → l.length ≤ 140737488351232 ∧ ∀ y ∈ l, y.length ≤ 140737488351232) := by
 obtain ⟨A, c, l, h1, h2, h3, -, h5⟩ := open_rows (k := 1) (f := fun z : Tx => [Value.string ⟨z.toArray⟩]) Try.underlying23 (by kernel_rfl) (show Try.prog.bytesOf 9 = 16 by kernel_rfl) (fun _ => rfl) (by omega) one_text h
 refine ⟨A, c, l, h1, h2, ?_, fun hw => ⟨by have := (h5 hw).1; omega, (h5 hw).2⟩⟩
 rw [show SX l = l.flatMap fun z : Tx => [Value.string ⟨z.toArray⟩] from map_flat _ l]
 exact h3
theorem one_instr {n : Nat} {cs : List Value} {x : DataW H × List MemPlace} (h : DataW.trod enc Try.prog W 0 (fun _ => true) true n 90 cs = some x) : ∃ y : InM, cs = inC y ∧ InOk W y ∧ (Wt Try.prog 90 x.1 → InBd y) := by
 obtain ⟨xs, n, -, hx, hcl, hxl, hat⟩ := DataW.trod_struct Try.underlying90 h
 rw [show Try.prog.cellsOf 90 = 9 by kernel_rfl] at hcl
 match xs, hxl, cs, hcl with
 | [y0, y1, y2, y3, y4, y5, y6, y7, y8], _, [c0, c1, c2, c3, c4, c5, c6, c7, c8], _ =>
  have t0 : DataW.trod enc Try.prog W 0 (fun _ => true) true n 87 ((List.drop 0 [c0, c1, c2, c3, c4, c5, c6, c7, c8]).take (Try.prog.cellsOf 87)) = some y0 := hat 0 _ rfl
  rw [show Try.prog.cellsOf 87 = 1 by kernel_rfl] at t0; simp only [List.drop_succ_cons, List.drop_zero, List.take_succ_cons, List.take_zero] at t0
  obtain ⟨z0, e0, x0, -⟩ := DataW.trod_int Try.underlying87 t0
  have t1 : DataW.trod enc Try.prog W 0 (fun _ => true) true n 3 ((List.drop 1 [c0, c1, c2, c3, c4, c5, c6, c7, c8]).take (Try.prog.cellsOf 3)) = some y1 := hat 1 _ rfl
  rw [show Try.prog.cellsOf 3 = 1 by kernel_rfl] at t1; simp only [List.drop_succ_cons, List.drop_zero, List.take_succ_cons, List.take_zero] at t1
  obtain ⟨z1, e1, x1, -⟩ := DataW.trod_int Try.underlying3 t1
  have t2 : DataW.trod enc Try.prog W 0 (fun _ => true) true n 3 ((List.drop 2 [c0, c1, c2, c3, c4, c5, c6, c7, c8]).take (Try.prog.cellsOf 3)) = some y2 := hat 2 _ rfl
  rw [show Try.prog.cellsOf 3 = 1 by kernel_rfl] at t2; simp only [List.drop_succ_cons, List.drop_zero, List.take_succ_cons, List.take_zero] at t2
  obtain ⟨z2, e2, x2, -⟩ := DataW.trod_int Try.underlying3 t2
  have t3 : DataW.trod enc Try.prog W 0 (fun _ => true) true n 3 ((List.drop 3 [c0, c1, c2, c3, c4, c5, c6, c7, c8]).take (Try.prog.cellsOf 3)) = some y3 := hat 3 _ rfl
  rw [show Try.prog.cellsOf 3 = 1 by kernel_rfl] at t3; simp only [List.drop_succ_cons, List.drop_zero, List.take_succ_cons, List.take_zero] at t3
  obtain ⟨z3, e3, x3, -⟩ := DataW.trod_int Try.underlying3 t3
  have t4 : DataW.trod enc Try.prog W 0 (fun _ => true) true n 2 ((List.drop 4 [c0, c1, c2, c3, c4, c5, c6, c7, c8]).take (Try.prog.cellsOf 2)) = some y4 := hat 4 _ rfl
  rw [show Try.prog.cellsOf 2 = 1 by kernel_rfl] at t4; simp only [List.drop_succ_cons, List.drop_zero, List.take_succ_cons, List.take_zero] at t4
  obtain ⟨z4, e4, x4, -⟩ := DataW.trod_int Try.underlying2 t4
  have t5 : DataW.trod enc Try.prog W 0 (fun _ => true) true n 9 ((List.drop 5 [c0, c1, c2, c3, c4, c5, c6, c7, c8]).take (Try.prog.cellsOf 9)) = some y5 := hat 5 _ rfl
  rw [show Try.prog.cellsOf 9 = 1 by kernel_rfl] at t5; simp only [List.drop_succ_cons, List.drop_zero, List.take_succ_cons, List.take_zero] at t5
  obtain ⟨z5, e5, -, w5⟩ := one_text t5
  have t6 : DataW.trod enc Try.prog W 0 (fun _ => true) true n 9 ((List.drop 6 [c0, c1, c2, c3, c4, c5, c6, c7, c8]).take (Try.prog.cellsOf 9)) = some y6 := hat 6 _ rfl
  rw [show Try.prog.cellsOf 9 = 1 by kernel_rfl] at t6; simp only [List.drop_succ_cons, List.drop_zero, List.take_succ_cons, List.take_zero] at t6
  obtain ⟨z6, e6, -, w6⟩ := one_text t6
  have t7 : DataW.trod enc Try.prog W 0 (fun _ => true) true n 9 ((List.drop 7 [c0, c1, c2, c3, c4, c5, c6, c7, c8]).take (Try.prog.cellsOf 9)) = some y7 := hat 7 _ rfl
  rw [show Try.prog.cellsOf 9 = 1 by kernel_rfl] at t7; simp only [List.drop_succ_cons, List.drop_zero, List.take_succ_cons, List.take_zero] at t7
  obtain ⟨z7, e7, -, w7⟩ := one_text t7
  have t8 : DataW.trod enc Try.prog W 0 (fun _ => true) true n 88 ((List.drop 8 [c0, c1, c2, c3, c4, c5, c6, c7, c8]).take (Try.prog.cellsOf 88)) = some y8 := hat 8 _ rfl
  rw [show Try.prog.cellsOf 88 = 1 by kernel_rfl] at t8; simp only [List.drop_succ_cons, List.drop_zero, List.take_succ_cons, List.take_zero] at t8
  obtain ⟨A8, k8, z8, e8, l8, r8, w8⟩ := open_args t8
  simp only [List.cons.injEq, and_true] at e0 e1 e2 e3 e4 e5 e6 e7 e8
  refine ⟨⟨⟨z0, z1, z2, z3, z4, z5, z6, z7, z8⟩, A8, k8⟩, ?_, ⟨l8, r8⟩, fun hw => ?_⟩
  ·rw [e0, e1, e2, e3, e4, e5, e6, e7, e8]; rfl
  ·have hw' : Wt Try.prog 90 (DataW.agg [y0.1, y1.1, y2.1, y3.1, y4.1, y5.1, y6.1, y7.1, y8.1]) := by rw [hx] at hw; exact hw
   unfold Wt at hw' w5 w6 w7 w8
   simp only [DataW.weights, Try.underlying90, List.map_cons, List.map_nil, DataW.weightsEach, List.mem_append] at hw'
   exact ⟨(w8 fun m hm => hw' m (by simp [hm])), (w5 fun m hm => hw' m (by simp [hm])), (w6 fun m hm => hw' m (by simp [hm])), (w7 fun m hm => hw' m (by simp [hm]))⟩
theorem one_field {n : Nat} {cs : List Value} {x : DataW H × List MemPlace} (h : DataW.trod enc Try.prog W 0 (fun _ => true) true n 92 cs = some x) : ∃ y : FiM, cs = fiC y ∧ (fun _ : FiM => True) y ∧ (Wt Try.prog 92 x.1 → FiBd y) := by
 obtain ⟨xs, n, -, hx, hcl, hxl, hat⟩ := DataW.trod_struct Try.underlying92 h
 rw [show Try.prog.cellsOf 92 = 4 by kernel_rfl] at hcl
 match xs, hxl, cs, hcl with
 | [y0, y1, y2], _, [c0, c1, c2, c3], _ =>
  have t0 : DataW.trod enc Try.prog W 0 (fun _ => true) true n 9 ((List.drop 0 [c0, c1, c2, c3]).take (Try.prog.cellsOf 9)) = some y0 := hat 0 _ rfl
  rw [show Try.prog.cellsOf 9 = 1 by kernel_rfl] at t0; simp only [List.drop_succ_cons, List.drop_zero, List.take_succ_cons, List.take_zero] at t0
  obtain ⟨z0, e0, -, w0⟩ := one_text t0
  have t1 : DataW.trod enc Try.prog W 0 (fun _ => true) true n 63 ((List.drop 1 [c0, c1, c2, c3]).take (Try.prog.cellsOf 63)) = some y1 := hat 1 _ rfl
  rw [show Try.prog.cellsOf 63 = 2 by kernel_rfl] at t1; simp only [List.drop_succ_cons, List.drop_zero, List.take_succ_cons, List.take_zero] at t1
  obtain ⟨n1, u1, v1, p1, q1, e1, hx1, f1, g1⟩ := Laid7.open_two Try.underlying63 (by kernel_rfl) rfl rfl (by kernel_rfl) (by kernel_rfl) t1
  obtain ⟨z1, b1, x1, -⟩ := DataW.trod_int Try.underlying61 f1
  obtain ⟨zz1, bb1, -, w1⟩ := one_text g1
  have t2 : DataW.trod enc Try.prog W 0 (fun _ => true) true n 4 ((List.drop 3 [c0, c1, c2, c3]).take (Try.prog.cellsOf 4)) = some y2 := hat 2 _ rfl
  rw [show Try.prog.cellsOf 4 = 1 by kernel_rfl] at t2; simp only [List.drop_succ_cons, List.drop_zero, List.take_succ_cons, List.take_zero] at t2
  obtain ⟨z2, e2, x2⟩ := DataW.trod_bool Try.underlying4 t2
  simp only [List.cons.injEq, and_true] at e0 e1 b1 bb1 e2
  refine ⟨⟨z0, z1, zz1, z2⟩, ?_, trivial, fun hw => ?_⟩
  ·rw [e0, e1.1, e1.2, b1, bb1, e2]; rfl
  ·have hw' : Wt Try.prog 92 (DataW.agg [y0.1, y1.1, y2.1]) := by rw [hx] at hw; exact hw
   unfold Wt at hw' w0 w1
   simp only [DataW.weights, Try.underlying92, List.map_cons, List.map_nil, DataW.weightsEach, List.mem_append] at hw'
   have k1 : ∀ m ∈ DataW.weights Try.prog 9 q1.1, m ≤ 140737488351232 := fun m hm => hw' m (by rw [congrArg Prod.fst hx1]; simp [DataW.weights, DataW.weightsEach, Try.underlying63, hm])
   exact ⟨(w0 fun m hm => hw' m (by simp [hm])), w1 k1⟩
theorem one_method {n : Nat} {cs : List Value} {x : DataW H × List MemPlace} (h : DataW.trod enc Try.prog W 0 (fun _ => true) true n 37 cs = some x) : ∃ y : MeM, cs = meC y ∧ MeOk W y ∧ (Wt Try.prog 37 x.1 → MeBd y) := by
 obtain ⟨xs, n, -, hx, hcl, hxl, hat⟩ := DataW.trod_struct Try.underlying37 h
 rw [show Try.prog.cellsOf 37 = 6 by kernel_rfl] at hcl
 match xs, hxl, cs, hcl with
 | [y0, y1, y2, y3, y4, y5], _, [c0, c1, c2, c3, c4, c5], _ =>
  have t0 : DataW.trod enc Try.prog W 0 (fun _ => true) true n 9 ((List.drop 0 [c0, c1, c2, c3, c4, c5]).take (Try.prog.cellsOf 9)) = some y0 := hat 0 _ rfl
  rw [show Try.prog.cellsOf 9 = 1 by kernel_rfl] at t0; simp only [List.drop_succ_cons, List.drop_zero, List.take_succ_cons, List.take_zero] at t0
  obtain ⟨z0, e0, -, w0⟩ := one_text t0
  have t1 : DataW.trod enc Try.prog W 0 (fun _ => true) true n 9 ((List.drop 1 [c0, c1, c2, c3, c4, c5]).take (Try.prog.cellsOf 9)) = some y1 := hat 1 _ rfl
  rw [show Try.prog.cellsOf 9 = 1 by kernel_rfl] at t1; simp only [List.drop_succ_cons, List.drop_zero, List.take_succ_cons, List.take_zero] at t1
  obtain ⟨z1, e1, -, w1⟩ := one_text t1
  have t2 : DataW.trod enc Try.prog W 0 (fun _ => true) true n 4 ((List.drop 2 [c0, c1, c2, c3, c4, c5]).take (Try.prog.cellsOf 4)) = some y2 := hat 2 _ rfl
  rw [show Try.prog.cellsOf 4 = 1 by kernel_rfl] at t2; simp only [List.drop_succ_cons, List.drop_zero, List.take_succ_cons, List.take_zero] at t2
  obtain ⟨z2, e2, x2⟩ := DataW.trod_bool Try.underlying4 t2
  have t3 : DataW.trod enc Try.prog W 0 (fun _ => true) true n 4 ((List.drop 3 [c0, c1, c2, c3, c4, c5]).take (Try.prog.cellsOf 4)) = some y3 := hat 3 _ rfl
  rw [show Try.prog.cellsOf 4 = 1 by kernel_rfl] at t3; simp only [List.drop_succ_cons, List.drop_zero, List.take_succ_cons, List.take_zero] at t3
  obtain ⟨z3, e3, x3⟩ := DataW.trod_bool Try.underlying4 t3
  have t4 : DataW.trod enc Try.prog W 0 (fun _ => true) true n 3 ((List.drop 4 [c0, c1, c2, c3, c4, c5]).take (Try.prog.cellsOf 3)) = some y4 := hat 4 _ rfl
  rw [show Try.prog.cellsOf 3 = 1 by kernel_rfl] at t4; simp only [List.drop_succ_cons, List.drop_zero, List.take_succ_cons, List.take_zero] at t4
  obtain ⟨z4, e4, x4, -⟩ := DataW.trod_int Try.underlying3 t4
  have t5 : DataW.trod enc Try.prog W 0 (fun _ => true) true n 35 ((List.drop 5 [c0, c1, c2, c3, c4, c5]).take (Try.prog.cellsOf 35)) = some y5 := hat 5 _ rfl
  rw [show Try.prog.cellsOf 35 = 1 by kernel_rfl] at t5; simp only [List.drop_succ_cons, List.drop_zero, List.take_succ_cons, List.take_zero] at t5
  obtain ⟨A5, k5, z5, e5, l5, r5, o5, w5⟩ := open_rows (k := 9) Try.underlying35 (by kernel_rfl) (show Try.prog.bytesOf 90 = 112 by kernel_rfl) (fun _ => rfl) (by omega) one_instr t5
  simp only [List.cons.injEq, and_true] at e0 e1 e2 e3 e4 e5
  refine ⟨⟨z0, z1, z2, z3, z4, z5, A5, k5⟩, ?_, ⟨l5, r5, o5⟩, fun hw => ?_⟩
  ·rw [e0, e1, e2, e3, e4, e5]; rfl
  ·have hw' : Wt Try.prog 37 (DataW.agg [y0.1, y1.1, y2.1, y3.1, y4.1, y5.1]) := by rw [hx] at hw; exact hw
   unfold Wt at hw' w0 w1 w5
   simp only [DataW.weights, Try.underlying37, List.map_cons, List.map_nil, DataW.weightsEach, List.mem_append] at hw'
   exact ⟨(w0 fun m hm => hw' m (by simp [hm])), (w1 fun m hm => hw' m (by simp [hm])), Nat.le_trans (Nat.le_mul_of_pos_right _ (by omega)) ((w5 fun m hm => hw' m (by simp [hm]))).1, ((w5 fun m hm => hw' m (by simp [hm]))).2⟩
theorem one_class {n : Nat} {cs : List Value} {x : DataW H × List MemPlace} (h : DataW.trod enc Try.prog W 0 (fun _ => true) true n 43 cs = some x) : ∃ y : ClM, cs = clC y ∧ ClOk W y ∧ (Wt Try.prog 43 x.1 → ClBd y) := by
 obtain ⟨xs, n, -, hx, hcl, hxl, hat⟩ := DataW.trod_struct Try.underlying43 h
 rw [show Try.prog.cellsOf 43 = 7 by kernel_rfl] at hcl
 match xs, hxl, cs, hcl with
 | [y0, y1, y2, y3, y4, y5, y6], _, [c0, c1, c2, c3, c4, c5, c6], _ =>
  have t0 : DataW.trod enc Try.prog W 0 (fun _ => true) true n 9 ((List.drop 0 [c0, c1, c2, c3, c4, c5, c6]).take (Try.prog.cellsOf 9)) = some y0 := hat 0 _ rfl
  rw [show Try.prog.cellsOf 9 = 1 by kernel_rfl] at t0; simp only [List.drop_succ_cons, List.drop_zero, List.take_succ_cons, List.take_zero] at t0
  obtain ⟨z0, e0, -, w0⟩ := one_text t0
  have t1 : DataW.trod enc Try.prog W 0 (fun _ => true) true n 9 ((List.drop 1 [c0, c1, c2, c3, c4, c5, c6]).take (Try.prog.cellsOf 9)) = some y1 := hat 1 _ rfl
  rw [show Try.prog.cellsOf 9 = 1 by kernel_rfl] at t1; simp only [List.drop_succ_cons, List.drop_zero, List.take_succ_cons, List.take_zero] at t1
  obtain ⟨z1, e1, -, w1⟩ := one_text t1
  have t2 : DataW.trod enc Try.prog W 0 (fun _ => true) true n 4 ((List.drop 2 [c0, c1, c2, c3, c4, c5, c6]).take (Try.prog.cellsOf 4)) = some y2 := hat 2 _ rfl
  rw [show Try.prog.cellsOf 4 = 1 by kernel_rfl] at t2; simp only [List.drop_succ_cons, List.drop_zero, List.take_succ_cons, List.take_zero] at t2
  obtain ⟨z2, e2, x2⟩ := DataW.trod_bool Try.underlying4 t2
  have t3 : DataW.trod enc Try.prog W 0 (fun _ => true) true n 4 ((List.drop 3 [c0, c1, c2, c3, c4, c5, c6]).take (Try.prog.cellsOf 4)) = some y3 := hat 3 _ rfl
  rw [show Try.prog.cellsOf 4 = 1 by kernel_rfl] at t3; simp only [List.drop_succ_cons, List.drop_zero, List.take_succ_cons, List.take_zero] at t3
  obtain ⟨z3, e3, x3⟩ := DataW.trod_bool Try.underlying4 t3
  have t4 : DataW.trod enc Try.prog W 0 (fun _ => true) true n 23 ((List.drop 4 [c0, c1, c2, c3, c4, c5, c6]).take (Try.prog.cellsOf 23)) = some y4 := hat 4 _ rfl
  rw [show Try.prog.cellsOf 23 = 1 by kernel_rfl] at t4; simp only [List.drop_succ_cons, List.drop_zero, List.take_succ_cons, List.take_zero] at t4
  obtain ⟨A4, k4, z4, e4, l4, r4, w4⟩ := open_strs t4
  have t5 : DataW.trod enc Try.prog W 0 (fun _ => true) true n 40 ((List.drop 5 [c0, c1, c2, c3, c4, c5, c6]).take (Try.prog.cellsOf 40)) = some y5 := hat 5 _ rfl
  rw [show Try.prog.cellsOf 40 = 1 by kernel_rfl] at t5; simp only [List.drop_succ_cons, List.drop_zero, List.take_succ_cons, List.take_zero] at t5
  obtain ⟨A5, k5, z5, e5, l5, r5, o5, w5⟩ := open_rows (k := 4) Try.underlying40 (by kernel_rfl) (show Try.prog.bytesOf 92 = 48 by kernel_rfl) (fun _ => rfl) (by omega) one_field t5
  have t6 : DataW.trod enc Try.prog W 0 (fun _ => true) true n 41 ((List.drop 6 [c0, c1, c2, c3, c4, c5, c6]).take (Try.prog.cellsOf 41)) = some y6 := hat 6 _ rfl
  rw [show Try.prog.cellsOf 41 = 1 by kernel_rfl] at t6; simp only [List.drop_succ_cons, List.drop_zero, List.take_succ_cons, List.take_zero] at t6
  obtain ⟨A6, k6, z6, e6, l6, r6, o6, w6⟩ := open_rows (k := 6) Try.underlying41 (by kernel_rfl) (show Try.prog.bytesOf 37 = 72 by kernel_rfl) (fun _ => rfl) (by omega) one_method t6
  simp only [List.cons.injEq, and_true] at e0 e1 e2 e3 e4 e5 e6
  refine ⟨⟨z0, z1, z2, z3, z4, A4, k4, z5, A5, k5, z6, A6, k6⟩, ?_, ⟨⟨l4, r4⟩, ⟨l5, r5⟩, ⟨l6, r6⟩, o6⟩, fun hw => ?_⟩
  ·rw [e0, e1, e2, e3, e4, e5, e6]; rfl
  ·have hw' : Wt Try.prog 43 (DataW.agg [y0.1, y1.1, y2.1, y3.1, y4.1, y5.1, y6.1]) := by rw [hx] at hw; exact hw
   unfold Wt at hw' w0 w1 w4 w5 w6
   simp only [DataW.weights, Try.underlying43, List.map_cons, List.map_nil, DataW.weightsEach, List.mem_append] at hw'
   exact ⟨(w0 fun m hm => hw' m (by simp [hm])), (w1 fun m hm => hw' m (by simp [hm])), (w4 fun m hm => hw' m (by simp [hm])), ⟨Nat.le_trans (Nat.le_mul_of_pos_right _ (by omega)) ((w5 fun m hm => hw' m (by simp [hm]))).1, ((w5 fun m hm => hw' m (by simp [hm]))).2⟩, Nat.le_trans (Nat.le_mul_of_pos_right _ (by omega)) ((w6 fun m hm => hw' m (by simp [hm]))).1, ((w6 fun m hm => hw' m (by simp [hm]))).2⟩
theorem one_prog {n : Nat} {cs : List Value} {x : DataW H × List MemPlace} (h : DataW.trod enc Try.prog W 0 (fun _ => true) true n 27 cs = some x) : ∃ y : PrM, cs = prC y ∧ PrOk W y ∧ (Wt Try.prog 27 x.1 → PrBd y) := by
 obtain ⟨xs, n, -, hx, hcl, hxl, hat⟩ := DataW.trod_struct Try.underlying27 h
 rw [show Try.prog.cellsOf 27 = 5 by kernel_rfl] at hcl
 match xs, hxl, cs, hcl with
 | [y0, y1, y2], _, [c0, c1, c2, c3, c4], _ =>
  have t0 : DataW.trod enc Try.prog W 0 (fun _ => true) true n 22 ((List.drop 0 [c0, c1, c2, c3, c4]).take (Try.prog.cellsOf 22)) = some y0 := hat 0 _ rfl
  rw [show Try.prog.cellsOf 22 = 1 by kernel_rfl] at t0; simp only [List.drop_succ_cons, List.drop_zero, List.take_succ_cons, List.take_zero] at t0
  obtain ⟨A0, k0, z0, e0, l0, r0, o0, w0⟩ := open_rows (k := 7) Try.underlying22 (by kernel_rfl) (show Try.prog.bytesOf 43 = 112 by kernel_rfl) (fun _ => rfl) (by omega) one_class t0
  have t1 : DataW.trod enc Try.prog W 0 (fun _ => true) true n 23 ((List.drop 1 [c0, c1, c2, c3, c4]).take (Try.prog.cellsOf 23)) = some y1 := hat 1 _ rfl
  rw [show Try.prog.cellsOf 23 = 1 by kernel_rfl] at t1; simp only [List.drop_succ_cons, List.drop_zero, List.take_succ_cons, List.take_zero] at t1
  obtain ⟨A1, k1, z1, e1, l1, r1, w1⟩ := open_strs t1
  have t2 : DataW.trod enc Try.prog W 0 (fun _ => true) true n 25 ((List.drop 2 [c0, c1, c2, c3, c4]).take (Try.prog.cellsOf 25)) = some y2 := hat 2 _ rfl
  rw [show Try.prog.cellsOf 25 = 3 by kernel_rfl] at t2; simp only [List.drop_succ_cons, List.drop_zero, List.take_succ_cons, List.take_zero] at t2
  obtain ⟨ys, m, -, hy, -, hyl, hbt⟩ := DataW.trod_struct Try.underlying25 t2
  match ys, hyl with
  | [q0, q1, q2], _ =>
  have s0 : DataW.trod enc Try.prog W 0 (fun _ => true) true m 9 ((List.drop 0 [c2, c3, c4]).take (Try.prog.cellsOf 9)) = some q0 := hbt 0 _ rfl
  rw [show Try.prog.cellsOf 9 = 1 by kernel_rfl] at s0; simp only [List.drop_succ_cons, List.drop_zero, List.take_succ_cons, List.take_zero] at s0
  obtain ⟨u0, b0, -, v0⟩ := one_text s0
  have s1 : DataW.trod enc Try.prog W 0 (fun _ => true) true m 9 ((List.drop 1 [c2, c3, c4]).take (Try.prog.cellsOf 9)) = some q1 := hbt 1 _ rfl
  rw [show Try.prog.cellsOf 9 = 1 by kernel_rfl] at s1; simp only [List.drop_succ_cons, List.drop_zero, List.take_succ_cons, List.take_zero] at s1
  obtain ⟨u1, b1, -, v1⟩ := one_text s1
  have s2 : DataW.trod enc Try.prog W 0 (fun _ => true) true m 9 ((List.drop 2 [c2, c3, c4]).take (Try.prog.cellsOf 9)) = some q2 := hbt 2 _ rfl
  rw [show Try.prog.cellsOf 9 = 1 by kernel_rfl] at s2; simp only [List.drop_succ_cons, List.drop_zero, List.take_succ_cons, List.take_zero] at s2
  obtain ⟨u2, b2, -, v2⟩ := one_text s2
  simp only [List.cons.injEq, and_true] at e0 e1 b0 b1 b2
  refine ⟨⟨z0, A0, k0, z1, A1, k1, u0, u1, u2⟩, ?_, ⟨⟨l0, r0⟩, ⟨l1, r1⟩, o0⟩, fun hw => ?_⟩
  ·rw [e0, e1, b0, b1, b2]; rfl
  ·have hw' : Wt Try.prog 27 (DataW.agg [y0.1, y1.1, y2.1]) := by rw [hx] at hw; exact hw
   unfold Wt at hw' w0 w1 v0 v1 v2
   simp only [DataW.weights, Try.underlying27, List.map_cons, List.map_nil, DataW.weightsEach, List.mem_append] at hw'
   have j0 : ∀ m ∈ DataW.weights Try.prog 9 q0.1, m ≤ 140737488351232 := fun m hm => hw' m (by rw [congrArg Prod.fst hy]; simp [DataW.weights, DataW.weightsEach, Try.underlying25, hm])
   have j1 : ∀ m ∈ DataW.weights Try.prog 9 q1.1, m ≤ 140737488351232 := fun m hm => hw' m (by rw [congrArg Prod.fst hy]; simp [DataW.weights, DataW.weightsEach, Try.underlying25, hm])
   have j2 : ∀ m ∈ DataW.weights Try.prog 9 q2.1, m ≤ 140737488351232 := fun m hm => hw' m (by rw [congrArg Prod.fst hy]; simp [DataW.weights, DataW.weightsEach, Try.underlying25, hm])
   exact ⟨⟨Nat.le_trans (Nat.le_mul_of_pos_right _ (by omega)) ((w0 fun m hm => hw' m (by simp [hm]))).1, ((w0 fun m hm => hw' m (by simp [hm]))).2⟩, (w1 fun m hm => hw' m (by simp [hm])), v0 j0, v1 j1, v2 j2⟩
theorem open_prog {base : Nat} {v : Value} {d : DataW H} {p : List MemPlace} (hok : Value.okWide Try.prog W .any base 27 v) (h : DataW.Trod enc Try.prog W 0 (fun _ => true) true 27 v d p) :
  ∃ y : PrM, v = .agg (prC y).toArray ∧ PrOk W y ∧ (Wt Try.prog 27 d → PrBd y) := by
 obtain ⟨cs, rfl, -⟩ := okWide_struct Try.underlying27 hok
 obtain ⟨fuel, hf⟩ := h
 obtain ⟨y, hy, h1, h2⟩ := one_prog hf
 refine ⟨y, ?_, h1, h2⟩
 have : cs.toList = prC y := by simpa [Value.cells] using hy
 rw [← this]
theorem prog_reach {ts : List TypeId} {ds : List (DataW H)} (h : (DataW.weightsEach Try.prog ts ds).all (· ≤ reachBytes) = true) {j : Nat} {t : TypeId} {d : DataW H} (ht : ts[j]? = some t) (hj : ds[j]? = some d) : Wt Try.prog t d := by
 have h3 : reachBytes = 140737488351232 := by decide
 intro m hm
 have := List.all_eq_true.1 h _ (DataW.weights_mem_each ht hj _ hm)
 simp only [decide_eq_true_eq] at this
 omega
end
end Go.Proofs.Ytdifmgeicnndfaa.prg

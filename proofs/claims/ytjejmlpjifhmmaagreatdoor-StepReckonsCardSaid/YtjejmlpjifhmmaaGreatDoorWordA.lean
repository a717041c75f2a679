/- WordA -/
import Derived.WalkKit
import Derived.Maps.AppendAt
import Derived.Deep.Draws
import Derived.Deep.RegionHeld
import Derived.Test.YtjejmlpjifhmmaaGreatDoorRows
import Derived.ProofKit
import Derived.OpenShut
import Derived.SizedLaws
import Derived.Below
import Derived.Lib.Split
import Derived.Lib.Join
import Derived.Test.YtjejmlpjifhmmaaGreatDoorProg
import Derived.Lib.Hide
import Derived.Deep.RegionHeld3
import Derived.Laws.BitsAllLaws
import Derived.Deep.QuietTactic
import Derived.BigQuiet
import Derived.WalkSpells
import Derived.Lib.AppendZerosOnto
import Derived.Handy
import Derived.ChangeKeysEq
import Derived.Lib.BufferWrite
import Derived.IntWalk
import Derived.Defers
import Derived.Recover
import Derived.Lib.AppendStr
namespace Go.Proofs.YtjejmlpjifhmmaaGreatDoor.words
open Go.RowKit
theorem add_block (a : Addr) (j : Nat) : (a.add j).block = a.block := by
 unfold Addr.add; split <;> rfl
theorem add_add (a : Addr) (i j : Nat) : (a.add i).add j = a.add (i + j) := by
 unfold Addr.add
 rcases Nat.eq_zero_or_pos i with rfl | hi
 ·simp
 ·rcases Nat.eq_zero_or_pos j with rfl | hj
  ·simp
  ·rw [if_neg (by omega), if_neg (by omega), if_neg (by omega)]
   simp only [Nat.add_assoc]
def Rd (w : World) (A : Option Addr) (xs : List Value) : Prop :=
 xs = [] ∨ ∃ a, A = some a ∧ a.block < w.heap.size ∧ ∀ j u, xs[j]? = some u → w.cell? (a.add j) = some u
theorem Rd.nil (w : World) (A : Option Addr) : Rd w A [] := .inl rfl
theorem Rd.at_ {w : World} {A : Option Addr} {xs : List Value} (h : Rd w A xs) {j : Nat} {u : Value} (hj : xs[j]? = some u) :
  ∃ a, A = some a ∧ a.block < w.heap.size ∧ w.cell? (a.add j) = some u := by
 rcases h with rfl | ⟨a, rfl, hb, hc⟩
 ·simp at hj
 ·exact ⟨a, rfl, hb, hc j u hj⟩
theorem Rd.keep {w w' : World} {A : Option Addr} {xs : List Value} (h : Rd w A xs) (hs : w.heap.size ≤ w'.heap.size)
  (hk : ∀ p : Addr, p.block < w.heap.size → w'.cell? p = w.cell? p) : Rd w' A xs := by
 rcases h with rfl | ⟨a, rfl, hb, hc⟩
 ·exact .inl rfl
 ·exact .inr ⟨a, rfl, by omega, fun j u hu => (hk _ (by rw [add_block]; exact hb)).trans (hc j u hu)⟩
theorem Rd.below {w w' : World} {A : Option Addr} {xs : List Value} (h : Rd w A xs) (hb : Below w.heap.size w w') : Rd w' A xs :=
 h.keep hb.size fun _ hp => hb.cell hp
theorem Rd.drewN {w : World} {A : Option Addr} {xs : List Value} (h : Rd w A xs) (n : Nat) : Rd (w.drewN n) A xs := h
theorem Rd.drop {w : World} {A : Option Addr} {xs : List Value} (h : Rd w A xs) (k : Nat) : Rd w (A.map (·.add k)) (xs.drop k) := by
 rcases h with rfl | ⟨a, rfl, hb, hc⟩
 ·exact .inl (by simp)
 ·refine .inr ⟨a.add k, rfl, by rw [add_block]; exact hb, fun j u hu => ?_⟩
  rw [add_add]
  exact hc _ u (by rw [← hu, List.getElem?_drop])
theorem Rd.take {w : World} {A : Option Addr} {xs : List Value} (h : Rd w A xs) (k : Nat) : Rd w A (xs.take k) := by
 rcases h with rfl | ⟨a, rfl, hb, hc⟩
 ·exact .inl (by simp)
 ·refine .inr ⟨a, rfl, hb, fun j u hu => hc j u ?_⟩
  rw [List.getElem?_take] at hu
  split at hu
  ·exact hu
  ·cases hu
theorem Rd.cut {w : World} {A : Option Addr} {xs : List Value} (h : Rd w A xs) {k cap : Nat} (hx : xs.length ≤ cap) :
  Rd w (if cap = k then A else A.map (·.add k)) (xs.drop k) := by
 split
 ·exact .inl (List.drop_eq_nil_of_le (by omega))
 ·exact h.drop k
section
variable {w w' : World} {base : Nat} {e : TypeId} {size n : Nat} {v : Value} {xs : List Value}
theorem own_rd (h : w.ownsRow base e size v n xs) : ∃ A c, v = .slice A n c ∧ n ≤ c ∧ c ≤ maxLen ∧ Rd w A xs := by
 rcases h.2 with ⟨rfl, rfl⟩ | ⟨g, cap, cur, rfl, _, hg, hnc, hcm, _, _⟩
 ·exact ⟨none, 0, rfl, Nat.le_refl _, Nat.zero_le _, .inl (List.eq_nil_of_length_eq_zero (by simpa using h.1))⟩
 ·refine ⟨_, cap, rfl, hnc, hcm, .inr ⟨_, rfl, ?_, h.cells (g := g) rfl⟩⟩
  rcases Nat.lt_or_ge g w.heap.size with hlt | hge
  ·exact hlt
  ·rw [Array.getElem?_eq_none hge] at hg; cases hg
theorem own_below (h : w.ownsRow base e size v n xs) (hb : Below w.heap.size w w') : w'.ownsRow base e size v n xs := by
 have hlt := h.lt
 refine ⟨h.1, ?_⟩
 rcases h.2 with h0 | ⟨g, cap, cur, rfl, hbg, hg, rest⟩
 ·exact .inl h0
 ·exact .inr ⟨g, cap, cur, rfl, hbg, (hb.block g (hlt g rfl).2).trans hg, rest⟩
theorem own_base {base' : Nat} (h : w.ownsRow base e size v n xs) (hb : base' ≤ base) : w.ownsRow base' e size v n xs := by
 refine ⟨h.1, ?_⟩
 rcases h.2 with h0 | ⟨g, cap, cur, rfl, hbg, rest⟩
 ·exact .inl h0
 ·exact .inr ⟨g, cap, cur, rfl, Nat.le_trans hb hbg, rest⟩
end
theorem add_zero_off (b j : Nat) : (⟨b, 0, none⟩ : Addr).add j = ⟨b, j, none⟩ := by
 unfold Addr.add
 rcases Nat.eq_zero_or_pos j with rfl | hj
 ·simp
 ·rw [if_neg (by omega)]; simp
theorem blk_lt {w : World} {b : Nat} {o : Obj} (h : w.heap[b]? = some o) : b < w.heap.size := by
 rcases Nat.lt_or_ge b w.heap.size with h1 | h1
 ·exact h1
 ·rw [Array.getElem?_eq_none h1] at h; cases h
theorem rd_blk {w : World} {b t k : Nat} {cs : Array Value} {xs : List Value} (h : w.heap[b]? = some (.cells cs t (0, 0))) (hx : cs.toList.take k = xs) : Rd w (some ⟨b, 0, none⟩) xs := by
 refine .inr ⟨_, rfl, blk_lt h, fun j u hu => ?_⟩
 rw [add_zero_off, cell_of_row w b j cs t (0, 0) h]
 rw [← hx, List.getElem?_take] at hu
 split at hu
 ·simpa using hu
 ·cases hu
section
variable {P : Program} (w : World)
theorem run_app (base : Nat) (t ty e : TypeId) (i : TypeInfo) (z : Value) (size bytes : Nat) (ht : P.underlying t = some (.slice e)) (hi : P.info? e = some i) (hz : i.zero = some z)
  (hsize : i.size = size) (hby : i.bytes = bytes) (hzs : z.cells.size = size) (hsz : 0 < size)
  (v : Value) (n : Nat) (xs : List Value) (hown : w.ownsRow base e size v n xs)
  (A : Option Addr) (m c : Nat) (news : List Value) (hl : news.length = m * size) (hr : Rd w A news) (h1 : ∀ u ∈ news, u.oneCell' = true)
  (h63 : n + m ≤ maxLen) (hbytes : (n + m) * bytes ≤ 140737488355328) (hbase : base ≤ w.heap.size) :
  ∃ v' w', (Builtin.append_ #[t, t] ty #[v, .slice A m c]).run P w = .ok v' w' ∧ w'.ownsRow base e size v' (n + m) (xs ++ news) ∧ w.grownBy w' v.ownBlock ∧ Below base w w' ∧
   (v'.ownBlock = v.ownBlock ∨ v'.ownBlock = some w.heap.size) := by
 rcases A with _ | a
 ·have hn : news = [] := by
   rcases hr with h | ⟨a, h, _⟩
   ·exact h
   ·cases h
  subst hn
  have hm : m = 0 := by
   rcases Nat.eq_zero_or_pos m with h | h
   ·exact h
   ·have := Nat.mul_pos h hsz
    simp at hl; omega
  subst hm
  refine ⟨v, w, ?_, by simpa using hown, ⟨rfl, rfl, rfl, Nat.le_refl _, fun _ _ _ => rfl⟩, Below.refl _ _, .inl rfl⟩
  rcases hown.2 with ⟨rfl, rfl⟩ | ⟨g, cap, cur, rfl, _, _, hnc, _⟩
  ·simp [Builtin.append_, run_underlying ht, sizeOf, typeInfo, hi, Builtin.lenOf, Builtin.firstCells]
  ·simp [Builtin.append_, run_underlying ht, sizeOf, typeInfo, hi, Builtin.lenOf, Builtin.firstCells, hnc, storeCells]
 ·have hcells : ∀ j u, news[j]? = some u → w.cell? (a.add j) = some u := by
   intro j u hu
   obtain ⟨a', h, _, hc⟩ := hr.at_ hu
   cases h
   exact hc
  obtain ⟨v', w', hrun, h2, h3, _, h5⟩ := run_append_own_at (P := P) w base t ty e i z size bytes ht hi hz hsize hby hzs hsz v n xs hown a m c news hl hcells h1 h63 hbytes hbase
  exact ⟨v', w', hrun, h2, h3, (Below.refl _ _).grown h3 hbase (fun k hk => (hown.lt k hk).1), h5⟩
theorem wp_app {o : Oper} {a : Act} {K : Act → World → Prop} {Q : Exit → Act → World → Prop} (s x : Operand) (t : TypeId)
  (ho : o.op = .call { callee := .builtin .append, args := #[s, x], argTypes := #[t, t] })
  (base : Nat) (e : TypeId) (i : TypeInfo) (z : Value) (size bytes : Nat) (ht : P.underlying t = some (.slice e)) (hi : P.info? e = some i) (hz : i.zero = some z)
  (hsize : i.size = size) (hby : i.bytes = bytes) (hzs : z.cells.size = size) (hsz : 0 < size)
  (v : Value) (n : Nat) (xs : List Value) (hs : a.eval s = v) (hown : w.ownsRow base e size v n xs)
  (A : Option Addr) (m c : Nat) (news : List Value) (hx : a.eval x = .slice A m c) (hl : news.length = m * size) (hr : Rd w A news) (h1 : ∀ u ∈ news, u.oneCell' = true)
  (h63 : n + m ≤ maxLen) (hbytes : (n + m) * bytes ≤ 140737488355328) (hbase : base ≤ w.heap.size)
  (h : ∀ v' w', w'.ownsRow base e size v' (n + m) (xs ++ news) → w.grownBy w' v.ownBlock → Below base w w' → (v'.ownBlock = v.ownBlock ∨ v'.ownBlock = some w.heap.size) → K (a.put o.dst v') w') : o.wp P a w K Q := by
 obtain ⟨v', w', hrun, h2, h3, h4, h5⟩ := run_app (P := P) w base t o.type e i z size bytes ht hi hz hsize hby hzs hsz v n xs hown A m c news hl hr h1 h63 hbytes hbase
 unfold Oper.wp execOp
 simp only [ho, resolve, invoke, builtin, Sem.run_bind, Sem.run_pure, Result.andThen_ok, List.map_toArray, List.map_cons, List.map_nil, hs, hx, hrun]
 exact h v' w' h2 h3 h4 h5
theorem wpList_app {ops : Array Oper} {rest : List Oper} {o : Oper} {a : Act} {Q : Exit → Act → World → Prop} (hgd : o.guard = none) (s x : Operand) (t : TypeId)
  (ho : o.op = .call { callee := .builtin .append, args := #[s, x], argTypes := #[t, t] })
  (base : Nat) (e : TypeId) (i : TypeInfo) (z : Value) (size bytes : Nat) (ht : P.underlying t = some (.slice e)) (hi : P.info? e = some i) (hz : i.zero = some z)
  (hsize : i.size = size) (hby : i.bytes = bytes) (hzs : z.cells.size = size) (hsz : 0 < size)
  (v : Value) (n : Nat) (xs : List Value) (hs : a.eval s = v) (hown : w.ownsRow base e size v n xs)
  (A : Option Addr) (m c : Nat) (news : List Value) (hx : a.eval x = .slice A m c) (hl : news.length = m * size) (hr : Rd w A news) (h1 : ∀ u ∈ news, u.oneCell' = true)
  (h63 : n + m ≤ maxLen) (hbytes : (n + m) * bytes ≤ 140737488355328) (hbase : base ≤ w.heap.size)
  (h : ∀ v' w', w'.ownsRow base e size v' (n + m) (xs ++ news) → w.grownBy w' v.ownBlock → Below base w w' → (v'.ownBlock = v.ownBlock ∨ v'.ownBlock = some w.heap.size) → wpList P ops Q rest (a.put o.dst v') w') : wpList P ops Q (o :: rest) a w :=
 wpList_plain hgd fun _ hK => wp_app w s x t ho base e i z size bytes ht hi hz hsize hby hzs hsz v n xs hs hown A m c news hx hl hr h1 h63 hbytes hbase fun v' w' h2 h3 h4 h5 => hK _ _ (h v' w' h2 h3 h4 h5)
end
theorem run_cut_h {P : Program} {t e : TypeId} (ht : P.underlying t = some (.slice e)) (hel : P.elem t = e) (hsz : ∀ w, (sizeOf e).run P w = .ok 1 w) (A : Option Addr) (n c k : Nat) (hk : k ≤ c) :
  ∃ A', (∀ w xs, Rd w A xs → Rd w A' (xs.take k)) ∧ ∀ w : World, (Instr.sliceAt t (.slice A n c) none (some (.int .i64 (k : Int))) none).run P w = .ok (.slice A' k c) w := by
 refine ⟨if c = 0 then A else A.map (·.add 0), fun w xs h => ?_, fun w => ?_⟩
 ·split
  ·exact h.take k
  ·have e0 : A.map (·.add 0) = A := by cases A <;> simp [Addr.add]
   rw [e0]; exact h.take k
 ·rw [run_sliceAt_slice w _ _ _ _ _ (by rw [hel]; exact ht), run_slice_h w _ A n c (by rw [hel]; exact ht) .i64 (k : Int) (by omega) (by omega), hel, hsz]
  simp only [Result.andThen_ok, sliced, Nat.zero_mul, Int.toNat_natCast, Nat.sub_zero]
theorem under {b q : Nat} {a c : World} (h : Below b (a.drewN q) c) : Below b a c := ⟨h.os, h.tape, h.output, h.size, h.block⟩
theorem over {b q : Nat} {a c : World} (h : Below b a c) : Below b a (c.drewN q) := ⟨h.os, h.tape, h.output, h.size, h.block⟩
theorem then_ {b : Nat} {a c d : World} (h : Below b a c) (hb : b ≤ a.heap.size) (k : Below c.heap.size c d) : Below b a d := h.trans (k.mono (Nat.le_trans hb h.size))
theorem then' {a c d : World} (h : Below a.heap.size a c) (k : Below c.heap.size c d) : Below a.heap.size a d := then_ h (Nat.le_refl _) k
def B (l : List Nat) : List Value := l.map fun x : Nat => Value.int .u8 (x : Int)
def U (l : List Nat) : List Value := l.map fun x : Nat => Value.int .u64 (x : Int)
theorem B_take (l : List Nat) (k : Nat) : (B l).take k = B (l.take k) := by simp [B]
section
variable {P : Program} {md : Region.Mode} {ops : Array Oper} {Q : Exit → Act → World → Prop} {S : World → Prop} {oi : Oper} {fuel : Nat} {listed : Array Bool} {a : Act} {w : World}
theorem tkv (i : Nat) {v : Value} (hi : ops[i]? = some oi) (h : wpAnyH P md ops Q S fuel (listed.setIfInBounds i true) (a.put oi.dst v) w)
  (hd : (Region.noSelect ops && (Region.free md ops listed i && ((Region.ready md ops listed).contains i && Region.wanted oi (yielded ops a.tmps)))) = true := by kernel_rfl)
  (hy : ∀ w, S w → (execOp a.eval oi).run P w = .ok (.value v) w := by (intro w hSw; (try dsimp only at hSw); go_simp; (try with_reducible rfl)))
  (hQ : ∀ c a w, Q (.panic c) (a.put oi.dst v) w → Q (.panic c) a w := by exact fun _ _ _ h => h) (hS : S w := by assumption) : wpAnyH P md ops Q S (fuel + 1) listed a w := by
 simp only [Bool.and_eq_true] at hd
 exact wpAnyH_take hi hd.1 hd.2.1 hd.2.2.1 hQ (Or.inl ⟨hd.2.2.2, hy⟩) hS h
end
theorem bls : (∀ b, (true && b) = b) ∧ (∀ b, (false && b) = false) ∧ (∀ b, (b && true) = b) ∧ (∀ b, (b && false) = false) ∧ (∀ b, (true || b) = true) ∧ (∀ b, (false || b) = b) ∧ (∀ b, (b || true) = true) ∧ (∀ b, (b || false) = b) ∧ ((!true) = false) ∧ ((!false) = true) := by
 refine ⟨?_, ?_, ?_, ?_, ?_, ?_, ?_, ?_, rfl, rfl⟩ <;> intro b <;> cases b <;> rfl
theorem puts : (∀ (a : Act) (v : Value), a.put none v = a) ∧ (∀ (ts : Array Value) (ds : List Deferred) (t : Tmp) (v : Value), Act.put ⟨ts, ds⟩ (some t) v = ⟨ts.setIfInBounds t v, ds⟩) ∧ (∀ {α : Type} (l : List α) (i : Nat) (v : α), l.toArray.setIfInBounds i v = (l.set i v).toArray) ∧ (∀ {α : Type} (x : α) (l : List α) (v : α), (x :: l).set 0 v = v :: l) ∧
  (∀ {α : Type} (x : α) (l : List α) (i : Nat) (v : α), (x :: l).set (i + 1) v = x :: l.set i v) ∧ (∀ {α : Type} (l : List α) (i : Nat) (h : i < l.toArray.size), l.toArray[i] = l[i]'(by simpa using h)) ∧ (∀ {α : Type} (x : α) (l : List α) (h : 0 < (x :: l).length), (x :: l)[0] = x) ∧ (∀ {α : Type} (x : α) (l : List α) (i : Nat) (h : i + 1 < (x :: l).length), (x :: l)[i + 1] = l[i]'(by simpa using h)) :=
 ⟨fun _ _ => rfl, fun _ _ _ _ => rfl, fun _ _ _ => List.setIfInBounds_toArray .., fun _ _ _ => rfl, fun _ _ _ _ => rfl, fun _ _ _ => rfl, fun _ _ _ => rfl, fun _ _ _ _ => rfl⟩
section
variable {P : Program} {md : Region.Mode} {ops : Array Oper} {Q : Exit → Act → World → Prop} {S : World → Prop} {oi : Oper} {fuel : Nat} {listed : Array Bool} {a : Act} {w : World}
theorem zh {p : Prop} (h : p) : Hid p := h
theorem tkp (i : Nat) {v : Value} {a' : Act} (hi : ops[i]? = some oi) (h : wpAnyH P md ops Q S fuel (listed.setIfInBounds i true) a' w)
  (hd : (Region.noSelect ops && (Region.free md ops listed i && ((Region.ready md ops listed).contains i && Region.wanted oi (yielded ops a.tmps)))) = true := by kernel_rfl)
  (hy : ∀ w, S w → (execOp a.eval oi).run P w = .ok (.value v) w := by (intro w hSw; (try dsimp only at hSw); go_simp; (try with_reducible rfl)))
  (ha : a.put oi.dst v = a' := by (first | (simp only [puts]; done) | (simp only [puts]; rfl) | rfl))
  (hQ : ∀ c a w, Q (.panic c) (a.put oi.dst v) w → Q (.panic c) a w := by exact fun _ _ _ h => h) (hS : S w := by assumption) : wpAnyH P md ops Q S (fuel + 1) listed a w := by
 subst ha
 exact tkv i hi h hd hy hQ hS
theorem rdy (i : Nat) (hi : ops[i]? = some oi) (h : ∀ K : Act → World → Prop, Shut (∀ v u, S u → (S u → wpAnyH P md ops Q S fuel (listed.setIfInBounds i true) v u) → K v u) → if Region.wanted oi (yielded ops a.tmps) = true then Oper.wp P oi a w K Q else K (a.put oi.dst undef) w)
  (hr : Region.ready md ops listed = [i] := by kernel_rfl) : wpAnyH P md ops Q S (fuel + 1) listed a w :=
 wpAnyH_ready hr (by simp) (AllReadyH.cons hi h AllReadyH.nil)
variable {b : Nat} {t : TypeId} {fz : Nat × Nat} {u0 u1 u2 u3 u4 u5 u6 u7 u8 : Value}
theorem c5q (h : w.heap[b]? = some (.cells #[u0, u1, u2, u3, u4] t fz)) : w.cell? ⟨b, 0, none⟩ = some u0 ∧ w.cell? ⟨b, 1, none⟩ = some u1 ∧ w.cell? ⟨b, 2, none⟩ = some u2 ∧ w.cell? ⟨b, 3, none⟩ = some u3 ∧ w.cell? ⟨b, 4, none⟩ = some u4 :=
 ⟨cell_of_row _ _ 0 _ _ _ h, cell_of_row _ _ 1 _ _ _ h, cell_of_row _ _ 2 _ _ _ h, cell_of_row _ _ 3 _ _ _ h, cell_of_row _ _ 4 _ _ _ h⟩
theorem c6q (h : w.heap[b]? = some (.cells #[u0, u1, u2, u3, u4, u5] t fz)) : w.cell? ⟨b, 0, none⟩ = some u0 ∧ w.cell? ⟨b, 1, none⟩ = some u1 ∧ w.cell? ⟨b, 2, none⟩ = some u2 ∧ w.cell? ⟨b, 3, none⟩ = some u3 ∧ w.cell? ⟨b, 4, none⟩ = some u4 ∧ w.cell? ⟨b, 5, none⟩ = some u5 :=
 ⟨cell_of_row _ _ 0 _ _ _ h, cell_of_row _ _ 1 _ _ _ h, cell_of_row _ _ 2 _ _ _ h, cell_of_row _ _ 3 _ _ _ h, cell_of_row _ _ 4 _ _ _ h, cell_of_row _ _ 5 _ _ _ h⟩
theorem c7q (h : w.heap[b]? = some (.cells #[u0, u1, u2, u3, u4, u5, u6] t fz)) : w.cell? ⟨b, 0, none⟩ = some u0 ∧ w.cell? ⟨b, 1, none⟩ = some u1 ∧ w.cell? ⟨b, 2, none⟩ = some u2 ∧ w.cell? ⟨b, 3, none⟩ = some u3 ∧ w.cell? ⟨b, 4, none⟩ = some u4 ∧ w.cell? ⟨b, 5, none⟩ = some u5 ∧ w.cell? ⟨b, 6, none⟩ = some u6 :=
 ⟨cell_of_row _ _ 0 _ _ _ h, cell_of_row _ _ 1 _ _ _ h, cell_of_row _ _ 2 _ _ _ h, cell_of_row _ _ 3 _ _ _ h, cell_of_row _ _ 4 _ _ _ h, cell_of_row _ _ 5 _ _ _ h, cell_of_row _ _ 6 _ _ _ h⟩
theorem c9q (h : w.heap[b]? = some (.cells #[u0, u1, u2, u3, u4, u5, u6, u7, u8] t fz)) : w.cell? ⟨b, 0, none⟩ = some u0 ∧ w.cell? ⟨b, 1, none⟩ = some u1 ∧ w.cell? ⟨b, 2, none⟩ = some u2 ∧ w.cell? ⟨b, 3, none⟩ = some u3 ∧ w.cell? ⟨b, 4, none⟩ = some u4 ∧ w.cell? ⟨b, 5, none⟩ = some u5 ∧ w.cell? ⟨b, 6, none⟩ = some u6 ∧ w.cell? ⟨b, 7, none⟩ = some u7 ∧ w.cell? ⟨b, 8, none⟩ = some u8 :=
 ⟨cell_of_row _ _ 0 _ _ _ h, cell_of_row _ _ 1 _ _ _ h, cell_of_row _ _ 2 _ _ _ h, cell_of_row _ _ 3 _ _ _ h, cell_of_row _ _ 4 _ _ _ h, cell_of_row _ _ 5 _ _ _ h, cell_of_row _ _ 6 _ _ _ h, cell_of_row _ _ 7 _ _ _ h, cell_of_row _ _ 8 _ _ _ h⟩
end
end Go.Proofs.YtjejmlpjifhmmaaGreatDoor.words
namespace Go.Proofs.YtjejmlpjifhmmaaGreatDoor.frame
open Go.ChangeShapes Go.WideShapes Go.ChangeAt Go.RowKit
open words
set_option maxRecDepth 100000
theorem laidOut : laidOutB Tryz.prog = true := by kernel_rfl
theorem own : ownKnob Tryz.prog.godebug = none := by kernel_rfl
theorem cell_lt {w : World} {p : Addr} {v : Value} (h : w.cell? p = some v) : p.block < w.heap.size := by
 rcases Nat.lt_or_ge p.block w.heap.size with h1 | h1
 ·exact h1
 ·simp [World.cell?, Array.getElem?_eq_none h1] at h
theorem open_row {H : Type} {enc : TypeId × Value → H} {P : Program} {W : World} {base : Nat} {t e : TypeId} {k : IntKind} (ht : P.underlying t = some (.slice e)) (he : P.underlying e = some (.int k)) (hc : P.cellsOf e = 1)
  {v : Value} {d : DataW H} {p : List MemPlace} (hok : Value.okWide P W .any base t v) (h : DataW.Trod enc P W 0 (fun _ => true) true t v d p) :
  ∃ A n c, ∃ zs : List Int, v = .slice A n c ∧ n ≤ c ∧ zs.length = n ∧ (∀ z ∈ zs, (Lit.int k z).wf = true) ∧ Rd W A (zs.map (Value.int k)) ∧
   ((d = .nil ∧ c = 0) ∨ ∃ elems spare, d = .slice elems spare ∧ elems.length = n ∧ elems.length + spare.length = c) := by
 obtain ⟨A, n, c, rfl⟩ := okWide_slice ht hok
 obtain ⟨fuel, hf⟩ := h
 rcases open_ints ht he hc hf with ⟨hcs, hx⟩ | ⟨x, l, cp, zs, hcs, _, hl, hm, hz, hx, hcell, hwz⟩
 ·simp [Value.cells] at hcs
  obtain ⟨rfl, rfl, rfl⟩ := hcs
  simp only [Prod.mk.injEq] at hx
  exact ⟨none, 0, 0, [], rfl, Nat.le_refl _, rfl, by simp, .inl rfl, .inl ⟨hx.1, rfl⟩⟩
 ·simp [Value.cells] at hcs
  obtain ⟨rfl, rfl, rfl⟩ := hcs
  simp only [Prod.mk.injEq] at hx
  have hzc : zs.length = c := by simpa using hz
  refine ⟨some x, n, c, zs.take n, rfl, hl, by rw [List.length_take]; omega, fun z hz => hwz z (List.mem_of_mem_take hz), ?_, .inr ⟨_, _, hx.1, ?_, ?_⟩⟩
  ·by_cases h0 : n = 0
   ·subst h0; exact .inl (by simp)
   ·refine .inr ⟨x, rfl, ?_, fun j u hu => ?_⟩
    ·have := cell_lt (hcell 0 (by omega))
     rwa [add_block] at this
    ·rw [List.getElem?_map, List.getElem?_take] at hu
     split at hu
     ·rw [hcell j (by omega)]
      rw [List.getElem?_eq_getElem (by omega)] at hu
      rw [← hu]
      simp [List.getD, List.getElem?_eq_getElem (show j < zs.length by omega)]
     ·cases hu
  ·simp [lits]; omega
  ·simp [lits]; omega
theorem reach {H : Type} {P : Program} {ts : List TypeId} {ds : List (DataW H)} (h : (DataW.weightsEach P ts ds).all (· ≤ reachBytes) = true) {j : Nat} {t e : TypeId} {d : DataW H} {n c b : Nat} (ht : ts[j]? = some t) (hj : ds[j]? = some d)
  (hu : P.underlying t = some (.slice e)) (hb : P.bytesOf e = b) (hnc : n ≤ c)
  (hd : (d = .nil ∧ c = 0) ∨ ∃ elems spare, d = .slice elems spare ∧ elems.length = n ∧ elems.length + spare.length = c) : n * b ≤ 140737488351232 := by
 rcases hd with ⟨_, rfl⟩ | ⟨elems, spare, rfl, _, hc⟩
 ·obtain rfl : n = 0 := by omega
  simp
 ·have := sized_slice h ht hj hu
  rw [hb, hc] at this
  have h2 : n * b ≤ c * b := Nat.mul_le_mul_right _ hnc
  have h3 : reachBytes = 140737488351232 := by decide
  omega
end Go.Proofs.YtjejmlpjifhmmaaGreatDoor.frame
namespace Go.Proofs.YtjejmlpjifhmmaaGreatDoor.piece
open Go.Lib
theorem idx_miss {c : UInt8} : ∀ {a : List UInt8}, c ∉ a → index a [c] = -1
 | [], _ => rfl
 | x :: l, h => by
  have h1 : c ≠ x := fun e => h (by rw [e]; exact List.mem_cons_self)
  have h2 : c ∉ l := fun e => h (List.mem_cons_of_mem _ e)
  have hp : ([c] : List UInt8).isPrefixOf (x :: l) = false := by simp [List.isPrefixOf, h1]
  unfold index
  rw [hp, idx_miss h2]; rfl
theorem idx_hit {c : UInt8} {b : List UInt8} : ∀ {a : List UInt8}, c ∉ a → index (a ++ c :: b) [c] = (a.length : Int)
 | [], _ => by
  have hp : ([c] : List UInt8).isPrefixOf (c :: b) = true := by simp [List.isPrefixOf]
  show index (c :: b) [c] = _
  unfold index
  rw [if_pos hp]; rfl
 | x :: l, h => by
  have h1 : c ≠ x := fun e => h (by rw [e]; exact List.mem_cons_self)
  have h2 : c ∉ l := fun e => h (List.mem_cons_of_mem _ e)
  have hp : ([c] : List UInt8).isPrefixOf (x :: (l ++ c :: b)) = false := by simp [List.isPrefixOf, h1]
  show index (x :: (l ++ c :: b)) [c] = _
  unfold index
  rw [hp, idx_hit h2]
  have : ((l.length : Int) == -1) = false := by rw [beq_eq_false_iff_ne]; omega
  simp [this]
theorem cut_miss {c : UInt8} {a : List UInt8} (h : c ∉ a) : cut a [c] = (a, [], false) := by
 unfold cut; rw [idx_miss h, if_neg (by decide)]
theorem cut_hit {c : UInt8} {a b : List UInt8} (h : c ∉ a) : cut (a ++ c :: b) [c] = (a, b, true) := by
 unfold cut
 rw [idx_hit h, if_pos (by omega)]
 have e1 : ((a.length : Int)).toNat = a.length := by omega
 rw [e1]
 simp [List.drop_append]
theorem parts (c : UInt8) : ∀ l : List UInt8, c ∉ l ∨ ∃ a b, l = a ++ c :: b ∧ c ∉ a
 | [] => .inl (by simp)
 | x :: l => by
  by_cases h : c = x
  ·exact .inr ⟨[], l, by rw [h]; rfl, by simp⟩
  ·rcases parts c l with h1 | ⟨a, b, e, h1⟩
   ·exact .inl (by simp [h, h1])
   ·exact .inr ⟨x :: a, b, by rw [e]; rfl, by simp [h, h1]⟩
def F (c : UInt8) (l : List UInt8) : List (List UInt8) := split l [c]
section
variable {l : List UInt8} {i f : Nat} {c x : UInt8}
end
def D (xs : List ByteArray) : List (List UInt8) := xs.map (·.data.toList)
theorem ext_data (s : ByteArray) (f i : Nat) : (s.extract f i).data.toList = (s.data.toList.drop f).take (i - f) := by
 rw [ByteArray.data_extract, Array.toList_extract]
end Go.Proofs.YtjejmlpjifhmmaaGreatDoor.piece
namespace Go.Proofs.YtjejmlpjifhmmaaGreatDoor.kindp
open piece
abbrev Tx := List UInt8
abbrev Ty := Int × Tx
def okC (c : Nat) : Bool := c == 47 || decide ((65 ≤ c ∧ c ≤ 90) ∨ (97 ≤ c ∧ c ≤ 122) ∨ (48 ≤ c ∧ c ≤ 57) ∨ c = 95 ∨ c = 36)
def clsB (c : Tx) : Bool := decide (1 ≤ c.length ∧ c.length ≤ 32) && (c.map (·.toNat)).all okC
def hasB (k : Int) : Bool := decide (k = 3 ∨ k = 5)
def signL (k : Int) : Tx := if k = 1 then [86] else if k = 2 then [73] else if k = 3 then [76] else if k = 4 then [91, 73] else if k = 5 then [91, 76] else []
def rightT (t : Ty) : Bool := if hasB t.1 = true then clsB t.2 else decide ((t.1 = 1 ∨ t.1 = 2 ∨ t.1 = 4) ∧ t.2 = [])
def textT (t : Ty) : Tx := if rightT t = true then (if hasB t.1 = true then signL t.1 ++ t.2 ++ [59] else signL t.1) else []
def classT (k : Int) (s : Tx) : Option (Ty × Tx) := if ((Lib.cut s [59]).2.2 && clsB (Lib.cut s [59]).1) = true then some ((k, (Lib.cut s [59]).1), (Lib.cut s [59]).2.1) else none
def typeT : Tx → Option (Ty × Tx)
 | [] => none
 | c :: r =>
  if c = 86 then some ((1, []), r) else if c = 73 then some ((2, []), r) else if c = 76 then classT 3 r
  else if c = 91 then (match r with
   | [] => none
   | d :: q => if d = 73 then some ((4, []), q) else if d = 76 then classT 5 q else none)
  else none
def allT (s : Tx) : Option Ty := match typeT s with | some (t, []) => some t | _ => none
def sigT : Nat → List Ty → Tx → Option (List Ty × Ty)
 | 0, _, _ => none
 | n + 1, acc, s =>
  if s.head? = some 41 then (match allT s.tail with | some t => some (acc, t) | none => none)
  else match typeT s with
   | some (t, r) => if t = (1, []) then none else sigT n (acc ++ [t]) r
   | none => none
def sigD (d : Tx) : Option (List Ty × Ty) := if d.head? = some 40 then sigT (d.length + 1) [] d.tail else none
def splitT (d : Tx) : List Ty × Ty × Nat :=
 if 64 < d.length then ([], (0, []), 3)
 else match sigD d with
  | some (p, t) => if 8 < p.length then ([], (0, []), 3) else (p, t, 0)
  | none => ([], (0, []), 1)
theorem right_cases {t : Ty} (h : rightT t = true) : t = (1, []) ∨ t = (2, []) ∨ t = (4, []) ∨ (∃ c, t = (3, c) ∧ clsB c = true) ∨ (∃ c, t = (5, c) ∧ clsB c = true) := by
 obtain ⟨k, c⟩ := t
 unfold rightT hasB at h
 dsimp only at h ⊢
 by_cases hk : k = 3 ∨ k = 5
 ·rw [if_pos (decide_eq_true hk)] at h
  rcases hk with rfl | rfl
  ·exact .inr (.inr (.inr (.inl ⟨c, rfl, h⟩)))
  ·exact .inr (.inr (.inr (.inr ⟨c, rfl, h⟩)))
 ·rw [if_neg (by simpa using hk)] at h
  obtain ⟨h1, rfl⟩ := of_decide_eq_true h
  rcases h1 with rfl | rfl | rfl <;> simp
theorem right3 {c : Tx} (h : clsB c = true) : rightT (3, c) = true := by unfold rightT hasB; simpa using h
theorem right5 {c : Tx} (h : clsB c = true) : rightT (5, c) = true := by unfold rightT hasB; simpa using h
theorem text3 {c : Tx} (h : clsB c = true) : textT (3, c) = 76 :: (c ++ [59]) := by
 unfold textT; rw [if_pos (right3 h)]; simp [hasB, signL]
theorem text5 {c : Tx} (h : clsB c = true) : textT (5, c) = 91 :: 76 :: (c ++ [59]) := by
 unfold textT; rw [if_pos (right5 h)]; simp [hasB, signL]
theorem text1 : textT (1, []) = [86] := rfl
theorem text2 : textT (2, []) = [73] := rfl
theorem text4 : textT (4, []) = [91, 73] := rfl
theorem class_of {k : Int} {s r : Tx} {t : Ty} (h : classT k s = some (t, r)) : clsB t.2 = true ∧ t.1 = k ∧ s = t.2 ++ 59 :: r := by
 unfold classT at h
 rcases parts 59 s with hn | ⟨a, b, rfl, ha⟩
 ·rw [cut_miss hn] at h; simp at h
 ·rw [cut_hit ha] at h
  dsimp only at h
  by_cases hc : clsB a = true
  ·rw [if_pos (by simpa using hc)] at h
   cases h; exact ⟨hc, rfl, rfl⟩
  ·rw [if_neg (by simpa using hc)] at h; cases h
theorem type_of {s r : Tx} {t : Ty} (h : typeT s = some (t, r)) : rightT t = true ∧ s = textT t ++ r := by
 cases s with
 | nil => cases h
 | cons c l =>
  dsimp only [typeT] at h
  by_cases h1 : c = 86
  ·rw [if_pos h1] at h; cases h; exact ⟨rfl, by rw [h1]; rfl⟩
  rw [if_neg h1] at h
  by_cases h2 : c = 73
  ·rw [if_pos h2] at h; cases h; exact ⟨rfl, by rw [h2]; rfl⟩
  rw [if_neg h2] at h
  by_cases h3 : c = 76
  ·rw [if_pos h3] at h
   obtain ⟨a, b, e⟩ := class_of h
   obtain ⟨k, d⟩ := t
   dsimp only at a b e
   subst b
   exact ⟨right3 a, by rw [text3 a, h3, e]; simp⟩
  rw [if_neg h3] at h
  by_cases h4 : c = 91
  ·rw [if_pos h4] at h
   cases l with
   | nil => cases h
   | cons d q =>
    dsimp only at h
    by_cases h5 : d = 73
    ·rw [if_pos h5] at h; cases h; exact ⟨rfl, by rw [h4, h5]; rfl⟩
    rw [if_neg h5] at h
    by_cases h6 : d = 76
    ·rw [if_pos h6] at h
     obtain ⟨a, b, e⟩ := class_of h
     obtain ⟨k, d⟩ := t
     dsimp only at a b e
     subst b
     exact ⟨right5 a, by rw [text5 a, h4, h6, e]; simp⟩
    rw [if_neg h6] at h; cases h
  rw [if_neg h4] at h; cases h
theorem text_ne {t : Ty} (h : rightT t = true) : ∃ c r, textT t = c :: r ∧ c ≠ 41 := by
 rcases right_cases h with rfl | rfl | rfl | ⟨c, rfl, h2⟩ | ⟨c, rfl, h2⟩
 ·exact ⟨_, _, text1, by decide⟩
 ·exact ⟨_, _, text2, by decide⟩
 ·exact ⟨_, _, text4, by decide⟩
 ·exact ⟨_, _, text3 h2, by decide⟩
 ·exact ⟨_, _, text5 h2, by decide⟩
theorem type_less {s r : Tx} {t : Ty} (h : typeT s = some (t, r)) : r.length < s.length := by
 obtain ⟨a, e⟩ := type_of h
 obtain ⟨c, q, e2, _⟩ := text_ne a
 rw [e, e2]; simp; omega
theorem sig_fuel : ∀ (n m : Nat) (acc : List Ty) (s : Tx), s.length < n → s.length < m → sigT n acc s = sigT m acc s
 | 0, _, _, _, h, _ => absurd h (by omega)
 | _ + 1, 0, _, _, _, h => absurd h (by omega)
 | n + 1, m + 1, acc, s, h1, h2 => by
  unfold sigT
  split
  ·rfl
  ·cases hp : typeT s with
   | none => rfl
   | some q =>
    obtain ⟨t, r⟩ := q
    dsimp only
    split
    ·rfl
    ·have := type_less hp
     exact sig_fuel n m _ r (by omega) (by omega)
theorem sig_done {acc : List Ty} {r : Tx} : sigT ((41 :: r).length + 1) acc (41 :: r) = (match allT r with | some t => some (acc, t) | none => none) := by
 rw [sigT]; rfl
theorem sig_none {acc : List Ty} {s : Tx} (h : s.head? ≠ some 41) (hp : typeT s = none) : sigT (s.length + 1) acc s = none := by
 rw [sigT, if_neg h, hp]
theorem sig_void {acc : List Ty} {s r : Tx} (h : s.head? ≠ some 41) (hp : typeT s = some ((1, []), r)) : sigT (s.length + 1) acc s = none := by
 rw [sigT, if_neg h, hp]; rfl
theorem sig_next {acc : List Ty} {s r : Tx} {t : Ty} (h : s.head? ≠ some 41) (hp : typeT s = some (t, r)) (ht : t ≠ (1, [])) : sigT (s.length + 1) acc s = sigT (r.length + 1) (acc ++ [t]) r := by
 rw [sigT, if_neg h, hp]
 dsimp only
 rw [if_neg ht]
 have := type_less hp
 exact sig_fuel _ _ _ _ (by omega) (by omega)
end Go.Proofs.YtjejmlpjifhmmaaGreatDoor.kindp
namespace Go.Proofs.YtjejmlpjifhmmaaGreatDoor.opp
open kindp
structure In where
 o : Int
 a : Int
 b : Int
 c : Int
 k : Int
 cl : Tx
 nm : Tx
 ds : Tx
 ar : List Int
deriving DecidableEq
def shapes : List Tx := [[], [], [97, 107], [97], [97, 98], [97, 98, 99, 114], [116], [98, 116], [98, 116], [97, 67], [97, 98], [97, 98, 67], [97, 98], [97, 98, 99], [97, 98, 99], [97, 98, 70], [98, 99, 70], [97, 70], [99, 70], [97, 77, 118], [97, 77, 118], [97, 77, 118], [98], [], [97, 98, 67], [97, 98, 67], [97], [98], [97, 98], [97, 98], [107], [98], [67]]
def known (o : Int) : Bool := decide (0 < o ∧ o ≤ 32)
def shapeL (o : Int) : Tx := if known o = true then shapes.getD o.toNat [] else []
def isCall (o : Int) : Bool := decide (o = 19 ∨ o = 20 ∨ o = 21)
def hasL (s : Tx) (c : UInt8) : Bool := s.contains c
def bareL (i : In) (s : Tx) : In where
 o := i.o
 a := if hasL s 97 then 0 else i.a
 b := if hasL s 98 then 0 else i.b
 c := if hasL s 99 then 0 else i.c
 k := if hasL s 107 || hasL s 116 || hasL s 114 then 0 else i.k
 cl := if hasL s 67 || hasL s 70 || hasL s 77 then [] else i.cl
 nm := if hasL s 70 || hasL s 77 then [] else i.nm
 ds := if hasL s 77 then [] else i.ds
 ar := if hasL s 118 then [] else i.ar
def emptyI (o : Int) : In := ⟨o, 0, 0, 0, 0, [], [], [], []⟩
def emptyB (i : In) (s : Tx) : Bool := decide (bareL i s = emptyI i.o)
def lettered (i : In) (c : UInt8) : List Int := if c = 97 then [i.a] else if c = 98 then [i.b] else if c = 99 then [i.c] else if c = 118 then i.ar else []
def regsL (i : In) : List (UInt8 × Int) := (shapeL i.o).flatMap fun c => (lettered i c).map fun r => (c, r)
end Go.Proofs.YtjejmlpjifhmmaaGreatDoor.opp
namespace Go.Proofs.YtjejmlpjifhmmaaGreatDoor.word
open Go.RowKit
open words
set_option maxRecDepth 100000
def letterB (c : Nat) : Bool := decide ((65 ≤ c ∧ c ≤ 90) ∨ (97 ≤ c ∧ c ≤ 122) ∨ (48 ≤ c ∧ c ≤ 57) ∨ c = 95 ∨ c = 36)
def digitB (c : Nat) : Bool := decide (48 ≤ c ∧ c ≤ 57)
theorem parts (c : Nat) : c < 36 ∨ c = 36 ∨ (36 < c ∧ c < 48) ∨ (48 ≤ c ∧ c ≤ 57) ∨ (57 < c ∧ c < 65) ∨ (65 ≤ c ∧ c ≤ 90) ∨ (90 < c ∧ c < 95) ∨ c = 95 ∨ c = 96 ∨ (97 ≤ c ∧ c ≤ 122) ∨ 122 < c := by omega
theorem digit_w (c : Nat) (w : World) :
  Calls Tryz.prog 286 #[.int .u8 (c : Int)] w fun e w' => e = .returned (.bool (digitB c)) ∧ w' = w := by
 have hp := parts c
 by_cases h : digitB c = true
 ·rw [h]
  simp only [digitB, decide_eq_true_eq] at h
  have a1 : (48 : Int) ≤ (c : Int) := by omega
  have a2 : (c : Int) ≤ 57 := by omega
  clear hp h
  go_enter Tryz.func286, Tryz.ntmps286
  go_wp2
  go_ret
  exact ⟨rfl, rfl⟩
 ·rw [Bool.not_eq_true] at h
  rw [h]
  simp only [digitB, decide_eq_false_iff_not] at h
  by_cases a1 : (48 : Int) ≤ (c : Int)
  ·have a2 : ¬ (c : Int) ≤ 57 := by omega
   clear hp h
   go_enter Tryz.func286, Tryz.ntmps286
   go_wp2
   go_ret
   exact ⟨rfl, rfl⟩
  ·clear hp h
   go_enter Tryz.func286, Tryz.ntmps286
   go_wp2
   go_ret
   exact ⟨rfl, rfl⟩
theorem letter_walk (c : Nat) (b : Bool) (w : World)
  (h : ((65 : Int) ≤ (c : Int) ∧ (c : Int) ≤ 90 ∧ b = true) ∨ ((65 : Int) ≤ (c : Int) ∧ ¬ (c : Int) ≤ 90 ∧ (97 : Int) ≤ (c : Int) ∧ (c : Int) ≤ 122 ∧ b = true)) :
  Calls Tryz.prog 265 #[.int .u8 (c : Int)] w fun e w' => e = .returned (.bool b) ∧ w' = w := by
 rcases h with ⟨a1, a2, rfl⟩ | ⟨a1, a2, a3, a4, rfl⟩
 all_goals
  go_enter Tryz.func265, Tryz.ntmps265
  go_wp2
  go_ret
  exact ⟨rfl, rfl⟩
theorem letter_walk2 (c : Nat) (b d : Bool) (w : World) (hd : digitB c = d)
  (h : (¬ (65 : Int) ≤ (c : Int) ∧ ¬ (97 : Int) ≤ (c : Int)) ∨ ((65 : Int) ≤ (c : Int) ∧ ¬ (c : Int) ≤ 90 ∧ ¬ (97 : Int) ≤ (c : Int)) ∨ ((65 : Int) ≤ (c : Int) ∧ ¬ (c : Int) ≤ 90 ∧ (97 : Int) ≤ (c : Int) ∧ ¬ (c : Int) ≤ 122))
  (h2 : (d = true ∧ b = true) ∨ (d = false ∧ (c : Int) = 95 ∧ b = true) ∨ (d = false ∧ ¬ (c : Int) = 95 ∧ (c : Int) = 36 ∧ b = true) ∨ (d = false ∧ ¬ (c : Int) = 95 ∧ ¬ (c : Int) = 36 ∧ b = false)) :
  Calls Tryz.prog 265 #[.int .u8 (c : Int)] w fun e w' => e = .returned (.bool b) ∧ w' = w := by
 have HD := zh (fun w => digit_w c w)
 rw [hd] at HD
 clear hd
 go_enter Tryz.func265, Tryz.ntmps265
 rcases h with ⟨a1, a3⟩ | ⟨a1, a2, a3⟩ | ⟨a1, a2, a3, a4⟩
 all_goals
  go_wp2_with fail
  refine (HD.out _).mono ?_
  rintro e w' ⟨rfl, rfl⟩
  rcases h2 with ⟨rfl, rfl⟩ | ⟨rfl, b1, rfl⟩ | ⟨rfl, b1, b2, rfl⟩ | ⟨rfl, b1, b2, rfl⟩
  all_goals
   clear HD
   go_wp2
   go_ret
   exact ⟨rfl, rfl⟩
theorem letter_w (c : Nat) (w : World) :
  Calls Tryz.prog 265 #[.int .u8 (c : Int)] w fun e w' => e = .returned (.bool (letterB c)) ∧ w' = w := by
 by_cases hx : (65 ≤ c ∧ c ≤ 90) ∨ (97 ≤ c ∧ c ≤ 122)
 ·have hb : letterB c = true := by simp only [letterB, decide_eq_true_eq]; omega
  rw [hb]
  refine letter_walk c true w ?_
  rcases hx with h | h
  ·exact .inl ⟨by omega, by omega, rfl⟩
  ·exact .inr ⟨by omega, by omega, by omega, by omega, rfl⟩
 ·refine letter_walk2 c (letterB c) (digitB c) w rfl (by omega) ?_
  by_cases h1 : 48 ≤ c ∧ c ≤ 57
  ·exact .inl ⟨by simp [digitB, h1], by simp only [letterB, decide_eq_true_eq]; omega⟩
  ·have hd : digitB c = false := by simp only [digitB, decide_eq_false_iff_not]; omega
   by_cases h2 : c = 95
   ·exact .inr (.inl ⟨hd, by omega, by simp only [letterB, decide_eq_true_eq]; omega⟩)
   ·by_cases h3 : c = 36
    ·exact .inr (.inr (.inl ⟨hd, by omega, by omega, by simp only [letterB, decide_eq_true_eq]; omega⟩))
    ·exact .inr (.inr (.inr ⟨hd, by omega, by omega, by simp only [letterB, decide_eq_false_iff_not]; omega⟩))
def classB (c : Nat) : Bool := c == 47 || letterB c
theorem class_w (c : Nat) (w : World) :
  Calls Tryz.prog 264 #[.int .u8 (c : Int)] w fun e w' => e = .returned (.bool (classB c)) ∧ w' = w := by
 have HL := zh (fun w => letter_w c w)
 unfold classB
 generalize letterB c = d at *
 by_cases h : c = 47
 ·have h1 : ((c : Int) == 47) = true := by simp; omega
  have h2 : (c == 47) = true := by simp [h]
  have h3 : (c : Int) = 47 := by omega
  rw [h2, Bool.true_or]
  clear h h2 HL
  go_enter Tryz.func264, Tryz.ntmps264
  go_wp2
  go_ret
  exact ⟨rfl, rfl⟩
 ·have h1 : ((c : Int) == 47) = false := by simp; omega
  have h2 : (c == 47) = false := by simp [h]
  have h3 : ¬ (c : Int) = 47 := by omega
  rw [h2, Bool.false_or]
  clear h h2
  go_enter Tryz.func264, Tryz.ntmps264
  go_wp2_with (go_at_call 265; refine (HL.out _).mono ?_; rintro e w' ⟨rfl, rfl⟩)
  go_ret
  exact ⟨rfl, rfl⟩
end Go.Proofs.YtjejmlpjifhmmaaGreatDoor.word
namespace Go.Proofs.YtjejmlpjifhmmaaGreatDoor.num
def takeGo (i n : Nat) : List Nat → Nat × Nat × Nat
 | [] => (0, 0, 2)
 | c :: r => if i = 9 ∧ 1 < c then (0, 0, 1)
  else if 128 ≤ c then takeGo (i + 1) (n + c % 128 * 128 ^ i) r
  else if c = 0 ∧ 0 < i then (0, 0, 1) else (n + c * 128 ^ i, i + 1, 0)
def takeAt (l : List Nat) (p : Int) : Nat × Nat × Nat :=
 if p < 0 ∨ (l.length : Int) < p then (0, 0, 12)
 else
  let r := takeGo 0 0 (l.drop p.toNat)
  (r.1, if r.2.2 = 0 then p.toNat + r.2.1 else 0, r.2.2)
def bl (n : Nat) : Nat := if n = 0 then 0 else Nat.log2 n + 1
def more (acc : List Nat) (s : List Nat × Nat) : List Nat × Nat := if s.2 ≠ 0 then ([], s.2) else (acc ++ s.1, 0)
end Go.Proofs.YtjejmlpjifhmmaaGreatDoor.num
namespace Go.Proofs.YtjejmlpjifhmmaaGreatDoor.crcnum
theorem xor_zero_eq {a b : Nat} (h : a ^^^ b = 0) : a = b := by
 have e : a ^^^ b ^^^ b = a := by rw [Nat.xor_assoc, Nat.xor_self, Nat.xor_zero]
 rw [h, Nat.zero_xor] at e
 exact e.symm
def half (n : Nat) : Nat := n / 2 ^^^ (if n % 2 = 1 then 3988292384 else 0)
def halfs : Nat → Nat → Nat
 | 0, n => n
 | k + 1, n => halfs k (half n)
def step (s c : Nat) : Nat := halfs 8 (s ^^^ c)
def addL (s : Nat) (l : List Nat) : Nat := l.foldl step s
def neg (s : Nat) : Nat := 4294967295 - s
def sumL (l : List Nat) : Nat := neg (addL 4294967295 l)
theorem half_xor (a b : Nat) : half (a ^^^ b) = half a ^^^ half b := by
 unfold half
 have e1 : (a ^^^ b) / 2 = a / 2 ^^^ b / 2 := Nat.xor_div_two
 have e2 : (a ^^^ b) % 2 = (a + b) % 2 := by
  have h := Nat.xor_mod_two_pow (a := a) (b := b) (n := 1)
  rw [Nat.pow_one] at h
  rw [h, Nat.add_mod]
  rcases Nat.mod_two_eq_zero_or_one a with ha | ha <;> rcases Nat.mod_two_eq_zero_or_one b with hb | hb <;> rw [ha, hb] <;> rfl
 rw [e1, e2]
 rcases Nat.mod_two_eq_zero_or_one a with ha | ha <;> rcases Nat.mod_two_eq_zero_or_one b with hb | hb
 ·rw [if_neg (by omega), if_neg (by omega), if_neg (by omega)]; simp
 ·rw [if_pos (by omega), if_neg (by omega), if_pos (by omega)]; simp [Nat.xor_assoc]
 ·rw [if_pos (by omega), if_pos (by omega), if_neg (by omega), Nat.xor_zero, Nat.xor_assoc, Nat.xor_assoc, Nat.xor_comm (b / 2)]
 ·rw [if_neg (by omega), if_pos (by omega), if_pos (by omega)]
  have : ∀ x y p : Nat, x ^^^ p ^^^ (y ^^^ p) = x ^^^ y := fun x y p => by
   rw [Nat.xor_assoc, Nat.xor_comm y p, ← Nat.xor_assoc p p y, Nat.xor_self, Nat.zero_xor]
  rw [this]; simp
theorem half_even (x : Nat) : half (2 * x) = x := by
 unfold half
 rw [if_neg (by omega), Nat.mul_div_cancel_left x (by omega)]; simp
theorem half_lt (n : Nat) (h : n < 2 ^ 32) : half n < 2 ^ 32 := by
 unfold half
 refine Nat.xor_lt_two_pow (by omega) ?_
 split <;> omega
theorem half_zero {n : Nat} (h : n < 2 ^ 32) (h0 : half n = 0) : n = 0 := by
 unfold half at h0
 by_cases ho : n % 2 = 1
 ·rw [if_pos ho] at h0
  have := xor_zero_eq h0
  omega
 ·rw [if_neg ho, Nat.xor_zero] at h0
  omega
theorem halfs_xor (k a b : Nat) : halfs k (a ^^^ b) = halfs k a ^^^ halfs k b := by
 induction k generalizing a b with
 | zero => rfl
 | succ k ih => simp only [halfs]; rw [half_xor, ih]
theorem halfs_even (k x : Nat) : halfs k (2 ^ k * x) = x := by
 induction k generalizing x with
 | zero => simp [halfs]
 | succ k ih => simp only [halfs]; rw [Nat.pow_succ, Nat.mul_comm (2 ^ k) 2, Nat.mul_assoc, half_even, ih]
theorem halfs_lt (k n : Nat) (h : n < 2 ^ 32) : halfs k n < 2 ^ 32 := by
 induction k generalizing n with
 | zero => exact h
 | succ k ih => exact ih _ (half_lt n h)
theorem halfs_zero (k : Nat) {n : Nat} (h : n < 2 ^ 32) (h0 : halfs k n = 0) : n = 0 := by
 induction k generalizing n with
 | zero => exact h0
 | succ k ih => exact half_zero h (ih (half_lt n h) h0)
theorem halfs_add (j k n : Nat) : halfs (j + k) n = halfs k (halfs j n) := by
 induction j generalizing n with
 | zero => simp [halfs]
 | succ j ih => rw [Nat.succ_add]; simp only [halfs]; rw [ih]
theorem halfs_nought (k : Nat) : halfs k 0 = 0 := by
 have := halfs_even k 0
 simpa using this
theorem join16 (x k : Nat) (hk : k < 16) : 16 * x + k = 16 * x ^^^ k := by
 have h := Nat.two_pow_add_eq_or_of_lt (i := 4) (b := k) (by omega) x
 have h2 : 16 * x ||| k = 16 * x ^^^ k := by
  apply Nat.eq_of_testBit_eq
  intro i
  rw [Nat.testBit_or, Nat.testBit_xor]
  by_cases hi : i < 4
  ·have : (16 * x).testBit i = false := by
    have := Nat.testBit_two_pow_mul (i := 4) (a := x) (j := i)
    rw [show (2 : Nat) ^ 4 = 16 from rfl] at this
    rw [this]; simp; omega
   rw [this]; simp
  ·have : k.testBit i = false := Nat.testBit_lt_two_pow (Nat.lt_of_lt_of_le hk (by
    calc 16 = 2 ^ 4 := rfl
     _ ≤ 2 ^ i := Nat.pow_le_pow_right (by omega) (by omega)))
   rw [this]; simp
 rw [show (2 : Nat) ^ 4 = 16 from rfl] at h
 rw [h, h2]
theorem four (n : Nat) : halfs 4 n = n / 16 ^^^ halfs 4 (n % 16) := by
 have e : n = 16 * (n / 16) ^^^ n % 16 := by
  rw [← join16 (n / 16) (n % 16) (by omega)]; omega
 have h : halfs 4 n = halfs 4 (16 * (n / 16) ^^^ n % 16) := by rw [← e]
 rw [h, halfs_xor]
 congr 1
 exact halfs_even 4 (n / 16)
def T (k : Nat) : Nat := halfs 4 k
theorem xor_lt {a b : Nat} (ha : a < 4294967296) (hb : b < 4294967296) : a ^^^ b < 4294967296 := Nat.xor_lt_two_pow (n := 32) ha hb
theorem step_lt {s c : Nat} (hs : s < 4294967296) (hc : c < 256) : step s c < 4294967296 := halfs_lt 8 _ (xor_lt hs (by omega))
theorem addL_lt {s : Nat} (hs : s < 4294967296) (l : List Nat) (hl : ∀ c ∈ l, c < 256) : addL s l < 4294967296 := by
 induction l generalizing s with
 | nil => exact hs
 | cons c l ih => exact ih (step_lt hs (hl c (by simp))) (fun d hd => hl d (by simp [hd]))
theorem addL_app (s : Nat) (a b : List Nat) : addL s (a ++ b) = addL (addL s a) b := List.foldl_append
theorem step_xor (s t c d : Nat) : step (s ^^^ t) (c ^^^ d) = step s c ^^^ step t d := by
 unfold step
 rw [← halfs_xor]
 congr 1
 rw [Nat.xor_assoc, Nat.xor_assoc]
 congr 1
 rw [← Nat.xor_assoc, ← Nat.xor_assoc, Nat.xor_comm t c]
theorem pow_ge {a i n : Nat} (h : a < 2 ^ n) (hi : ¬ i < n) : a < 2 ^ i := Nat.lt_of_lt_of_le h (Nat.pow_le_pow_right (by omega) (by omega))
theorem neg_xor {s : Nat} (h : s < 4294967296) : neg s = s ^^^ 4294967295 := by
 unfold neg
 rw [show 4294967295 - s = 2 ^ 32 - (s + 1) by omega]
 apply Nat.eq_of_testBit_eq
 intro i
 rw [Nat.testBit_two_pow_sub_succ (n := 32) h, Nat.testBit_xor, show (4294967295 : Nat) = 2 ^ 32 - 1 from rfl, Nat.testBit_two_pow_sub_one]
 by_cases hi : i < 32
 ·simp [hi]
 ·have : s.testBit i = false := Nat.testBit_lt_two_pow (pow_ge (n := 32) h hi)
  simp [hi, this]
def xorL : List Nat → List Nat → List Nat
 | a :: l, b :: r => (a ^^^ b) :: xorL l r
 | _, _ => []
theorem addL_xor (a b : List Nat) (h : a.length = b.length) (s t : Nat) : addL (s ^^^ t) (xorL a b) = addL s a ^^^ addL t b := by
 induction a generalizing b s t with
 | nil => cases b with
  | nil => rfl
  | cons d b => simp at h
 | cons c a ih => cases b with
  | nil => simp at h
  | cons d b =>
   simp only [xorL, addL, List.foldl_cons]
   rw [step_xor]
   exact ih b (by simpa using h) _ _
theorem xorL_len (a b : List Nat) (h : a.length = b.length) : (xorL a b).length = a.length := by
 induction a generalizing b with
 | nil => simp [xorL]
 | cons c a ih => cases b with
  | nil => simp at h
  | cons d b => simp only [xorL, List.length_cons]; rw [ih b (by simpa using h)]
theorem three (a b c : List Nat) (h1 : a.length = b.length) (h2 : b.length = c.length) (ha : ∀ x ∈ a, x < 256) (hb : ∀ x ∈ b, x < 256) (hc : ∀ x ∈ c, x < 256) :
  sumL (xorL (xorL a b) c) = sumL a ^^^ sumL b ^^^ sumL c := by
 unfold sumL
 have la := addL_lt (s := 4294967295) (by omega) a ha
 have lb := addL_lt (s := 4294967295) (by omega) b hb
 have lc := addL_lt (s := 4294967295) (by omega) c hc
 have e : (4294967295 : Nat) = 4294967295 ^^^ 4294967295 ^^^ 4294967295 := by decide
 have h := addL_xor (xorL a b) c (by rw [xorL_len a b h1]; omega) (4294967295 ^^^ 4294967295) 4294967295
 rw [addL_xor a b h1, ← e] at h
 rw [h, neg_xor la, neg_xor lb, neg_xor lc, neg_xor (xor_lt (xor_lt la lb) lc)]
 generalize addL 4294967295 a = x
 generalize addL 4294967295 b = y
 generalize addL 4294967295 c = z
 have e2 : ∀ p : Nat, (x ^^^ p) ^^^ (y ^^^ p) = x ^^^ y := fun p => by
  rw [Nat.xor_assoc, Nat.xor_comm y p, ← Nat.xor_assoc p p y, Nat.xor_self, Nat.zero_xor]
 rw [e2, Nat.xor_assoc (x ^^^ y)]
def word : List Nat → Nat
 | [] => 0
 | c :: l => c ^^^ (256 * word l)
theorem word_lt (n : Nat) (l : List Nat) (hn : l.length ≤ n) (hl : ∀ c ∈ l, c < 256) : word l < 2 ^ (8 * n) := by
 induction l generalizing n with
 | nil => simp only [word]; exact Nat.pow_pos (by omega)
 | cons c l ih =>
  obtain ⟨m, rfl⟩ : ∃ m, n = m + 1 := ⟨n - 1, by simp at hn; omega⟩
  have := ih m (by simpa using hn) (fun d hd => hl d (by simp [hd]))
  simp only [word]
  rw [Nat.mul_add, Nat.pow_add]
  have hp : 0 < 2 ^ (8 * m) := Nat.pow_pos (by omega)
  have hc := hl c (by simp)
  rw [← Nat.pow_add]
  refine Nat.xor_lt_two_pow (Nat.lt_of_lt_of_le hc (by rw [show (256 : Nat) = 2 ^ 8 from rfl]; exact Nat.pow_le_pow_right (by omega) (by omega))) ?_
  rw [Nat.pow_add]; omega
theorem word_zero (l : List Nat) (hl : ∀ c ∈ l, c < 256) (h : word l = 0) : ∀ c ∈ l, c = 0 := by
 induction l with
 | nil => simp
 | cons c l ih =>
  have e := xor_zero_eq h
  have hc := hl c (by simp)
  intro d hd
  rcases List.mem_cons.1 hd with rfl | hd
  ·omega
  ·exact ih (fun x hx => hl x (by simp [hx])) (by omega) d hd
theorem addL_word (l : List Nat) (s : Nat) : addL s l = halfs (8 * l.length) (s ^^^ word l) := by
 induction l generalizing s with
 | nil => simp [addL, word, halfs]
 | cons c l ih =>
  have h : addL s (c :: l) = addL (step s c) l := rfl
  rw [h, ih, List.length_cons, Nat.mul_add, Nat.add_comm, Nat.mul_one, halfs_add]
  have key : halfs 8 (s ^^^ word (c :: l)) = step s c ^^^ word l := by
   show halfs 8 (s ^^^ (c ^^^ (256 * word l))) = halfs 8 (s ^^^ c) ^^^ word l
   rw [← Nat.xor_assoc, halfs_xor 8 (s ^^^ c) (256 * word l)]
   have e := halfs_even 8 (word l)
   rw [show (2 : Nat) ^ 8 = 256 from rfl] at e
   rw [e]
  rw [key]
theorem addL_noughts (s k : Nat) : addL s (List.replicate k 0) = halfs (8 * k) s := by
 have hw : ∀ k, word (List.replicate k 0) = 0 := by
  intro k
  induction k with
  | zero => rfl
  | succ k ih => simp only [List.replicate_succ, word, ih]; rfl
 rw [addL_word, hw]; simp
theorem turned (i j : Nat) (l : List Nat) (hn : l.length ≤ 4) (hl : ∀ c ∈ l, c < 256) (h : addL 0 (List.replicate i 0 ++ l ++ List.replicate j 0) = 0) : ∀ c ∈ l, c = 0 := by
 rw [addL_app, addL_app, addL_noughts, addL_noughts, halfs_nought, addL_word, Nat.zero_xor] at h
 have h1 := word_lt 4 l hn hl
 exact word_zero l hl (halfs_zero _ h1 (halfs_zero _ (halfs_lt _ _ h1) h))
end Go.Proofs.YtjejmlpjifhmmaaGreatDoor.crcnum
namespace Go.Proofs.YtjejmlpjifhmmaaGreatDoor.crc
open Go.RowKit
open crcnum words
end Go.Proofs.YtjejmlpjifhmmaaGreatDoor.crc
namespace Go.Proofs.YtjejmlpjifhmmaaGreatDoor.put
open Go.RowKit
open num words
def New (w : World) (l : List Nat) (e : Ending) (w' : World) : Prop :=
 ∃ v, e = .returned v ∧ w'.ownsRow w.heap.size 5 1 v l.length (B l) ∧ Below w.heap.size w w'
end Go.Proofs.YtjejmlpjifhmmaaGreatDoor.put
namespace Go.Proofs.YtjejmlpjifhmmaaGreatDoor.take
open Go.RowKit
open num words
theorem fits (y d j : Nat) (hy : y < 128 ^ j) (hj : j ≤ 9) (h9 : j ≤ 8 ∨ d ≤ 1) : y + d % 128 * 128 ^ j < 18446744073709551616 := by
 have hp : 0 < 128 ^ j := Nat.pow_pos (by omega)
 rcases h9 with h | h
 ·have a1 : d % 128 * 128 ^ j ≤ 127 * 128 ^ j := Nat.mul_le_mul_right _ (by omega)
  have a2 : 128 ^ (j + 1) ≤ 128 ^ 9 := Nat.pow_le_pow_right (by omega) (by omega)
  rw [Nat.pow_succ] at a2
  omega
 ·have a1 : d % 128 * 128 ^ j ≤ 1 * 128 ^ j := Nat.mul_le_mul_right _ (by omega)
  have a2 : 128 ^ j ≤ 128 ^ 9 := Nat.pow_le_pow_right (by omega) (by omega)
  omega
end Go.Proofs.YtjejmlpjifhmmaaGreatDoor.take
namespace Go.Proofs.YtjejmlpjifhmmaaGreatDoor.sealing
open Go.RowKit
open crcnum words
def F (s : Nat) : Value := .agg #[.int .u8 ((s % 256 : Nat) : Int), .int .u8 ((s / 256 % 256 : Nat) : Int), .int .u8 ((s / 65536 % 256 : Nat) : Int), .int .u8 ((s / 16777216 % 256 : Nat) : Int)]
end Go.Proofs.YtjejmlpjifhmmaaGreatDoor.sealing
namespace Go.Proofs.YtjejmlpjifhmmaaGreatDoor.sealing
open Go.RowKit
open crcnum words
end Go.Proofs.YtjejmlpjifhmmaaGreatDoor.sealing
namespace Go.Proofs.YtjejmlpjifhmmaaGreatDoor.small
open Go.RowKit
open num words
end Go.Proofs.YtjejmlpjifhmmaaGreatDoor.small
namespace Go.Proofs.YtjejmlpjifhmmaaGreatDoor.sealing
open Go.RowKit
open crcnum words
end Go.Proofs.YtjejmlpjifhmmaaGreatDoor.sealing
namespace Go.Proofs.YtjejmlpjifhmmaaGreatDoor.rdnum
open num sealing
set_option maxRecDepth 100000
structure Rs where
 l : List Nat
 p : Nat
 e : Int
 f : Nat
structure Rr (α : Type) where
 v : α
 q : Nat
 e : Nat
 f : Nat
def lebT (l : List Nat) (p : Nat) : Rr Nat := if (takeAt l p).2.2 = 0 then ⟨(takeAt l p).1, (takeAt l p).2.1, 0, 0⟩ else ⟨0, 0, (takeAt l p).2.2, p⟩
def numT (l : List Nat) (p : Nat) (m : Int) : Rr Nat :=
 if (lebT l p).e ≠ 0 then lebT l p else if m < (lebT l p).v then ⟨0, 0, 3, p⟩ else lebT l p
def bytesT (l : List Nat) (p n : Nat) : Rr (List Nat) := if l.length - p < n then ⟨[], 0, 2, p⟩ else ⟨(l.drop p).take n, p + n, 0, 0⟩
def textT (l : List Nat) (p : Nat) : Rr (List Nat) :=
 if (numT l p 64).e ≠ 0 then ⟨[], 0, (numT l p 64).e, (numT l p 64).f⟩ else bytesT l (numT l p 64).q (numT l p 64).v
def Rs.fail (s : Rs) (e : Int) : Rs := if s.e ≠ 0 ∨ e = 0 then s else { s with e := e, f := s.p }
end Go.Proofs.YtjejmlpjifhmmaaGreatDoor.rdnum
namespace Go.Proofs.YtjejmlpjifhmmaaGreatDoor.rdr
open Go.RowKit
open num words rdnum
set_option maxRecDepth 100000
def Bs (w : World) (A : Option Addr) (l : List Nat) : Prop :=
 l = [] ∨ ∃ a, A = some a ∧ (∃ cs f, w.heap[a.block]? = some (.cells cs 5 f)) ∧ ∀ j u, (B l)[j]? = some u → w.cell? (a.add j) = some u
theorem Bs.rd {w : World} {A : Option Addr} {l : List Nat} (h : Bs w A l) : Rd w A (B l) := by
 rcases h with rfl | ⟨a, rfl, ⟨cs, f, hh⟩, hc⟩
 ·exact .inl rfl
 ·exact .inr ⟨a, rfl, blk_lt hh, hc⟩
theorem Bs.nil (w : World) (A : Option Addr) : Bs w A [] := .inl rfl
theorem Bs.kept {w w' : World} {A : Option Addr} {l : List Nat} (h : Bs w A l) {r : Option Nat} (hg : w.grownBy w' r) (hr : ∀ b cs f, r = some b → w.heap[b]? ≠ some (.cells cs 5 f)) : Bs w' A l := by
 rcases h with rfl | ⟨a, rfl, ⟨cs, f, hh⟩, hc⟩
 ·exact .inl rfl
 ·have hb : w'.heap[a.block]? = w.heap[a.block]? := hg.block _ (blk_lt hh) (fun e => hr _ cs f e.symm hh)
  refine .inr ⟨a, rfl, ⟨cs, f, hb.trans hh⟩, fun j u hu => ?_⟩
  rw [← hc j u hu]
  exact World.cell?_of_block (by rw [add_block]; exact hb)
theorem Bs.take {w : World} {A : Option Addr} {l : List Nat} (h : Bs w A l) (k : Nat) : Bs w A (l.take k) := by
 rcases h with rfl | ⟨a, rfl, hh, hc⟩
 ·exact .inl (by simp)
 ·refine .inr ⟨a, rfl, hh, fun j u hu => hc j u ?_⟩
  rw [← B_take, List.getElem?_take] at hu
  split at hu
  ·exact hu
  ·cases hu
theorem Bs.below {w w' : World} {A : Option Addr} {l : List Nat} (h : Bs w A l) (hb : Below w.heap.size w w') : Bs w' A l :=
 h.kept (r := none) ⟨hb.os, hb.tape, hb.output, hb.size, fun k hk _ => hb.block k hk⟩ (fun _ _ _ h => by cases h)
abbrev But (b : Nat) (w w' : World) : Prop := w.grownBy w' (some b)
theorem But.refl (b : Nat) (w : World) : But b w w := ⟨rfl, rfl, rfl, Nat.le_refl _, fun _ _ _ => rfl⟩
theorem But.trans {b : Nat} {w w1 w2 : World} (h : But b w w1) (k : But b w1 w2) : But b w w2 :=
 ⟨k.os.trans h.os, k.tape.trans h.tape, k.output.trans h.output, Nat.le_trans h.size k.size, fun i hi hr => (k.block i (Nat.lt_of_lt_of_le hi h.size) hr).trans (h.block i hi hr)⟩
theorem But.alloc {b : Nat} {w w1 : World} (h : But b w w1) (o : Obj) : But b w (w1.alloc o) := h.trans (World.grownBy_alloc w1 o _)
theorem But.set {b : Nat} {w w1 : World} (h : But b w w1) (i : Nat) (v : Value) : But b w (w1.setCell ⟨b, i, none⟩ v) := h.trans (Lib.grownBy_setCell w1 b i v)
theorem But.drewN {b n : Nat} {w w1 : World} (h : But b w w1) : But b w (w1.drewN n) := ⟨h.os, h.tape, h.output, h.size, h.block⟩
theorem But.of {b : Nat} {w w1 : World} (h : Below w.heap.size w w1) : But b w w1 := ⟨h.os, h.tape, h.output, h.size, fun k hk _ => h.block k hk⟩
theorem But.below {b B : Nat} {w w1 : World} (h : But b w w1) (h1 : B ≤ b) (h2 : B ≤ w.heap.size) : Below B w w1 :=
 ⟨h.os, h.tape, h.output, h.size, fun k hk => h.block k (by omega) (fun e => by cases e; omega)⟩
theorem But.heap {b c : Nat} {w w1 : World} (h : But b w w1) {o : Obj} (hc : w.heap[c]? = some o) (hne : c ≠ b) : w1.heap[c]? = some o :=
 (h.block c (blk_lt hc) (fun e => hne (by cases e; rfl))).trans hc
end Go.Proofs.YtjejmlpjifhmmaaGreatDoor.rdr
namespace Go.Proofs.YtjejmlpjifhmmaaGreatDoor.give
open Go.RowKit
open num words rdnum rdr
set_option maxRecDepth 100000
end Go.Proofs.YtjejmlpjifhmmaaGreatDoor.give
namespace Go.Proofs.YtjejmlpjifhmmaaGreatDoor.give
open Go.RowKit
open num words rdnum rdr sealing
set_option maxRecDepth 100000
def S (l : List Nat) : Value := .string ⟨(l.map UInt8.ofNat).toArray⟩
end Go.Proofs.YtjejmlpjifhmmaaGreatDoor.give
namespace Go.Proofs.YtjejmlpjifhmmaaGreatDoor.give
open Go.RowKit
open num words rdnum rdr sealing
set_option maxRecDepth 100000
end Go.Proofs.YtjejmlpjifhmmaaGreatDoor.give
namespace Go.Proofs.YtjejmlpjifhmmaaGreatDoor.catching
open Go.RowKit
open num words rdnum rdr give
set_option maxRecDepth 100000
end Go.Proofs.YtjejmlpjifhmmaaGreatDoor.catching
namespace Go.Proofs.YtjejmlpjifhmmaaGreatDoor.reading
open Go.RowKit
open num words rdnum rdr give catching
set_option maxRecDepth 100000
end Go.Proofs.YtjejmlpjifhmmaaGreatDoor.reading
namespace Go.Proofs.YtjejmlpjifhmmaaGreatDoor.meth
open Go.RowKit
open num words rdnum rdr give reading
set_option maxRecDepth 100000
end Go.Proofs.YtjejmlpjifhmmaaGreatDoor.meth
namespace Go.Proofs.YtjejmlpjifhmmaaGreatDoor.meth
open Go.RowKit
open num words rdnum rdr give reading
set_option maxRecDepth 100000
def left (s : Rs) : Int := if s.e ≠ 0 then 0 else (s.l.length : Int) - s.p
def fv (s : Rs) : Value := .agg #[.int .i64 s.e, .int .i64 (s.f : Int)]
end Go.Proofs.YtjejmlpjifhmmaaGreatDoor.meth
namespace Go.Proofs.YtjejmlpjifhmmaaGreatDoor.write
open Go.RowKit
open num words rdnum rdr give reading meth sealing crcnum
set_option maxRecDepth 100000
def N (s : ByteArray) : List Nat := s.data.toList.map (·.toNat)
theorem N_len (s : ByteArray) : (N s).length = s.size := by unfold N; rw [List.length_map, Array.length_toList]; rfl
end Go.Proofs.YtjejmlpjifhmmaaGreatDoor.write
namespace Go.Proofs.YtjejmlpjifhmmaaGreatDoor.word
open Go.RowKit
open num words give write
set_option maxRecDepth 100000
set_option maxHeartbeats 400000
theorem N_at (s : ByteArray) (k : Nat) (h : k < s.size) : (N s)[k]? = some (s[k]'h).toNat := by
 unfold N
 rw [List.getElem?_map, Array.getElem?_toList, Array.getElem?_eq_getElem (by exact h)]
 rfl
theorem take_all (s : ByteArray) (p : Nat → Bool) (k : Nat) (h : k < s.size) (ha : ((N s).take k).all p = true) (hp : p (s[k]'h).toNat = true) : ((N s).take (k + 1)).all p = true := by
 rw [List.take_add_one, N_at s k h, List.all_append, ha]
 simp [hp]
theorem not_all (s : ByteArray) (p : Nat → Bool) (k : Nat) (h : k < s.size) (hp : p (s[k]'h).toNat = false) : (N s).all p = false := by
 rw [List.all_eq_false]
 exact ⟨_, List.mem_of_getElem? (N_at s k h), by simp [hp]⟩
theorem all_w (s : ByteArray) (p : Nat → Bool) (f : Nat) (w : World) (hs : s.size ≤ 281474976710656)
  (hf : ∀ (c : Nat) (w : World), c < 256 → Calls Tryz.prog f #[.int .u8 (c : Int)] w fun e w' => e = .returned (.bool (p c)) ∧ w' = w)
  (ef : ∀ args w, (callFunc f args).run Tryz.prog w = .ok (.enter f args) w) :
  Calls Tryz.prog 285 #[.string s, .func (.func f) #[] #[]] w fun e w' => e = .returned (.bool ((N s).all p)) ∧ w' = w := by
 have HF := zh hf
 have hnI : (s.size : Int) ≤ 281474976710656 := by omega
 have HL := zh (N_len s)
 clear hf hs
 go_enter Tryz.func285, Tryz.ntmps285
 go_wp2
 go_loopw [8] (fun i wr => ∃ k : Nat, k ≤ s.size ∧ i = .int .i64 (k : Int) ∧ wr = w ∧ ((N s).take k).all p = true) (fun i _ => s.size - (intOf i).toNat)
 case atStart => exact ⟨0, Nat.zero_le _, rfl, rfl, by simp⟩
 case round =>
  obtain ⟨k, hk, rfl, rfl, hall⟩ := hrel
  have HA := zh hall
  clear hall
  by_cases hlt : k < s.size
  ·have hltI : (k : Int) < (s.size : Int) := by omega
   have hlt8 : (s[k]'hlt).toNat < 256 := UInt8.toNat_lt _
   have hk1 := take_all s p k hlt HA.out
   go_wp2_with fail
   refine (HF.out _ _ hlt8).mono ?_
   rintro e w' ⟨rfl, rfl⟩
   cases hp : p (s[k]'hlt).toNat
   ·have HN := zh (not_all s p k hlt hp)
    clear hk1 hp hlt8 HF HA ef
    go_wp2
    go_ret
    rw [HN.out]
    exact ⟨rfl, rfl⟩
   ·have HK := zh (hk1 hp)
    clear hk1 hp hlt8 HF HA
    go_wp2
    go_roundw
    case rel => exact ⟨k + 1, by omega, by go_num, by first | rfl | trivial, HK.out⟩
    case measure => simp [intOf]; omega
  ·have hltI : ¬ (k : Int) < (s.size : Int) := by omega
   have hks : k = s.size := by omega
   subst hks
   have ha := HA.out
   rw [← N_len, List.take_length] at ha
   have HA2 := zh ha
   clear ha HA HF ef
   go_wp2
   go_ret
   rw [HA2.out]
   exact ⟨rfl, rfl⟩
end Go.Proofs.YtjejmlpjifhmmaaGreatDoor.word

/- Kind -/
import Derived.WalkKit
import Derived.Maps.AppendAt
import Derived.Deep.Draws
import Derived.Deep.RegionHeld
import Derived.Test.YtdifmgeicnndfaaRows
import Derived.ProofKit
import Derived.OpenShut
import Derived.SizedLaws
import Derived.Below
import Derived.Test.YtdifmgeicnndfaaProg
import Derived.Lib.Hide
import Derived.Deep.RegionHeld3
import Derived.Laws.BitsAllLaws
import Derived.Deep.QuietTactic
import Derived.BigQuiet
import Derived.WalkSpells
import Derived.Lib.AppendZerosOnto
import Derived.Handy
import Derived.ChangeKeysEq
import Derived.Lib.BufferWrite
import Derived.IntWalk
import Derived.Defers
import Derived.Recover
import Derived.Lib.AppendStr
import Derived.Lib.Split
import Derived.Lib.Join
namespace Go.Proofs.Ytdifmgeicnndfaa.words
open Go.RowKit
theorem add_block (a : Addr) (j : Nat) : (a.add j).block = a.block := by
 unfold Addr.add; split <;> rfl
theorem add_add (a : Addr) (i j : Nat) : (a.add i).add j = a.add (i + j) := by
 unfold Addr.add
 rcases Nat.eq_zero_or_pos i with rfl | hi
 ·simp
 ·rcases Nat.eq_zero_or_pos j with rfl | hj
  ·simp
  ·rw [if_neg (by omega), if_neg (by omega), if_neg (by omega)]
   simp only [Nat.add_assoc]
def Rd (w : World) (A : Option Addr) (xs : List Value) : Prop :=
 xs = [] ∨ ∃ a, A = some a ∧ a.block < w.heap.size ∧ ∀ j u, xs[j]? = some u → w.cell? (a.add j) = some u
theorem Rd.nil (w : World) (A : Option Addr) : Rd w A [] := .inl rfl
theorem Rd.at_ {w : World} {A : Option Addr} {xs : List Value} (h : Rd w A xs) {j : Nat} {u : Value} (hj : xs[j]? = some u) :
  ∃ a, A = some a ∧ a.block < w.heap.size ∧ w.cell? (a.add j) = some u := by
 rcases h with rfl | ⟨a, rfl, hb, hc⟩
 ·simp at hj
 ·exact ⟨a, rfl, hb, hc j u hj⟩
theorem Rd.keep {w w' : World} {A : Option Addr} {xs : List Value} (h : Rd w A xs) (hs : w.heap.size ≤ w'.heap.size)
  (hk : ∀ p : Addr, p.block < w.heap.size → w'.cell? p = w.cell? p) : Rd w' A xs := by
 rcases h with rfl | ⟨a, rfl, hb, hc⟩
 ·exact .inl rfl
 ·exact .inr ⟨a, rfl, by omega, fun j u hu => (hk _ (by rw [add_block]; exact hb)).trans (hc j u hu)⟩
theorem Rd.below {w w' : World} {A : Option Addr} {xs : List Value} (h : Rd w A xs) (hb : Below w.heap.size w w') : Rd w' A xs :=
 h.keep hb.size fun _ hp => hb.cell hp
theorem Rd.drewN {w : World} {A : Option Addr} {xs : List Value} (h : Rd w A xs) (n : Nat) : Rd (w.drewN n) A xs := h
theorem Rd.drop {w : World} {A : Option Addr} {xs : List Value} (h : Rd w A xs) (k : Nat) : Rd w (A.map (·.add k)) (xs.drop k) := by
 rcases h with rfl | ⟨a, rfl, hb, hc⟩
 ·exact .inl (by simp)
 ·refine .inr ⟨a.add k, rfl, by rw [add_block]; exact hb, fun j u hu => ?_⟩
  rw [add_add]
  exact hc _ u (by rw [← hu, List.getElem?_drop])
theorem Rd.take {w : World} {A : Option Addr} {xs : List Value} (h : Rd w A xs) (k : Nat) : Rd w A (xs.take k) := by
 rcases h with rfl | ⟨a, rfl, hb, hc⟩
 ·exact .inl (by simp)
 ·refine .inr ⟨a, rfl, hb, fun j u hu => hc j u ?_⟩
  rw [List.getElem?_take] at hu
  split at hu
  ·exact hu
  ·cases hu
theorem Rd.cut {w : World} {A : Option Addr} {xs : List Value} (h : Rd w A xs) {k cap : Nat} (hx : xs.length ≤ cap) :
  Rd w (if cap = k then A else A.map (·.add k)) (xs.drop k) := by
 split
 ·exact .inl (List.drop_eq_nil_of_le (by omega))
 ·exact h.drop k
section
variable {w w' : World} {base : Nat} {e : TypeId} {size n : Nat} {v : Value} {xs : List Value}
theorem own_rd (h : w.ownsRow base e size v n xs) : ∃ A c, v = .slice A n c ∧ n ≤ c ∧ c ≤ maxLen ∧ Rd w A xs := by
 rcases h.2 with ⟨rfl, rfl⟩ | ⟨g, cap, cur, rfl, _, hg, hnc, hcm, _, _⟩
 ·exact ⟨none, 0, rfl, Nat.le_refl _, Nat.zero_le _, .inl (List.eq_nil_of_length_eq_zero (by simpa using h.1))⟩
 ·refine ⟨_, cap, rfl, hnc, hcm, .inr ⟨_, rfl, ?_, h.cells (g := g) rfl⟩⟩
  rcases Nat.lt_or_ge g w.heap.size with hlt | hge
  ·exact hlt
  ·rw [Array.getElem?_eq_none hge] at hg; cases hg
theorem own_below (h : w.ownsRow base e size v n xs) (hb : Below w.heap.size w w') : w'.ownsRow base e size v n xs := by
 have hlt := h.lt
 refine ⟨h.1, ?_⟩
 rcases h.2 with h0 | ⟨g, cap, cur, rfl, hbg, hg, rest⟩
 ·exact .inl h0
 ·exact .inr ⟨g, cap, cur, rfl, hbg, (hb.block g (hlt g rfl).2).trans hg, rest⟩
end
theorem add_zero_off (b j : Nat) : (⟨b, 0, none⟩ : Addr).add j = ⟨b, j, none⟩ := by
 unfold Addr.add
 rcases Nat.eq_zero_or_pos j with rfl | hj
 ·simp
 ·rw [if_neg (by omega)]; simp
theorem blk_lt {w : World} {b : Nat} {o : Obj} (h : w.heap[b]? = some o) : b < w.heap.size := by
 rcases Nat.lt_or_ge b w.heap.size with h1 | h1
 ·exact h1
 ·rw [Array.getElem?_eq_none h1] at h; cases h
theorem rd_blk {w : World} {b t k : Nat} {cs : Array Value} {xs : List Value} (h : w.heap[b]? = some (.cells cs t (0, 0))) (hx : cs.toList.take k = xs) : Rd w (some ⟨b, 0, none⟩) xs := by
 refine .inr ⟨_, rfl, blk_lt h, fun j u hu => ?_⟩
 rw [add_zero_off, cell_of_row w b j cs t (0, 0) h]
 rw [← hx, List.getElem?_take] at hu
 split at hu
 ·simpa using hu
 ·cases hu
section
variable {P : Program} (w : World)
theorem run_app (base : Nat) (t ty e : TypeId) (i : TypeInfo) (z : Value) (size bytes : Nat) (ht : P.underlying t = some (.slice e)) (hi : P.info? e = some i) (hz : i.zero = some z)
  (hsize : i.size = size) (hby : i.bytes = bytes) (hzs : z.cells.size = size) (hsz : 0 < size)
  (v : Value) (n : Nat) (xs : List Value) (hown : w.ownsRow base e size v n xs)
  (A : Option Addr) (m c : Nat) (news : List Value) (hl : news.length = m * size) (hr : Rd w A news) (h1 : ∀ u ∈ news, u.oneCell' = true)
  (h63 : n + m ≤ maxLen) (hbytes : (n + m) * bytes ≤ 140737488355328) (hbase : base ≤ w.heap.size) :
  ∃ v' w', (Builtin.append_ #[t, t] ty #[v, .slice A m c]).run P w = .ok v' w' ∧ w'.ownsRow base e size v' (n + m) (xs ++ news) ∧ w.grownBy w' v.ownBlock ∧ Below base w w' ∧
   (v'.ownBlock = v.ownBlock ∨ v'.ownBlock = some w.heap.size) := by
 rcases A with _ | a
 ·have hn : news = [] := by
   rcases hr with h | ⟨a, h, _⟩
   ·exact h
   ·cases h
  subst hn
  have hm : m = 0 := by
   rcases Nat.eq_zero_or_pos m with h | h
   ·exact h
   ·have := Nat.mul_pos h hsz
    simp at hl; omega
  subst hm
  refine ⟨v, w, ?_, by simpa using hown, ⟨rfl, rfl, rfl, Nat.le_refl _, fun _ _ _ => rfl⟩, Below.refl _ _, .inl rfl⟩
  rcases hown.2 with ⟨rfl, rfl⟩ | ⟨g, cap, cur, rfl, _, _, hnc, _⟩
  ·simp [Builtin.append_, run_underlying ht, sizeOf, typeInfo, hi, Builtin.lenOf, Builtin.firstCells]
  ·simp [Builtin.append_, run_underlying ht, sizeOf, typeInfo, hi, Builtin.lenOf, Builtin.firstCells, hnc, storeCells]
 ·have hcells : ∀ j u, news[j]? = some u → w.cell? (a.add j) = some u := by
   intro j u hu
   obtain ⟨a', h, _, hc⟩ := hr.at_ hu
   cases h
   exact hc
  obtain ⟨v', w', hrun, h2, h3, _, h5⟩ := run_append_own_at (P := P) w base t ty e i z size bytes ht hi hz hsize hby hzs hsz v n xs hown a m c news hl hcells h1 h63 hbytes hbase
  exact ⟨v', w', hrun, h2, h3, (Below.refl _ _).grown h3 hbase (fun k hk => (hown.lt k hk).1), h5⟩
theorem wp_app {o : Oper} {a : Act} {K : Act → World → Prop} {Q : Exit → Act → World → Prop} (s x : Operand) (t : TypeId)
  (ho : o.op = .call { callee := .builtin .append, args := #[s, x], argTypes := #[t, t] })
  (base : Nat) (e : TypeId) (i : TypeInfo) (z : Value) (size bytes : Nat) (ht : P.underlying t = some (.slice e)) (hi : P.info? e = some i) (hz : i.zero = some z)
  (hsize : i.size = size) (hby : i.bytes = bytes) (hzs : z.cells.size = size) (hsz : 0 < size)
  (v : Value) (n : Nat) (xs : List Value) (hs : a.eval s = v) (hown : w.ownsRow base e size v n xs)
  (A : Option Addr) (m c : Nat) (news : List Value) (hx : a.eval x = .slice A m c) (hl : news.length = m * size) (hr : Rd w A news) (h1 : ∀ u ∈ news, u.oneCell' = true)
  (h63 : n + m ≤ maxLen) (hbytes : (n + m) * bytes ≤ 140737488355328) (hbase : base ≤ w.heap.size)
  (h : ∀ v' w', w'.ownsRow base e size v' (n + m) (xs ++ news) → w.grownBy w' v.ownBlock → Below base w w' → (v'.ownBlock = v.ownBlock ∨ v'.ownBlock = some w.heap.size) → K (a.put o.dst v') w') : o.wp P a w K Q := by
 obtain ⟨v', w', hrun, h2, h3, h4, h5⟩ := run_app (P := P) w base t o.type e i z size bytes ht hi hz hsize hby hzs hsz v n xs hown A m c news hl hr h1 h63 hbytes hbase
 unfold Oper.wp execOp
 simp only [ho, resolve, invoke, builtin, Sem.run_bind, Sem.run_pure, Result.andThen_ok, List.map_toArray, List.map_cons, List.map_nil, hs, hx, hrun]
 exact h v' w' h2 h3 h4 h5
theorem wpList_app {ops : Array Oper} {rest : List Oper} {o : Oper} {a : Act} {Q : Exit → Act → World → Prop} (hgd : o.guard = none) (s x : Operand) (t : TypeId)
  (ho : o.op = .call { callee := .builtin .append, args := #[s, x], argTypes := #[t, t] })
  (base : Nat) (e : TypeId) (i : TypeInfo) (z : Value) (size bytes : Nat) (ht : P.underlying t = some (.slice e)) (hi : P.info? e = some i) (hz : i.zero = some z)
  (hsize : i.size = size) (hby : i.bytes = bytes) (hzs : z.cells.size = size) (hsz : 0 < size)
  (v : Value) (n : Nat) (xs : List Value) (hs : a.eval s = v) (hown : w.ownsRow base e size v n xs)
  (A : Option Addr) (m c : Nat) (news : List Value) (hx : a.eval x = .slice A m c) (hl : news.length = m * size) (hr : Rd w A news) (h1 : ∀ u ∈ news, u.oneCell' = true)
  (h63 : n + m ≤ maxLen) (hbytes : (n + m) * bytes ≤ 140737488355328) (hbase : base ≤ w.heap.size)
  (h : ∀ v' w', w'.ownsRow base e size v' (n + m) (xs ++ news) → w.grownBy w' v.ownBlock → Below base w w' → (v'.ownBlock = v.ownBlock ∨ v'.ownBlock = some w.heap.size) → wpList P ops Q rest (a.put o.dst v') w') : wpList P ops Q (o :: rest) a w :=
 wpList_plain hgd fun _ hK => wp_app w s x t ho base e i z size bytes ht hi hz hsize hby hzs hsz v n xs hs hown A m c news hx hl hr h1 h63 hbytes hbase fun v' w' h2 h3 h4 h5 => hK _ _ (h v' w' h2 h3 h4 h5)
end
theorem over {b q : Nat} {a c : World} (h : Below b a c) : Below b a (c.drewN q) := ⟨h.os, h.tape, h.output, h.size, h.block⟩
theorem then_ {b : Nat} {a c d : World} (h : Below b a c) (hb : b ≤ a.heap.size) (k : Below c.heap.size c d) : Below b a d := h.trans (k.mono (Nat.le_trans hb h.size))
theorem then' {a c d : World} (h : Below a.heap.size a c) (k : Below c.heap.size c d) : Below a.heap.size a d := then_ h (Nat.le_refl _) k
def B (l : List Nat) : List Value := l.map fun x : Nat => Value.int .u8 (x : Int)
def U (l : List Nat) : List Value := l.map fun x : Nat => Value.int .u64 (x : Int)
theorem B_take (l : List Nat) (k : Nat) : (B l).take k = B (l.take k) := by simp [B]
section
variable {P : Program} {md : Region.Mode} {ops : Array Oper} {Q : Exit → Act → World → Prop} {S : World → Prop} {oi : Oper} {fuel : Nat} {listed : Array Bool} {a : Act} {w : World}
theorem tkv (i : Nat) {v : Value} (hi : ops[i]? = some oi) (h : wpAnyH P md ops Q S fuel (listed.setIfInBounds i true) (a.put oi.dst v) w)
  (hd : (Region.noSelect ops && (Region.free md ops listed i && ((Region.ready md ops listed).contains i && Region.wanted oi (yielded ops a.tmps)))) = true := by kernel_rfl)
  (hy : ∀ w, S w → (execOp a.eval oi).run P w = .ok (.value v) w := by (intro w hSw; (try dsimp only at hSw); go_simp; (try with_reducible rfl)))
  (hQ : ∀ c a w, Q (.panic c) (a.put oi.dst v) w → Q (.panic c) a w := by exact fun _ _ _ h => h) (hS : S w := by assumption) : wpAnyH P md ops Q S (fuel + 1) listed a w := by
 simp only [Bool.and_eq_true] at hd
 exact wpAnyH_take hi hd.1 hd.2.1 hd.2.2.1 hQ (Or.inl ⟨hd.2.2.2, hy⟩) hS h
end
theorem bls : (∀ b, (true && b) = b) ∧ (∀ b, (false && b) = false) ∧ (∀ b, (b && true) = b) ∧ (∀ b, (b && false) = false) ∧ (∀ b, (true || b) = true) ∧ (∀ b, (false || b) = b) ∧ (∀ b, (b || true) = true) ∧ (∀ b, (b || false) = b) ∧ ((!true) = false) ∧ ((!false) = true) := by
 refine ⟨?_, ?_, ?_, ?_, ?_, ?_, ?_, ?_, rfl, rfl⟩ <;> intro b <;> cases b <;> rfl
theorem puts : (∀ (a : Act) (v : Value), a.put none v = a) ∧ (∀ (ts : Array Value) (ds : List Deferred) (t : Tmp) (v : Value), Act.put ⟨ts, ds⟩ (some t) v = ⟨ts.setIfInBounds t v, ds⟩) ∧ (∀ {α : Type} (l : List α) (i : Nat) (v : α), l.toArray.setIfInBounds i v = (l.set i v).toArray) ∧ (∀ {α : Type} (x : α) (l : List α) (v : α), (x :: l).set 0 v = v :: l) ∧
  (∀ {α : Type} (x : α) (l : List α) (i : Nat) (v : α), (x :: l).set (i + 1) v = x :: l.set i v) ∧ (∀ {α : Type} (l : List α) (i : Nat) (h : i < l.toArray.size), l.toArray[i] = l[i]'(by simpa using h)) ∧ (∀ {α : Type} (x : α) (l : List α) (h : 0 < (x :: l).length), (x :: l)[0] = x) ∧ (∀ {α : Type} (x : α) (l : List α) (i : Nat) (h : i + 1 < (x :: l).length), (x :: l)[i + 1] = l[i]'(by simpa using h)) :=
 ⟨fun _ _ => rfl, fun _ _ _ _ => rfl, fun _ _ _ => List.setIfInBounds_toArray .., fun _ _ _ => rfl, fun _ _ _ _ => rfl, fun _ _ _ => rfl, fun _ _ _ => rfl, fun _ _ _ _ => rfl⟩
section
variable {P : Program} {md : Region.Mode} {ops : Array Oper} {Q : Exit → Act → World → Prop} {S : World → Prop} {oi : Oper} {fuel : Nat} {listed : Array Bool} {a : Act} {w : World}
theorem zh {p : Prop} (h : p) : Hid p := h
theorem tkp (i : Nat) {v : Value} {a' : Act} (hi : ops[i]? = some oi) (h : wpAnyH P md ops Q S fuel (listed.setIfInBounds i true) a' w)
  (hd : (Region.noSelect ops && (Region.free md ops listed i && ((Region.ready md ops listed).contains i && Region.wanted oi (yielded ops a.tmps)))) = true := by kernel_rfl)
  (hy : ∀ w, S w → (execOp a.eval oi).run P w = .ok (.value v) w := by (intro w hSw; (try dsimp only at hSw); go_simp; (try with_reducible rfl)))
  (ha : a.put oi.dst v = a' := by (first | (simp only [puts]; done) | (simp only [puts]; rfl) | rfl))
  (hQ : ∀ c a w, Q (.panic c) (a.put oi.dst v) w → Q (.panic c) a w := by exact fun _ _ _ h => h) (hS : S w := by assumption) : wpAnyH P md ops Q S (fuel + 1) listed a w := by
 subst ha
 exact tkv i hi h hd hy hQ hS
theorem rdy (i : Nat) (hi : ops[i]? = some oi) (h : ∀ K : Act → World → Prop, Shut (∀ v u, S u → (S u → wpAnyH P md ops Q S fuel (listed.setIfInBounds i true) v u) → K v u) → if Region.wanted oi (yielded ops a.tmps) = true then Oper.wp P oi a w K Q else K (a.put oi.dst undef) w)
  (hr : Region.ready md ops listed = [i] := by kernel_rfl) : wpAnyH P md ops Q S (fuel + 1) listed a w :=
 wpAnyH_ready hr (by simp) (AllReadyH.cons hi h AllReadyH.nil)
variable {b : Nat} {t : TypeId} {fz : Nat × Nat} {u0 u1 u2 u3 u4 u5 u6 u7 u8 : Value}
theorem c5q (h : w.heap[b]? = some (.cells #[u0, u1, u2, u3, u4] t fz)) : w.cell? ⟨b, 0, none⟩ = some u0 ∧ w.cell? ⟨b, 1, none⟩ = some u1 ∧ w.cell? ⟨b, 2, none⟩ = some u2 ∧ w.cell? ⟨b, 3, none⟩ = some u3 ∧ w.cell? ⟨b, 4, none⟩ = some u4 :=
 ⟨cell_of_row _ _ 0 _ _ _ h, cell_of_row _ _ 1 _ _ _ h, cell_of_row _ _ 2 _ _ _ h, cell_of_row _ _ 3 _ _ _ h, cell_of_row _ _ 4 _ _ _ h⟩
theorem c6q (h : w.heap[b]? = some (.cells #[u0, u1, u2, u3, u4, u5] t fz)) : w.cell? ⟨b, 0, none⟩ = some u0 ∧ w.cell? ⟨b, 1, none⟩ = some u1 ∧ w.cell? ⟨b, 2, none⟩ = some u2 ∧ w.cell? ⟨b, 3, none⟩ = some u3 ∧ w.cell? ⟨b, 4, none⟩ = some u4 ∧ w.cell? ⟨b, 5, none⟩ = some u5 :=
 ⟨cell_of_row _ _ 0 _ _ _ h, cell_of_row _ _ 1 _ _ _ h, cell_of_row _ _ 2 _ _ _ h, cell_of_row _ _ 3 _ _ _ h, cell_of_row _ _ 4 _ _ _ h, cell_of_row _ _ 5 _ _ _ h⟩
theorem c7q (h : w.heap[b]? = some (.cells #[u0, u1, u2, u3, u4, u5, u6] t fz)) : w.cell? ⟨b, 0, none⟩ = some u0 ∧ w.cell? ⟨b, 1, none⟩ = some u1 ∧ w.cell? ⟨b, 2, none⟩ = some u2 ∧ w.cell? ⟨b, 3, none⟩ = some u3 ∧ w.cell? ⟨b, 4, none⟩ = some u4 ∧ w.cell? ⟨b, 5, none⟩ = some u5 ∧ w.cell? ⟨b, 6, none⟩ = some u6 :=
 ⟨cell_of_row _ _ 0 _ _ _ h, cell_of_row _ _ 1 _ _ _ h, cell_of_row _ _ 2 _ _ _ h, cell_of_row _ _ 3 _ _ _ h, cell_of_row _ _ 4 _ _ _ h, cell_of_row _ _ 5 _ _ _ h, cell_of_row _ _ 6 _ _ _ h⟩
theorem c9q (h : w.heap[b]? = some (.cells #[u0, u1, u2, u3, u4, u5, u6, u7, u8] t fz)) : w.cell? ⟨b, 0, none⟩ = some u0 ∧ w.cell? ⟨b, 1, none⟩ = some u1 ∧ w.cell? ⟨b, 2, none⟩ = some u2 ∧ w.cell? ⟨b, 3, none⟩ = some u3 ∧ w.cell? ⟨b, 4, none⟩ = some u4 ∧ w.cell? ⟨b, 5, none⟩ = some u5 ∧ w.cell? ⟨b, 6, none⟩ = some u6 ∧ w.cell? ⟨b, 7, none⟩ = some u7 ∧ w.cell? ⟨b, 8, none⟩ = some u8 :=
 ⟨cell_of_row _ _ 0 _ _ _ h, cell_of_row _ _ 1 _ _ _ h, cell_of_row _ _ 2 _ _ _ h, cell_of_row _ _ 3 _ _ _ h, cell_of_row _ _ 4 _ _ _ h, cell_of_row _ _ 5 _ _ _ h, cell_of_row _ _ 6 _ _ _ h, cell_of_row _ _ 7 _ _ _ h, cell_of_row _ _ 8 _ _ _ h⟩
end
end Go.Proofs.Ytdifmgeicnndfaa.words
namespace Go.Proofs.Ytdifmgeicnndfaa.frame
open Go.ChangeShapes Go.WideShapes Go.ChangeAt Go.RowKit
open words
set_option maxRecDepth 100000
theorem laidOut : laidOutB Try.prog = true := by kernel_rfl
theorem own : ownKnob Try.prog.godebug = none := by kernel_rfl
end Go.Proofs.Ytdifmgeicnndfaa.frame
namespace Go.Proofs.Ytdifmgeicnndfaa.word
open Go.RowKit
open words
set_option maxRecDepth 100000
def letterB (c : Nat) : Bool := decide ((65 ≤ c ∧ c ≤ 90) ∨ (97 ≤ c ∧ c ≤ 122) ∨ (48 ≤ c ∧ c ≤ 57) ∨ c = 95 ∨ c = 36)
def digitB (c : Nat) : Bool := decide (48 ≤ c ∧ c ≤ 57)
theorem parts (c : Nat) : c < 36 ∨ c = 36 ∨ (36 < c ∧ c < 48) ∨ (48 ≤ c ∧ c ≤ 57) ∨ (57 < c ∧ c < 65) ∨ (65 ≤ c ∧ c ≤ 90) ∨ (90 < c ∧ c < 95) ∨ c = 95 ∨ c = 96 ∨ (97 ≤ c ∧ c ≤ 122) ∨ 122 < c := by omega
theorem digit_w (c : Nat) (w : World) :
  Calls Try.prog 174 #[.int .u8 (c : Int)] w fun e w' => e = .returned (.bool (digitB c)) ∧ w' = w := by
 have hp := parts c
 by_cases h : digitB c = true
 ·rw [h]
  simp only [digitB, decide_eq_true_eq] at h
  have a1 : (48 : Int) ≤ (c : Int) := by omega
  have a2 : (c : Int) ≤ 57 := by omega
  clear hp h
  go_enter Try.func174, Try.ntmps174
  go_wp2
  go_ret
  exact ⟨rfl, rfl⟩
 ·rw [Bool.not_eq_true] at h
  rw [h]
  simp only [digitB, decide_eq_false_iff_not] at h
  by_cases a1 : (48 : Int) ≤ (c : Int)
  ·have a2 : ¬ (c : Int) ≤ 57 := by omega
   clear hp h
   go_enter Try.func174, Try.ntmps174
   go_wp2
   go_ret
   exact ⟨rfl, rfl⟩
  ·clear hp h
   go_enter Try.func174, Try.ntmps174
   go_wp2
   go_ret
   exact ⟨rfl, rfl⟩
theorem letter_walk (c : Nat) (b : Bool) (w : World)
  (h : ((65 : Int) ≤ (c : Int) ∧ (c : Int) ≤ 90 ∧ b = true) ∨ ((65 : Int) ≤ (c : Int) ∧ ¬ (c : Int) ≤ 90 ∧ (97 : Int) ≤ (c : Int) ∧ (c : Int) ≤ 122 ∧ b = true)) :
  Calls Try.prog 148 #[.int .u8 (c : Int)] w fun e w' => e = .returned (.bool b) ∧ w' = w := by
 rcases h with ⟨a1, a2, rfl⟩ | ⟨a1, a2, a3, a4, rfl⟩
 all_goals
  go_enter Try.func148, Try.ntmps148
  go_wp2
  go_ret
  exact ⟨rfl, rfl⟩
theorem letter_walk2 (c : Nat) (b d : Bool) (w : World) (hd : digitB c = d)
  (h : (¬ (65 : Int) ≤ (c : Int) ∧ ¬ (97 : Int) ≤ (c : Int)) ∨ ((65 : Int) ≤ (c : Int) ∧ ¬ (c : Int) ≤ 90 ∧ ¬ (97 : Int) ≤ (c : Int)) ∨ ((65 : Int) ≤ (c : Int) ∧ ¬ (c : Int) ≤ 90 ∧ (97 : Int) ≤ (c : Int) ∧ ¬ (c : Int) ≤ 122))
  (h2 : (d = true ∧ b = true) ∨ (d = false ∧ (c : Int) = 95 ∧ b = true) ∨ (d = false ∧ ¬ (c : Int) = 95 ∧ (c : Int) = 36 ∧ b = true) ∨ (d = false ∧ ¬ (c : Int) = 95 ∧ ¬ (c : Int) = 36 ∧ b = false)) :
  Calls Try.prog 148 #[.int .u8 (c : Int)] w fun e w' => e = .returned (.bool b) ∧ w' = w := by
 have HD := zh (fun w => digit_w c w)
 rw [hd] at HD
 clear hd
 go_enter Try.func148, Try.ntmps148
 rcases h with ⟨a1, a3⟩ | ⟨a1, a2, a3⟩ | ⟨a1, a2, a3, a4⟩
 all_goals
  go_wp2_with fail
  refine (HD.out _).mono ?_
  rintro e w' ⟨rfl, rfl⟩
  rcases h2 with ⟨rfl, rfl⟩ | ⟨rfl, b1, rfl⟩ | ⟨rfl, b1, b2, rfl⟩ | ⟨rfl, b1, b2, rfl⟩
  all_goals
   clear HD
   go_wp2
   go_ret
   exact ⟨rfl, rfl⟩
theorem letter_w (c : Nat) (w : World) :
  Calls Try.prog 148 #[.int .u8 (c : Int)] w fun e w' => e = .returned (.bool (letterB c)) ∧ w' = w := by
 by_cases hx : (65 ≤ c ∧ c ≤ 90) ∨ (97 ≤ c ∧ c ≤ 122)
 ·have hb : letterB c = true := by simp only [letterB, decide_eq_true_eq]; omega
  rw [hb]
  refine letter_walk c true w ?_
  rcases hx with h | h
  ·exact .inl ⟨by omega, by omega, rfl⟩
  ·exact .inr ⟨by omega, by omega, by omega, by omega, rfl⟩
 ·refine letter_walk2 c (letterB c) (digitB c) w rfl (by omega) ?_
  by_cases h1 : 48 ≤ c ∧ c ≤ 57
  ·exact .inl ⟨by simp [digitB, h1], by simp only [letterB, decide_eq_true_eq]; omega⟩
  ·have hd : digitB c = false := by simp only [digitB, decide_eq_false_iff_not]; omega
   by_cases h2 : c = 95
   ·exact .inr (.inl ⟨hd, by omega, by simp only [letterB, decide_eq_true_eq]; omega⟩)
   ·by_cases h3 : c = 36
    ·exact .inr (.inr (.inl ⟨hd, by omega, by omega, by simp only [letterB, decide_eq_true_eq]; omega⟩))
    ·exact .inr (.inr (.inr ⟨hd, by omega, by omega, by simp only [letterB, decide_eq_false_iff_not]; omega⟩))
def classB (c : Nat) : Bool := c == 47 || letterB c
theorem class_w (c : Nat) (w : World) :
  Calls Try.prog 147 #[.int .u8 (c : Int)] w fun e w' => e = .returned (.bool (classB c)) ∧ w' = w := by
 have HL := zh (fun w => letter_w c w)
 unfold classB
 generalize letterB c = d at *
 by_cases h : c = 47
 ·have h1 : ((c : Int) == 47) = true := by simp; omega
  have h2 : (c == 47) = true := by simp [h]
  have h3 : (c : Int) = 47 := by omega
  rw [h2, Bool.true_or]
  clear h h2 HL
  go_enter Try.func147, Try.ntmps147
  go_wp2
  go_ret
  exact ⟨rfl, rfl⟩
 ·have h1 : ((c : Int) == 47) = false := by simp; omega
  have h2 : (c == 47) = false := by simp [h]
  have h3 : ¬ (c : Int) = 47 := by omega
  rw [h2, Bool.false_or]
  clear h h2
  go_enter Try.func147, Try.ntmps147
  go_wp2_with (go_at_call 148; refine (HL.out _).mono ?_; rintro e w' ⟨rfl, rfl⟩)
  go_ret
  exact ⟨rfl, rfl⟩
end Go.Proofs.Ytdifmgeicnndfaa.word
namespace Go.Proofs.Ytdifmgeicnndfaa.num
def takeGo (i n : Nat) : List Nat → Nat × Nat × Nat
 | [] => (0, 0, 2)
 | c :: r => if i = 9 ∧ 1 < c then (0, 0, 1)
  else if 128 ≤ c then takeGo (i + 1) (n + c % 128 * 128 ^ i) r
  else if c = 0 ∧ 0 < i then (0, 0, 1) else (n + c * 128 ^ i, i + 1, 0)
def takeAt (l : List Nat) (p : Int) : Nat × Nat × Nat :=
 if p < 0 ∨ (l.length : Int) < p then (0, 0, 12)
 else
  let r := takeGo 0 0 (l.drop p.toNat)
  (r.1, if r.2.2 = 0 then p.toNat + r.2.1 else 0, r.2.2)
def more (acc : List Nat) (s : List Nat × Nat) : List Nat × Nat := if s.2 ≠ 0 then ([], s.2) else (acc ++ s.1, 0)
end Go.Proofs.Ytdifmgeicnndfaa.num
namespace Go.Proofs.Ytdifmgeicnndfaa.crcnum
theorem xor_zero_eq {a b : Nat} (h : a ^^^ b = 0) : a = b := by
 have e : a ^^^ b ^^^ b = a := by rw [Nat.xor_assoc, Nat.xor_self, Nat.xor_zero]
 rw [h, Nat.zero_xor] at e
 exact e.symm
def half (n : Nat) : Nat := n / 2 ^^^ (if n % 2 = 1 then 3988292384 else 0)
def halfs : Nat → Nat → Nat
 | 0, n => n
 | k + 1, n => halfs k (half n)
def step (s c : Nat) : Nat := halfs 8 (s ^^^ c)
def addL (s : Nat) (l : List Nat) : Nat := l.foldl step s
theorem half_xor (a b : Nat) : half (a ^^^ b) = half a ^^^ half b := by
 unfold half
 have e1 : (a ^^^ b) / 2 = a / 2 ^^^ b / 2 := Nat.xor_div_two
 have e2 : (a ^^^ b) % 2 = (a + b) % 2 := by
  have h := Nat.xor_mod_two_pow (a := a) (b := b) (n := 1)
  rw [Nat.pow_one] at h
  rw [h, Nat.add_mod]
  rcases Nat.mod_two_eq_zero_or_one a with ha | ha <;> rcases Nat.mod_two_eq_zero_or_one b with hb | hb <;> rw [ha, hb] <;> rfl
 rw [e1, e2]
 rcases Nat.mod_two_eq_zero_or_one a with ha | ha <;> rcases Nat.mod_two_eq_zero_or_one b with hb | hb
 ·rw [if_neg (by omega), if_neg (by omega), if_neg (by omega)]; simp
 ·rw [if_pos (by omega), if_neg (by omega), if_pos (by omega)]; simp [Nat.xor_assoc]
 ·rw [if_pos (by omega), if_pos (by omega), if_neg (by omega), Nat.xor_zero, Nat.xor_assoc, Nat.xor_assoc, Nat.xor_comm (b / 2)]
 ·rw [if_neg (by omega), if_pos (by omega), if_pos (by omega)]
  have : ∀ x y p : Nat, x ^^^ p ^^^ (y ^^^ p) = x ^^^ y := fun x y p => by
   rw [Nat.xor_assoc, Nat.xor_comm y p, ← Nat.xor_assoc p p y, Nat.xor_self, Nat.zero_xor]
  rw [this]; simp
theorem half_even (x : Nat) : half (2 * x) = x := by
 unfold half
 rw [if_neg (by omega), Nat.mul_div_cancel_left x (by omega)]; simp
theorem half_lt (n : Nat) (h : n < 2 ^ 32) : half n < 2 ^ 32 := by
 unfold half
 refine Nat.xor_lt_two_pow (by omega) ?_
 split <;> omega
theorem half_zero {n : Nat} (h : n < 2 ^ 32) (h0 : half n = 0) : n = 0 := by
 unfold half at h0
 by_cases ho : n % 2 = 1
 ·rw [if_pos ho] at h0
  have := xor_zero_eq h0
  omega
 ·rw [if_neg ho, Nat.xor_zero] at h0
  omega
theorem halfs_xor (k a b : Nat) : halfs k (a ^^^ b) = halfs k a ^^^ halfs k b := by
 induction k generalizing a b with
 | zero => rfl
 | succ k ih => simp only [halfs]; rw [half_xor, ih]
theorem halfs_even (k x : Nat) : halfs k (2 ^ k * x) = x := by
 induction k generalizing x with
 | zero => simp [halfs]
 | succ k ih => simp only [halfs]; rw [Nat.pow_succ, Nat.mul_comm (2 ^ k) 2, Nat.mul_assoc, half_even, ih]
theorem halfs_lt (k n : Nat) (h : n < 2 ^ 32) : halfs k n < 2 ^ 32 := by
 induction k generalizing n with
 | zero => exact h
 | succ k ih => exact ih _ (half_lt n h)
theorem halfs_zero (k : Nat) {n : Nat} (h : n < 2 ^ 32) (h0 : halfs k n = 0) : n = 0 := by
 induction k generalizing n with
 | zero => exact h0
 | succ k ih => exact half_zero h (ih (half_lt n h) h0)
theorem halfs_add (j k n : Nat) : halfs (j + k) n = halfs k (halfs j n) := by
 induction j generalizing n with
 | zero => simp [halfs]
 | succ j ih => rw [Nat.succ_add]; simp only [halfs]; rw [ih]
theorem halfs_nought (k : Nat) : halfs k 0 = 0 := by
 have := halfs_even k 0
 simpa using this
theorem join16 (x k : Nat) (hk : k < 16) : 16 * x + k = 16 * x ^^^ k := by
 have h := Nat.two_pow_add_eq_or_of_lt (i := 4) (b := k) (by omega) x
 have h2 : 16 * x ||| k = 16 * x ^^^ k := by
  apply Nat.eq_of_testBit_eq
  intro i
  rw [Nat.testBit_or, Nat.testBit_xor]
  by_cases hi : i < 4
  ·have : (16 * x).testBit i = false := by
    have := Nat.testBit_two_pow_mul (i := 4) (a := x) (j := i)
    rw [show (2 : Nat) ^ 4 = 16 from rfl] at this
    rw [this]; simp; omega
   rw [this]; simp
  ·have : k.testBit i = false := Nat.testBit_lt_two_pow (Nat.lt_of_lt_of_le hk (by
    calc 16 = 2 ^ 4 := rfl
     _ ≤ 2 ^ i := Nat.pow_le_pow_right (by omega) (by omega)))
   rw [this]; simp
 rw [show (2 : Nat) ^ 4 = 16 from rfl] at h
 rw [h, h2]
theorem four (n : Nat) : halfs 4 n = n / 16 ^^^ halfs 4 (n % 16) := by
 have e : n = 16 * (n / 16) ^^^ n % 16 := by
  rw [← join16 (n / 16) (n % 16) (by omega)]; omega
 have h : halfs 4 n = halfs 4 (16 * (n / 16) ^^^ n % 16) := by rw [← e]
 rw [h, halfs_xor]
 congr 1
 exact halfs_even 4 (n / 16)
def T (k : Nat) : Nat := halfs 4 k
theorem addL_app (s : Nat) (a b : List Nat) : addL s (a ++ b) = addL (addL s a) b := List.foldl_append
def word : List Nat → Nat
 | [] => 0
 | c :: l => c ^^^ (256 * word l)
theorem word_lt (n : Nat) (l : List Nat) (hn : l.length ≤ n) (hl : ∀ c ∈ l, c < 256) : word l < 2 ^ (8 * n) := by
 induction l generalizing n with
 | nil => simp only [word]; exact Nat.pow_pos (by omega)
 | cons c l ih =>
  obtain ⟨m, rfl⟩ : ∃ m, n = m + 1 := ⟨n - 1, by simp at hn; omega⟩
  have := ih m (by simpa using hn) (fun d hd => hl d (by simp [hd]))
  simp only [word]
  rw [Nat.mul_add, Nat.pow_add]
  have hp : 0 < 2 ^ (8 * m) := Nat.pow_pos (by omega)
  have hc := hl c (by simp)
  rw [← Nat.pow_add]
  refine Nat.xor_lt_two_pow (Nat.lt_of_lt_of_le hc (by rw [show (256 : Nat) = 2 ^ 8 from rfl]; exact Nat.pow_le_pow_right (by omega) (by omega))) ?_
  rw [Nat.pow_add]; omega
theorem word_zero (l : List Nat) (hl : ∀ c ∈ l, c < 256) (h : word l = 0) : ∀ c ∈ l, c = 0 := by
 induction l with
 | nil => simp
 | cons c l ih =>
  have e := xor_zero_eq h
  have hc := hl c (by simp)
  intro d hd
  rcases List.mem_cons.1 hd with rfl | hd
  ·omega
  ·exact ih (fun x hx => hl x (by simp [hx])) (by omega) d hd
theorem addL_word (l : List Nat) (s : Nat) : addL s l = halfs (8 * l.length) (s ^^^ word l) := by
 induction l generalizing s with
 | nil => simp [addL, word, halfs]
 | cons c l ih =>
  have h : addL s (c :: l) = addL (step s c) l := rfl
  rw [h, ih, List.length_cons, Nat.mul_add, Nat.add_comm, Nat.mul_one, halfs_add]
  have key : halfs 8 (s ^^^ word (c :: l)) = step s c ^^^ word l := by
   show halfs 8 (s ^^^ (c ^^^ (256 * word l))) = halfs 8 (s ^^^ c) ^^^ word l
   rw [← Nat.xor_assoc, halfs_xor 8 (s ^^^ c) (256 * word l)]
   have e := halfs_even 8 (word l)
   rw [show (2 : Nat) ^ 8 = 256 from rfl] at e
   rw [e]
  rw [key]
theorem addL_noughts (s k : Nat) : addL s (List.replicate k 0) = halfs (8 * k) s := by
 have hw : ∀ k, word (List.replicate k 0) = 0 := by
  intro k
  induction k with
  | zero => rfl
  | succ k ih => simp only [List.replicate_succ, word, ih]; rfl
 rw [addL_word, hw]; simp
theorem turned (i j : Nat) (l : List Nat) (hn : l.length ≤ 4) (hl : ∀ c ∈ l, c < 256) (h : addL 0 (List.replicate i 0 ++ l ++ List.replicate j 0) = 0) : ∀ c ∈ l, c = 0 := by
 rw [addL_app, addL_app, addL_noughts, addL_noughts, halfs_nought, addL_word, Nat.zero_xor] at h
 have h1 := word_lt 4 l hn hl
 exact word_zero l hl (halfs_zero _ h1 (halfs_zero _ (halfs_lt _ _ h1) h))
end Go.Proofs.Ytdifmgeicnndfaa.crcnum
namespace Go.Proofs.Ytdifmgeicnndfaa.crc
open Go.RowKit
open crcnum words
end Go.Proofs.Ytdifmgeicnndfaa.crc
namespace Go.Proofs.Ytdifmgeicnndfaa.put
open Go.RowKit
open num words
end Go.Proofs.Ytdifmgeicnndfaa.put
namespace Go.Proofs.Ytdifmgeicnndfaa.take
open Go.RowKit
open num words
theorem fits (y d j : Nat) (hy : y < 128 ^ j) (hj : j ≤ 9) (h9 : j ≤ 8 ∨ d ≤ 1) : y + d % 128 * 128 ^ j < 18446744073709551616 := by
 have hp : 0 < 128 ^ j := Nat.pow_pos (by omega)
 rcases h9 with h | h
 ·have a1 : d % 128 * 128 ^ j ≤ 127 * 128 ^ j := Nat.mul_le_mul_right _ (by omega)
  have a2 : 128 ^ (j + 1) ≤ 128 ^ 9 := Nat.pow_le_pow_right (by omega) (by omega)
  rw [Nat.pow_succ] at a2
  omega
 ·have a1 : d % 128 * 128 ^ j ≤ 1 * 128 ^ j := Nat.mul_le_mul_right _ (by omega)
  have a2 : 128 ^ j ≤ 128 ^ 9 := Nat.pow_le_pow_right (by omega) (by omega)
  omega
end Go.Proofs.Ytdifmgeicnndfaa.take
namespace Go.Proofs.Ytdifmgeicnndfaa.sealing
open Go.RowKit
open crcnum words
end Go.Proofs.Ytdifmgeicnndfaa.sealing
namespace Go.Proofs.Ytdifmgeicnndfaa.sealing
open Go.RowKit
open crcnum words
end Go.Proofs.Ytdifmgeicnndfaa.sealing
namespace Go.Proofs.Ytdifmgeicnndfaa.small
open Go.RowKit
open num words
end Go.Proofs.Ytdifmgeicnndfaa.small
namespace Go.Proofs.Ytdifmgeicnndfaa.sealing
open Go.RowKit
open crcnum words
end Go.Proofs.Ytdifmgeicnndfaa.sealing
namespace Go.Proofs.Ytdifmgeicnndfaa.rdnum
open num sealing
set_option maxRecDepth 100000
structure Rs where
 l : List Nat
 p : Nat
 e : Int
 f : Nat
structure Rr (α : Type) where
 v : α
 q : Nat
 e : Nat
 f : Nat
def lebT (l : List Nat) (p : Nat) : Rr Nat := if (takeAt l p).2.2 = 0 then ⟨(takeAt l p).1, (takeAt l p).2.1, 0, 0⟩ else ⟨0, 0, (takeAt l p).2.2, p⟩
def numT (l : List Nat) (p : Nat) (m : Int) : Rr Nat :=
 if (lebT l p).e ≠ 0 then lebT l p else if m < (lebT l p).v then ⟨0, 0, 3, p⟩ else lebT l p
def bytesT (l : List Nat) (p n : Nat) : Rr (List Nat) := if l.length - p < n then ⟨[], 0, 2, p⟩ else ⟨(l.drop p).take n, p + n, 0, 0⟩
def textT (l : List Nat) (p : Nat) : Rr (List Nat) :=
 if (numT l p 64).e ≠ 0 then ⟨[], 0, (numT l p 64).e, (numT l p 64).f⟩ else bytesT l (numT l p 64).q (numT l p 64).v
def Rs.fail (s : Rs) (e : Int) : Rs := if s.e ≠ 0 ∨ e = 0 then s else { s with e := e, f := s.p }
end Go.Proofs.Ytdifmgeicnndfaa.rdnum
namespace Go.Proofs.Ytdifmgeicnndfaa.rdr
open Go.RowKit
open num words rdnum
set_option maxRecDepth 100000
def Bs (w : World) (A : Option Addr) (l : List Nat) : Prop :=
 l = [] ∨ ∃ a, A = some a ∧ (∃ cs f, w.heap[a.block]? = some (.cells cs 5 f)) ∧ ∀ j u, (B l)[j]? = some u → w.cell? (a.add j) = some u
theorem Bs.nil (w : World) (A : Option Addr) : Bs w A [] := .inl rfl
theorem Bs.kept {w w' : World} {A : Option Addr} {l : List Nat} (h : Bs w A l) {r : Option Nat} (hg : w.grownBy w' r) (hr : ∀ b cs f, r = some b → w.heap[b]? ≠ some (.cells cs 5 f)) : Bs w' A l := by
 rcases h with rfl | ⟨a, rfl, ⟨cs, f, hh⟩, hc⟩
 ·exact .inl rfl
 ·have hb : w'.heap[a.block]? = w.heap[a.block]? := hg.block _ (blk_lt hh) (fun e => hr _ cs f e.symm hh)
  refine .inr ⟨a, rfl, ⟨cs, f, hb.trans hh⟩, fun j u hu => ?_⟩
  rw [← hc j u hu]
  exact World.cell?_of_block (by rw [add_block]; exact hb)
theorem Bs.take {w : World} {A : Option Addr} {l : List Nat} (h : Bs w A l) (k : Nat) : Bs w A (l.take k) := by
 rcases h with rfl | ⟨a, rfl, hh, hc⟩
 ·exact .inl (by simp)
 ·refine .inr ⟨a, rfl, hh, fun j u hu => hc j u ?_⟩
  rw [← B_take, List.getElem?_take] at hu
  split at hu
  ·exact hu
  ·cases hu
theorem Bs.below {w w' : World} {A : Option Addr} {l : List Nat} (h : Bs w A l) (hb : Below w.heap.size w w') : Bs w' A l :=
 h.kept (r := none) ⟨hb.os, hb.tape, hb.output, hb.size, fun k hk _ => hb.block k hk⟩ (fun _ _ _ h => by cases h)
abbrev But (b : Nat) (w w' : World) : Prop := w.grownBy w' (some b)
theorem But.refl (b : Nat) (w : World) : But b w w := ⟨rfl, rfl, rfl, Nat.le_refl _, fun _ _ _ => rfl⟩
theorem But.trans {b : Nat} {w w1 w2 : World} (h : But b w w1) (k : But b w1 w2) : But b w w2 :=
 ⟨k.os.trans h.os, k.tape.trans h.tape, k.output.trans h.output, Nat.le_trans h.size k.size, fun i hi hr => (k.block i (Nat.lt_of_lt_of_le hi h.size) hr).trans (h.block i hi hr)⟩
theorem But.alloc {b : Nat} {w w1 : World} (h : But b w w1) (o : Obj) : But b w (w1.alloc o) := h.trans (World.grownBy_alloc w1 o _)
theorem But.set {b : Nat} {w w1 : World} (h : But b w w1) (i : Nat) (v : Value) : But b w (w1.setCell ⟨b, i, none⟩ v) := h.trans (Lib.grownBy_setCell w1 b i v)
theorem But.drewN {b n : Nat} {w w1 : World} (h : But b w w1) : But b w (w1.drewN n) := ⟨h.os, h.tape, h.output, h.size, h.block⟩
theorem But.of {b : Nat} {w w1 : World} (h : Below w.heap.size w w1) : But b w w1 := ⟨h.os, h.tape, h.output, h.size, fun k hk _ => h.block k hk⟩
theorem But.below {b B : Nat} {w w1 : World} (h : But b w w1) (h1 : B ≤ b) (h2 : B ≤ w.heap.size) : Below B w w1 :=
 ⟨h.os, h.tape, h.output, h.size, fun k hk => h.block k (by omega) (fun e => by cases e; omega)⟩
theorem But.heap {b c : Nat} {w w1 : World} (h : But b w w1) {o : Obj} (hc : w.heap[c]? = some o) (hne : c ≠ b) : w1.heap[c]? = some o :=
 (h.block c (blk_lt hc) (fun e => hne (by cases e; rfl))).trans hc
end Go.Proofs.Ytdifmgeicnndfaa.rdr
namespace Go.Proofs.Ytdifmgeicnndfaa.give
open Go.RowKit
open num words rdnum rdr
set_option maxRecDepth 100000
end Go.Proofs.Ytdifmgeicnndfaa.give
namespace Go.Proofs.Ytdifmgeicnndfaa.give
open Go.RowKit
open num words rdnum rdr sealing
set_option maxRecDepth 100000
def S (l : List Nat) : Value := .string ⟨(l.map UInt8.ofNat).toArray⟩
end Go.Proofs.Ytdifmgeicnndfaa.give
namespace Go.Proofs.Ytdifmgeicnndfaa.give
open Go.RowKit
open num words rdnum rdr sealing
set_option maxRecDepth 100000
end Go.Proofs.Ytdifmgeicnndfaa.give
namespace Go.Proofs.Ytdifmgeicnndfaa.catching
open Go.RowKit
open num words rdnum rdr give
set_option maxRecDepth 100000
end Go.Proofs.Ytdifmgeicnndfaa.catching
namespace Go.Proofs.Ytdifmgeicnndfaa.reading
open Go.RowKit
open num words rdnum rdr give catching
set_option maxRecDepth 100000
end Go.Proofs.Ytdifmgeicnndfaa.reading
namespace Go.Proofs.Ytdifmgeicnndfaa.meth
open Go.RowKit
open num words rdnum rdr give reading
set_option maxRecDepth 100000
end Go.Proofs.Ytdifmgeicnndfaa.meth
namespace Go.Proofs.Ytdifmgeicnndfaa.meth
open Go.RowKit
open num words rdnum rdr give reading
set_option maxRecDepth 100000
def left (s : Rs) : Int := if s.e ≠ 0 then 0 else (s.l.length : Int) - s.p
end Go.Proofs.Ytdifmgeicnndfaa.meth
namespace Go.Proofs.Ytdifmgeicnndfaa.write
open Go.RowKit
open num words rdnum rdr give reading meth sealing crcnum
set_option maxRecDepth 100000
def N (s : ByteArray) : List Nat := s.data.toList.map (·.toNat)
theorem N_len (s : ByteArray) : (N s).length = s.size := by unfold N; rw [List.length_map, Array.length_toList]; rfl
end Go.Proofs.Ytdifmgeicnndfaa.write
namespace Go.Proofs.Ytdifmgeicnndfaa.word
open Go.RowKit
open num words give write
set_option maxRecDepth 100000
set_option maxHeartbeats 400000
theorem N_at (s : ByteArray) (k : Nat) (h : k < s.size) : (N s)[k]? = some (s[k]'h).toNat := by
 unfold N
 rw [List.getElem?_map, Array.getElem?_toList, Array.getElem?_eq_getElem (by exact h)]
 rfl
theorem take_all (s : ByteArray) (p : Nat → Bool) (k : Nat) (h : k < s.size) (ha : ((N s).take k).all p = true) (hp : p (s[k]'h).toNat = true) : ((N s).take (k + 1)).all p = true := by
 rw [List.take_add_one, N_at s k h, List.all_append, ha]
 simp [hp]
theorem not_all (s : ByteArray) (p : Nat → Bool) (k : Nat) (h : k < s.size) (hp : p (s[k]'h).toNat = false) : (N s).all p = false := by
 rw [List.all_eq_false]
 exact ⟨_, List.mem_of_getElem? (N_at s k h), by simp [hp]⟩
theorem all_w (s : ByteArray) (p : Nat → Bool) (f : Nat) (w : World) (hs : s.size ≤ 281474976710656)
  (hf : ∀ (c : Nat) (w : World), c < 256 → Calls Try.prog f #[.int .u8 (c : Int)] w fun e w' => e = .returned (.bool (p c)) ∧ w' = w)
  (ef : ∀ args w, (callFunc f args).run Try.prog w = .ok (.enter f args) w) :
  Calls Try.prog 173 #[.string s, .func (.func f) #[] #[]] w fun e w' => e = .returned (.bool ((N s).all p)) ∧ w' = w := by
 have HF := zh hf
 have hnI : (s.size : Int) ≤ 281474976710656 := by omega
 have HL := zh (N_len s)
 clear hf hs
 go_enter Try.func173, Try.ntmps173
 go_wp2
 go_loopw [8] (fun i wr => ∃ k : Nat, k ≤ s.size ∧ i = .int .i64 (k : Int) ∧ wr = w ∧ ((N s).take k).all p = true) (fun i _ => s.size - (intOf i).toNat)
 case atStart => exact ⟨0, Nat.zero_le _, rfl, rfl, by simp⟩
 case round =>
  obtain ⟨k, hk, rfl, rfl, hall⟩ := hrel
  have HA := zh hall
  clear hall
  by_cases hlt : k < s.size
  ·have hltI : (k : Int) < (s.size : Int) := by omega
   have hlt8 : (s[k]'hlt).toNat < 256 := UInt8.toNat_lt _
   have hk1 := take_all s p k hlt HA.out
   go_wp2_with fail
   refine (HF.out _ _ hlt8).mono ?_
   rintro e w' ⟨rfl, rfl⟩
   cases hp : p (s[k]'hlt).toNat
   ·have HN := zh (not_all s p k hlt hp)
    clear hk1 hp hlt8 HF HA ef
    go_wp2
    go_ret
    rw [HN.out]
    exact ⟨rfl, rfl⟩
   ·have HK := zh (hk1 hp)
    clear hk1 hp hlt8 HF HA
    go_wp2
    go_roundw
    case rel => exact ⟨k + 1, by omega, by go_num, by first | rfl | trivial, HK.out⟩
    case measure => simp [intOf]; omega
  ·have hltI : ¬ (k : Int) < (s.size : Int) := by omega
   have hks : k = s.size := by omega
   subst hks
   have ha := HA.out
   rw [← N_len, List.take_length] at ha
   have HA2 := zh ha
   clear ha HA HF ef
   go_wp2
   go_ret
   rw [HA2.out]
   exact ⟨rfl, rfl⟩
end Go.Proofs.Ytdifmgeicnndfaa.word
namespace Go.Proofs.Ytdifmgeicnndfaa.word
open Go.RowKit
open num words give write
set_option maxRecDepth 100000
set_option maxHeartbeats 400000
def fits (s : ByteArray) : Bool := decide (1 ≤ s.size ∧ s.size ≤ 32)
def namedB (p : Nat → Bool) (s : ByteArray) : Bool := fits s && (N s).all p
def initName : ByteArray := ⟨#[60, 99, 108, 105, 110, 105, 116, 62]⟩
def nameB (s : ByteArray) : Bool := decide (s = initName) || namedB letterB s
theorem not_empty {s : ByteArray} (h : ¬ s.size = 0) : s.toList.isEmpty = false := by
 rw [Lib.toList_data]
 cases hd : s.data.toList with
 | nil => exact absurd (by rw [← N_len]; unfold N; rw [hd]; rfl) h
 | cons a b => rfl
theorem named_w (s : ByteArray) (p : Nat → Bool) (f : Nat) (w : World) (hs : s.size ≤ 281474976710656)
  (hf : ∀ (c : Nat) (w : World), c < 256 → Calls Try.prog f #[.int .u8 (c : Int)] w fun e w' => e = .returned (.bool (p c)) ∧ w' = w)
  (ef : ∀ args w, (callFunc f args).run Try.prog w = .ok (.enter f args) w) :
  Calls Try.prog 146 #[.string s, .func (.func f) #[] #[]] w fun e w' => e = .returned (.bool (namedB p s)) ∧ w' = w := by
 have HA := zh (fun w => all_w s p f w hs hf ef)
 have hsI : (s.size : Int) ≤ 281474976710656 := by omega
 have HS := zh (show namedB p s = (fits s && (N s).all p) from rfl)
 generalize (N s).all p = b at HA HS
 clear hf ef hs
 by_cases h0 : s.size = 0
 ·obtain rfl : s = ⟨#[]⟩ := ByteArray.ext (Array.size_eq_zero_iff.1 h0)
  rw [HS.out, show fits (⟨#[]⟩ : ByteArray) = false from rfl, Bool.false_and]
  clear HS HA h0
  go_enter Try.func146, Try.ntmps146
  go_wp2
  go_ret
  exact ⟨rfl, rfl⟩
 ·have hne := not_empty h0
  have hne3 : ¬ s.toList = [] := by intro e; rw [e] at hne; cases hne
  by_cases h1 : s.size ≤ 32
  ·have h1I : (s.size : Int) ≤ 32 := by omega
   rw [HS.out, show fits s = true by simp [fits]; omega, Bool.true_and]
   clear HS h0 h1
   go_enter Try.func146, Try.ntmps146
   go_wp2_with (go_at_call 173; refine (HA.out _).mono ?_; rintro e w' ⟨rfl, rfl⟩)
   go_ret
   exact ⟨rfl, rfl⟩
  ·have h1I : ¬ (s.size : Int) ≤ 32 := by omega
   rw [HS.out, show fits s = false by simp [fits]; omega, Bool.false_and]
   clear HS h0 h1 HA
   go_enter Try.func146, Try.ntmps146
   go_wp2
   go_ret
   exact ⟨rfl, rfl⟩
theorem class_name (s : ByteArray) (w : World) (hs : s.size ≤ 281474976710656) :
  Calls Try.prog 134 #[.string s] w fun e w' => e = .returned (.bool (namedB classB s)) ∧ w' = w := by
 have HA := zh (fun w => named_w s classB 147 w hs (fun c w _ => class_w c w) (fun _ _ => rfl))
 clear hs
 go_enter Try.func134, Try.ntmps134
 go_wp2_with (go_at_call 146; refine (HA.out _).mono ?_; rintro e w' ⟨rfl, rfl⟩)
 go_ret
 exact ⟨rfl, rfl⟩
end Go.Proofs.Ytdifmgeicnndfaa.word
namespace Go.Proofs.Ytdifmgeicnndfaa.piece
open Go.Lib
theorem parts (c : UInt8) : ∀ l : List UInt8, c ∉ l ∨ ∃ a b, l = a ++ c :: b ∧ c ∉ a
 | [] => .inl (by simp)
 | x :: l => by
  by_cases h : c = x
  ·exact .inr ⟨[], l, by rw [h]; rfl, by simp⟩
  ·rcases parts c l with h1 | ⟨a, b, e, h1⟩
   ·exact .inl (by simp [h, h1])
   ·exact .inr ⟨x :: a, b, by rw [e]; rfl, by simp [h, h1]⟩
section
variable {l : List UInt8} {i f : Nat} {c x : UInt8}
end
def D (xs : List ByteArray) : List (List UInt8) := xs.map (·.data.toList)
end Go.Proofs.Ytdifmgeicnndfaa.piece
namespace Go.Proofs.Ytdifmgeicnndfaa.kindp
open piece
abbrev Tx := List UInt8
abbrev Ty := Int × Tx
def okC (c : Nat) : Bool := c == 47 || decide ((65 ≤ c ∧ c ≤ 90) ∨ (97 ≤ c ∧ c ≤ 122) ∨ (48 ≤ c ∧ c ≤ 57) ∨ c = 95 ∨ c = 36)
def clsB (c : Tx) : Bool := decide (1 ≤ c.length ∧ c.length ≤ 32) && (c.map (·.toNat)).all okC
theorem cls_no {c : Tx} (h : clsB c = true) : (59 : UInt8) ∉ c ∧ 1 ≤ c.length ∧ c.length ≤ 32 := by
 unfold clsB at h
 rw [Bool.and_eq_true, decide_eq_true_eq, List.all_eq_true] at h
 refine ⟨fun h59 => ?_, h.1⟩
 have := h.2 59 (List.mem_map.2 ⟨59, h59, rfl⟩)
 revert this; decide
def hasB (k : Int) : Bool := decide (k = 3 ∨ k = 5)
def signL (k : Int) : Tx := if k = 1 then [86] else if k = 2 then [73] else if k = 3 then [76] else if k = 4 then [91, 73] else if k = 5 then [91, 76] else []
def rightT (t : Ty) : Bool := if hasB t.1 = true then clsB t.2 else decide ((t.1 = 1 ∨ t.1 = 2 ∨ t.1 = 4) ∧ t.2 = [])
def textT (t : Ty) : Tx := if rightT t = true then (if hasB t.1 = true then signL t.1 ++ t.2 ++ [59] else signL t.1) else []
def classT (k : Int) (s : Tx) : Option (Ty × Tx) := if ((Lib.cut s [59]).2.2 && clsB (Lib.cut s [59]).1) = true then some ((k, (Lib.cut s [59]).1), (Lib.cut s [59]).2.1) else none
def typeT : Tx → Option (Ty × Tx)
 | [] => none
 | c :: r =>
  if c = 86 then some ((1, []), r) else if c = 73 then some ((2, []), r) else if c = 76 then classT 3 r
  else if c = 91 then (match r with
   | [] => none
   | d :: q => if d = 73 then some ((4, []), q) else if d = 76 then classT 5 q else none)
  else none
def allT (s : Tx) : Option Ty := match typeT s with | some (t, []) => some t | _ => none
def sigT : Nat → List Ty → Tx → Option (List Ty × Ty)
 | 0, _, _ => none
 | n + 1, acc, s =>
  if s.head? = some 41 then (match allT s.tail with | some t => some (acc, t) | none => none)
  else match typeT s with
   | some (t, r) => if t = (1, []) then none else sigT n (acc ++ [t]) r
   | none => none
def sigD (d : Tx) : Option (List Ty × Ty) := if d.head? = some 40 then sigT (d.length + 1) [] d.tail else none
def splitT (d : Tx) : List Ty × Ty × Nat :=
 if 64 < d.length then ([], (0, []), 3)
 else match sigD d with
  | some (p, t) => if 8 < p.length then ([], (0, []), 3) else (p, t, 0)
  | none => ([], (0, []), 1)
end Go.Proofs.Ytdifmgeicnndfaa.kindp
namespace Go.Proofs.Ytdifmgeicnndfaa.kindp
end Go.Proofs.Ytdifmgeicnndfaa.kindp
namespace Go.Proofs.Ytdifmgeicnndfaa.kind
open Go.RowKit
open words kindp word
set_option maxRecDepth 100000
def tyV (t : Ty) : Value := .agg #[.int .i64 t.1, .string ⟨t.2.toArray⟩]
theorem mk_len (c : Tx) : (⟨c.toArray⟩ : ByteArray).size = c.length := by show c.toArray.size = _; simp
theorem cls_eq (c : Tx) : namedB classB ⟨c.toArray⟩ = clsB c := by
 unfold namedB fits clsB
 rw [mk_len]
 rfl
theorem has_w (k : Int) (c : Tx) (w : World) :
  Calls Try.prog 96 #[.agg #[.int .i64 k, .string ⟨c.toArray⟩]] w fun e w' => e = .returned (.bool (hasB k)) ∧ Below w.heap.size w w' := by
 by_cases h3 : k = 3
 ·subst h3
  rw [show hasB 3 = true from rfl]
  go_enter Try.func96, Try.ntmps96
  go_wp2
  go_ret
  exact ⟨rfl, (Below.refl _ _).alloc (Nat.le_refl _) _⟩
 ·by_cases h5 : k = 5
  ·subst h5
   rw [show hasB 5 = true from rfl]
   clear h3
   go_enter Try.func96, Try.ntmps96
   go_wp2
   go_ret
   exact ⟨rfl, (Below.refl _ _).alloc (Nat.le_refl _) _⟩
  ·rw [show hasB k = false by unfold hasB; simp [h3, h5]]
   have e3 : (k == 3) = false := by simpa using h3
   have e5 : (k == 5) = false := by simpa using h5
   clear h3 h5
   go_enter Try.func96, Try.ntmps96
   go_wp2
   go_ret
   exact ⟨rfl, (Below.refl _ _).alloc (Nat.le_refl _) _⟩
theorem kinds (k : Int) : k = 1 ∨ k = 2 ∨ k = 3 ∨ k = 4 ∨ k = 5 ∨ ((k == 1) = false ∧ (k == 2) = false ∧ (k == 3) = false ∧ (k == 4) = false ∧ (k == 5) = false ∧ signL k = [] ∧ hasB k = false) := by
 by_cases h1 : k = 1
 ·exact .inl h1
 by_cases h2 : k = 2
 ·exact .inr (.inl h2)
 by_cases h3 : k = 3
 ·exact .inr (.inr (.inl h3))
 by_cases h4 : k = 4
 ·exact .inr (.inr (.inr (.inl h4)))
 by_cases h5 : k = 5
 ·exact .inr (.inr (.inr (.inr (.inl h5))))
 ·refine .inr (.inr (.inr (.inr (.inr ⟨by simpa using h1, by simpa using h2, by simpa using h3, by simpa using h4, by simpa using h5, ?_, ?_⟩))))
  ·unfold signL; rw [if_neg h1, if_neg h2, if_neg h3, if_neg h4, if_neg h5]
  ·unfold hasB; simp [h3, h5]
theorem sign_w (k : Int) (w : World) :
  Calls Try.prog 97 #[.int .i64 k] w fun e w' => e = .returned (.string ⟨(signL k).toArray⟩) ∧ w' = w := by
 rcases kinds k with rfl | rfl | rfl | rfl | rfl | ⟨e1, e2, e3, e4, e5, e6, -⟩
 ·rw [show signL 1 = [86] from rfl]
  go_enter Try.func97, Try.ntmps97
  go_wp2
  go_ret
  exact ⟨rfl, rfl⟩
 ·rw [show signL 2 = [73] from rfl]
  go_enter Try.func97, Try.ntmps97
  go_wp2
  go_ret
  exact ⟨rfl, rfl⟩
 ·rw [show signL 3 = [76] from rfl]
  go_enter Try.func97, Try.ntmps97
  go_wp2
  go_ret
  exact ⟨rfl, rfl⟩
 ·rw [show signL 4 = [91, 73] from rfl]
  go_enter Try.func97, Try.ntmps97
  go_wp2
  go_ret
  exact ⟨rfl, rfl⟩
 ·rw [show signL 5 = [91, 76] from rfl]
  go_enter Try.func97, Try.ntmps97
  go_wp2
  go_ret
  exact ⟨rfl, rfl⟩
 ·rw [e6]
  clear e6
  go_enter Try.func97, Try.ntmps97
  go_wp2
  go_ret
  exact ⟨rfl, rfl⟩
end Go.Proofs.Ytdifmgeicnndfaa.kind

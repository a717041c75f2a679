/- Kind -/
import Derived.WalkKit
import Derived.Maps.AppendAt
import Derived.Deep.Draws
import Derived.Deep.RegionHeld
import Derived.Test.YtgociheckcpjkaaGreatDoorRows
import Derived.ProofKit
import Derived.OpenShut
import Derived.SizedLaws
import Derived.Below
import Derived.Lib.Split
import Derived.Lib.Join
import Derived.Test.YtgociheckcpjkaaGreatDoorProg
import Derived.Lib.Hide
import Derived.Deep.RegionHeld3
import Derived.Laws.BitsAllLaws
import Derived.Deep.QuietTactic
import Derived.BigQuiet
import Derived.WalkSpells
import Derived.Lib.AppendZerosOnto
import Derived.Handy
import Derived.ChangeKeysEq
import Derived.Lib.BufferWrite
import Derived.IntWalk
import Derived.Defers
import Derived.Recover
import Derived.Lib.AppendStr
namespace Go.Proofs.YtgociheckcpjkaaGreatDoor.words
open Go.RowKit
theorem add_block (a : Addr) (j : Nat) : (a.add j).block = a.block := by
 unfold Addr.add; split <;> rfl
theorem add_add (a : Addr) (i j : Nat) : (a.add i).add j = a.add (i + j) := by
 unfold Addr.add
 rcases Nat.eq_zero_or_pos i with rfl | hi
 ·simp
 ·rcases Nat.eq_zero_or_pos j with rfl | hj
  ·simp
  ·rw [if_neg (by omega), if_neg (by omega), if_neg (by omega)]
   simp only [Nat.add_assoc]
def Rd (w : World) (A : Option Addr) (xs : List Value) : Prop :=
 xs = [] ∨ ∃ a, A = some a ∧ a.block < w.heap.size ∧ ∀ j u, xs[j]? = some u → w.cell? (a.add j) = some u
theorem Rd.nil (w : World) (A : Option Addr) : Rd w A [] := .inl rfl
theorem Rd.at_ {w : World} {A : Option Addr} {xs : List Value} (h : Rd w A xs) {j : Nat} {u : Value} (hj : xs[j]? = some u) :
  ∃ a, A = some a ∧ a.block < w.heap.size ∧ w.cell? (a.add j) = some u := by
 rcases h with rfl | ⟨a, rfl, hb, hc⟩
 ·simp at hj
 ·exact ⟨a, rfl, hb, hc j u hj⟩
theorem Rd.keep {w w' : World} {A : Option Addr} {xs : List Value} (h : Rd w A xs) (hs : w.heap.size ≤ w'.heap.size)
  (hk : ∀ p : Addr, p.block < w.heap.size → w'.cell? p = w.cell? p) : Rd w' A xs := by
 rcases h with rfl | ⟨a, rfl, hb, hc⟩
 ·exact .inl rfl
 ·exact .inr ⟨a, rfl, by omega, fun j u hu => (hk _ (by rw [add_block]; exact hb)).trans (hc j u hu)⟩
theorem Rd.below {w w' : World} {A : Option Addr} {xs : List Value} (h : Rd w A xs) (hb : Below w.heap.size w w') : Rd w' A xs :=
 h.keep hb.size fun _ hp => hb.cell hp
section
variable {w w' : World} {base : Nat} {e : TypeId} {size n : Nat} {v : Value} {xs : List Value}
theorem own_rd (h : w.ownsRow base e size v n xs) : ∃ A c, v = .slice A n c ∧ n ≤ c ∧ c ≤ maxLen ∧ Rd w A xs := by
 rcases h.2 with ⟨rfl, rfl⟩ | ⟨g, cap, cur, rfl, _, hg, hnc, hcm, _, _⟩
 ·exact ⟨none, 0, rfl, Nat.le_refl _, Nat.zero_le _, .inl (List.eq_nil_of_length_eq_zero (by simpa using h.1))⟩
 ·refine ⟨_, cap, rfl, hnc, hcm, .inr ⟨_, rfl, ?_, h.cells (g := g) rfl⟩⟩
  rcases Nat.lt_or_ge g w.heap.size with hlt | hge
  ·exact hlt
  ·rw [Array.getElem?_eq_none hge] at hg; cases hg
theorem own_below (h : w.ownsRow base e size v n xs) (hb : Below w.heap.size w w') : w'.ownsRow base e size v n xs := by
 have hlt := h.lt
 refine ⟨h.1, ?_⟩
 rcases h.2 with h0 | ⟨g, cap, cur, rfl, hbg, hg, rest⟩
 ·exact .inl h0
 ·exact .inr ⟨g, cap, cur, rfl, hbg, (hb.block g (hlt g rfl).2).trans hg, rest⟩
theorem own_base {base' : Nat} (h : w.ownsRow base e size v n xs) (hb : base' ≤ base) : w.ownsRow base' e size v n xs := by
 refine ⟨h.1, ?_⟩
 rcases h.2 with h0 | ⟨g, cap, cur, rfl, hbg, rest⟩
 ·exact .inl h0
 ·exact .inr ⟨g, cap, cur, rfl, Nat.le_trans hb hbg, rest⟩
end
theorem add_zero_off (b j : Nat) : (⟨b, 0, none⟩ : Addr).add j = ⟨b, j, none⟩ := by
 unfold Addr.add
 rcases Nat.eq_zero_or_pos j with rfl | hj
 ·simp
 ·rw [if_neg (by omega)]; simp
theorem blk_lt {w : World} {b : Nat} {o : Obj} (h : w.heap[b]? = some o) : b < w.heap.size := by
 rcases Nat.lt_or_ge b w.heap.size with h1 | h1
 ·exact h1
 ·rw [Array.getElem?_eq_none h1] at h; cases h
theorem rd_blk {w : World} {b t k : Nat} {cs : Array Value} {xs : List Value} (h : w.heap[b]? = some (.cells cs t (0, 0))) (hx : cs.toList.take k = xs) : Rd w (some ⟨b, 0, none⟩) xs := by
 refine .inr ⟨_, rfl, blk_lt h, fun j u hu => ?_⟩
 rw [add_zero_off, cell_of_row w b j cs t (0, 0) h]
 rw [← hx, List.getElem?_take] at hu
 split at hu
 ·simpa using hu
 ·cases hu
section
variable {P : Program} (w : World)
theorem run_app (base : Nat) (t ty e : TypeId) (i : TypeInfo) (z : Value) (size bytes : Nat) (ht : P.underlying t = some (.slice e)) (hi : P.info? e = some i) (hz : i.zero = some z)
  (hsize : i.size = size) (hby : i.bytes = bytes) (hzs : z.cells.size = size) (hsz : 0 < size)
  (v : Value) (n : Nat) (xs : List Value) (hown : w.ownsRow base e size v n xs)
  (A : Option Addr) (m c : Nat) (news : List Value) (hl : news.length = m * size) (hr : Rd w A news) (h1 : ∀ u ∈ news, u.oneCell' = true)
  (h63 : n + m ≤ maxLen) (hbytes : (n + m) * bytes ≤ 140737488355328) (hbase : base ≤ w.heap.size) :
  ∃ v' w', (Builtin.append_ #[t, t] ty #[v, .slice A m c]).run P w = .ok v' w' ∧ w'.ownsRow base e size v' (n + m) (xs ++ news) ∧ w.grownBy w' v.ownBlock ∧ Below base w w' ∧
   (v'.ownBlock = v.ownBlock ∨ v'.ownBlock = some w.heap.size) := by
 rcases A with _ | a
 ·have hn : news = [] := by
   rcases hr with h | ⟨a, h, _⟩
   ·exact h
   ·cases h
  subst hn
  have hm : m = 0 := by
   rcases Nat.eq_zero_or_pos m with h | h
   ·exact h
   ·have := Nat.mul_pos h hsz
    simp at hl; omega
  subst hm
  refine ⟨v, w, ?_, by simpa using hown, ⟨rfl, rfl, rfl, Nat.le_refl _, fun _ _ _ => rfl⟩, Below.refl _ _, .inl rfl⟩
  rcases hown.2 with ⟨rfl, rfl⟩ | ⟨g, cap, cur, rfl, _, _, hnc, _⟩
  ·simp [Builtin.append_, run_underlying ht, sizeOf, typeInfo, hi, Builtin.lenOf, Builtin.firstCells]
  ·simp [Builtin.append_, run_underlying ht, sizeOf, typeInfo, hi, Builtin.lenOf, Builtin.firstCells, hnc, storeCells]
 ·have hcells : ∀ j u, news[j]? = some u → w.cell? (a.add j) = some u := by
   intro j u hu
   obtain ⟨a', h, _, hc⟩ := hr.at_ hu
   cases h
   exact hc
  obtain ⟨v', w', hrun, h2, h3, _, h5⟩ := run_append_own_at (P := P) w base t ty e i z size bytes ht hi hz hsize hby hzs hsz v n xs hown a m c news hl hcells h1 h63 hbytes hbase
  exact ⟨v', w', hrun, h2, h3, (Below.refl _ _).grown h3 hbase (fun k hk => (hown.lt k hk).1), h5⟩
theorem wp_app {o : Oper} {a : Act} {K : Act → World → Prop} {Q : Exit → Act → World → Prop} (s x : Operand) (t : TypeId)
  (ho : o.op = .call { callee := .builtin .append, args := #[s, x], argTypes := #[t, t] })
  (base : Nat) (e : TypeId) (i : TypeInfo) (z : Value) (size bytes : Nat) (ht : P.underlying t = some (.slice e)) (hi : P.info? e = some i) (hz : i.zero = some z)
  (hsize : i.size = size) (hby : i.bytes = bytes) (hzs : z.cells.size = size) (hsz : 0 < size)
  (v : Value) (n : Nat) (xs : List Value) (hs : a.eval s = v) (hown : w.ownsRow base e size v n xs)
  (A : Option Addr) (m c : Nat) (news : List Value) (hx : a.eval x = .slice A m c) (hl : news.length = m * size) (hr : Rd w A news) (h1 : ∀ u ∈ news, u.oneCell' = true)
  (h63 : n + m ≤ maxLen) (hbytes : (n + m) * bytes ≤ 140737488355328) (hbase : base ≤ w.heap.size)
  (h : ∀ v' w', w'.ownsRow base e size v' (n + m) (xs ++ news) → w.grownBy w' v.ownBlock → Below base w w' → (v'.ownBlock = v.ownBlock ∨ v'.ownBlock = some w.heap.size) → K (a.put o.dst v') w') : o.wp P a w K Q := by
 obtain ⟨v', w', hrun, h2, h3, h4, h5⟩ := run_app (P := P) w base t o.type e i z size bytes ht hi hz hsize hby hzs hsz v n xs hown A m c news hl hr h1 h63 hbytes hbase
 unfold Oper.wp execOp
 simp only [ho, resolve, invoke, builtin, Sem.run_bind, Sem.run_pure, Result.andThen_ok, List.map_toArray, List.map_cons, List.map_nil, hs, hx, hrun]
 exact h v' w' h2 h3 h4 h5
theorem wpList_app {ops : Array Oper} {rest : List Oper} {o : Oper} {a : Act} {Q : Exit → Act → World → Prop} (hgd : o.guard = none) (s x : Operand) (t : TypeId)
  (ho : o.op = .call { callee := .builtin .append, args := #[s, x], argTypes := #[t, t] })
  (base : Nat) (e : TypeId) (i : TypeInfo) (z : Value) (size bytes : Nat) (ht : P.underlying t = some (.slice e)) (hi : P.info? e = some i) (hz : i.zero = some z)
  (hsize : i.size = size) (hby : i.bytes = bytes) (hzs : z.cells.size = size) (hsz : 0 < size)
  (v : Value) (n : Nat) (xs : List Value) (hs : a.eval s = v) (hown : w.ownsRow base e size v n xs)
  (A : Option Addr) (m c : Nat) (news : List Value) (hx : a.eval x = .slice A m c) (hl : news.length = m * size) (hr : Rd w A news) (h1 : ∀ u ∈ news, u.oneCell' = true)
  (h63 : n + m ≤ maxLen) (hbytes : (n + m) * bytes ≤ 140737488355328) (hbase : base ≤ w.heap.size)
  (h : ∀ v' w', w'.ownsRow base e size v' (n + m) (xs ++ news) → w.grownBy w' v.ownBlock → Below base w w' → (v'.ownBlock = v.ownBlock ∨ v'.ownBlock = some w.heap.size) → wpList P ops Q rest (a.put o.dst v') w') : wpList P ops Q (o :: rest) a w :=
 wpList_plain hgd fun _ hK => wp_app w s x t ho base e i z size bytes ht hi hz hsize hby hzs hsz v n xs hs hown A m c news hx hl hr h1 h63 hbytes hbase fun v' w' h2 h3 h4 h5 => hK _ _ (h v' w' h2 h3 h4 h5)
end
theorem under {b q : Nat} {a c : World} (h : Below b (a.drewN q) c) : Below b a c := ⟨h.os, h.tape, h.output, h.size, h.block⟩
theorem over {b q : Nat} {a c : World} (h : Below b a c) : Below b a (c.drewN q) := ⟨h.os, h.tape, h.output, h.size, h.block⟩
theorem then_ {b : Nat} {a c d : World} (h : Below b a c) (hb : b ≤ a.heap.size) (k : Below c.heap.size c d) : Below b a d := h.trans (k.mono (Nat.le_trans hb h.size))
theorem then' {a c d : World} (h : Below a.heap.size a c) (k : Below c.heap.size c d) : Below a.heap.size a d := then_ h (Nat.le_refl _) k
section
variable {P : Program} {md : Region.Mode} {ops : Array Oper} {Q : Exit → Act → World → Prop} {S : World → Prop} {oi : Oper} {fuel : Nat} {listed : Array Bool} {a : Act} {w : World}
theorem tkv (i : Nat) {v : Value} (hi : ops[i]? = some oi) (h : wpAnyH P md ops Q S fuel (listed.setIfInBounds i true) (a.put oi.dst v) w)
  (hd : (Region.noSelect ops && (Region.free md ops listed i && ((Region.ready md ops listed).contains i && Region.wanted oi (yielded ops a.tmps)))) = true := by kernel_rfl)
  (hy : ∀ w, S w → (execOp a.eval oi).run P w = .ok (.value v) w := by (intro w hSw; (try dsimp only at hSw); go_simp; (try with_reducible rfl)))
  (hQ : ∀ c a w, Q (.panic c) (a.put oi.dst v) w → Q (.panic c) a w := by exact fun _ _ _ h => h) (hS : S w := by assumption) : wpAnyH P md ops Q S (fuel + 1) listed a w := by
 simp only [Bool.and_eq_true] at hd
 exact wpAnyH_take hi hd.1 hd.2.1 hd.2.2.1 hQ (Or.inl ⟨hd.2.2.2, hy⟩) hS h
theorem tku (i : Nat) (hi : ops[i]? = some oi) (h : wpAnyH P md ops Q S fuel (listed.setIfInBounds i true) (a.put oi.dst undef) w)
  (hd : (Region.noSelect ops && (Region.free md ops listed i && ((Region.ready md ops listed).contains i && !Region.wanted oi (yielded ops a.tmps)))) = true := by kernel_rfl)
  (hQ : ∀ c a w, Q (.panic c) (a.put oi.dst undef) w → Q (.panic c) a w := by exact fun _ _ _ h => h) (hS : S w := by assumption) : wpAnyH P md ops Q S (fuel + 1) listed a w := by
 simp only [Bool.and_eq_true, Bool.not_eq_true'] at hd
 exact wpAnyH_take hi hd.1 hd.2.1 hd.2.2.1 hQ (Or.inr ⟨hd.2.2.2, rfl⟩) hS h
end
theorem bls : (∀ b, (true && b) = b) ∧ (∀ b, (false && b) = false) ∧ (∀ b, (b && true) = b) ∧ (∀ b, (b && false) = false) ∧ (∀ b, (true || b) = true) ∧ (∀ b, (false || b) = b) ∧ (∀ b, (b || true) = true) ∧ (∀ b, (b || false) = b) ∧ ((!true) = false) ∧ ((!false) = true) := by
 refine ⟨?_, ?_, ?_, ?_, ?_, ?_, ?_, ?_, rfl, rfl⟩ <;> intro b <;> cases b <;> rfl
theorem puts : (∀ (a : Act) (v : Value), a.put none v = a) ∧ (∀ (ts : Array Value) (ds : List Deferred) (t : Tmp) (v : Value), Act.put ⟨ts, ds⟩ (some t) v = ⟨ts.setIfInBounds t v, ds⟩) ∧ (∀ {α : Type} (l : List α) (i : Nat) (v : α), l.toArray.setIfInBounds i v = (l.set i v).toArray) ∧ (∀ {α : Type} (x : α) (l : List α) (v : α), (x :: l).set 0 v = v :: l) ∧
  (∀ {α : Type} (x : α) (l : List α) (i : Nat) (v : α), (x :: l).set (i + 1) v = x :: l.set i v) ∧ (∀ {α : Type} (l : List α) (i : Nat) (h : i < l.toArray.size), l.toArray[i] = l[i]'(by simpa using h)) ∧ (∀ {α : Type} (x : α) (l : List α) (h : 0 < (x :: l).length), (x :: l)[0] = x) ∧ (∀ {α : Type} (x : α) (l : List α) (i : Nat) (h : i + 1 < (x :: l).length), (x :: l)[i + 1] = l[i]'(by simpa using h)) :=
 ⟨fun _ _ => rfl, fun _ _ _ _ => rfl, fun _ _ _ => List.setIfInBounds_toArray .., fun _ _ _ => rfl, fun _ _ _ _ => rfl, fun _ _ _ => rfl, fun _ _ _ => rfl, fun _ _ _ _ => rfl⟩
section
variable {P : Program} {md : Region.Mode} {ops : Array Oper} {Q : Exit → Act → World → Prop} {S : World → Prop} {oi : Oper} {fuel : Nat} {listed : Array Bool} {a : Act} {w : World}
theorem hh {p : Prop} (h : p) : Hid p := h
theorem tkp (i : Nat) {v : Value} {a' : Act} (hi : ops[i]? = some oi) (h : wpAnyH P md ops Q S fuel (listed.setIfInBounds i true) a' w)
  (hd : (Region.noSelect ops && (Region.free md ops listed i && ((Region.ready md ops listed).contains i && Region.wanted oi (yielded ops a.tmps)))) = true := by kernel_rfl)
  (hy : ∀ w, S w → (execOp a.eval oi).run P w = .ok (.value v) w := by (intro w hSw; (try dsimp only at hSw); go_simp; (try with_reducible rfl)))
  (ha : a.put oi.dst v = a' := by (first | (simp only [puts]; done) | (simp only [puts]; rfl) | rfl))
  (hQ : ∀ c a w, Q (.panic c) (a.put oi.dst v) w → Q (.panic c) a w := by exact fun _ _ _ h => h) (hS : S w := by assumption) : wpAnyH P md ops Q S (fuel + 1) listed a w := by
 subst ha
 exact tkv i hi h hd hy hQ hS
theorem tup (i : Nat) {a' : Act} (hi : ops[i]? = some oi) (h : wpAnyH P md ops Q S fuel (listed.setIfInBounds i true) a' w)
  (hd : (Region.noSelect ops && (Region.free md ops listed i && ((Region.ready md ops listed).contains i && !Region.wanted oi (yielded ops a.tmps)))) = true := by kernel_rfl)
  (ha : a.put oi.dst undef = a' := by (first | (simp only [puts]; done) | (simp only [puts]; rfl) | rfl))
  (hQ : ∀ c a w, Q (.panic c) (a.put oi.dst undef) w → Q (.panic c) a w := by exact fun _ _ _ h => h) (hS : S w := by assumption) : wpAnyH P md ops Q S (fuel + 1) listed a w := by
 subst ha
 exact tku i hi h hd hQ hS
theorem rdy (i : Nat) (hi : ops[i]? = some oi) (h : ∀ K : Act → World → Prop, Shut (∀ v u, S u → (S u → wpAnyH P md ops Q S fuel (listed.setIfInBounds i true) v u) → K v u) → if Region.wanted oi (yielded ops a.tmps) = true then Oper.wp P oi a w K Q else K (a.put oi.dst undef) w)
  (hr : Region.ready md ops listed = [i] := by kernel_rfl) : wpAnyH P md ops Q S (fuel + 1) listed a w :=
 wpAnyH_ready hr (by simp) (AllReadyH.cons hi h AllReadyH.nil)
variable {b : Nat} {t : TypeId} {fz : Nat × Nat} {u0 u1 u2 u3 u4 u5 u6 u7 u8 : Value}
theorem c5q (h : w.heap[b]? = some (.cells #[u0, u1, u2, u3, u4] t fz)) : w.cell? ⟨b, 0, none⟩ = some u0 ∧ w.cell? ⟨b, 1, none⟩ = some u1 ∧ w.cell? ⟨b, 2, none⟩ = some u2 ∧ w.cell? ⟨b, 3, none⟩ = some u3 ∧ w.cell? ⟨b, 4, none⟩ = some u4 :=
 ⟨cell_of_row _ _ 0 _ _ _ h, cell_of_row _ _ 1 _ _ _ h, cell_of_row _ _ 2 _ _ _ h, cell_of_row _ _ 3 _ _ _ h, cell_of_row _ _ 4 _ _ _ h⟩
theorem c6q (h : w.heap[b]? = some (.cells #[u0, u1, u2, u3, u4, u5] t fz)) : w.cell? ⟨b, 0, none⟩ = some u0 ∧ w.cell? ⟨b, 1, none⟩ = some u1 ∧ w.cell? ⟨b, 2, none⟩ = some u2 ∧ w.cell? ⟨b, 3, none⟩ = some u3 ∧ w.cell? ⟨b, 4, none⟩ = some u4 ∧ w.cell? ⟨b, 5, none⟩ = some u5 :=
 ⟨cell_of_row _ _ 0 _ _ _ h, cell_of_row _ _ 1 _ _ _ h, cell_of_row _ _ 2 _ _ _ h, cell_of_row _ _ 3 _ _ _ h, cell_of_row _ _ 4 _ _ _ h, cell_of_row _ _ 5 _ _ _ h⟩
theorem c7q (h : w.heap[b]? = some (.cells #[u0, u1, u2, u3, u4, u5, u6] t fz)) : w.cell? ⟨b, 0, none⟩ = some u0 ∧ w.cell? ⟨b, 1, none⟩ = some u1 ∧ w.cell? ⟨b, 2, none⟩ = some u2 ∧ w.cell? ⟨b, 3, none⟩ = some u3 ∧ w.cell? ⟨b, 4, none⟩ = some u4 ∧ w.cell? ⟨b, 5, none⟩ = some u5 ∧ w.cell? ⟨b, 6, none⟩ = some u6 :=
 ⟨cell_of_row _ _ 0 _ _ _ h, cell_of_row _ _ 1 _ _ _ h, cell_of_row _ _ 2 _ _ _ h, cell_of_row _ _ 3 _ _ _ h, cell_of_row _ _ 4 _ _ _ h, cell_of_row _ _ 5 _ _ _ h, cell_of_row _ _ 6 _ _ _ h⟩
theorem c9q (h : w.heap[b]? = some (.cells #[u0, u1, u2, u3, u4, u5, u6, u7, u8] t fz)) : w.cell? ⟨b, 0, none⟩ = some u0 ∧ w.cell? ⟨b, 1, none⟩ = some u1 ∧ w.cell? ⟨b, 2, none⟩ = some u2 ∧ w.cell? ⟨b, 3, none⟩ = some u3 ∧ w.cell? ⟨b, 4, none⟩ = some u4 ∧ w.cell? ⟨b, 5, none⟩ = some u5 ∧ w.cell? ⟨b, 6, none⟩ = some u6 ∧ w.cell? ⟨b, 7, none⟩ = some u7 ∧ w.cell? ⟨b, 8, none⟩ = some u8 :=
 ⟨cell_of_row _ _ 0 _ _ _ h, cell_of_row _ _ 1 _ _ _ h, cell_of_row _ _ 2 _ _ _ h, cell_of_row _ _ 3 _ _ _ h, cell_of_row _ _ 4 _ _ _ h, cell_of_row _ _ 5 _ _ _ h, cell_of_row _ _ 6 _ _ _ h, cell_of_row _ _ 7 _ _ _ h, cell_of_row _ _ 8 _ _ _ h⟩
end
end Go.Proofs.YtgociheckcpjkaaGreatDoor.words
namespace Go.Proofs.YtgociheckcpjkaaGreatDoor.frame
open Go.ChangeShapes Go.WideShapes Go.ChangeAt Go.RowKit
open words
set_option maxRecDepth 100000
theorem laidOut : laidOutB Tryz.prog = true := by kernel_rfl
theorem own : ownKnob Tryz.prog.godebug = none := by kernel_rfl
theorem cell_lt {w : World} {p : Addr} {v : Value} (h : w.cell? p = some v) : p.block < w.heap.size := by
 rcases Nat.lt_or_ge p.block w.heap.size with h1 | h1
 ·exact h1
 ·simp [World.cell?, Array.getElem?_eq_none h1] at h
end Go.Proofs.YtgociheckcpjkaaGreatDoor.frame
namespace Go.Proofs.YtgociheckcpjkaaGreatDoor.piece
open Go.Lib
theorem idx_miss {c : UInt8} : ∀ {a : List UInt8}, c ∉ a → index a [c] = -1
 | [], _ => rfl
 | x :: l, h => by
  have h1 : c ≠ x := fun e => h (by rw [e]; exact List.mem_cons_self)
  have h2 : c ∉ l := fun e => h (List.mem_cons_of_mem _ e)
  have hp : ([c] : List UInt8).isPrefixOf (x :: l) = false := by simp [List.isPrefixOf, h1]
  unfold index
  rw [hp, idx_miss h2]; rfl
theorem idx_hit {c : UInt8} {b : List UInt8} : ∀ {a : List UInt8}, c ∉ a → index (a ++ c :: b) [c] = (a.length : Int)
 | [], _ => by
  have hp : ([c] : List UInt8).isPrefixOf (c :: b) = true := by simp [List.isPrefixOf]
  show index (c :: b) [c] = _
  unfold index
  rw [if_pos hp]; rfl
 | x :: l, h => by
  have h1 : c ≠ x := fun e => h (by rw [e]; exact List.mem_cons_self)
  have h2 : c ∉ l := fun e => h (List.mem_cons_of_mem _ e)
  have hp : ([c] : List UInt8).isPrefixOf (x :: (l ++ c :: b)) = false := by simp [List.isPrefixOf, h1]
  show index (x :: (l ++ c :: b)) [c] = _
  unfold index
  rw [hp, idx_hit h2]
  have : ((l.length : Int) == -1) = false := by rw [beq_eq_false_iff_ne]; omega
  simp [this]
theorem cut_miss {c : UInt8} {a : List UInt8} (h : c ∉ a) : cut a [c] = (a, [], false) := by
 unfold cut; rw [idx_miss h, if_neg (by decide)]
theorem cut_hit {c : UInt8} {a b : List UInt8} (h : c ∉ a) : cut (a ++ c :: b) [c] = (a, b, true) := by
 unfold cut
 rw [idx_hit h, if_pos (by omega)]
 have e1 : ((a.length : Int)).toNat = a.length := by omega
 rw [e1]
 simp [List.drop_append]
theorem parts (c : UInt8) : ∀ l : List UInt8, c ∉ l ∨ ∃ a b, l = a ++ c :: b ∧ c ∉ a
 | [] => .inl (by simp)
 | x :: l => by
  by_cases h : c = x
  ·exact .inr ⟨[], l, by rw [h]; rfl, by simp⟩
  ·rcases parts c l with h1 | ⟨a, b, e, h1⟩
   ·exact .inl (by simp [h, h1])
   ·exact .inr ⟨x :: a, b, by rw [e]; rfl, by simp [h, h1]⟩
section
variable {l : List UInt8} {i f : Nat} {c x : UInt8}
end
theorem ext_data (s : ByteArray) (f i : Nat) : (s.extract f i).data.toList = (s.data.toList.drop f).take (i - f) := by
 rw [ByteArray.data_extract, Array.toList_extract]
end Go.Proofs.YtgociheckcpjkaaGreatDoor.piece
namespace Go.Proofs.YtgociheckcpjkaaGreatDoor.kindp
open piece
abbrev Tx := List UInt8
abbrev Ty := Int × Tx
def okC (c : Nat) : Bool := c == 47 || decide ((65 ≤ c ∧ c ≤ 90) ∨ (97 ≤ c ∧ c ≤ 122) ∨ (48 ≤ c ∧ c ≤ 57) ∨ c = 95 ∨ c = 36)
def clsB (c : Tx) : Bool := decide (1 ≤ c.length ∧ c.length ≤ 32) && (c.map (·.toNat)).all okC
theorem cls_no {c : Tx} (h : clsB c = true) : (59 : UInt8) ∉ c ∧ 1 ≤ c.length ∧ c.length ≤ 32 := by
 unfold clsB at h
 rw [Bool.and_eq_true, decide_eq_true_eq, List.all_eq_true] at h
 refine ⟨fun h59 => ?_, h.1⟩
 have := h.2 59 (List.mem_map.2 ⟨59, h59, rfl⟩)
 revert this; decide
def hasB (k : Int) : Bool := decide (k = 3 ∨ k = 5)
def signL (k : Int) : Tx := if k = 1 then [86] else if k = 2 then [73] else if k = 3 then [76] else if k = 4 then [91, 73] else if k = 5 then [91, 76] else []
def rightT (t : Ty) : Bool := if hasB t.1 = true then clsB t.2 else decide ((t.1 = 1 ∨ t.1 = 2 ∨ t.1 = 4) ∧ t.2 = [])
def textT (t : Ty) : Tx := if rightT t = true then (if hasB t.1 = true then signL t.1 ++ t.2 ++ [59] else signL t.1) else []
def classT (k : Int) (s : Tx) : Option (Ty × Tx) := if ((Lib.cut s [59]).2.2 && clsB (Lib.cut s [59]).1) = true then some ((k, (Lib.cut s [59]).1), (Lib.cut s [59]).2.1) else none
def typeT : Tx → Option (Ty × Tx)
 | [] => none
 | c :: r =>
  if c = 86 then some ((1, []), r) else if c = 73 then some ((2, []), r) else if c = 76 then classT 3 r
  else if c = 91 then (match r with
   | [] => none
   | d :: q => if d = 73 then some ((4, []), q) else if d = 76 then classT 5 q else none)
  else none
def allT (s : Tx) : Option Ty := match typeT s with | some (t, []) => some t | _ => none
def sigT : Nat → List Ty → Tx → Option (List Ty × Ty)
 | 0, _, _ => none
 | n + 1, acc, s =>
  if s.head? = some 41 then (match allT s.tail with | some t => some (acc, t) | none => none)
  else match typeT s with
   | some (t, r) => if t = (1, []) then none else sigT n (acc ++ [t]) r
   | none => none
def sigD (d : Tx) : Option (List Ty × Ty) := if d.head? = some 40 then sigT (d.length + 1) [] d.tail else none
def splitT (d : Tx) : List Ty × Ty × Nat :=
 if 64 < d.length then ([], (0, []), 3)
 else match sigD d with
  | some (p, t) => if 8 < p.length then ([], (0, []), 3) else (p, t, 0)
  | none => ([], (0, []), 1)
theorem right_cases {t : Ty} (h : rightT t = true) : t = (1, []) ∨ t = (2, []) ∨ t = (4, []) ∨ (∃ c, t = (3, c) ∧ clsB c = true) ∨ (∃ c, t = (5, c) ∧ clsB c = true) := by
 obtain ⟨k, c⟩ := t
 unfold rightT hasB at h
 dsimp only at h ⊢
 by_cases hk : k = 3 ∨ k = 5
 ·rw [if_pos (decide_eq_true hk)] at h
  rcases hk with rfl | rfl
  ·exact .inr (.inr (.inr (.inl ⟨c, rfl, h⟩)))
  ·exact .inr (.inr (.inr (.inr ⟨c, rfl, h⟩)))
 ·rw [if_neg (by simpa using hk)] at h
  obtain ⟨h1, rfl⟩ := of_decide_eq_true h
  rcases h1 with rfl | rfl | rfl <;> simp
theorem right3 {c : Tx} (h : clsB c = true) : rightT (3, c) = true := by unfold rightT hasB; simpa using h
theorem right5 {c : Tx} (h : clsB c = true) : rightT (5, c) = true := by unfold rightT hasB; simpa using h
theorem text3 {c : Tx} (h : clsB c = true) : textT (3, c) = 76 :: (c ++ [59]) := by
 unfold textT; rw [if_pos (right3 h)]; simp [hasB, signL]
theorem text5 {c : Tx} (h : clsB c = true) : textT (5, c) = 91 :: 76 :: (c ++ [59]) := by
 unfold textT; rw [if_pos (right5 h)]; simp [hasB, signL]
theorem text1 : textT (1, []) = [86] := rfl
theorem text2 : textT (2, []) = [73] := rfl
theorem text4 : textT (4, []) = [91, 73] := rfl
theorem class_of {k : Int} {s r : Tx} {t : Ty} (h : classT k s = some (t, r)) : clsB t.2 = true ∧ t.1 = k ∧ s = t.2 ++ 59 :: r := by
 unfold classT at h
 rcases parts 59 s with hn | ⟨a, b, rfl, ha⟩
 ·rw [cut_miss hn] at h; simp at h
 ·rw [cut_hit ha] at h
  dsimp only at h
  by_cases hc : clsB a = true
  ·rw [if_pos (by simpa using hc)] at h
   cases h; exact ⟨hc, rfl, rfl⟩
  ·rw [if_neg (by simpa using hc)] at h; cases h
theorem type_of {s r : Tx} {t : Ty} (h : typeT s = some (t, r)) : rightT t = true ∧ s = textT t ++ r := by
 cases s with
 | nil => cases h
 | cons c l =>
  dsimp only [typeT] at h
  by_cases h1 : c = 86
  ·rw [if_pos h1] at h; cases h; exact ⟨rfl, by rw [h1]; rfl⟩
  rw [if_neg h1] at h
  by_cases h2 : c = 73
  ·rw [if_pos h2] at h; cases h; exact ⟨rfl, by rw [h2]; rfl⟩
  rw [if_neg h2] at h
  by_cases h3 : c = 76
  ·rw [if_pos h3] at h
   obtain ⟨a, b, e⟩ := class_of h
   obtain ⟨k, d⟩ := t
   dsimp only at a b e
   subst b
   exact ⟨right3 a, by rw [text3 a, h3, e]; simp⟩
  rw [if_neg h3] at h
  by_cases h4 : c = 91
  ·rw [if_pos h4] at h
   cases l with
   | nil => cases h
   | cons d q =>
    dsimp only at h
    by_cases h5 : d = 73
    ·rw [if_pos h5] at h; cases h; exact ⟨rfl, by rw [h4, h5]; rfl⟩
    rw [if_neg h5] at h
    by_cases h6 : d = 76
    ·rw [if_pos h6] at h
     obtain ⟨a, b, e⟩ := class_of h
     obtain ⟨k, d⟩ := t
     dsimp only at a b e
     subst b
     exact ⟨right5 a, by rw [text5 a, h4, h6, e]; simp⟩
    rw [if_neg h6] at h; cases h
  rw [if_neg h4] at h; cases h
theorem text_ne {t : Ty} (h : rightT t = true) : ∃ c r, textT t = c :: r ∧ c ≠ 41 := by
 rcases right_cases h with rfl | rfl | rfl | ⟨c, rfl, h2⟩ | ⟨c, rfl, h2⟩
 ·exact ⟨_, _, text1, by decide⟩
 ·exact ⟨_, _, text2, by decide⟩
 ·exact ⟨_, _, text4, by decide⟩
 ·exact ⟨_, _, text3 h2, by decide⟩
 ·exact ⟨_, _, text5 h2, by decide⟩
theorem type_less {s r : Tx} {t : Ty} (h : typeT s = some (t, r)) : r.length < s.length := by
 obtain ⟨a, e⟩ := type_of h
 obtain ⟨c, q, e2, _⟩ := text_ne a
 rw [e, e2]; simp; omega
theorem sig_fuel : ∀ (n m : Nat) (acc : List Ty) (s : Tx), s.length < n → s.length < m → sigT n acc s = sigT m acc s
 | 0, _, _, _, h, _ => absurd h (by omega)
 | _ + 1, 0, _, _, _, h => absurd h (by omega)
 | n + 1, m + 1, acc, s, h1, h2 => by
  unfold sigT
  split
  ·rfl
  ·cases hp : typeT s with
   | none => rfl
   | some q =>
    obtain ⟨t, r⟩ := q
    dsimp only
    split
    ·rfl
    ·have := type_less hp
     exact sig_fuel n m _ r (by omega) (by omega)
theorem sig_done {acc : List Ty} {r : Tx} : sigT ((41 :: r).length + 1) acc (41 :: r) = (match allT r with | some t => some (acc, t) | none => none) := by
 rw [sigT]; rfl
theorem sig_none {acc : List Ty} {s : Tx} (h : s.head? ≠ some 41) (hp : typeT s = none) : sigT (s.length + 1) acc s = none := by
 rw [sigT, if_neg h, hp]
theorem sig_void {acc : List Ty} {s r : Tx} (h : s.head? ≠ some 41) (hp : typeT s = some ((1, []), r)) : sigT (s.length + 1) acc s = none := by
 rw [sigT, if_neg h, hp]; rfl
theorem sig_next {acc : List Ty} {s r : Tx} {t : Ty} (h : s.head? ≠ some 41) (hp : typeT s = some (t, r)) (ht : t ≠ (1, [])) : sigT (s.length + 1) acc s = sigT (r.length + 1) (acc ++ [t]) r := by
 rw [sigT, if_neg h, hp]
 dsimp only
 rw [if_neg ht]
 have := type_less hp
 exact sig_fuel _ _ _ _ (by omega) (by omega)
theorem split_len (d : Tx) : (splitT d).1.length ≤ 8 := by
 unfold splitT
 split
 ·simp
 ·cases sigD d with
  | none => simp
  | some q =>
   dsimp only
   split
   ·simp
   ·dsimp only; omega
end Go.Proofs.YtgociheckcpjkaaGreatDoor.kindp
namespace Go.Proofs.YtgociheckcpjkaaGreatDoor.opp
open kindp
structure In where
 o : Int
 a : Int
 b : Int
 c : Int
 k : Int
 cl : Tx
 nm : Tx
 ds : Tx
 ar : List Int
deriving DecidableEq
def shapes : List Tx := [[], [], [97, 107], [97], [97, 98], [97, 98, 99, 114], [116], [98, 116], [98, 116], [97, 67], [97, 98], [97, 98, 67], [97, 98], [97, 98, 99], [97, 98, 99], [97, 98, 70], [98, 99, 70], [97, 70], [99, 70], [97, 77, 118], [97, 77, 118], [97, 77, 118], [98], [], [97, 98, 67], [97, 98, 67], [97], [98], [97, 98], [97, 98], [107], [98], [67]]
def known (o : Int) : Bool := decide (0 < o ∧ o ≤ 32)
def shapeL (o : Int) : Tx := if known o = true then shapes.getD o.toNat [] else []
def isCall (o : Int) : Bool := decide (o = 19 ∨ o = 20 ∨ o = 21)
def hasL (s : Tx) (c : UInt8) : Bool := s.contains c
def bareL (i : In) (s : Tx) : In where
 o := i.o
 a := if hasL s 97 then 0 else i.a
 b := if hasL s 98 then 0 else i.b
 c := if hasL s 99 then 0 else i.c
 k := if hasL s 107 || hasL s 116 || hasL s 114 then 0 else i.k
 cl := if hasL s 67 || hasL s 70 || hasL s 77 then [] else i.cl
 nm := if hasL s 70 || hasL s 77 then [] else i.nm
 ds := if hasL s 77 then [] else i.ds
 ar := if hasL s 118 then [] else i.ar
def bareS (i : In) (c : UInt8) : In :=
 if c = 97 then { i with a := 0 } else if c = 98 then { i with b := 0 } else if c = 99 then { i with c := 0 }
 else if c = 107 ∨ c = 116 ∨ c = 114 then { i with k := 0 } else if c = 67 then { i with cl := [] } else if c = 70 then { i with cl := [], nm := [] }
 else if c = 77 then { i with cl := [], nm := [], ds := [] } else if c = 118 then { i with ar := [] } else i
def emptyI (o : Int) : In := ⟨o, 0, 0, 0, 0, [], [], [], []⟩
theorem shape_cases {P : Int → Tx → Prop} (h0 : P 0 []) (h1 : P 1 []) (h2 : P 2 [97, 107]) (h3 : P 3 [97]) (h4 : P 4 [97, 98]) (h5 : P 5 [97, 98, 99, 114]) (h6 : P 6 [116]) (h7 : P 7 [98, 116]) (h8 : P 8 [98, 116]) (h9 : P 9 [97, 67]) (h10 : P 10 [97, 98]) (h11 : P 11 [97, 98, 67]) (h12 : P 12 [97, 98]) (h13 : P 13 [97, 98, 99]) (h14 : P 14 [97, 98, 99]) (h15 : P 15 [97, 98, 70]) (h16 : P 16 [98, 99, 70]) (h17 : P 17 [97, 70]) (h18 : P 18 [99, 70]) (h19 : P 19 [97, 77, 118]) (h20 : P 20 [97, 77, 118]) (h21 : P 21 [97, 77, 118]) (h22 : P 22 [98]) (h23 : P 23 []) (h24 : P 24 [97, 98, 67]) (h25 : P 25 [97, 98, 67]) (h26 : P 26 [97]) (h27 : P 27 [98]) (h28 : P 28 [97, 98]) (h29 : P 29 [97, 98]) (h30 : P 30 [107]) (h31 : P 31 [98]) (h32 : P 32 [67]) (hn : ∀ o : Int, known o = false → P o []) (o : Int) : P o (shapeL o) := by
 by_cases hk : known o = true
 ·have h1' := of_decide_eq_true hk
  obtain ⟨n, rfl⟩ : ∃ n : Nat, o = (n : Int) := ⟨o.toNat, by omega⟩
  have hn33 : n < 33 := by omega
  match n, hn33 with
  | 0, _ => exact h0
  | 1, _ => exact h1
  | 2, _ => exact h2
  | 3, _ => exact h3
  | 4, _ => exact h4
  | 5, _ => exact h5
  | 6, _ => exact h6
  | 7, _ => exact h7
  | 8, _ => exact h8
  | 9, _ => exact h9
  | 10, _ => exact h10
  | 11, _ => exact h11
  | 12, _ => exact h12
  | 13, _ => exact h13
  | 14, _ => exact h14
  | 15, _ => exact h15
  | 16, _ => exact h16
  | 17, _ => exact h17
  | 18, _ => exact h18
  | 19, _ => exact h19
  | 20, _ => exact h20
  | 21, _ => exact h21
  | 22, _ => exact h22
  | 23, _ => exact h23
  | 24, _ => exact h24
  | 25, _ => exact h25
  | 26, _ => exact h26
  | 27, _ => exact h27
  | 28, _ => exact h28
  | 29, _ => exact h29
  | 30, _ => exact h30
  | 31, _ => exact h31
  | 32, _ => exact h32
  | n + 33, h => exact absurd h (by omega)
 ·rw [Bool.not_eq_true] at hk
  unfold shapeL
  rw [hk]
  exact hn o hk
theorem fold_bare (i : In) : (shapeL i.o).foldl bareS i = bareL i (shapeL i.o) := by
 obtain ⟨o, a, b, c, k, cl, nm, ds, ar⟩ := i
 refine shape_cases (P := fun o s => s.foldl bareS ⟨o, a, b, c, k, cl, nm, ds, ar⟩ = bareL ⟨o, a, b, c, k, cl, nm, ds, ar⟩ s) ?_ ?_ ?_ ?_ ?_ ?_ ?_ ?_ ?_ ?_ ?_ ?_ ?_ ?_ ?_ ?_ ?_ ?_ ?_ ?_ ?_ ?_ ?_ ?_ ?_ ?_ ?_ ?_ ?_ ?_ ?_ ?_ ?_ ?_ o
 all_goals first | rfl | (intro o _; rfl)
def emptyB (i : In) (s : Tx) : Bool := decide (bareL i s = emptyI i.o)
def lettered (i : In) (c : UInt8) : List Int := if c = 97 then [i.a] else if c = 98 then [i.b] else if c = 99 then [i.c] else if c = 118 then i.ar else []
def regsL (i : In) : List (UInt8 × Int) := (shapeL i.o).flatMap fun c => (lettered i c).map fun r => (c, r)
theorem call_shape (o : Int) : hasL (shapeL o) 77 = isCall o := by
 refine shape_cases (P := fun o s => hasL s 77 = isCall o) ?_ ?_ ?_ ?_ ?_ ?_ ?_ ?_ ?_ ?_ ?_ ?_ ?_ ?_ ?_ ?_ ?_ ?_ ?_ ?_ ?_ ?_ ?_ ?_ ?_ ?_ ?_ ?_ ?_ ?_ ?_ ?_ ?_ ?_ o
 case refine_34 =>
  intro o hk
  unfold known at hk; rw [decide_eq_false_iff_not] at hk
  unfold isCall; rw [decide_eq_false (by omega)]; rfl
 all_goals rfl
theorem shape_letters (o : Int) : (shapeL o).length ≤ 4 ∧ ∀ c ∈ shapeL o, c.toNat < 128 := by
 refine shape_cases (P := fun _ s => s.length ≤ 4 ∧ ∀ c ∈ s, c.toNat < 128) ?_ ?_ ?_ ?_ ?_ ?_ ?_ ?_ ?_ ?_ ?_ ?_ ?_ ?_ ?_ ?_ ?_ ?_ ?_ ?_ ?_ ?_ ?_ ?_ ?_ ?_ ?_ ?_ ?_ ?_ ?_ ?_ ?_ ?_ o
 case refine_34 => intro o _; simp
 all_goals decide
end Go.Proofs.YtgociheckcpjkaaGreatDoor.opp
namespace Go.Proofs.YtgociheckcpjkaaGreatDoor.word
open Go.RowKit
open words
set_option maxRecDepth 100000
def letterB (c : Nat) : Bool := decide ((65 ≤ c ∧ c ≤ 90) ∨ (97 ≤ c ∧ c ≤ 122) ∨ (48 ≤ c ∧ c ≤ 57) ∨ c = 95 ∨ c = 36)
def digitB (c : Nat) : Bool := decide (48 ≤ c ∧ c ≤ 57)
theorem parts (c : Nat) : c < 36 ∨ c = 36 ∨ (36 < c ∧ c < 48) ∨ (48 ≤ c ∧ c ≤ 57) ∨ (57 < c ∧ c < 65) ∨ (65 ≤ c ∧ c ≤ 90) ∨ (90 < c ∧ c < 95) ∨ c = 95 ∨ c = 96 ∨ (97 ≤ c ∧ c ≤ 122) ∨ 122 < c := by omega
theorem digit_w (c : Nat) (w : World) :
  Calls Tryz.prog 125 #[.int .u8 (c : Int)] w fun e w' => e = .returned (.bool (digitB c)) ∧ w' = w := by
 have hp := parts c
 by_cases h : digitB c = true
 ·rw [h]
  simp only [digitB, decide_eq_true_eq] at h
  have a1 : (48 : Int) ≤ (c : Int) := by omega
  have a2 : (c : Int) ≤ 57 := by omega
  clear hp h
  go_enter Tryz.func125, Tryz.ntmps125
  go_wp2
  go_ret
  exact ⟨rfl, rfl⟩
 ·rw [Bool.not_eq_true] at h
  rw [h]
  simp only [digitB, decide_eq_false_iff_not] at h
  by_cases a1 : (48 : Int) ≤ (c : Int)
  ·have a2 : ¬ (c : Int) ≤ 57 := by omega
   clear hp h
   go_enter Tryz.func125, Tryz.ntmps125
   go_wp2
   go_ret
   exact ⟨rfl, rfl⟩
  ·clear hp h
   go_enter Tryz.func125, Tryz.ntmps125
   go_wp2
   go_ret
   exact ⟨rfl, rfl⟩
theorem letter_walk (c : Nat) (b : Bool) (w : World)
  (h : ((65 : Int) ≤ (c : Int) ∧ (c : Int) ≤ 90 ∧ b = true) ∨ ((65 : Int) ≤ (c : Int) ∧ ¬ (c : Int) ≤ 90 ∧ (97 : Int) ≤ (c : Int) ∧ (c : Int) ≤ 122 ∧ b = true)) :
  Calls Tryz.prog 110 #[.int .u8 (c : Int)] w fun e w' => e = .returned (.bool b) ∧ w' = w := by
 rcases h with ⟨a1, a2, rfl⟩ | ⟨a1, a2, a3, a4, rfl⟩
 all_goals
  go_enter Tryz.func110, Tryz.ntmps110
  go_wp2
  go_ret
  exact ⟨rfl, rfl⟩
theorem letter_walk2 (c : Nat) (b d : Bool) (w : World) (hd : digitB c = d)
  (h : (¬ (65 : Int) ≤ (c : Int) ∧ ¬ (97 : Int) ≤ (c : Int)) ∨ ((65 : Int) ≤ (c : Int) ∧ ¬ (c : Int) ≤ 90 ∧ ¬ (97 : Int) ≤ (c : Int)) ∨ ((65 : Int) ≤ (c : Int) ∧ ¬ (c : Int) ≤ 90 ∧ (97 : Int) ≤ (c : Int) ∧ ¬ (c : Int) ≤ 122))
  (h2 : (d = true ∧ b = true) ∨ (d = false ∧ (c : Int) = 95 ∧ b = true) ∨ (d = false ∧ ¬ (c : Int) = 95 ∧ (c : Int) = 36 ∧ b = true) ∨ (d = false ∧ ¬ (c : Int) = 95 ∧ ¬ (c : Int) = 36 ∧ b = false)) :
  Calls Tryz.prog 110 #[.int .u8 (c : Int)] w fun e w' => e = .returned (.bool b) ∧ w' = w := by
 have HD := hh (fun w => digit_w c w)
 rw [hd] at HD
 clear hd
 go_enter Tryz.func110, Tryz.ntmps110
 rcases h with ⟨a1, a3⟩ | ⟨a1, a2, a3⟩ | ⟨a1, a2, a3, a4⟩
 all_goals
  go_wp2_with fail
  refine (HD.out _).mono ?_
  rintro e w' ⟨rfl, rfl⟩
  rcases h2 with ⟨rfl, rfl⟩ | ⟨rfl, b1, rfl⟩ | ⟨rfl, b1, b2, rfl⟩ | ⟨rfl, b1, b2, rfl⟩
  all_goals
   clear HD
   go_wp2
   go_ret
   exact ⟨rfl, rfl⟩
theorem letter_w (c : Nat) (w : World) :
  Calls Tryz.prog 110 #[.int .u8 (c : Int)] w fun e w' => e = .returned (.bool (letterB c)) ∧ w' = w := by
 by_cases hx : (65 ≤ c ∧ c ≤ 90) ∨ (97 ≤ c ∧ c ≤ 122)
 ·have hb : letterB c = true := by simp only [letterB, decide_eq_true_eq]; omega
  rw [hb]
  refine letter_walk c true w ?_
  rcases hx with h | h
  ·exact .inl ⟨by omega, by omega, rfl⟩
  ·exact .inr ⟨by omega, by omega, by omega, by omega, rfl⟩
 ·refine letter_walk2 c (letterB c) (digitB c) w rfl (by omega) ?_
  by_cases h1 : 48 ≤ c ∧ c ≤ 57
  ·exact .inl ⟨by simp [digitB, h1], by simp only [letterB, decide_eq_true_eq]; omega⟩
  ·have hd : digitB c = false := by simp only [digitB, decide_eq_false_iff_not]; omega
   by_cases h2 : c = 95
   ·exact .inr (.inl ⟨hd, by omega, by simp only [letterB, decide_eq_true_eq]; omega⟩)
   ·by_cases h3 : c = 36
    ·exact .inr (.inr (.inl ⟨hd, by omega, by omega, by simp only [letterB, decide_eq_true_eq]; omega⟩))
    ·exact .inr (.inr (.inr ⟨hd, by omega, by omega, by simp only [letterB, decide_eq_false_iff_not]; omega⟩))
def classB (c : Nat) : Bool := c == 47 || letterB c
theorem class_w (c : Nat) (w : World) :
  Calls Tryz.prog 109 #[.int .u8 (c : Int)] w fun e w' => e = .returned (.bool (classB c)) ∧ w' = w := by
 have HL := hh (fun w => letter_w c w)
 unfold classB
 generalize letterB c = d at *
 by_cases h : c = 47
 ·have h1 : ((c : Int) == 47) = true := by simp; omega
  have h2 : (c == 47) = true := by simp [h]
  have h3 : (c : Int) = 47 := by omega
  rw [h2, Bool.true_or]
  clear h h2 HL
  go_enter Tryz.func109, Tryz.ntmps109
  go_wp2
  go_ret
  exact ⟨rfl, rfl⟩
 ·have h1 : ((c : Int) == 47) = false := by simp; omega
  have h2 : (c == 47) = false := by simp [h]
  have h3 : ¬ (c : Int) = 47 := by omega
  rw [h2, Bool.false_or]
  clear h h2
  go_enter Tryz.func109, Tryz.ntmps109
  go_wp2_with (go_at_call 110; refine (HL.out _).mono ?_; rintro e w' ⟨rfl, rfl⟩)
  go_ret
  exact ⟨rfl, rfl⟩
end Go.Proofs.YtgociheckcpjkaaGreatDoor.word
namespace Go.Proofs.YtgociheckcpjkaaGreatDoor.num
end Go.Proofs.YtgociheckcpjkaaGreatDoor.num
namespace Go.Proofs.YtgociheckcpjkaaGreatDoor.crcnum
end Go.Proofs.YtgociheckcpjkaaGreatDoor.crcnum
namespace Go.Proofs.YtgociheckcpjkaaGreatDoor.crc
open Go.RowKit
open crcnum words
end Go.Proofs.YtgociheckcpjkaaGreatDoor.crc
namespace Go.Proofs.YtgociheckcpjkaaGreatDoor.put
open Go.RowKit
open num words
end Go.Proofs.YtgociheckcpjkaaGreatDoor.put
namespace Go.Proofs.YtgociheckcpjkaaGreatDoor.take
open Go.RowKit
open num words
end Go.Proofs.YtgociheckcpjkaaGreatDoor.take
namespace Go.Proofs.YtgociheckcpjkaaGreatDoor.sealing
open Go.RowKit
open crcnum words
end Go.Proofs.YtgociheckcpjkaaGreatDoor.sealing
namespace Go.Proofs.YtgociheckcpjkaaGreatDoor.sealing
open Go.RowKit
open crcnum words
end Go.Proofs.YtgociheckcpjkaaGreatDoor.sealing
namespace Go.Proofs.YtgociheckcpjkaaGreatDoor.small
open Go.RowKit
open num words
end Go.Proofs.YtgociheckcpjkaaGreatDoor.small
namespace Go.Proofs.YtgociheckcpjkaaGreatDoor.sealing
open Go.RowKit
open crcnum words
end Go.Proofs.YtgociheckcpjkaaGreatDoor.sealing
namespace Go.Proofs.YtgociheckcpjkaaGreatDoor.rdnum
open num sealing
set_option maxRecDepth 100000
end Go.Proofs.YtgociheckcpjkaaGreatDoor.rdnum
namespace Go.Proofs.YtgociheckcpjkaaGreatDoor.rdr
open Go.RowKit
open num words rdnum
set_option maxRecDepth 100000
abbrev But (b : Nat) (w w' : World) : Prop := w.grownBy w' (some b)
theorem But.refl (b : Nat) (w : World) : But b w w := ⟨rfl, rfl, rfl, Nat.le_refl _, fun _ _ _ => rfl⟩
theorem But.trans {b : Nat} {w w1 w2 : World} (h : But b w w1) (k : But b w1 w2) : But b w w2 :=
 ⟨k.os.trans h.os, k.tape.trans h.tape, k.output.trans h.output, Nat.le_trans h.size k.size, fun i hi hr => (k.block i (Nat.lt_of_lt_of_le hi h.size) hr).trans (h.block i hi hr)⟩
theorem But.alloc {b : Nat} {w w1 : World} (h : But b w w1) (o : Obj) : But b w (w1.alloc o) := h.trans (World.grownBy_alloc w1 o _)
theorem But.set {b : Nat} {w w1 : World} (h : But b w w1) (i : Nat) (v : Value) : But b w (w1.setCell ⟨b, i, none⟩ v) := h.trans (Lib.grownBy_setCell w1 b i v)
theorem But.below {b B : Nat} {w w1 : World} (h : But b w w1) (h1 : B ≤ b) (h2 : B ≤ w.heap.size) : Below B w w1 :=
 ⟨h.os, h.tape, h.output, h.size, fun k hk => h.block k (by omega) (fun e => by cases e; omega)⟩
theorem But.heap {b c : Nat} {w w1 : World} (h : But b w w1) {o : Obj} (hc : w.heap[c]? = some o) (hne : c ≠ b) : w1.heap[c]? = some o :=
 (h.block c (blk_lt hc) (fun e => hne (by cases e; rfl))).trans hc
end Go.Proofs.YtgociheckcpjkaaGreatDoor.rdr
namespace Go.Proofs.YtgociheckcpjkaaGreatDoor.give
open Go.RowKit
open num words rdnum rdr
set_option maxRecDepth 100000
end Go.Proofs.YtgociheckcpjkaaGreatDoor.give
namespace Go.Proofs.YtgociheckcpjkaaGreatDoor.give
open Go.RowKit
open num words rdnum rdr sealing
set_option maxRecDepth 100000
end Go.Proofs.YtgociheckcpjkaaGreatDoor.give
namespace Go.Proofs.YtgociheckcpjkaaGreatDoor.give
open Go.RowKit
open num words rdnum rdr sealing
set_option maxRecDepth 100000
end Go.Proofs.YtgociheckcpjkaaGreatDoor.give
namespace Go.Proofs.YtgociheckcpjkaaGreatDoor.catching
open Go.RowKit
open num words rdnum rdr give
set_option maxRecDepth 100000
end Go.Proofs.YtgociheckcpjkaaGreatDoor.catching
namespace Go.Proofs.YtgociheckcpjkaaGreatDoor.reading
open Go.RowKit
open num words rdnum rdr give catching
set_option maxRecDepth 100000
end Go.Proofs.YtgociheckcpjkaaGreatDoor.reading
namespace Go.Proofs.YtgociheckcpjkaaGreatDoor.meth
open Go.RowKit
open num words rdnum rdr give reading
set_option maxRecDepth 100000
end Go.Proofs.YtgociheckcpjkaaGreatDoor.meth
namespace Go.Proofs.YtgociheckcpjkaaGreatDoor.meth
open Go.RowKit
open num words rdnum rdr give reading
set_option maxRecDepth 100000
end Go.Proofs.YtgociheckcpjkaaGreatDoor.meth
namespace Go.Proofs.YtgociheckcpjkaaGreatDoor.write
open Go.RowKit
open num words rdnum rdr give reading meth sealing crcnum
set_option maxRecDepth 100000
def N (s : ByteArray) : List Nat := s.data.toList.map (·.toNat)
theorem N_len (s : ByteArray) : (N s).length = s.size := by unfold N; rw [List.length_map, Array.length_toList]; rfl
end Go.Proofs.YtgociheckcpjkaaGreatDoor.write
namespace Go.Proofs.YtgociheckcpjkaaGreatDoor.word
open Go.RowKit
open num words give write
set_option maxRecDepth 100000
set_option maxHeartbeats 400000
theorem N_at (s : ByteArray) (k : Nat) (h : k < s.size) : (N s)[k]? = some (s[k]'h).toNat := by
 unfold N
 rw [List.getElem?_map, Array.getElem?_toList, Array.getElem?_eq_getElem (by exact h)]
 rfl
theorem take_all (s : ByteArray) (p : Nat → Bool) (k : Nat) (h : k < s.size) (ha : ((N s).take k).all p = true) (hp : p (s[k]'h).toNat = true) : ((N s).take (k + 1)).all p = true := by
 rw [List.take_add_one, N_at s k h, List.all_append, ha]
 simp [hp]
theorem not_all (s : ByteArray) (p : Nat → Bool) (k : Nat) (h : k < s.size) (hp : p (s[k]'h).toNat = false) : (N s).all p = false := by
 rw [List.all_eq_false]
 exact ⟨_, List.mem_of_getElem? (N_at s k h), by simp [hp]⟩
theorem all_w (s : ByteArray) (p : Nat → Bool) (f : Nat) (w : World) (hs : s.size ≤ 281474976710656)
  (hf : ∀ (c : Nat) (w : World), c < 256 → Calls Tryz.prog f #[.int .u8 (c : Int)] w fun e w' => e = .returned (.bool (p c)) ∧ w' = w)
  (ef : ∀ args w, (callFunc f args).run Tryz.prog w = .ok (.enter f args) w) :
  Calls Tryz.prog 124 #[.string s, .func (.func f) #[] #[]] w fun e w' => e = .returned (.bool ((N s).all p)) ∧ w' = w := by
 have HF := hh hf
 have hnI : (s.size : Int) ≤ 281474976710656 := by omega
 have HL := hh (N_len s)
 clear hf hs
 go_enter Tryz.func124, Tryz.ntmps124
 go_wp2
 go_loopw [8] (fun i wr => ∃ k : Nat, k ≤ s.size ∧ i = .int .i64 (k : Int) ∧ wr = w ∧ ((N s).take k).all p = true) (fun i _ => s.size - (intOf i).toNat)
 case atStart => exact ⟨0, Nat.zero_le _, rfl, rfl, by simp⟩
 case round =>
  obtain ⟨k, hk, rfl, rfl, hall⟩ := hrel
  have HA := hh hall
  clear hall
  by_cases hlt : k < s.size
  ·have hltI : (k : Int) < (s.size : Int) := by omega
   have hlt8 : (s[k]'hlt).toNat < 256 := UInt8.toNat_lt _
   have hk1 := take_all s p k hlt HA.out
   go_wp2_with fail
   refine (HF.out _ _ hlt8).mono ?_
   rintro e w' ⟨rfl, rfl⟩
   cases hp : p (s[k]'hlt).toNat
   ·have HN := hh (not_all s p k hlt hp)
    clear hk1 hp hlt8 HF HA ef
    go_wp2
    go_ret
    rw [HN.out]
    exact ⟨rfl, rfl⟩
   ·have HK := hh (hk1 hp)
    clear hk1 hp hlt8 HF HA
    go_wp2
    go_roundw
    case rel => exact ⟨k + 1, by omega, by go_num, by first | rfl | trivial, HK.out⟩
    case measure => simp [intOf]; omega
  ·have hltI : ¬ (k : Int) < (s.size : Int) := by omega
   have hks : k = s.size := by omega
   subst hks
   have ha := HA.out
   rw [← N_len, List.take_length] at ha
   have HA2 := hh ha
   clear ha HA HF ef
   go_wp2
   go_ret
   rw [HA2.out]
   exact ⟨rfl, rfl⟩
end Go.Proofs.YtgociheckcpjkaaGreatDoor.word
namespace Go.Proofs.YtgociheckcpjkaaGreatDoor.word
open Go.RowKit
open num words give write
set_option maxRecDepth 100000
set_option maxHeartbeats 400000
def fits (s : ByteArray) : Bool := decide (1 ≤ s.size ∧ s.size ≤ 32)
def namedB (p : Nat → Bool) (s : ByteArray) : Bool := fits s && (N s).all p
def initName : ByteArray := ⟨#[60, 99, 108, 105, 110, 105, 116, 62]⟩
def nameB (s : ByteArray) : Bool := decide (s = initName) || namedB letterB s
theorem ext_list {a b : ByteArray} (h : a.toList = b.toList) : a = b := by
 rw [Lib.toList_data, Lib.toList_data] at h
 exact ByteArray.ext (Array.toList_inj.1 h)
theorem not_empty {s : ByteArray} (h : ¬ s.size = 0) : s.toList.isEmpty = false := by
 rw [Lib.toList_data]
 cases hd : s.data.toList with
 | nil => exact absurd (by rw [← N_len]; unfold N; rw [hd]; rfl) h
 | cons a b => rfl
theorem named_w (s : ByteArray) (p : Nat → Bool) (f : Nat) (w : World) (hs : s.size ≤ 281474976710656)
  (hf : ∀ (c : Nat) (w : World), c < 256 → Calls Tryz.prog f #[.int .u8 (c : Int)] w fun e w' => e = .returned (.bool (p c)) ∧ w' = w)
  (ef : ∀ args w, (callFunc f args).run Tryz.prog w = .ok (.enter f args) w) :
  Calls Tryz.prog 108 #[.string s, .func (.func f) #[] #[]] w fun e w' => e = .returned (.bool (namedB p s)) ∧ w' = w := by
 have HA := hh (fun w => all_w s p f w hs hf ef)
 have hsI : (s.size : Int) ≤ 281474976710656 := by omega
 have HS := hh (show namedB p s = (fits s && (N s).all p) from rfl)
 generalize (N s).all p = b at HA HS
 clear hf ef hs
 by_cases h0 : s.size = 0
 ·obtain rfl : s = ⟨#[]⟩ := ByteArray.ext (Array.size_eq_zero_iff.1 h0)
  rw [HS.out, show fits (⟨#[]⟩ : ByteArray) = false from rfl, Bool.false_and]
  clear HS HA h0
  go_enter Tryz.func108, Tryz.ntmps108
  go_wp2
  go_ret
  exact ⟨rfl, rfl⟩
 ·have hne := not_empty h0
  have hne3 : ¬ s.toList = [] := by intro e; rw [e] at hne; cases hne
  by_cases h1 : s.size ≤ 32
  ·have h1I : (s.size : Int) ≤ 32 := by omega
   rw [HS.out, show fits s = true by simp [fits]; omega, Bool.true_and]
   clear HS h0 h1
   go_enter Tryz.func108, Tryz.ntmps108
   go_wp2_with (go_at_call 124; refine (HA.out _).mono ?_; rintro e w' ⟨rfl, rfl⟩)
   go_ret
   exact ⟨rfl, rfl⟩
  ·have h1I : ¬ (s.size : Int) ≤ 32 := by omega
   rw [HS.out, show fits s = false by simp [fits]; omega, Bool.false_and]
   clear HS h0 h1 HA
   go_enter Tryz.func108, Tryz.ntmps108
   go_wp2
   go_ret
   exact ⟨rfl, rfl⟩
theorem class_name (s : ByteArray) (w : World) (hs : s.size ≤ 281474976710656) :
  Calls Tryz.prog 74 #[.string s] w fun e w' => e = .returned (.bool (namedB classB s)) ∧ w' = w := by
 have HA := hh (fun w => named_w s classB 109 w hs (fun c w _ => class_w c w) (fun _ _ => rfl))
 clear hs
 go_enter Tryz.func74, Tryz.ntmps74
 go_wp2_with (go_at_call 108; refine (HA.out _).mono ?_; rintro e w' ⟨rfl, rfl⟩)
 go_ret
 exact ⟨rfl, rfl⟩
theorem name_w (s : ByteArray) (w : World) (hs : s.size ≤ 281474976710656) :
  Calls Tryz.prog 112 #[.string s] w fun e w' => e = .returned (.bool (nameB s)) ∧ w' = w := by
 have HA := hh (fun w => named_w s letterB 110 w hs (fun c w _ => letter_w c w) (fun _ _ => rfl))
 have HS := hh (show nameB s = (decide (s = initName) || namedB letterB s) from rfl)
 generalize namedB letterB s = b at HA HS
 clear hs
 by_cases h : s = initName
 ·rw [HS.out, decide_eq_true h, Bool.true_or]
  subst h
  clear HS HA
  unfold initName
  go_enter Tryz.func112, Tryz.ntmps112
  go_wp2
  go_ret
  exact ⟨rfl, rfl⟩
 ·rw [HS.out, decide_eq_false h, Bool.false_or]
  have hne3 : ¬ s.toList = [60, 99, 108, 105, 110, 105, 116, 62] := fun e => h (ext_list (e.trans (by rw [Lib.toList_data]; rfl)))
  have hne : (s.toList == [60, 99, 108, 105, 110, 105, 116, 62]) = false := by rw [beq_eq_false_iff_ne]; exact hne3
  clear HS h
  go_enter Tryz.func112, Tryz.ntmps112
  go_wp2_with (go_at_call 108; refine (HA.out _).mono ?_; rintro e w' ⟨rfl, rfl⟩)
  go_ret
  exact ⟨rfl, rfl⟩
end Go.Proofs.YtgociheckcpjkaaGreatDoor.word
namespace Go.Proofs.YtgociheckcpjkaaGreatDoor.kindp
end Go.Proofs.YtgociheckcpjkaaGreatDoor.kindp
namespace Go.Proofs.YtgociheckcpjkaaGreatDoor.kind
open Go.RowKit
open words kindp word
set_option maxRecDepth 100000
def tyV (t : Ty) : Value := .agg #[.int .i64 t.1, .string ⟨t.2.toArray⟩]
theorem mk_len (c : Tx) : (⟨c.toArray⟩ : ByteArray).size = c.length := by show c.toArray.size = _; simp
theorem cls_eq (c : Tx) : namedB classB ⟨c.toArray⟩ = clsB c := by
 unfold namedB fits clsB
 rw [mk_len]
 rfl
theorem has_w (k : Int) (c : Tx) (w : World) :
  Calls Tryz.prog 85 #[.agg #[.int .i64 k, .string ⟨c.toArray⟩]] w fun e w' => e = .returned (.bool (hasB k)) ∧ Below w.heap.size w w' := by
 by_cases h3 : k = 3
 ·subst h3
  rw [show hasB 3 = true from rfl]
  go_enter Tryz.func85, Tryz.ntmps85
  go_wp2
  go_ret
  exact ⟨rfl, (Below.refl _ _).alloc (Nat.le_refl _) _⟩
 ·by_cases h5 : k = 5
  ·subst h5
   rw [show hasB 5 = true from rfl]
   clear h3
   go_enter Tryz.func85, Tryz.ntmps85
   go_wp2
   go_ret
   exact ⟨rfl, (Below.refl _ _).alloc (Nat.le_refl _) _⟩
  ·rw [show hasB k = false by unfold hasB; simp [h3, h5]]
   have e3 : (k == 3) = false := by simpa using h3
   have e5 : (k == 5) = false := by simpa using h5
   clear h3 h5
   go_enter Tryz.func85, Tryz.ntmps85
   go_wp2
   go_ret
   exact ⟨rfl, (Below.refl _ _).alloc (Nat.le_refl _) _⟩
theorem kinds (k : Int) : k = 1 ∨ k = 2 ∨ k = 3 ∨ k = 4 ∨ k = 5 ∨ ((k == 1) = false ∧ (k == 2) = false ∧ (k == 3) = false ∧ (k == 4) = false ∧ (k == 5) = false ∧ signL k = [] ∧ hasB k = false) := by
 by_cases h1 : k = 1
 ·exact .inl h1
 by_cases h2 : k = 2
 ·exact .inr (.inl h2)
 by_cases h3 : k = 3
 ·exact .inr (.inr (.inl h3))
 by_cases h4 : k = 4
 ·exact .inr (.inr (.inr (.inl h4)))
 by_cases h5 : k = 5
 ·exact .inr (.inr (.inr (.inr (.inl h5))))
 ·refine .inr (.inr (.inr (.inr (.inr ⟨by simpa using h1, by simpa using h2, by simpa using h3, by simpa using h4, by simpa using h5, ?_, ?_⟩))))
  ·unfold signL; rw [if_neg h1, if_neg h2, if_neg h3, if_neg h4, if_neg h5]
  ·unfold hasB; simp [h3, h5]
theorem sign_w (k : Int) (w : World) :
  Calls Tryz.prog 86 #[.int .i64 k] w fun e w' => e = .returned (.string ⟨(signL k).toArray⟩) ∧ w' = w := by
 rcases kinds k with rfl | rfl | rfl | rfl | rfl | ⟨e1, e2, e3, e4, e5, e6, -⟩
 ·rw [show signL 1 = [86] from rfl]
  go_enter Tryz.func86, Tryz.ntmps86
  go_wp2
  go_ret
  exact ⟨rfl, rfl⟩
 ·rw [show signL 2 = [73] from rfl]
  go_enter Tryz.func86, Tryz.ntmps86
  go_wp2
  go_ret
  exact ⟨rfl, rfl⟩
 ·rw [show signL 3 = [76] from rfl]
  go_enter Tryz.func86, Tryz.ntmps86
  go_wp2
  go_ret
  exact ⟨rfl, rfl⟩
 ·rw [show signL 4 = [91, 73] from rfl]
  go_enter Tryz.func86, Tryz.ntmps86
  go_wp2
  go_ret
  exact ⟨rfl, rfl⟩
 ·rw [show signL 5 = [91, 76] from rfl]
  go_enter Tryz.func86, Tryz.ntmps86
  go_wp2
  go_ret
  exact ⟨rfl, rfl⟩
 ·rw [e6]
  clear e6
  go_enter Tryz.func86, Tryz.ntmps86
  go_wp2
  go_ret
  exact ⟨rfl, rfl⟩
end Go.Proofs.YtgociheckcpjkaaGreatDoor.kind

/- NormE -/
import Derived.WalkKit
import Derived.Maps.AppendAt
import Derived.Deep.Draws
import Derived.Deep.RegionHeld
import Derived.Test.YtdifmgeicnndfaaRows
import Derived.ProofKit
import Derived.OpenShut
import Derived.SizedLaws
import Derived.Below
import Derived.Lib.Split
import Derived.Lib.Join
import Derived.Test.YtdifmgeicnndfaaProg
import Derived.Lib.Hide
import Derived.Deep.RegionHeld3
import Derived.Laws.BitsAllLaws
import Derived.Deep.QuietTactic
import Derived.BigQuiet
import Derived.WalkSpells
import Derived.Lib.AppendZerosOnto
import Derived.Handy
import Derived.ChangeKeysEq
import Derived.Lib.BufferWrite
import Derived.IntWalk
import Derived.Defers
import Derived.Recover
import Derived.Lib.AppendStr
import Derived.Shelf.Strings.Shaped
import Derived.Shelf.Small.Wraps
import Derived.Shelf.Strings.IndexAnyAll
import Derived.Laws.OwnMore
import Derived.RangeFuncNested
import Derived.RangeFuncBound
import Derived.RangeFuncCalls
import Derived.RangeFuncLeaves
import Derived.RangeFuncBox
import Derived.Shelf.Abstract
import Derived.Shelf.RegionOpen
import Derived.OwnWalkIn
import Derived.TacticsInMore
import Derived.LoopNIn
import Derived.LoopIn
import Derived.Sort.Walk0
import Derived.WalkLawsBesides
namespace Go.Proofs.Ytdifmgeicnndfaa.words
open Go.RowKit
theorem add_block (a : Addr) (j : Nat) : (a.add j).block = a.block := by
 unfold Addr.add; split <;> rfl
theorem add_add (a : Addr) (i j : Nat) : (a.add i).add j = a.add (i + j) := by
 unfold Addr.add
 rcases Nat.eq_zero_or_pos i with rfl | hi
 ·simp
 ·rcases Nat.eq_zero_or_pos j with rfl | hj
  ·simp
  ·rw [if_neg (by omega), if_neg (by omega), if_neg (by omega)]
   simp only [Nat.add_assoc]
def Rd (w : World) (A : Option Addr) (xs : List Value) : Prop :=
 xs = [] ∨ ∃ a, A = some a ∧ a.block < w.heap.size ∧ ∀ j u, xs[j]? = some u → w.cell? (a.add j) = some u
theorem Rd.nil (w : World) (A : Option Addr) : Rd w A [] := .inl rfl
theorem Rd.at_ {w : World} {A : Option Addr} {xs : List Value} (h : Rd w A xs) {j : Nat} {u : Value} (hj : xs[j]? = some u) :
  ∃ a, A = some a ∧ a.block < w.heap.size ∧ w.cell? (a.add j) = some u := by
 rcases h with rfl | ⟨a, rfl, hb, hc⟩
 ·simp at hj
 ·exact ⟨a, rfl, hb, hc j u hj⟩
theorem Rd.keep {w w' : World} {A : Option Addr} {xs : List Value} (h : Rd w A xs) (hs : w.heap.size ≤ w'.heap.size)
  (hk : ∀ p : Addr, p.block < w.heap.size → w'.cell? p = w.cell? p) : Rd w' A xs := by
 rcases h with rfl | ⟨a, rfl, hb, hc⟩
 ·exact .inl rfl
 ·exact .inr ⟨a, rfl, by omega, fun j u hu => (hk _ (by rw [add_block]; exact hb)).trans (hc j u hu)⟩
theorem Rd.below {w w' : World} {A : Option Addr} {xs : List Value} (h : Rd w A xs) (hb : Below w.heap.size w w') : Rd w' A xs :=
 h.keep hb.size fun _ hp => hb.cell hp
theorem Rd.drewN {w : World} {A : Option Addr} {xs : List Value} (h : Rd w A xs) (n : Nat) : Rd (w.drewN n) A xs := h
theorem Rd.drop {w : World} {A : Option Addr} {xs : List Value} (h : Rd w A xs) (k : Nat) : Rd w (A.map (·.add k)) (xs.drop k) := by
 rcases h with rfl | ⟨a, rfl, hb, hc⟩
 ·exact .inl (by simp)
 ·refine .inr ⟨a.add k, rfl, by rw [add_block]; exact hb, fun j u hu => ?_⟩
  rw [add_add]
  exact hc _ u (by rw [← hu, List.getElem?_drop])
theorem Rd.take {w : World} {A : Option Addr} {xs : List Value} (h : Rd w A xs) (k : Nat) : Rd w A (xs.take k) := by
 rcases h with rfl | ⟨a, rfl, hb, hc⟩
 ·exact .inl (by simp)
 ·refine .inr ⟨a, rfl, hb, fun j u hu => hc j u ?_⟩
  rw [List.getElem?_take] at hu
  split at hu
  ·exact hu
  ·cases hu
theorem Rd.cut {w : World} {A : Option Addr} {xs : List Value} (h : Rd w A xs) {k cap : Nat} (hx : xs.length ≤ cap) :
  Rd w (if cap = k then A else A.map (·.add k)) (xs.drop k) := by
 split
 ·exact .inl (List.drop_eq_nil_of_le (by omega))
 ·exact h.drop k
section
variable {w w' : World} {base : Nat} {e : TypeId} {size n : Nat} {v : Value} {xs : List Value}
theorem own_rd (h : w.ownsRow base e size v n xs) : ∃ A c, v = .slice A n c ∧ n ≤ c ∧ c ≤ maxLen ∧ Rd w A xs := by
 rcases h.2 with ⟨rfl, rfl⟩ | ⟨g, cap, cur, rfl, _, hg, hnc, hcm, _, _⟩
 ·exact ⟨none, 0, rfl, Nat.le_refl _, Nat.zero_le _, .inl (List.eq_nil_of_length_eq_zero (by simpa using h.1))⟩
 ·refine ⟨_, cap, rfl, hnc, hcm, .inr ⟨_, rfl, ?_, h.cells (g := g) rfl⟩⟩
  rcases Nat.lt_or_ge g w.heap.size with hlt | hge
  ·exact hlt
  ·rw [Array.getElem?_eq_none hge] at hg; cases hg
theorem own_below (h : w.ownsRow base e size v n xs) (hb : Below w.heap.size w w') : w'.ownsRow base e size v n xs := by
 have hlt := h.lt
 refine ⟨h.1, ?_⟩
 rcases h.2 with h0 | ⟨g, cap, cur, rfl, hbg, hg, rest⟩
 ·exact .inl h0
 ·exact .inr ⟨g, cap, cur, rfl, hbg, (hb.block g (hlt g rfl).2).trans hg, rest⟩
theorem own_base {base' : Nat} (h : w.ownsRow base e size v n xs) (hb : base' ≤ base) : w.ownsRow base' e size v n xs := by
 refine ⟨h.1, ?_⟩
 rcases h.2 with h0 | ⟨g, cap, cur, rfl, hbg, rest⟩
 ·exact .inl h0
 ·exact .inr ⟨g, cap, cur, rfl, Nat.le_trans hb hbg, rest⟩
end
theorem add_zero_off (b j : Nat) : (⟨b, 0, none⟩ : Addr).add j = ⟨b, j, none⟩ := by
 unfold Addr.add
 rcases Nat.eq_zero_or_pos j with rfl | hj
 ·simp
 ·rw [if_neg (by omega)]; simp
theorem blk_lt {w : World} {b : Nat} {o : Obj} (h : w.heap[b]? = some o) : b < w.heap.size := by
 rcases Nat.lt_or_ge b w.heap.size with h1 | h1
 ·exact h1
 ·rw [Array.getElem?_eq_none h1] at h; cases h
theorem rd_blk {w : World} {b t k : Nat} {cs : Array Value} {xs : List Value} (h : w.heap[b]? = some (.cells cs t (0, 0))) (hx : cs.toList.take k = xs) : Rd w (some ⟨b, 0, none⟩) xs := by
 refine .inr ⟨_, rfl, blk_lt h, fun j u hu => ?_⟩
 rw [add_zero_off, cell_of_row w b j cs t (0, 0) h]
 rw [← hx, List.getElem?_take] at hu
 split at hu
 ·simpa using hu
 ·cases hu
section
variable {P : Program} (w : World)
theorem run_app (base : Nat) (t ty e : TypeId) (i : TypeInfo) (z : Value) (size bytes : Nat) (ht : P.underlying t = some (.slice e)) (hi : P.info? e = some i) (hz : i.zero = some z)
  (hsize : i.size = size) (hby : i.bytes = bytes) (hzs : z.cells.size = size) (hsz : 0 < size)
  (v : Value) (n : Nat) (xs : List Value) (hown : w.ownsRow base e size v n xs)
  (A : Option Addr) (m c : Nat) (news : List Value) (hl : news.length = m * size) (hr : Rd w A news) (h1 : ∀ u ∈ news, u.oneCell' = true)
  (h63 : n + m ≤ maxLen) (hbytes : (n + m) * bytes ≤ 140737488355328) (hbase : base ≤ w.heap.size) :
  ∃ v' w', (Builtin.append_ #[t, t] ty #[v, .slice A m c]).run P w = .ok v' w' ∧ w'.ownsRow base e size v' (n + m) (xs ++ news) ∧ w.grownBy w' v.ownBlock ∧ Below base w w' ∧
   (v'.ownBlock = v.ownBlock ∨ v'.ownBlock = some w.heap.size) := by
 rcases A with _ | a
 ·have hn : news = [] := by
   rcases hr with h | ⟨a, h, _⟩
   ·exact h
   ·cases h
  subst hn
  have hm : m = 0 := by
   rcases Nat.eq_zero_or_pos m with h | h
   ·exact h
   ·have := Nat.mul_pos h hsz
    simp at hl; omega
  subst hm
  refine ⟨v, w, ?_, by simpa using hown, ⟨rfl, rfl, rfl, Nat.le_refl _, fun _ _ _ => rfl⟩, Below.refl _ _, .inl rfl⟩
  rcases hown.2 with ⟨rfl, rfl⟩ | ⟨g, cap, cur, rfl, _, _, hnc, _⟩
  ·simp [Builtin.append_, run_underlying ht, sizeOf, typeInfo, hi, Builtin.lenOf, Builtin.firstCells]
  ·simp [Builtin.append_, run_underlying ht, sizeOf, typeInfo, hi, Builtin.lenOf, Builtin.firstCells, hnc, storeCells]
 ·have hcells : ∀ j u, news[j]? = some u → w.cell? (a.add j) = some u := by
   intro j u hu
   obtain ⟨a', h, _, hc⟩ := hr.at_ hu
   cases h
   exact hc
  obtain ⟨v', w', hrun, h2, h3, _, h5⟩ := run_append_own_at (P := P) w base t ty e i z size bytes ht hi hz hsize hby hzs hsz v n xs hown a m c news hl hcells h1 h63 hbytes hbase
  exact ⟨v', w', hrun, h2, h3, (Below.refl _ _).grown h3 hbase (fun k hk => (hown.lt k hk).1), h5⟩
theorem wp_app {o : Oper} {a : Act} {K : Act → World → Prop} {Q : Exit → Act → World → Prop} (s x : Operand) (t : TypeId)
  (ho : o.op = .call { callee := .builtin .append, args := #[s, x], argTypes := #[t, t] })
  (base : Nat) (e : TypeId) (i : TypeInfo) (z : Value) (size bytes : Nat) (ht : P.underlying t = some (.slice e)) (hi : P.info? e = some i) (hz : i.zero = some z)
  (hsize : i.size = size) (hby : i.bytes = bytes) (hzs : z.cells.size = size) (hsz : 0 < size)
  (v : Value) (n : Nat) (xs : List Value) (hs : a.eval s = v) (hown : w.ownsRow base e size v n xs)
  (A : Option Addr) (m c : Nat) (news : List Value) (hx : a.eval x = .slice A m c) (hl : news.length = m * size) (hr : Rd w A news) (h1 : ∀ u ∈ news, u.oneCell' = true)
  (h63 : n + m ≤ maxLen) (hbytes : (n + m) * bytes ≤ 140737488355328) (hbase : base ≤ w.heap.size)
  (h : ∀ v' w', w'.ownsRow base e size v' (n + m) (xs ++ news) → w.grownBy w' v.ownBlock → Below base w w' → (v'.ownBlock = v.ownBlock ∨ v'.ownBlock = some w.heap.size) → K (a.put o.dst v') w') : o.wp P a w K Q := by
 obtain ⟨v', w', hrun, h2, h3, h4, h5⟩ := run_app (P := P) w base t o.type e i z size bytes ht hi hz hsize hby hzs hsz v n xs hown A m c news hl hr h1 h63 hbytes hbase
 unfold Oper.wp execOp
 simp only [ho, resolve, invoke, builtin, Sem.run_bind, Sem.run_pure, Result.andThen_ok, List.map_toArray, List.map_cons, List.map_nil, hs, hx, hrun]
 exact h v' w' h2 h3 h4 h5
theorem wpList_app {ops : Array Oper} {rest : List Oper} {o : Oper} {a : Act} {Q : Exit → Act → World → Prop} (hgd : o.guard = none) (s x : Operand) (t : TypeId)
  (ho : o.op = .call { callee := .builtin .append, args := #[s, x], argTypes := #[t, t] })
  (base : Nat) (e : TypeId) (i : TypeInfo) (z : Value) (size bytes : Nat) (ht : P.underlying t = some (.slice e)) (hi : P.info? e = some i) (hz : i.zero = some z)
  (hsize : i.size = size) (hby : i.bytes = bytes) (hzs : z.cells.size = size) (hsz : 0 < size)
  (v : Value) (n : Nat) (xs : List Value) (hs : a.eval s = v) (hown : w.ownsRow base e size v n xs)
  (A : Option Addr) (m c : Nat) (news : List Value) (hx : a.eval x = .slice A m c) (hl : news.length = m * size) (hr : Rd w A news) (h1 : ∀ u ∈ news, u.oneCell' = true)
  (h63 : n + m ≤ maxLen) (hbytes : (n + m) * bytes ≤ 140737488355328) (hbase : base ≤ w.heap.size)
  (h : ∀ v' w', w'.ownsRow base e size v' (n + m) (xs ++ news) → w.grownBy w' v.ownBlock → Below base w w' → (v'.ownBlock = v.ownBlock ∨ v'.ownBlock = some w.heap.size) → wpList P ops Q rest (a.put o.dst v') w') : wpList P ops Q (o :: rest) a w :=
 wpList_plain hgd fun _ hK => wp_app w s x t ho base e i z size bytes ht hi hz hsize hby hzs hsz v n xs hs hown A m c news hx hl hr h1 h63 hbytes hbase fun v' w' h2 h3 h4 h5 => hK _ _ (h v' w' h2 h3 h4 h5)
end
theorem under {b q : Nat} {a c : World} (h : Below b (a.drewN q) c) : Below b a c := ⟨h.os, h.tape, h.output, h.size, h.block⟩
theorem over {b q : Nat} {a c : World} (h : Below b a c) : Below b a (c.drewN q) := ⟨h.os, h.tape, h.output, h.size, h.block⟩
theorem then_ {b : Nat} {a c d : World} (h : Below b a c) (hb : b ≤ a.heap.size) (k : Below c.heap.size c d) : Below b a d := h.trans (k.mono (Nat.le_trans hb h.size))
theorem then' {a c d : World} (h : Below a.heap.size a c) (k : Below c.heap.size c d) : Below a.heap.size a d := then_ h (Nat.le_refl _) k
def B (l : List Nat) : List Value := l.map fun x : Nat => Value.int .u8 (x : Int)
def U (l : List Nat) : List Value := l.map fun x : Nat => Value.int .u64 (x : Int)
theorem B_take (l : List Nat) (k : Nat) : (B l).take k = B (l.take k) := by simp [B]
section
variable {P : Program} {md : Region.Mode} {ops : Array Oper} {Q : Exit → Act → World → Prop} {S : World → Prop} {oi : Oper} {fuel : Nat} {listed : Array Bool} {a : Act} {w : World}
theorem tkv (i : Nat) {v : Value} (hi : ops[i]? = some oi) (h : wpAnyH P md ops Q S fuel (listed.setIfInBounds i true) (a.put oi.dst v) w)
  (hd : (Region.noSelect ops && (Region.free md ops listed i && ((Region.ready md ops listed).contains i && Region.wanted oi (yielded ops a.tmps)))) = true := by kernel_rfl)
  (hy : ∀ w, S w → (execOp a.eval oi).run P w = .ok (.value v) w := by (intro w hSw; (try dsimp only at hSw); go_simp; (try with_reducible rfl)))
  (hQ : ∀ c a w, Q (.panic c) (a.put oi.dst v) w → Q (.panic c) a w := by exact fun _ _ _ h => h) (hS : S w := by assumption) : wpAnyH P md ops Q S (fuel + 1) listed a w := by
 simp only [Bool.and_eq_true] at hd
 exact wpAnyH_take hi hd.1 hd.2.1 hd.2.2.1 hQ (Or.inl ⟨hd.2.2.2, hy⟩) hS h
theorem tku (i : Nat) (hi : ops[i]? = some oi) (h : wpAnyH P md ops Q S fuel (listed.setIfInBounds i true) (a.put oi.dst undef) w)
  (hd : (Region.noSelect ops && (Region.free md ops listed i && ((Region.ready md ops listed).contains i && !Region.wanted oi (yielded ops a.tmps)))) = true := by kernel_rfl)
  (hQ : ∀ c a w, Q (.panic c) (a.put oi.dst undef) w → Q (.panic c) a w := by exact fun _ _ _ h => h) (hS : S w := by assumption) : wpAnyH P md ops Q S (fuel + 1) listed a w := by
 simp only [Bool.and_eq_true, Bool.not_eq_true'] at hd
 exact wpAnyH_take hi hd.1 hd.2.1 hd.2.2.1 hQ (Or.inr ⟨hd.2.2.2, rfl⟩) hS h
end
theorem bls : (∀ b, (true && b) = b) ∧ (∀ b, (false && b) = false) ∧ (∀ b, (b && true) = b) ∧ (∀ b, (b && false) = false) ∧ (∀ b, (true || b) = true) ∧ (∀ b, (false || b) = b) ∧ (∀ b, (b || true) = true) ∧ (∀ b, (b || false) = b) ∧ ((!true) = false) ∧ ((!false) = true) := by
 refine ⟨?_, ?_, ?_, ?_, ?_, ?_, ?_, ?_, rfl, rfl⟩ <;> intro b <;> cases b <;> rfl
theorem puts : (∀ (a : Act) (v : Value), a.put none v = a) ∧ (∀ (ts : Array Value) (ds : List Deferred) (t : Tmp) (v : Value), Act.put ⟨ts, ds⟩ (some t) v = ⟨ts.setIfInBounds t v, ds⟩) ∧ (∀ {α : Type} (l : List α) (i : Nat) (v : α), l.toArray.setIfInBounds i v = (l.set i v).toArray) ∧ (∀ {α : Type} (x : α) (l : List α) (v : α), (x :: l).set 0 v = v :: l) ∧
  (∀ {α : Type} (x : α) (l : List α) (i : Nat) (v : α), (x :: l).set (i + 1) v = x :: l.set i v) ∧ (∀ {α : Type} (l : List α) (i : Nat) (h : i < l.toArray.size), l.toArray[i] = l[i]'(by simpa using h)) ∧ (∀ {α : Type} (x : α) (l : List α) (h : 0 < (x :: l).length), (x :: l)[0] = x) ∧ (∀ {α : Type} (x : α) (l : List α) (i : Nat) (h : i + 1 < (x :: l).length), (x :: l)[i + 1] = l[i]'(by simpa using h)) :=
 ⟨fun _ _ => rfl, fun _ _ _ _ => rfl, fun _ _ _ => List.setIfInBounds_toArray .., fun _ _ _ => rfl, fun _ _ _ _ => rfl, fun _ _ _ => rfl, fun _ _ _ => rfl, fun _ _ _ _ => rfl⟩
section
variable {P : Program} {md : Region.Mode} {ops : Array Oper} {Q : Exit → Act → World → Prop} {S : World → Prop} {oi : Oper} {fuel : Nat} {listed : Array Bool} {a : Act} {w : World}
theorem zh {p : Prop} (h : p) : Hid p := h
theorem tkp (i : Nat) {v : Value} {a' : Act} (hi : ops[i]? = some oi) (h : wpAnyH P md ops Q S fuel (listed.setIfInBounds i true) a' w)
  (hd : (Region.noSelect ops && (Region.free md ops listed i && ((Region.ready md ops listed).contains i && Region.wanted oi (yielded ops a.tmps)))) = true := by kernel_rfl)
  (hy : ∀ w, S w → (execOp a.eval oi).run P w = .ok (.value v) w := by (intro w hSw; (try dsimp only at hSw); go_simp; (try with_reducible rfl)))
  (ha : a.put oi.dst v = a' := by (first | (simp only [puts]; done) | (simp only [puts]; rfl) | rfl))
  (hQ : ∀ c a w, Q (.panic c) (a.put oi.dst v) w → Q (.panic c) a w := by exact fun _ _ _ h => h) (hS : S w := by assumption) : wpAnyH P md ops Q S (fuel + 1) listed a w := by
 subst ha
 exact tkv i hi h hd hy hQ hS
theorem tup (i : Nat) {a' : Act} (hi : ops[i]? = some oi) (h : wpAnyH P md ops Q S fuel (listed.setIfInBounds i true) a' w)
  (hd : (Region.noSelect ops && (Region.free md ops listed i && ((Region.ready md ops listed).contains i && !Region.wanted oi (yielded ops a.tmps)))) = true := by kernel_rfl)
  (ha : a.put oi.dst undef = a' := by (first | (simp only [puts]; done) | (simp only [puts]; rfl) | rfl))
  (hQ : ∀ c a w, Q (.panic c) (a.put oi.dst undef) w → Q (.panic c) a w := by exact fun _ _ _ h => h) (hS : S w := by assumption) : wpAnyH P md ops Q S (fuel + 1) listed a w := by
 subst ha
 exact tku i hi h hd hQ hS
theorem rdy (i : Nat) (hi : ops[i]? = some oi) (h : ∀ K : Act → World → Prop, Shut (∀ v u, S u → (S u → wpAnyH P md ops Q S fuel (listed.setIfInBounds i true) v u) → K v u) → if Region.wanted oi (yielded ops a.tmps) = true then Oper.wp P oi a w K Q else K (a.put oi.dst undef) w)
  (hr : Region.ready md ops listed = [i] := by kernel_rfl) : wpAnyH P md ops Q S (fuel + 1) listed a w :=
 wpAnyH_ready hr (by simp) (AllReadyH.cons hi h AllReadyH.nil)
variable {b : Nat} {t : TypeId} {fz : Nat × Nat} {u0 u1 u2 u3 u4 u5 u6 u7 u8 : Value}
theorem c5q (h : w.heap[b]? = some (.cells #[u0, u1, u2, u3, u4] t fz)) : w.cell? ⟨b, 0, none⟩ = some u0 ∧ w.cell? ⟨b, 1, none⟩ = some u1 ∧ w.cell? ⟨b, 2, none⟩ = some u2 ∧ w.cell? ⟨b, 3, none⟩ = some u3 ∧ w.cell? ⟨b, 4, none⟩ = some u4 :=
 ⟨cell_of_row _ _ 0 _ _ _ h, cell_of_row _ _ 1 _ _ _ h, cell_of_row _ _ 2 _ _ _ h, cell_of_row _ _ 3 _ _ _ h, cell_of_row _ _ 4 _ _ _ h⟩
theorem c6q (h : w.heap[b]? = some (.cells #[u0, u1, u2, u3, u4, u5] t fz)) : w.cell? ⟨b, 0, none⟩ = some u0 ∧ w.cell? ⟨b, 1, none⟩ = some u1 ∧ w.cell? ⟨b, 2, none⟩ = some u2 ∧ w.cell? ⟨b, 3, none⟩ = some u3 ∧ w.cell? ⟨b, 4, none⟩ = some u4 ∧ w.cell? ⟨b, 5, none⟩ = some u5 :=
 ⟨cell_of_row _ _ 0 _ _ _ h, cell_of_row _ _ 1 _ _ _ h, cell_of_row _ _ 2 _ _ _ h, cell_of_row _ _ 3 _ _ _ h, cell_of_row _ _ 4 _ _ _ h, cell_of_row _ _ 5 _ _ _ h⟩
theorem c7q (h : w.heap[b]? = some (.cells #[u0, u1, u2, u3, u4, u5, u6] t fz)) : w.cell? ⟨b, 0, none⟩ = some u0 ∧ w.cell? ⟨b, 1, none⟩ = some u1 ∧ w.cell? ⟨b, 2, none⟩ = some u2 ∧ w.cell? ⟨b, 3, none⟩ = some u3 ∧ w.cell? ⟨b, 4, none⟩ = some u4 ∧ w.cell? ⟨b, 5, none⟩ = some u5 ∧ w.cell? ⟨b, 6, none⟩ = some u6 :=
 ⟨cell_of_row _ _ 0 _ _ _ h, cell_of_row _ _ 1 _ _ _ h, cell_of_row _ _ 2 _ _ _ h, cell_of_row _ _ 3 _ _ _ h, cell_of_row _ _ 4 _ _ _ h, cell_of_row _ _ 5 _ _ _ h, cell_of_row _ _ 6 _ _ _ h⟩
theorem c9q (h : w.heap[b]? = some (.cells #[u0, u1, u2, u3, u4, u5, u6, u7, u8] t fz)) : w.cell? ⟨b, 0, none⟩ = some u0 ∧ w.cell? ⟨b, 1, none⟩ = some u1 ∧ w.cell? ⟨b, 2, none⟩ = some u2 ∧ w.cell? ⟨b, 3, none⟩ = some u3 ∧ w.cell? ⟨b, 4, none⟩ = some u4 ∧ w.cell? ⟨b, 5, none⟩ = some u5 ∧ w.cell? ⟨b, 6, none⟩ = some u6 ∧ w.cell? ⟨b, 7, none⟩ = some u7 ∧ w.cell? ⟨b, 8, none⟩ = some u8 :=
 ⟨cell_of_row _ _ 0 _ _ _ h, cell_of_row _ _ 1 _ _ _ h, cell_of_row _ _ 2 _ _ _ h, cell_of_row _ _ 3 _ _ _ h, cell_of_row _ _ 4 _ _ _ h, cell_of_row _ _ 5 _ _ _ h, cell_of_row _ _ 6 _ _ _ h, cell_of_row _ _ 7 _ _ _ h, cell_of_row _ _ 8 _ _ _ h⟩
end
end Go.Proofs.Ytdifmgeicnndfaa.words
namespace Go.Proofs.Ytdifmgeicnndfaa.frame
open Go.ChangeShapes Go.WideShapes Go.ChangeAt Go.RowKit
open words
set_option maxRecDepth 100000
theorem laidOut : laidOutB Try.prog = true := by kernel_rfl
theorem own : ownKnob Try.prog.godebug = none := by kernel_rfl
theorem cell_lt {w : World} {p : Addr} {v : Value} (h : w.cell? p = some v) : p.block < w.heap.size := by
 rcases Nat.lt_or_ge p.block w.heap.size with h1 | h1
 ·exact h1
 ·simp [World.cell?, Array.getElem?_eq_none h1] at h
theorem reach {H : Type} {P : Program} {ts : List TypeId} {ds : List (DataW H)} (h : (DataW.weightsEach P ts ds).all (· ≤ reachBytes) = true) {j : Nat} {t e : TypeId} {d : DataW H} {n c b : Nat} (ht : ts[j]? = some t) (hj : ds[j]? = some d)
  (hu : P.underlying t = some (.slice e)) (hb : P.bytesOf e = b) (hnc : n ≤ c)
  (hd : (d = .nil ∧ c = 0) ∨ ∃ elems spare, d = .slice elems spare ∧ elems.length = n ∧ elems.length + spare.length = c) : n * b ≤ 140737488351232 := by
 rcases hd with ⟨_, rfl⟩ | ⟨elems, spare, rfl, _, hc⟩
 ·obtain rfl : n = 0 := by omega
  simp
 ·have := sized_slice h ht hj hu
  rw [hb, hc] at this
  have h2 : n * b ≤ c * b := Nat.mul_le_mul_right _ hnc
  have h3 : reachBytes = 140737488351232 := by decide
  omega
end Go.Proofs.Ytdifmgeicnndfaa.frame
namespace Go.Proofs.Ytdifmgeicnndfaa.piece
open Go.Lib
def F (c : UInt8) (l : List UInt8) : List (List UInt8) := split l [c]
section
variable {l : List UInt8} {i f : Nat} {c x : UInt8}
end
def D (xs : List ByteArray) : List (List UInt8) := xs.map (·.data.toList)
end Go.Proofs.Ytdifmgeicnndfaa.piece
namespace Go.Proofs.Ytdifmgeicnndfaa.kindp
open piece
abbrev Tx := List UInt8
end Go.Proofs.Ytdifmgeicnndfaa.kindp
namespace Go.Proofs.Ytdifmgeicnndfaa.opp
open kindp
structure In where
 o : Int
 a : Int
 b : Int
 c : Int
 k : Int
 cl : Tx
 nm : Tx
 ds : Tx
 ar : List Int
deriving DecidableEq
def known (o : Int) : Bool := decide (0 < o ∧ o ≤ 32)
end Go.Proofs.Ytdifmgeicnndfaa.opp
namespace Go.Proofs.Ytdifmgeicnndfaa.word
open Go.RowKit
open words
end Go.Proofs.Ytdifmgeicnndfaa.word
namespace Go.Proofs.Ytdifmgeicnndfaa.num
def takeGo (i n : Nat) : List Nat → Nat × Nat × Nat
 | [] => (0, 0, 2)
 | c :: r => if i = 9 ∧ 1 < c then (0, 0, 1)
  else if 128 ≤ c then takeGo (i + 1) (n + c % 128 * 128 ^ i) r
  else if c = 0 ∧ 0 < i then (0, 0, 1) else (n + c * 128 ^ i, i + 1, 0)
def takeAt (l : List Nat) (p : Int) : Nat × Nat × Nat :=
 if p < 0 ∨ (l.length : Int) < p then (0, 0, 12)
 else
  let r := takeGo 0 0 (l.drop p.toNat)
  (r.1, if r.2.2 = 0 then p.toNat + r.2.1 else 0, r.2.2)
def more (acc : List Nat) (s : List Nat × Nat) : List Nat × Nat := if s.2 ≠ 0 then ([], s.2) else (acc ++ s.1, 0)
end Go.Proofs.Ytdifmgeicnndfaa.num
namespace Go.Proofs.Ytdifmgeicnndfaa.crcnum
theorem xor_zero_eq {a b : Nat} (h : a ^^^ b = 0) : a = b := by
 have e : a ^^^ b ^^^ b = a := by rw [Nat.xor_assoc, Nat.xor_self, Nat.xor_zero]
 rw [h, Nat.zero_xor] at e
 exact e.symm
def half (n : Nat) : Nat := n / 2 ^^^ (if n % 2 = 1 then 3988292384 else 0)
def halfs : Nat → Nat → Nat
 | 0, n => n
 | k + 1, n => halfs k (half n)
def step (s c : Nat) : Nat := halfs 8 (s ^^^ c)
def addL (s : Nat) (l : List Nat) : Nat := l.foldl step s
theorem half_xor (a b : Nat) : half (a ^^^ b) = half a ^^^ half b := by
 unfold half
 have e1 : (a ^^^ b) / 2 = a / 2 ^^^ b / 2 := Nat.xor_div_two
 have e2 : (a ^^^ b) % 2 = (a + b) % 2 := by
  have h := Nat.xor_mod_two_pow (a := a) (b := b) (n := 1)
  rw [Nat.pow_one] at h
  rw [h, Nat.add_mod]
  rcases Nat.mod_two_eq_zero_or_one a with ha | ha <;> rcases Nat.mod_two_eq_zero_or_one b with hb | hb <;> rw [ha, hb] <;> rfl
 rw [e1, e2]
 rcases Nat.mod_two_eq_zero_or_one a with ha | ha <;> rcases Nat.mod_two_eq_zero_or_one b with hb | hb
 ·rw [if_neg (by omega), if_neg (by omega), if_neg (by omega)]; simp
 ·rw [if_pos (by omega), if_neg (by omega), if_pos (by omega)]; simp [Nat.xor_assoc]
 ·rw [if_pos (by omega), if_pos (by omega), if_neg (by omega), Nat.xor_zero, Nat.xor_assoc, Nat.xor_assoc, Nat.xor_comm (b / 2)]
 ·rw [if_neg (by omega), if_pos (by omega), if_pos (by omega)]
  have : ∀ x y p : Nat, x ^^^ p ^^^ (y ^^^ p) = x ^^^ y := fun x y p => by
   rw [Nat.xor_assoc, Nat.xor_comm y p, ← Nat.xor_assoc p p y, Nat.xor_self, Nat.zero_xor]
  rw [this]; simp
theorem half_even (x : Nat) : half (2 * x) = x := by
 unfold half
 rw [if_neg (by omega), Nat.mul_div_cancel_left x (by omega)]; simp
theorem half_lt (n : Nat) (h : n < 2 ^ 32) : half n < 2 ^ 32 := by
 unfold half
 refine Nat.xor_lt_two_pow (by omega) ?_
 split <;> omega
theorem half_zero {n : Nat} (h : n < 2 ^ 32) (h0 : half n = 0) : n = 0 := by
 unfold half at h0
 by_cases ho : n % 2 = 1
 ·rw [if_pos ho] at h0
  have := xor_zero_eq h0
  omega
 ·rw [if_neg ho, Nat.xor_zero] at h0
  omega
theorem halfs_xor (k a b : Nat) : halfs k (a ^^^ b) = halfs k a ^^^ halfs k b := by
 induction k generalizing a b with
 | zero => rfl
 | succ k ih => simp only [halfs]; rw [half_xor, ih]
theorem halfs_even (k x : Nat) : halfs k (2 ^ k * x) = x := by
 induction k generalizing x with
 | zero => simp [halfs]
 | succ k ih => simp only [halfs]; rw [Nat.pow_succ, Nat.mul_comm (2 ^ k) 2, Nat.mul_assoc, half_even, ih]
theorem halfs_lt (k n : Nat) (h : n < 2 ^ 32) : halfs k n < 2 ^ 32 := by
 induction k generalizing n with
 | zero => exact h
 | succ k ih => exact ih _ (half_lt n h)
theorem halfs_zero (k : Nat) {n : Nat} (h : n < 2 ^ 32) (h0 : halfs k n = 0) : n = 0 := by
 induction k generalizing n with
 | zero => exact h0
 | succ k ih => exact half_zero h (ih (half_lt n h) h0)
theorem halfs_add (j k n : Nat) : halfs (j + k) n = halfs k (halfs j n) := by
 induction j generalizing n with
 | zero => simp [halfs]
 | succ j ih => rw [Nat.succ_add]; simp only [halfs]; rw [ih]
theorem halfs_nought (k : Nat) : halfs k 0 = 0 := by
 have := halfs_even k 0
 simpa using this
theorem join16 (x k : Nat) (hk : k < 16) : 16 * x + k = 16 * x ^^^ k := by
 have h := Nat.two_pow_add_eq_or_of_lt (i := 4) (b := k) (by omega) x
 have h2 : 16 * x ||| k = 16 * x ^^^ k := by
  apply Nat.eq_of_testBit_eq
  intro i
  rw [Nat.testBit_or, Nat.testBit_xor]
  by_cases hi : i < 4
  ·have : (16 * x).testBit i = false := by
    have := Nat.testBit_two_pow_mul (i := 4) (a := x) (j := i)
    rw [show (2 : Nat) ^ 4 = 16 from rfl] at this
    rw [this]; simp; omega
   rw [this]; simp
  ·have : k.testBit i = false := Nat.testBit_lt_two_pow (Nat.lt_of_lt_of_le hk (by
    calc 16 = 2 ^ 4 := rfl
     _ ≤ 2 ^ i := Nat.pow_le_pow_right (by omega) (by omega)))
   rw [this]; simp
 rw [show (2 : Nat) ^ 4 = 16 from rfl] at h
 rw [h, h2]
theorem four (n : Nat) : halfs 4 n = n / 16 ^^^ halfs 4 (n % 16) := by
 have e : n = 16 * (n / 16) ^^^ n % 16 := by
  rw [← join16 (n / 16) (n % 16) (by omega)]; omega
 have h : halfs 4 n = halfs 4 (16 * (n / 16) ^^^ n % 16) := by rw [← e]
 rw [h, halfs_xor]
 congr 1
 exact halfs_even 4 (n / 16)
def T (k : Nat) : Nat := halfs 4 k
theorem addL_app (s : Nat) (a b : List Nat) : addL s (a ++ b) = addL (addL s a) b := List.foldl_append
def word : List Nat → Nat
 | [] => 0
 | c :: l => c ^^^ (256 * word l)
theorem word_lt (n : Nat) (l : List Nat) (hn : l.length ≤ n) (hl : ∀ c ∈ l, c < 256) : word l < 2 ^ (8 * n) := by
 induction l generalizing n with
 | nil => simp only [word]; exact Nat.pow_pos (by omega)
 | cons c l ih =>
  obtain ⟨m, rfl⟩ : ∃ m, n = m + 1 := ⟨n - 1, by simp at hn; omega⟩
  have := ih m (by simpa using hn) (fun d hd => hl d (by simp [hd]))
  simp only [word]
  rw [Nat.mul_add, Nat.pow_add]
  have hp : 0 < 2 ^ (8 * m) := Nat.pow_pos (by omega)
  have hc := hl c (by simp)
  rw [← Nat.pow_add]
  refine Nat.xor_lt_two_pow (Nat.lt_of_lt_of_le hc (by rw [show (256 : Nat) = 2 ^ 8 from rfl]; exact Nat.pow_le_pow_right (by omega) (by omega))) ?_
  rw [Nat.pow_add]; omega
theorem word_zero (l : List Nat) (hl : ∀ c ∈ l, c < 256) (h : word l = 0) : ∀ c ∈ l, c = 0 := by
 induction l with
 | nil => simp
 | cons c l ih =>
  have e := xor_zero_eq h
  have hc := hl c (by simp)
  intro d hd
  rcases List.mem_cons.1 hd with rfl | hd
  ·omega
  ·exact ih (fun x hx => hl x (by simp [hx])) (by omega) d hd
theorem addL_word (l : List Nat) (s : Nat) : addL s l = halfs (8 * l.length) (s ^^^ word l) := by
 induction l generalizing s with
 | nil => simp [addL, word, halfs]
 | cons c l ih =>
  have h : addL s (c :: l) = addL (step s c) l := rfl
  rw [h, ih, List.length_cons, Nat.mul_add, Nat.add_comm, Nat.mul_one, halfs_add]
  have key : halfs 8 (s ^^^ word (c :: l)) = step s c ^^^ word l := by
   show halfs 8 (s ^^^ (c ^^^ (256 * word l))) = halfs 8 (s ^^^ c) ^^^ word l
   rw [← Nat.xor_assoc, halfs_xor 8 (s ^^^ c) (256 * word l)]
   have e := halfs_even 8 (word l)
   rw [show (2 : Nat) ^ 8 = 256 from rfl] at e
   rw [e]
  rw [key]
theorem addL_noughts (s k : Nat) : addL s (List.replicate k 0) = halfs (8 * k) s := by
 have hw : ∀ k, word (List.replicate k 0) = 0 := by
  intro k
  induction k with
  | zero => rfl
  | succ k ih => simp only [List.replicate_succ, word, ih]; rfl
 rw [addL_word, hw]; simp
theorem turned (i j : Nat) (l : List Nat) (hn : l.length ≤ 4) (hl : ∀ c ∈ l, c < 256) (h : addL 0 (List.replicate i 0 ++ l ++ List.replicate j 0) = 0) : ∀ c ∈ l, c = 0 := by
 rw [addL_app, addL_app, addL_noughts, addL_noughts, halfs_nought, addL_word, Nat.zero_xor] at h
 have h1 := word_lt 4 l hn hl
 exact word_zero l hl (halfs_zero _ h1 (halfs_zero _ (halfs_lt _ _ h1) h))
end Go.Proofs.Ytdifmgeicnndfaa.crcnum
namespace Go.Proofs.Ytdifmgeicnndfaa.crc
open Go.RowKit
open crcnum words
end Go.Proofs.Ytdifmgeicnndfaa.crc
namespace Go.Proofs.Ytdifmgeicnndfaa.put
open Go.RowKit
open num words
end Go.Proofs.Ytdifmgeicnndfaa.put
namespace Go.Proofs.Ytdifmgeicnndfaa.take
open Go.RowKit
open num words
theorem fin {l L : List Nat} {k j y d : Nat} {r : List Nat} (hk : k ≤ l.length) (hL : l.drop k = L) (ht : takeGo 0 0 L = takeGo j y (L.drop j)) (hd : L.drop j = d :: r) {x q e : Nat}
  (h : takeGo j y (d :: r) = (x, q, e)) : takeAt l k = (x, if e = 0 then k + q else 0, e) := by
 unfold takeAt
 rw [if_neg (by omega)]
 simp only [Int.toNat_natCast, hL, ht, hd, h]
end Go.Proofs.Ytdifmgeicnndfaa.take
namespace Go.Proofs.Ytdifmgeicnndfaa.sealing
open Go.RowKit
open crcnum words
def F (s : Nat) : Value := .agg #[.int .u8 ((s % 256 : Nat) : Int), .int .u8 ((s / 256 % 256 : Nat) : Int), .int .u8 ((s / 65536 % 256 : Nat) : Int), .int .u8 ((s / 16777216 % 256 : Nat) : Int)]
end Go.Proofs.Ytdifmgeicnndfaa.sealing
namespace Go.Proofs.Ytdifmgeicnndfaa.sealing
open Go.RowKit
open crcnum words
end Go.Proofs.Ytdifmgeicnndfaa.sealing
namespace Go.Proofs.Ytdifmgeicnndfaa.small
open Go.RowKit
open num words
end Go.Proofs.Ytdifmgeicnndfaa.small
namespace Go.Proofs.Ytdifmgeicnndfaa.sealing
open Go.RowKit
open crcnum words
end Go.Proofs.Ytdifmgeicnndfaa.sealing
namespace Go.Proofs.Ytdifmgeicnndfaa.rdnum
open num sealing
set_option maxRecDepth 100000
structure Rs where
 l : List Nat
 p : Nat
 e : Int
 f : Nat
def Rs.fail (s : Rs) (e : Int) : Rs := if s.e ≠ 0 ∨ e = 0 then s else { s with e := e, f := s.p }
structure Rs.Ok (s : Rs) : Prop where
 le : s.p ≤ s.l.length
 len : s.l.length ≤ 140737488355328
 byte : ∀ x ∈ s.l, x < 256
 fe : s.e = 0 → s.f = 0
end Go.Proofs.Ytdifmgeicnndfaa.rdnum
namespace Go.Proofs.Ytdifmgeicnndfaa.rdr
open Go.RowKit
open num words rdnum
set_option maxRecDepth 100000
def Bs (w : World) (A : Option Addr) (l : List Nat) : Prop :=
 l = [] ∨ ∃ a, A = some a ∧ (∃ cs f, w.heap[a.block]? = some (.cells cs 5 f)) ∧ ∀ j u, (B l)[j]? = some u → w.cell? (a.add j) = some u
theorem Bs.rd {w : World} {A : Option Addr} {l : List Nat} (h : Bs w A l) : Rd w A (B l) := by
 rcases h with rfl | ⟨a, rfl, ⟨cs, f, hh⟩, hc⟩
 ·exact .inl rfl
 ·exact .inr ⟨a, rfl, blk_lt hh, hc⟩
theorem Bs.nil (w : World) (A : Option Addr) : Bs w A [] := .inl rfl
theorem Bs.kept {w w' : World} {A : Option Addr} {l : List Nat} (h : Bs w A l) {r : Option Nat} (hg : w.grownBy w' r) (hr : ∀ b cs f, r = some b → w.heap[b]? ≠ some (.cells cs 5 f)) : Bs w' A l := by
 rcases h with rfl | ⟨a, rfl, ⟨cs, f, hh⟩, hc⟩
 ·exact .inl rfl
 ·have hb : w'.heap[a.block]? = w.heap[a.block]? := hg.block _ (blk_lt hh) (fun e => hr _ cs f e.symm hh)
  refine .inr ⟨a, rfl, ⟨cs, f, hb.trans hh⟩, fun j u hu => ?_⟩
  rw [← hc j u hu]
  exact World.cell?_of_block (by rw [add_block]; exact hb)
theorem Bs.take {w : World} {A : Option Addr} {l : List Nat} (h : Bs w A l) (k : Nat) : Bs w A (l.take k) := by
 rcases h with rfl | ⟨a, rfl, hh, hc⟩
 ·exact .inl (by simp)
 ·refine .inr ⟨a, rfl, hh, fun j u hu => hc j u ?_⟩
  rw [← B_take, List.getElem?_take] at hu
  split at hu
  ·exact hu
  ·cases hu
theorem Bs.below {w w' : World} {A : Option Addr} {l : List Nat} (h : Bs w A l) (hb : Below w.heap.size w w') : Bs w' A l :=
 h.kept (r := none) ⟨hb.os, hb.tape, hb.output, hb.size, fun k hk _ => hb.block k hk⟩ (fun _ _ _ h => by cases h)
abbrev But (b : Nat) (w w' : World) : Prop := w.grownBy w' (some b)
theorem But.refl (b : Nat) (w : World) : But b w w := ⟨rfl, rfl, rfl, Nat.le_refl _, fun _ _ _ => rfl⟩
theorem But.trans {b : Nat} {w w1 w2 : World} (h : But b w w1) (k : But b w1 w2) : But b w w2 :=
 ⟨k.os.trans h.os, k.tape.trans h.tape, k.output.trans h.output, Nat.le_trans h.size k.size, fun i hi hr => (k.block i (Nat.lt_of_lt_of_le hi h.size) hr).trans (h.block i hi hr)⟩
theorem But.alloc {b : Nat} {w w1 : World} (h : But b w w1) (o : Obj) : But b w (w1.alloc o) := h.trans (World.grownBy_alloc w1 o _)
theorem But.set {b : Nat} {w w1 : World} (h : But b w w1) (i : Nat) (v : Value) : But b w (w1.setCell ⟨b, i, none⟩ v) := h.trans (Lib.grownBy_setCell w1 b i v)
theorem But.drewN {b n : Nat} {w w1 : World} (h : But b w w1) : But b w (w1.drewN n) := ⟨h.os, h.tape, h.output, h.size, h.block⟩
theorem But.of {b : Nat} {w w1 : World} (h : Below w.heap.size w w1) : But b w w1 := ⟨h.os, h.tape, h.output, h.size, fun k hk _ => h.block k hk⟩
theorem But.below {b B : Nat} {w w1 : World} (h : But b w w1) (h1 : B ≤ b) (h2 : B ≤ w.heap.size) : Below B w w1 :=
 ⟨h.os, h.tape, h.output, h.size, fun k hk => h.block k (by omega) (fun e => by cases e; omega)⟩
theorem But.heap {b c : Nat} {w w1 : World} (h : But b w w1) {o : Obj} (hc : w.heap[c]? = some o) (hne : c ≠ b) : w1.heap[c]? = some o :=
 (h.block c (blk_lt hc) (fun e => hne (by cases e; rfl))).trans hc
end Go.Proofs.Ytdifmgeicnndfaa.rdr
namespace Go.Proofs.Ytdifmgeicnndfaa.give
open Go.RowKit
open num words rdnum rdr
set_option maxRecDepth 100000
end Go.Proofs.Ytdifmgeicnndfaa.give
namespace Go.Proofs.Ytdifmgeicnndfaa.give
open Go.RowKit
open num words rdnum rdr sealing
set_option maxRecDepth 100000
def S (l : List Nat) : Value := .string ⟨(l.map UInt8.ofNat).toArray⟩
end Go.Proofs.Ytdifmgeicnndfaa.give
namespace Go.Proofs.Ytdifmgeicnndfaa.give
open Go.RowKit
open num words rdnum rdr sealing
set_option maxRecDepth 100000
end Go.Proofs.Ytdifmgeicnndfaa.give
namespace Go.Proofs.Ytdifmgeicnndfaa.catching
open Go.RowKit
open num words rdnum rdr give
set_option maxRecDepth 100000
end Go.Proofs.Ytdifmgeicnndfaa.catching
namespace Go.Proofs.Ytdifmgeicnndfaa.reading
open Go.RowKit
open num words rdnum rdr give catching
set_option maxRecDepth 100000
end Go.Proofs.Ytdifmgeicnndfaa.reading
namespace Go.Proofs.Ytdifmgeicnndfaa.meth
open Go.RowKit
open num words rdnum rdr give reading
set_option maxRecDepth 100000
end Go.Proofs.Ytdifmgeicnndfaa.meth
namespace Go.Proofs.Ytdifmgeicnndfaa.meth
open Go.RowKit
open num words rdnum rdr give reading
set_option maxRecDepth 100000
def left (s : Rs) : Int := if s.e ≠ 0 then 0 else (s.l.length : Int) - s.p
end Go.Proofs.Ytdifmgeicnndfaa.meth
namespace Go.Proofs.Ytdifmgeicnndfaa.write
open Go.RowKit
open num words rdnum rdr give reading meth sealing crcnum
set_option maxRecDepth 100000
end Go.Proofs.Ytdifmgeicnndfaa.write
namespace Go.Proofs.Ytdifmgeicnndfaa.word
open Go.RowKit
open num words give write
end Go.Proofs.Ytdifmgeicnndfaa.word
namespace Go.Proofs.Ytdifmgeicnndfaa.word
open Go.RowKit
open num words give write
end Go.Proofs.Ytdifmgeicnndfaa.word
namespace Go.Proofs.Ytdifmgeicnndfaa.kindp
end Go.Proofs.Ytdifmgeicnndfaa.kindp
namespace Go.Proofs.Ytdifmgeicnndfaa.kind
open Go.RowKit
open words kindp word
end Go.Proofs.Ytdifmgeicnndfaa.kind
namespace Go.Proofs.Ytdifmgeicnndfaa.kind
open Go.RowKit
open words kindp word
end Go.Proofs.Ytdifmgeicnndfaa.kind

namespace Go.Proofs.Ytdifmgeicnndfaa.kind
open Go.RowKit
open words kindp word
end Go.Proofs.Ytdifmgeicnndfaa.kind
namespace Go.Proofs.Ytdifmgeicnndfaa.op
open Go.RowKit
open words kindp opp
end Go.Proofs.Ytdifmgeicnndfaa.op
namespace Go.Proofs.Ytdifmgeicnndfaa.op
open Go.RowKit
open words kindp opp
def IL (l : List Int) : List Value := l.map fun z => Value.int .i64 z
section
variable {w : World} {b t : Nat} {j : In} {A : Option Addr} {c : Nat}
end
end Go.Proofs.Ytdifmgeicnndfaa.op
namespace Go.Proofs.Ytdifmgeicnndfaa.kind
open Go.RowKit
open words kindp word
end Go.Proofs.Ytdifmgeicnndfaa.kind
namespace Go.Proofs.Ytdifmgeicnndfaa.kind
open Go.RowKit
open words kindp word
end Go.Proofs.Ytdifmgeicnndfaa.kind
namespace Go.Proofs.Ytdifmgeicnndfaa.kind
open Go.RowKit
open words kindp word rdr
end Go.Proofs.Ytdifmgeicnndfaa.kind
namespace Go.Proofs.Ytdifmgeicnndfaa.kind
open Go.RowKit
open words kindp
end Go.Proofs.Ytdifmgeicnndfaa.kind
namespace Go.Proofs.Ytdifmgeicnndfaa.kind
open Go.RowKit
open words kindp word piece rdr
end Go.Proofs.Ytdifmgeicnndfaa.kind
namespace Go.Proofs.Ytdifmgeicnndfaa.kind
open Go.RowKit
open words kindp word rdr
end Go.Proofs.Ytdifmgeicnndfaa.kind
namespace Go.Proofs.Ytdifmgeicnndfaa.kind
open Go.RowKit
open words kindp word rdr
set_option maxRecDepth 100000
def Idx {α : Type} (P : α → Bool) (p : List α) (r : Int) : Prop := (r = -1 ∧ ∀ x ∈ p, P x = false) ∨ ∃ (i : Nat) (x : α), r = (i : Int) ∧ p[i]? = some x ∧ P x = true ∧ ∀ y ∈ p.take i, P y = false
theorem take_more {α : Type} {P : α → Bool} {p : List α} {k : Nat} {x : α} (h : ∀ y ∈ p.take k, P y = false) (hx : p[k]? = some x) (hp : P x = false) : ∀ y ∈ p.take (k + 1), P y = false := by
 intro y hy
 rw [List.take_add_one, hx] at hy
 rcases List.mem_append.1 hy with h1 | h1
 ·exact h y h1
 ·simp at h1; rw [h1]; exact hp
end Go.Proofs.Ytdifmgeicnndfaa.kind
namespace Go.Proofs.Ytdifmgeicnndfaa.kind
open Go.RowKit
open words kindp word rdr
set_option maxRecDepth 100000
end Go.Proofs.Ytdifmgeicnndfaa.kind
namespace Go.Proofs.Ytdifmgeicnndfaa.kind
open Go.RowKit
open words kindp word rdr
set_option maxRecDepth 100000
end Go.Proofs.Ytdifmgeicnndfaa.kind
namespace Go.Proofs.Ytdifmgeicnndfaa.kind
open Go.RowKit
open words kindp word rdr
set_option maxRecDepth 100000
end Go.Proofs.Ytdifmgeicnndfaa.kind
namespace Go.Proofs.Ytdifmgeicnndfaa.kind
open Go.RowKit
open words kindp word rdr
set_option maxRecDepth 100000
def SX (l : List Tx) : List Value := l.map fun x => .string ⟨x.toArray⟩
theorem SX_app (a b : List Tx) : SX (a ++ b) = SX a ++ SX b := by simp [SX]
theorem infoX : (Try.prog.info? 9).map (fun i => (i.zero, i.size, i.bytes)) = some (some (.string ⟨#[]⟩), 1, 16) := by kernel_rfl
end Go.Proofs.Ytdifmgeicnndfaa.kind
namespace Go.Proofs.Ytdifmgeicnndfaa.prg
open Go.RowKit
open words kindp opp op kind
structure InM where
 i : In
 A : Option Addr
 c : Nat
structure FiM where
 nm : Tx
 k : Int
 cl : Tx
 st : Bool
structure MeM where
 nm : Tx
 ds : Tx
 st : Bool
 ab : Bool
 rg : Int
 co : List InM
 A : Option Addr
 c : Nat
structure ClM where
 nm : Tx
 su : Tx
 fc : Bool
 ab : Bool
 is : List Tx
 A1 : Option Addr
 c1 : Nat
 fs : List FiM
 A2 : Option Addr
 c2 : Nat
 ms : List MeM
 A3 : Option Addr
 c3 : Nat
structure PrM where
 cs : List ClM
 A1 : Option Addr
 c1 : Nat
 ns : List Tx
 A2 : Option Addr
 c2 : Nat
 ec : Tx
 en : Tx
 ed : Tx
def inC (x : InM) : List Value := [.int .i64 x.i.o, .int .i64 x.i.a, .int .i64 x.i.b, .int .i64 x.i.c, .int .i64 x.i.k, .string ⟨x.i.cl.toArray⟩, .string ⟨x.i.nm.toArray⟩, .string ⟨x.i.ds.toArray⟩, .slice x.A x.i.ar.length x.c]
def fiC (x : FiM) : List Value := [.string ⟨x.nm.toArray⟩, .int .i64 x.k, .string ⟨x.cl.toArray⟩, .bool x.st]
def meC (x : MeM) : List Value := [.string ⟨x.nm.toArray⟩, .string ⟨x.ds.toArray⟩, .bool x.st, .bool x.ab, .int .i64 x.rg, .slice x.A x.co.length x.c]
def clC (x : ClM) : List Value := [.string ⟨x.nm.toArray⟩, .string ⟨x.su.toArray⟩, .bool x.fc, .bool x.ab, .slice x.A1 x.is.length x.c1, .slice x.A2 x.fs.length x.c2, .slice x.A3 x.ms.length x.c3]
def prC (x : PrM) : List Value := [.slice x.A1 x.cs.length x.c1, .slice x.A2 x.ns.length x.c2, .string ⟨x.ec.toArray⟩, .string ⟨x.en.toArray⟩, .string ⟨x.ed.toArray⟩]
def InOk (w : World) (x : InM) : Prop := x.i.ar.length ≤ x.c ∧ Rd w x.A (IL x.i.ar)
def MeOk (w : World) (x : MeM) : Prop := x.co.length ≤ x.c ∧ Rd w x.A (x.co.flatMap inC) ∧ ∀ y ∈ x.co, InOk w y
def ClOk (w : World) (x : ClM) : Prop := (x.is.length ≤ x.c1 ∧ Rd w x.A1 (SX x.is)) ∧ (x.fs.length ≤ x.c2 ∧ Rd w x.A2 (x.fs.flatMap fiC)) ∧ (x.ms.length ≤ x.c3 ∧ Rd w x.A3 (x.ms.flatMap meC)) ∧ ∀ y ∈ x.ms, MeOk w y
def PrOk (w : World) (x : PrM) : Prop := (x.cs.length ≤ x.c1 ∧ Rd w x.A1 (x.cs.flatMap clC)) ∧ (x.ns.length ≤ x.c2 ∧ Rd w x.A2 (SX x.ns)) ∧ ∀ y ∈ x.cs, ClOk w y
theorem InOk.below {w w' : World} {x : InM} (h : InOk w x) (hb : Below w.heap.size w w') : InOk w' x := ⟨h.1, h.2.below hb⟩
theorem MeOk.below {w w' : World} {x : MeM} (h : MeOk w x) (hb : Below w.heap.size w w') : MeOk w' x := ⟨h.1, h.2.1.below hb, fun y hy => (h.2.2 y hy).below hb⟩
theorem ClOk.below {w w' : World} {x : ClM} (h : ClOk w x) (hb : Below w.heap.size w w') : ClOk w' x := ⟨⟨h.1.1, h.1.2.below hb⟩, ⟨h.2.1.1, h.2.1.2.below hb⟩, ⟨h.2.2.1.1, h.2.2.1.2.below hb⟩, fun y hy => (h.2.2.2 y hy).below hb⟩
theorem PrOk.below {w w' : World} {x : PrM} (h : PrOk w x) (hb : Below w.heap.size w w') : PrOk w' x := ⟨⟨h.1.1, h.1.2.below hb⟩, ⟨h.2.1.1, h.2.1.2.below hb⟩, fun y hy => (h.2.2 y hy).below hb⟩
def InBd (x : InM) : Prop := x.i.ar.length ≤ 140737488351232 ∧ x.i.cl.length ≤ 140737488351232 ∧ x.i.nm.length ≤ 140737488351232 ∧ x.i.ds.length ≤ 140737488351232
def FiBd (x : FiM) : Prop := x.nm.length ≤ 140737488351232 ∧ x.cl.length ≤ 140737488351232
def MeBd (x : MeM) : Prop := x.nm.length ≤ 140737488351232 ∧ x.ds.length ≤ 140737488351232 ∧ x.co.length ≤ 140737488351232 ∧ ∀ y ∈ x.co, InBd y
def ClBd (x : ClM) : Prop := x.nm.length ≤ 140737488351232 ∧ x.su.length ≤ 140737488351232 ∧ (x.is.length ≤ 140737488351232 ∧ ∀ y ∈ x.is, y.length ≤ 140737488351232) ∧ (x.fs.length ≤ 140737488351232 ∧ ∀ y ∈ x.fs, FiBd y) ∧ (x.ms.length ≤ 140737488351232 ∧ ∀ y ∈ x.ms, MeBd y)
def PrBd (x : PrM) : Prop := (x.cs.length ≤ 140737488351232 ∧ ∀ y ∈ x.cs, ClBd y) ∧ (x.ns.length ≤ 140737488351232 ∧ ∀ y ∈ x.ns, y.length ≤ 140737488351232) ∧ x.ec.length ≤ 140737488351232 ∧ x.en.length ≤ 140737488351232 ∧ x.ed.length ≤ 140737488351232
theorem flat_len {α : Type} {f : α → List Value} {k : Nat} (hf : ∀ x, (f x).length = k) : ∀ l : List α, (l.flatMap f).length = l.length * k
 | [] => by simp
 | x :: l => by rw [List.flatMap_cons, List.length_append, hf, flat_len hf l, List.length_cons, Nat.succ_mul, Nat.add_comm]
theorem flat_at {α : Type} {f : α → List Value} {k : Nat} (hf : ∀ x, (f x).length = k) : ∀ {l : List α} {i : Nat} {x : α} {t : Nat} {u : Value}, l[i]? = some x → (f x)[t]? = some u → (l.flatMap f)[i * k + t]? = some u
 | [], _, _, _, _, h, _ => by simp at h
 | y :: l, 0, x, t, u, h, hu => by
  simp at h; subst h
  rw [List.flatMap_cons, Nat.zero_mul, Nat.zero_add, List.getElem?_append_left (List.getElem?_eq_some_iff.1 hu).1]
  exact hu
 | y :: l, i + 1, x, t, u, h, hu => by
  rw [List.flatMap_cons, List.getElem?_append_right (by rw [hf, Nat.succ_mul]; omega), hf, show (i + 1) * k + t - k = i * k + t by rw [Nat.succ_mul]; omega]
  exact flat_at hf (by simpa using h) hu
theorem flat_cell {α : Type} {f : α → List Value} {k : Nat} (hf : ∀ x, (f x).length = k) (hk : 0 < k) {w : World} {A : Option Addr} {l : List α} (h : Rd w A (l.flatMap f)) {i : Nat} {x : α} (hi : l[i]? = some x) :
  ∃ a, A = some a ∧ a.block < w.heap.size ∧ (∀ u, (f x)[0]? = some u → w.cell? (a.add (i * k)) = some u) ∧ ∀ t u, 0 < t → (f x)[t]? = some u → w.cell? ⟨(a.add (i * k)).block, (a.add (i * k)).off + t, none⟩ = some u := by
 obtain ⟨u0, hu0⟩ : ∃ u, (f x)[0]? = some u := ⟨_, List.getElem?_eq_getElem (by rw [hf]; exact hk)⟩
 obtain ⟨a, rfl, hb, -⟩ := h.at_ (flat_at hf hi hu0)
 refine ⟨a, rfl, hb, fun u hu => ?_, fun t u ht hu => ?_⟩
 ·obtain ⟨a', e, _, hc⟩ := h.at_ (flat_at hf hi hu)
  cases e
  simpa using hc
 ·obtain ⟨a', e, _, hc⟩ := h.at_ (flat_at hf hi hu)
  cases e
  rw [← add_add] at hc
  have e2 : (a.add (i * k)).add t = ⟨(a.add (i * k)).block, (a.add (i * k)).off + t, none⟩ := by
   rw [Addr.add, if_neg (by omega)]
  rw [e2] at hc
  exact hc
section
variable {w : World} {A : Option Addr} {i : Nat}
theorem in_at {l : List InM} (h : Rd w A (l.flatMap inC)) {x : InM} (hi : l[i]? = some x) : ∃ a, A = some a ∧ a.block < w.heap.size ∧ w.cell? (a.add (i * 9)) = some (.int .i64 x.i.o) ∧
  w.cell? ⟨(a.add (i * 9)).block, (a.add (i * 9)).off + 1, none⟩ = some (.int .i64 x.i.a) ∧ w.cell? ⟨(a.add (i * 9)).block, (a.add (i * 9)).off + 2, none⟩ = some (.int .i64 x.i.b) ∧ w.cell? ⟨(a.add (i * 9)).block, (a.add (i * 9)).off + 3, none⟩ = some (.int .i64 x.i.c) ∧
  w.cell? ⟨(a.add (i * 9)).block, (a.add (i * 9)).off + 4, none⟩ = some (.int .i64 x.i.k) ∧ w.cell? ⟨(a.add (i * 9)).block, (a.add (i * 9)).off + 5, none⟩ = some (.string ⟨x.i.cl.toArray⟩) ∧ w.cell? ⟨(a.add (i * 9)).block, (a.add (i * 9)).off + 6, none⟩ = some (.string ⟨x.i.nm.toArray⟩) ∧
  w.cell? ⟨(a.add (i * 9)).block, (a.add (i * 9)).off + 7, none⟩ = some (.string ⟨x.i.ds.toArray⟩) ∧ w.cell? ⟨(a.add (i * 9)).block, (a.add (i * 9)).off + 8, none⟩ = some (.slice x.A x.i.ar.length x.c) := by
 obtain ⟨a, rfl, hb, h0, h1⟩ := flat_cell (k := 9) (fun x => rfl) (by omega) h hi
 exact ⟨a, rfl, hb, h0 _ rfl, h1 1 _ (by omega) rfl, h1 2 _ (by omega) rfl, h1 3 _ (by omega) rfl, h1 4 _ (by omega) rfl, h1 5 _ (by omega) rfl, h1 6 _ (by omega) rfl, h1 7 _ (by omega) rfl, h1 8 _ (by omega) rfl⟩
theorem fi_at {l : List FiM} (h : Rd w A (l.flatMap fiC)) {x : FiM} (hi : l[i]? = some x) : ∃ a, A = some a ∧ a.block < w.heap.size ∧ w.cell? (a.add (i * 4)) = some (.string ⟨x.nm.toArray⟩) ∧
  w.cell? ⟨(a.add (i * 4)).block, (a.add (i * 4)).off + 1, none⟩ = some (.int .i64 x.k) ∧ w.cell? ⟨(a.add (i * 4)).block, (a.add (i * 4)).off + 2, none⟩ = some (.string ⟨x.cl.toArray⟩) ∧ w.cell? ⟨(a.add (i * 4)).block, (a.add (i * 4)).off + 3, none⟩ = some (.bool x.st) := by
 obtain ⟨a, rfl, hb, h0, h1⟩ := flat_cell (k := 4) (fun x => rfl) (by omega) h hi
 exact ⟨a, rfl, hb, h0 _ rfl, h1 1 _ (by omega) rfl, h1 2 _ (by omega) rfl, h1 3 _ (by omega) rfl⟩
theorem me_at {l : List MeM} (h : Rd w A (l.flatMap meC)) {x : MeM} (hi : l[i]? = some x) : ∃ a, A = some a ∧ a.block < w.heap.size ∧ w.cell? (a.add (i * 6)) = some (.string ⟨x.nm.toArray⟩) ∧
  w.cell? ⟨(a.add (i * 6)).block, (a.add (i * 6)).off + 1, none⟩ = some (.string ⟨x.ds.toArray⟩) ∧ w.cell? ⟨(a.add (i * 6)).block, (a.add (i * 6)).off + 2, none⟩ = some (.bool x.st) ∧ w.cell? ⟨(a.add (i * 6)).block, (a.add (i * 6)).off + 3, none⟩ = some (.bool x.ab) ∧
  w.cell? ⟨(a.add (i * 6)).block, (a.add (i * 6)).off + 4, none⟩ = some (.int .i64 x.rg) ∧ w.cell? ⟨(a.add (i * 6)).block, (a.add (i * 6)).off + 5, none⟩ = some (.slice x.A x.co.length x.c) := by
 obtain ⟨a, rfl, hb, h0, h1⟩ := flat_cell (k := 6) (fun x => rfl) (by omega) h hi
 exact ⟨a, rfl, hb, h0 _ rfl, h1 1 _ (by omega) rfl, h1 2 _ (by omega) rfl, h1 3 _ (by omega) rfl, h1 4 _ (by omega) rfl, h1 5 _ (by omega) rfl⟩
theorem cl_at {l : List ClM} (h : Rd w A (l.flatMap clC)) {x : ClM} (hi : l[i]? = some x) : ∃ a, A = some a ∧ a.block < w.heap.size ∧ w.cell? (a.add (i * 7)) = some (.string ⟨x.nm.toArray⟩) ∧
  w.cell? ⟨(a.add (i * 7)).block, (a.add (i * 7)).off + 1, none⟩ = some (.string ⟨x.su.toArray⟩) ∧ w.cell? ⟨(a.add (i * 7)).block, (a.add (i * 7)).off + 2, none⟩ = some (.bool x.fc) ∧ w.cell? ⟨(a.add (i * 7)).block, (a.add (i * 7)).off + 3, none⟩ = some (.bool x.ab) ∧
  w.cell? ⟨(a.add (i * 7)).block, (a.add (i * 7)).off + 4, none⟩ = some (.slice x.A1 x.is.length x.c1) ∧ w.cell? ⟨(a.add (i * 7)).block, (a.add (i * 7)).off + 5, none⟩ = some (.slice x.A2 x.fs.length x.c2) ∧ w.cell? ⟨(a.add (i * 7)).block, (a.add (i * 7)).off + 6, none⟩ = some (.slice x.A3 x.ms.length x.c3) := by
 obtain ⟨a, rfl, hb, h0, h1⟩ := flat_cell (k := 7) (fun x => rfl) (by omega) h hi
 exact ⟨a, rfl, hb, h0 _ rfl, h1 1 _ (by omega) rfl, h1 2 _ (by omega) rfl, h1 3 _ (by omega) rfl, h1 4 _ (by omega) rfl, h1 5 _ (by omega) rfl, h1 6 _ (by omega) rfl⟩
end
section
variable {w : World} {b t : Nat} {fz : Nat × Nat}
theorem fi_cells {x : FiM} (h : w.heap[b]? = some (.cells (fiC x).toArray t fz)) : w.cell? ⟨b, 0, none⟩ = some (.string ⟨x.nm.toArray⟩) ∧ w.cell? ⟨b, 1, none⟩ = some (.int .i64 x.k) ∧ w.cell? ⟨b, 2, none⟩ = some (.string ⟨x.cl.toArray⟩) ∧ w.cell? ⟨b, 3, none⟩ = some (.bool x.st) :=
 ⟨cell_of_row _ _ 0 _ _ _ h, cell_of_row _ _ 1 _ _ _ h, cell_of_row _ _ 2 _ _ _ h, cell_of_row _ _ 3 _ _ _ h⟩
theorem me_cells {x : MeM} (h : w.heap[b]? = some (.cells (meC x).toArray t fz)) : w.cell? ⟨b, 0, none⟩ = some (.string ⟨x.nm.toArray⟩) ∧ w.cell? ⟨b, 1, none⟩ = some (.string ⟨x.ds.toArray⟩) ∧ w.cell? ⟨b, 2, none⟩ = some (.bool x.st) ∧ w.cell? ⟨b, 3, none⟩ = some (.bool x.ab) ∧ w.cell? ⟨b, 4, none⟩ = some (.int .i64 x.rg) ∧ w.cell? ⟨b, 5, none⟩ = some (.slice x.A x.co.length x.c) :=
 ⟨cell_of_row _ _ 0 _ _ _ h, cell_of_row _ _ 1 _ _ _ h, cell_of_row _ _ 2 _ _ _ h, cell_of_row _ _ 3 _ _ _ h, cell_of_row _ _ 4 _ _ _ h, cell_of_row _ _ 5 _ _ _ h⟩
theorem cl_cells {x : ClM} (h : w.heap[b]? = some (.cells (clC x).toArray t fz)) : w.cell? ⟨b, 0, none⟩ = some (.string ⟨x.nm.toArray⟩) ∧ w.cell? ⟨b, 1, none⟩ = some (.string ⟨x.su.toArray⟩) ∧ w.cell? ⟨b, 2, none⟩ = some (.bool x.fc) ∧ w.cell? ⟨b, 3, none⟩ = some (.bool x.ab) ∧ w.cell? ⟨b, 4, none⟩ = some (.slice x.A1 x.is.length x.c1) ∧ w.cell? ⟨b, 5, none⟩ = some (.slice x.A2 x.fs.length x.c2) ∧ w.cell? ⟨b, 6, none⟩ = some (.slice x.A3 x.ms.length x.c3) :=
 ⟨cell_of_row _ _ 0 _ _ _ h, cell_of_row _ _ 1 _ _ _ h, cell_of_row _ _ 2 _ _ _ h, cell_of_row _ _ 3 _ _ _ h, cell_of_row _ _ 4 _ _ _ h, cell_of_row _ _ 5 _ _ _ h, cell_of_row _ _ 6 _ _ _ h⟩
theorem pr_cells {x : PrM} (h : w.heap[b]? = some (.cells (prC x).toArray t fz)) : w.cell? ⟨b, 0, none⟩ = some (.slice x.A1 x.cs.length x.c1) ∧ w.cell? ⟨b, 1, none⟩ = some (.slice x.A2 x.ns.length x.c2) ∧ w.cell? ⟨b, 2, none⟩ = some (.string ⟨x.ec.toArray⟩) ∧ w.cell? ⟨b, 3, none⟩ = some (.string ⟨x.en.toArray⟩) ∧ w.cell? ⟨b, 4, none⟩ = some (.string ⟨x.ed.toArray⟩) :=
 ⟨cell_of_row _ _ 0 _ _ _ h, cell_of_row _ _ 1 _ _ _ h, cell_of_row _ _ 2 _ _ _ h, cell_of_row _ _ 3 _ _ _ h, cell_of_row _ _ 4 _ _ _ h⟩
end
end Go.Proofs.Ytdifmgeicnndfaa.prg
namespace Go.Proofs.Ytdifmgeicnndfaa.op
open Go.RowKit
open words kindp opp
end Go.Proofs.Ytdifmgeicnndfaa.op
namespace Go.Proofs.Ytdifmgeicnndfaa.op
open Go.RowKit Go.Shelf
open words kindp opp
attribute [local go_sem] Oper.semAt_some
end Go.Proofs.Ytdifmgeicnndfaa.op
namespace Go.Proofs.Ytdifmgeicnndfaa.op
open Go.RowKit Go.Shelf
open words kindp opp
attribute [local go_sem] Oper.semAt_some
end Go.Proofs.Ytdifmgeicnndfaa.op
namespace Go.Proofs.Ytdifmgeicnndfaa.op
open Go.RowKit
open words kindp opp kind
end Go.Proofs.Ytdifmgeicnndfaa.op
namespace Go.Proofs.Ytdifmgeicnndfaa.op
open Go.RowKit
open words kindp opp kind
end Go.Proofs.Ytdifmgeicnndfaa.op
namespace Go.Proofs.Ytdifmgeicnndfaa.op
open Go.RowKit
open words kindp opp kind
end Go.Proofs.Ytdifmgeicnndfaa.op
namespace Go.Proofs.Ytdifmgeicnndfaa.op
open Go.RowKit
open words kindp opp kind
end Go.Proofs.Ytdifmgeicnndfaa.op
namespace Go.Proofs.Ytdifmgeicnndfaa.op
open Go.RowKit Go.Shelf
open words kindp opp kind
attribute [local go_sem] Oper.semAt_some
end Go.Proofs.Ytdifmgeicnndfaa.op
namespace Go.Proofs.Ytdifmgeicnndfaa.op
open Go.RowKit
open words kindp opp kind
end Go.Proofs.Ytdifmgeicnndfaa.op
namespace Go.Proofs.Ytdifmgeicnndfaa.op
open Go.RowKit
open words kindp opp
end Go.Proofs.Ytdifmgeicnndfaa.op
namespace Go.Proofs.Ytdifmgeicnndfaa.op
open Go.RowKit
open words kindp opp kind
theorem mk_sz (c : Tx) : (⟨c.toArray⟩ : ByteArray).size = c.length := by show c.toArray.size = _; simp
end Go.Proofs.Ytdifmgeicnndfaa.op
namespace Go.Proofs.Ytdifmgeicnndfaa.prg
open Go.RowKit
open words kindp opp op kind
end Go.Proofs.Ytdifmgeicnndfaa.prg
namespace Go.Proofs.Ytdifmgeicnndfaa.prg
open Go.RowKit
open words kindp opp op kind
end Go.Proofs.Ytdifmgeicnndfaa.prg
namespace Go.Proofs.Ytdifmgeicnndfaa.word
open Go.RowKit
open num words give write
end Go.Proofs.Ytdifmgeicnndfaa.word
namespace Go.Proofs.Ytdifmgeicnndfaa.kind
open Go.RowKit
open words kindp word piece write
end Go.Proofs.Ytdifmgeicnndfaa.kind
namespace Go.Proofs.Ytdifmgeicnndfaa.kind
open Go.RowKit
open words kindp word
end Go.Proofs.Ytdifmgeicnndfaa.kind
namespace Go.Proofs.Ytdifmgeicnndfaa.kind
open Go.RowKit
open words kindp word rdr
end Go.Proofs.Ytdifmgeicnndfaa.kind
namespace Go.Proofs.Ytdifmgeicnndfaa.kind
open Go.RowKit
open words kindp word rdr
end Go.Proofs.Ytdifmgeicnndfaa.kind
namespace Go.Proofs.Ytdifmgeicnndfaa.kind
open Go.RowKit
open words kindp word rdr
end Go.Proofs.Ytdifmgeicnndfaa.kind
namespace Go.Proofs.Ytdifmgeicnndfaa.kind
open Go.RowKit
open words kindp word rdr piece
end Go.Proofs.Ytdifmgeicnndfaa.kind
namespace Go.Proofs.Ytdifmgeicnndfaa.kind
open Go.RowKit
open words kindp word rdr piece
end Go.Proofs.Ytdifmgeicnndfaa.kind
namespace Go.Proofs.Ytdifmgeicnndfaa.prg
open Go.RowKit
open words kindp opp op kind word
theorem e_empty {s : Tx} {b : Bool} (h : (s == []) = b) : List.isEmpty s = b := by cases s <;> simpa using h
end Go.Proofs.Ytdifmgeicnndfaa.prg
namespace Go.Proofs.Ytdifmgeicnndfaa.prg
open Go.RowKit
open words kindp opp op kind word
end Go.Proofs.Ytdifmgeicnndfaa.prg
namespace Go.Proofs.Ytdifmgeicnndfaa.prg
open Go.RowKit
open words kindp opp op kind word
theorem sx_get {l : List Tx} {i : Nat} {x : Tx} (h : l[i]? = some x) : (SX l)[i]? = some (.string ⟨x.toArray⟩) := by simp [SX, h]
end Go.Proofs.Ytdifmgeicnndfaa.prg
namespace Go.Proofs.Ytdifmgeicnndfaa.prg
open Go.RowKit
open words kindp opp op kind word
theorem overD {b : Nat} {a c : World} (h : Below b a c) : Below b a c.drew := ⟨h.os, h.tape, h.output, h.size, h.block⟩
end Go.Proofs.Ytdifmgeicnndfaa.prg
namespace Go.Proofs.Ytdifmgeicnndfaa.prg
open Go.RowKit
open words kindp opp op kind word
end Go.Proofs.Ytdifmgeicnndfaa.prg
namespace Go.Proofs.Ytdifmgeicnndfaa.prg
open Go.RowKit
open words kindp opp op kind word
end Go.Proofs.Ytdifmgeicnndfaa.prg

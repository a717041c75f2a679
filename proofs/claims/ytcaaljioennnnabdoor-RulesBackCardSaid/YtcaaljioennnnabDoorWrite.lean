/-
  Layer 3: bytes that are read and written: the program’s answers.
-/
import Derived.Test.YtcaaljioennnnabDoorOpen
import Derived.Test.YtcaaljioennnnabDoorProg
import Derived.Test.YtcaaljioennnnabDoorWords
import Derived.Lib.Hide
import Derived.Lib.BufferWrite
import Derived.Deep.QuietTactic
import Derived.BigQuiet
import Derived.IntWalk
import Derived.Deep.RegionHeld3
import Derived.Defers
import Derived.Recover
import Derived.Lib.AppendStr
/- What a reader of bytes does, as plain mathematics: a read answers a value and the place behind it, or an error and the place at which what failed begins. -/
namespace Go.Proofs.YtcaaljioennnnabDoor.rdnum
open num sealing

/-- a reader: its bytes from the beginning of all bytes up to its end, its place, what failed first, and where -/
structure Rs where
  l : List Nat
  p : Nat
  e : Int
  f : Nat

/-- what a read gives: a value and the place behind it with error 0, or an error and its place -/
structure Rr (α : Type) where
  v : α
  q : Nat
  e : Nat
  f : Nat

def byteT (l : List Nat) (p : Nat) : Rr Nat := if p < l.length then ⟨l.getD p 0, p + 1, 0, 0⟩ else ⟨0, 0, 2, p⟩
def lebT (l : List Nat) (p : Nat) : Rr Nat := if (takeAt l p).2.2 = 0 then ⟨(takeAt l p).1, (takeAt l p).2.1, 0, 0⟩ else ⟨0, 0, (takeAt l p).2.2, p⟩
def numT (l : List Nat) (p : Nat) (m : Int) : Rr Nat :=
  if (lebT l p).e ≠ 0 then lebT l p else if m < (lebT l p).v then ⟨0, 0, 3, p⟩ else lebT l p
def bytesT (l : List Nat) (p n : Nat) : Rr (List Nat) := if l.length - p < n then ⟨[], 0, 2, p⟩ else ⟨(l.drop p).take n, p + n, 0, 0⟩
def textT (l : List Nat) (p : Nat) : Rr (List Nat) :=
  if (numT l p 64).e ≠ 0 then ⟨[], 0, (numT l p 64).e, (numT l p 64).f⟩ else bytesT l (numT l p 64).q (numT l p 64).v
/-- a section: where what is within begins, and how long that is -/
def sectT (l : List Nat) (p id : Nat) : Rr (Nat × Nat) :=
  if (byteT l p).e ≠ 0 then ⟨(0, 0), 0, (byteT l p).e, (byteT l p).f⟩
  else if (byteT l p).v ≠ id then ⟨(0, 0), 0, 1, p⟩
  else if (numT l (p + 1) 65536).e ≠ 0 then ⟨(0, 0), 0, (numT l (p + 1) 65536).e, (numT l (p + 1) 65536).f⟩
  else if l.length - (numT l (p + 1) 65536).q < (numT l (p + 1) 65536).v + 4 then ⟨(0, 0), 0, 2, (numT l (p + 1) 65536).q⟩
  else if (openL ((l.drop (numT l (p + 1) 65536).q).take ((numT l (p + 1) 65536).v + 4))).2 ≠ 0 then ⟨(0, 0), 0, (openL ((l.drop (numT l (p + 1) 65536).q).take ((numT l (p + 1) 65536).v + 4))).2, (numT l (p + 1) 65536).q⟩
  else ⟨((numT l (p + 1) 65536).q, (numT l (p + 1) 65536).v), (numT l (p + 1) 65536).q + (numT l (p + 1) 65536).v + 4, 0, 0⟩
def endT (l : List Nat) (p : Nat) : Rr Nat := if p < l.length then ⟨0, 0, 1, p⟩ else ⟨1, p, 0, 0⟩

/-- how a reader stands behind a read that gave r -/
def Rs.go {α : Type} (s : Rs) (r : Rr α) : Rs := if s.e ≠ 0 then s else if r.e = 0 then { s with p := r.q } else { s with p := r.f, e := (r.e : Int), f := r.f }
def Rs.fail (s : Rs) (e : Int) : Rs := if s.e ≠ 0 ∨ e = 0 then s else { s with e := e, f := s.p }

/-- a reader that can be -/
structure Rs.Ok (s : Rs) : Prop where
  le : s.p ≤ s.l.length
  len : s.l.length ≤ 140737488355328
  byte : ∀ x ∈ s.l, x < 256
  fe : s.e = 0 → s.f = 0

theorem takeGo_q (l : List Nat) : ∀ (i n : Nat), (takeGo i n l).2.2 = 0 → i < (takeGo i n l).2.1 ∧ (takeGo i n l).2.1 ≤ i + l.length := by
  induction l with
  | nil => intro i n h; simp [takeGo] at h
  | cons c r ih =>
    intro i n h
    simp only [takeGo] at h ⊢
    split
    · rename_i h1; rw [if_pos h1] at h; simp at h
    · rename_i h1
      rw [if_neg h1] at h
      split
      · rename_i h2
        rw [if_pos h2] at h
        have := ih _ _ h
        simp only [List.length_cons]
        omega
      · rename_i h2
        rw [if_neg h2] at h
        split
        · rename_i h3; rw [if_pos h3] at h; simp at h
        · simp only [List.length_cons]; omega

theorem takeAt_in {l : List Nat} {p : Nat} (hp : p ≤ l.length) : takeAt l p = ((takeGo 0 0 (l.drop p)).1, if (takeGo 0 0 (l.drop p)).2.2 = 0 then p + (takeGo 0 0 (l.drop p)).2.1 else 0, (takeGo 0 0 (l.drop p)).2.2) := by
  unfold takeAt
  rw [if_neg (by omega)]
  simp only [Int.toNat_natCast]
theorem takeGo_e (l : List Nat) : ∀ (i n : Nat), (takeGo i n l).2.2 ≤ 2 := by
  induction l with
  | nil => intro i n; simp [takeGo]
  | cons c r ih =>
    intro i n
    simp only [takeGo]
    split
    · simp
    · split
      · exact ih _ _
      · split <;> simp
/-- what a number's bytes are, where there is one -/
theorem lebT_ok {l : List Nat} {p : Nat} (hp : p ≤ l.length) (hl : ∀ c ∈ l, c < 256) (h : (lebT l p).e = 0) :
    takeAt l p = ((lebT l p).v, (lebT l p).q, 0) ∧ (lebT l p).v < 18446744073709551616 ∧ p < (lebT l p).q ∧ (lebT l p).q ≤ l.length ∧ (lebT l p).f = 0 := by
  unfold lebT at h ⊢
  by_cases h0 : (takeAt l p).2.2 = 0
  · simp only [if_pos h0]
    have hin := takeAt_in hp
    have h1 : (takeGo 0 0 (l.drop p)).2.2 = 0 := by rw [hin] at h0; exact h0
    obtain ⟨_, a2, a3, a4⟩ := put_take0 (l := l.drop p) (fun c hc => hl c (List.mem_of_mem_drop hc)) (x := (takeGo 0 0 (l.drop p)).1) (k := (takeGo 0 0 (l.drop p)).2.1) (Prod.ext rfl (Prod.ext rfl h1))
    rw [hin, if_pos h1]
    rw [List.length_drop] at a4
    refine ⟨by rw [h1], a2, ?_, ?_, trivial⟩ <;> simp only <;> omega
  · rw [if_neg h0] at h; exact absurd h h0
theorem lebT_err {l : List Nat} {p : Nat} (hp : p ≤ l.length) (h : (lebT l p).e ≠ 0) :
    takeAt l p = (0, 0, (lebT l p).e) ∧ (lebT l p).v = 0 ∧ (lebT l p).f = p ∧ (lebT l p).e ≤ 2 := by
  unfold lebT at h ⊢
  by_cases h0 : (takeAt l p).2.2 = 0
  · rw [if_pos h0] at h; exact absurd rfl h
  · simp only [if_neg h0]
    have hin := takeAt_in hp
    have h1 : (takeGo 0 0 (l.drop p)).2.2 ≠ 0 := by rw [hin] at h0; exact h0
    have h2 := takeGo_err (l.drop p) 0 0 h1
    refine ⟨?_, trivial, trivial, ?_⟩
    · rw [hin, if_neg h1, h2.1]
    · rw [hin]; exact takeGo_e _ _ _
theorem numT_ok {l : List Nat} {p : Nat} {m : Int} (hp : p ≤ l.length) (hl : ∀ c ∈ l, c < 256) (h : (numT l p m).e = 0) :
    (lebT l p).e = 0 ∧ numT l p m = lebT l p ∧ ((lebT l p).v : Int) ≤ m ∧ p < (numT l p m).q ∧ (numT l p m).q ≤ l.length ∧ (numT l p m).f = 0 ∧ 0 ≤ m := by
  unfold numT at h ⊢
  by_cases h0 : (lebT l p).e ≠ 0
  · rw [if_pos h0] at h; exact absurd h h0
  · rw [if_neg h0] at h ⊢
    by_cases h1 : m < (lebT l p).v
    · rw [if_pos h1] at h; cases h
    · rw [if_neg h1]
      have := lebT_ok hp hl (by simpa using h0)
      exact ⟨by simpa using h0, rfl, by omega, this.2.2.1, this.2.2.2.1, this.2.2.2.2, by omega⟩
theorem numT_err {l : List Nat} {p : Nat} {m : Int} (hp : p ≤ l.length) (h : (numT l p m).e ≠ 0) :
    (numT l p m).v = 0 ∧ (numT l p m).f = p ∧ (numT l p m).e ≤ 3 ∧ (((lebT l p).e ≠ 0 ∧ numT l p m = lebT l p) ∨ ((lebT l p).e = 0 ∧ m < (lebT l p).v ∧ (numT l p m).e = 3)) := by
  unfold numT at h ⊢
  by_cases h0 : (lebT l p).e ≠ 0
  · rw [if_pos h0] at h ⊢
    obtain ⟨_, a, b, c⟩ := lebT_err hp h0
    exact ⟨a, b, by omega, .inl ⟨h0, rfl⟩⟩
  · rw [if_neg h0] at h ⊢
    by_cases h1 : m < (lebT l p).v
    · rw [if_pos h1]; exact ⟨rfl, rfl, by simp, .inr ⟨by simpa using h0, h1, rfl⟩⟩
    · rw [if_neg h1] at h; exact absurd (by simpa using h0) h
/-- where what fails begins lies within the bytes -/
theorem byteT_f {l : List Nat} {p : Nat} (hp : p ≤ l.length) : (byteT l p).e ≠ 0 → (byteT l p).f ≤ l.length := by
  unfold byteT; split
  · intro h; exact absurd rfl h
  · intro _; exact hp
theorem endT_f {l : List Nat} {p : Nat} (hp : p ≤ l.length) : (endT l p).e ≠ 0 → (endT l p).f ≤ l.length := by
  unfold endT; split
  · intro _; exact hp
  · intro h; exact absurd rfl h
theorem lebT_f {l : List Nat} {p : Nat} (hp : p ≤ l.length) : (lebT l p).e ≠ 0 → (lebT l p).f ≤ l.length := fun h => by
  rw [(lebT_err hp h).2.2.1]; exact hp
theorem numT_f {l : List Nat} {p : Nat} {m : Int} (hp : p ≤ l.length) : (numT l p m).e ≠ 0 → (numT l p m).f ≤ l.length := fun h => by
  rw [(numT_err hp h).2.1]; exact hp
theorem textT_f {l : List Nat} {p : Nat} (hp : p ≤ l.length) (hl : ∀ c ∈ l, c < 256) : (textT l p).e ≠ 0 → (textT l p).f ≤ l.length := by
  unfold textT; split
  · rename_i h; intro _; exact numT_f hp h
  · rename_i h
    have := (numT_ok hp hl (by simpa using h)).2.2.2.2.1
    unfold bytesT; split
    · intro _; exact this
    · intro h; exact absurd rfl h
theorem sectT_f {l : List Nat} {p id : Nat} (hp : p ≤ l.length) (hl : ∀ c ∈ l, c < 256) : (sectT l p id).e ≠ 0 → (sectT l p id).f ≤ l.length := by
  unfold sectT; split
  · rename_i h; intro _; exact byteT_f hp h
  · rename_i h0
    have h1 : p + 1 ≤ l.length := by
      unfold byteT at h0; split at h0
      · omega
      · simp at h0
    split
    · intro _; exact hp
    · split
      · rename_i h; intro _; exact numT_f h1 h
      · rename_i h
        have := (numT_ok h1 hl (by simpa using h)).2.2.2.2.1
        split
        · intro _; exact this
        · split
          · intro _; exact this
          · intro h; exact absurd rfl h
/-- what a read answers -/
def Rs.ans {α : Type} (s : Rs) (r : Rr α) (z : α) : α := if s.e ≠ 0 ∨ r.e ≠ 0 then z else r.v
theorem Rs.ans_dead {α : Type} {s : Rs} {r : Rr α} {z : α} (h : s.e ≠ 0) : s.ans r z = z := by unfold Rs.ans; rw [if_pos (.inl h)]
theorem Rs.ans_err {α : Type} {s : Rs} {r : Rr α} {z : α} (h : r.e ≠ 0) : s.ans r z = z := by unfold Rs.ans; rw [if_pos (.inr h)]
theorem Rs.ans_ok {α : Type} {s : Rs} {r : Rr α} {z : α} (h : s.e = 0) (k : r.e = 0) : s.ans r z = r.v := by unfold Rs.ans; rw [if_neg (by simp [h, k])]
theorem Rs.go_dead {α : Type} {s : Rs} {r : Rr α} (h : s.e ≠ 0) : s.go r = s := by unfold Rs.go; rw [if_pos h]
theorem Rs.go_err {α : Type} {s : Rs} {r : Rr α} (h : s.e = 0) (k : r.e ≠ 0) : s.go r = { s with p := r.f, e := (r.e : Int), f := r.f } := by unfold Rs.go; rw [if_neg (by simpa using h), if_neg k]
theorem Rs.go_ok {α : Type} {s : Rs} {r : Rr α} (h : s.e = 0) (k : r.e = 0) : s.go r = { s with p := r.q } := by unfold Rs.go; rw [if_neg (by simpa using h), if_pos k]
end Go.Proofs.YtcaaljioennnnabDoor.rdnum

/- How a reader of bytes lies in memory: the program's, in a block of four cells, the reference's, in one of five; and what a call that writes to one block alone leaves. -/
namespace Go.Proofs.YtcaaljioennnnabDoor.rdr
open Go.RowKit
open num words rdnum

/-- A slice of bytes, in a block of bytes; of no bytes nothing is said. -/
def Bs (w : World) (A : Option Addr) (l : List Nat) : Prop :=
  l = [] ∨ ∃ a, A = some a ∧ (∃ cs f, w.heap[a.block]? = some (.cells cs 5 f)) ∧ ∀ j u, (B l)[j]? = some u → w.cell? (a.add j) = some u
theorem Bs.rd {w : World} {A : Option Addr} {l : List Nat} (h : Bs w A l) : Rd w A (B l) := by
  rcases h with rfl | ⟨a, rfl, ⟨cs, f, hh⟩, hc⟩
  · exact .inl rfl
  · exact .inr ⟨a, rfl, blk_lt hh, hc⟩
theorem Bs.nil (w : World) (A : Option Addr) : Bs w A [] := .inl rfl
theorem Bs.kept {w w' : World} {A : Option Addr} {l : List Nat} (h : Bs w A l) {r : Option Nat} (hg : w.grownBy w' r) (hr : ∀ b cs f, r = some b → w.heap[b]? ≠ some (.cells cs 5 f)) : Bs w' A l := by
  rcases h with rfl | ⟨a, rfl, ⟨cs, f, hh⟩, hc⟩
  · exact .inl rfl
  · have hb : w'.heap[a.block]? = w.heap[a.block]? := hg.block _ (blk_lt hh) (fun e => hr _ cs f e.symm hh)
    refine .inr ⟨a, rfl, ⟨cs, f, hb.trans hh⟩, fun j u hu => ?_⟩
    rw [← hc j u hu]
    exact World.cell?_of_block (by rw [add_block]; exact hb)
theorem Bs.take {w : World} {A : Option Addr} {l : List Nat} (h : Bs w A l) (k : Nat) : Bs w A (l.take k) := by
  rcases h with rfl | ⟨a, rfl, hh, hc⟩
  · exact .inl (by simp)
  · refine .inr ⟨a, rfl, hh, fun j u hu => hc j u ?_⟩
    rw [← B_take, List.getElem?_take] at hu
    split at hu
    · exact hu
    · cases hu
theorem Bs.below {w w' : World} {A : Option Addr} {l : List Nat} (h : Bs w A l) (hb : Below w.heap.size w w') : Bs w' A l :=
  h.kept (r := none) ⟨hb.os, hb.tape, hb.output, hb.size, fun k hk _ => hb.block k hk⟩ (fun _ _ _ h => by cases h)
theorem own_bs {w : World} {base n : Nat} {v : Value} {l : List Nat} (h : w.ownsRow base 5 1 v n (B l)) : ∃ A c, v = .slice A n c ∧ n ≤ c ∧ c ≤ maxLen ∧ l.length = n ∧ Bs w A l := by
  have hlen : l.length = n := by have := h.1; rw [B_len] at this; omega
  rcases h.2 with ⟨rfl, rfl⟩ | ⟨g, cap, cur, rfl, _, hg, hnc, hcm, _, _⟩
  · exact ⟨none, 0, rfl, Nat.le_refl _, Nat.zero_le _, hlen, .inl (List.eq_nil_of_length_eq_zero hlen)⟩
  · exact ⟨_, cap, rfl, hnc, hcm, hlen, .inr ⟨_, rfl, ⟨_, _, hg⟩, h.cells (g := g) rfl⟩⟩

/-- writes to one block alone -/
abbrev But (b : Nat) (w w' : World) : Prop := w.grownBy w' (some b)
theorem But.refl (b : Nat) (w : World) : But b w w := ⟨rfl, rfl, rfl, Nat.le_refl _, fun _ _ _ => rfl⟩
theorem But.trans {b : Nat} {w w1 w2 : World} (h : But b w w1) (k : But b w1 w2) : But b w w2 :=
  ⟨k.os.trans h.os, k.tape.trans h.tape, k.output.trans h.output, Nat.le_trans h.size k.size, fun i hi hr => (k.block i (Nat.lt_of_lt_of_le hi h.size) hr).trans (h.block i hi hr)⟩
theorem But.alloc {b : Nat} {w w1 : World} (h : But b w w1) (o : Obj) : But b w (w1.alloc o) := h.trans (World.grownBy_alloc w1 o _)
theorem But.set {b : Nat} {w w1 : World} (h : But b w w1) (i : Nat) (v : Value) : But b w (w1.setCell ⟨b, i, none⟩ v) := h.trans (Lib.grownBy_setCell w1 b i v)
theorem But.drewN {b n : Nat} {w w1 : World} (h : But b w w1) : But b w (w1.drewN n) := ⟨h.os, h.tape, h.output, h.size, h.block⟩
theorem But.undrew {b n : Nat} {w w1 : World} (h : But b (w.drewN n) w1) : But b w w1 := ⟨h.os, h.tape, h.output, h.size, h.block⟩
theorem But.of {b : Nat} {w w1 : World} (h : Below w.heap.size w w1) : But b w w1 := ⟨h.os, h.tape, h.output, h.size, fun k hk _ => h.block k hk⟩
/-- a store into a block that is new -/
theorem But.fresh {b : Nat} {w w1 : World} (h : But b w w1) {p : Addr} (hp : w.heap.size ≤ p.block) (v : Value) : But b w (w1.setCell p v) := by
  refine ⟨h.os, h.tape, h.output, by simp [World.setCell]; exact h.size, fun k hk hr => ?_⟩
  rw [Below.heap_setCell _ _ _ _ (by omega)]
  exact h.block k hk hr
theorem But.below {b B : Nat} {w w1 : World} (h : But b w w1) (h1 : B ≤ b) (h2 : B ≤ w.heap.size) : Below B w w1 :=
  ⟨h.os, h.tape, h.output, h.size, fun k hk => h.block k (by omega) (fun e => by cases e; omega)⟩
theorem But.heap {b c : Nat} {w w1 : World} (h : But b w w1) {o : Obj} (hc : w.heap[c]? = some o) (hne : c ≠ b) : w1.heap[c]? = some o :=
  (h.block c (blk_lt hc) (fun e => hne (by cases e; rfl))).trans hc

end Go.Proofs.YtcaaljioennnnabDoor.rdr

/- What the program's inner reads do: each answers, or gives up with a panic that bears the error and its place. -/
namespace Go.Proofs.YtcaaljioennnnabDoor.give
open Go.RowKit
open num words rdnum rdr
end Go.Proofs.YtcaaljioennnnabDoor.give

/- What the program's inner reads do, on: the next n bytes, a text, a section. -/
namespace Go.Proofs.YtcaaljioennnnabDoor.give
open Go.RowKit
open num words rdnum rdr sealing

set_option maxRecDepth 100000 in
/-- WHAT A CUT x[p:q] GIVES: the cells from p on, as many. -/
theorem cutB (A : Option Addr) (n c p q : Nat) (hpq : p ≤ q) (hq : q ≤ c) : ∃ A' c', q - p ≤ c' ∧ (∀ w l, Bs w A l → l.length ≤ c → Bs w A' ((l.drop p).take (q - p))) ∧
    ∀ w : World, (Instr.sliceAt 61 (.slice A n c) (some (.int .i64 (p : Int))) (some (.int .i64 (q : Int))) none).run Tryd.prog w = .ok (.slice A' (q - p) c') w := by
  refine ⟨if c = p then A else A.map (·.add p), c - p, by omega, fun w l h hl => ?_, fun w => ?_⟩
  · by_cases hc : c = p
    · rw [if_pos hc]
      exact .inl (by rw [List.drop_eq_nil_of_le (by omega)]; simp)
    · rw [if_neg hc]
      rcases h with rfl | ⟨a, rfl, hh, hx⟩
      · exact .inl (by simp)
      · refine .inr ⟨a.add p, rfl, by rw [add_block]; exact hh, fun j u hu => ?_⟩
        rw [add_add]
        refine hx _ u ?_
        rw [← B_take, ← B_drop, List.getElem?_take] at hu
        split at hu
        · rwa [List.getElem?_drop] at hu
        · cases hu
  · rw [run_sliceAt_slice w _ _ _ _ _ Tryd.underlying61, run_slice_lh w _ A n c Tryd.underlying61 .i64 .i64 (p : Int) (q : Int) (by omega) (by omega) (by omega)]
    have h := take.size5 w
    have he : Tryd.prog.elem 61 = 5 := by kernel_rfl
    rw [he, h]
    simp only [Result.andThen_ok, sliced, Nat.mul_one, Int.toNat_natCast]

set_option maxRecDepth 100000 in
/-- WHAT A CUT x[:k] GIVES: the first k cells. -/
theorem cutH (A : Option Addr) (n c k : Nat) (hk : k ≤ c) : ∃ A', (∀ w l, Bs w A l → Bs w A' (l.take k)) ∧
    ∀ w : World, (Instr.sliceAt 61 (.slice A n c) none (some (.int .i64 (k : Int))) none).run Tryd.prog w = .ok (.slice A' k c) w := by
  refine ⟨if c = 0 then A else A.map (·.add 0), fun w l h => ?_, fun w => ?_⟩
  · have e0 : A.map (·.add 0) = A := by cases A <;> simp [Addr.add]
    rw [e0, ite_self]
    exact h.take k
  · rw [run_sliceAt_slice w _ _ _ _ _ Tryd.underlying61, run_slice_h w _ A n c Tryd.underlying61 .i64 (k : Int) (by omega) (by omega)]
    have h := take.size5 w
    have he : Tryd.prog.elem 61 = 5 := by kernel_rfl
    rw [he, h]
    simp only [Result.andThen_ok, sliced, Nat.zero_mul, Int.toNat_natCast, Nat.sub_zero]

/-- bytes as a text -/
def S (l : List Nat) : Value := .string ⟨(l.map UInt8.ofNat).toArray⟩
set_option maxRecDepth 100000 in
theorem to_str (w : World) (A : Option Addr) (n c : Nat) (l : List Nat) (hb : Bs w A l) (hl : l.length = n) (hby : ∀ x ∈ l, x < 256) :
    (convert 61 9 (.slice A n c)).run Tryd.prog w = .ok (S l) w := by
  subst hl
  rcases A with _ | a
  · have hn : l = [] := by
      rcases hb with h | ⟨a, h, _⟩
      · exact h
      · cases h
    subst hn
    rw [run_convert_bytes_string w _ _ _ _ _ _ Tryd.underlying61 Tryd.underlying5 Tryd.underlying9]
    rfl
  · have h := run_convert_bytes_back (P := Tryd.prog) w 61 9 5 a c (l.map UInt8.ofNat) Tryd.underlying61 Tryd.underlying5 Tryd.underlying9 (fun j hj => by
      have hj' : j < l.length := by simpa using hj
      have hx : l[j] < 256 := hby _ (List.getElem_mem hj')
      rcases hb with rfl | ⟨a', h, _, hc⟩
      · simp at hj'
      · cases h
        rw [hc j _ (B_at (List.getElem?_eq_getElem hj'))]
        congr 2
        simp [Nat.mod_eq_of_lt hx])
    simpa [S] using h

end Go.Proofs.YtcaaljioennnnabDoor.give

/- What the program's inner read of a section does. -/
namespace Go.Proofs.YtcaaljioennnnabDoor.give
open Go.RowKit
open num words rdnum rdr sealing
theorem openL_e (l : List Nat) : (openL l).2 ≤ 4 := by
  unfold openL
  split
  · simp
  · split <;> simp

theorem byteT_q {l : List Nat} {p : Nat} (h : (byteT l p).e = 0) : (byteT l p).q = p + 1 ∧ p < l.length := by
  unfold byteT at h ⊢
  split
  · exact ⟨rfl, by assumption⟩
  · rename_i hx; rw [if_neg hx] at h; cases h

end Go.Proofs.YtcaaljioennnnabDoor.give

/- What the deferred function of a read does: it catches a failure, and sets the reader to where that lies; without a failure it does nothing. -/
namespace Go.Proofs.YtcaaljioennnnabDoor.catching
open Go.RowKit
open num words rdnum rdr give

end Go.Proofs.YtcaaljioennnnabDoor.catching

/- What a read does: nothing, if something had failed; else what its inner read answers, or its zero value, and the failure is kept. -/
namespace Go.Proofs.YtcaaljioennnnabDoor.reading
open Go.RowKit
open num words rdnum rdr give catching

end Go.Proofs.YtcaaljioennnnabDoor.reading

/- What the reader's methods answer, and how they leave it. -/
namespace Go.Proofs.YtcaaljioennnnabDoor.meth
open Go.RowKit
open num words rdnum rdr give reading

theorem signed_v {l : List Nat} {p : Nat} (hp : p ≤ l.length) (hl : ∀ c ∈ l, c < 256) : (lebT l p).e = 0 → ((lebT l p).v : Int) ≤ 18446744073709551615 := fun h => by
  have := (lebT_ok hp hl h).2.1
  omega
end Go.Proofs.YtcaaljioennnnabDoor.meth

/- What the reader's other methods answer: Section, Fail, Fault, At, Left. -/
namespace Go.Proofs.YtcaaljioennnnabDoor.meth
open Go.RowKit
open num words rdnum rdr give reading

/-- how many are left -/
def left (s : Rs) : Int := if s.e ≠ 0 then 0 else (s.l.length : Int) - s.p
/-- a fault as a value -/
def fv (s : Rs) : Value := .agg #[.int .i64 s.e, .int .i64 (s.f : Int)]
end Go.Proofs.YtcaaljioennnnabDoor.meth

/- What the program and the reference write: a text's bytes, a section's; and a reader that is opened; what is cloned. -/
namespace Go.Proofs.YtcaaljioennnnabDoor.write
open Go.RowKit
open num words rdnum rdr give reading meth sealing crcnum

/-- a text's bytes, as numbers -/
def N (s : ByteArray) : List Nat := s.data.toList.map (·.toNat)
theorem N_len (s : ByteArray) : (N s).length = s.size := by unfold N; rw [List.length_map, Array.length_toList]; rfl
theorem N_byte (s : ByteArray) : ∀ x ∈ N s, x < 256 := by
  intro x hx
  obtain ⟨y, _, rfl⟩ := List.mem_map.1 hx
  exact y.toNat_lt
theorem N_cells (s : ByteArray) : Lib.strCells s = B (N s) := by
  simp [N, B, Lib.strCells, List.map_map]
theorem S_N (s : ByteArray) : S (N s) = .string s := by
  unfold S N
  rw [List.map_map]
  have : (UInt8.ofNat ∘ fun x : UInt8 => x.toNat) = id := by funext x; simp
  rw [this]
  simp

/-- A READER OF BYTES, in a new block. -/
def Opened (R : World → Nat → Rs → Prop) (l : List Nat) (w : World) (e : Ending) (w' : World) : Prop :=
  ∃ g, e = .returned (.pointer (some ⟨g, 0, none⟩)) ∧ w.heap.size ≤ g ∧ R w' g ⟨l, 0, 0, 0⟩ ∧ Below w.heap.size w w'

/-- a text's bytes -/
def textL (l : List Nat) : List Nat := putL l.length ++ l
/-- a section's bytes -/
def sectL (id : Nat) (l : List Nat) : List Nat := id :: (putL l.length ++ sealL l)

end Go.Proofs.YtcaaljioennnnabDoor.write

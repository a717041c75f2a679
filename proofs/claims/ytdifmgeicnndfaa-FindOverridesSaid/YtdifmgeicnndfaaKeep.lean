/- Keep -/
import Derived.RangeFuncNested
import Derived.RangeFuncBound
import Derived.RangeFuncCalls
import Derived.RangeFuncLeaves
import Derived.RangeFuncBox
import Derived.Shelf.Abstract
import Derived.Shelf.RegionOpen
import Derived.WalkKit
import Derived.OwnWalkIn
import Derived.TacticsInMore
import Derived.LoopNIn
import Derived.LoopIn
import Derived.Test.YtdifmgeicnndfaaHier
import Derived.Test.YtdifmgeicnndfaaNormE
import Derived.BigQuiet
import Derived.Laws.OwnMore
import Derived.Laws.MakeOwn
namespace Go.Proofs.Ytdifmgeicnndfaa.find
open Go.RowKit Go.Shelf
open words kindp opp op kind word prg
set_option maxRecDepth 100000
set_option maxHeartbeats 4000000
set_option linter.all false
attribute [local go_sem] Oper.semAt_some
theorem vals1_in (n : Nat) (hn : 1 ≤ n) (l Bs n₀ : Nat) (A : Option Addr) (c : Nat) (L : List Tx) (W : World) (hA : ∀ W', Below n₀ W W' → Rd W' A (SX L)) (hz : L.length ≤ 281474976710656) (J Jx : List Tx → World → Prop)
  (hY : ∀ pre x W1, J pre W1 → pre.length < L.length → YieldAt Fence.wide (n - 1) Try.prog l #[.string ⟨x.toArray⟩] W1 fun e W' =>
   (e = .returned (.bool true) ∧ J (pre ++ [x]) W' ∧ Below n₀ W1 W') ∨ (e = .returned (.bool false) ∧ Jx (pre ++ [x]) W'))
  (hBs : W.cell? ⟨Bs, 0, none⟩ = some (.slice A L.length c)) (h0 : J [] W) :
  CallsIn Fence.wide n Try.prog 105 #[.func (.yield l) #[] #[], .pointer (some ⟨Bs, 0, none⟩)] W fun e W' => (∃ v, e = .returned v) ∧
   ((∃ ys, ys = L ∧ J ys W') ∨ (∃ pre, pre <+: L ∧ Jx pre W')) := by
 obtain ⟨m, hm⟩ : ∃ m, m = L.length := ⟨_, rfl⟩
 rw [← hm] at hBs hz
 have hzI : (m : Int) ≤ 281474976710656 := by omega
 have HM := zh hm; have HA := zh hA; have HY := zh hY
 clear hm hA hY hz
 refine callsIn_of_wp Try.func105 rfl trivial ?_ rfl
 simp only [Try.ntmps105, List.size_toArray, List.length_cons, List.length_nil, Nat.reduceAdd, Nat.reduceSub, Array.replicate_succ, Array.replicate_zero, List.push_toArray, List.append_toArray, List.nil_append, List.cons_append]
 gi_wp2
 gi_loopw [7] (fun i wr => ∃ k : Nat, k ≤ m ∧ i = .int .i64 (k : Int) ∧ J (L.take k) wr ∧ Below n₀ W wr) (fun i _ => m - (intOf i).toNat)
 case atStart => exact ⟨0, Nat.zero_le _, rfl, by rw [List.take_zero]; exact h0, Below.refl _ _⟩
 case round =>
  obtain ⟨k, hk, rfl, hJs, hbw⟩ := hrel
  by_cases hlt : k < m
  ·have hltI : (k : Int) < (m : Int) := by omega
   obtain ⟨x, hx⟩ : ∃ x, L[k]? = some x := ⟨L[k]'(by rw [← HM.out]; exact hlt), List.getElem?_eq_getElem _⟩
   obtain ⟨a, rfl, -, hc⟩ := (HA.out wr hbw).at_ (sx_get hx)
   have HTK := zh (show L.take (k + 1) = L.take k ++ [x] from by rw [List.take_add_one, hx]; rfl)
   have HBW := zh hbw
   obtain ⟨fn, tmps, assign, body, hy, hR⟩ := HY.out _ x wr hJs (by rw [List.length_take, ← HM.out]; omega)
   clear hx hJs hbw
   gi_wp2
   refine hR.mono ?_
   rintro e W3 (⟨rfl, hJ3, hk3⟩ | ⟨rfl, hJx3⟩)
   ·gi_wp2
    go_roundw
    case rel => exact ⟨k + 1, by omega, by go_num, by rw [HTK.out]; exact hJ3, HBW.out.trans hk3⟩
    case measure => simp [intOf]; omega
   ·gi_wp2
    refine bodyPost_ret (results_none rfl _ _ _) rfl ?_
    exact ⟨⟨_, rfl⟩, .inr ⟨_, by rw [← HTK.out]; exact List.take_prefix _ _, hJx3⟩⟩
  ·have hltI : ¬ (k : Int) < (m : Int) := by omega
   have HJ := zh (show J L wr from by rw [List.take_of_length_le (by rw [← HM.out]; omega)] at hJs; exact hJs)
   clear hJs hbw
   gi_wp2
   go_end0
   first | exact ⟨⟨_, rfl⟩, .inl ⟨_, rfl, HJ.out⟩⟩ | exact ⟨⟨_, rfl⟩, .inl HJ.out⟩
theorem vals_stops (n : Nat) (hn : 1 ≤ n) (Bs n₀ : Nat) (A : Option Addr) (c : Nat) (L : List Tx) (w : World) (hz : L.length ≤ 281474976710656) (hn₀ : w.heap.size ≤ n₀) (hBl : Bs < n₀) (hr : Rd w A (SX L)) (ws : World) (hws : Below w.heap.size w ws) (hsz : n₀ ≤ ws.heap.size)
  (hBs : ws.cell? ⟨Bs, 0, none⟩ = some (.slice A L.length c)) :
  SeqStopsK Fence.wide n Try.prog 105 #[.pointer (some ⟨Bs, 0, none⟩)] (fun x : Tx => #[Value.string ⟨x.toArray⟩]) (Below n₀) (fun ys => ys = L) (fun pre => pre <+: L) L.length ws := fun l J Jx W hW _ _ hY h0 => by
 have hb : Below w.heap.size w W := hws.trans (hW.mono hws.size)
 exact vals1_in n hn l Bs n₀ A c L W (fun W' h => hr.below (hb.trans (h.mono hn₀))) hz J Jx hY ((hW.cell (p := ⟨Bs, 0, none⟩) (by show Bs < _; omega)).trans hBs) h0
theorem vals_w (A : Option Addr) (k c : Nat) (w : World) :
  Calls Try.prog 74 #[.slice A k c] w fun e w' => e = .returned (.func (.func 105) #[] #[.pointer (some ⟨w.heap.size, 0, none⟩)]) ∧ w' = w.alloc (.cells #[.slice A k c] 23) := by
 go_enter Try.func74, Try.ntmps74
 go_wp2
 go_ret
 exact ⟨rfl, rfl⟩
theorem method_w (s d : Tx) (w : World) :
  Calls Try.prog 45 #[.string ⟨s.toArray⟩, .string ⟨d.toArray⟩] w fun e w' => e = .returned (.func (.func 77) #[] #[.pointer (some ⟨w.heap.size, 0, none⟩), .pointer (some ⟨w.heap.size + 1, 0, none⟩)]) ∧ w' = (w.alloc (.cells #[.string ⟨s.toArray⟩] 9)).alloc (.cells #[.string ⟨d.toArray⟩] 9) := by
 go_enter Try.func45, Try.ntmps45
 go_wp2
 go_ret
 exact ⟨rfl, rfl⟩
theorem at_w (x : ClM) (g h : Nat) (s d : Tx) (w : World) (hr : Rd w x.A3 (x.ms.flatMap meC)) (hl : x.ms.length ≤ 281474976710656) (hg : w.cell? ⟨g, 0, none⟩ = some (.string ⟨s.toArray⟩)) (hh : w.cell? ⟨h, 0, none⟩ = some (.string ⟨d.toArray⟩)) :
  Calls Try.prog 77 #[.agg (clC x).toArray, .pointer (some ⟨g, 0, none⟩), .pointer (some ⟨h, 0, none⟩)] w fun e w' => ∃ r, e = .returned (.int .i64 r) ∧ Idx (fun y : MeM => ((y.nm == s) && (y.ds == d))) x.ms r ∧ Below w.heap.size w w' := by
 obtain ⟨W, hW⟩ : ∃ W, W = w.alloc (.cells (clC x).toArray 43) := ⟨_, rfl⟩
 have hal : Below w.heap.size w W := by rw [hW]; exact (Below.refl _ w).alloc (Nat.le_refl _) _
 have hblk : W.heap[w.heap.size]? = some (.cells (clC x).toArray 43 (0, 0)) := by rw [hW]; exact heap_alloc_new w _
 obtain ⟨x0, x1, x2, x3, x4, x5, x6⟩ := cl_cells hblk
 have kg := (hal.cell (World.block_lt_of_cell? _ _ hg)).trans hg
 have kh := (hal.cell (World.block_lt_of_cell? _ _ hh)).trans hh
 have HPM := zh (place_me x s d W (hr.below hal) hl)
 have HAL := zh hal
 unfold clC at hW HPM ⊢
 try dsimp only at hW HPM ⊢
 have ke := kg
 rw [hW] at ke
 have kf := kh
 rw [hW] at kf
 have HW := zh hW
 clear hal hblk hW hr hl hg hh
 go_enter Try.func77, Try.ntmps77
 go_wp2_with fail
 rw [← HW.out]
 (try go_wp2_with fail)
 refine HPM.out.mono ?_
 rintro e w1 ⟨r, rfl, hi, hb⟩
 have HI := zh hi; have HB := zh hb
 clear hi hb x0 x1 x2 x3 x4 x5 x6 kg kh ke kf
 go_wp2
 go_ret
 exact ⟨r, rfl, HI.out, HAL.out.trans (HB.out.mono HAL.out.size)⟩
def declM (c : ClM) (s d : Tx) : Option Nat := c.ms.findIdx? fun y => (y.nm == s) && (y.ds == d)
def oneM (cs : List ClM) (s d : Tx) (nm : Tx) : Option (ClM × Nat) := match findC cs nm with
 | none => none
 | some c => match declM c s d with
  | none => none
  | some k => some (c, k)
def firstM (cs : List ClM) (L : List Tx) (s d : Tx) : Option (ClM × Nat) := L.findSome? (oneM cs s d)
theorem firstM_snoc (cs : List ClM) (pre : List Tx) (x s d : Tx) (h : firstM cs pre s d = none) : firstM cs (pre ++ [x]) s d = oneM cs s d x := by
 unfold firstM at h ⊢
 rw [List.findSome?_append, h]
 simp
theorem firstM_pre {cs : List ClM} {pre L : List Tx} {s d : Tx} {r : ClM × Nat} (h : pre <+: L) (hf : firstM cs pre s d = some r) : firstM cs L s d = some r := by
 obtain ⟨q, rfl⟩ := h
 unfold firstM at hf ⊢
 rw [List.findSome?_append, hf]; rfl
end Go.Proofs.Ytdifmgeicnndfaa.find
namespace Go.Proofs.Ytdifmgeicnndfaa.prg
open Go.RowKit
open words kindp opp op kind word
def pI (x : InM) : In := x.i
structure FiP where
 nm : Tx
 k : Int
 cl : Tx
 st : Bool
deriving DecidableEq
structure MeP where
 nm : Tx
 ds : Tx
 st : Bool
 ab : Bool
 rg : Int
 co : List In
deriving DecidableEq
structure ClP where
 nm : Tx
 su : Tx
 fc : Bool
 ab : Bool
 is : List Tx
 fs : List FiP
 ms : List MeP
deriving DecidableEq
structure PrP where
 cs : List ClP
 ns : List Tx
 ec : Tx
 en : Tx
 ed : Tx
deriving DecidableEq
def pF (f : FiM) : FiP := ⟨f.nm, f.k, f.cl, f.st⟩
def pM (m : MeM) : MeP := ⟨m.nm, m.ds, m.st, m.ab, m.rg, m.co.map pI⟩
def pC (c : ClM) : ClP := ⟨c.nm, c.su, c.fc, c.ab, c.is, c.fs.map pF, c.ms.map pM⟩
def pP (p : PrM) : PrP := ⟨p.cs.map pC, p.ns, p.ec, p.en, p.ed⟩
end Go.Proofs.Ytdifmgeicnndfaa.prg
namespace Go.Proofs.Ytdifmgeicnndfaa.prg
open Go.RowKit
open words kindp opp op kind word
def Fr (b : Nat) (A : Option Addr) : Prop := ∀ a, A = some a → b ≤ a.block
theorem Fr.mono {b c : Nat} {A : Option Addr} (h : Fr b A) (hc : c ≤ b) : Fr c A := fun a ha => Nat.le_trans hc (h a ha)
def NwI (b : Nat) (w : World) (y : InM) : Prop := InOk w y ∧ InBd y ∧ Fr b y.A
def NwM (b : Nat) (w : World) (m : MeM) : Prop := MeOk w m ∧ MeBd m ∧ Fr b m.A ∧ ∀ y ∈ m.co, Fr b y.A
def NwC (b : Nat) (w : World) (c : ClM) : Prop := ClOk w c ∧ ClBd c ∧ (Fr b c.A1 ∧ Fr b c.A2 ∧ Fr b c.A3) ∧ ∀ m ∈ c.ms, Fr b m.A ∧ ∀ y ∈ m.co, Fr b y.A
theorem rd_gb {w w' : World} {A : Option Addr} {xs : List Value} {b g : Nat} (h : Rd w A xs) (hf : Fr b A) (hg : g < b) (k : w.grownBy w' (some g)) : Rd w' A xs := by
 rcases h with rfl | ⟨a, rfl, hb, hc⟩
 ·exact .inl rfl
 ·refine .inr ⟨a, rfl, Nat.lt_of_lt_of_le hb k.size, fun j u hu => (World.cell?_of_block (k.block _ (by rw [add_block]; exact hb) ?_)).trans (hc j u hu)⟩
  rw [add_block]
  have := hf a rfl
  intro e
  cases e
  omega
theorem gb_trans {w v u : World} {g : Nat} (h : w.grownBy v (some g)) (k : v.grownBy u (some g)) : w.grownBy u (some g) :=
 ⟨k.os.trans h.os, k.tape.trans h.tape, k.output.trans h.output, Nat.le_trans h.size k.size, fun j hj hn => (k.block j (Nat.lt_of_lt_of_le hj h.size) hn).trans (h.block j hj hn)⟩
section
variable {b c g : Nat} {w w' : World}
theorem NwI.gb {y : InM} (h : NwI b w y) (hg : g < b) (k : w.grownBy w' (some g)) : NwI b w' y := ⟨⟨h.1.1, rd_gb h.1.2 h.2.2 hg k⟩, h.2⟩
theorem NwI.below {y : InM} (h : NwI b w y) (k : Below w.heap.size w w') : NwI b w' y := ⟨h.1.below k, h.2⟩
theorem NwI.mono {y : InM} (h : NwI b w y) (hc : c ≤ b) : NwI c w y := ⟨h.1, h.2.1, h.2.2.mono hc⟩
theorem NwM.gb {m : MeM} (h : NwM b w m) (hg : g < b) (k : w.grownBy w' (some g)) : NwM b w' m := ⟨⟨h.1.1, rd_gb h.1.2.1 h.2.2.1 hg k, fun y hy => ⟨(h.1.2.2 y hy).1, rd_gb (h.1.2.2 y hy).2 (h.2.2.2 y hy) hg k⟩⟩, h.2⟩
theorem NwM.below {m : MeM} (h : NwM b w m) (k : Below w.heap.size w w') : NwM b w' m := ⟨h.1.below k, h.2⟩
theorem NwM.mono {m : MeM} (h : NwM b w m) (hc : c ≤ b) : NwM c w m := ⟨h.1, h.2.1, h.2.2.1.mono hc, fun y hy => (h.2.2.2 y hy).mono hc⟩
theorem NwC.gb {m : ClM} (h : NwC b w m) (hg : g < b) (k : w.grownBy w' (some g)) : NwC b w' m :=
 ⟨⟨⟨h.1.1.1, rd_gb h.1.1.2 h.2.2.1.1 hg k⟩, ⟨h.1.2.1.1, rd_gb h.1.2.1.2 h.2.2.1.2.1 hg k⟩, ⟨h.1.2.2.1.1, rd_gb h.1.2.2.1.2 h.2.2.1.2.2 hg k⟩,
  fun z hz => ⟨(h.1.2.2.2 z hz).1, rd_gb (h.1.2.2.2 z hz).2.1 (h.2.2.2 z hz).1 hg k, fun y hy => ⟨((h.1.2.2.2 z hz).2.2 y hy).1, rd_gb ((h.1.2.2.2 z hz).2.2 y hy).2 ((h.2.2.2 z hz).2 y hy) hg k⟩⟩⟩, h.2⟩
theorem NwC.below {m : ClM} (h : NwC b w m) (k : Below w.heap.size w w') : NwC b w' m := ⟨h.1.below k, h.2⟩
theorem NwC.mono {m : ClM} (h : NwC b w m) (hc : c ≤ b) : NwC c w m := ⟨h.1, h.2.1, ⟨h.2.2.1.1.mono hc, h.2.2.1.2.1.mono hc, h.2.2.1.2.2.mono hc⟩, fun z hz => ⟨(h.2.2.2 z hz).1.mono hc, fun y hy => ((h.2.2.2 z hz).2 y hy).mono hc⟩⟩
end
theorem made_flat {α : Type} {C : α → List Value} {K : Nat} (hC : ∀ x, (C x).length = K) (hK : 0 < K) (Z : α) (n : Nat) : (madeCells (C Z).toArray (n * K)).toList = (List.replicate n Z).flatMap C := by
 apply List.ext_getElem?
 intro i
 by_cases hi : i < n * K
 ·have h1 : (List.replicate n Z)[i / K]? = some Z := by rw [List.getElem?_replicate, if_pos (Nat.div_lt_of_lt_mul (by rw [Nat.mul_comm]; exact hi))]
  obtain ⟨u, hu⟩ : ∃ u, (C Z)[i % K]? = some u := ⟨_, List.getElem?_eq_getElem (by rw [hC]; exact Nat.mod_lt _ hK)⟩
  have h2 := flat_at hC h1 hu
  rw [Nat.div_add_mod'] at h2
  rw [h2]
  have hz : (C Z).toArray.size = K := by simp [hC]
  simp only [madeCells, Array.toList_map, Array.toList_range, List.getElem?_map, List.getElem?_range hi, Option.map_some, hz]
  congr 1
  rw [getElem!_def]
  simp [hu]
 ·rw [List.getElem?_eq_none (by simp [madeCells]; omega), List.getElem?_eq_none (by rw [flat_len hC, List.length_replicate]; omega)]
def setL (X : List Value) : Nat → List Value → List Value
 | _, [] => X
 | o, v :: vs => setL (X.set o v) (o + 1) vs
theorem setL_mid : ∀ (news old pre post : List Value), old.length = news.length → setL (pre ++ old ++ post) pre.length news = pre ++ news ++ post
 | [], old, pre, post, h => by
  have : old = [] := List.length_eq_zero_iff.1 (by simpa using h)
  subst this; rfl
 | v :: vs, [], pre, post, h => by simp at h
 | v :: vs, o :: os, pre, post, h => by
  have ih := setL_mid vs os (pre ++ [v]) post (by simpa using h)
  have e : (pre ++ o :: os ++ post).set pre.length v = pre ++ [v] ++ os ++ post := by
   rw [List.append_assoc, List.set_append_right _ _ (Nat.le_refl _)]
   simp
  show setL ((pre ++ o :: os ++ post).set pre.length v) (pre.length + 1) vs = _
  rw [e]
  rw [List.length_append] at ih
  simpa using ih
theorem setL_flat {α : Type} {C : α → List Value} {K : Nat} (hC : ∀ x, (C x).length = K) {l : List α} {k : Nat} (hk : k < l.length) (y : α) : setL (l.flatMap C) (k * K) (C y) = (l.set k y).flatMap C := by
 have e1 : l = l.take k ++ l[k] :: l.drop (k + 1) := by rw [List.getElem_cons_drop, List.take_append_drop]
 have e2 : l.set k y = l.take k ++ y :: l.drop (k + 1) := by rw [List.set_eq_take_append_cons_drop, if_pos hk]
 have hl : ((l.take k).flatMap C).length = k * K := by rw [flat_len hC, List.length_take, Nat.min_eq_left (by omega)]
 have h := setL_mid (C y) (C l[k]) ((l.take k).flatMap C) ((l.drop (k + 1)).flatMap C) (by rw [hC, hC])
 rw [hl] at h
 have e3 : l.flatMap C = (l.take k).flatMap C ++ C l[k] ++ (l.drop (k + 1)).flatMap C := by
  conv => lhs; rw [e1]
  rw [List.flatMap_append, List.flatMap_cons, List.append_assoc]
 rw [e3, h, e2, List.flatMap_append, List.flatMap_cons, List.append_assoc]
def zI : InM := ⟨⟨0, 0, 0, 0, 0, [], [], [], []⟩, none, 0⟩
def zM : MeM := ⟨[], [], false, false, 0, [], none, 0⟩
def zC : ClM := ⟨[], [], false, false, [], none, 0, [], none, 0, [], none, 0⟩
theorem mix_set {α : Type} {done : List α} {n : Nat} {Z y : α} (h : done.length < n) : (done ++ List.replicate (n - done.length) Z).set done.length y = (done ++ [y]) ++ List.replicate (n - (done.length + 1)) Z := by
 rw [List.set_append_right _ _ (Nat.le_refl _), Nat.sub_self]
 obtain ⟨m, hm⟩ : ∃ m, n - done.length = m + 1 := ⟨n - done.length - 1, by omega⟩
 rw [hm, show n - (done.length + 1) = m by omega, List.replicate_succ]
 simp
end Go.Proofs.Ytdifmgeicnndfaa.prg
namespace Go.Proofs.Ytdifmgeicnndfaa.prg
open Go.RowKit
open words kindp opp op kind word
theorem gb_set (w : World) (g j : Nat) (u : Value) : w.grownBy (w.setCell ⟨g, j, none⟩ u) (some g) := ⟨rfl, rfl, rfl, by simp, fun k _ hk => heap_setCell_other w ⟨g, j, none⟩ k u (fun e => hk (by simp [e]))⟩
theorem me_eq {m k : MeM} (h1 : m.nm = k.nm) (h2 : m.ds = k.ds) (h3 : m.st = k.st) (h4 : m.ab = k.ab) (h5 : m.rg = k.rg) (h6 : m.co.map pI = k.co.map pI) : pM m = pM k := by unfold pM; rw [h1, h2, h3, h4, h5, h6]
end Go.Proofs.Ytdifmgeicnndfaa.prg
namespace Go.Proofs.Ytdifmgeicnndfaa.prg
open Go.RowKit
open words kindp opp op kind word
theorem cl_eq {m k : ClM} (h1 : m.nm = k.nm) (h2 : m.su = k.su) (h3 : m.fc = k.fc) (h4 : m.ab = k.ab) (h5 : m.is = k.is) (h6 : m.fs.map pF = k.fs.map pF) (h7 : m.ms.map pM = k.ms.map pM) : pC m = pC k := by unfold pC; rw [h1, h2, h3, h4, h5, h6, h7]
end Go.Proofs.Ytdifmgeicnndfaa.prg
namespace Go.Proofs.Ytdifmgeicnndfaa.prg
open Go.RowKit
open words kindp opp op kind word
theorem own_gb {w w' : World} {base g : Nat} {e : TypeId} {size n : Nat} {v : Value} {xs : List Value} (h : w.ownsRow base e size v n xs) (hg : g < base) (k : w.grownBy w' (some g)) : w'.ownsRow base e size v n xs := by
 have hlt := h.lt
 refine ⟨h.1, ?_⟩
 rcases h.2 with h0 | ⟨q, cap, cur, rfl, hbg, hq, rest⟩
 ·exact .inl h0
 ·exact .inr ⟨q, cap, cur, rfl, hbg, (k.block q (hlt q rfl).2 (by intro e; cases e; omega)).trans hq, rest⟩
end Go.Proofs.Ytdifmgeicnndfaa.prg
namespace Go.Proofs.Ytdifmgeicnndfaa.keep
open Go.RowKit
open words
def Sim (u v : Value) : Prop := u = v ∨ (∃ a b, u = .int .i64 a ∧ v = .int .i64 b) ∨ ∃ a b, u = .string a ∧ v = .string b
theorem Sim.refl (u : Value) : Sim u u := .inl rfl
theorem Sim.trans {u v x : Value} (h : Sim u v) (k : Sim v x) : Sim u x := by
 rcases h with rfl | ⟨a, b, rfl, rfl⟩ | ⟨a, b, rfl, rfl⟩
 ·exact k
 ·rcases k with rfl | ⟨c, d, -, rfl⟩ | ⟨c, d, h, -⟩
  ·exact .inr (.inl ⟨a, b, rfl, rfl⟩)
  ·exact .inr (.inl ⟨a, d, rfl, rfl⟩)
  ·cases h
 ·rcases k with rfl | ⟨c, d, h, -⟩ | ⟨c, d, -, rfl⟩
  ·exact .inr (.inr ⟨a, b, rfl, rfl⟩)
  ·cases h
  ·exact .inr (.inr ⟨a, d, rfl, rfl⟩)
theorem Sim.slice {A : Option Addr} {n c : Nat} {v : Value} (h : Sim (.slice A n c) v) : v = .slice A n c := by
 rcases h with h | ⟨a, b, h, -⟩ | ⟨a, b, h, -⟩
 ·exact h.symm
 ·cases h
 ·cases h
theorem Sim.bool {b : Bool} {v : Value} (h : Sim (.bool b) v) : v = .bool b := by
 rcases h with h | ⟨a, b, h, -⟩ | ⟨a, b, h, -⟩
 ·exact h.symm
 ·cases h
 ·cases h
theorem Sim.int {a : Int} {v : Value} (h : Sim (.int .i64 a) v) : ∃ b, v = .int .i64 b := by
 rcases h with h | ⟨c, b, -, h⟩ | ⟨c, b, h, -⟩
 ·exact ⟨a, h.symm⟩
 ·exact ⟨b, h⟩
 ·cases h
structure Keep (b : Nat) (w w' : World) : Prop where
 below : Below b w w'
 row : ∀ g cs t, b ≤ g → w.heap[g]? = some (.cells cs t (0, 0)) → ∃ cs', w'.heap[g]? = some (.cells cs' t (0, 0)) ∧ ∀ (j : Nat) (u : Value), cs[j]? = some u → ∃ u', cs'[j]? = some u' ∧ Sim u u'
theorem Keep.refl (b : Nat) (w : World) : Keep b w w := ⟨Below.refl _ _, fun _ cs _ _ h => ⟨cs, h, fun _ u hu => ⟨u, hu, Sim.refl u⟩⟩⟩
theorem Keep.alloc {b : Nat} {w w' : World} (h : Keep b w w') (hb : b ≤ w'.heap.size) (o : Obj) : Keep b w (w'.alloc o) :=
 ⟨h.below.alloc hb o, fun g cs t hg hc => by
  obtain ⟨cs', h1, h2⟩ := h.row g cs t hg hc
  exact ⟨cs', (Below.heap_alloc w' o g (blk_lt h1)).trans h1, h2⟩⟩
theorem Keep.set {b : Nat} {w w' : World} (h : Keep b w w') {g j : Nat} (hg : b ≤ g) (v : Value) (hv : ∀ u, w'.cell? ⟨g, j, none⟩ = some u → Sim u v) : Keep b w (w'.setCell ⟨g, j, none⟩ v) :=
 ⟨h.below.setCell (p := ⟨g, j, none⟩) hg v, fun g' cs t hg' hc => by
  obtain ⟨cs', h1, h2⟩ := h.row g' cs t hg' hc
  by_cases he : g' = g
  ·subst he
   refine ⟨_, heap_setCell_same w' g' j cs' t v h1, fun i u hu => ?_⟩
   obtain ⟨u', k1, k2⟩ := h2 i u hu
   by_cases hi : i = j
   ·subst hi
    refine ⟨v, ?_, k2.trans (hv u' ?_)⟩
    ·have := (Array.getElem?_eq_some_iff.1 k1).1
     simp [this]
    ·rw [cell_of_row _ _ i _ _ _ h1]; exact k1
   ·exact ⟨u', by rw [Array.getElem?_setIfInBounds_ne (fun e => hi e.symm)]; exact k1, k2⟩
  ·exact ⟨cs', (heap_setCell_other w' ⟨g, j, none⟩ g' v he).trans h1, h2⟩⟩
theorem Keep.drewN {b : Nat} {w w' : World} (h : Keep b w w') (n : Nat) : Keep b w (w'.drewN n) := ⟨over h.below, h.row⟩
theorem Keep.cell {b : Nat} {w w' : World} (h : Keep b w w') {g t j : Nat} {cs : Array Value} {u : Value} (hg : b ≤ g) (hc : w.heap[g]? = some (.cells cs t (0, 0))) (hj : cs[j]? = some u) : ∃ u', w'.cell? ⟨g, j, none⟩ = some u' ∧ Sim u u' ∧ w'.frozen? ⟨g, j, none⟩ = false := by
 obtain ⟨cs', h1, h2⟩ := h.row g cs t hg hc
 obtain ⟨u', k1, k2⟩ := h2 j u hj
 exact ⟨u', (cell_of_row _ _ j _ _ _ h1).trans k1, k2, frozen_of_row _ _ j _ _ h1⟩
theorem Keep.own {b : Nat} {w w' : World} (h : Keep b w w') {e size : Nat} {g n cap : Nat} {xs : List Value} (ho : w.ownsRow b e size (.slice (some ⟨g, 0, none⟩) n cap) n xs) {j : Nat} {u : Value} (hj : xs[j]? = some u) : ∃ u', w'.cell? ⟨g, j, none⟩ = some u' ∧ Sim u u' ∧ w'.frozen? ⟨g, j, none⟩ = false := by
 rcases ho.2 with ⟨h', _⟩ | ⟨g', cap', cur, h', hbg, hg, hnc, _, hcs, htake⟩
 ·simp at h'
 ·simp only [Value.slice.injEq, Option.some.injEq, Addr.mk.injEq, and_true, true_and] at h'
  obtain ⟨rfl, rfl⟩ := h'
  refine h.cell hbg hg (u := u) ?_
  rw [← htake, List.getElem?_take] at hj
  split at hj
  ·rw [← Array.getElem?_toList]; exact hj
  ·cases hj
end Go.Proofs.Ytdifmgeicnndfaa.keep

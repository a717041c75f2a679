/-
 Layer 8: whether two programs without fields are the same: the program's answers.
-/
import Derived.Test.YtjcdgpfffmnneaaGreatDoorNormE
import Derived.Test.YtjcdgpfffmnneaaGreatDoorOpS
import Derived.BigQuiet
namespace Go.Proofs.YtjcdgpfffmnneaaGreatDoor.prg
open Go.RowKit
open words kindp opp op kind word

/-- what they are, without where they lie -/
def pI (x : InM) : In := x.i
structure FiP where
 nm : Tx
 k : Int
 cl : Tx
 st : Bool
deriving DecidableEq
structure MeP where
 nm : Tx
 ds : Tx
 st : Bool
 ab : Bool
 rg : Int
 co : List In
deriving DecidableEq
structure ClP where
 nm : Tx
 su : Tx
 fc : Bool
 ab : Bool
 is : List Tx
 fs : List FiP
 ms : List MeP
deriving DecidableEq
structure PrP where
 cs : List ClP
 ns : List Tx
 ec : Tx
 en : Tx
 ed : Tx
deriving DecidableEq
def pF (f : FiM) : FiP := ⟨f.nm, f.k, f.cl, f.st⟩
def pM (m : MeM) : MeP := ⟨m.nm, m.ds, m.st, m.ab, m.rg, m.co.map pI⟩
def pC (c : ClM) : ClP := ⟨c.nm, c.su, c.fc, c.ab, c.is, c.fs.map pF, c.ms.map pM⟩
def pP (p : PrM) : PrP := ⟨p.cs.map pC, p.ns, p.ec, p.en, p.ed⟩
theorem pM_eq (m k : MeM) : decide (pM m = pM k) = ((m.nm == k.nm) && ((m.ds == k.ds) && ((m.st == k.st) && ((m.ab == k.ab) && ((m.rg == k.rg) && decide (m.co.map pI = k.co.map pI)))))) := by
 rw [Bool.eq_iff_iff]; simp [pM]
theorem pC_eq (c d : ClM) (h : c.fs = []) (h' : d.fs = []) : decide (pC c = pC d) = ((c.nm == d.nm) && ((c.su == d.su) && ((c.fc == d.fc) && ((c.ab == d.ab) && (decide (c.is = d.is) && decide (c.ms.map pM = d.ms.map pM)))))) := by
 rw [Bool.eq_iff_iff]; simp [pC, h, h']
theorem pP_eq (p q : PrM) (h : p.ec = q.ec ∧ p.en = q.en ∧ p.ed = q.ed) : decide (pP p = pP q) = (decide (p.cs.map pC = q.cs.map pC) && decide (p.ns = q.ns)) := by
 rw [Bool.eq_iff_iff]; simp [pP, h.1, h.2.1, h.2.2]

set_option maxRecDepth 100000 in
set_option maxHeartbeats 8000000 in
set_option linter.all false in
theorem eqs_w (A C : Option Addr) (c d : Nat) (l k : List Tx) (w : World) (hr : Rd w A (SX l)) (kr : Rd w C (SX k)) (hl : l.length ≤ 281474976710656) (hk : k.length ≤ 281474976710656) :
  Calls Tryz.prog 37 #[.slice A l.length c, .slice C k.length d] w fun e w' => e = .returned (.bool (decide (l = k))) ∧ ∃ q, w' = w.drewN q := by
 obtain ⟨n, hn⟩ : ∃ n, n = l.length := ⟨_, rfl⟩
 obtain ⟨m, hm⟩ : ∃ m, m = k.length := ⟨_, rfl⟩
 rw [← hn, ← hm]
 have hnI : (n : Int) ≤ 281474976710656 := by omega
 have hmI : (m : Int) ≤ 281474976710656 := by omega
 by_cases hnm : n = m
 ·subst hnm
  have hnn : ((n : Int) != n) = false := by simp
  obtain ⟨R, hR⟩ : ∃ R : Bool, R = decide (l = k) := ⟨_, rfl⟩
  rw [← hR]
  have HR := Lib.hid hR; have HN := Lib.hid hn; have HM := Lib.hid hm
  clear hl hk hR hn hm
  go_enter Tryz.func37, Tryz.ntmps37
  go_wp2
  go_loopw [13] (fun i wr => ∃ j : Nat, j ≤ n ∧ i = .int .i64 (j : Int) ∧ (∃ q, wr = w.drewN q) ∧ l.take j = k.take j) (fun i _ => n - (intOf i).toNat)
  case atStart => exact ⟨0, Nat.zero_le _, rfl, ⟨0, rfl⟩, rfl⟩
  case round =>
   obtain ⟨j, hj, rfl, ⟨q, rfl⟩, ht⟩ := hrel
   have HT := Lib.hid ht
   clear ht
   by_cases hlt : j < n
   ·obtain ⟨x, hx⟩ : ∃ x, l[j]? = some x := ⟨l[j]'(by have := HN.out; omega), List.getElem?_eq_getElem _⟩
    obtain ⟨y, hy⟩ : ∃ y, k[j]? = some y := ⟨k[j]'(by have := HM.out; omega), List.getElem?_eq_getElem _⟩
    have HX := Lib.hid hx; have HY := Lib.hid hy
    obtain ⟨a, rfl, _, ha⟩ := hr.at_ (sx_get hx)
    obtain ⟨b, rfl, _, hb⟩ := kr.at_ (sx_get hy)
    by_cases hxy : x = y
    ·subst hxy
     have hxx : (x != x) = false := by simp
     have hxy0 : (x == x) = true := by simp
     clear hr kr hx hy
     go_wp2
     go_quiet (fail)
     go_wp2
     go_roundw
     case rel => exact ⟨j + 1, by omega, by go_num, ⟨_, rfl⟩, by rw [List.take_add_one, List.take_add_one, HT.out, HX.out, HY.out]⟩
     case measure => simp [intOf]; omega
    ·have hxx : (x != y) = true := by simpa using hxy
     have hxy0 : (x == y) = false := by simpa using hxy
     have hf : R = false := by
      rw [HR.out]
      refine decide_eq_false fun e => hxy ?_
      have h1 := HX.out
      rw [e, HY.out] at h1
      exact (Option.some.inj h1).symm
     subst hf
     clear hr kr hx hy hxy
     go_wp2
     go_quiet (fail)
     go_wp2
     go_ret
     exact ⟨rfl, _, World.drewN_drewN _ _ _⟩
   ·have hf : R = true := by
     rw [HR.out]
     refine decide_eq_true ?_
     have h1 := HT.out
     rwa [List.take_of_length_le (by have := HN.out; omega), List.take_of_length_le (by have := HM.out; omega)] at h1
    subst hf
    go_wp2
    go_ret
    exact ⟨rfl, q, rfl⟩
 ·have hne : ((n : Int) != (m : Int)) = true := by simp; omega
  rw [show decide (l = k) = false from decide_eq_false (fun e => hnm (by rw [hn, hm, e]))]
  clear hn hm hnm hr kr
  go_enter Tryz.func37, Tryz.ntmps37
  go_wp2
  go_ret
  exact ⟨rfl, 0, rfl⟩


set_option maxRecDepth 100000 in
set_option maxHeartbeats 8000000 in
set_option linter.all false in
theorem eqf_none (A C : Option Addr) (c d : Nat) (w : World) :
  Calls Tryz.prog 70 #[.slice A 0 c, .slice C 0 d] w fun e w' => e = .returned (.bool true) ∧ Below w.heap.size w w' := by
 go_enter Tryz.func70, Tryz.ntmps70
 go_wp2
 go_loopw [13] (fun i wr => i = .int .i64 0 ∧ Below w.heap.size w wr) (fun i _ => 0)
 case atStart => exact ⟨rfl, Below.refl _ _⟩
 case round =>
  obtain ⟨rfl, hbw⟩ := hrel
  go_wp2
  go_ret
  exact ⟨rfl, hbw⟩

set_option maxRecDepth 100000 in
set_option maxHeartbeats 8000000 in
set_option linter.all false in
theorem eqf_in (A E : Option Addr) (c d : Nat) (l k : List InM) (w : World) (hr : Rd w A (l.flatMap inC)) (kr : Rd w E (k.flatMap inC)) (hl : l.length ≤ 281474976710656) (hk : k.length ≤ 281474976710656)
  (HO : ∀ x ∈ l, ∀ y ∈ k, ∀ v : World, Below w.heap.size w v → Calls Tryz.prog 101 #[.agg (inC x).toArray, .agg (inC y).toArray] v fun e w' => e = .returned (.bool (decide (pI x = pI y))) ∧ Below v.heap.size v w') :
  Calls Tryz.prog 100 #[.slice A l.length c, .slice E k.length d, .func (.func 101) #[] #[]] w fun e w' => e = .returned (.bool (decide (l.map pI = k.map pI))) ∧ Below w.heap.size w w' := by
 obtain ⟨n, hn⟩ : ∃ n, n = l.length := ⟨_, rfl⟩
 obtain ⟨m, hm⟩ : ∃ m, m = k.length := ⟨_, rfl⟩
 rw [← hn, ← hm]
 have hnI : (n : Int) ≤ 281474976710656 := by omega
 have hmI : (m : Int) ≤ 281474976710656 := by omega
 have HRD := Lib.hid hr; have HRE := Lib.hid kr; have HOO := Lib.hid HO
 clear hr kr HO
 by_cases hnm : n = m
 ·subst hnm
  have hnn : ((n : Int) != n) = false := by simp
  obtain ⟨R, hR⟩ : ∃ R : Bool, R = decide (l.map pI = k.map pI) := ⟨_, rfl⟩
  rw [← hR]
  have HR := Lib.hid hR; have HN := Lib.hid hn; have HM := Lib.hid hm
  clear hl hk hR hn hm
  go_enter Tryz.func100, Tryz.ntmps100
  go_wp2
  go_loopw [17] (fun i wr => ∃ j : Nat, j ≤ n ∧ i = .int .i64 (j : Int) ∧ Below w.heap.size w wr ∧ (l.take j).map pI = (k.take j).map pI) (fun i _ => n - (intOf i).toNat)
  case atStart => exact ⟨0, Nat.zero_le _, rfl, Below.refl _ _, rfl⟩
  case round =>
   obtain ⟨j, hj, rfl, hbw, ht⟩ := hrel
   have HT := Lib.hid ht; have HB := Lib.hid hbw
   clear ht
   by_cases hlt : j < n
   ·have hltI : (j : Int) < (n : Int) := by omega
    obtain ⟨x, hx⟩ : ∃ x, l[j]? = some x := ⟨l[j]'(by have := HN.out; omega), List.getElem?_eq_getElem _⟩
    obtain ⟨y, hy⟩ : ∃ y, k[j]? = some y := ⟨k[j]'(by have := HM.out; omega), List.getElem?_eq_getElem _⟩
    have HX := Lib.hid hx; have HY := Lib.hid hy
    obtain ⟨a, rfl, _, c0, c1, c2, c3, c4, c5, c6, c7, c8⟩ := in_at (HRD.out.below hbw) hx
    have hal1 := hbw.alloc hbw.size (.cells (inC x).toArray 49)
    obtain ⟨b, rfl, _, d0, d1, d2, d3, d4, d5, d6, d7, d8⟩ := in_at (HRE.out.below hal1) hy
    dsimp only [inC] at d0 d1 d2 d3 d4 d5 d6 d7 d8
    have hal := (hbw.alloc hbw.size (.cells (inC x).toArray 49)).alloc (by have := hbw.size; simp; omega) (.cells (inC y).toArray 49)
    have HAL := Lib.hid hal
    have HCL := Lib.hid (HOO.out x (List.mem_of_getElem? hx) y (List.mem_of_getElem? hy) _ hal)
    dsimp only [inC] at HCL HAL
    by_cases hxy : pI x = pI y
    ·rw [decide_eq_true hxy] at HCL
     have HXY := Lib.hid hxy
     clear hx hy hal hal1 hxy hbw
     go_wp2_with fail
     try simp only [World.size_alloc]
     refine HCL.out.mono ?_
     rintro e v1 ⟨rfl, hb1⟩
     have HB1 := Lib.hid (HAL.out.trans (hb1.mono HAL.out.size))
     clear hb1
     go_wp2
     go_roundw
     case rel => exact ⟨j + 1, by omega, by go_num, HB1.out, by rw [List.take_add_one, List.take_add_one, List.map_append, List.map_append, HT.out, HX.out, HY.out]; simp [HXY.out]⟩
     case measure => simp [intOf]; omega
    ·have hf : R = false := by
      rw [HR.out]
      refine decide_eq_false fun e => hxy ?_
      have h1 : (l.map pI)[j]? = some (pI x) := by rw [List.getElem?_map, HX.out]; rfl
      rw [e, List.getElem?_map, HY.out] at h1
      exact (Option.some.inj h1).symm
     subst hf
     rw [decide_eq_false hxy] at HCL
     clear hx hy hal hal1 hxy hbw
     go_wp2_with fail
     try simp only [World.size_alloc]
     refine HCL.out.mono ?_
     rintro e v1 ⟨rfl, hb1⟩
     have HB1 := Lib.hid (HAL.out.trans (hb1.mono HAL.out.size))
     clear hb1
     go_wp2
     go_ret
     exact ⟨rfl, HB1.out⟩
   ·have hltI : ¬ (j : Int) < (n : Int) := by omega
    have hf : R = true := by
     rw [HR.out]
     refine decide_eq_true ?_
     have h1 := HT.out
     rwa [List.take_of_length_le (by have := HN.out; omega), List.take_of_length_le (by have := HM.out; omega)] at h1
    subst hf
    clear hbw
    go_wp2
    go_ret
    exact ⟨rfl, HB.out⟩
 ·have hne : ((n : Int) != (m : Int)) = true := by simp; omega
  rw [show decide (l.map pI = k.map pI) = false from decide_eq_false (fun e => hnm (by have := congrArg List.length e; simp only [List.length_map] at this; omega))]
  clear hn hm hnm hl hk
  go_enter Tryz.func100, Tryz.ntmps100
  go_wp2
  go_ret
  exact ⟨rfl, Below.refl _ _⟩

set_option maxRecDepth 100000 in
set_option maxHeartbeats 8000000 in
set_option linter.all false in
theorem eqf_me (A E : Option Addr) (c d : Nat) (l k : List MeM) (w : World) (hr : Rd w A (l.flatMap meC)) (kr : Rd w E (k.flatMap meC)) (hl : l.length ≤ 281474976710656) (hk : k.length ≤ 281474976710656)
  (HO : ∀ x ∈ l, ∀ y ∈ k, ∀ v : World, Below w.heap.size w v → Calls Tryz.prog 72 #[.agg (meC x).toArray, .agg (meC y).toArray] v fun e w' => e = .returned (.bool (decide (pM x = pM y))) ∧ Below v.heap.size v w') :
  Calls Tryz.prog 71 #[.slice A l.length c, .slice E k.length d, .func (.func 72) #[] #[]] w fun e w' => e = .returned (.bool (decide (l.map pM = k.map pM))) ∧ Below w.heap.size w w' := by
 obtain ⟨n, hn⟩ : ∃ n, n = l.length := ⟨_, rfl⟩
 obtain ⟨m, hm⟩ : ∃ m, m = k.length := ⟨_, rfl⟩
 rw [← hn, ← hm]
 have hnI : (n : Int) ≤ 281474976710656 := by omega
 have hmI : (m : Int) ≤ 281474976710656 := by omega
 have HRD := Lib.hid hr; have HRE := Lib.hid kr; have HOO := Lib.hid HO
 clear hr kr HO
 by_cases hnm : n = m
 ·subst hnm
  have hnn : ((n : Int) != n) = false := by simp
  obtain ⟨R, hR⟩ : ∃ R : Bool, R = decide (l.map pM = k.map pM) := ⟨_, rfl⟩
  rw [← hR]
  have HR := Lib.hid hR; have HN := Lib.hid hn; have HM := Lib.hid hm
  clear hl hk hR hn hm
  go_enter Tryz.func71, Tryz.ntmps71
  go_wp2
  go_loopw [17] (fun i wr => ∃ j : Nat, j ≤ n ∧ i = .int .i64 (j : Int) ∧ Below w.heap.size w wr ∧ (l.take j).map pM = (k.take j).map pM) (fun i _ => n - (intOf i).toNat)
  case atStart => exact ⟨0, Nat.zero_le _, rfl, Below.refl _ _, rfl⟩
  case round =>
   obtain ⟨j, hj, rfl, hbw, ht⟩ := hrel
   have HT := Lib.hid ht; have HB := Lib.hid hbw
   clear ht
   by_cases hlt : j < n
   ·have hltI : (j : Int) < (n : Int) := by omega
    obtain ⟨x, hx⟩ : ∃ x, l[j]? = some x := ⟨l[j]'(by have := HN.out; omega), List.getElem?_eq_getElem _⟩
    obtain ⟨y, hy⟩ : ∃ y, k[j]? = some y := ⟨k[j]'(by have := HM.out; omega), List.getElem?_eq_getElem _⟩
    have HX := Lib.hid hx; have HY := Lib.hid hy
    obtain ⟨a, rfl, _, c0, c1, c2, c3, c4, c5⟩ := me_at (HRD.out.below hbw) hx
    have hal1 := hbw.alloc hbw.size (.cells (meC x).toArray 34)
    obtain ⟨b, rfl, _, d0, d1, d2, d3, d4, d5⟩ := me_at (HRE.out.below hal1) hy
    dsimp only [meC] at d0 d1 d2 d3 d4 d5
    have hal := (hbw.alloc hbw.size (.cells (meC x).toArray 34)).alloc (by have := hbw.size; simp; omega) (.cells (meC y).toArray 34)
    have HAL := Lib.hid hal
    have HCL := Lib.hid (HOO.out x (List.mem_of_getElem? hx) y (List.mem_of_getElem? hy) _ hal)
    dsimp only [meC] at HCL HAL
    by_cases hxy : pM x = pM y
    ·rw [decide_eq_true hxy] at HCL
     have HXY := Lib.hid hxy
     clear hx hy hal hal1 hxy hbw
     go_wp2_with fail
     try simp only [World.size_alloc]
     refine HCL.out.mono ?_
     rintro e v1 ⟨rfl, hb1⟩
     have HB1 := Lib.hid (HAL.out.trans (hb1.mono HAL.out.size))
     clear hb1
     go_wp2
     go_roundw
     case rel => exact ⟨j + 1, by omega, by go_num, HB1.out, by rw [List.take_add_one, List.take_add_one, List.map_append, List.map_append, HT.out, HX.out, HY.out]; simp [HXY.out]⟩
     case measure => simp [intOf]; omega
    ·have hf : R = false := by
      rw [HR.out]
      refine decide_eq_false fun e => hxy ?_
      have h1 : (l.map pM)[j]? = some (pM x) := by rw [List.getElem?_map, HX.out]; rfl
      rw [e, List.getElem?_map, HY.out] at h1
      exact (Option.some.inj h1).symm
     subst hf
     rw [decide_eq_false hxy] at HCL
     clear hx hy hal hal1 hxy hbw
     go_wp2_with fail
     try simp only [World.size_alloc]
     refine HCL.out.mono ?_
     rintro e v1 ⟨rfl, hb1⟩
     have HB1 := Lib.hid (HAL.out.trans (hb1.mono HAL.out.size))
     clear hb1
     go_wp2
     go_ret
     exact ⟨rfl, HB1.out⟩
   ·have hltI : ¬ (j : Int) < (n : Int) := by omega
    have hf : R = true := by
     rw [HR.out]
     refine decide_eq_true ?_
     have h1 := HT.out
     rwa [List.take_of_length_le (by have := HN.out; omega), List.take_of_length_le (by have := HM.out; omega)] at h1
    subst hf
    clear hbw
    go_wp2
    go_ret
    exact ⟨rfl, HB.out⟩
 ·have hne : ((n : Int) != (m : Int)) = true := by simp; omega
  rw [show decide (l.map pM = k.map pM) = false from decide_eq_false (fun e => hnm (by have := congrArg List.length e; simp only [List.length_map] at this; omega))]
  clear hn hm hnm hl hk
  go_enter Tryz.func71, Tryz.ntmps71
  go_wp2
  go_ret
  exact ⟨rfl, Below.refl _ _⟩

set_option maxRecDepth 100000 in
set_option maxHeartbeats 8000000 in
set_option linter.all false in
theorem eqf_cl (A E : Option Addr) (c d : Nat) (l k : List ClM) (w : World) (hr : Rd w A (l.flatMap clC)) (kr : Rd w E (k.flatMap clC)) (hl : l.length ≤ 281474976710656) (hk : k.length ≤ 281474976710656)
  (HO : ∀ x ∈ l, ∀ y ∈ k, ∀ v : World, Below w.heap.size w v → Calls Tryz.prog 36 #[.agg (clC x).toArray, .agg (clC y).toArray] v fun e w' => e = .returned (.bool (decide (pC x = pC y))) ∧ Below v.heap.size v w') :
  Calls Tryz.prog 35 #[.slice A l.length c, .slice E k.length d, .func (.func 36) #[] #[]] w fun e w' => e = .returned (.bool (decide (l.map pC = k.map pC))) ∧ Below w.heap.size w w' := by
 obtain ⟨n, hn⟩ : ∃ n, n = l.length := ⟨_, rfl⟩
 obtain ⟨m, hm⟩ : ∃ m, m = k.length := ⟨_, rfl⟩
 rw [← hn, ← hm]
 have hnI : (n : Int) ≤ 281474976710656 := by omega
 have hmI : (m : Int) ≤ 281474976710656 := by omega
 have HRD := Lib.hid hr; have HRE := Lib.hid kr; have HOO := Lib.hid HO
 clear hr kr HO
 by_cases hnm : n = m
 ·subst hnm
  have hnn : ((n : Int) != n) = false := by simp
  obtain ⟨R, hR⟩ : ∃ R : Bool, R = decide (l.map pC = k.map pC) := ⟨_, rfl⟩
  rw [← hR]
  have HR := Lib.hid hR; have HN := Lib.hid hn; have HM := Lib.hid hm
  clear hl hk hR hn hm
  go_enter Tryz.func35, Tryz.ntmps35
  go_wp2
  go_loopw [17] (fun i wr => ∃ j : Nat, j ≤ n ∧ i = .int .i64 (j : Int) ∧ Below w.heap.size w wr ∧ (l.take j).map pC = (k.take j).map pC) (fun i _ => n - (intOf i).toNat)
  case atStart => exact ⟨0, Nat.zero_le _, rfl, Below.refl _ _, rfl⟩
  case round =>
   obtain ⟨j, hj, rfl, hbw, ht⟩ := hrel
   have HT := Lib.hid ht; have HB := Lib.hid hbw
   clear ht
   by_cases hlt : j < n
   ·have hltI : (j : Int) < (n : Int) := by omega
    obtain ⟨x, hx⟩ : ∃ x, l[j]? = some x := ⟨l[j]'(by have := HN.out; omega), List.getElem?_eq_getElem _⟩
    obtain ⟨y, hy⟩ : ∃ y, k[j]? = some y := ⟨k[j]'(by have := HM.out; omega), List.getElem?_eq_getElem _⟩
    have HX := Lib.hid hx; have HY := Lib.hid hy
    obtain ⟨a, rfl, _, c0, c1, c2, c3, c4, c5, c6⟩ := cl_at (HRD.out.below hbw) hx
    have hal1 := hbw.alloc hbw.size (.cells (clC x).toArray 39)
    obtain ⟨b, rfl, _, d0, d1, d2, d3, d4, d5, d6⟩ := cl_at (HRE.out.below hal1) hy
    dsimp only [clC] at d0 d1 d2 d3 d4 d5 d6
    have hal := (hbw.alloc hbw.size (.cells (clC x).toArray 39)).alloc (by have := hbw.size; simp; omega) (.cells (clC y).toArray 39)
    have HAL := Lib.hid hal
    have HCL := Lib.hid (HOO.out x (List.mem_of_getElem? hx) y (List.mem_of_getElem? hy) _ hal)
    dsimp only [clC] at HCL HAL
    by_cases hxy : pC x = pC y
    ·rw [decide_eq_true hxy] at HCL
     have HXY := Lib.hid hxy
     clear hx hy hal hal1 hxy hbw
     go_wp2_with fail
     try simp only [World.size_alloc]
     refine HCL.out.mono ?_
     rintro e v1 ⟨rfl, hb1⟩
     have HB1 := Lib.hid (HAL.out.trans (hb1.mono HAL.out.size))
     clear hb1
     go_wp2
     go_roundw
     case rel => exact ⟨j + 1, by omega, by go_num, HB1.out, by rw [List.take_add_one, List.take_add_one, List.map_append, List.map_append, HT.out, HX.out, HY.out]; simp [HXY.out]⟩
     case measure => simp [intOf]; omega
    ·have hf : R = false := by
      rw [HR.out]
      refine decide_eq_false fun e => hxy ?_
      have h1 : (l.map pC)[j]? = some (pC x) := by rw [List.getElem?_map, HX.out]; rfl
      rw [e, List.getElem?_map, HY.out] at h1
      exact (Option.some.inj h1).symm
     subst hf
     rw [decide_eq_false hxy] at HCL
     clear hx hy hal hal1 hxy hbw
     go_wp2_with fail
     try simp only [World.size_alloc]
     refine HCL.out.mono ?_
     rintro e v1 ⟨rfl, hb1⟩
     have HB1 := Lib.hid (HAL.out.trans (hb1.mono HAL.out.size))
     clear hb1
     go_wp2
     go_ret
     exact ⟨rfl, HB1.out⟩
   ·have hltI : ¬ (j : Int) < (n : Int) := by omega
    have hf : R = true := by
     rw [HR.out]
     refine decide_eq_true ?_
     have h1 := HT.out
     rwa [List.take_of_length_le (by have := HN.out; omega), List.take_of_length_le (by have := HM.out; omega)] at h1
    subst hf
    clear hbw
    go_wp2
    go_ret
    exact ⟨rfl, HB.out⟩
 ·have hne : ((n : Int) != (m : Int)) = true := by simp; omega
  rw [show decide (l.map pC = k.map pC) = false from decide_eq_false (fun e => hnm (by have := congrArg List.length e; simp only [List.length_map] at this; omega))]
  clear hn hm hnm hl hk
  go_enter Tryz.func35, Tryz.ntmps35
  go_wp2
  go_ret
  exact ⟨rfl, Below.refl _ _⟩

theorem same_ww (x y : InM) (w : World) (hx : InOk w x) (hy : InOk w y) (bx : InBd x) (by' : InBd y) : Calls Tryz.prog 101 #[.agg (inC x).toArray, .agg (inC y).toArray] w fun e w' => e = .returned (.bool (decide (pI x = pI y))) ∧ Below w.heap.size w w' :=
 (same_w x.i y.i x.A y.A x.c y.c w hx.2 hy.2 (by have := bx.1; omega) (by have := by'.1; omega)).mono fun e w' h => by
  first | exact ⟨h.1, h.2⟩ | (obtain ⟨h1, q, rfl⟩ := h; exact ⟨h1, over (Below.refl _ _)⟩) | (obtain ⟨h1, rfl⟩ := h; exact ⟨h1, Below.refl _ _⟩)

set_option maxRecDepth 100000 in
set_option maxHeartbeats 8000000 in
set_option linter.all false in
theorem sameM_w (x y : MeM) (w : World) (hx : MeOk w x) (hy : MeOk w y) (bx : MeBd x) (by' : MeBd y) : Calls Tryz.prog 72 #[.agg (meC x).toArray, .agg (meC y).toArray] w fun e w' => e = .returned (.bool (decide (pM x = pM y))) ∧ Below w.heap.size w w' := by
 obtain ⟨W, hW⟩ : ∃ W, W = (w.alloc (.cells (meC x).toArray 34)).alloc (.cells (meC y).toArray 34) := ⟨_, rfl⟩
 have hal : Below w.heap.size w W := by rw [hW]; exact ((Below.refl _ w).alloc (Nat.le_refl _) _).alloc (by simp) _
 have HAL := Lib.hid hal
 have hbi : W.heap[w.heap.size]? = some (.cells (meC x).toArray 34 (0, 0)) := by rw [hW]; exact (Below.heap_alloc _ _ _ (by simp)).trans (heap_alloc_new w _)
 have hbj : W.heap[w.heap.size + 1]? = some (.cells (meC y).toArray 34 (0, 0)) := by
  rw [hW]
  have := heap_alloc_new (w.alloc (.cells (meC x).toArray 34)) (.cells (meC y).toArray 34)
  rwa [World.size_alloc] at this
 have HBX := Lib.hid hbi; have HBY := Lib.hid hbj; have HLX := Lib.hid (blk_lt hbi); have HLY := Lib.hid (blk_lt hbj)
 obtain ⟨x0_0, x0_1, x0_2, x0_3, x0_4, x0_5⟩ := me_cells hbi
 obtain ⟨y0_0, y0_1, y0_2, y0_3, y0_4, y0_5⟩ := me_cells hbj
 have K0 := Lib.hid (Below.refl W.heap.size W)
 have hxW := hx.below hal; have hyW := hy.below hal
 have HC := Lib.hid (fun v (hv : Below W.heap.size W v) => eqf_in x.A y.A x.c y.c x.co y.co v (hxW.2.1.below hv) (hyW.2.1.below hv) (by have := bx.2.2.1; omega) (by have := by'.2.2.1; omega)
  (fun a ha b hb u hu => same_ww a b u (((hxW.2.2 a ha).below hv).below hu) (((hyW.2.2 b hb).below hv).below hu) (bx.2.2.2 a ha) (by'.2.2.2 b hb)))
 rw [pM_eq]
 obtain ⟨bc, hbc⟩ : ∃ b, b = decide (x.co.map pI = y.co.map pI) := ⟨_, rfl⟩
 rw [← hbc] at HC ⊢
 unfold meC at hW ⊢
 have HW := Lib.hid hW
 clear hal hbi hbj hW hxW hyW hx hy bx by' hbc
 cases h0 : (x.nm == y.nm) with
 | false =>
  (try simp only [h0] at HW)
  go_enter Tryz.func72, Tryz.ntmps72
  go_wp2_with fail
  try simp only [World.size_alloc]
  rw [← HW.out]
  (try go_wp2_with fail)
  go_ret
  exact ⟨by first | rfl | (simp only [h0, bls]; done) | (simp only [h0, bls]; rfl), HAL.out.trans (K0.out.mono HAL.out.size)⟩
 | true =>
  cases h1 : (x.ds == y.ds) with
  | false =>
   (try simp only [h0, h1] at HW)
   go_enter Tryz.func72, Tryz.ntmps72
   go_wp2_with fail
   try simp only [World.size_alloc]
   rw [← HW.out]
   (try go_wp2_with fail)
   go_ret
   exact ⟨by first | rfl | (simp only [h0, h1, bls]; done) | (simp only [h0, h1, bls]; rfl), HAL.out.trans (K0.out.mono HAL.out.size)⟩
  | true =>
   cases h2 : (x.st == y.st) with
   | false =>
    (try simp only [h0, h1, h2] at HW)
    go_enter Tryz.func72, Tryz.ntmps72
    go_wp2_with fail
    try simp only [World.size_alloc]
    rw [← HW.out]
    (try go_wp2_with fail)
    go_ret
    exact ⟨by first | rfl | (simp only [h0, h1, h2, bls]; done) | (simp only [h0, h1, h2, bls]; rfl), HAL.out.trans (K0.out.mono HAL.out.size)⟩
   | true =>
    cases h3 : (x.ab == y.ab) with
    | false =>
     (try simp only [h0, h1, h2, h3] at HW)
     go_enter Tryz.func72, Tryz.ntmps72
     go_wp2_with fail
     try simp only [World.size_alloc]
     rw [← HW.out]
     (try go_wp2_with fail)
     go_ret
     exact ⟨by first | rfl | (simp only [h0, h1, h2, h3, bls]; done) | (simp only [h0, h1, h2, h3, bls]; rfl), HAL.out.trans (K0.out.mono HAL.out.size)⟩
    | true =>
     cases h4 : (x.rg == y.rg) with
     | false =>
      (try simp only [h0, h1, h2, h3, h4] at HW)
      go_enter Tryz.func72, Tryz.ntmps72
      go_wp2_with fail
      try simp only [World.size_alloc]
      rw [← HW.out]
      (try go_wp2_with fail)
      go_ret
      exact ⟨by first | rfl | (simp only [h0, h1, h2, h3, h4, bls]; done) | (simp only [h0, h1, h2, h3, h4, bls]; rfl), HAL.out.trans (K0.out.mono HAL.out.size)⟩
     | true =>
      (try simp only [h0, h1, h2, h3, h4] at HW)
      go_enter Tryz.func72, Tryz.ntmps72
      go_wp2_with fail
      try simp only [World.size_alloc]
      rw [← HW.out]
      (try go_wp2_with fail)
      refine (HC.out _ K0.out).mono ?_
      rintro e v1 ⟨rfl, hb⟩
      have K1 := Lib.hid (show Below W.heap.size W v1 from then' K0.out (by first | exact hb | (obtain ⟨q, rfl⟩ := hb; exact over (Below.refl _ _))))
      obtain ⟨x1_0, x1_1, x1_2, x1_3, x1_4, x1_5⟩ := me_cells ((K1.out.block _ HLX.out).trans HBX.out)
      obtain ⟨y1_0, y1_1, y1_2, y1_3, y1_4, y1_5⟩ := me_cells ((K1.out.block _ HLY.out).trans HBY.out)
      clear hb x0_0 x0_1 x0_2 x0_3 x0_4 x0_5 y0_0 y0_1 y0_2 y0_3 y0_4 y0_5
      cases h5 : bc with
      | false =>
       (try go_wp2_with fail)
       go_ret
       exact ⟨by first | rfl | (simp only [h0, h1, h2, h3, h4, h5, bls]; done) | (simp only [h0, h1, h2, h3, h4, h5, bls]; rfl), HAL.out.trans (K1.out.mono HAL.out.size)⟩
      | true =>
       (try go_wp2_with fail)
       go_ret
       exact ⟨by first | rfl | (simp only [h0, h1, h2, h3, h4, h5, bls]; done) | (simp only [h0, h1, h2, h3, h4, h5, bls]; rfl), HAL.out.trans (K1.out.mono HAL.out.size)⟩

set_option maxRecDepth 100000 in
set_option maxHeartbeats 8000000 in
set_option linter.all false in
theorem sameC_w (x y : ClM) (w : World) (hx : ClOk w x) (hy : ClOk w y) (bx : ClBd x) (by' : ClBd y) (fx : x.fs = []) (fy : y.fs = []) : Calls Tryz.prog 36 #[.agg (clC x).toArray, .agg (clC y).toArray] w fun e w' => e = .returned (.bool (decide (pC x = pC y))) ∧ Below w.heap.size w w' := by
 obtain ⟨W, hW⟩ : ∃ W, W = (w.alloc (.cells (clC x).toArray 39)).alloc (.cells (clC y).toArray 39) := ⟨_, rfl⟩
 have hal : Below w.heap.size w W := by rw [hW]; exact ((Below.refl _ w).alloc (Nat.le_refl _) _).alloc (by simp) _
 have HAL := Lib.hid hal
 have hbi : W.heap[w.heap.size]? = some (.cells (clC x).toArray 39 (0, 0)) := by rw [hW]; exact (Below.heap_alloc _ _ _ (by simp)).trans (heap_alloc_new w _)
 have hbj : W.heap[w.heap.size + 1]? = some (.cells (clC y).toArray 39 (0, 0)) := by
  rw [hW]
  have := heap_alloc_new (w.alloc (.cells (clC x).toArray 39)) (.cells (clC y).toArray 39)
  rwa [World.size_alloc] at this
 have HBX := Lib.hid hbi; have HBY := Lib.hid hbj; have HLX := Lib.hid (blk_lt hbi); have HLY := Lib.hid (blk_lt hbj)
 obtain ⟨x0_0, x0_1, x0_2, x0_3, x0_4, x0_5, x0_6⟩ := cl_cells hbi
 obtain ⟨y0_0, y0_1, y0_2, y0_3, y0_4, y0_5, y0_6⟩ := cl_cells hbj
 have K0 := Lib.hid (Below.refl W.heap.size W)
 have hxW := hx.below hal; have hyW := hy.below hal
 have HA := Lib.hid (fun v (hv : Below W.heap.size W v) => eqs_w x.A1 y.A1 x.c1 y.c1 x.is y.is v (hxW.1.2.below hv) (hyW.1.2.below hv) (by have := bx.2.2.1.1; omega) (by have := by'.2.2.1.1; omega))
 have HF := Lib.hid (fun v => eqf_none x.A2 y.A2 x.c2 y.c2 v)
 have HC := Lib.hid (fun v (hv : Below W.heap.size W v) => eqf_me x.A3 y.A3 x.c3 y.c3 x.ms y.ms v (hxW.2.2.1.2.below hv) (hyW.2.2.1.2.below hv) (by have := bx.2.2.2.2.1; omega) (by have := by'.2.2.2.2.1; omega)
  (fun a ha b hb u hu => sameM_w a b u (((hxW.2.2.2 a ha).below hv).below hu) (((hyW.2.2.2 b hb).below hv).below hu) (bx.2.2.2.2.2 a ha) (by'.2.2.2.2.2 b hb)))
 rw [pC_eq x y fx fy]
 obtain ⟨ba, hba⟩ : ∃ b, b = decide (x.is = y.is) := ⟨_, rfl⟩
 obtain ⟨bc, hbc⟩ : ∃ b, b = decide (x.ms.map pM = y.ms.map pM) := ⟨_, rfl⟩
 rw [← hbc] at HC ⊢
 rw [← hba] at HA ⊢
 have FX := Lib.hid (show x.fs.length = 0 by rw [fx]; rfl); have FY := Lib.hid (show y.fs.length = 0 by rw [fy]; rfl)
 rw [FX.out] at x0_5
 rw [FY.out] at y0_5
 unfold clC at hW ⊢
 rw [FX.out, FY.out] at hW ⊢
 have HW := Lib.hid hW
 clear hal hbi hbj hW hxW hyW hx hy bx by' hbc hba fx fy
 cases h0 : (x.nm == y.nm) with
 | false =>
  (try simp only [h0] at HW)
  go_enter Tryz.func36, Tryz.ntmps36
  go_wp2_with fail
  try simp only [World.size_alloc]
  rw [← HW.out]
  (try go_wp2_with fail)
  go_ret
  exact ⟨by first | rfl | (simp only [h0, bls]; done) | (simp only [h0, bls]; rfl), HAL.out.trans (K0.out.mono HAL.out.size)⟩
 | true =>
  cases h1 : (x.su == y.su) with
  | false =>
   (try simp only [h0, h1] at HW)
   go_enter Tryz.func36, Tryz.ntmps36
   go_wp2_with fail
   try simp only [World.size_alloc]
   rw [← HW.out]
   (try go_wp2_with fail)
   go_ret
   exact ⟨by first | rfl | (simp only [h0, h1, bls]; done) | (simp only [h0, h1, bls]; rfl), HAL.out.trans (K0.out.mono HAL.out.size)⟩
  | true =>
   cases h2 : (x.fc == y.fc) with
   | false =>
    (try simp only [h0, h1, h2] at HW)
    go_enter Tryz.func36, Tryz.ntmps36
    go_wp2_with fail
    try simp only [World.size_alloc]
    rw [← HW.out]
    (try go_wp2_with fail)
    go_ret
    exact ⟨by first | rfl | (simp only [h0, h1, h2, bls]; done) | (simp only [h0, h1, h2, bls]; rfl), HAL.out.trans (K0.out.mono HAL.out.size)⟩
   | true =>
    cases h3 : (x.ab == y.ab) with
    | false =>
     (try simp only [h0, h1, h2, h3] at HW)
     go_enter Tryz.func36, Tryz.ntmps36
     go_wp2_with fail
     try simp only [World.size_alloc]
     rw [← HW.out]
     (try go_wp2_with fail)
     go_ret
     exact ⟨by first | rfl | (simp only [h0, h1, h2, h3, bls]; done) | (simp only [h0, h1, h2, h3, bls]; rfl), HAL.out.trans (K0.out.mono HAL.out.size)⟩
    | true =>
     (try simp only [h0, h1, h2, h3] at HW)
     go_enter Tryz.func36, Tryz.ntmps36
     go_wp2_with fail
     try simp only [World.size_alloc]
     rw [← HW.out]
     (try go_wp2_with fail)
     refine (HA.out _ K0.out).mono ?_
     rintro e v1 ⟨rfl, hb⟩
     have K1 := Lib.hid (show Below W.heap.size W v1 from then' K0.out (by first | exact hb | (obtain ⟨q, rfl⟩ := hb; exact over (Below.refl _ _))))
     obtain ⟨x1_0, x1_1, x1_2, x1_3, x1_4, x1_5, x1_6⟩ := cl_cells ((K1.out.block _ HLX.out).trans HBX.out)
     rw [FX.out] at x1_5
     obtain ⟨y1_0, y1_1, y1_2, y1_3, y1_4, y1_5, y1_6⟩ := cl_cells ((K1.out.block _ HLY.out).trans HBY.out)
     rw [FY.out] at y1_5
     clear hb x0_0 x0_1 x0_2 x0_3 x0_4 x0_5 x0_6 y0_0 y0_1 y0_2 y0_3 y0_4 y0_5 y0_6
     cases h4 : ba with
     | false =>
      (try go_wp2_with fail)
      go_ret
      exact ⟨by first | rfl | (simp only [h0, h1, h2, h3, h4, bls]; done) | (simp only [h0, h1, h2, h3, h4, bls]; rfl), HAL.out.trans (K1.out.mono HAL.out.size)⟩
     | true =>
      go_wp2_with fail
      refine (HF.out _).mono ?_
      rintro e v2 ⟨rfl, hb⟩
      have K2 := Lib.hid (show Below W.heap.size W v2 from then' K1.out hb)
      obtain ⟨x2_0, x2_1, x2_2, x2_3, x2_4, x2_5, x2_6⟩ := cl_cells ((K2.out.block _ HLX.out).trans HBX.out)
      rw [FX.out] at x2_5
      obtain ⟨y2_0, y2_1, y2_2, y2_3, y2_4, y2_5, y2_6⟩ := cl_cells ((K2.out.block _ HLY.out).trans HBY.out)
      rw [FY.out] at y2_5
      clear hb x1_0 x1_1 x1_2 x1_3 x1_4 x1_5 x1_6 y1_0 y1_1 y1_2 y1_3 y1_4 y1_5 y1_6
      go_wp2_with fail
      refine (HC.out _ K2.out).mono ?_
      rintro e v3 ⟨rfl, hb⟩
      have K3 := Lib.hid (show Below W.heap.size W v3 from then' K2.out (by first | exact hb | (obtain ⟨q, rfl⟩ := hb; exact over (Below.refl _ _))))
      obtain ⟨x3_0, x3_1, x3_2, x3_3, x3_4, x3_5, x3_6⟩ := cl_cells ((K3.out.block _ HLX.out).trans HBX.out)
      rw [FX.out] at x3_5
      obtain ⟨y3_0, y3_1, y3_2, y3_3, y3_4, y3_5, y3_6⟩ := cl_cells ((K3.out.block _ HLY.out).trans HBY.out)
      rw [FY.out] at y3_5
      clear hb x2_0 x2_1 x2_2 x2_3 x2_4 x2_5 x2_6 y2_0 y2_1 y2_2 y2_3 y2_4 y2_5 y2_6
      cases h5 : bc with
      | false =>
       (try go_wp2_with fail)
       go_ret
       exact ⟨by first | rfl | (simp only [h0, h1, h2, h3, h4, h5, bls]; done) | (simp only [h0, h1, h2, h3, h4, h5, bls]; rfl), HAL.out.trans (K3.out.mono HAL.out.size)⟩
      | true =>
       (try go_wp2_with fail)
       go_ret
       exact ⟨by first | rfl | (simp only [h0, h1, h2, h3, h4, h5, bls]; done) | (simp only [h0, h1, h2, h3, h4, h5, bls]; rfl), HAL.out.trans (K3.out.mono HAL.out.size)⟩

set_option maxRecDepth 100000 in
set_option maxHeartbeats 8000000 in
set_option linter.all false in
theorem same_p (x y : PrM) (w : World) (hx : PrOk w x) (hy : PrOk w y) (bx : PrBd x) (by' : PrBd y) (fx : ∀ c ∈ x.cs, c.fs = []) (fy : ∀ c ∈ y.cs, c.fs = []) (he : x.ec = y.ec ∧ x.en = y.en ∧ x.ed = y.ed) : Calls Tryz.prog 11 #[.agg (prC x).toArray, .agg (prC y).toArray] w fun e w' => e = .returned (.bool (decide (pP x = pP y))) ∧ Below w.heap.size w w' := by
 obtain ⟨W, hW⟩ : ∃ W, W = (w.alloc (.cells (prC x).toArray 27)).alloc (.cells (prC y).toArray 27) := ⟨_, rfl⟩
 have hal : Below w.heap.size w W := by rw [hW]; exact ((Below.refl _ w).alloc (Nat.le_refl _) _).alloc (by simp) _
 have HAL := Lib.hid hal
 have hbi : W.heap[w.heap.size]? = some (.cells (prC x).toArray 27 (0, 0)) := by rw [hW]; exact (Below.heap_alloc _ _ _ (by simp)).trans (heap_alloc_new w _)
 have hbj : W.heap[w.heap.size + 1]? = some (.cells (prC y).toArray 27 (0, 0)) := by
  rw [hW]
  have := heap_alloc_new (w.alloc (.cells (prC x).toArray 27)) (.cells (prC y).toArray 27)
  rwa [World.size_alloc] at this
 have HBX := Lib.hid hbi; have HBY := Lib.hid hbj; have HLX := Lib.hid (blk_lt hbi); have HLY := Lib.hid (blk_lt hbj)
 obtain ⟨x0_0, x0_1, x0_2, x0_3, x0_4⟩ := pr_cells hbi
 obtain ⟨y0_0, y0_1, y0_2, y0_3, y0_4⟩ := pr_cells hbj
 have K0 := Lib.hid (Below.refl W.heap.size W)
 have hxW := hx.below hal; have hyW := hy.below hal
 have HC := Lib.hid (fun v (hv : Below W.heap.size W v) => eqf_cl x.A1 y.A1 x.c1 y.c1 x.cs y.cs v (hxW.1.2.below hv) (hyW.1.2.below hv) (by have := bx.1.1; omega) (by have := by'.1.1; omega)
  (fun a ha b hb u hu => sameC_w a b u (((hxW.2.2 a ha).below hv).below hu) (((hyW.2.2 b hb).below hv).below hu) (bx.1.2 a ha) (by'.1.2 b hb) (fx a ha) (fy b hb)))
 have HA := Lib.hid (fun v (hv : Below W.heap.size W v) => eqs_w x.A2 y.A2 x.c2 y.c2 x.ns y.ns v (hxW.2.1.2.below hv) (hyW.2.1.2.below hv) (by have := bx.2.1.1; omega) (by have := by'.2.1.1; omega))
 rw [pP_eq x y he]
 obtain ⟨bc, hbc⟩ : ∃ b, b = decide (x.cs.map pC = y.cs.map pC) := ⟨_, rfl⟩
 obtain ⟨ba, hba⟩ : ∃ b, b = decide (x.ns = y.ns) := ⟨_, rfl⟩
 rw [← hbc] at HC ⊢
 rw [← hba] at HA ⊢
 unfold prC at hW ⊢
 have HE := Lib.hid he
 have EC := Lib.hid he.1; have EN := Lib.hid he.2.1; have ED := Lib.hid he.2.2
 rw [he.1, he.2.1, he.2.2] at hW ⊢
 rw [he.1] at x0_2
 rw [he.2.1] at x0_3
 rw [he.2.2] at x0_4
 have HW := Lib.hid hW
 clear hal hbi hbj hW hxW hyW hx hy bx by' hbc hba fx fy he
 go_enter Tryz.func11, Tryz.ntmps11
 go_wp2_with fail
 try simp only [World.size_alloc]
 rw [← HW.out]
 (try go_wp2_with fail)
 refine (HC.out _ K0.out).mono ?_
 rintro e v1 ⟨rfl, hb⟩
 have K1 := Lib.hid (show Below W.heap.size W v1 from then' K0.out (by first | exact hb | (obtain ⟨q, rfl⟩ := hb; exact over (Below.refl _ _))))
 obtain ⟨x1_0, x1_1, x1_2, x1_3, x1_4⟩ := pr_cells ((K1.out.block _ HLX.out).trans HBX.out)
 rw [EC.out] at x1_2
 rw [EN.out] at x1_3
 rw [ED.out] at x1_4
 obtain ⟨y1_0, y1_1, y1_2, y1_3, y1_4⟩ := pr_cells ((K1.out.block _ HLY.out).trans HBY.out)
 clear hb x0_0 x0_1 x0_2 x0_3 x0_4 y0_0 y0_1 y0_2 y0_3 y0_4
 cases h0 : bc with
 | false =>
  (try go_wp2_with fail)
  go_ret
  exact ⟨by first | rfl | (simp only [h0, bls]; done) | (simp only [h0, bls]; rfl), HAL.out.trans (K1.out.mono HAL.out.size)⟩
 | true =>
  go_wp2_with fail
  refine (HA.out _ K1.out).mono ?_
  rintro e v2 ⟨rfl, hb⟩
  have K2 := Lib.hid (show Below W.heap.size W v2 from then' K1.out (by first | exact hb | (obtain ⟨q, rfl⟩ := hb; exact over (Below.refl _ _))))
  obtain ⟨x2_0, x2_1, x2_2, x2_3, x2_4⟩ := pr_cells ((K2.out.block _ HLX.out).trans HBX.out)
  rw [EC.out] at x2_2
  rw [EN.out] at x2_3
  rw [ED.out] at x2_4
  obtain ⟨y2_0, y2_1, y2_2, y2_3, y2_4⟩ := pr_cells ((K2.out.block _ HLY.out).trans HBY.out)
  clear hb x1_0 x1_1 x1_2 x1_3 x1_4 y1_0 y1_1 y1_2 y1_3 y1_4
  cases h1 : ba with
  | false =>
   (try go_wp2_with fail)
   go_ret
   exact ⟨by first | rfl | (simp only [h0, h1, bls]; done) | (simp only [h0, h1, bls]; rfl), HAL.out.trans (K2.out.mono HAL.out.size)⟩
  | true =>
   (try go_wp2_with fail)
   go_ret
   exact ⟨by first | rfl | (simp only [h0, h1, bls]; done) | (simp only [h0, h1, bls]; rfl), HAL.out.trans (K2.out.mono HAL.out.size)⟩
end Go.Proofs.YtjcdgpfffmnneaaGreatDoor.prg

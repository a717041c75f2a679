/- NormX -/
import Derived.Test.YtgociheckcpjkaaGreatDoorNormE
import Derived.Test.YtgociheckcpjkaaGreatDoorOpU
import Derived.BigQuiet
import Derived.Laws.OwnMore
import Derived.Laws.MakeOwn
namespace Go.Proofs.YtgociheckcpjkaaGreatDoor.prg
open Go.RowKit
open words kindp opp op kind word
set_option maxRecDepth 100000
set_option maxHeartbeats 8000000
set_option linter.all false
def pI (x : InM) : In := x.i
structure FiP where
 nm : Tx
 k : Int
 cl : Tx
 st : Bool
deriving DecidableEq
structure MeP where
 nm : Tx
 ds : Tx
 st : Bool
 ab : Bool
 rg : Int
 co : List In
deriving DecidableEq
structure ClP where
 nm : Tx
 su : Tx
 fc : Bool
 ab : Bool
 is : List Tx
 fs : List FiP
 ms : List MeP
deriving DecidableEq
structure PrP where
 cs : List ClP
 ns : List Tx
 ec : Tx
 en : Tx
 ed : Tx
deriving DecidableEq
def pF (f : FiM) : FiP := ⟨f.nm, f.k, f.cl, f.st⟩
def pM (m : MeM) : MeP := ⟨m.nm, m.ds, m.st, m.ab, m.rg, m.co.map pI⟩
def pC (c : ClM) : ClP := ⟨c.nm, c.su, c.fc, c.ab, c.is, c.fs.map pF, c.ms.map pM⟩
def pP (p : PrM) : PrP := ⟨p.cs.map pC, p.ns, p.ec, p.en, p.ed⟩
theorem pM_eq (m k : MeM) : decide (pM m = pM k) = ((m.nm == k.nm) && ((m.ds == k.ds) && ((m.st == k.st) && ((m.ab == k.ab) && ((m.rg == k.rg) && decide (m.co.map pI = k.co.map pI)))))) := by
 rw [Bool.eq_iff_iff]; simp [pM]
theorem eqs_w (A C : Option Addr) (c d : Nat) (l k : List Tx) (w : World) (hr : Rd w A (SX l)) (kr : Rd w C (SX k)) (hl : l.length ≤ 281474976710656) (hk : k.length ≤ 281474976710656) :
  Calls Tryz.prog 27 #[.slice A l.length c, .slice C k.length d] w fun e w' => e = .returned (.bool (decide (l = k))) ∧ ∃ q, w' = w.drewN q := by
 obtain ⟨n, hn⟩ : ∃ n, n = l.length := ⟨_, rfl⟩
 obtain ⟨m, hm⟩ : ∃ m, m = k.length := ⟨_, rfl⟩
 rw [← hn, ← hm]
 have hnI : (n : Int) ≤ 281474976710656 := by omega
 have hmI : (m : Int) ≤ 281474976710656 := by omega
 by_cases hnm : n = m
 ·subst hnm
  have hnn : ((n : Int) != n) = false := by simp
  obtain ⟨R, hR⟩ : ∃ R : Bool, R = decide (l = k) := ⟨_, rfl⟩
  rw [← hR]
  have HR := hh hR; have HN := hh hn; have HM := hh hm
  clear hl hk hR hn hm
  go_enter Tryz.func27, Tryz.ntmps27
  go_wp2
  go_loopw [13] (fun i wr => ∃ j : Nat, j ≤ n ∧ i = .int .i64 (j : Int) ∧ (∃ q, wr = w.drewN q) ∧ l.take j = k.take j) (fun i _ => n - (intOf i).toNat)
  case atStart => exact ⟨0, Nat.zero_le _, rfl, ⟨0, rfl⟩, rfl⟩
  case round =>
   obtain ⟨j, hj, rfl, ⟨q, rfl⟩, ht⟩ := hrel
   have HT := hh ht
   clear ht
   by_cases hlt : j < n
   ·obtain ⟨x, hx⟩ : ∃ x, l[j]? = some x := ⟨l[j]'(by have := HN.out; omega), List.getElem?_eq_getElem _⟩
    obtain ⟨y, hy⟩ : ∃ y, k[j]? = some y := ⟨k[j]'(by have := HM.out; omega), List.getElem?_eq_getElem _⟩
    have HX := hh hx; have HY := hh hy
    obtain ⟨a, rfl, _, ha⟩ := hr.at_ (sx_get hx)
    obtain ⟨b, rfl, _, hb⟩ := kr.at_ (sx_get hy)
    by_cases hxy : x = y
    ·subst hxy
     have hxx : (x != x) = false := by simp
     have hxy0 : (x == x) = true := by simp
     clear hr kr hx hy
     go_wp2
     go_quiet (fail)
     go_wp2
     go_roundw
     case rel => exact ⟨j + 1, by omega, by go_num, ⟨_, rfl⟩, by rw [List.take_add_one, List.take_add_one, HT.out, HX.out, HY.out]⟩
     case measure => simp [intOf]; omega
    ·have hxx : (x != y) = true := by simpa using hxy
     have hxy0 : (x == y) = false := by simpa using hxy
     have hf : R = false := by
      rw [HR.out]
      refine decide_eq_false fun e => hxy ?_
      have h1 := HX.out
      rw [e, HY.out] at h1
      exact (Option.some.inj h1).symm
     subst hf
     clear hr kr hx hy hxy
     go_wp2
     go_quiet (fail)
     go_wp2
     go_ret
     exact ⟨rfl, _, World.drewN_drewN _ _ _⟩
   ·have hf : R = true := by
     rw [HR.out]
     refine decide_eq_true ?_
     have h1 := HT.out
     rwa [List.take_of_length_le (by have := HN.out; omega), List.take_of_length_le (by have := HM.out; omega)] at h1
    subst hf
    go_wp2
    go_ret
    exact ⟨rfl, q, rfl⟩
 ·have hne : ((n : Int) != (m : Int)) = true := by simp; omega
  rw [show decide (l = k) = false from decide_eq_false (fun e => hnm (by rw [hn, hm, e]))]
  clear hn hm hnm hr kr
  go_enter Tryz.func27, Tryz.ntmps27
  go_wp2
  go_ret
  exact ⟨rfl, 0, rfl⟩
theorem eqf_in (A E : Option Addr) (c d : Nat) (l k : List InM) (w : World) (hr : Rd w A (l.flatMap inC)) (kr : Rd w E (k.flatMap inC)) (hl : l.length ≤ 281474976710656) (hk : k.length ≤ 281474976710656)
  (HO : ∀ x ∈ l, ∀ y ∈ k, ∀ v : World, Below w.heap.size w v → Calls Tryz.prog 105 #[.agg (inC x).toArray, .agg (inC y).toArray] v fun e w' => e = .returned (.bool (decide (pI x = pI y))) ∧ Below v.heap.size v w') :
  Calls Tryz.prog 104 #[.slice A l.length c, .slice E k.length d, .func (.func 105) #[] #[]] w fun e w' => e = .returned (.bool (decide (l.map pI = k.map pI))) ∧ Below w.heap.size w w' := by
 obtain ⟨n, hn⟩ : ∃ n, n = l.length := ⟨_, rfl⟩
 obtain ⟨m, hm⟩ : ∃ m, m = k.length := ⟨_, rfl⟩
 rw [← hn, ← hm]
 have hnI : (n : Int) ≤ 281474976710656 := by omega
 have hmI : (m : Int) ≤ 281474976710656 := by omega
 have HRD := hh hr; have HRE := hh kr; have HOO := hh HO
 clear hr kr HO
 by_cases hnm : n = m
 ·subst hnm
  have hnn : ((n : Int) != n) = false := by simp
  obtain ⟨R, hR⟩ : ∃ R : Bool, R = decide (l.map pI = k.map pI) := ⟨_, rfl⟩
  rw [← hR]
  have HR := hh hR; have HN := hh hn; have HM := hh hm
  clear hl hk hR hn hm
  go_enter Tryz.func104, Tryz.ntmps104
  go_wp2
  go_loopw [17] (fun i wr => ∃ j : Nat, j ≤ n ∧ i = .int .i64 (j : Int) ∧ Below w.heap.size w wr ∧ (l.take j).map pI = (k.take j).map pI) (fun i _ => n - (intOf i).toNat)
  case atStart => exact ⟨0, Nat.zero_le _, rfl, Below.refl _ _, rfl⟩
  case round =>
   obtain ⟨j, hj, rfl, hbw, ht⟩ := hrel
   have HT := hh ht; have HB := hh hbw
   clear ht
   by_cases hlt : j < n
   ·have hltI : (j : Int) < (n : Int) := by omega
    obtain ⟨x, hx⟩ : ∃ x, l[j]? = some x := ⟨l[j]'(by have := HN.out; omega), List.getElem?_eq_getElem _⟩
    obtain ⟨y, hy⟩ : ∃ y, k[j]? = some y := ⟨k[j]'(by have := HM.out; omega), List.getElem?_eq_getElem _⟩
    have HX := hh hx; have HY := hh hy
    obtain ⟨a, rfl, _, c0, c1, c2, c3, c4, c5, c6, c7, c8⟩ := in_at (HRD.out.below hbw) hx
    have hal1 := hbw.alloc hbw.size (.cells (inC x).toArray 42)
    obtain ⟨b, rfl, _, d0, d1, d2, d3, d4, d5, d6, d7, d8⟩ := in_at (HRE.out.below hal1) hy
    dsimp only [inC] at d0 d1 d2 d3 d4 d5 d6 d7 d8
    have hal := (hbw.alloc hbw.size (.cells (inC x).toArray 42)).alloc (by have := hbw.size; simp; omega) (.cells (inC y).toArray 42)
    have HAL := hh hal
    have HCL := hh (HOO.out x (List.mem_of_getElem? hx) y (List.mem_of_getElem? hy) _ hal)
    dsimp only [inC] at HCL HAL
    by_cases hxy : pI x = pI y
    ·rw [decide_eq_true hxy] at HCL
     have HXY := hh hxy
     clear hx hy hal hal1 hxy hbw
     go_wp2_with fail
     try simp only [World.size_alloc]
     refine HCL.out.mono ?_
     rintro e v1 ⟨rfl, hb1⟩
     have HB1 := hh (HAL.out.trans (hb1.mono HAL.out.size))
     clear hb1
     go_wp2
     go_roundw
     case rel => exact ⟨j + 1, by omega, by go_num, HB1.out, by rw [List.take_add_one, List.take_add_one, List.map_append, List.map_append, HT.out, HX.out, HY.out]; simp [HXY.out]⟩
     case measure => simp [intOf]; omega
    ·have hf : R = false := by
      rw [HR.out]
      refine decide_eq_false fun e => hxy ?_
      have h1 : (l.map pI)[j]? = some (pI x) := by rw [List.getElem?_map, HX.out]; rfl
      rw [e, List.getElem?_map, HY.out] at h1
      exact (Option.some.inj h1).symm
     subst hf
     rw [decide_eq_false hxy] at HCL
     clear hx hy hal hal1 hxy hbw
     go_wp2_with fail
     try simp only [World.size_alloc]
     refine HCL.out.mono ?_
     rintro e v1 ⟨rfl, hb1⟩
     have HB1 := hh (HAL.out.trans (hb1.mono HAL.out.size))
     clear hb1
     go_wp2
     go_ret
     exact ⟨rfl, HB1.out⟩
   ·have hltI : ¬ (j : Int) < (n : Int) := by omega
    have hf : R = true := by
     rw [HR.out]
     refine decide_eq_true ?_
     have h1 := HT.out
     rwa [List.take_of_length_le (by have := HN.out; omega), List.take_of_length_le (by have := HM.out; omega)] at h1
    subst hf
    clear hbw
    go_wp2
    go_ret
    exact ⟨rfl, HB.out⟩
 ·have hne : ((n : Int) != (m : Int)) = true := by simp; omega
  rw [show decide (l.map pI = k.map pI) = false from decide_eq_false (fun e => hnm (by have := congrArg List.length e; simp only [List.length_map] at this; omega))]
  clear hn hm hnm hl hk
  go_enter Tryz.func104, Tryz.ntmps104
  go_wp2
  go_ret
  exact ⟨rfl, Below.refl _ _⟩
theorem eqf_me (A E : Option Addr) (c d : Nat) (l k : List MeM) (w : World) (hr : Rd w A (l.flatMap meC)) (kr : Rd w E (k.flatMap meC)) (hl : l.length ≤ 281474976710656) (hk : k.length ≤ 281474976710656)
  (HO : ∀ x ∈ l, ∀ y ∈ k, ∀ v : World, Below w.heap.size w v → Calls Tryz.prog 67 #[.agg (meC x).toArray, .agg (meC y).toArray] v fun e w' => e = .returned (.bool (decide (pM x = pM y))) ∧ Below v.heap.size v w') :
  Calls Tryz.prog 66 #[.slice A l.length c, .slice E k.length d, .func (.func 67) #[] #[]] w fun e w' => e = .returned (.bool (decide (l.map pM = k.map pM))) ∧ Below w.heap.size w w' := by
 obtain ⟨n, hn⟩ : ∃ n, n = l.length := ⟨_, rfl⟩
 obtain ⟨m, hm⟩ : ∃ m, m = k.length := ⟨_, rfl⟩
 rw [← hn, ← hm]
 have hnI : (n : Int) ≤ 281474976710656 := by omega
 have hmI : (m : Int) ≤ 281474976710656 := by omega
 have HRD := hh hr; have HRE := hh kr; have HOO := hh HO
 clear hr kr HO
 by_cases hnm : n = m
 ·subst hnm
  have hnn : ((n : Int) != n) = false := by simp
  obtain ⟨R, hR⟩ : ∃ R : Bool, R = decide (l.map pM = k.map pM) := ⟨_, rfl⟩
  rw [← hR]
  have HR := hh hR; have HN := hh hn; have HM := hh hm
  clear hl hk hR hn hm
  go_enter Tryz.func66, Tryz.ntmps66
  go_wp2
  go_loopw [17] (fun i wr => ∃ j : Nat, j ≤ n ∧ i = .int .i64 (j : Int) ∧ Below w.heap.size w wr ∧ (l.take j).map pM = (k.take j).map pM) (fun i _ => n - (intOf i).toNat)
  case atStart => exact ⟨0, Nat.zero_le _, rfl, Below.refl _ _, rfl⟩
  case round =>
   obtain ⟨j, hj, rfl, hbw, ht⟩ := hrel
   have HT := hh ht; have HB := hh hbw
   clear ht
   by_cases hlt : j < n
   ·have hltI : (j : Int) < (n : Int) := by omega
    obtain ⟨x, hx⟩ : ∃ x, l[j]? = some x := ⟨l[j]'(by have := HN.out; omega), List.getElem?_eq_getElem _⟩
    obtain ⟨y, hy⟩ : ∃ y, k[j]? = some y := ⟨k[j]'(by have := HM.out; omega), List.getElem?_eq_getElem _⟩
    have HX := hh hx; have HY := hh hy
    obtain ⟨a, rfl, _, c0, c1, c2, c3, c4, c5⟩ := me_at (HRD.out.below hbw) hx
    have hal1 := hbw.alloc hbw.size (.cells (meC x).toArray 38)
    obtain ⟨b, rfl, _, d0, d1, d2, d3, d4, d5⟩ := me_at (HRE.out.below hal1) hy
    dsimp only [meC] at d0 d1 d2 d3 d4 d5
    have hal := (hbw.alloc hbw.size (.cells (meC x).toArray 38)).alloc (by have := hbw.size; simp; omega) (.cells (meC y).toArray 38)
    have HAL := hh hal
    have HCL := hh (HOO.out x (List.mem_of_getElem? hx) y (List.mem_of_getElem? hy) _ hal)
    dsimp only [meC] at HCL HAL
    by_cases hxy : pM x = pM y
    ·rw [decide_eq_true hxy] at HCL
     have HXY := hh hxy
     clear hx hy hal hal1 hxy hbw
     go_wp2_with fail
     try simp only [World.size_alloc]
     refine HCL.out.mono ?_
     rintro e v1 ⟨rfl, hb1⟩
     have HB1 := hh (HAL.out.trans (hb1.mono HAL.out.size))
     clear hb1
     go_wp2
     go_roundw
     case rel => exact ⟨j + 1, by omega, by go_num, HB1.out, by rw [List.take_add_one, List.take_add_one, List.map_append, List.map_append, HT.out, HX.out, HY.out]; simp [HXY.out]⟩
     case measure => simp [intOf]; omega
    ·have hf : R = false := by
      rw [HR.out]
      refine decide_eq_false fun e => hxy ?_
      have h1 : (l.map pM)[j]? = some (pM x) := by rw [List.getElem?_map, HX.out]; rfl
      rw [e, List.getElem?_map, HY.out] at h1
      exact (Option.some.inj h1).symm
     subst hf
     rw [decide_eq_false hxy] at HCL
     clear hx hy hal hal1 hxy hbw
     go_wp2_with fail
     try simp only [World.size_alloc]
     refine HCL.out.mono ?_
     rintro e v1 ⟨rfl, hb1⟩
     have HB1 := hh (HAL.out.trans (hb1.mono HAL.out.size))
     clear hb1
     go_wp2
     go_ret
     exact ⟨rfl, HB1.out⟩
   ·have hltI : ¬ (j : Int) < (n : Int) := by omega
    have hf : R = true := by
     rw [HR.out]
     refine decide_eq_true ?_
     have h1 := HT.out
     rwa [List.take_of_length_le (by have := HN.out; omega), List.take_of_length_le (by have := HM.out; omega)] at h1
    subst hf
    clear hbw
    go_wp2
    go_ret
    exact ⟨rfl, HB.out⟩
 ·have hne : ((n : Int) != (m : Int)) = true := by simp; omega
  rw [show decide (l.map pM = k.map pM) = false from decide_eq_false (fun e => hnm (by have := congrArg List.length e; simp only [List.length_map] at this; omega))]
  clear hn hm hnm hl hk
  go_enter Tryz.func66, Tryz.ntmps66
  go_wp2
  go_ret
  exact ⟨rfl, Below.refl _ _⟩
theorem eqf_cl (A E : Option Addr) (c d : Nat) (l k : List ClM) (w : World) (hr : Rd w A (l.flatMap clC)) (kr : Rd w E (k.flatMap clC)) (hl : l.length ≤ 281474976710656) (hk : k.length ≤ 281474976710656)
  (HO : ∀ x ∈ l, ∀ y ∈ k, ∀ v : World, Below w.heap.size w v → Calls Tryz.prog 26 #[.agg (clC x).toArray, .agg (clC y).toArray] v fun e w' => e = .returned (.bool (decide (pC x = pC y))) ∧ Below v.heap.size v w') :
  Calls Tryz.prog 25 #[.slice A l.length c, .slice E k.length d, .func (.func 26) #[] #[]] w fun e w' => e = .returned (.bool (decide (l.map pC = k.map pC))) ∧ Below w.heap.size w w' := by
 obtain ⟨n, hn⟩ : ∃ n, n = l.length := ⟨_, rfl⟩
 obtain ⟨m, hm⟩ : ∃ m, m = k.length := ⟨_, rfl⟩
 rw [← hn, ← hm]
 have hnI : (n : Int) ≤ 281474976710656 := by omega
 have hmI : (m : Int) ≤ 281474976710656 := by omega
 have HRD := hh hr; have HRE := hh kr; have HOO := hh HO
 clear hr kr HO
 by_cases hnm : n = m
 ·subst hnm
  have hnn : ((n : Int) != n) = false := by simp
  obtain ⟨R, hR⟩ : ∃ R : Bool, R = decide (l.map pC = k.map pC) := ⟨_, rfl⟩
  rw [← hR]
  have HR := hh hR; have HN := hh hn; have HM := hh hm
  clear hl hk hR hn hm
  go_enter Tryz.func25, Tryz.ntmps25
  go_wp2
  go_loopw [17] (fun i wr => ∃ j : Nat, j ≤ n ∧ i = .int .i64 (j : Int) ∧ Below w.heap.size w wr ∧ (l.take j).map pC = (k.take j).map pC) (fun i _ => n - (intOf i).toNat)
  case atStart => exact ⟨0, Nat.zero_le _, rfl, Below.refl _ _, rfl⟩
  case round =>
   obtain ⟨j, hj, rfl, hbw, ht⟩ := hrel
   have HT := hh ht; have HB := hh hbw
   clear ht
   by_cases hlt : j < n
   ·have hltI : (j : Int) < (n : Int) := by omega
    obtain ⟨x, hx⟩ : ∃ x, l[j]? = some x := ⟨l[j]'(by have := HN.out; omega), List.getElem?_eq_getElem _⟩
    obtain ⟨y, hy⟩ : ∃ y, k[j]? = some y := ⟨k[j]'(by have := HM.out; omega), List.getElem?_eq_getElem _⟩
    have HX := hh hx; have HY := hh hy
    obtain ⟨a, rfl, _, c0, c1, c2, c3, c4, c5, c6⟩ := cl_at (HRD.out.below hbw) hx
    have hal1 := hbw.alloc hbw.size (.cells (clC x).toArray 35)
    obtain ⟨b, rfl, _, d0, d1, d2, d3, d4, d5, d6⟩ := cl_at (HRE.out.below hal1) hy
    dsimp only [clC] at d0 d1 d2 d3 d4 d5 d6
    have hal := (hbw.alloc hbw.size (.cells (clC x).toArray 35)).alloc (by have := hbw.size; simp; omega) (.cells (clC y).toArray 35)
    have HAL := hh hal
    have HCL := hh (HOO.out x (List.mem_of_getElem? hx) y (List.mem_of_getElem? hy) _ hal)
    dsimp only [clC] at HCL HAL
    by_cases hxy : pC x = pC y
    ·rw [decide_eq_true hxy] at HCL
     have HXY := hh hxy
     clear hx hy hal hal1 hxy hbw
     go_wp2_with fail
     try simp only [World.size_alloc]
     refine HCL.out.mono ?_
     rintro e v1 ⟨rfl, hb1⟩
     have HB1 := hh (HAL.out.trans (hb1.mono HAL.out.size))
     clear hb1
     go_wp2
     go_roundw
     case rel => exact ⟨j + 1, by omega, by go_num, HB1.out, by rw [List.take_add_one, List.take_add_one, List.map_append, List.map_append, HT.out, HX.out, HY.out]; simp [HXY.out]⟩
     case measure => simp [intOf]; omega
    ·have hf : R = false := by
      rw [HR.out]
      refine decide_eq_false fun e => hxy ?_
      have h1 : (l.map pC)[j]? = some (pC x) := by rw [List.getElem?_map, HX.out]; rfl
      rw [e, List.getElem?_map, HY.out] at h1
      exact (Option.some.inj h1).symm
     subst hf
     rw [decide_eq_false hxy] at HCL
     clear hx hy hal hal1 hxy hbw
     go_wp2_with fail
     try simp only [World.size_alloc]
     refine HCL.out.mono ?_
     rintro e v1 ⟨rfl, hb1⟩
     have HB1 := hh (HAL.out.trans (hb1.mono HAL.out.size))
     clear hb1
     go_wp2
     go_ret
     exact ⟨rfl, HB1.out⟩
   ·have hltI : ¬ (j : Int) < (n : Int) := by omega
    have hf : R = true := by
     rw [HR.out]
     refine decide_eq_true ?_
     have h1 := HT.out
     rwa [List.take_of_length_le (by have := HN.out; omega), List.take_of_length_le (by have := HM.out; omega)] at h1
    subst hf
    clear hbw
    go_wp2
    go_ret
    exact ⟨rfl, HB.out⟩
 ·have hne : ((n : Int) != (m : Int)) = true := by simp; omega
  rw [show decide (l.map pC = k.map pC) = false from decide_eq_false (fun e => hnm (by have := congrArg List.length e; simp only [List.length_map] at this; omega))]
  clear hn hm hnm hl hk
  go_enter Tryz.func25, Tryz.ntmps25
  go_wp2
  go_ret
  exact ⟨rfl, Below.refl _ _⟩
theorem same_ww (x y : InM) (w : World) (hx : InOk w x) (hy : InOk w y) (bx : InBd x) (by' : InBd y) : Calls Tryz.prog 105 #[.agg (inC x).toArray, .agg (inC y).toArray] w fun e w' => e = .returned (.bool (decide (pI x = pI y))) ∧ Below w.heap.size w w' :=
 (same_w x.i y.i x.A y.A x.c y.c w hx.2 hy.2 (by have := bx.1; omega) (by have := by'.1; omega)).mono fun e w' h => by
  first | exact ⟨h.1, h.2⟩ | (obtain ⟨h1, q, rfl⟩ := h; exact ⟨h1, over (Below.refl _ _)⟩) | (obtain ⟨h1, rfl⟩ := h; exact ⟨h1, Below.refl _ _⟩)
theorem sameM_w (x y : MeM) (w : World) (hx : MeOk w x) (hy : MeOk w y) (bx : MeBd x) (by' : MeBd y) : Calls Tryz.prog 67 #[.agg (meC x).toArray, .agg (meC y).toArray] w fun e w' => e = .returned (.bool (decide (pM x = pM y))) ∧ Below w.heap.size w w' := by
 obtain ⟨W, hW⟩ : ∃ W, W = (w.alloc (.cells (meC x).toArray 38)).alloc (.cells (meC y).toArray 38) := ⟨_, rfl⟩
 have hal : Below w.heap.size w W := by rw [hW]; exact ((Below.refl _ w).alloc (Nat.le_refl _) _).alloc (by simp) _
 have HAL := hh hal
 have hbi : W.heap[w.heap.size]? = some (.cells (meC x).toArray 38 (0, 0)) := by rw [hW]; exact (Below.heap_alloc _ _ _ (by simp)).trans (heap_alloc_new w _)
 have hbj : W.heap[w.heap.size + 1]? = some (.cells (meC y).toArray 38 (0, 0)) := by
  rw [hW]
  have := heap_alloc_new (w.alloc (.cells (meC x).toArray 38)) (.cells (meC y).toArray 38)
  rwa [World.size_alloc] at this
 have HBX := hh hbi; have HBY := hh hbj; have HLX := hh (blk_lt hbi); have HLY := hh (blk_lt hbj)
 obtain ⟨x0_0, x0_1, x0_2, x0_3, x0_4, x0_5⟩ := me_cells hbi
 obtain ⟨y0_0, y0_1, y0_2, y0_3, y0_4, y0_5⟩ := me_cells hbj
 have K0 := hh (Below.refl W.heap.size W)
 have hxW := hx.below hal; have hyW := hy.below hal
 have HC := hh (fun v (hv : Below W.heap.size W v) => eqf_in x.A y.A x.c y.c x.co y.co v (hxW.2.1.below hv) (hyW.2.1.below hv) (by have := bx.2.2.1; omega) (by have := by'.2.2.1; omega)
  (fun a ha b hb u hu => same_ww a b u (((hxW.2.2 a ha).below hv).below hu) (((hyW.2.2 b hb).below hv).below hu) (bx.2.2.2 a ha) (by'.2.2.2 b hb)))
 rw [pM_eq]
 obtain ⟨bc, hbc⟩ : ∃ b, b = decide (x.co.map pI = y.co.map pI) := ⟨_, rfl⟩
 rw [← hbc] at HC ⊢
 unfold meC at hW ⊢
 have HW := hh hW
 clear hal hbi hbj hW hxW hyW hx hy bx by' hbc
 cases h0 : (x.nm == y.nm) with
 | false =>
  (try simp only [h0] at HW)
  go_enter Tryz.func67, Tryz.ntmps67
  go_wp2_with fail
  try simp only [World.size_alloc]
  rw [← HW.out]
  (try go_wp2_with fail)
  go_ret
  exact ⟨by first | rfl | (simp only [h0, bls]; done) | (simp only [h0, bls]; rfl), HAL.out.trans (K0.out.mono HAL.out.size)⟩
 | true =>
  cases h1 : (x.ds == y.ds) with
  | false =>
   (try simp only [h0, h1] at HW)
   go_enter Tryz.func67, Tryz.ntmps67
   go_wp2_with fail
   try simp only [World.size_alloc]
   rw [← HW.out]
   (try go_wp2_with fail)
   go_ret
   exact ⟨by first | rfl | (simp only [h0, h1, bls]; done) | (simp only [h0, h1, bls]; rfl), HAL.out.trans (K0.out.mono HAL.out.size)⟩
  | true =>
   cases h2 : (x.st == y.st) with
   | false =>
    (try simp only [h0, h1, h2] at HW)
    go_enter Tryz.func67, Tryz.ntmps67
    go_wp2_with fail
    try simp only [World.size_alloc]
    rw [← HW.out]
    (try go_wp2_with fail)
    go_ret
    exact ⟨by first | rfl | (simp only [h0, h1, h2, bls]; done) | (simp only [h0, h1, h2, bls]; rfl), HAL.out.trans (K0.out.mono HAL.out.size)⟩
   | true =>
    cases h3 : (x.ab == y.ab) with
    | false =>
     (try simp only [h0, h1, h2, h3] at HW)
     go_enter Tryz.func67, Tryz.ntmps67
     go_wp2_with fail
     try simp only [World.size_alloc]
     rw [← HW.out]
     (try go_wp2_with fail)
     go_ret
     exact ⟨by first | rfl | (simp only [h0, h1, h2, h3, bls]; done) | (simp only [h0, h1, h2, h3, bls]; rfl), HAL.out.trans (K0.out.mono HAL.out.size)⟩
    | true =>
     cases h4 : (x.rg == y.rg) with
     | false =>
      (try simp only [h0, h1, h2, h3, h4] at HW)
      go_enter Tryz.func67, Tryz.ntmps67
      go_wp2_with fail
      try simp only [World.size_alloc]
      rw [← HW.out]
      (try go_wp2_with fail)
      go_ret
      exact ⟨by first | rfl | (simp only [h0, h1, h2, h3, h4, bls]; done) | (simp only [h0, h1, h2, h3, h4, bls]; rfl), HAL.out.trans (K0.out.mono HAL.out.size)⟩
     | true =>
      (try simp only [h0, h1, h2, h3, h4] at HW)
      go_enter Tryz.func67, Tryz.ntmps67
      go_wp2_with fail
      try simp only [World.size_alloc]
      rw [← HW.out]
      (try go_wp2_with fail)
      refine (HC.out _ K0.out).mono ?_
      rintro e v1 ⟨rfl, hb⟩
      have K1 := hh (show Below W.heap.size W v1 from then' K0.out (by first | exact hb | (obtain ⟨q, rfl⟩ := hb; exact over (Below.refl _ _))))
      obtain ⟨x1_0, x1_1, x1_2, x1_3, x1_4, x1_5⟩ := me_cells ((K1.out.block _ HLX.out).trans HBX.out)
      obtain ⟨y1_0, y1_1, y1_2, y1_3, y1_4, y1_5⟩ := me_cells ((K1.out.block _ HLY.out).trans HBY.out)
      clear hb x0_0 x0_1 x0_2 x0_3 x0_4 x0_5 y0_0 y0_1 y0_2 y0_3 y0_4 y0_5
      cases h5 : bc with
      | false =>
       (try go_wp2_with fail)
       go_ret
       exact ⟨by first | rfl | (simp only [h0, h1, h2, h3, h4, h5, bls]; done) | (simp only [h0, h1, h2, h3, h4, h5, bls]; rfl), HAL.out.trans (K1.out.mono HAL.out.size)⟩
      | true =>
       (try go_wp2_with fail)
       go_ret
       exact ⟨by first | rfl | (simp only [h0, h1, h2, h3, h4, h5, bls]; done) | (simp only [h0, h1, h2, h3, h4, h5, bls]; rfl), HAL.out.trans (K1.out.mono HAL.out.size)⟩
end Go.Proofs.YtgociheckcpjkaaGreatDoor.prg
namespace Go.Proofs.YtgociheckcpjkaaGreatDoor.prg
open Go.RowKit
open words kindp opp op kind word
def Fr (b : Nat) (A : Option Addr) : Prop := ∀ a, A = some a → b ≤ a.block
theorem Fr.mono {b c : Nat} {A : Option Addr} (h : Fr b A) (hc : c ≤ b) : Fr c A := fun a ha => Nat.le_trans hc (h a ha)
def NwI (b : Nat) (w : World) (y : InM) : Prop := InOk w y ∧ InBd y ∧ Fr b y.A
def NwM (b : Nat) (w : World) (m : MeM) : Prop := MeOk w m ∧ MeBd m ∧ Fr b m.A ∧ ∀ y ∈ m.co, Fr b y.A
def NwC (b : Nat) (w : World) (c : ClM) : Prop := ClOk w c ∧ ClBd c ∧ (Fr b c.A1 ∧ Fr b c.A2 ∧ Fr b c.A3) ∧ ∀ m ∈ c.ms, Fr b m.A ∧ ∀ y ∈ m.co, Fr b y.A
theorem rd_gb {w w' : World} {A : Option Addr} {xs : List Value} {b g : Nat} (h : Rd w A xs) (hf : Fr b A) (hg : g < b) (k : w.grownBy w' (some g)) : Rd w' A xs := by
 rcases h with rfl | ⟨a, rfl, hb, hc⟩
 ·exact .inl rfl
 ·refine .inr ⟨a, rfl, Nat.lt_of_lt_of_le hb k.size, fun j u hu => (World.cell?_of_block (k.block _ (by rw [add_block]; exact hb) ?_)).trans (hc j u hu)⟩
  rw [add_block]
  have := hf a rfl
  intro e
  cases e
  omega
theorem gb_trans {w v u : World} {g : Nat} (h : w.grownBy v (some g)) (k : v.grownBy u (some g)) : w.grownBy u (some g) :=
 ⟨k.os.trans h.os, k.tape.trans h.tape, k.output.trans h.output, Nat.le_trans h.size k.size, fun j hj hn => (k.block j (Nat.lt_of_lt_of_le hj h.size) hn).trans (h.block j hj hn)⟩
section
variable {b c g : Nat} {w w' : World}
theorem NwI.gb {y : InM} (h : NwI b w y) (hg : g < b) (k : w.grownBy w' (some g)) : NwI b w' y := ⟨⟨h.1.1, rd_gb h.1.2 h.2.2 hg k⟩, h.2⟩
theorem NwI.below {y : InM} (h : NwI b w y) (k : Below w.heap.size w w') : NwI b w' y := ⟨h.1.below k, h.2⟩
theorem NwI.mono {y : InM} (h : NwI b w y) (hc : c ≤ b) : NwI c w y := ⟨h.1, h.2.1, h.2.2.mono hc⟩
theorem NwM.gb {m : MeM} (h : NwM b w m) (hg : g < b) (k : w.grownBy w' (some g)) : NwM b w' m := ⟨⟨h.1.1, rd_gb h.1.2.1 h.2.2.1 hg k, fun y hy => ⟨(h.1.2.2 y hy).1, rd_gb (h.1.2.2 y hy).2 (h.2.2.2 y hy) hg k⟩⟩, h.2⟩
theorem NwM.below {m : MeM} (h : NwM b w m) (k : Below w.heap.size w w') : NwM b w' m := ⟨h.1.below k, h.2⟩
theorem NwM.mono {m : MeM} (h : NwM b w m) (hc : c ≤ b) : NwM c w m := ⟨h.1, h.2.1, h.2.2.1.mono hc, fun y hy => (h.2.2.2 y hy).mono hc⟩
theorem NwC.gb {m : ClM} (h : NwC b w m) (hg : g < b) (k : w.grownBy w' (some g)) : NwC b w' m :=
 ⟨⟨⟨h.1.1.1, rd_gb h.1.1.2 h.2.2.1.1 hg k⟩, ⟨h.1.2.1.1, rd_gb h.1.2.1.2 h.2.2.1.2.1 hg k⟩, ⟨h.1.2.2.1.1, rd_gb h.1.2.2.1.2 h.2.2.1.2.2 hg k⟩,
  fun z hz => ⟨(h.1.2.2.2 z hz).1, rd_gb (h.1.2.2.2 z hz).2.1 (h.2.2.2 z hz).1 hg k, fun y hy => ⟨((h.1.2.2.2 z hz).2.2 y hy).1, rd_gb ((h.1.2.2.2 z hz).2.2 y hy).2 ((h.2.2.2 z hz).2 y hy) hg k⟩⟩⟩, h.2⟩
theorem NwC.below {m : ClM} (h : NwC b w m) (k : Below w.heap.size w w') : NwC b w' m := ⟨h.1.below k, h.2⟩
theorem NwC.mono {m : ClM} (h : NwC b w m) (hc : c ≤ b) : NwC c w m := ⟨h.1, h.2.1, ⟨h.2.2.1.1.mono hc, h.2.2.1.2.1.mono hc, h.2.2.1.2.2.mono hc⟩, fun z hz => ⟨(h.2.2.2 z hz).1.mono hc, fun y hy => ((h.2.2.2 z hz).2 y hy).mono hc⟩⟩
end
theorem made_flat {α : Type} {C : α → List Value} {K : Nat} (hC : ∀ x, (C x).length = K) (hK : 0 < K) (Z : α) (n : Nat) : (madeCells (C Z).toArray (n * K)).toList = (List.replicate n Z).flatMap C := by
 apply List.ext_getElem?
 intro i
 by_cases hi : i < n * K
 ·have h1 : (List.replicate n Z)[i / K]? = some Z := by rw [List.getElem?_replicate, if_pos (Nat.div_lt_of_lt_mul (by rw [Nat.mul_comm]; exact hi))]
  obtain ⟨u, hu⟩ : ∃ u, (C Z)[i % K]? = some u := ⟨_, List.getElem?_eq_getElem (by rw [hC]; exact Nat.mod_lt _ hK)⟩
  have h2 := flat_at hC h1 hu
  rw [Nat.div_add_mod'] at h2
  rw [h2]
  have hz : (C Z).toArray.size = K := by simp [hC]
  simp only [madeCells, Array.toList_map, Array.toList_range, List.getElem?_map, List.getElem?_range hi, Option.map_some, hz]
  congr 1
  rw [getElem!_def]
  simp [hu]
 ·rw [List.getElem?_eq_none (by simp [madeCells]; omega), List.getElem?_eq_none (by rw [flat_len hC, List.length_replicate]; omega)]
def setL (X : List Value) : Nat → List Value → List Value
 | _, [] => X
 | o, v :: vs => setL (X.set o v) (o + 1) vs
theorem setL_mid : ∀ (news old pre post : List Value), old.length = news.length → setL (pre ++ old ++ post) pre.length news = pre ++ news ++ post
 | [], old, pre, post, h => by
  have : old = [] := List.length_eq_zero_iff.1 (by simpa using h)
  subst this; rfl
 | v :: vs, [], pre, post, h => by simp at h
 | v :: vs, o :: os, pre, post, h => by
  have ih := setL_mid vs os (pre ++ [v]) post (by simpa using h)
  have e : (pre ++ o :: os ++ post).set pre.length v = pre ++ [v] ++ os ++ post := by
   rw [List.append_assoc, List.set_append_right _ _ (Nat.le_refl _)]
   simp
  show setL ((pre ++ o :: os ++ post).set pre.length v) (pre.length + 1) vs = _
  rw [e]
  rw [List.length_append] at ih
  simpa using ih
theorem setL_flat {α : Type} {C : α → List Value} {K : Nat} (hC : ∀ x, (C x).length = K) {l : List α} {k : Nat} (hk : k < l.length) (y : α) : setL (l.flatMap C) (k * K) (C y) = (l.set k y).flatMap C := by
 have e1 : l = l.take k ++ l[k] :: l.drop (k + 1) := by rw [List.getElem_cons_drop, List.take_append_drop]
 have e2 : l.set k y = l.take k ++ y :: l.drop (k + 1) := by rw [List.set_eq_take_append_cons_drop, if_pos hk]
 have hl : ((l.take k).flatMap C).length = k * K := by rw [flat_len hC, List.length_take, Nat.min_eq_left (by omega)]
 have h := setL_mid (C y) (C l[k]) ((l.take k).flatMap C) ((l.drop (k + 1)).flatMap C) (by rw [hC, hC])
 rw [hl] at h
 have e3 : l.flatMap C = (l.take k).flatMap C ++ C l[k] ++ (l.drop (k + 1)).flatMap C := by
  conv => lhs; rw [e1]
  rw [List.flatMap_append, List.flatMap_cons, List.append_assoc]
 rw [e3, h, e2, List.flatMap_append, List.flatMap_cons, List.append_assoc]
def zI : InM := ⟨⟨0, 0, 0, 0, 0, [], [], [], []⟩, none, 0⟩
def zM : MeM := ⟨[], [], false, false, 0, [], none, 0⟩
def zC : ClM := ⟨[], [], false, false, [], none, 0, [], none, 0, [], none, 0⟩
theorem mix_set {α : Type} {done : List α} {n : Nat} {Z y : α} (h : done.length < n) : (done ++ List.replicate (n - done.length) Z).set done.length y = (done ++ [y]) ++ List.replicate (n - (done.length + 1)) Z := by
 rw [List.set_append_right _ _ (Nat.le_refl _), Nat.sub_self]
 obtain ⟨m, hm⟩ : ∃ m, n - done.length = m + 1 := ⟨n - done.length - 1, by omega⟩
 rw [hm, show n - (done.length + 1) = m by omega, List.replicate_succ]
 simp
end Go.Proofs.YtgociheckcpjkaaGreatDoor.prg
namespace Go.Proofs.YtgociheckcpjkaaGreatDoor.prg
open Go.RowKit
open words kindp opp op kind word
theorem gb_set (w : World) (g j : Nat) (u : Value) : w.grownBy (w.setCell ⟨g, j, none⟩ u) (some g) := ⟨rfl, rfl, rfl, by simp, fun k _ hk => heap_setCell_other w ⟨g, j, none⟩ k u (fun e => hk (by simp [e]))⟩
theorem me_eq {m k : MeM} (h1 : m.nm = k.nm) (h2 : m.ds = k.ds) (h3 : m.st = k.st) (h4 : m.ab = k.ab) (h5 : m.rg = k.rg) (h6 : m.co.map pI = k.co.map pI) : pM m = pM k := by unfold pM; rw [h1, h2, h3, h4, h5, h6]
end Go.Proofs.YtgociheckcpjkaaGreatDoor.prg
namespace Go.Proofs.YtgociheckcpjkaaGreatDoor.prg
open Go.RowKit
open words kindp opp op kind word
theorem cl_eq {m k : ClM} (h1 : m.nm = k.nm) (h2 : m.su = k.su) (h3 : m.fc = k.fc) (h4 : m.ab = k.ab) (h5 : m.is = k.is) (h6 : m.fs.map pF = k.fs.map pF) (h7 : m.ms.map pM = k.ms.map pM) : pC m = pC k := by unfold pC; rw [h1, h2, h3, h4, h5, h6, h7]
end Go.Proofs.YtgociheckcpjkaaGreatDoor.prg
namespace Go.Proofs.YtgociheckcpjkaaGreatDoor.prg
open Go.RowKit
open words kindp opp op kind word
theorem own_gb {w w' : World} {base g : Nat} {e : TypeId} {size n : Nat} {v : Value} {xs : List Value} (h : w.ownsRow base e size v n xs) (hg : g < base) (k : w.grownBy w' (some g)) : w'.ownsRow base e size v n xs := by
 have hlt := h.lt
 refine ⟨h.1, ?_⟩
 rcases h.2 with h0 | ⟨q, cap, cur, rfl, hbg, hq, rest⟩
 ·exact .inl h0
 ·exact .inr ⟨q, cap, cur, rfl, hbg, (k.block q (hlt q rfl).2 (by intro e; cases e; omega)).trans hq, rest⟩
end Go.Proofs.YtgociheckcpjkaaGreatDoor.prg

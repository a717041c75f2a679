/-
 Layer 14: where code goes on, whence it comes, what is wrong with it: the document's answers.
-/
import Derived.Test.YtnmnnokdoiagkaaDoorFlowH
import Derived.Test.YtnmnnokdoiagkaaDoorOpTellsW
namespace Go.Proofs.YtnmnnokdoiagkaaDoor.flow
open Go.RowKit Go.Shelf
open words kindp opp op prg flowp kind

theorem ord0 : ordL [] = [] := ordL_of (by simp [Inc]) fun _ => Iff.rfl
theorem ord1 (a : Int) : ordL [a] = [a] := ordL_of (by simp [Inc]) fun _ => Iff.rfl
theorem ord2 {a b : Int} (h : a < b) : ordL [a, b] = [a, b] := ordL_of (by simp [Inc, h]) fun _ => Iff.rfl
theorem ord2' {a b : Int} (h : b < a) : ordL [a, b] = [b, a] := ordL_of (by simp [Inc, h]) fun _ => by simp [or_comm]
theorem orde (a : Int) : ordL [a, a] = [a] := ordL_of (by simp [Inc]) fun _ => by simp

set_option maxRecDepth 100000 in
set_option maxHeartbeats 400000 in
theorem in_r (A : Option Addr) (c n : Nat) (l : List Int) (z : Int) (w : World) (hr : Rd w A (IL l)) (hl : l.length = n) (hn : n ≤ 1000) :
  Calls Tryd.prog 33 #[.slice A n c, .int .i64 z] w fun e w' => e = .returned (.bool (l.contains z)) ∧ w' = w := by
 have hnI : (n : Int) ≤ 1000 := by omega
 obtain ⟨b, hb⟩ : ∃ b, b = l.contains z := ⟨_, rfl⟩
 rw [← hb]
 have HR := Lib.hid hr; have HL := Lib.hid hl; have HB := Lib.hid hb
 clear hr hl hb
 go_enter Tryd.func33, Tryd.ntmps33
 go_wp2
 go_loopw [5] (fun i wr => ∃ k : Nat, k ≤ n ∧ i = .int .i64 (k : Int) ∧ (l.drop k).contains z = b ∧ wr = w) (fun i _ => n - (intOf i).toNat)
 case atStart => exact ⟨0, Nat.zero_le _, rfl, HB.out.symm, rfl⟩
 case round =>
  obtain ⟨k, hk, rfl, hc, rfl⟩ := hrel
  by_cases hlt : k < n
  ·have hltI : (k : Int) < (n : Int) := by omega
   obtain ⟨x, hx⟩ : ∃ x, l[k]? = some x := ⟨l[k]'(by have := HL.out; omega), List.getElem?_eq_getElem _⟩
   obtain ⟨a, rfl, -, cx⟩ := HR.out.at_ (IL_at hx)
   rw [drop_at' hx, List.contains_cons] at hc
   by_cases he : x = z
   ·have h1 : (x == z) = true := by simpa using he
    have hbt : b = true := by rw [← hc, he]; simp
    clear hc hx he
    subst hbt
    go_wp2
    go_ret
    exact ⟨rfl, rfl⟩
   ·have h1 : (x == z) = false := beq_eq_false_iff_ne.2 he
    have h2 : (l.drop (k + 1)).contains z = b := by rw [← hc, beq_eq_false_iff_ne.2 (fun g => he g.symm), Bool.false_or]
    have H2 := Lib.hid h2
    clear hc hx he h2
    go_wp2
    go_roundw
    case rel => exact ⟨k + 1, by omega, by go_num, H2.out, by trivial⟩
    case measure => simp [intOf]; omega
  ·have hltI : ¬ (k : Int) < (n : Int) := by omega
   have hbf : b = false := by rw [← hc, List.drop_of_length_le (by have := HL.out; omega)]; rfl
   clear hc
   subst hbf
   go_wp2
   go_ret
   exact ⟨rfl, rfl⟩

/-- what Next answers -/
def NwI (X : List Int) (w : World) (e : Ending) (w' : World) : Prop :=
 ∃ A' c', e = .returned (.slice A' X.length c') ∧ Rd w' A' (IL X) ∧ Below w.heap.size w w'

/-- what Next answers: a list of its own -/
def NwO (X : List Int) (w : World) (e : Ending) (w' : World) : Prop :=
 ∃ A' c', e = .returned (.slice A' X.length c') ∧ w'.ownsRow w.heap.size 3 1 (.slice A' X.length c') X.length (IL X) ∧ Below w.heap.size w w'

set_option maxRecDepth 100000 in
set_option maxHeartbeats 8000000 in
theorem next_ro (A : Option Addr) (c : Nat) (L : List InM) (z : Int) (w : World) (hz : L.length ≤ 1000) (hr : Rd w A (L.flatMap inC)) :
  Calls Tryd.prog 14 #[.slice A L.length c, .int .i64 z] w (NwO (nextL (L.map (·.i)) z) w) := by
 obtain ⟨i0, hi0, hz0, hz1, hz2⟩ := info_parts infoI
 obtain ⟨n, hn⟩ : ∃ n, n = L.length := ⟨_, rfl⟩
 have HN := Lib.hid hn
 have hnI : (n : Int) ≤ 1000 := by omega
 rw [← hn]
 obtain ⟨X, hX⟩ : ∃ X, X = nextL (L.map (·.i)) z := ⟨_, rfl⟩
 rw [← hX]
 by_cases hneg : z < 0
 ·have hd : decide (z < 0) = true := decide_eq_true hneg
  have hXn : X = [] := by rw [hX]; unfold nextL; rw [onL_none (.inl hneg)]; exact ord0
  subst hXn
  clear hX hr hn hz
  go_enter Tryd.func14, Tryd.ntmps14
  go_wp2
  go_ret
  exact ⟨none, 0, rfl, World.ownsRow_nil _ _ _ _, Below.refl _ _⟩
 by_cases hge : (n : Int) ≤ z
 ·have hd : decide (z < 0) = false := decide_eq_false hneg
  have hd2 : decide ((n : Int) ≤ z) = true := decide_eq_true hge
  have hXn : X = [] := by rw [hX]; unfold nextL; rw [onL_none (.inr (by rw [List.length_map, ← hn]; exact hge))]; exact ord0
  subst hXn
  clear hX hr hn hz
  go_enter Tryd.func14, Tryd.ntmps14
  go_wp2
  go_ret
  exact ⟨none, 0, rfl, World.ownsRow_nil _ _ _ _, Below.refl _ _⟩
 obtain ⟨k, rfl⟩ : ∃ k : Nat, z = (k : Int) := ⟨z.toNat, by omega⟩
 have hk : k < n := by omega
 have hkI : (k : Int) < (n : Int) := by omega
 have hk0 : ¬ (k : Int) < 0 := hneg
 have hd : decide ((k : Int) < 0) = false := decide_eq_false hneg
 have hd2 : decide ((n : Int) ≤ (k : Int)) = false := decide_eq_false hge
 obtain ⟨x, hx⟩ : ∃ x, L[k]? = some x := ⟨L[k]'(by omega), List.getElem?_eq_getElem _⟩
 have hXe : X = ordL ((if fallsB x.i.o = true ∧ k + 1 < n then [(k : Int) + 1] else []) ++ (if (targetL x.i).2 = true ∧ (targetL x.i).1 < (n : Int) then [(targetL x.i).1] else [])) := by
  rw [hX]; unfold nextL
  rw [onL_at (x := x.i) (by rw [List.getElem?_map, hx]; rfl)]
  unfold ow
  rw [List.length_map, ← hn]
  rfl
 have HT := Lib.hid (target_r x.i x.A x.c w)
 have HF := Lib.hid (fun w => falls_r x.i.o w)
 have hge0 := target_ge x.i
 have HR := Lib.hid hr
 have HX := Lib.hid hx
 obtain ⟨a, rfl, -, f0, f1, f2, f3, f4, f5, f6, f7, f8⟩ := in_at hr hx
 obtain ⟨t, ht⟩ : ∃ t, t = (targetL x.i).1 := ⟨_, rfl⟩
 obtain ⟨j, hj⟩ : ∃ j, j = (targetL x.i).2 := ⟨_, rfl⟩
 obtain ⟨f, hf⟩ : ∃ f, f = fallsB x.i.o := ⟨_, rfl⟩
 rw [← ht, ← hj] at hXe HT hge0
 rw [← hf] at hXe HF
 dsimp only [InV] at HT
 clear ht hj hf hX hr hx hn hz hneg hge
 cases j with
 | false =>
  cases f with
  | false =>
   have hXl : X = [] := by
    rw [hXe]
    rw [if_neg (show ¬ (false = true ∧ k + 1 < n) from fun g => Bool.false_ne_true g.1)]
    rw [if_neg (show ¬ (false = true ∧ t < (n : Int)) from fun g => Bool.false_ne_true g.1)]
    exact ord0
   clear hXe hge0
   subst hXl
   go_enter Tryd.func14, Tryd.ntmps14
   go_wp2_with fail
   refine HT.out.mono ?_
   rintro e w1 ⟨rfl, k1⟩
   obtain ⟨a', e', -, g0, -⟩ := in_at (HR.out.below k1) HX.out
   obtain rfl := Option.some.inj e'
   have HB1 := Lib.hid k1
   clear k1 e' f0 f1 f2 f3 f4 f5 f6 f7 f8
   go_wp2_with fail
   refine (HF.out _).mono ?_
   rintro e u1 ⟨rfl, hu⟩; subst u1
   go_wp2
   go_ret
   exact ⟨none, 0, rfl, World.ownsRow_nil _ _ _ _, HB1.out⟩
  | true =>
   by_cases hkn : k + 1 < n
   ·have hknI : (k : Int) + 1 < (n : Int) := by omega
    have hd3 : decide ((k : Int) + 1 < (n : Int)) = true := decide_eq_true hknI
    have hXl : X = [(k : Int) + 1] := by
     rw [hXe]
     rw [if_pos (show true = true ∧ k + 1 < n from ⟨rfl, hkn⟩)]
     rw [if_neg (show ¬ (false = true ∧ t < (n : Int)) from fun g => Bool.false_ne_true g.1)]
     exact ord1 _
    clear hXe hge0
    subst hXl
    go_enter Tryd.func14, Tryd.ntmps14
    go_wp2_with fail
    refine HT.out.mono ?_
    rintro e w1 ⟨rfl, k1⟩
    obtain ⟨a', e', -, g0, -⟩ := in_at (HR.out.below k1) HX.out
    obtain rfl := Option.some.inj e'
    have HB1 := Lib.hid k1
    clear k1 e' f0 f1 f2 f3 f4 f5 f6 f7 f8
    go_wp2_with fail
    refine (HF.out _).mono ?_
    rintro e u1 ⟨rfl, hu⟩; subst u1
    go_wp2_with (first | (at_builtin; refine wpList_app _ rfl (.tmp 61) (.tmp 64) 29 rfl w.heap.size 3 i0 (.int .i64 0) 1 8 Tryd.underlying29 hi0 hz0 hz1 hz2 rfl (by decide) _ _ _ rfl ((World.ownsRow_nil _ _ _ _).alloc _) (some ⟨w1.heap.size, 0, none⟩) 1 1 [.int .i64 ((k : Int) + 1)] rfl rfl (rd_blk (k := 1) (heap_alloc_new _ _) rfl) (by simp [Value.oneCell']) (by simp only [maxLen]; omega) (by omega) (by have := HB1.out.size; simp; omega) ?_; intro v2 u2 hown2 hg2 hb2 hat2; clear hg2 hat2; have HB2 := Lib.hid ((HB1.out.alloc HB1.out.size _).trans hb2); clear hb2))
    obtain ⟨A9, c9, rfl, -, -, -⟩ := own_rd hown2
    go_ret
    exact ⟨A9, c9, rfl, hown2, HB2.out⟩
   have hknI : ¬ (k : Int) + 1 < (n : Int) := by omega
   have hd3 : decide ((k : Int) + 1 < (n : Int)) = false := decide_eq_false hknI
   have hXl : X = [] := by
    rw [hXe]
    rw [if_neg (show ¬ (true = true ∧ k + 1 < n) from fun g => hkn g.2)]
    rw [if_neg (show ¬ (false = true ∧ t < (n : Int)) from fun g => Bool.false_ne_true g.1)]
    exact ord0
   clear hXe hge0
   subst hXl
   go_enter Tryd.func14, Tryd.ntmps14
   go_wp2_with fail
   refine HT.out.mono ?_
   rintro e w1 ⟨rfl, k1⟩
   obtain ⟨a', e', -, g0, -⟩ := in_at (HR.out.below k1) HX.out
   obtain rfl := Option.some.inj e'
   have HB1 := Lib.hid k1
   clear k1 e' f0 f1 f2 f3 f4 f5 f6 f7 f8
   go_wp2_with fail
   refine (HF.out _).mono ?_
   rintro e u1 ⟨rfl, hu⟩; subst u1
   go_wp2
   go_ret
   exact ⟨none, 0, rfl, World.ownsRow_nil _ _ _ _, HB1.out⟩
 | true =>
  by_cases htn : t < (n : Int)
  ·have hdt : decide (t < (n : Int)) = true := decide_eq_true htn
   cases f with
   | false =>
    have hXl : X = [t] := by
     rw [hXe]
     rw [if_neg (show ¬ (false = true ∧ k + 1 < n) from fun g => Bool.false_ne_true g.1)]
     rw [if_pos (show true = true ∧ t < (n : Int) from ⟨rfl, htn⟩)]
     exact ord1 _
    clear hXe hge0
    subst hXl
    go_enter Tryd.func14, Tryd.ntmps14
    go_wp2_with fail
    refine HT.out.mono ?_
    rintro e w1 ⟨rfl, k1⟩
    obtain ⟨a', e', -, g0, -⟩ := in_at (HR.out.below k1) HX.out
    obtain rfl := Option.some.inj e'
    have HB1 := Lib.hid k1
    clear k1 e' f0 f1 f2 f3 f4 f5 f6 f7 f8
    go_wp2_with fail
    refine (HF.out _).mono ?_
    rintro e u1 ⟨rfl, hu⟩; subst u1
    go_wp2_with (first | (at_builtin; refine wpList_app _ rfl (.tmp 56) (.tmp 58) 29 rfl w.heap.size 3 i0 (.int .i64 0) 1 8 Tryd.underlying29 hi0 hz0 hz1 hz2 rfl (by decide) _ _ _ rfl ((World.ownsRow_nil _ _ _ _).alloc _) (some ⟨w1.heap.size, 0, none⟩) 1 1 [.int .i64 (t)] rfl rfl (rd_blk (k := 1) (heap_alloc_new _ _) rfl) (by simp [Value.oneCell']) (by simp only [maxLen]; omega) (by omega) (by have := HB1.out.size; simp; omega) ?_; intro v2 u2 hown2 hg2 hb2 hat2; clear hg2 hat2; have HB2 := Lib.hid ((HB1.out.alloc HB1.out.size _).trans hb2); clear hb2))
    obtain ⟨A9, c9, rfl, -, -, -⟩ := own_rd hown2
    go_ret
    exact ⟨A9, c9, rfl, hown2, HB2.out⟩
   | true =>
    by_cases hkn : k + 1 < n
    ·have hknI : (k : Int) + 1 < (n : Int) := by omega
     have hd3 : decide ((k : Int) + 1 < (n : Int)) = true := decide_eq_true hknI
     by_cases hlt : t < (k : Int) + 1
     ·have hd4 : decide (t < (k : Int) + 1) = true := decide_eq_true hlt
      have hd5 : decide ((k : Int) + 1 < t) = false := decide_eq_false (by omega)
      have hng : ¬ (k : Int) + 1 < t := by omega
      have hXl : X = [t, (k : Int) + 1] := by
       rw [hXe]
       rw [if_pos (show true = true ∧ k + 1 < n from ⟨rfl, hkn⟩)]
       rw [if_pos (show true = true ∧ t < (n : Int) from ⟨rfl, htn⟩)]
       exact ord2' hlt
      clear hXe hge0
      subst hXl
      go_enter Tryd.func14, Tryd.ntmps14
      go_wp2_with fail
      refine HT.out.mono ?_
      rintro e w1 ⟨rfl, k1⟩
      obtain ⟨a', e', -, g0, -⟩ := in_at (HR.out.below k1) HX.out
      obtain rfl := Option.some.inj e'
      have HB1 := Lib.hid k1
      clear k1 e' f0 f1 f2 f3 f4 f5 f6 f7 f8
      go_wp2_with fail
      refine (HF.out _).mono ?_
      rintro e u1 ⟨rfl, hu⟩; subst u1
      go_wp2_with (first | (at_builtin; refine wpList_app _ rfl (.tmp 56) (.tmp 58) 29 rfl w.heap.size 3 i0 (.int .i64 0) 1 8 Tryd.underlying29 hi0 hz0 hz1 hz2 rfl (by decide) _ _ _ rfl ((World.ownsRow_nil _ _ _ _).alloc _) (some ⟨w1.heap.size, 0, none⟩) 1 1 [.int .i64 (t)] rfl rfl (rd_blk (k := 1) (heap_alloc_new _ _) rfl) (by simp [Value.oneCell']) (by simp only [maxLen]; omega) (by omega) (by have := HB1.out.size; simp; omega) ?_; intro v2 u2 hown2 hg2 hb2 hat2; clear hg2 hat2; have HB2 := Lib.hid ((HB1.out.alloc HB1.out.size _).trans hb2); clear hb2) | (at_builtin; refine wpList_app _ rfl (.tmp 61) (.tmp 64) 29 rfl w.heap.size 3 i0 (.int .i64 0) 1 8 Tryd.underlying29 hi0 hz0 hz1 hz2 rfl (by decide) _ _ _ rfl (hown2.alloc _) (some ⟨u2.heap.size, 0, none⟩) 1 1 [.int .i64 ((k : Int) + 1)] rfl rfl (rd_blk (k := 1) (heap_alloc_new _ _) rfl) (by simp [Value.oneCell']) (by simp only [maxLen]; omega) (by omega) (by have := HB2.out.size; simp; omega) ?_; intro v3 u3 hown3 hg3 hb3 hat3; clear hg3 hat3; have HB3 := Lib.hid ((HB2.out.alloc HB2.out.size _).trans hb3); clear hb3))
      obtain ⟨A9, c9, rfl, -, -, -⟩ := own_rd hown3
      go_ret
      exact ⟨A9, c9, rfl, hown3, HB3.out⟩
     have hd4 : decide (t < (k : Int) + 1) = false := decide_eq_false hlt
     by_cases hgt : (k : Int) + 1 < t
     ·have hd5 : decide ((k : Int) + 1 < t) = true := decide_eq_true hgt
      have hXl : X = [(k : Int) + 1, t] := by
       rw [hXe]
       rw [if_pos (show true = true ∧ k + 1 < n from ⟨rfl, hkn⟩)]
       rw [if_pos (show true = true ∧ t < (n : Int) from ⟨rfl, htn⟩)]
       exact ord2 hgt
      clear hXe hge0
      subst hXl
      go_enter Tryd.func14, Tryd.ntmps14
      go_wp2_with fail
      refine HT.out.mono ?_
      rintro e w1 ⟨rfl, k1⟩
      obtain ⟨a', e', -, g0, -⟩ := in_at (HR.out.below k1) HX.out
      obtain rfl := Option.some.inj e'
      have HB1 := Lib.hid k1
      clear k1 e' f0 f1 f2 f3 f4 f5 f6 f7 f8
      go_wp2_with fail
      refine (HF.out _).mono ?_
      rintro e u1 ⟨rfl, hu⟩; subst u1
      go_wp2_with (first | (at_builtin; refine wpList_app _ rfl (.tmp 61) (.tmp 64) 29 rfl w.heap.size 3 i0 (.int .i64 0) 1 8 Tryd.underlying29 hi0 hz0 hz1 hz2 rfl (by decide) _ _ _ rfl ((World.ownsRow_nil _ _ _ _).alloc _) (some ⟨w1.heap.size, 0, none⟩) 1 1 [.int .i64 ((k : Int) + 1)] rfl rfl (rd_blk (k := 1) (heap_alloc_new _ _) rfl) (by simp [Value.oneCell']) (by simp only [maxLen]; omega) (by omega) (by have := HB1.out.size; simp; omega) ?_; intro v2 u2 hown2 hg2 hb2 hat2; clear hg2 hat2; have HB2 := Lib.hid ((HB1.out.alloc HB1.out.size _).trans hb2); clear hb2) | (at_builtin; refine wpList_app _ rfl (.tmp 76) (.tmp 78) 29 rfl w.heap.size 3 i0 (.int .i64 0) 1 8 Tryd.underlying29 hi0 hz0 hz1 hz2 rfl (by decide) _ _ _ rfl (hown2.alloc _) (some ⟨u2.heap.size, 0, none⟩) 1 1 [.int .i64 (t)] rfl rfl (rd_blk (k := 1) (heap_alloc_new _ _) rfl) (by simp [Value.oneCell']) (by simp only [maxLen]; omega) (by omega) (by have := HB2.out.size; simp; omega) ?_; intro v3 u3 hown3 hg3 hb3 hat3; clear hg3 hat3; have HB3 := Lib.hid ((HB2.out.alloc HB2.out.size _).trans hb3); clear hb3))
      obtain ⟨A9, c9, rfl, -, -, -⟩ := own_rd hown3
      go_ret
      exact ⟨A9, c9, rfl, hown3, HB3.out⟩
     have hd5 : decide ((k : Int) + 1 < t) = false := decide_eq_false hgt
     have het : t = (k : Int) + 1 := by omega
     have hXl : X = [(k : Int) + 1] := by
      rw [hXe]
      rw [if_pos (show true = true ∧ k + 1 < n from ⟨rfl, hkn⟩)]
      rw [if_pos (show true = true ∧ t < (n : Int) from ⟨rfl, htn⟩)]
      rw [het]
      exact orde _
     clear hXe hge0
     subst hXl
     go_enter Tryd.func14, Tryd.ntmps14
     go_wp2_with fail
     refine HT.out.mono ?_
     rintro e w1 ⟨rfl, k1⟩
     obtain ⟨a', e', -, g0, -⟩ := in_at (HR.out.below k1) HX.out
     obtain rfl := Option.some.inj e'
     have HB1 := Lib.hid k1
     clear k1 e' f0 f1 f2 f3 f4 f5 f6 f7 f8
     go_wp2_with fail
     refine (HF.out _).mono ?_
     rintro e u1 ⟨rfl, hu⟩; subst u1
     go_wp2_with (first | (at_builtin; refine wpList_app _ rfl (.tmp 61) (.tmp 64) 29 rfl w.heap.size 3 i0 (.int .i64 0) 1 8 Tryd.underlying29 hi0 hz0 hz1 hz2 rfl (by decide) _ _ _ rfl ((World.ownsRow_nil _ _ _ _).alloc _) (some ⟨w1.heap.size, 0, none⟩) 1 1 [.int .i64 ((k : Int) + 1)] rfl rfl (rd_blk (k := 1) (heap_alloc_new _ _) rfl) (by simp [Value.oneCell']) (by simp only [maxLen]; omega) (by omega) (by have := HB1.out.size; simp; omega) ?_; intro v2 u2 hown2 hg2 hb2 hat2; clear hg2 hat2; have HB2 := Lib.hid ((HB1.out.alloc HB1.out.size _).trans hb2); clear hb2))
     obtain ⟨A9, c9, rfl, -, -, -⟩ := own_rd hown2
     go_ret
     exact ⟨A9, c9, rfl, hown2, HB2.out⟩
    have hknI : ¬ (k : Int) + 1 < (n : Int) := by omega
    have hd3 : decide ((k : Int) + 1 < (n : Int)) = false := decide_eq_false hknI
    have hXl : X = [t] := by
     rw [hXe]
     rw [if_neg (show ¬ (true = true ∧ k + 1 < n) from fun g => hkn g.2)]
     rw [if_pos (show true = true ∧ t < (n : Int) from ⟨rfl, htn⟩)]
     exact ord1 _
    clear hXe hge0
    subst hXl
    go_enter Tryd.func14, Tryd.ntmps14
    go_wp2_with fail
    refine HT.out.mono ?_
    rintro e w1 ⟨rfl, k1⟩
    obtain ⟨a', e', -, g0, -⟩ := in_at (HR.out.below k1) HX.out
    obtain rfl := Option.some.inj e'
    have HB1 := Lib.hid k1
    clear k1 e' f0 f1 f2 f3 f4 f5 f6 f7 f8
    go_wp2_with fail
    refine (HF.out _).mono ?_
    rintro e u1 ⟨rfl, hu⟩; subst u1
    go_wp2_with (first | (at_builtin; refine wpList_app _ rfl (.tmp 56) (.tmp 58) 29 rfl w.heap.size 3 i0 (.int .i64 0) 1 8 Tryd.underlying29 hi0 hz0 hz1 hz2 rfl (by decide) _ _ _ rfl ((World.ownsRow_nil _ _ _ _).alloc _) (some ⟨w1.heap.size, 0, none⟩) 1 1 [.int .i64 (t)] rfl rfl (rd_blk (k := 1) (heap_alloc_new _ _) rfl) (by simp [Value.oneCell']) (by simp only [maxLen]; omega) (by omega) (by have := HB1.out.size; simp; omega) ?_; intro v2 u2 hown2 hg2 hb2 hat2; clear hg2 hat2; have HB2 := Lib.hid ((HB1.out.alloc HB1.out.size _).trans hb2); clear hb2))
    obtain ⟨A9, c9, rfl, -, -, -⟩ := own_rd hown2
    go_ret
    exact ⟨A9, c9, rfl, hown2, HB2.out⟩
  have hdt : decide (t < (n : Int)) = false := decide_eq_false htn
  cases f with
  | false =>
   have hXl : X = [] := by
    rw [hXe]
    rw [if_neg (show ¬ (false = true ∧ k + 1 < n) from fun g => Bool.false_ne_true g.1)]
    rw [if_neg (show ¬ (true = true ∧ t < (n : Int)) from fun g => htn g.2)]
    exact ord0
   clear hXe hge0
   subst hXl
   go_enter Tryd.func14, Tryd.ntmps14
   go_wp2_with fail
   refine HT.out.mono ?_
   rintro e w1 ⟨rfl, k1⟩
   obtain ⟨a', e', -, g0, -⟩ := in_at (HR.out.below k1) HX.out
   obtain rfl := Option.some.inj e'
   have HB1 := Lib.hid k1
   clear k1 e' f0 f1 f2 f3 f4 f5 f6 f7 f8
   go_wp2_with fail
   refine (HF.out _).mono ?_
   rintro e u1 ⟨rfl, hu⟩; subst u1
   go_wp2
   go_ret
   exact ⟨none, 0, rfl, World.ownsRow_nil _ _ _ _, HB1.out⟩
  | true =>
   by_cases hkn : k + 1 < n
   ·have hknI : (k : Int) + 1 < (n : Int) := by omega
    have hd3 : decide ((k : Int) + 1 < (n : Int)) = true := decide_eq_true hknI
    have hXl : X = [(k : Int) + 1] := by
     rw [hXe]
     rw [if_pos (show true = true ∧ k + 1 < n from ⟨rfl, hkn⟩)]
     rw [if_neg (show ¬ (true = true ∧ t < (n : Int)) from fun g => htn g.2)]
     exact ord1 _
    clear hXe hge0
    subst hXl
    go_enter Tryd.func14, Tryd.ntmps14
    go_wp2_with fail
    refine HT.out.mono ?_
    rintro e w1 ⟨rfl, k1⟩
    obtain ⟨a', e', -, g0, -⟩ := in_at (HR.out.below k1) HX.out
    obtain rfl := Option.some.inj e'
    have HB1 := Lib.hid k1
    clear k1 e' f0 f1 f2 f3 f4 f5 f6 f7 f8
    go_wp2_with fail
    refine (HF.out _).mono ?_
    rintro e u1 ⟨rfl, hu⟩; subst u1
    go_wp2_with (first | (at_builtin; refine wpList_app _ rfl (.tmp 61) (.tmp 64) 29 rfl w.heap.size 3 i0 (.int .i64 0) 1 8 Tryd.underlying29 hi0 hz0 hz1 hz2 rfl (by decide) _ _ _ rfl ((World.ownsRow_nil _ _ _ _).alloc _) (some ⟨w1.heap.size, 0, none⟩) 1 1 [.int .i64 ((k : Int) + 1)] rfl rfl (rd_blk (k := 1) (heap_alloc_new _ _) rfl) (by simp [Value.oneCell']) (by simp only [maxLen]; omega) (by omega) (by have := HB1.out.size; simp; omega) ?_; intro v2 u2 hown2 hg2 hb2 hat2; clear hg2 hat2; have HB2 := Lib.hid ((HB1.out.alloc HB1.out.size _).trans hb2); clear hb2))
    obtain ⟨A9, c9, rfl, -, -, -⟩ := own_rd hown2
    go_ret
    exact ⟨A9, c9, rfl, hown2, HB2.out⟩
   have hknI : ¬ (k : Int) + 1 < (n : Int) := by omega
   have hd3 : decide ((k : Int) + 1 < (n : Int)) = false := decide_eq_false hknI
   have hXl : X = [] := by
    rw [hXe]
    rw [if_neg (show ¬ (true = true ∧ k + 1 < n) from fun g => hkn g.2)]
    rw [if_neg (show ¬ (true = true ∧ t < (n : Int)) from fun g => htn g.2)]
    exact ord0
   clear hXe hge0
   subst hXl
   go_enter Tryd.func14, Tryd.ntmps14
   go_wp2_with fail
   refine HT.out.mono ?_
   rintro e w1 ⟨rfl, k1⟩
   obtain ⟨a', e', -, g0, -⟩ := in_at (HR.out.below k1) HX.out
   obtain rfl := Option.some.inj e'
   have HB1 := Lib.hid k1
   clear k1 e' f0 f1 f2 f3 f4 f5 f6 f7 f8
   go_wp2_with fail
   refine (HF.out _).mono ?_
   rintro e u1 ⟨rfl, hu⟩; subst u1
   go_wp2
   go_ret
   exact ⟨none, 0, rfl, World.ownsRow_nil _ _ _ _, HB1.out⟩

theorem next_r (A : Option Addr) (c : Nat) (L : List InM) (z : Int) (w : World) (hz : L.length ≤ 1000) (hr : Rd w A (L.flatMap inC)) :
  Calls Tryd.prog 14 #[.slice A L.length c, .int .i64 z] w (NwI (nextL (L.map (·.i)) z) w) :=
 (next_ro A c L z w hz hr).mono fun e w' h => by
  obtain ⟨A', c', rfl, ho, hb⟩ := h
  obtain ⟨A9, c9, e9, -, -, hr9⟩ := own_rd ho
  cases e9
  exact ⟨_, _, rfl, hr9, hb⟩

set_option maxRecDepth 100000 in
set_option maxHeartbeats 400000 in
theorem back_r (A : Option Addr) (c : Nat) (L : List InM) (z : Int) (w : World) (hz : L.length ≤ 1000) (hr : Rd w A (L.flatMap inC)) :
  Calls Tryd.prog 16 #[.slice A L.length c, .int .i64 z] w (NwI (comeL (L.map (·.i)) z) w) := by
 obtain ⟨i0, hi0, hz0, hz1, hz2⟩ := info_parts infoI
 obtain ⟨n, hn⟩ : ∃ n, n = L.length := ⟨_, rfl⟩
 have hnI : (n : Int) ≤ 1000 := by omega
 have HNX := Lib.hid (fun k w h => next_r A c L k w hz h)
 have HIN := Lib.hid (fun A c n l w hr hl hn => in_r A c n l z w hr hl hn)
 have HNL := Lib.hid (fun k : Nat => show (nextL (L.map (·.i)) (k : Int)).length ≤ 1000 from Nat.le_trans (ordL_len _) (Nat.le_trans (onL_len _ _) (by omega)))
 obtain ⟨p, hp⟩ : ∃ p : Nat → Bool, p = fun k : Nat => (onL (L.map (·.i)) (k : Int)).contains z := ⟨_, rfl⟩
 have HP := Lib.hid (fun k : Nat => show (nextL (L.map (·.i)) (k : Int)).contains z = p k from by
  rw [hp]
  exact Bool.eq_iff_iff.2 (by simp only [List.contains_iff_mem]; exact nextL_mem))
 have hX : comeL (L.map (·.i)) z = selL n p := by unfold comeL; rw [List.length_map, ← hn, hp]
 rw [hX]
 rw [← hn] at HNX ⊢
 have HR := Lib.hid hr
 clear hX hp hr hz hn
 go_enter Tryd.func16, Tryd.ntmps16
 go_wp2
 go_loopw [5, 6] (fun v i wr => ∃ k : Nat, k ≤ n ∧ i = .int .i64 (k : Int) ∧ wr.ownsRow w.heap.size 3 1 v (selL k p).length (IL (selL k p)) ∧ Below w.heap.size w wr) (fun _ i _ => n - (intOf i).toNat)
 case atStart => exact ⟨0, Nat.zero_le _, rfl, World.ownsRow_nil _ _ _ _, Below.refl _ _⟩
 case round =>
  obtain ⟨k, hk, rfl, ho, hb⟩ := hrel
  have HO := Lib.hid ho; have HB := Lib.hid hb
  by_cases hlt : k < n
  ·have hltI : (k : Int) < (n : Int) := by omega
   have HN1 := Lib.hid (HNX.out (k : Int) wr (HR.out.below hb))
   have HPK := Lib.hid (HP.out k); have HLK := Lib.hid (HNL.out k)
   have hss := selL_succ k p
   have hln := selL_len k p
   generalize nextL (L.map (·.i)) (k : Int) = X at *
   clear ho hb
   go_wp2_with fail
   refine HN1.out.mono ?_
   rintro e w1 ⟨A1, c1, rfl, r1, b1⟩
   have HI1 := Lib.hid (HIN.out A1 c1 _ X w1 r1 rfl HLK.out)
   rw [HPK.out] at HI1
   have HO1 := Lib.hid (own_below HO.out b1)
   have HB1 := Lib.hid (HB.out.trans (b1.mono HB.out.size))
   clear r1 b1 HN1
   cases hpk : p k with
   | true =>
    rw [hpk] at HI1 hss
    rw [if_pos rfl] at hss
    have HE := Lib.hid hss
    clear hss hpk
    go_wp2_with fail
    refine HI1.out.mono ?_
    rintro e w2 ⟨rfl, hw2⟩; subst w2
    go_wp2_with (at_builtin; refine wpList_app _ rfl (.tmp 18) (.tmp 20) _ rfl w.heap.size 3 i0 _ 1 8 Tryd.underlying29 hi0 hz0 hz1 hz2 rfl (by omega) _ (selL k p).length (IL (selL k p)) rfl (HO1.out.alloc _) _ 1 1 [.int .i64 (k : Int)] rfl rfl (rd_blk (heap_alloc_new _ _) (k := 1) rfl) (by simp [Value.oneCell']) (by simp only [maxLen]; omega) (by omega) (by have := HB1.out.size; simp; omega) ?_; intro v' w3 hown3 hg3 hb3 hat3; clear hg3 hat3)
    have hb4 := (HB1.out.alloc HB1.out.size _).trans hb3
    go_roundw
    case rel => exact ⟨k + 1, by omega, by go_num, by rw [HE.out, List.length_append, IL_app]; exact hown3, hb4⟩
    case measure => simp [intOf]; omega
   | false =>
    rw [hpk] at HI1 hss
    rw [if_neg Bool.false_ne_true, List.append_nil] at hss
    have HE := Lib.hid hss
    clear hss hpk
    go_wp2_with fail
    refine HI1.out.mono ?_
    rintro e w2 ⟨rfl, hw2⟩; subst w2
    go_wp2
    go_roundw
    case rel => exact ⟨k + 1, by omega, by go_num, by rw [HE.out]; exact HO1.out, HB1.out⟩
    case measure => simp [intOf]; omega
  ·have hltI : ¬ (k : Int) < (n : Int) := by omega
   obtain rfl : k = n := by omega
   obtain ⟨A9, c9, rfl, -, -, hr9⟩ := own_rd ho
   have HR9 := Lib.hid hr9
   clear ho hb hr9 HO
   go_wp2
   go_ret
   exact ⟨A9, c9, rfl, HR9.out, HB.out⟩
end Go.Proofs.YtnmnnokdoiagkaaDoor.flow

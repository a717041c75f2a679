/-
 Layer 14: which numbers are places; where it goes on behind a place, told one by one: the program's answers.
-/
import Derived.RangeFuncNested
import Derived.RangeFuncBound
import Derived.RangeFuncCalls
import Derived.RangeFuncLeaves
import Derived.RangeFuncBox
import Derived.Shelf.Abstract
import Derived.Shelf.RegionOpen
import Derived.WalkKit
import Derived.OwnWalkIn
import Derived.TacticsInMore
import Derived.LoopNIn
import Derived.LoopIn
import Derived.Maps.AppendAt
import Derived.Test.YtnmnnokdoiagkaaDoorFlowQ
import Derived.Test.YtnmnnokdoiagkaaDoorOpG
import Derived.Test.YtnmnnokdoiagkaaDoorOpU
import Derived.BigGuardIn
import Derived.Test.YtnmnnokdoiagkaaDoorPrgM
namespace Go.Proofs.YtnmnnokdoiagkaaDoor.flow
open Go.RowKit Go.Shelf
open words kindp opp op prg flowp
attribute [local go_sem] Oper.semAt_some

set_option maxRecDepth 100000 in
set_option maxHeartbeats 400000 in
theorem place_t (A : Option Addr) (m c : Nat) (k : Int) (w : World) (h0 : 0 ≤ k) (h1 : k < (m : Int)) :
  Calls Tryd.prog 25 #[.slice A m c, .int .i64 k] w fun e w' => e = .returned (.bool true) ∧ w' = w := by
 go_enter Tryd.func25, Tryd.ntmps25
 go_wp2
 go_ret
 exact ⟨rfl, rfl⟩
set_option maxRecDepth 100000 in
set_option maxHeartbeats 400000 in
theorem place_f (A : Option Addr) (m c : Nat) (k : Int) (w : World) (h : k < 0 ∨ (m : Int) ≤ k) :
  Calls Tryd.prog 25 #[.slice A m c, .int .i64 k] w fun e w' => e = .returned (.bool false) ∧ w' = w := by
 by_cases h0 : 0 ≤ k
 ·have h1 : ¬ k < (m : Int) := by omega
  clear h
  go_enter Tryd.func25, Tryd.ntmps25
  go_wp2
  go_ret
  exact ⟨rfl, rfl⟩
 ·clear h
  go_enter Tryd.func25, Tryd.ntmps25
  go_wp2
  go_ret
  exact ⟨rfl, rfl⟩
set_option maxRecDepth 100000 in
set_option maxHeartbeats 400000 in
theorem onward_w (A : Option Addr) (m c : Nat) (k : Int) (w : World) :
  Calls Tryd.prog 31 #[.slice A m c, .int .i64 k] w fun e w' => e = .returned (.func (.func 42) #[] #[.pointer (some ⟨w.heap.size, 0, none⟩), .pointer (some ⟨w.heap.size + 1, 0, none⟩)]) ∧ w' = (w.alloc (.cells #[.slice A m c] 22)).alloc (.cells #[.int .i64 k] 3) := by
 go_enter Tryd.func31, Tryd.ntmps31
 go_wp2
 go_ret
 exact ⟨rfl, rfl⟩

theorem wpListIn_pass {F : Fence} {n : Nat} {P : Program} {ops : Array Oper} {Q : Exit → Act → World → Prop} {a : Act} {w : World} {rest : List Oper} {o : Oper} (hw : Region.wanted o (yielded ops a.tmps) = false) (hF : ∀ f, F.fn f) (h : wpListIn F n P ops Q rest (a.put o.dst undef) w) : wpListIn F n P ops Q (o :: rest) a w := by
 unfold wpListIn
 rw [if_neg (by rw [hw]; exact Bool.false_ne_true)]
 exact ⟨fun f _ => hF f, h⟩
theorem wpListIn_take {F : Fence} {n : Nat} {P : Program} {ops : Array Oper} {Q : Exit → Act → World → Prop} {a : Act} {w : World} {rest : List Oper} {o : Oper} {v : Value} (hw : Region.wanted o (yielded ops a.tmps) = true) (hF : ∀ f, F.fn f) (hy : (o.semAt F.round a.eval).run P w = .ok (.value v) w) (h : wpListIn F n P ops Q rest (a.put o.dst v) w) : wpListIn F n P ops Q (o :: rest) a w := by
 unfold wpListIn
 rw [if_pos hw]
 refine ⟨fun f _ => hF f, ?_⟩
 rw [hy]
 exact h
theorem pre_lt {pre O : List Int} {x : Int} (h : pre ++ [x] <+: O) : pre.length < O.length := by
 have := h.length_le
 rw [List.length_append] at this
 exact this
def encP (x : Int) : Array Value := #[.int .i64 x]
set_option maxRecDepth 100000 in
set_option maxHeartbeats 4000000 in
set_option linter.all false in
/-- where it goes on, told one by one -/
theorem on1_in (n : Nat) (hn : 1 ≤ n) (l B1 B2 : Nat) (Kp : World → World → Prop) (A : Option Addr) (c : Nat) (L : List InM) (z : Int) (W : World) (hKr : Kp W W) (hKt : ∀ {A B C : World}, Kp A B → Kp B C → Kp A C) (hKc : ∀ A B, Kp W A → Below A.heap.size A B → Kp A B) (hA : ∀ W', Kp W W' → Rd W' A (L.flatMap inC)) (hS : ∀ W', Kp W W' → Sh W') (hz : L.length ≤ 281474976710656) (J Jx : List Int → World → Prop) (hJ : AbidesFrom W.heap.size J)
  (hY : ∀ pre x W1, J pre W1 → pre ++ [x] <+: onL (L.map (·.i)) z → YieldAt Fence.wide (n - 1) Tryd.prog l (encP x) W1 fun e W' =>
   (e = .returned (.bool true) ∧ J (pre ++ [x]) W' ∧ Kp W1 W') ∨ (e = .returned (.bool false) ∧ Jx (pre ++ [x]) W'))
  (hB1 : ∀ W', Kp W W' → W'.cell? ⟨B1, 0, none⟩ = some (.slice A L.length c)) (hB2 : ∀ W', Kp W W' → W'.cell? ⟨B2, 0, none⟩ = some (.int .i64 z)) (h0 : J [] W) :
  CallsIn Fence.wide n Tryd.prog 42 #[.func (.yield l) #[] #[], .pointer (some ⟨B1, 0, none⟩), .pointer (some ⟨B2, 0, none⟩)] W fun e W' => (∃ v, e = .returned v) ∧
   ((∃ ys, ys = onL (L.map (·.i)) z ∧ J ys W') ∨ (∃ pre, pre <+: onL (L.map (·.i)) z ∧ Jx pre W')) := by
 obtain ⟨m, hm⟩ : ∃ m, m = L.length := ⟨_, rfl⟩
 rw [← hm] at hB1 hz
 have hzI : (m : Int) ≤ 281474976710656 := by omega
 have HA := Lib.hid hA; have HS := Lib.hid hS; have HJ := Lib.hid hJ; have HY := Lib.hid hY; have HB1 := Lib.hid hB1; have HB2 := Lib.hid hB2; have HJ0 := Lib.hid h0
 have HW := Lib.hid hKr; have HKC := Lib.hid hKc; have HKT := Lib.hid (fun (A B C : World) (h : Kp A B) (k : Kp B C) => hKt h k)
 have hb := hB1 W HW.out; have hc := hB2 W HW.out
 unfold encP at HY
 by_cases hin : 0 ≤ z ∧ z < (m : Int)
 case neg =>
  have HE := Lib.hid (show onL (L.map (·.i)) z = [] from onL_none (by rw [List.length_map, ← hm]; omega))
  have HP := Lib.hid (fun w => place_f A m c z w (by omega))
  clear hm hA hS hJ hY hB1 hB2 h0 hKr hKc hin hz
  refine callsIn_of_wp Tryd.func42 rfl trivial ?_ rfl
  simp only [Tryd.ntmps42, List.size_toArray, List.length_cons, List.length_nil, Nat.reduceAdd, Nat.reduceSub, Array.replicate_succ, Array.replicate_zero, List.push_toArray, List.append_toArray, List.nil_append, List.cons_append]
  gi_wp2_with fail
  refine ⟨trivial, callsIn_wide.2 ((HP.out _).mono ?_)⟩
  rintro e w0 ⟨rfl, hw0⟩; subst w0
  gi_wp2
  refine bodyPost_ret (results_none rfl _ _ _) rfl ?_
  exact ⟨⟨_, rfl⟩, .inl ⟨_, HE.out.symm, HJ0.out⟩⟩
 case pos =>
  obtain ⟨hz0, hz1⟩ := hin
  obtain ⟨k, rfl⟩ : ∃ k : Nat, z = (k : Int) := ⟨z.toNat, by omega⟩
  have hkm : k < m := by omega
  obtain ⟨x, hx⟩ : ∃ x, L[k]? = some x := ⟨L[k]'(by omega), List.getElem?_eq_getElem _⟩
  have HX := Lib.hid hx
  have HP := Lib.hid (fun w => place_t A m c (k : Int) w hz0 hz1)
  have HON := Lib.hid (show onL (L.map (·.i)) (k : Int) = (if fallsB x.i.o = true ∧ k + 1 < m then [((k + 1 : Nat) : Int)] else []) ++ (if (targetL x.i).2 = true ∧ (targetL x.i).1 < (m : Int) then [(targetL x.i).1] else []) from by
   rw [onL_at (x := x.i) (by rw [List.getElem?_map, hx]; rfl), List.length_map, ← hm]; rfl)
  have HF := Lib.hid (fun w => falls_w x.i.o w)
  have hk2 : (k : Int) + 1 ≤ 281474976710657 := by omega
  obtain ⟨a0, rfl, -, f0, f1, f2, f3, f4, f5, f6, f7, f8⟩ := in_at (HA.out W HW.out) HX.out
  clear hm hA hS hJ hY hB1 hB2 h0 hKr hKc hx
  refine callsIn_of_wp Tryd.func42 rfl trivial ?_ rfl
  simp only [Tryd.ntmps42, List.size_toArray, List.length_cons, List.length_nil, Nat.reduceAdd, Nat.reduceSub, Array.replicate_succ, Array.replicate_zero, List.push_toArray, List.append_toArray, List.nil_append, List.cons_append]
  gi_wp2_with fail
  refine ⟨trivial, callsIn_wide.2 ((HP.out _).mono ?_)⟩
  rintro e w0 ⟨rfl, hw0⟩; subst w0
  gi_wp2_with fail
  refine ⟨trivial, callsIn_wide.2 ((HF.out _).mono ?_)⟩
  rintro e w0 ⟨rfl, hw0⟩; subst w0
  clear f1 f2 f3 f4 f5 f6 f7 f8 HF HP
  cases hf : fallsB x.i.o with
  | false =>
   rw [hf] at HON
   rw [if_neg (fun h => Bool.noConfusion h.1), List.nil_append] at HON
   clear f0 hf
   dsimp only []
   rename_i hK; refine hK _ _ ?_; clear hK
   refine wpListIn_take (v := .bool false) (by kernel_rfl) (fun _ => trivial) (by go_simp) ?_
   simp only [puts]
   iterate 4 (refine wpListIn_pass (by kernel_rfl) (fun _ => trivial) ?_)
   simp only [puts]
   refine wpListIn_take (v := .bool false) (by kernel_rfl) (fun _ => trivial) (by go_simp) ?_
   simp only [puts]
   refine wpListIn_take (v := .bool false) (by kernel_rfl) (fun _ => trivial) (by go_simp) ?_
   simp only [puts]
   iterate 5 (refine wpListIn_pass (by kernel_rfl) (fun _ => trivial) ?_)
   simp only [puts]
   refine wpListIn_take (v := .bool false) (by kernel_rfl) (fun _ => trivial) (by go_simp) ?_
   simp only [puts]
   refine wpListIn_nil ?_
   dsimp only [Exit.then]
   have HT := Lib.hid (target_w x.i x.A x.c W (HS.out W HW.out))
   obtain ⟨a, ea, -, f0, f1, f2, f3, f4, f5, f6, f7, f8⟩ := in_at (HA.out W HW.out) HX.out; cases ea
   have HB := Lib.hid (HB1.out W HW.out); have hb := HB1.out W HW.out; have hc := HB2.out W HW.out
   dsimp only [InV] at HT
   obtain ⟨tk, htk⟩ : ∃ tk, tk = (targetL x.i).1 := ⟨_, rfl⟩
   obtain ⟨tb, htb⟩ : ∃ tb, tb = (targetL x.i).2 := ⟨_, rfl⟩
   rw [← htk, ← htb] at HT
   gi_wp2_with fail
   refine ⟨trivial, callsIn_wide.2 (HT.out.mono ?_)⟩
   rintro e w2 ⟨rfl, k2⟩
   have HK2 := Lib.hid (show Kp W w2 from HKT.out _ _ _ HW.out (HKC.out _ _ HW.out k2))
   have HJ2 := Lib.hid (HJ.out _ _ _ none HJ0.out (op.grown_below k2) (fun r e => by cases e))
   have hb2 := HB1.out w2 HK2.out; have hc2 := HB2.out w2 HK2.out
   clear k2 f0 f1 f2 f3 f4 f5 f6 f7 f8 HT hb hc HB
   cases tb with
   | false =>
    have HE := Lib.hid (show onL (L.map (·.i)) (k : Int) = [] from by rw [HON.out, if_neg (fun h => by rw [← htb] at h; exact absurd h.1 (by decide))] <;> simp)
    clear htk htb
    gi_wp2_with fail
    refine ⟨trivial, ?_⟩
    rename_i hK; refine hK _ _ ?_; clear hK
    refine wpListIn_take (v := .bool false) (by kernel_rfl) (fun _ => trivial) (by go_simp) ?_
    simp only [puts]
    refine wpListIn_nil ?_
    dsimp only [Exit.then]
    gi_wp2
    go_end0
    first | exact ⟨⟨_, rfl⟩, .inl ⟨_, HE.out.symm, HJ2.out⟩⟩ | exact ⟨⟨_, rfl⟩, .inl (by rw [HE.out]; exact HJ2.out)⟩
   | true =>
    have ht0 : 0 ≤ tk := by rw [htk]; exact target_ge x.i htb.symm
    by_cases htn : tk < (m : Int)
    ·have HE := Lib.hid (show onL (L.map (·.i)) (k : Int) = [] ++ [tk] from by rw [HON.out, if_pos ⟨htb.symm, by rw [← htk]; exact htn⟩, ← htk] <;> rfl)
     have HP := Lib.hid (fun A w => place_t A m c tk w ht0 htn)
     clear htk htb
     gi_wp2_with fail
     refine ⟨trivial, callsIn_wide.2 ((HP.out _ _).mono ?_)⟩
     rintro e w0 ⟨rfl, hw0⟩; subst w0
     obtain ⟨fn, tmps, assign, body, hy, hR⟩ := HY.out _ tk w2 HJ2.out (by rw [HE.out]; exact List.prefix_refl _)
     gi_wp2
     refine hR.mono ?_
     rintro e W3 (⟨rfl, hJ3, hk3⟩ | ⟨rfl, hJx3⟩)
     ·gi_wp2
      go_end0
      first | exact ⟨⟨_, rfl⟩, .inl ⟨_, HE.out.symm, hJ3⟩⟩ | exact ⟨⟨_, rfl⟩, .inl (by rw [HE.out]; exact hJ3)⟩
     ·gi_wp2
      go_end0
      exact ⟨⟨_, rfl⟩, .inr ⟨_, by rw [HE.out]; exact List.prefix_refl _, hJx3⟩⟩
    ·have HE := Lib.hid (show onL (L.map (·.i)) (k : Int) = [] from by rw [HON.out, if_neg (fun h => htn (by rw [htk]; exact h.2))] <;> simp)
     have HP := Lib.hid (fun A w => place_f A m c tk w (.inr (by omega)))
     clear htk htb
     gi_wp2_with fail
     refine ⟨trivial, callsIn_wide.2 ((HP.out _ _).mono ?_)⟩
     rintro e w0 ⟨rfl, hw0⟩; subst w0
     gi_wp2
     go_end0
     first | exact ⟨⟨_, rfl⟩, .inl ⟨_, HE.out.symm, HJ2.out⟩⟩ | exact ⟨⟨_, rfl⟩, .inl (by rw [HE.out]; exact HJ2.out)⟩
  | true =>
   rw [hf] at HON
   clear f0 hf
   by_cases hp : (k : Int) + 1 < (m : Int)
   case neg =>
    rw [if_neg (fun h => hp (by omega)), List.nil_append] at HON
    have HP := Lib.hid (fun w => place_f (some a0) m c ((k : Int) + 1) w (by omega))
    gi_wp2_with fail
    refine ⟨trivial, callsIn_wide.2 ((HP.out _).mono ?_)⟩
    rintro e w0 ⟨rfl, hw0⟩; subst w0
    clear HP
    dsimp only []
    rename_i hK; refine hK _ _ ?_; clear hK
    refine wpListIn_take (v := .bool false) (by kernel_rfl) (fun _ => trivial) (by go_simp) ?_
    simp only [puts]
    refine wpListIn_take (v := .bool false) (by kernel_rfl) (fun _ => trivial) (by go_simp) ?_
    simp only [puts]
    iterate 5 (refine wpListIn_pass (by kernel_rfl) (fun _ => trivial) ?_)
    simp only [puts]
    refine wpListIn_take (v := .bool false) (by kernel_rfl) (fun _ => trivial) (by go_simp) ?_
    simp only [puts]
    refine wpListIn_nil ?_
    dsimp only [Exit.then]
    have HT := Lib.hid (target_w x.i x.A x.c W (HS.out W HW.out))
    obtain ⟨a, ea, -, f0, f1, f2, f3, f4, f5, f6, f7, f8⟩ := in_at (HA.out W HW.out) HX.out; cases ea
    have HB := Lib.hid (HB1.out W HW.out); have hb := HB1.out W HW.out; have hc := HB2.out W HW.out
    dsimp only [InV] at HT
    obtain ⟨tk, htk⟩ : ∃ tk, tk = (targetL x.i).1 := ⟨_, rfl⟩
    obtain ⟨tb, htb⟩ : ∃ tb, tb = (targetL x.i).2 := ⟨_, rfl⟩
    rw [← htk, ← htb] at HT
    gi_wp2_with fail
    refine ⟨trivial, callsIn_wide.2 (HT.out.mono ?_)⟩
    rintro e w2 ⟨rfl, k2⟩
    have HK2 := Lib.hid (show Kp W w2 from HKT.out _ _ _ HW.out (HKC.out _ _ HW.out k2))
    have HJ2 := Lib.hid (HJ.out _ _ _ none HJ0.out (op.grown_below k2) (fun r e => by cases e))
    have hb2 := HB1.out w2 HK2.out; have hc2 := HB2.out w2 HK2.out
    clear k2 f0 f1 f2 f3 f4 f5 f6 f7 f8 HT hb hc HB
    cases tb with
    | false =>
     have HE := Lib.hid (show onL (L.map (·.i)) (k : Int) = [] from by rw [HON.out, if_neg (fun h => by rw [← htb] at h; exact absurd h.1 (by decide))] <;> simp)
     clear htk htb
     gi_wp2_with fail
     refine ⟨trivial, ?_⟩
     rename_i hK; refine hK _ _ ?_; clear hK
     refine wpListIn_take (v := .bool false) (by kernel_rfl) (fun _ => trivial) (by go_simp) ?_
     simp only [puts]
     refine wpListIn_nil ?_
     dsimp only [Exit.then]
     gi_wp2
     go_end0
     first | exact ⟨⟨_, rfl⟩, .inl ⟨_, HE.out.symm, HJ2.out⟩⟩ | exact ⟨⟨_, rfl⟩, .inl (by rw [HE.out]; exact HJ2.out)⟩
    | true =>
     have ht0 : 0 ≤ tk := by rw [htk]; exact target_ge x.i htb.symm
     by_cases htn : tk < (m : Int)
     ·have HE := Lib.hid (show onL (L.map (·.i)) (k : Int) = [] ++ [tk] from by rw [HON.out, if_pos ⟨htb.symm, by rw [← htk]; exact htn⟩, ← htk] <;> rfl)
      have HP := Lib.hid (fun A w => place_t A m c tk w ht0 htn)
      clear htk htb
      gi_wp2_with fail
      refine ⟨trivial, callsIn_wide.2 ((HP.out _ _).mono ?_)⟩
      rintro e w0 ⟨rfl, hw0⟩; subst w0
      obtain ⟨fn, tmps, assign, body, hy, hR⟩ := HY.out _ tk w2 HJ2.out (by rw [HE.out]; exact List.prefix_refl _)
      gi_wp2
      refine hR.mono ?_
      rintro e W3 (⟨rfl, hJ3, hk3⟩ | ⟨rfl, hJx3⟩)
      ·gi_wp2
       go_end0
       first | exact ⟨⟨_, rfl⟩, .inl ⟨_, HE.out.symm, hJ3⟩⟩ | exact ⟨⟨_, rfl⟩, .inl (by rw [HE.out]; exact hJ3)⟩
      ·gi_wp2
       go_end0
       exact ⟨⟨_, rfl⟩, .inr ⟨_, by rw [HE.out]; exact List.prefix_refl _, hJx3⟩⟩
     ·have HE := Lib.hid (show onL (L.map (·.i)) (k : Int) = [] from by rw [HON.out, if_neg (fun h => htn (by rw [htk]; exact h.2))] <;> simp)
      have HP := Lib.hid (fun A w => place_f A m c tk w (.inr (by omega)))
      clear htk htb
      gi_wp2_with fail
      refine ⟨trivial, callsIn_wide.2 ((HP.out _ _).mono ?_)⟩
      rintro e w0 ⟨rfl, hw0⟩; subst w0
      gi_wp2
      go_end0
      first | exact ⟨⟨_, rfl⟩, .inl ⟨_, HE.out.symm, HJ2.out⟩⟩ | exact ⟨⟨_, rfl⟩, .inl (by rw [HE.out]; exact HJ2.out)⟩
   case pos =>
    rw [if_pos ⟨rfl, by omega⟩] at HON
    have HON2 := Lib.hid (show ((k : Int) + 1) :: (if (targetL x.i).2 = true ∧ (targetL x.i).1 < (m : Int) then [(targetL x.i).1] else []) = onL (L.map (·.i)) (k : Int) from HON.out.symm)
    have HP := Lib.hid (fun w => place_t (some a0) m c ((k : Int) + 1) w (by omega) (by omega))
    gi_wp2_with fail
    refine ⟨trivial, callsIn_wide.2 ((HP.out _).mono ?_)⟩
    rintro e w0 ⟨rfl, hw0⟩; subst w0
    clear HP
    obtain ⟨fn, tmps, assign, body, hy, hR⟩ := HY.out [] ((k : Int) + 1) W HJ0.out (by rw [← HON2.out]; exact ⟨_, rfl⟩)
    gi_wp2
    refine hR.mono ?_
    rintro e w1' (⟨rfl, hJ1, hk1⟩ | ⟨rfl, hJx1⟩)
    ·obtain ⟨w1, rfl⟩ : ∃ w, w = w1' := ⟨_, rfl⟩
     have HJ1 := Lib.hid (show J [(k : Int) + 1] w1 from hJ1)
     have HK1 := Lib.hid (HKT.out _ _ _ HW.out hk1)
     clear hy hR hJ1 hk1
     have hb1 := HB1.out w1 HK1.out; have hc1 := HB2.out w1 HK1.out
     have HT := Lib.hid (target_w x.i x.A x.c w1 (HS.out w1 HK1.out))
     obtain ⟨a, ea, -, f0, f1, f2, f3, f4, f5, f6, f7, f8⟩ := in_at (HA.out w1 HK1.out) HX.out; cases ea
     have HB := Lib.hid (HB1.out w1 HK1.out); have hb := HB1.out w1 HK1.out; have hc := HB2.out w1 HK1.out
     dsimp only [InV] at HT
     obtain ⟨tk, htk⟩ : ∃ tk, tk = (targetL x.i).1 := ⟨_, rfl⟩
     obtain ⟨tb, htb⟩ : ∃ tb, tb = (targetL x.i).2 := ⟨_, rfl⟩
     rw [← htk, ← htb] at HT
     gi_wp2_with fail
     refine ⟨trivial, callsIn_wide.2 (HT.out.mono ?_)⟩
     rintro e w2 ⟨rfl, k2⟩
     have HK2 := Lib.hid (show Kp W w2 from HKT.out _ _ _ HK1.out (HKC.out _ _ HK1.out k2))
     have HJ2 := Lib.hid (HJ.out _ _ _ none HJ1.out (op.grown_below k2) (fun r e => by cases e))
     have hb2 := HB1.out w2 HK2.out; have hc2 := HB2.out w2 HK2.out
     clear k2 f0 f1 f2 f3 f4 f5 f6 f7 f8 HT hb hc HB
     cases tb with
     | false =>
      have HE := Lib.hid (show onL (L.map (·.i)) (k : Int) = [(k : Int) + 1] from by rw [HON.out, if_neg (fun h => by rw [← htb] at h; exact absurd h.1 (by decide))] <;> simp)
      clear htk htb
      gi_wp2_with fail
      refine ⟨trivial, ?_⟩
      rename_i hK; refine hK _ _ ?_; clear hK
      refine wpListIn_take (v := .bool false) (by kernel_rfl) (fun _ => trivial) (by go_simp) ?_
      simp only [puts]
      refine wpListIn_nil ?_
      dsimp only [Exit.then]
      gi_wp2
      go_end0
      first | exact ⟨⟨_, rfl⟩, .inl ⟨_, HE.out.symm, HJ2.out⟩⟩ | exact ⟨⟨_, rfl⟩, .inl (by rw [HE.out]; exact HJ2.out)⟩
     | true =>
      have ht0 : 0 ≤ tk := by rw [htk]; exact target_ge x.i htb.symm
      by_cases htn : tk < (m : Int)
      ·have HE := Lib.hid (show onL (L.map (·.i)) (k : Int) = [(k : Int) + 1] ++ [tk] from by rw [HON.out, if_pos ⟨htb.symm, by rw [← htk]; exact htn⟩, ← htk] <;> rfl)
       have HP := Lib.hid (fun A w => place_t A m c tk w ht0 htn)
       clear htk htb
       gi_wp2_with fail
       refine ⟨trivial, callsIn_wide.2 ((HP.out _ _).mono ?_)⟩
       rintro e w0 ⟨rfl, hw0⟩; subst w0
       obtain ⟨fn, tmps, assign, body, hy, hR⟩ := HY.out _ tk w2 HJ2.out (by rw [HE.out]; exact List.prefix_refl _)
       gi_wp2
       refine hR.mono ?_
       rintro e W3 (⟨rfl, hJ3, hk3⟩ | ⟨rfl, hJx3⟩)
       ·gi_wp2
        go_end0
        first | exact ⟨⟨_, rfl⟩, .inl ⟨_, HE.out.symm, hJ3⟩⟩ | exact ⟨⟨_, rfl⟩, .inl (by rw [HE.out]; exact hJ3)⟩
       ·gi_wp2
        go_end0
        exact ⟨⟨_, rfl⟩, .inr ⟨_, by rw [HE.out]; exact List.prefix_refl _, hJx3⟩⟩
      ·have HE := Lib.hid (show onL (L.map (·.i)) (k : Int) = [(k : Int) + 1] from by rw [HON.out, if_neg (fun h => htn (by rw [htk]; exact h.2))] <;> simp)
       have HP := Lib.hid (fun A w => place_f A m c tk w (.inr (by omega)))
       clear htk htb
       gi_wp2_with fail
       refine ⟨trivial, callsIn_wide.2 ((HP.out _ _).mono ?_)⟩
       rintro e w0 ⟨rfl, hw0⟩; subst w0
       gi_wp2
       go_end0
       first | exact ⟨⟨_, rfl⟩, .inl ⟨_, HE.out.symm, HJ2.out⟩⟩ | exact ⟨⟨_, rfl⟩, .inl (by rw [HE.out]; exact HJ2.out)⟩
    ·gi_wp2
     refine bodyPost_ret (results_none rfl _ _ _) rfl ?_
     exact ⟨⟨_, rfl⟩, .inr ⟨_, by rw [← HON2.out]; exact ⟨_, rfl⟩, hJx1⟩⟩

theorem on_stops (n : Nat) (hn : 1 ≤ n) (B1 B2 n₀ : Nat) (A : Option Addr) (c : Nat) (L : List InM) (z : Int) (w : World) (hz : L.length ≤ 281474976710656) (hn₀ : w.heap.size ≤ n₀) (hB1 : B1 < n₀) (hB2 : B2 < n₀) (hr : Rd w A (L.flatMap inC)) (hs : Sh w) (ws : World) (hws : Below w.heap.size w ws) (hsz : n₀ ≤ ws.heap.size)
  (h1 : ws.cell? ⟨B1, 0, none⟩ = some (.slice A L.length c)) (h2 : ws.cell? ⟨B2, 0, none⟩ = some (.int .i64 z)) :
  SeqStopsK Fence.wide n Tryd.prog 42 #[.pointer (some ⟨B1, 0, none⟩), .pointer (some ⟨B2, 0, none⟩)] encP (Below n₀) (fun ys => ys = onL (L.map (·.i)) z) (fun pre => pre <+: onL (L.map (·.i)) z) (onL (L.map (·.i)) z).length ws := fun l J Jx W hW hJ _ hY h0 => by
 have hb : Below w.heap.size w W := hws.trans (hW.mono hws.size)
 have cell : ∀ {B : Nat} {v : Value}, B < n₀ → ws.cell? ⟨B, 0, none⟩ = some v → ∀ W', Below n₀ W W' → W'.cell? ⟨B, 0, none⟩ = some v := fun {B v} hB h W' hW' =>
  (hW'.cell (p := ⟨B, 0, none⟩) hB).trans ((hW.cell (p := ⟨B, 0, none⟩) (by show B < _; omega)).trans h)
 exact on1_in n hn l B1 B2 (Below n₀) A c L z W (Below.refl _ _) (fun h k => h.trans k) (fun X Y h k => k.mono (Nat.le_trans (Nat.le_trans hsz hW.size) h.size)) (fun W' h => hr.below (hb.trans (h.mono hn₀))) (fun W' h => hs.below (hb.trans (h.mono hn₀))) hz J Jx hJ (fun pre x W1 hj hp => hY pre x W1 hj (pre_lt hp)) (cell hB1 h1) (cell hB2 h2) h0

/-- what a round that goes on keeps, where it writes older memory -/
def RK2 (n₀ B1 B2 : Nat) (W W' : World) : Prop := Below n₀ W W' ∧ W'.heap[B1]? = W.heap[B1]? ∧ W'.heap[B2]? = W.heap[B2]?
theorem rk2_t {n₀ B1 B2 : Nat} {A B C : World} (h : RK2 n₀ B1 B2 A B) (k : RK2 n₀ B1 B2 B C) : RK2 n₀ B1 B2 A C := ⟨h.1.trans k.1, k.2.1.trans h.2.1, k.2.2.trans h.2.2⟩
theorem rk2_b {n₀ B1 B2 : Nat} {w : World} (hn : n₀ ≤ w.heap.size) (h1 : B1 < w.heap.size) (h2 : B2 < w.heap.size) (W : World) (l : Nat) (o o' : Obj) (hl : w.heap.size ≤ l) (h : W.heap[l]? = some o) (hc : o.isCells = false) (hw : o.isWalk = false) : RK2 n₀ B1 B2 W (W.putObj l o') :=
 ⟨belowK_b hn W l o o' hl h hc hw, World.putObj_heap_other (by omega), World.putObj_heap_other (by omega)⟩
theorem heap_cell {W W' : World} {B : Nat} (h : W'.heap[B]? = W.heap[B]?) : W'.cell? ⟨B, 0, none⟩ = W.cell? ⟨B, 0, none⟩ := by simp [World.cell?, h]
theorem on_stops2 (n : Nat) (hn : 1 ≤ n) (B1 B2 : Nat) (A : Option Addr) (c : Nat) (L : List InM) (z : Int) (w : World) (hz : L.length ≤ 281474976710656) (hr : Rd w A (L.flatMap inC)) (hs : Sh w) (ws : World) (hws : Below w.heap.size w ws) (l1 : B1 < ws.heap.size) (l2 : B2 < ws.heap.size)
  (h1 : ws.cell? ⟨B1, 0, none⟩ = some (.slice A L.length c)) (h2 : ws.cell? ⟨B2, 0, none⟩ = some (.int .i64 z)) :
  SeqStopsK Fence.wide n Tryd.prog 42 #[.pointer (some ⟨B1, 0, none⟩), .pointer (some ⟨B2, 0, none⟩)] encP (RK2 w.heap.size B1 B2) (fun ys => ys = onL (L.map (·.i)) z) (fun pre => pre <+: onL (L.map (·.i)) z) (onL (L.map (·.i)) z).length ws := fun l J Jx W hW hJ _ hY h0 => by
 have hb : Below w.heap.size w W := hws.trans (hW.mono hws.size)
 have l3 := hW.size
 exact on1_in n hn l B1 B2 (RK2 w.heap.size B1 B2) A c L z W ⟨Below.refl _ _, rfl, rfl⟩ rk2_t
  (fun X Y h k => ⟨k.mono (Nat.le_trans hb.size h.1.size), k.block B1 (by have := h.1.size; omega), k.block B2 (by have := h.1.size; omega)⟩)
  (fun W' h => hr.below (hb.trans h.1)) (fun W' h => hs.below (hb.trans h.1)) hz J Jx hJ (fun pre x W1 hj hp => hY pre x W1 hj (pre_lt hp))
  (fun W' h => (heap_cell h.2.1).trans ((hW.cell (p := ⟨B1, 0, none⟩) l1).trans h1)) (fun W' h => (heap_cell h.2.2).trans ((hW.cell (p := ⟨B2, 0, none⟩) l2).trans h2)) h0
/-- the same, each number known to be among those -/
theorem on_stops3 (n : Nat) (hn : 1 ≤ n) (B1 B2 : Nat) (A : Option Addr) (c : Nat) (L : List InM) (z : Int) (O : List Int) (hO : O = onL (L.map (·.i)) z) (w : World) (hz : L.length ≤ 281474976710656) (hr : Rd w A (L.flatMap inC)) (hs : Sh w) (ws : World) (hws : Below w.heap.size w ws) (l1 : B1 < ws.heap.size) (l2 : B2 < ws.heap.size)
  (h1 : ws.cell? ⟨B1, 0, none⟩ = some (.slice A L.length c)) (h2 : ws.cell? ⟨B2, 0, none⟩ = some (.int .i64 z)) :
  SeqStopsK Fence.wide n Tryd.prog 42 #[.pointer (some ⟨B1, 0, none⟩), .pointer (some ⟨B2, 0, none⟩)] (fun x : {x : Int // x ∈ O} => encP x.1) (RK2 w.heap.size B1 B2) (fun ys => ys.map (·.1) = O) (fun pre => pre.map (·.1) <+: O) O.length ws := fun l J Jx W hW hJ _ hY h0 => by
 subst hO
 have hb : Below w.heap.size w W := hws.trans (hW.mono hws.size)
 have l3 := hW.size
 refine (on1_in n hn l B1 B2 (RK2 w.heap.size B1 B2) A c L z W ⟨Below.refl _ _, rfl, rfl⟩ rk2_t
  (fun X Y h k => ⟨k.mono (Nat.le_trans hb.size h.1.size), k.block B1 (by have := h.1.size; omega), k.block B2 (by have := h.1.size; omega)⟩)
  (fun W' h => hr.below (hb.trans h.1)) (fun W' h => hs.below (hb.trans h.1)) hz (fun pre W' => ∃ q : List {x : Int // x ∈ onL (L.map (·.i)) z}, q.map (·.1) = pre ∧ J q W') (fun pre W' => ∃ q : List {x : Int // x ∈ onL (L.map (·.i)) z}, q.map (·.1) = pre ∧ Jx q W')
  (fun s A B row hs' hg hr' => by obtain ⟨q, hq, hj⟩ := hs'; exact ⟨q, hq, hJ q A B row hj hg hr'⟩) ?_
  (fun W' h => (heap_cell h.2.1).trans ((hW.cell (p := ⟨B1, 0, none⟩) l1).trans h1)) (fun W' h => (heap_cell h.2.2).trans ((hW.cell (p := ⟨B2, 0, none⟩) l2).trans h2)) ⟨[], rfl, h0⟩).mono ?_
 ·rintro pre x W1 ⟨q, rfl, hj⟩ hp
  have hx : x ∈ onL (L.map (·.i)) z := hp.subset (by simp)
  refine YieldAt.mono (hY q ⟨x, hx⟩ W1 hj (by have := pre_lt hp; rwa [List.length_map] at this)) ?_
  rintro e W' (⟨g1, g2, g3⟩ | ⟨g1, g2⟩)
  ·exact .inl ⟨g1, ⟨_, by simp, g2⟩, g3⟩
  ·exact .inr ⟨g1, ⟨_, by simp, g2⟩⟩
 ·rintro e W' ⟨hv, (⟨ys, rfl, q, hq, hj⟩ | ⟨pre, hp, q, rfl, hj⟩)⟩
  ·exact ⟨hv, .inl ⟨q, hq, hj⟩⟩
  ·exact ⟨hv, .inr ⟨q, hp, hj⟩⟩
end Go.Proofs.YtnmnnokdoiagkaaDoor.flow

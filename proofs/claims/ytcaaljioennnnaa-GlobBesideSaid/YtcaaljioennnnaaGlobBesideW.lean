/-
 GlobBeside: the law's walk.
-/
import Derived.Test.YtcaaljioennnnaaGlobPlainW
namespace Go.Proofs.Ytcaaljioennnnaa.globBeside
open Go.RowKit
open Go.Proofs.Ytcaaljioennnnaa.words Go.Proofs.Ytcaaljioennnnaa.glob
set_option linter.all false
theorem lb_app (a b : ByteArray) : lb (a ++ b) = lb a ++ lb b := by unfold lb; rw [ByteArray.data_append, Array.toList_append]
theorem app_size (a b : ByteArray) : (a ++ b).size = a.size + b.size := ByteArray.size_append
/-- a cut ahead of the k-th at which both match their parts -/
def besL (P Q S : List UInt8) (k : Nat) : Bool := (List.range k).any fun i => mat P (S.take i) && mat Q (S.drop i)
theorem besL_next (P Q S k) : besL P Q S (k + 1) = (besL P Q S k || mat P (S.take k) && mat Q (S.drop k)) := by unfold besL; rw [List.range_succ, List.any_append]; simp
theorem besL_all (P Q S : List UInt8) : besL P Q S (S.length + 1) = mat (P ++ Q) S := by
 rw [Bool.eq_iff_iff, mat_app]
 unfold besL
 rw [List.any_eq_true]
 constructor
 ·rintro ⟨i, -, h⟩
  rw [Bool.and_eq_true] at h
  exact ⟨_, _, (List.take_append_drop i S).symm, h.1, h.2⟩
 ·rintro ⟨u, v, rfl, h1, h2⟩
  refine ⟨u.length, List.mem_range.2 (by simp; omega), ?_⟩
  rw [List.take_left' rfl, List.drop_left' rfl, h1, h2]; rfl
set_option maxRecDepth 100000 in
set_option maxHeartbeats 8000000 in
theorem walk (p0 : ByteArray) (q0 : ByteArray) (s0 : ByteArray) (w : World) (hp : p0.size ≤ 140737488351232) (hq : q0.size ≤ 140737488351232) (hs : s0.size ≤ 140737488351232) :
  Calls Try.prog 5 #[.string p0, .string q0, .string s0] w fun e w' => e = .returned (.bool true) ∧ Below w.heap.size w w' := by
 have C0 := Lib.hid (fun w => cut_w p0 w hp)
 have p8 := cutB_size p0
 obtain ⟨p, hpc⟩ : ∃ p, p = cutB p0 := ⟨_, rfl⟩
 rw [← hpc] at C0 p8
 have C1 := Lib.hid (fun w => cut_w q0 w hq)
 have q8 := cutB_size q0
 obtain ⟨q, hqc⟩ : ∃ q, q = cutB q0 := ⟨_, rfl⟩
 rw [← hqc] at C1 q8
 have C2 := Lib.hid (fun w => cut_w s0 w hs)
 have s8 := cutB_size s0
 obtain ⟨s, hsc⟩ : ∃ s, s = cutB s0 := ⟨_, rfl⟩
 rw [← hsc] at C2 s8
 clear hpc hp hqc hq hsc hs
 have p8I : (p.size : Int) ≤ 80 := by omega
 have q8I : (q.size : Int) ≤ 80 := by omega
 have s8I : (s.size : Int) ≤ 80 := by omega
 have LV := Lib.hid (fun w => live_w w)
 have M3 := Lib.hid (fun w => (show Calls Try.prog 14 #[.string (p ++ q), .string s] w fun e w' => e = .returned (.bool (mat (lb p ++ lb q) (lb s))) ∧ Below w.heap.size w w' from by
  have h := match_w (p ++ q) s w (by rw [app_size]; omega) (by omega)
  rw [lb_app] at h
  exact h))
 have hz1 : ¬ 9223372036854775807 < p.size + q.size := by omega
 have HSL := Lib.hid (lb_len s)
 have MP := Lib.hid (fun (x : ByteArray) (w : World) hx => match_w p x w (by omega) hx)
 have MQ := Lib.hid (fun (x : ByteArray) (w : World) hx => match_w q x w (by omega) hx)
 have HS8 := Lib.hid s8
 have B0 := Lib.hid (Below.refl w.heap.size w)
 go_enter Try.func5, Try.ntmps5
 go_wp2_with fail
 refine (C0.out _).mono ?_
 rintro e x1 ⟨rfl, hw⟩; subst hw
 clear C0
 go_wp2_with fail
 refine (C1.out _).mono ?_
 rintro e x1 ⟨rfl, hw⟩; subst hw
 clear C1
 go_wp2_with fail
 refine (C2.out _).mono ?_
 rintro e x1 ⟨rfl, hw⟩; subst hw
 clear C2
 go_wp2
 go_loopw [7, 8] (fun f i wr => ∃ k : Nat, i = .int .i64 (k : Int) ∧ k ≤ s.size + 1 ∧ f = .bool (besL (lb p) (lb q) (lb s) k) ∧ Below x1.heap.size x1 wr) (fun _ i _ => s.size + 1 - (intOf i).toNat)
 case atStart => exact ⟨0, rfl, by omega, rfl, Below.refl _ _⟩
 case round =>
  obtain ⟨k, rfl, hk, rfl, hb⟩ := hrel
  have K0 := Lib.hid hb
  clear hb
  have HX := Lib.hid (besL_next (lb p) (lb q) (lb s) k)
  by_cases hlt : k ≤ s.size
  ·have hltI : (k : Int) ≤ (s.size : Int) := by omega
   have M1 := Lib.hid (fun w => MP.out (s.extract 0 k) w (ex_size _ _ _ (by have := HS8.out; omega)))
   have M2 := Lib.hid (fun w => MQ.out (s.extract k s.size) w (ex_size _ _ _ (by have := HS8.out; omega)))
   rw [lb_head] at M1
   rw [lb_tail] at M2
   cases hs : besL (lb p) (lb q) (lb s) k with
   | true =>
    rw [hs, Bool.true_or] at HX
    clear hs M1 M2
    go_wp2
    go_roundw
    case rel => exact ⟨k + 1, by go_num, by omega, by rw [HX.out], K0.out⟩
    case measure => simp [intOf]; omega
   | false =>
    rw [hs, Bool.false_or] at HX
    cases h1 : mat (lb p) ((lb s).take k) with
    | false =>
     rw [h1] at M1 HX
     rw [Bool.false_and] at HX
     clear hs h1 M2
     go_wp2_with fail
     refine (M1.out _).mono ?_
     rintro e y1 ⟨rfl, hb⟩
     have K1 := Lib.hid (K0.out.trans (hb.mono K0.out.size))
     clear hb
     go_wp2
     go_roundw
     case rel => exact ⟨k + 1, by go_num, by omega, by rw [HX.out], K1.out⟩
     case measure => simp [intOf]; omega
    | true =>
     rw [h1] at M1 HX
     rw [Bool.true_and] at HX
     clear hs h1
     go_wp2_with fail
     refine (M1.out _).mono ?_
     rintro e y1 ⟨rfl, hb⟩
     have K1 := Lib.hid (K0.out.trans (hb.mono K0.out.size))
     clear hb
     go_wp2_with fail
     refine (M2.out _).mono ?_
     rintro e y2 ⟨rfl, hb⟩
     have K2 := Lib.hid (K1.out.trans (hb.mono K1.out.size))
     clear hb
     go_wp2
     go_roundw
     case rel => exact ⟨k + 1, by go_num, by omega, by rw [HX.out], K2.out⟩
     case measure => simp [intOf]; omega
  ·have hltI : ¬ (k : Int) ≤ (s.size : Int) := by omega
   have HE := Lib.hid (besL_all (lb p) (lb q) (lb s))
   rw [HSL.out, ← show k = s.size + 1 by omega] at HE
   obtain ⟨b, hb⟩ : ∃ b, b = mat (lb p ++ lb q) (lb s) := ⟨_, rfl⟩
   rw [← hb] at HE M3
   rw [HE.out]
   have B1 := Lib.hid (B0.out.trans (K0.out.mono B0.out.size))
   clear hb HX HE
   go_wp2_with fail
   refine (LV.out _).mono ?_
   rintro e x2 ⟨rfl, hb⟩
   have B2 := Lib.hid (then' B1.out hb)
   clear hb LV
   go_wp2_with fail
   refine (M3.out _).mono ?_
   rintro e x3 ⟨rfl, hb⟩
   have B3 := Lib.hid (then' B2.out hb)
   clear hb M3
   go_wp2
   go_ret
   exact ⟨by simp, B3.out⟩
end Go.Proofs.Ytcaaljioennnnaa.globBeside

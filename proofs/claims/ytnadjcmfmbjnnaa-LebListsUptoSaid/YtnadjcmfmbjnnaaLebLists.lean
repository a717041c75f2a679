/-
  Numbers one behind the other are told apart again, and bytes that are split are joined as they were: the law LebLists answers true for every numbers and bytes of bulk at most 1048576 together.
-/
import Derived.Test.YtnadjcmfmbjnnaaFrame
import Derived.Test.YtnadjcmfmbjnnaaLebListsW
import Derived.Deep.CondSized
import Derived.JoinedCond
namespace Go.Proofs.Ytnadjcmfmbjnnaa.lebLists
open Go.ChangeShapes Go.WideShapes Go.ChangeAt Go.RowKit
open Go.Proofs.Ytnadjcmfmbjnnaa.words Go.Proofs.Ytnadjcmfmbjnnaa.frame

set_option maxRecDepth 100000 in
theorem lifted (os : Os) (started : os.Started) (H : Type) (enc : TypeId × Value → H) (F : Stop.Interp) :
    ReturnsInHanded {} Try.checked os 6 .any ((Rows.OpenSpec.upto Rows.lebListsSpec).pre6 enc Try.prog Try.f6 Rows.lebListsUptoRow.domain false) (((Rows.OpenSpec.upto Rows.lebListsSpec).at F).post enc Try.prog Try.f6 false true false false) := by
  refine returnsInHanded_of_cond_sized (C := Try.checked) (s := (Rows.OpenSpec.upto Rows.lebListsSpec)) (k := Rows.uptoSmall) rfl own started (by kernel_rfl) Try.func6
    (OpenSpec.witness (enc := enc) (C := Try.checked) (s := (Rows.OpenSpec.upto Rows.lebListsSpec)) (k := Rows.uptoSmall) rfl false ⟨#[], #[.slice none 0 0, .slice none 0 0], []⟩ 8 (by kernel_rfl) (by kernel_rfl) (by kernel_rfl)
      (x := ([.nil, .nil], [], [])) (by kernel_rfl) rfl (by kernel_rfl)) ?_
  intro W base args ds gs before hval0 hW _ hcond hz _
  have hval : ∀ (j : Nat) t v, Try.f6.params[j]? = some t → args[j]? = some v → Value.okWide Try.prog W .any base t v := hval0
  have hW' := hW
  obtain ⟨p, q, hA0, hV, rfl, hfz, hnd⟩ := hW
  have hA : DataW.TrodAll enc Try.prog W 0 (fun _ => true) true Try.f6.params.toList args.toList ds p := hA0
  rw [Try.params6] at hA hval
  obtain ⟨v0, vs0, d0, ds0, p0, q0, hargs, rfl, rfl, h0, r0⟩ := trodAll_cons hA
  obtain ⟨v1, vs1, d1, ds1, p1, q1, rfl, rfl, rfl, h1, r1⟩ := trodAll_cons r0
  obtain ⟨rfl, rfl, rfl⟩ := trodAll_nil r1
  obtain rfl : args = #[v0, v1] := by cases args; simp_all
  obtain ⟨rfl, rfl⟩ := trodVars_none hV
  have k0 := h0
  have lt0 : ∀ x ∈ p0, x.block < W.heap.size := by obtain ⟨m, hm⟩ := k0; exact DataW.trod_lt m _ _ _ hm
  obtain ⟨A0, n0, c0, l0, rfl, nc0, ln0, by0, rd0, dd0⟩ := open_nums (hval 0 36 v0 rfl rfl) h0
  have rc0 := reach hz (j := 0) (t := 36) rfl rfl Try.underlying36 (by kernel_rfl : Try.prog.bytesOf 22 = 8) nc0 dd0
  have up0 := bulk_slice nc0 dd0
  have k1 := h1
  have lt1 : ∀ x ∈ p1, x.block < W.heap.size := by obtain ⟨m, hm⟩ := k1; exact DataW.trod_lt m _ _ _ hm
  obtain ⟨A1, n1, c1, l1, rfl, nc1, ln1, by1, rd1, dd1⟩ := open_bytes (hval 1 23 v1 rfl rfl) h1
  have rc1 := reach hz (j := 1) (t := 23) rfl rfl Try.underlying23 (by kernel_rfl : Try.prog.bytesOf 5 = 1) nc1 dd1
  have up1 := bulk_slice nc1 dd1
  have hb := bulk_all hcond
  simp only [List.append_nil, Rows.uptoBulkAll] at hb
  have hsum : n0 + n1 ≤ 1048576 := by omega
  clear hA0
  refine (walk A0 n0 c0 l0 A1 n1 c1 l1 W rd0 ln0 nc0 by0 rc0 rd1 ln1 nc1 by1 rc1 hsum).mono fun e W' ⟨he, bel⟩ => ?_
  subst he
  exact ⟨_, rfl, _, _, _, [], _, [], hW', trodAll_mk1 (shut_bool Try.underlying4 _), (trodAll_cons_mk (Below.trod laidOut (by kernel_rfl) (of_decide_eq_true (by kernel_rfl)) k0 bel lt0) (trodAll_cons_mk (Below.trod laidOut (by kernel_rfl) (of_decide_eq_true (by kernel_rfl)) k1 bel lt1) trodAll_mk0)), rfl, bel.frame _, fun h => by cases h⟩

theorem said : Rows.LebListsUptoSaid :=
  OpenClaim.holds_of_cond 6 Try.f6 rfl rfl rfl rfl rfl rfl rfl ⟨rfl, rfl, rfl, rfl, rfl⟩ rfl rfl rfl rfl rfl (by kernel_rfl) Try.func6 (by kernel_rfl)
    (of_decide_eq_true (by kernel_rfl)) (by unfold Func.isWrapper; first | (rw [if_pos (by decide +kernel)]; kernel_rfl) | (rw [if_neg (by decide +kernel)]; exact ⟨rfl, rfl⟩))
    (fun os started H enc _ F => lifted os started H enc F)
#print axioms said
end Go.Proofs.Ytnadjcmfmbjnnaa.lebLists

/-
 Layer 6: whether a type can be, and its text: the program's answers.
-/
import Derived.Test.YtgpfohpmgbnimaaKind
namespace Go.Proofs.Ytgpfohpmgbnimaa.kind
open Go.RowKit
open words kindp word

theorem app_mk (a b : Tx) : (⟨a.toArray⟩ : ByteArray) ++ ⟨b.toArray⟩ = ⟨(a ++ b).toArray⟩ := by
 apply ByteArray.ext; rw [ByteArray.data_append]; simp
theorem right_has {k : Int} {c : Tx} (h : hasB k = true) : rightT (k, c) = clsB c := by unfold rightT; rw [if_pos h]
theorem right_no {k : Int} {c : Tx} (h : hasB k = false) : rightT (k, c) = decide ((k = 1 ∨ k = 2 ∨ k = 4) ∧ c = []) := by unfold rightT; rw [if_neg (by rw [h]; simp)]

theorem text_has {k : Int} {c : Tx} (h : hasB k = true) (hc : clsB c = true) : textT (k, c) = signL k ++ c ++ [59] := by
 unfold textT; rw [right_has h, if_pos hc, if_pos h]
theorem text_no {k : Int} {c : Tx} (h : hasB k = false) (hr : rightT (k, c) = true) : textT (k, c) = signL k := by
 unfold textT; rw [if_pos hr, if_neg (by rw [h]; simp)]
theorem text_bad {t : Ty} (h : rightT t = false) : textT t = [] := by unfold textT; rw [if_neg (by rw [h]; simp)]
theorem sign_len (k : Int) : (signL k).length ≤ 2 := by unfold signL; (repeat' split) <;> simp
theorem text_le (t : Ty) : (textT t).length ≤ 35 := by
 cases hr : rightT t with
 | false => rw [text_bad hr]; simp
 | true =>
  obtain ⟨k, c⟩ := t
  cases hb : hasB k with
  | false => rw [text_no hb hr]; have := sign_len k; omega
  | true =>
   rw [right_has hb] at hr
   rw [text_has hb hr]
   have := sign_len k; have := (cls_no hr).2.2
   simp; omega

end Go.Proofs.Ytgpfohpmgbnimaa.kind

/-
 Layer 22: rules that are written are read as they were; a text that is read is written so.
-/
import Derived.Test.YtcaaljioennnnabDoorRulG
namespace Go.Proofs.YtcaaljioennnnabDoor.rul
open Go.RowKit
open Go.Proofs.YtcaaljioennnnabDoor.words Go.Proofs.YtcaaljioennnnabDoor.glob Go.Proofs.YtcaaljioennnnabDoor.texts Go.Proofs.YtcaaljioennnnabDoor.piece Go.Proofs.YtcaaljioennnnabDoor.word Go.Proofs.YtcaaljioennnnabDoor.backL
set_option linter.all false
theorem okL_app (a b : List UInt8) : okL (a ++ b) = (okL a && okL b) := by unfold okL; rw [List.all_append]
theorem okL_tail : ∀ l : List (List UInt8), (∀ y ∈ l, okL y = true) → okL (Lib.joinTail [32] l) = true
 | [], _ => rfl
 | x :: l, h => by
  have ih := okL_tail l fun y hy => h y (List.mem_cons_of_mem _ hy)
  unfold Lib.joinTail at ih ⊢
  rw [List.map_cons, List.flatten_cons, okL_app, okL_app, ih, h x List.mem_cons_self]; rfl
theorem okL_join {l : List (List UInt8)} (h : ∀ y ∈ l, okL y = true) : okL (Lib.join l [32]) = true := by
 cases l with
 | nil => rfl
 | cons x l => rw [Lib.join_cons, okL_app, h x List.mem_cons_self, okL_tail l fun y hy => h y (List.mem_cons_of_mem _ hy)]; rfl
theorem okL_right {p : List UInt8} (h : rightG p = true) : okL p = true := by
 unfold rightG at h
 simp only [Bool.and_eq_true, List.all_eq_true, decide_eq_true_eq] at h
 unfold okL
 rw [List.all_eq_true]
 intro c hc
 have := h.1 c hc
 simp only [decide_eq_true_eq]; omega
theorem line_okL {r : Ru} (h : rightR r = true) : okL (lineR r) = true := by
 unfold lineR
 apply okL_join
 obtain ⟨nb, me, cl, nm, ds⟩ := r
 simp only [rightR, Bool.and_eq_true] at h
 have h1 := okL_right h.1
 intro y hy
 cases me
 ·simp [fieldsR] at hy
  rcases hy with rfl | rfl | rfl
  ·cases nb <;> rfl
  ·decide
  ·exact h1
 ·have h2 := h.2
  simp only [if_true, Bool.and_eq_true] at h2
  simp [fieldsR] at hy
  rcases hy with rfl | rfl | rfl | rfl | rfl
  ·cases nb <;> rfl
  ·decide
  ·exact h1
  ·exact okL_right h2.1
  ·exact okL_right h2.2
theorem parse_print {L : List Ru} (h : L.all rightR = true) (hl : L.length ≤ 64) : parseS ⟨(textL (L.map lineR)).toArray⟩ = (L, 0, 0) := by
 have hok : okAll (LB L) = true := by
  unfold okAll LB
  rw [List.all_eq_true]
  intro x hx
  obtain ⟨y, hy, rfl⟩ := List.mem_map.1 hx
  obtain ⟨r, hr, rfl⟩ := List.mem_map.1 hy
  have := line_okL (List.all_eq_true.1 h r hr)
  simpa using this
 have hlen := print_len L h
 have ht := text_len (LB L)
 rw [LB_D] at ht
 obtain ⟨h1, h2⟩ := lines_back hok (by rw [← ht]; omega)
 rw [LB_D] at h1 h2
 unfold parseS
 rw [if_pos h1, h2]
 have hm : (LB L).map lb = L.map lineR := by
  unfold LB
  rw [List.map_map, List.map_map]
  apply List.map_congr_left
  intro r _
  exact lb_mk _
 rw [hm]
 exact parseG_lines L 0 h (by omega)
theorem print_parse {s : ByteArray} {L : List Ru} {k : Nat} (h : parseS s = (L, 0, k)) : L.all rightR = true ∧ L.length ≤ 64 ∧ (⟨(textL (L.map lineR)).toArray⟩ : ByteArray) = s := by
 unfold parseS at h
 split at h
 ·rename_i he
  obtain ⟨h1, h2, h3⟩ := parseG_ok _ 0 L k h
  refine ⟨h1, by omega, ?_⟩
  rw [h2]
  have e : (lineTx s).map lb = D (lineTx s) := rfl
  rw [e]
  exact text_back he
 ·rename_i he
  simp only [Prod.mk.injEq] at h
  exact absurd h.2.1 he
/-- with an error there are no rules -/
theorem parse_err {s : ByteArray} (h : ¬ (parseS s).2.1 = 0) : (parseS s).1 = [] := by
 unfold parseS at h ⊢
 split
 ·rename_i he
  rw [if_pos he] at h
  exact (parseG_zero _ 0).2 h
 ·rfl
theorem parse_at {s : ByteArray} (h : (parseS s).2.1 = 0) : (parseS s).2.2 = 0 := by
 unfold parseS at h ⊢
 split
 ·rename_i he
  rw [if_pos he] at h
  exact (parseG_zero _ 0).1 h
 ·rename_i he
  rw [if_neg he] at h
  exact absurd h he
end Go.Proofs.YtcaaljioennnnabDoor.rul

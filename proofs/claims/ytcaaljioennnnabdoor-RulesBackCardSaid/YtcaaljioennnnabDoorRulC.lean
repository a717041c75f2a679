/-
 Layer 22: rules in memory; a rule's line: the program's answer.
-/
import Derived.Test.YtcaaljioennnnabDoorRulB
import Derived.Test.YtcaaljioennnnabDoorLine
namespace Go.Proofs.YtcaaljioennnnabDoor.rul
open Go.RowKit
open Go.Proofs.YtcaaljioennnnabDoor.words Go.Proofs.YtcaaljioennnnabDoor.glob Go.Proofs.YtcaaljioennnnabDoor.texts Go.Proofs.YtcaaljioennnnabDoor.piece Go.Proofs.YtcaaljioennnnabDoor.word
set_option linter.all false
/-- a rule's cells -/
def ruC (r : Ru) : List Value := [.bool r.nb, .bool r.me, .string ⟨r.cl.toArray⟩, .string ⟨r.nm.toArray⟩, .string ⟨r.ds.toArray⟩]
theorem rflat_len : ∀ l : List Ru, (l.flatMap ruC).length = l.length * 5
 | [] => rfl
 | x :: l => by rw [List.flatMap_cons, List.length_append, rflat_len l, List.length_cons, Nat.succ_mul, Nat.add_comm]; rfl
theorem rflat_at : ∀ {l : List Ru} {i : Nat} {x : Ru} {t : Nat} {u : Value}, l[i]? = some x → (ruC x)[t]? = some u → (l.flatMap ruC)[i * 5 + t]? = some u
 | [], i, x, t, u, h, _ => by simp at h
 | y :: l, 0, x, t, u, h, hu => by
  cases h
  rw [List.flatMap_cons, Nat.zero_mul, Nat.zero_add, List.getElem?_append_left (List.getElem?_eq_some_iff.1 hu).1]
  exact hu
 | y :: l, i + 1, x, t, u, h, hu => by
  have hl : (ruC y).length = 5 := rfl
  rw [List.flatMap_cons, List.getElem?_append_right (by rw [hl, Nat.succ_mul]; omega), hl, show (i + 1) * 5 + t - 5 = i * 5 + t by rw [Nat.succ_mul]; omega]
  exact rflat_at (by simpa using h) hu
theorem ru_at {w : World} {A : Option Addr} {l : List Ru} (h : Rd w A (l.flatMap ruC)) {i : Nat} {x : Ru} (hi : l[i]? = some x) : ∃ a, A = some a ∧ a.block < w.heap.size ∧ w.cell? (a.add (i * 5)) = some (.bool x.nb) ∧
  w.cell? ⟨(a.add (i * 5)).block, (a.add (i * 5)).off + 1, none⟩ = some (.bool x.me) ∧ w.cell? ⟨(a.add (i * 5)).block, (a.add (i * 5)).off + 2, none⟩ = some (.string ⟨x.cl.toArray⟩) ∧ w.cell? ⟨(a.add (i * 5)).block, (a.add (i * 5)).off + 3, none⟩ = some (.string ⟨x.nm.toArray⟩) ∧ w.cell? ⟨(a.add (i * 5)).block, (a.add (i * 5)).off + 4, none⟩ = some (.string ⟨x.ds.toArray⟩) := by
 obtain ⟨a, rfl, hb, h0⟩ := h.at_ (rflat_at (t := 0) hi rfl)
 have hh : ∀ t u, 0 < t → (ruC x)[t]? = some u → w.cell? ⟨(a.add (i * 5)).block, (a.add (i * 5)).off + t, none⟩ = some u := fun t u ht hu => by
  obtain ⟨a', e, -, hc⟩ := h.at_ (rflat_at (t := t) hi hu)
  cases e
  rw [← add_add] at hc
  have e2 : (a.add (i * 5)).add t = ⟨(a.add (i * 5)).block, (a.add (i * 5)).off + t, none⟩ := by rw [Addr.add, if_neg (by omega)]
  rw [e2] at hc
  exact hc
 exact ⟨a, rfl, hb, h0, hh 1 _ (by omega) rfl, hh 2 _ (by omega) rfl, hh 3 _ (by omega) rfl, hh 4 _ (by omega) rfl⟩
theorem D_mk (l : List (List UInt8)) : D (l.map fun x => (⟨x.toArray⟩ : ByteArray)) = l := by simp [D, Function.comp_def]
theorem S_mk (l : List (List UInt8)) : texts.S (l.map fun x => (⟨x.toArray⟩ : ByteArray)) = l.map fun x => Value.string ⟨x.toArray⟩ := by simp [texts.S, Function.comp_def]
theorem tail_len (r : List (List UInt8)) : (Lib.joinTail [32] r).length = (r.map List.length).sum + r.length := by
 induction r with
 | nil => rfl
 | cons x r ih =>
  unfold Lib.joinTail at ih ⊢
  rw [List.map_cons, List.flatten_cons, List.length_append, ih, List.map_cons, List.sum_cons, List.length_append, List.length_cons, List.length_cons, List.length_nil]
  omega
theorem join_len (l : List (List UInt8)) : (Lib.join l [32]).length ≤ (l.map List.length).sum + l.length := by
 cases l with
 | nil => simp [Lib.join]
 | cons x r => rw [Lib.join_cons, List.length_append, tail_len, List.map_cons, List.sum_cons, List.length_cons]; omega
theorem line_len (r : Ru) (h : rightR r = true) : (lineR r).length ≤ 300 := by
 unfold lineR
 have := join_len (fieldsR r)
 obtain ⟨nb, me, cl, nm, ds⟩ := r
 unfold rightR at h
 simp only [Bool.and_eq_true] at h
 have h1 := right_len h.1
 cases me
 ·have h2 := h.2
  simp at h2
  obtain ⟨rfl, rfl⟩ := h2
  cases nb <;> simp [fieldsR, wKeep, wKeepname, wClass, wMember] at this ⊢ <;> omega
 ·have h2 := h.2
  simp only [if_true, Bool.and_eq_true] at h2
  have h3 := right_len h2.1; have h4 := right_len h2.2
  cases nb <;> simp [fieldsR, wKeep, wKeepname, wClass, wMember] at this ⊢ <;> omega
set_option maxRecDepth 100000 in
set_option maxHeartbeats 8000000 in
theorem line_y (nb : Bool) (c n d : List UInt8) (w : World) (h : rightR ⟨nb, true, c, n, d⟩ = true) : Calls Tryd.prog 26 #[.agg #[.bool nb, .bool true, .string ⟨c.toArray⟩, .string ⟨n.toArray⟩, .string ⟨d.toArray⟩]] w fun e w' => e = .returned (.string ⟨(lineR ⟨nb, true, c, n, d⟩).toArray⟩) ∧ Below w.heap.size w w' := by
 have hl := line_len _ h
 unfold lineR at hl ⊢
 have HL := Lib.hid (fun (A : Option Addr) (c0 : Nat) (w : World) hr hA hc => line_w A c0 ((fieldsR ⟨nb, true, c, n, d⟩).map fun x => (⟨x.toArray⟩ : ByteArray)) w hr hA hc (by unfold joinB; rw [D_mk]; omega) (by simp [fieldsR]))
 unfold joinB at HL
 rw [D_mk, show ((fieldsR ⟨nb, true, c, n, d⟩).map fun x => (⟨x.toArray⟩ : ByteArray)).length = 5 from rfl] at HL
 obtain ⟨z, hz⟩ : ∃ z, z = Lib.join (fieldsR ⟨nb, true, c, n, d⟩) [32] := ⟨_, rfl⟩
 rw [← hz] at HL ⊢
 clear hz h hl
 cases nb
 ·have hr0 := rd_blk (heap_alloc_new (w.alloc (.cells #[.bool false, .bool true, .string ⟨c.toArray⟩, .string ⟨n.toArray⟩, .string ⟨d.toArray⟩] 23)) (.cells #[.string ⟨#[107, 101, 101, 112]⟩, .string ⟨#[109, 101, 109, 98, 101, 114]⟩, .string ⟨c.toArray⟩, .string ⟨n.toArray⟩, .string ⟨d.toArray⟩] 9)) (k := 5) (xs := texts.S ((fieldsR ⟨false, true, c, n, d⟩).map fun x => (⟨x.toArray⟩ : ByteArray))) rfl
  rw [World.size_alloc] at hr0
  have HR := Lib.hid hr0
  clear hr0
  have B0 := Lib.hid ((Below.refl w.heap.size w).alloc (Nat.le_refl _) (.cells #[.bool false, .bool true, .string ⟨c.toArray⟩, .string ⟨n.toArray⟩, .string ⟨d.toArray⟩] 23))
  have B1 := Lib.hid (B0.out.alloc B0.out.size (.cells #[.string ⟨#[107, 101, 101, 112]⟩, .string ⟨#[109, 101, 109, 98, 101, 114]⟩, .string ⟨c.toArray⟩, .string ⟨n.toArray⟩, .string ⟨d.toArray⟩] 9))
  go_enter Tryd.func26, Tryd.ntmps26
  go_wp2_with fail
  refine (HL.out _ 5 _ HR.out (.inr ⟨_, _, rfl⟩) (Nat.le_refl _)).mono ?_
  rintro e w1 ⟨rfl, hb⟩
  have B2 := Lib.hid (then' B1.out hb)
  clear hb HR HL
  go_wp2
  go_ret
  exact ⟨rfl, B2.out⟩
 ·have hr0 := rd_blk (heap_alloc_new (w.alloc (.cells #[.bool true, .bool true, .string ⟨c.toArray⟩, .string ⟨n.toArray⟩, .string ⟨d.toArray⟩] 23)) (.cells #[.string ⟨#[107, 101, 101, 112, 110, 97, 109, 101]⟩, .string ⟨#[109, 101, 109, 98, 101, 114]⟩, .string ⟨c.toArray⟩, .string ⟨n.toArray⟩, .string ⟨d.toArray⟩] 9)) (k := 5) (xs := texts.S ((fieldsR ⟨true, true, c, n, d⟩).map fun x => (⟨x.toArray⟩ : ByteArray))) rfl
  rw [World.size_alloc] at hr0
  have HR := Lib.hid hr0
  clear hr0
  have B0 := Lib.hid ((Below.refl w.heap.size w).alloc (Nat.le_refl _) (.cells #[.bool true, .bool true, .string ⟨c.toArray⟩, .string ⟨n.toArray⟩, .string ⟨d.toArray⟩] 23))
  have B1 := Lib.hid (B0.out.alloc B0.out.size (.cells #[.string ⟨#[107, 101, 101, 112, 110, 97, 109, 101]⟩, .string ⟨#[109, 101, 109, 98, 101, 114]⟩, .string ⟨c.toArray⟩, .string ⟨n.toArray⟩, .string ⟨d.toArray⟩] 9))
  go_enter Tryd.func26, Tryd.ntmps26
  go_wp2_with fail
  refine (HL.out _ 5 _ HR.out (.inr ⟨_, _, rfl⟩) (Nat.le_refl _)).mono ?_
  rintro e w1 ⟨rfl, hb⟩
  have B2 := Lib.hid (then' B1.out hb)
  clear hb HR HL
  go_wp2
  go_ret
  exact ⟨rfl, B2.out⟩
set_option maxRecDepth 100000 in
set_option maxHeartbeats 8000000 in
theorem line_n (nb : Bool) (c n d : List UInt8) (w : World) (h : rightR ⟨nb, false, c, n, d⟩ = true) : Calls Tryd.prog 26 #[.agg #[.bool nb, .bool false, .string ⟨c.toArray⟩, .string ⟨n.toArray⟩, .string ⟨d.toArray⟩]] w fun e w' => e = .returned (.string ⟨(lineR ⟨nb, false, c, n, d⟩).toArray⟩) ∧ Below w.heap.size w w' := by
 have hl := line_len _ h
 unfold lineR at hl ⊢
 have HL := Lib.hid (fun (A : Option Addr) (c0 : Nat) (w : World) hr hA hc => line_w A c0 ((fieldsR ⟨nb, false, c, n, d⟩).map fun x => (⟨x.toArray⟩ : ByteArray)) w hr hA hc (by unfold joinB; rw [D_mk]; omega) (by simp [fieldsR]))
 unfold joinB at HL
 rw [D_mk, show ((fieldsR ⟨nb, false, c, n, d⟩).map fun x => (⟨x.toArray⟩ : ByteArray)).length = 3 from rfl] at HL
 obtain ⟨z, hz⟩ : ∃ z, z = Lib.join (fieldsR ⟨nb, false, c, n, d⟩) [32] := ⟨_, rfl⟩
 rw [← hz] at HL ⊢
 clear hz h hl
 cases nb
 ·have hr0 := rd_blk (heap_alloc_new (w.alloc (.cells #[.bool false, .bool false, .string ⟨c.toArray⟩, .string ⟨n.toArray⟩, .string ⟨d.toArray⟩] 23)) (.cells #[.string ⟨#[107, 101, 101, 112]⟩, .string ⟨#[99, 108, 97, 115, 115]⟩, .string ⟨c.toArray⟩] 9)) (k := 3) (xs := texts.S ((fieldsR ⟨false, false, c, n, d⟩).map fun x => (⟨x.toArray⟩ : ByteArray))) rfl
  rw [World.size_alloc] at hr0
  have HR := Lib.hid hr0
  clear hr0
  have B0 := Lib.hid ((Below.refl w.heap.size w).alloc (Nat.le_refl _) (.cells #[.bool false, .bool false, .string ⟨c.toArray⟩, .string ⟨n.toArray⟩, .string ⟨d.toArray⟩] 23))
  have B1 := Lib.hid (B0.out.alloc B0.out.size (.cells #[.string ⟨#[107, 101, 101, 112]⟩, .string ⟨#[99, 108, 97, 115, 115]⟩, .string ⟨c.toArray⟩] 9))
  go_enter Tryd.func26, Tryd.ntmps26
  go_wp2_with fail
  refine (HL.out _ 3 _ HR.out (.inr ⟨_, _, rfl⟩) (Nat.le_refl _)).mono ?_
  rintro e w1 ⟨rfl, hb⟩
  have B2 := Lib.hid (then' B1.out hb)
  clear hb HR HL
  go_wp2
  go_ret
  exact ⟨rfl, B2.out⟩
 ·have hr0 := rd_blk (heap_alloc_new (w.alloc (.cells #[.bool true, .bool false, .string ⟨c.toArray⟩, .string ⟨n.toArray⟩, .string ⟨d.toArray⟩] 23)) (.cells #[.string ⟨#[107, 101, 101, 112, 110, 97, 109, 101]⟩, .string ⟨#[99, 108, 97, 115, 115]⟩, .string ⟨c.toArray⟩] 9)) (k := 3) (xs := texts.S ((fieldsR ⟨true, false, c, n, d⟩).map fun x => (⟨x.toArray⟩ : ByteArray))) rfl
  rw [World.size_alloc] at hr0
  have HR := Lib.hid hr0
  clear hr0
  have B0 := Lib.hid ((Below.refl w.heap.size w).alloc (Nat.le_refl _) (.cells #[.bool true, .bool false, .string ⟨c.toArray⟩, .string ⟨n.toArray⟩, .string ⟨d.toArray⟩] 23))
  have B1 := Lib.hid (B0.out.alloc B0.out.size (.cells #[.string ⟨#[107, 101, 101, 112, 110, 97, 109, 101]⟩, .string ⟨#[99, 108, 97, 115, 115]⟩, .string ⟨c.toArray⟩] 9))
  go_enter Tryd.func26, Tryd.ntmps26
  go_wp2_with fail
  refine (HL.out _ 3 _ HR.out (.inr ⟨_, _, rfl⟩) (Nat.le_refl _)).mono ?_
  rintro e w1 ⟨rfl, hb⟩
  have B2 := Lib.hid (then' B1.out hb)
  clear hb HR HL
  go_wp2
  go_ret
  exact ⟨rfl, B2.out⟩
theorem line_u (r : Ru) (w : World) (h : rightR r = true) : Calls Tryd.prog 26 #[RuV r] w fun e w' => e = .returned (.string ⟨(lineR r).toArray⟩) ∧ Below w.heap.size w w' := by
 obtain ⟨nb, me, c, n, d⟩ := r
 cases me
 ·exact line_n nb c n d w h
 ·exact line_y nb c n d w h
end Go.Proofs.YtcaaljioennnnabDoor.rul

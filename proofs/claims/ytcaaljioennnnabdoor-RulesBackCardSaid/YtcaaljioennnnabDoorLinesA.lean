/-
  Layer 4: what Lines answers of any text: the program, and the reference.
-/
import Derived.Test.YtcaaljioennnnabDoorLinesR
namespace Go.Proofs.YtcaaljioennnnabDoor.word
open Go.RowKit Go.Shelf
open Go.Proofs.YtcaaljioennnnabDoor.num Go.Proofs.YtcaaljioennnnabDoor.words Go.Proofs.YtcaaljioennnnabDoor.give Go.Proofs.YtcaaljioennnnabDoor.write Go.Proofs.YtcaaljioennnnabDoor.piece Go.Proofs.YtcaaljioennnnabDoor.texts

def lineErr (s : ByteArray) : Nat := if h : s.size ≤ 65536 then (if (linesOf s h).all goodB = true then 0 else 1) else 3
def lineAt (s : ByteArray) : Nat := if h : s.size ≤ 65536 then (if (linesOf s h).all goodB = true then 0 else (linesOf s h).findIdx (fun x => !goodB x) + 1) else 0
def lineTx (s : ByteArray) : List ByteArray := if h : s.size ≤ 65536 then (if (linesOf s h).all goodB = true then txs (linesOf s h) else []) else []
theorem lineTx_le (s : ByteArray) : (lineTx s).length ≤ 65536 := by
  unfold lineTx
  split
  · rename_i h
    split
    · rw [txs, List.length_map]; exact Nat.le_trans (rounds_len _ _ _) h
    · exact Nat.zero_le _
  · exact Nat.zero_le _
theorem lineAt_le (s : ByteArray) : lineAt s ≤ 65537 := by
  unfold lineAt
  split
  · rename_i h
    split
    · exact Nat.zero_le _
    · have h1 : (linesOf s h).findIdx (fun x => !goodB x) ≤ (linesOf s h).length := List.findIdx_le_length
      have h2 : (linesOf s h).length ≤ s.size := rounds_len _ _ _
      omega
  · exact Nat.zero_le _
theorem lineErr_le (s : ByteArray) : lineErr s ≤ 3 := by
  unfold lineErr; split
  · split <;> omega
  · omega
/-- what Lines answers -/
def LA (s : ByteArray) (w : World) (e : Ending) (w' : World) : Prop :=
  (∃ A c, e = .returned (.tuple #[.slice A (lineTx s).length c, .agg #[.int .i64 (lineErr s : Int), .int .i64 (lineAt s : Int)]]) ∧ (lineTx s).length ≤ c ∧ Rd w' A (S (lineTx s))) ∧ Below w.heap.size w w'
theorem la_of {s : ByteArray} {h : s.size ≤ 65536} {w w' : World} {e : Ending} (hp : LinesPost s h w e w') : LA s w e w' := by
  obtain ⟨⟨v, rfl, hown, _, hg⟩ | ⟨p, x, rfl, hp, hg, hx⟩, hb⟩ := hp
  · have hall : (linesOf s h).all goodB = true := List.all_eq_true.2 hg
    have e1 : lineErr s = 0 := by unfold lineErr; rw [dif_pos h, if_pos hall]
    have e2 : lineAt s = 0 := by unfold lineAt; rw [dif_pos h, if_pos hall]
    have e3 : lineTx s = txs (linesOf s h) := by unfold lineTx; rw [dif_pos h, if_pos hall]
    have e4 : (linesOf s h).length = (lineTx s).length := by rw [e3, txs, List.length_map]
    rw [txs_strV, ← e3, e4] at hown
    obtain ⟨A, c, rfl, hc, _, hr⟩ := own_rd hown
    unfold LA
    rw [e1, e2]
    exact ⟨⟨A, c, rfl, hc, hr⟩, hb⟩
  · obtain ⟨t, ht⟩ := hp
    have hL : linesOf s h = p ++ x :: t := by rw [← ht]; simp
    have hall : ¬ (linesOf s h).all goodB = true := by
      intro e
      have := List.all_eq_true.1 e x (by rw [hL]; simp)
      rw [hx] at this; cases this
    have hpn : p.findIdx (fun x => !goodB x) = p.length := by
      rw [List.findIdx_eq_length]
      intro y hy; rw [hg y hy]; rfl
    have e1 : lineErr s = 1 := by unfold lineErr; rw [dif_pos h, if_neg hall]
    have e2 : lineAt s = p.length + 1 := by
      unfold lineAt; rw [dif_pos h, if_neg hall, hL, List.findIdx_append, hpn, if_neg (Nat.lt_irrefl _), List.findIdx_cons, hx]; simp
    have e3 : lineTx s = [] := by unfold lineTx; rw [dif_pos h, if_neg hall]
    unfold LA
    rw [e1, e2, e3]
    exact ⟨⟨none, 0, rfl, Nat.le_refl _, .inl rfl⟩, hb⟩
theorem la_long {s : ByteArray} (h : ¬ s.size ≤ 65536) {w w' : World} (hb : Below w.heap.size w w') : LA s w (.returned (.tuple #[.slice none 0 0, .agg #[.int .i64 3, .int .i64 0]])) w' := by
  have e1 : lineErr s = 3 := by unfold lineErr; rw [dif_neg h]
  have e2 : lineAt s = 0 := by unfold lineAt; rw [dif_neg h]
  have e3 : lineTx s = [] := by unfold lineTx; rw [dif_neg h]
  unfold LA
  rw [e1, e2, e3]
  exact ⟨⟨none, 0, rfl, Nat.le_refl _, .inl rfl⟩, hb⟩

set_option maxRecDepth 100000 in
set_option maxHeartbeats 400000 in
theorem lines_long (s : ByteArray) (hs : ¬ s.size ≤ 65536) (w : World) : Calls Tryd.prog 28 #[.string s] w (LA s w) := by
  have hsI : (65536 : Int) < (s.size : Int) := by omega
  have HP := Lib.hid (fun w w' hb => la_long (s := s) hs (w := w) (w' := w') hb)
  clear hs
  refine (callsIn_wide (n := 3)).1 ?_
  refine callsIn_of_wp_marks Tryd.func28 rfl trivial ?_ rfl
  simp only [Tryd.ntmps28, List.size_toArray, List.length_cons, List.length_nil, Nat.reduceAdd, Nat.reduceSub, Array.replicate_succ, Array.replicate_zero, List.push_toArray, List.append_toArray, List.nil_append, List.cons_append]
  gi_wp2
  have r0 := (Below.heap_alloc (w.alloc (Obj.cells #[Value.slice none 0 0] 48)) (Obj.cells #[Value.int IntKind.i64 3, Value.int IntKind.i64 0] 37) _ (by simp)).trans (heap_alloc_new w (Obj.cells #[Value.slice none 0 0] 48))
  have r1 := heap_alloc_new (w.alloc (Obj.cells #[Value.slice none 0 0] 48)) (Obj.cells #[Value.int IntKind.i64 3, Value.int IntKind.i64 0] 37)
  rw [World.size_alloc] at r1
  have c0 := cell_of_row _ _ 0 _ _ _ r0
  have c1 := cell_of_row _ _ 0 _ _ _ r1
  have c2 := cell_of_row _ _ 1 _ _ _ r1
  refine ⟨.tuple #[.slice none 0 0, .agg #[.int .i64 3, .int .i64 0]], ?_, HP.out _ _ (((Below.refl _ _).alloc (Nat.le_refl _) _).alloc (by simp) _)⟩
  simp [results, Tryd.results28, go_sem, c0, c1, c2]
theorem lines_m (s : ByteArray) (w : World) (m : Int) (h0 : 0 < w.heap.size) (hm : w.cell? ⟨0, 0, none⟩ = some (.int .i64 m)) : Calls Tryd.prog 28 #[.string s] w (LA s w) := by
  by_cases h : s.size ≤ 65536
  · exact ((callsIn_wide (n := 3)).1 (linesW_in s h m w h0 hm)).mono fun _ _ hp => la_of hp
  · exact lines_long s h w
end Go.Proofs.YtcaaljioennnnabDoor.word

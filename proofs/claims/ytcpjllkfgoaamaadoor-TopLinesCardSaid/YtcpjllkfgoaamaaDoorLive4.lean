/-
  Layer 4: what must be whatever is asked.
-/
import Derived.Test.YtcpjllkfgoaamaaDoorDigits
namespace Go.Proofs.YtcpjllkfgoaamaaDoor.live4
open Go.RowKit Go.Shelf
open Go.Proofs.YtcpjllkfgoaamaaDoor.num Go.Proofs.YtcpjllkfgoaamaaDoor.words Go.Proofs.YtcpjllkfgoaamaaDoor.give Go.Proofs.YtcpjllkfgoaamaaDoor.write Go.Proofs.YtcpjllkfgoaamaaDoor.word

set_option maxRecDepth 100000 in
theorem gPow : Tryd.prog.globalNamed "internal/strconv.uint64pow10" = some 3 := by kernel_rfl
theorem Tabs.below {w w' : World} (h : Tabs w) (hb : Below w.heap.size w w') : Tabs w' := by
  obtain ⟨m, hm⟩ := h.len
  refine ⟨?_, Nat.lt_of_lt_of_le h.room hb.size, Nat.lt_of_lt_of_le h.pin hb.size, m, (hb.cell (p := ⟨0, 0, none⟩) h.room).trans hm⟩
  have := h.pow
  unfold World.var? at this ⊢
  rw [gPow] at this ⊢
  simp only [Option.bind_some] at this ⊢
  rw [hb.block _ h.pin]
  exact this

def s1 : ByteArray := ⟨#[97, 47, 66, 46, 109]⟩
theorem split1 : splitB s1 = (⟨#[97, 47, 66]⟩, ⟨#[109]⟩, true) := by decide +kernel
theorem class1 : namedB classB ⟨#[97, 47, 66]⟩ = true := by decide +kernel
theorem name1 : nameB ⟨#[97, 47, 66]⟩ = false := by decide +kernel
theorem name2 : nameB ⟨#[60, 99, 108, 105, 110, 105, 116, 62]⟩ = true := by decide +kernel
theorem lines1 : (linesOf ⟨#[120, 32, 121, 10, 10]⟩ (by decide)).map goodB = [true, true] := by decide +kernel
theorem lines2 : (linesOf ⟨#[120, 10, 121]⟩ (by decide)).map goodB = [true, false] := by decide +kernel
theorem itoa30 : Lib.itoa (-30) = [45, 51, 48] := by decide +kernel
theorem mem_good {l : List Ln} {x : Ln} (h : x ∈ l) (hg : l.map goodB = [true, true]) : goodB x = true := by
  have : goodB x ∈ l.map goodB := List.mem_map_of_mem h
  rw [hg] at this
  simpa using this
theorem lines_a (w : World) (ht : Tabs w) : Calls Tryd.prog 9 #[.string ⟨#[120, 32, 121, 10, 10]⟩] w fun e w' => (∃ A c, e = .returned (.tuple #[.slice A 2 c, .agg #[.int .i64 0, .int .i64 0]])) ∧ Below w.heap.size w w' := by
  refine (lines_w ⟨#[120, 32, 121, 10, 10]⟩ (by decide) w ht).mono ?_
  rintro e w' ⟨⟨v, rfl, hown, _, _⟩ | ⟨p, x, rfl, hp, _, hx⟩, hb⟩
  · obtain ⟨A, c, rfl, -, -, -⟩ := own_rd hown
    have hl : (linesOf ⟨#[120, 32, 121, 10, 10]⟩ (by decide)).length = 2 := by have := congrArg List.length lines1; simpa using this
    rw [hl]
    exact ⟨⟨A, c, rfl⟩, hb⟩
  · have := mem_good (List.IsPrefix.subset hp (List.mem_append_right p (List.mem_singleton_self x))) lines1
    rw [hx] at this
    cases this
theorem two {l : List Ln} (h : l.map goodB = [true, false]) : ∃ a b, l = [a, b] ∧ goodB a = true ∧ goodB b = false := by
  match l, h with
  | [], h => simp at h
  | [a], h => simp at h
  | a :: b :: c :: r, h => simp at h
  | [a, b], h =>
    simp only [List.map_cons, List.map_nil, List.cons.injEq, and_true] at h
    exact ⟨a, b, rfl, h.1, h.2⟩
theorem lines_b (w : World) (ht : Tabs w) : Calls Tryd.prog 9 #[.string ⟨#[120, 10, 121]⟩] w fun e w' => e = .returned (.tuple #[.slice none 0 0, .agg #[.int .i64 1, .int .i64 2]]) ∧ Below w.heap.size w w' := by
  refine (lines_w ⟨#[120, 10, 121]⟩ (by decide) w ht).mono ?_
  have hl := lines2
  rintro e w' ⟨⟨v, rfl, hown, _, hg⟩ | ⟨p, x, rfl, hp, hg, hx⟩, hb⟩
  · exfalso
    obtain ⟨a, b, hab, ha, hb2⟩ := two hl
    rw [hab] at hg
    have := hg b (by simp)
    rw [hb2] at this
    cases this
  · obtain ⟨a, b, hab, ha, hb2⟩ := two hl
    rw [hab] at hp
    have hpl : p.length = 1 := by
      match p, hp, hg with
      | [], hp, _ =>
        obtain ⟨t, ht⟩ := hp
        simp only [List.nil_append, List.cons_append, List.cons.injEq] at ht
        rw [ht.1, ha] at hx; cases hx
      | [c], _, _ => rfl
      | c :: d :: r, hp, _ =>
        exfalso
        have := hp.length_le
        simp at this
    rw [hpl]
    exact ⟨rfl, hb⟩

set_option maxRecDepth 100000 in
set_option maxHeartbeats 1000000 in
theorem live_any (w : World) (ht : Tabs w) : Calls Tryd.prog 8 #[] w fun e w' => e = .returned (.bool true) ∧ Below w.heap.size w w' := by
  have HT := Lib.hid ht
  have HS := Lib.hid (show Calls Tryd.prog 23 #[.string ⟨#[97, 47, 66, 46, 109]⟩] w fun e w' => e = .returned (.tuple #[.string ⟨#[97, 47, 66]⟩, .string ⟨#[109]⟩, .bool true]) ∧ ∃ q, w' = w.drewN q from by
    have h := split_w s1 w (by decide)
    rw [split1] at h
    exact h)
  clear ht
  go_enter Tryd.func8, Tryd.ntmps8
  go_wp2_with fail
  refine HS.out.mono ?_
  rintro e w1 ⟨rfl, q, rfl⟩
  clear HS
  go_wp2_with fail
  refine (parse07 (w.drewN q) HT.out.pow).mono ?_
  rintro e w2 ⟨rfl, hb2⟩
  have HB2 := Lib.hid (under hb2)
  clear hb2
  go_wp2_with fail
  refine (lines_a w2 (Tabs.below HT.out HB2.out)).mono ?_
  rintro e w3 ⟨⟨A, c, rfl⟩, hb3⟩
  have HB3 := Lib.hid (HB2.out.trans (hb3.mono HB2.out.size))
  clear hb3
  go_wp2_with fail
  have HB3a := Lib.hid (HB3.out.alloc HB3.out.size (Obj.cells #[.int .i64 0, .int .i64 0] 27))
  refine (lines_b _ (Tabs.below HT.out HB3a.out)).mono ?_
  rintro e w4 ⟨rfl, hb4⟩
  have HB4 := Lib.hid (HB3a.out.trans (hb4.mono HB3a.out.size))
  have r7 : w4.heap[w3.heap.size]? = some (.cells #[.int .i64 0, .int .i64 0] 27 (0, 0)) := (hb4.block _ (by rw [World.size_alloc]; exact Nat.lt_succ_self _)).trans (heap_alloc_new w3 _)
  have l7 := blk_lt r7
  have r7a : (w4.alloc (Obj.cells #[.int .i64 1, .int .i64 2] 27)).heap[w3.heap.size]? = some (.cells #[.int .i64 0, .int .i64 0] 27 (0, 0)) := (Below.heap_alloc _ _ _ l7).trans r7
  have r9a : (w4.alloc (Obj.cells #[.int .i64 1, .int .i64 2] 27)).heap[w4.heap.size]? = some (.cells #[.int .i64 1, .int .i64 2] 27 (0, 0)) := heap_alloc_new w4 _
  have HB5 := Lib.hid (HB4.out.alloc HB4.out.size (Obj.cells #[.int .i64 1, .int .i64 2] 27))
  have hn7 : w3.heap.size ≠ w4.heap.size := by omega
  clear hb4 HB3a HB3 HB2 r7
  go_wp2_with fail
  generalize w4.alloc (Obj.cells #[.int .i64 1, .int .i64 2] 27) = w5 at *
  have c70 := cell_of_row _ _ 0 _ _ _ r7a
  have c71 := cell_of_row _ _ 1 _ _ _ r7a
  have c90 := cell_of_row _ _ 0 _ _ _ r9a
  have c91 := cell_of_row _ _ 1 _ _ _ r9a
  dsimp at c70 c71 c90 c91
  clear r7a r9a
  refine (show Calls Tryd.prog 24 #[.string ⟨#[97, 47, 66]⟩] w5 fun e w' => e = .returned (.bool true) ∧ w' = w5 from class1 ▸ class_name ⟨#[97, 47, 66]⟩ w5 (by decide)).mono ?_
  rintro e w6 ⟨rfl, rfl⟩
  go_wp2_with fail
  refine (show Calls Tryd.prog 25 #[.string ⟨#[97, 47, 66]⟩] w6 fun e w' => e = .returned (.bool false) ∧ w' = w6 from name1 ▸ name_w ⟨#[97, 47, 66]⟩ w6 (by decide)).mono ?_
  rintro e w7 ⟨rfl, rfl⟩
  go_wp2_with fail
  refine (show Calls Tryd.prog 25 #[.string ⟨#[60, 99, 108, 105, 110, 105, 116, 62]⟩] w7 fun e w' => e = .returned (.bool true) ∧ w' = w7 from name2 ▸ name_w ⟨#[60, 99, 108, 105, 110, 105, 116, 62]⟩ w7 (by decide)).mono ?_
  rintro e w8 ⟨rfl, rfl⟩
  go_wp2_with fail
  refine (show Calls Tryd.prog 19 #[.int .i64 (-30)] w8 fun e w' => e = .returned (.string ⟨#[45, 51, 48]⟩) ∧ Below w8.heap.size w8 w' from itoa30 ▸ digits_w (-30) (by omega) (by omega) w8 (Tabs.below HT.out HB5.out).pow).mono ?_
  rintro e w9 ⟨rfl, hb9⟩
  have HB9 := Lib.hid (HB5.out.trans (hb9.mono HB5.out.size))
  clear hb9
  go_wp2
  go_ret
  exact ⟨rfl, HB9.out⟩
end Go.Proofs.YtcpjllkfgoaamaaDoor.live4

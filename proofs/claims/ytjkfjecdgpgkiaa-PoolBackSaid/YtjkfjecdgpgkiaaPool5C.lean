/-
  Layer 5: two lists of strings, one behind the other (slices.Concat), and two pools together.
-/
import Derived.Test.YtjkfjecdgpgkiaaPool5F
import Derived.Lib.AppendZerosOnto
namespace Go.Proofs.Ytjkfjecdgpgkiaa.pool
open Go.RowKit Go.Maps
open Go.Proofs.Ytjkfjecdgpgkiaa.num Go.Proofs.Ytjkfjecdgpgkiaa.words Go.Proofs.Ytjkfjecdgpgkiaa.poolp

theorem SL_one (l : List Str) : ∀ u ∈ SL l, u.oneCell' = true := by
  intro u hu
  obtain ⟨x, _, rfl⟩ := List.mem_map.1 hu
  simp [Value.oneCell']
/-- a new list -/
def NewS (w : World) (l : List Str) (e : Ending) (w' : World) : Prop := ∃ v, e = .returned v ∧ w'.ownsRow w.heap.size 9 1 v l.length (SL l) ∧ Below w.heap.size w w'
/-- a row with room, that holds nothing yet -/
theorem own_emptyS (w : World) (cur : Array Value) (cap : Nat) (hm : cap ≤ maxLen) (hs : cur.size = cap) : (w.alloc (.cells cur 9)).ownsRow w.heap.size 9 1 (.slice (some ⟨w.heap.size, 0, none⟩) 0 cap) 0 [] :=
  ⟨by simp, .inr ⟨w.heap.size, cap, cur, rfl, Nat.le_refl _, heap_alloc_new w _, Nat.zero_le _, hm, by rw [hs, Nat.mul_one], by simp⟩⟩
set_option maxRecDepth 100000 in
set_option maxHeartbeats 400000 in
theorem grow_nilS (n : Nat) (w : World) (h0 : 0 < n) (hn : n ≤ 4096) :
    Calls Try.prog 61 #[.slice none 0 0, .int .i64 (n : Int)] w fun e w' => ∃ v, e = .returned v ∧ w'.ownsRow w.heap.size 9 1 v 0 [] ∧ Below w.heap.size w w' := by
  obtain ⟨i0, hi0, hz0, hz1, hz2⟩ := info_parts infoS
  have hrz : ∀ ty, (Builtin.append_ #[22, 3] ty #[.slice none 0 0, .int .i64 (n : Int)]).run Try.prog w =
      .ok (.slice (some ⟨w.heap.size, 0, none⟩) n (grownCap w n 0 9)) (w.drew.alloc (.cells (Builtin.zeroCells (Value.string ByteArray.empty).cells n ++ Builtin.zeroCells (Value.string ByteArray.empty).cells (grownCap w n 0 9 - n)) 9)) := fun ty => by
    have h := Lib.run_append_grow_zeros w 22 3 ty 9 i0 (.string ByteArray.empty) .i64 .i64 Try.underlying22 Try.underlying3 hi0 hz0 none 0 0 [] (by simp [Builtin.firstCells]) n h0 (by omega) (by omega) (by omega) (by rw [hz2]; omega) (by rw [hz2]; exact growslice_fits (by omega) (by omega))
    simpa using h
  have hG := grownCap_ge w n 0 9
  have hGm := grownCap_le_maxLen w n 0 9 (by simp only [maxLen]; omega)
  generalize grownCap w n 0 9 = G at *
  have hsz : (Builtin.zeroCells (Value.string ByteArray.empty).cells n ++ Builtin.zeroCells (Value.string ByteArray.empty).cells (G - n)).size = G := by
    simp [Builtin.zeroCells, Value.cells]; omega
  generalize Builtin.zeroCells (Value.string ByteArray.empty).cells n ++ Builtin.zeroCells (Value.string ByteArray.empty).cells (G - n) = Z at *
  have hown := own_emptyS w.drew Z G hGm hsz
  have HO := Lib.hid hown
  have hGI : (G : Int) ≤ 9223372036854775807 := by simp only [maxLen] at hGm; omega
  have hnI : (n : Int) ≤ 4096 := by omega
  have h0I : 0 < (n : Int) := by omega
  have HR := Lib.hid hrz
  clear hn h0 hGm hsz hown hrz
  go_enter Try.func61, Try.ntmps61
  go_wp2_with (at_builtin; refine Lib.wpList_append_run _ rfl _ _ _ _ rfl _ _ rfl rfl _ _ (HR.out _) ?_)
  go_ret
  exact ⟨_, rfl, HO.out, ((Below.refl _ w).alloc (Nat.le_refl _) _).drew⟩

set_option maxRecDepth 100000 in
set_option maxHeartbeats 800000 in
theorem concatS (g : Nat) (A C : Option Addr) (n c m d : Nat) (l k : List Str) (w : World) (hg : w.heap[g]? = some (.cells #[.slice A n c, .slice C m d] 22 (0, 0))) (hr : Rd w A (SL l)) (kr : Rd w C (SL k))
    (hl : l.length = n) (kl : k.length = m) (h0 : 0 < n + m) (hn : n + m ≤ 4096) :
    Calls Try.prog 38 #[.slice (some ⟨g, 0, none⟩) 2 2] w (NewS w (l ++ k)) := by
  obtain ⟨i0, hi0, hz0, hz1, hz2⟩ := info_parts infoS
  have c0 : w.cell? ⟨g, 0, none⟩ = some (.slice A n c) := cell_of_row w g 0 _ _ (0, 0) hg
  have c1 : w.cell? ⟨g, 1, none⟩ = some (.slice C m d) := cell_of_row w g 1 _ _ (0, 0) hg
  have hnI : (n : Int) ≤ 4096 := by omega
  have hmI : (m : Int) ≤ 4096 := by omega
  have HN := Lib.hid hn; have H0 := Lib.hid h0; have HL := Lib.hid hl; have KL := Lib.hid kl
  have hgl := blk_lt hg
  clear hn h0 hl kl
  go_enter Try.func38, Try.ntmps38
  go_wp2_with fail
  refine wp_loop_rounds 3 ?_
  rw [rounds_succ]
  go_wp2_with fail
  rw [rounds_succ]
  go_wp2_with fail
  rw [rounds_succ]
  go_wp2_with fail
  have hgrow := grow_nilS (n + m) w H0.out HN.out
  rw [Int.natCast_add] at hgrow
  refine hgrow.mono ?_
  rintro e w1 ⟨v1, rfl, hown1, hb1⟩
  have hg1 : w1.heap[g]? = some (.cells #[.slice A n c, .slice C m d] 22 (0, 0)) := (hb1.block g hgl).trans hg
  have d0 : w1.cell? ⟨g, 0, none⟩ = some (.slice A n c) := cell_of_row w1 g 0 _ _ (0, 0) hg1
  have hr1 := hr.below hb1
  have hsz1 := hb1.size
  have HG := Lib.hid hg
  clear hgrow c0 c1 hg hg1 hr
  go_wp2_with fail
  refine wp_loop_rounds 3 ?_
  rw [rounds_succ]
  go_wp2_with (at_builtin; refine wpList_app _ rfl (.tmp 31) (.tmp 32) _ rfl w.heap.size 9 i0 _ 1 16 Try.underlying22 hi0 hz0 hz1 hz2 rfl (by omega) v1 0 [] rfl hown1 A n c (SL l) rfl (by rw [SL_len, HL.out]; omega) hr1 (SL_one l) (by have := HN.out; simp only [maxLen]; omega) (by have := HN.out; omega) hsz1 ?_; intro v2 w2 hown2 hg2 hb2 hat2; clear hg2 hat2)
  rw [Nat.zero_add, List.nil_append] at hown2
  have hb3 := hb1.trans hb2
  have d1 : w2.cell? ⟨g, 1, none⟩ = some (.slice C m d) := cell_of_row w2 g 1 _ _ (0, 0) ((hb3.block g hgl).trans HG.out)
  have kr2 := kr.below hb3
  have hsz2 := hb3.size
  clear d0 hown1 hr1 kr
  rw [rounds_succ]
  go_wp2_with (at_builtin; refine wpList_app _ rfl (.tmp 31) (.tmp 32) _ rfl w.heap.size 9 i0 _ 1 16 Try.underlying22 hi0 hz0 hz1 hz2 rfl (by omega) v2 n (SL l) rfl hown2 C m d (SL k) rfl (by rw [SL_len, KL.out]; omega) kr2 (SL_one k) (by have := HN.out; simp only [maxLen]; omega) (by have := HN.out; omega) hsz2 ?_; intro v4 w4 hown4 hg4 hb4 hat4; clear hg4 hat4)
  rw [rounds_succ]
  go_wp2
  go_ret
  refine ⟨_, rfl, ?_, hb3.trans hb4⟩
  rw [List.length_append, HL.out, KL.out, SL_app]
  exact hown4

end Go.Proofs.Ytjkfjecdgpgkiaa.pool

/-
  What Seal and Open of crc hand back: bytes with their sum behind them, and the bytes that were sealed.
-/
import Derived.Test.YtcpjllkfgoaamaaDoorProg
import Derived.Test.YtcpjllkfgoaamaaDoorCrc
import Derived.Test.YtcpjllkfgoaamaaDoorPut
import Derived.Test.YtcpjllkfgoaamaaDoorTake
import Derived.Lib.AppendZerosOnto
import Derived.Handy
namespace Go.Proofs.YtcpjllkfgoaamaaDoor.sealing
open Go.RowKit
open Go.Proofs.YtcpjllkfgoaamaaDoor.crcnum Go.Proofs.YtcpjllkfgoaamaaDoor.words

def fourL (s : Nat) : List Nat := [s % 256, s / 256 % 256, s / 65536 % 256, s / 16777216 % 256]
def sealL (l : List Nat) : List Nat := l ++ fourL (sumL l)
def openL (l : List Nat) : List Nat × Nat :=
  if l.length < 4 then ([], 2)
  else if l.drop (l.length - 4) = fourL (sumL (l.take (l.length - 4))) then (l.take (l.length - 4), 0) else ([], 4)
theorem fourL_byte (s : Nat) : ∀ x ∈ fourL s, x < 256 := by
  intro x hx
  simp only [fourL, List.mem_cons, List.not_mem_nil, or_false] at hx
  rcases hx with rfl | rfl | rfl | rfl <;> omega
theorem sealL_byte {l : List Nat} (h : ∀ x ∈ l, x < 256) : ∀ x ∈ sealL l, x < 256 := by
  intro x hx
  rcases List.mem_append.1 hx with hx | hx
  · exact h x hx
  · exact fourL_byte _ x hx
theorem sealL_len (l : List Nat) : (sealL l).length = l.length + 4 := by simp [sealL, fourL]
theorem open_seal (l : List Nat) : openL (sealL l) = (l, 0) := by
  unfold openL
  rw [if_neg (by rw [sealL_len]; omega)]
  have e : (sealL l).length - 4 = l.length := by rw [sealL_len]; omega
  rw [e]
  simp [sealL]
theorem seal_open {l : List Nat} (h : (openL l).2 = 0) : sealL (openL l).1 = l := by
  unfold openL at h ⊢
  by_cases h1 : l.length < 4
  · rw [if_pos h1] at h; simp at h
  · rw [if_neg h1] at h ⊢
    by_cases h2 : l.drop (l.length - 4) = fourL (sumL (l.take (l.length - 4)))
    · rw [if_pos h2]
      simp only [sealL]
      rw [← h2, List.take_append_drop]
    · rw [if_neg h2] at h; simp at h

/-- a sum's four bytes, as one array -/
def F (s : Nat) : Value := .agg #[.int .u8 ((s % 256 : Nat) : Int), .int .u8 ((s / 256 % 256 : Nat) : Int), .int .u8 ((s / 65536 % 256 : Nat) : Int), .int .u8 ((s / 16777216 % 256 : Nat) : Int)]
set_option maxRecDepth 100000 in
set_option maxHeartbeats 400000 in
theorem laid_any (s : Nat) (w : World) (hs : (s : Int) ≤ 4294967295) : Calls Tryd.prog 81 #[.int .u32 (s : Int)] w fun e w' => e = .returned (F s) ∧ Below w.heap.size w w' := by
  have hf : F s = .agg #[.int .u8 ((s : Int) % 256), .int .u8 ((s : Int) / 256 % 256), .int .u8 ((s : Int) / 65536 % 256), .int .u8 ((s : Int) / 16777216)] := by
    unfold F
    rw [show ((s % 256 : Nat) : Int) = (s : Int) % 256 by omega, show ((s / 256 % 256 : Nat) : Int) = (s : Int) / 256 % 256 by omega, show ((s / 65536 % 256 : Nat) : Int) = (s : Int) / 65536 % 256 by omega, show ((s / 16777216 % 256 : Nat) : Int) = (s : Int) / 16777216 by omega]
  have HF := Lib.hid hf; clear hf
  go_enter Tryd.func81, Tryd.ntmps81
  go_wp2
  rw [HF.out]
  exact bodyPost_ret (v := .agg #[.int .u8 ((s : Int) % 256), .int .u8 ((s : Int) / 256 % 256), .int .u8 ((s : Int) / 65536 % 256), .int .u8 ((s : Int) / 16777216)]) (by simp [results, Tryd.results81, go_sem]) rfl ⟨rfl, (Below.refl _ _).alloc (Nat.le_refl _) _⟩

/-- a row with room, that holds nothing yet -/
theorem own_empty (w : World) (cur : Array Value) (cap : Nat) (hm : cap ≤ maxLen) (hs : cur.size = cap) : (w.alloc (.cells cur 5)).ownsRow w.heap.size 5 1 (.slice (some ⟨w.heap.size, 0, none⟩) 0 cap) 0 [] :=
  ⟨by simp, .inr ⟨w.heap.size, cap, cur, rfl, Nat.le_refl _, heap_alloc_new w _, Nat.zero_le _, hm, by rw [hs, Nat.mul_one], by simp⟩⟩
set_option maxRecDepth 100000 in
set_option maxHeartbeats 400000 in
theorem grow_nil (n : Nat) (w : World) (h0 : 0 < n) (hn : n ≤ 140737488355328) :
    Calls Tryd.prog 80 #[.slice none 0 0, .int .i64 (n : Int)] w fun e w' => ∃ v, e = .returned v ∧ w'.ownsRow w.heap.size 5 1 v 0 [] ∧ Below w.heap.size w w' := by
  obtain ⟨i0, hi0, hz0, hz1, hz2⟩ := info_parts put.info5
  have hrz : ∀ ty, (Builtin.append_ #[48, 3] ty #[.slice none 0 0, .int .i64 (n : Int)]).run Tryd.prog w =
      .ok (.slice (some ⟨w.heap.size, 0, none⟩) n (grownCap w n 0 5)) (w.drew.alloc (.cells (Builtin.zeroCells (Value.int .u8 0).cells n ++ Builtin.zeroCells (Value.int .u8 0).cells (grownCap w n 0 5 - n)) 5)) := fun ty => by
    have h := Lib.run_append_grow_zeros w 48 3 ty 5 i0 (.int .u8 0) .i64 .i64 Tryd.underlying48 Tryd.underlying3 hi0 hz0 none 0 0 [] (by simp [Builtin.firstCells]) n h0 (by omega) (by omega) (by omega) (by rw [hz2]; omega) (by rw [hz2]; exact growslice_fits (by omega) (by omega))
    simpa using h
  have hG := grownCap_ge w n 0 5
  have hGm := grownCap_le_maxLen w n 0 5 (by simp only [maxLen]; omega)
  generalize grownCap w n 0 5 = G at *
  have hsz : (Builtin.zeroCells (Value.int .u8 0).cells n ++ Builtin.zeroCells (Value.int .u8 0).cells (G - n)).size = G := by
    simp [Builtin.zeroCells, Value.cells]; omega
  generalize Builtin.zeroCells (Value.int .u8 0).cells n ++ Builtin.zeroCells (Value.int .u8 0).cells (G - n) = Z at *
  have hown := own_empty w.drew Z G hGm hsz
  have HO := Lib.hid hown
  have hGI : (G : Int) ≤ 9223372036854775807 := by simp only [maxLen] at hGm; omega
  have hnI : (n : Int) ≤ 140737488355328 := by omega
  have h0I : 0 < (n : Int) := by omega
  have HR := Lib.hid hrz
  clear hn h0 hGm hsz hown hrz
  go_enter Tryd.func80, Tryd.ntmps80
  go_wp2_with (at_builtin; refine Lib.wpList_append_run _ rfl _ _ _ _ rfl _ _ rfl rfl _ _ (HR.out _) ?_)
  go_ret
  exact ⟨_, rfl, HO.out, ((Below.refl _ w).alloc (Nat.le_refl _) _).drew⟩

set_option maxRecDepth 100000 in
set_option maxHeartbeats 800000 in
theorem concat2 (g : Nat) (A C : Option Addr) (n c m d : Nat) (l k : List Nat) (w : World) (hg : w.heap[g]? = some (.cells #[.slice A n c, .slice C m d] 48 (0, 0))) (hr : Rd w A (B l)) (kr : Rd w C (B k))
    (hl : l.length = n) (kl : k.length = m) (h0 : 0 < n + m) (hn : n + m ≤ 140737488355328) :
    Calls Tryd.prog 56 #[.slice (some ⟨g, 0, none⟩) 2 2] w (put.New w (l ++ k)) := by
  obtain ⟨i0, hi0, hz0, hz1, hz2⟩ := info_parts put.info5
  have c0 : w.cell? ⟨g, 0, none⟩ = some (.slice A n c) := cell_of_row w g 0 _ _ (0, 0) hg
  have c1 : w.cell? ⟨g, 1, none⟩ = some (.slice C m d) := cell_of_row w g 1 _ _ (0, 0) hg
  have hnI : (n : Int) ≤ 140737488355328 := by omega
  have hmI : (m : Int) ≤ 140737488355328 := by omega
  have HN := Lib.hid hn; have H0 := Lib.hid h0; have HL := Lib.hid hl; have KL := Lib.hid kl
  have hgl := blk_lt hg
  clear hn h0 hl kl
  go_enter Tryd.func56, Tryd.ntmps56
  go_wp2_with fail
  refine wp_loop_rounds 3 ?_
  rw [rounds_succ]
  go_wp2_with fail
  rw [rounds_succ]
  go_wp2_with fail
  rw [rounds_succ]
  go_wp2_with fail
  have hgrow := grow_nil (n + m) w H0.out HN.out
  rw [Int.natCast_add] at hgrow
  refine hgrow.mono ?_
  rintro e w1 ⟨v1, rfl, hown1, hb1⟩
  have hg1 : w1.heap[g]? = some (.cells #[.slice A n c, .slice C m d] 48 (0, 0)) := (hb1.block g hgl).trans hg
  have d0 : w1.cell? ⟨g, 0, none⟩ = some (.slice A n c) := cell_of_row w1 g 0 _ _ (0, 0) hg1
  have hr1 := hr.below hb1
  have hsz1 := hb1.size
  have HG := Lib.hid hg
  clear hgrow c0 c1 hg hg1 hr
  go_wp2_with fail
  refine wp_loop_rounds 3 ?_
  rw [rounds_succ]
  go_wp2_with (at_builtin; refine wpList_app _ rfl (.tmp 31) (.tmp 32) _ rfl w.heap.size 5 i0 _ 1 1 Tryd.underlying48 hi0 hz0 hz1 hz2 rfl (by omega) v1 0 [] rfl hown1 A n c (B l) rfl (by rw [B_len, HL.out]; omega) hr1 (B_one l) (by have := HN.out; simp only [maxLen]; omega) (by have := HN.out; omega) hsz1 ?_; intro v2 w2 hown2 hg2 hb2 hat2; clear hg2 hat2)
  rw [Nat.zero_add, List.nil_append] at hown2
  have hb3 := hb1.trans hb2
  have d1 : w2.cell? ⟨g, 1, none⟩ = some (.slice C m d) := cell_of_row w2 g 1 _ _ (0, 0) ((hb3.block g hgl).trans HG.out)
  have kr2 := kr.below hb3
  have hsz2 := hb3.size
  clear d0 hown1 hr1 kr
  rw [rounds_succ]
  go_wp2_with (at_builtin; refine wpList_app _ rfl (.tmp 31) (.tmp 32) _ rfl w.heap.size 5 i0 _ 1 1 Tryd.underlying48 hi0 hz0 hz1 hz2 rfl (by omega) v2 n (B l) rfl hown2 C m d (B k) rfl (by rw [B_len, KL.out]; omega) kr2 (B_one k) (by have := HN.out; simp only [maxLen]; omega) (by have := HN.out; omega) hsz2 ?_; intro v4 w4 hown4 hg4 hb4 hat4; clear hg4 hat4)
  rw [rounds_succ]
  go_wp2
  go_ret
  refine ⟨_, rfl, ?_, hb3.trans hb4⟩
  rw [List.length_append, HL.out, KL.out, B_app]
  exact hown4

/-- SEAL: bytes, and the four bytes of their sum. -/
theorem F_cells (s : Nat) : (F s).cells = (B (fourL s)).toArray := rfl
set_option maxRecDepth 100000 in
set_option maxHeartbeats 800000 in
theorem seal_any (A : Option Addr) (n c : Nat) (l : List Nat) (w : World) (ht : crc.Tab w) (hr : Rd w A (B l)) (hl : l.length = n) (hn : n ≤ 140737488351232) (hby : ∀ x ∈ l, x < 256) :
    Calls Tryd.prog 57 #[.slice A n c] w (put.New w (sealL l)) := by
  have h1 := crc.sum_any A n c l w ht hr hl (by omega) hby
  have hs := sumL_lt l
  have h2 := laid_any (sumL l) w (by omega)
  have H1 := Lib.hid h1; have H2 := Lib.hid h2
  have HN := Lib.hid hn; have HL := Lib.hid hl
  clear h1 h2 hs hn hl hby
  go_enter Tryd.func57, Tryd.ntmps57
  go_wp2_with fail
  refine H1.out.mono ?_
  rintro e w' ⟨rfl, rfl⟩
  go_wp2_with fail
  refine H2.out.mono ?_
  rintro e w1 ⟨rfl, hb1⟩
  unfold F
  go_wp2_with fail
  have hbb := (hb1.alloc hb1.size (Obj.cells #[Value.int IntKind.u8 ((sumL l : Int) % 256), Value.int IntKind.u8 ((sumL l : Int) / 256 % 256), Value.int IntKind.u8 ((sumL l : Int) / 65536 % 256), Value.int IntKind.u8 ((sumL l : Int) / 16777216 % 256)] 93))
  have hbc := hbb.alloc hbb.size (Obj.cells #[Value.slice A n c, Value.slice (some { block := w1.heap.size, off := 0 }) 4 4] 48)
  refine (concat2 (w1.heap.size + 1) A (some ⟨w1.heap.size, 0, none⟩) n c 4 4 l (fourL (sumL l)) _ (by simpa using heap_alloc_new (w1.alloc _) _) (hr.below hbc)
    (rd_blk ((Below.heap_alloc (w1.alloc _) _ w1.heap.size (by simp)).trans (heap_alloc_new w1 _)) (k := 4) rfl) HL.out rfl (by omega) (by have := HN.out; omega)).mono ?_
  rintro e w2 ⟨v2, rfl, hown2, hb2⟩
  go_wp2
  go_ret
  exact ⟨v2, rfl, own_base hown2 hbc.size, then_ hbc (Nat.le_refl _) hb2⟩
end Go.Proofs.YtcpjllkfgoaamaaDoor.sealing

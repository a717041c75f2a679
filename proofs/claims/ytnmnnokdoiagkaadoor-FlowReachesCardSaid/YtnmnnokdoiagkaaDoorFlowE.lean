/-
 Layer 14: a number, so many times: the library's Repeat, of a list of one.
-/
import Derived.Laws.CopyOwn
import Derived.Laws.MakeOwn
import Derived.Deep.RegionLaw
import Derived.Test.YtnmnnokdoiagkaaDoorFlowN
namespace Go.Proofs.YtnmnnokdoiagkaaDoor.flow
open Go.RowKit Go.Shelf
open words kindp opp op prg flowp

/-- a row of n cells, the first k of which are -1, the others 0 -/
def rowM (n k : Nat) : List Value := List.replicate k (Value.int .i64 (-1)) ++ List.replicate (n - k) (Value.int .i64 0)
theorem below_drew {b : Nat} {a c : World} (h : Below b a c) : Below b a c.drew := ⟨h.os, h.tape, h.output, h.size, h.block⟩
theorem rowM_len {n k : Nat} (h : k ≤ n) : (rowM n k).length = n := by unfold rowM; simp; omega
theorem rowM_splice {n k j : Nat} (h : k + j ≤ n) : splice (rowM n k) k (List.replicate j (Value.int .i64 (-1))) = rowM n (k + j) := by
 unfold splice rowM
 rw [List.length_replicate, List.take_left' (by simp), List.drop_append, List.drop_eq_nil_of_le (by simp), List.length_replicate, List.nil_append, List.drop_replicate, show n - k - (k + j - k) = n - (k + j) by omega, ← List.append_assoc, List.replicate_append_replicate]
theorem rowM_at {n k j : Nat} (h : j < k) : (rowM n k)[j]? = some (Value.int .i64 (-1)) := by
 unfold rowM
 rw [List.getElem?_append_left (by simpa using h), List.getElem?_replicate, if_pos h]
theorem rowM_full (n : Nat) : rowM n n = IL (List.replicate n (-1)) := by
 unfold rowM IL; simp

set_option maxRecDepth 100000 in
set_option maxHeartbeats 2000000 in
set_option linter.all false in
theorem repeat_w (n : Nat) (h0 : 1 ≤ n) (hn : n ≤ 1000) (b c : Nat) (w : World) (hx : w.cell? ⟨b, 0, none⟩ = some (.int .i64 (-1))) :
  Calls Tryd.prog 34 #[.slice (some ⟨b, 0, none⟩) 1 c, .int .i64 (n : Int)] w fun e w' => e = .returned (.slice (some ⟨w.heap.size, 0, none⟩) n n) ∧ w'.heap[w.heap.size]? = some (.cells (IL (List.replicate n (-1))).toArray 3 (0, 0)) ∧ Below w.heap.size w w' := by
 obtain ⟨i0, hi, hz0, hz1, hz2⟩ := info_parts infoI
 have hsz1 : (Tryd.prog.info? 3).map (·.size) = some 1 := by rw [hi]; simp [hz1]
 have hnI : (n : Int) ≤ 1000 := by omega
 have h0I : 1 ≤ (n : Int) := by omega
 have hmul := Tryd.bits_Mul 1 n (by omega) (by omega)
 rw [Nat.one_mul, Nat.div_eq_of_lt (by omega), Nat.mod_eq_of_lt (by omega)] at hmul
 have HMUL := Lib.hid (fun w => (show Calls Tryd.prog 43 #[.int .u64 1, .int .u64 (n : Int)] w fun e w' => e = .returned (.tuple #[.int .u64 0, .int .u64 (n : Int)]) ∧ w' = w from hmul w))
 have hmk : ∀ w, (Instr.makeSlice 29 (.int .i64 (n : Int)) (.int .i64 (n : Int))).run Tryd.prog w = .ok (.slice (some ⟨w.heap.size, 0, none⟩) n n) (w.alloc (.cells (rowM n 0).toArray 3)) := fun w => by
  have h := run_make (P := Tryd.prog) w 29 3 i0 (.int .i64 0) Tryd.underlying29 hi hz0 .i64 .i64 (n : Int) (n : Int) (by omega) (Int.le_refl _) (by rw [hz2]; omega) (by omega)
  rw [Int.toNat_natCast, hz1, Nat.mul_one] at h
  rw [h]
  congr 3
  unfold madeCells rowM
  apply Array.ext'
  simp only [Value.cells, Array.toList_map, Array.toList_range, List.size_toArray, List.length_cons, List.length_nil, Nat.zero_add, Nat.mod_one, Nat.sub_zero, List.replicate_zero, List.nil_append]
  exact (List.map_const' (l := List.range n) (b := Value.int .i64 0)).trans (by rw [List.length_range])
 clear hmul
 have hn0 : ¬ (n : Int) < 0 := by omega
 have hn9 : ¬ 9223372036854775807 < (n : Int) := by omega
 have HX := Lib.hid hx
 go_enter Tryd.func34, Tryd.ntmps34
 go_wp2_with fail
 refine (HMUL.out _).mono ?_
 rintro e w1 ⟨rfl, hw1⟩; subst w1
 have hb1 : Below w.heap.size w (w.alloc (.cells (rowM n 0).toArray 3)) := (Below.refl _ w).alloc (Nat.le_refl _) _
 have hx1 := (hb1.cell (p := ⟨b, 0, none⟩) (World.block_lt_of_cell? _ _ hx)).trans hx
 have hg1 := heap_alloc_new w (.cells (rowM n 0).toArray 3)
 have HB1 := Lib.hid hb1; have HX1 := Lib.hid hx1; have HG1 := Lib.hid hg1
 have HSZ := Lib.hid hsz1
 have q1 : ([Value.int .i64 (-1)] : List Value).length = Nat.min 1 n := by show 1 = min 1 n; omega
 have q2 : 0 + ([Value.int .i64 (-1)] : List Value).length ≤ (rowM n 0).length := by rw [rowM_len (Nat.zero_le _)]; show 0 + 1 ≤ n; omega
 have q3 : ∀ v ∈ ([Value.int .i64 (-1)] : List Value), v.oneCell' = true := by intro v hv; rw [List.mem_singleton] at hv; subst hv; rfl
 have qp : ∀ j v, ([Value.int .i64 (-1)] : List Value)[j]? = some v → (w.alloc (.cells (rowM n 0).toArray 3)).cell? ((⟨b, 0, none⟩ : Addr).add j) = some v := by
  intro j v hj
  cases j with
  | zero => simp only [List.getElem?_cons_zero, Option.some.injEq] at hj; subst hj; rw [add_zero_off]; exact HX1.out
  | succ j => simp at hj
 have QP := Lib.hid qp
 clear qp
 have Q1 := Lib.hid q1; have Q2 := Lib.hid q2; have Q3 := Lib.hid q3
 clear q1 q2 q3
 clear hb1 hx1 hg1 hx hsz1
 go_wp2_with (refine wpList_copy_splice rfl (.tmp 31) (.tmp 32) 29 29 rfl 3 Tryd.underlying29 HSZ.out _ _ _ _ _ _ rfl rfl w.heap.size 0 (rowM n 0) 3 HG1.out [.int .i64 (-1)] Q1.out (fun _ => ⟨rfl, _, rfl, QP.out⟩) Q2.out Q3.out w.heap.size w HB1.out (Nat.le_refl _) ?_; intro w2 HG2 hB2)
 have hs := rowM_splice (n := n) (k := 0) (j := 1) (by omega)
 have HG := Lib.hid (show w2.heap[w.heap.size]? = some (.cells (rowM n 1).toArray 3 (0, 0)) from by
  have := HG2.out
  rw [show ([Value.int .i64 (-1)] : List Value) = List.replicate 1 (Value.int .i64 (-1)) from rfl, hs] at this
  exact this)
 have HB := Lib.hid hB2
 clear HG2 hB2 hs
 have he : Tryd.prog.elem 29 = 3 := by kernel_rfl
 have hso : ∀ w, (sizeOf 3).run Tryd.prog w = .ok 1 w := fun w => by simp [sizeOf, typeInfo, hi, hz1]
 obtain ⟨g, hg⟩ : ∃ g, g = w.heap.size := ⟨_, rfl⟩
 have HGG := Lib.hid hg
 have HE := Lib.hid he; have HSO := Lib.hid hso
 rw [← hg] at HG HB ⊢
 clear hmk HX HX1 HG1 HB1 QP Q1 Q2 Q3 he hso hg HMUL
 go_loopw [8] (fun i wr => ∃ k : Nat, 1 ≤ k ∧ k ≤ n ∧ i = .int .i64 (k : Int) ∧ wr.heap[g]? = some (.cells (rowM n k).toArray 3 (0, 0)) ∧ Below g w wr) (fun i _ => n - (intOf i).toNat)
 case atStart => exact ⟨1, Nat.le_refl _, h0, rfl, HG.out, HB.out⟩
 case round =>
  obtain ⟨k, hk1, hk, rfl, hg, hb⟩ := hrel
  by_cases hlt : k < n
  ·have hltI : (k : Int) < (n : Int) := by omega
   have hcl : ∀ w, (Instr.sliceAt 29 (.slice (some ⟨g, 0, none⟩) n n) (some (.int .i64 (k : Int))) none none).run Tryd.prog w = .ok (.slice (some ⟨g, k, none⟩) (n - k) (n - k)) w := fun w => by
    rw [run_sliceAt_slice w _ _ _ _ _ (by rw [HE.out]; exact Tryd.underlying29), run_slice_l w _ _ n n (by rw [HE.out]; exact Tryd.underlying29) .i64 (k : Int) (by omega) (by omega), HE.out, HSO.out]
    simp only [Result.andThen_ok, sliced, Int.toNat_natCast, Nat.mul_one]
    rw [if_neg (by omega), Option.map_some, add_zero_off]
   have hch : ∀ w, (Instr.sliceAt 29 (.slice (some ⟨g, 0, none⟩) n n) none (some (.int .i64 (k : Int))) none).run Tryd.prog w = .ok (.slice (some ⟨g, 0, none⟩) k n) w := fun w => by
    rw [run_sliceAt_slice w _ _ _ _ _ (by rw [HE.out]; exact Tryd.underlying29), run_slice_h w _ _ n n (by rw [HE.out]; exact Tryd.underlying29) .i64 (k : Int) (by omega) (by omega), HE.out, HSO.out]
    simp only [Result.andThen_ok, sliced, Int.toNat_natCast, Nat.zero_mul, Nat.sub_zero]
    rw [if_neg (by omega), Option.map_some, add_zero_off]
   obtain ⟨j, hj⟩ : ∃ j, j = Nat.min k (n - k) := ⟨_, rfl⟩
   have hj2 : j ≤ n - k := by rw [hj]; exact Nat.min_le_right _ _
   have hj3 : j ≤ k := by rw [hj]; exact Nat.min_le_left _ _
   have hj1 : 1 ≤ j := by rw [hj]; show 1 ≤ min k (n - k); omega
   obtain ⟨cs, hcs⟩ : ∃ cs, cs = List.replicate j (Value.int .i64 (-1)) := ⟨_, rfl⟩
   have hcl2 : cs.length = j := by rw [hcs, List.length_replicate]
   have Q1 := Lib.hid (show cs.length = Nat.min k (n - k) from hcl2.trans hj)
   have Q2 := Lib.hid (show k + cs.length ≤ (rowM n k).length from by rw [rowM_len hk, hcl2]; omega)
   have Q3 := Lib.hid (show ∀ v ∈ cs, v.oneCell' = true from fun v hv => by rw [hcs] at hv; rw [List.eq_of_mem_replicate hv]; rfl)
   have QP := Lib.hid (show ∀ (i : Nat) v, cs[i]? = some v → wr.cell? ((⟨g, 0, none⟩ : Addr).add i) = some v from fun i v hv => by
    rw [hcs] at hv
    have hij : i < j := by have := (List.getElem?_eq_some_iff.1 hv).1; simpa using this
    rw [List.getElem?_replicate, if_pos hij] at hv
    rw [add_zero_off]
    exact cell_of_row _ _ _ _ _ _ hg |>.trans (by rw [← hv]; simpa using rowM_at (n := n) (k := k) (j := i) (by omega)))
   have QG := Lib.hid hg; have QB := Lib.hid hb; have QC := Lib.hid hcs; have QL := Lib.hid hcl2
   have hjI : (k : Int) + (j : Int) ≤ (n : Int) := by omega
   clear hg hb hcs hj
   go_wp2_with fail
   go_region_law (refine step_copy_splice rfl (.tmp 41) (.tmp 44) 29 29 rfl 3 Tryd.underlying29 HSZ.out _ _ _ _ _ _ (by simp [Act.eval, Act.put]; rfl) (by simp [Act.eval, Act.put]; rfl) g k (rowM n k) 3 QG.out cs Q1.out (fun _ => ⟨rfl, _, rfl, QP.out⟩) Q2.out Q3.out g w (below_drew QB.out) (Nat.le_refl _) ?_; intro w2 HG2 hB2)
   have HGW := Lib.hid (show w2.heap[g]? = some (.cells (rowM n (k + j)).toArray 3 (0, 0)) from by
    have := HG2.out
    rw [QC.out, rowM_splice (by omega)] at this
    exact this)
   have HBW := Lib.hid hB2
   clear HG2 hB2
   simp only [puts]
   have hwr : IntKind.i64.wrap ((k : Int) + (j : Int)) = ((k + j : Nat) : Int) := by rw [IntKind.wrap_i64]; omega
   rw [hwr]
   clear hwr
   go_wp2
   go_roundw
   case rel => exact ⟨k + j, by omega, by omega, rfl, HGW.out, HBW.out⟩
   case measure => simp [intOf]; omega
  ·obtain rfl : k = n := by omega
   have QG := Lib.hid hg; have QB := Lib.hid hb
   clear hg hb
   have hltI : ¬ (k : Int) < (k : Int) := by omega
   go_wp2
   go_ret
   rw [← HGG.out]
   exact ⟨rfl, by rw [← rowM_full]; exact QG.out, QB.out⟩
end Go.Proofs.YtnmnnokdoiagkaaDoor.flow

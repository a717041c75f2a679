/-
  What leb.Put and the reference's Put hand back: a new slice that holds a number's bytes. Both are what putL says.
-/
import Derived.Test.YtdenpefihplnoaaProg
import Derived.Test.YtdenpefihplnoaaNum
import Derived.Test.YtdenpefihplnoaaWords
import Derived.Lib.Hide
import Derived.WalkSpells
namespace Go.Proofs.Ytdenpefihplnoaa.put
open Go.RowKit
open Go.Proofs.Ytdenpefihplnoaa.num Go.Proofs.Ytdenpefihplnoaa.words

set_option maxRecDepth 100000 in
theorem info5 : (Try.prog.info? 5).map (fun i => (i.zero, i.size, i.bytes)) = some (some (.int .u8 0), 1, 1) := by kernel_rfl

/-- a new slice of bytes: what it holds, and that nothing which was there has changed -/
def New (w : World) (l : List Nat) (e : Ending) (w' : World) : Prop :=
  ∃ v, e = .returned v ∧ w'.ownsRow w.heap.size 5 1 v l.length (B l) ∧ Below w.heap.size w w'

set_option maxRecDepth 100000 in
set_option maxHeartbeats 400000 in
theorem clone_any (A : Option Addr) (n c : Nat) (l : List Nat) (w : World) (hr : Rd w A (B l)) (hl : l.length = n) (hn : n ≤ 140737488355328) :
    Calls Try.prog 34 #[.slice A n c] w (New w l) := by
  obtain ⟨i0, hi0, hz0, hz1, hz2⟩ := info_parts info5
  have hlit := World.ownsRow_lit (base := w.heap.size) (e := 5) (size := 1) w #[] 0 (Nat.le_refl _) (by simp [maxLen]) rfl
  have heq := Lib.run_eql_slice_nil w 33 5 A n c 0 0 Try.underlying33
  have hL := Lib.hid hl; clear hl
  have hN := Lib.hid hn; clear hn
  rcases A with _ | a
  · have hnil : l = [] := by
      rcases hr with h | ⟨a, h, _⟩
      · simpa [B] using h
      · cases h
    have hres : New w l (.returned (.slice none 0 0)) w := by
      subst hnil
      exact ⟨_, rfl, World.ownsRow_nil _ _ _ _, Below.refl _ _⟩
    have HR := Lib.hid hres; clear hres hnil
    go_enter Try.func34, Try.ntmps34
    go_wp2
    go_ret
    exact HR.out
  · go_enter Try.func34, Try.ntmps34
    go_wp2_with (at_builtin; refine wpList_app _ rfl (.tmp 5) (.tmp 6) _ rfl w.heap.size 5 i0 _ 1 1 Try.underlying33 hi0 hz0 hz1 hz2 rfl (by omega) _ 0 [] rfl hlit (some a) n c (B l) rfl (by rw [B_len, hL.out]; omega) (hr.below ((Below.refl _ _).alloc (Nat.le_refl _) _)) (B_one l) (by have := hN.out; simp only [maxLen]; omega) (by have := hN.out; omega) (by simp) ?_; intro v' w1 hown1 hg1 hb1 hat1)
    go_ret
    refine ⟨v', rfl, ?_, (((Below.refl _ _).alloc (Nat.le_refl _) _).trans hb1)⟩
    rw [hL.out]
    simpa using hown1

theorem or_byte_nat : ∀ x : Fin 256, x.val ||| 128 = x.val % 128 + 128 := by decide +kernel
theorem or_byte (m : Nat) : bits .or .u8 ((m : Int) % 256) 128 = ((m % 128 + 128 : Nat) : Int) := by
  have e : (m : Int) % 256 = ((m % 256 : Nat) : Int) := by omega
  have h := u8_or_nat (m % 256) 128 (by omega) (by omega)
  rw [show (((128 : Nat) : Int)) = 128 from rfl] at h
  rw [e, h, or_byte_nat ⟨m % 256, by omega⟩]
  congr 1
  show m % 256 % 128 + 128 = _
  omega
set_option maxRecDepth 100000 in
theorem len45 : Try.prog.arrayLen 71 = 10 := by kernel_rfl
set_option maxRecDepth 100000 in
theorem elem45 : Try.prog.elem 71 = 5 := by kernel_rfl
set_option maxRecDepth 100000 in
theorem size5 (w : World) : (sizeOf 5).run Try.prog w = .ok 1 w := by kernel_rfl
set_option maxRecDepth 100000 in
theorem cutArr (b k : Nat) (hk : k ≤ 10) (w : World) :
    (Instr.sliceAt 71 (.pointer (some ⟨b, 0, none⟩)) none (some (.int .i64 (k : Int))) none).run Try.prog w = .ok (.slice (some ⟨b, 0, none⟩) k 10) w := by
  have hu : Try.prog.underlying 71 = some (.array (Try.prog.arrayLen 71) (Try.prog.elem 71)) := by kernel_rfl
  rw [run_sliceAt_array_h w _ _ hu .i64 (k : Int) (by omega) (by rw [len45]; omega), elem45, size5, len45]
  simp [slicedAt, Addr.add]

/-- the bytes laid so far, and what is left of the number -/
def Laid (w wr : World) (n m j : Nat) : Prop :=
  ∃ (cs : Array Value) (xs : List Nat), wr.heap[w.heap.size]? = some (.cells cs 71 (0, 0)) ∧ cs.size = 10 ∧ cs.toList.take j = B xs ∧ xs.length = j ∧ xs ++ putL m = putL n ∧ Below w.heap.size w wr ∧ wr.heap.size = w.heap.size + 1
theorem Laid.room {w wr : World} {n m j : Nat} (h : Laid w wr n m j) (hn : n < 18446744073709551616) : j ≤ 9 := by
  obtain ⟨cs, xs, _, _, _, hx, he, _⟩ := h
  have h1 := putL_len10 n hn
  rw [← he, List.length_append] at h1
  have := putL_pos m
  omega
theorem Laid.cell {w wr : World} {n m j : Nat} (h : Laid w wr n m j) (hj : j ≤ 9) : ∃ u, wr.cell? ⟨w.heap.size, j, none⟩ = some u ∧ wr.frozen? ⟨w.heap.size, j, none⟩ = false := by
  obtain ⟨cs, xs, hc, hs, _⟩ := h
  refine ⟨cs[j]'(by omega), ?_, frozen_of_row wr _ j cs _ hc⟩
  rw [cell_of_row wr _ j cs _ (0, 0) hc]
  exact Array.getElem?_eq_getElem (by omega)
theorem take_set {cs : Array Value} {j : Nat} {xs : List Nat} {x : Nat} (hs : j < cs.size) (ht : cs.toList.take j = B xs) :
    (cs.setIfInBounds j (.int .u8 (x : Int))).toList.take (j + 1) = B (xs ++ [x]) := by
  rw [Array.toList_setIfInBounds, B_app, ← ht]
  rw [List.take_add_one, List.take_set_of_le (by omega)]
  simp [B, hs]
theorem Laid.store {w wr : World} {n m j : Nat} (h : Laid w wr n m j) (hj : j ≤ 9) (hm : 128 ≤ m) :
    Laid w (wr.setCell ⟨w.heap.size, j, none⟩ (.int .u8 ((m % 128 + 128 : Nat) : Int))) n (m / 128) (j + 1) := by
  obtain ⟨cs, xs, hc, hs, ht, hx, he, hb, hz⟩ := h
  refine ⟨_, xs ++ [m % 128 + 128], heap_setCell_same wr _ j cs _ _ hc, by simpa using hs, take_set (by omega) ht, by simp [hx], ?_, hb.setCell (Nat.le_refl _) _, by simpa using hz⟩
  rw [← he, putL_ge hm]; simp
theorem Laid.last {w wr : World} {n m j : Nat} (h : Laid w wr n m j) (hj : j ≤ 9) (hm : m < 128) :
    Rd (wr.setCell ⟨w.heap.size, j, none⟩ (.int .u8 (m : Int))) (some ⟨w.heap.size, 0, none⟩) (B (putL n)) ∧ (putL n).length = j + 1 ∧ Below w.heap.size w (wr.setCell ⟨w.heap.size, j, none⟩ (.int .u8 (m : Int))) := by
  obtain ⟨cs, xs, hc, hs, ht, hx, he, hb, hz⟩ := h
  have e : putL n = xs ++ [m] := by rw [← he, putL_lt hm]
  exact ⟨rd_blk (heap_setCell_same wr _ j cs _ _ hc) (k := j + 1) (by rw [e]; exact take_set (by omega) ht), by rw [e]; simp [hx], hb.setCell (Nat.le_refl _) _⟩

set_option maxRecDepth 100000 in
set_option maxHeartbeats 400000 in
theorem put_any (n : Nat) (w : World) (hn : n < 18446744073709551616) : Calls Try.prog 18 #[.int .u64 (n : Int)] w (New w (putL n)) := by
  have hnI : (n : Int) ≤ 18446744073709551615 := by omega
  have HN := Lib.hid hn; clear hn
  go_enter Try.func18, Try.ntmps18
  go_wp2
  go_loopw [0, 4] (fun x i wr => ∃ m j : Nat, x = .int .u64 (m : Int) ∧ i = .int .i64 (j : Int) ∧ m ≤ n ∧ Laid w wr n m j) (fun x _ _ => (intOf x).toNat)
  case atStart =>
    refine ⟨n, 0, rfl, rfl, Nat.le_refl _, _, [], heap_alloc_new w _, rfl, rfl, rfl, rfl, (Below.refl _ _).alloc (Nat.le_refl _) _, by simp⟩
  case round =>
    obtain ⟨m, j, rfl, rfl, hmn, hlaid⟩ := hrel
    have hj := hlaid.room HN.out
    obtain ⟨u, hc, hf⟩ := hlaid.cell hj
    have hm : (m : Int) ≤ 18446744073709551615 := by omega
    have hor := or_byte m
    clear hnI
    have HL := Lib.hid hlaid; clear hlaid
    have HB := Lib.hid hor; clear hor
    have HM := Lib.hid hmn; clear hmn
    by_cases hlt : 128 ≤ m
    · go_wp2
      go_roundw
      case rel => exact ⟨m / 128, j + 1, by go_num, by go_num, by have := HM.out; omega, by rw [HB.out]; exact HL.out.store hj hlt⟩
      case measure => simp [intOf]; omega
    · have hcut := cutArr w.heap.size (j + 1) (by omega)
      rw [show (((j + 1 : Nat) : Int)) = (j : Int) + 1 from rfl] at hcut
      obtain ⟨hrd, hlen, hbel⟩ := HL.out.last hj (by omega)
      have HR := Lib.hid hrd; clear hrd
      have HE := Lib.hid hlen; clear hlen
      have HW := Lib.hid hbel; clear hbel
      go_wp2_with (go_at_call 34; refine (clone_any (some ⟨w.heap.size, 0, none⟩) (j + 1) 10 (putL n) _ HR.out HE.out (by omega)).mono ?_; rintro e w' ⟨v, rfl, hown, hb2⟩)
      go_ret
      refine ⟨v, rfl, own_base hown HW.out.size, HW.out.trans (hb2.mono HW.out.size)⟩
end Go.Proofs.Ytdenpefihplnoaa.put

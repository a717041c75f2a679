/-
 Layer 21: whether a pattern is plain: the program's answer, of any bytes (the library's IndexAny goes through a short text rune by rune).
-/
import Derived.Test.YtcaaljioennnnaaShelf
import Derived.Test.YtcaaljioennnnaaGlobS
import Derived.Test.YtcaaljioennnnaaGlobC
import Derived.Laws.RangeAny
import Derived.Laws.Runes
namespace Go.Proofs.Ytcaaljioennnnaa.glob
open Go.RowKit
open Go.Proofs.Ytcaaljioennnnaa.words
set_option linter.all false
theorem get_is (s : ByteArray) (k : Nat) (h : k < s.size) : s.get! k = s[k]'h := by
 simp [ByteArray.get!, getElem!_pos, h]
 rfl
/-- what a step over a byte that is no ASCII goes over -/
theorem decode_skip (s : ByteArray) (pos : Nat) (h : pos < s.size) (ha : 128 ≤ (s[pos]'h).toNat) :
  128 ≤ (Utf8.decode s pos).1 ∧ (Utf8.decode s pos).1 ≤ 1114111 ∧ Utf8.valid ((Utf8.decode s pos).1 : Int) = true ∧ 1 ≤ (Utf8.decode s pos).2 ∧ pos + (Utf8.decode s pos).2 ≤ s.size ∧ ∀ t, t < (Utf8.decode s pos).2 → 128 ≤ (s.get! (pos + t)).toNat := by
 have h0 : 128 ≤ (s.get! (pos + 0)).toNat := by rw [get_is s (pos + 0) (by omega)]; exact ha
 have hb : ∀ k, (s.get! (pos + k)).toNat < 256 := fun k => (s.get! (pos + k)).toNat_lt
 have h00 := hb 0; have h01 := hb 1; have h02 := hb 2; have h03 := hb 3
 simp only [Utf8.decode]
 rw [if_neg (by omega)]
 have one : 128 ≤ Utf8.runeError ∧ Utf8.runeError ≤ 1114111 ∧ Utf8.valid (Utf8.runeError : Int) = true ∧ 1 ≤ 1 ∧ pos + 1 ≤ s.size ∧ ∀ t, t < 1 → 128 ≤ (s.get! (pos + t)).toNat :=
  ⟨by decide, by decide, by decide, Nat.le_refl _, h, fun t ht => by rw [show t = 0 by omega]; exact h0⟩
 split
 ·rename_i hc
  simp only [Bool.and_eq_true, beq_iff_eq, decide_eq_true_eq] at hc
  split
  ·rename_i hg
   refine ⟨by omega, by omega, ?_, by omega, by omega, fun t ht => ?_⟩
   ·simp only [Utf8.valid, Bool.or_eq_true, Bool.and_eq_true, decide_eq_true_eq]; left; omega
   ·rcases Nat.lt_or_ge t 1 with h1 | h1
    ·rw [show t = 0 by omega]; exact h0
    ·rw [show t = 1 by omega]; omega
  ·exact one
 ·split
  ·rename_i hc
   simp only [Bool.and_eq_true, beq_iff_eq, decide_eq_true_eq] at hc
   split
   ·rename_i hg
    simp only [Bool.and_eq_true, decide_eq_true_eq] at hg
    refine ⟨by omega, by omega, hg.2, by omega, by omega, fun t ht => ?_⟩
    rcases Nat.lt_or_ge t 1 with h1 | h1
    ·rw [show t = 0 by omega]; exact h0
    ·rcases Nat.lt_or_ge t 2 with h2 | h2
     ·rw [show t = 1 by omega]; omega
     ·rw [show t = 2 by omega]; omega
   ·exact one
  ·split
   ·rename_i hc
    simp only [Bool.and_eq_true, beq_iff_eq, decide_eq_true_eq] at hc
    split
    ·rename_i hg
     simp only [Bool.and_eq_true, decide_eq_true_eq] at hg
     refine ⟨by omega, ?_, hg.2, by omega, by omega, fun t ht => ?_⟩
     ·have := hg.2
      simp only [Utf8.valid, Bool.or_eq_true, Bool.and_eq_true, decide_eq_true_eq] at this
      omega
     ·rcases Nat.lt_or_ge t 1 with h1 | h1
      ·rw [show t = 0 by omega]; exact h0
      ·rcases Nat.lt_or_ge t 2 with h2 | h2
       ·rw [show t = 1 by omega]; omega
       ·rcases Nat.lt_or_ge t 3 with h3 | h3
        ·rw [show t = 2 by omega]; omega
        ·rw [show t = 3 by omega]; omega
    ·exact one
   ·exact one
/-- a step of a range over a string, wherever its place lies -/
theorem next_any {P : Program} (w : World) (b : Nat) (s : ByteArray) (pos : Nat) (hb : w.heap[b]? = some (.stringIter s pos)) (h : pos < s.size) :
  ∃ w1, (∀ ty, (Instr.next (.pointer (some ⟨b, 0, none⟩)) true ty).run P w = .ok (.tuple #[.bool true, .int .i64 (pos : Int), .int .i32 ((Utf8.decode s pos).1 : Int)]) w1) ∧ w1.heap[b]? = some (.stringIter s (pos + (Utf8.decode s pos).2)) ∧ (∀ B, B ≤ b → Below B w w1) := by
 have hlt := blk_lt hb
 refine ⟨{ w with heap := w.heap.setIfInBounds b (.stringIter s (pos + (Utf8.decode s pos).2)) }, fun ty => ?_, ?_, ?_⟩
 ·simp only [Instr.next, getObj, setObj, Sem.run_bind, Sem.run, hb, Result.andThen, h, if_true]
  simp [goInt]
 ·simp [hlt]
 ·intro B hB
  exact ⟨rfl, rfl, rfl, by simp, fun k hk => by show (w.heap.setIfInBounds b _)[k]? = _; simp [show b ≠ k by omega]⟩
theorem next_end {P : Program} (w : World) (b : Nat) (s : ByteArray) (pos : Nat) (hb : w.heap[b]? = some (.stringIter s pos)) (h : s.size ≤ pos) (ty : TypeId) :
  (Instr.next (.pointer (some ⟨b, 0, none⟩)) true ty).run P w = .ok (.tuple #[.bool false]) w := by
 have h2 : ¬ pos < s.size := by omega
 simp [Instr.next, getObj, Sem.run, hb, h2]
def wildB : ByteArray := ⟨#[42, 63]⟩
theorem wild0 : Utf8.decode wildB 0 = (42, 1) := by decide +kernel
theorem wild1 : Utf8.decode wildB 1 = (63, 1) := by decide +kernel
theorem iterPos_of {w : World} {g : Nat} {s : ByteArray} {p : Nat} (h : w.heap[g]? = some (.stringIter s p)) : w.iterPos g = p := by unfold World.iterPos; rw [h]
set_option maxRecDepth 100000 in
set_option maxHeartbeats 8000000 in
theorem rune_err (w : World) : Calls Try.prog 37 #[.string ⟨#[42, 63]⟩, .int .i32 65533] w fun e w' => e = .returned (.int .i64 (-1)) ∧ Below w.heap.size w w' := by
 have hz : (⟨#[42, 63]⟩ : ByteArray).size = 2 := rfl
 obtain ⟨g, hg⟩ : ∃ g, g = w.heap.size := ⟨_, rfl⟩
 have HI := Lib.hid (show (w.iter wildB 0).heap[g]? = some (.stringIter wildB 0) from by rw [hg]; exact w.iter_heap wildB 0)
 have HB := Lib.hid (show Below g w (w.iter wildB 0) from by rw [hg]; exact (Below.refl _ w).alloc (Nat.le_refl _) _)
 have HG := Lib.hid hg
 rw [← hg]
 clear hg
 go_enter Try.func37, Try.ntmps37
 go_wp2
 rw [← HG.out]
 go_loopw [5, 6] (fun _ _ wr => ∃ pos : Nat, pos ≤ 2 ∧ wr.heap[g]? = some (.stringIter wildB pos) ∧ Below g w wr) (fun _ _ wr => 2 - wr.iterPos g)
 case atStart => exact ⟨0, by omega, HI.out, HB.out⟩
 case round =>
  obtain ⟨pos, hp, hi, hb⟩ := hrel
  have HP := Lib.hid (iterPos_of hi)
  rcases Nat.lt_or_ge pos 2 with h2 | h2
  ·obtain ⟨w1, hnx, hi1, hb1⟩ := next_any (P := Try.prog) wr g wildB pos hi h2
   have hc : (Utf8.decode wildB pos).2 = 1 ∧ ((Utf8.decode wildB pos).1 : Int) = (if pos = 0 then 42 else 63) := by
    rcases pos with _ | pos
    ·rw [wild0]; exact ⟨rfl, rfl⟩
    ·obtain rfl : pos = 0 := by omega
     rw [wild1]; exact ⟨rfl, rfl⟩
   obtain ⟨r, hr⟩ : ∃ r : Int, r = ((Utf8.decode wildB pos).1 : Int) := ⟨_, rfl⟩
   rw [← hr] at hnx hc
   have hre : (r == 65533) = false := by rw [hc.2]; split <;> rfl
   rw [hc.1] at hi1
   have HI1 := Lib.hid hi1; have HB1 := Lib.hid (hb.trans (hb1 g (Nat.le_refl _)))
   have HPP := Lib.hid (iterPos_of hi1)
   clear hr hc hi hi1 hb hb1 HI HB
   go_wp2
   go_roundw
   case rel => exact ⟨pos + 1, by omega, HI1.out, HB1.out⟩
   case measure => rw [HPP.out, HP.out]; omega
  ·have hnx := fun ty => next_end (P := Try.prog) wr g wildB pos hi h2 ty
   have HBB := Lib.hid hb
   clear hi hb HI HB
   go_wp2
   go_ret
   exact ⟨rfl, HBB.out⟩
set_option maxRecDepth 100000 in
set_option maxHeartbeats 8000000 in
theorem rune_high (r : Int) (w : World) (h1 : 128 ≤ r) (h2 : r ≤ 1114111) (hv : Utf8.valid r = true) : Calls Try.prog 37 #[.string ⟨#[42, 63]⟩, .int .i32 r] w fun e w' => e = .returned (.int .i64 (-1)) ∧ Below w.heap.size w w' := by
 by_cases he : r = 65533
 ·subst he; exact rune_err w
 ·have hre : (r == 65533) = false := by rw [beq_eq_false_iff_ne]; exact he
  have hvr : Lib.validRune r = true := by
   unfold Lib.validRune
   simp only [Utf8.valid, Bool.or_eq_true, Bool.and_eq_true, decide_eq_true_eq] at hv
   rw [decide_eq_true_eq]; omega
  have HV := Lib.hid (fun w => (show Calls Try.prog 43 #[.int .i32 r] w fun e w' => e = .returned (.bool true) ∧ w' = w from by rw [← hvr]; exact Try.utf8_ValidRune r w))
  obtain ⟨e1, e2, e3⟩ := encode_facts r hv h1
  obtain ⟨x, hx⟩ : ∃ x, x = Utf8.encode r := ⟨_, rfl⟩
  have hcv : ∀ w, (convert 21 9 (.int .i32 r)).run Try.prog w = .ok (.string x) w := fun w => by rw [hx]; exact run_convert_int_string w _ _ .i32 r rfl Try.underlying9
  rw [← hx] at e1 e2 e3
  have he1 : (2 : Int) ≤ (x.size : Int) := by omega
  have he2 : (x.size : Int) ≤ 4 := by omega
  have h128 : ¬ r < 128 := by omega
  have h0 : 0 ≤ r := by omega
  clear hv he hvr hx
  have HE3 := Lib.hid e3
  obtain ⟨n, hn⟩ : ∃ n, x.size = n + 1 := ⟨x.size - 1, by omega⟩
  have hnI : (x.size : Int) - 1 = (n : Int) := by omega
  by_cases hn1 : n = 1
  ·subst hn1
   have hlt : 1 < x.size := by omega
   have hltI : 1 < (x.size : Int) := by omega
   have h63 := e3 (by omega)
   simp only [hn] at h63
   have hne : ((63 : Int) == ((x[1]'hlt).toNat : Int)) = false := by rw [beq_eq_false_iff_ne]; have : 128 ≤ (x[1]'hlt).toNat := h63; omega
   have hne2 : ((63 : Int) != ((x[1]'hlt).toNat : Int)) = true := by rw [bne, hne]; rfl
   have hne3 : (((((⟨#[42, 63]⟩ : ByteArray)[1]'(by decide)).toNat : Nat) : Int) != ((x[1]'hlt).toNat : Int)) = true := hne2
   have hne4 : (((((⟨#[42, 63]⟩ : ByteArray)[1]'(by decide)).toNat : Nat) : Int) == ((x[1]'hlt).toNat : Int)) = false := hne
   have HB := Lib.hid (fun (c : Int) w => (show Calls Try.prog 27 #[.string ByteArray.empty, .int .u8 c] w fun e w' => e = .returned (.int .i64 (-1)) ∧ w' = w from Try.strings_IndexByte ByteArray.empty c w))
   clear e3 HE3 h63 e1 e2
   go_enter Try.func37, Try.ntmps37
   go_wp2_with fail
   refine (HV.out _).mono ?_
   rintro e w1 ⟨rfl, hw⟩; subst hw
   go_wp2
   go_step3
   go_wp2
   go_loopw [9, 10] (fun i f wr => i = .int .i64 1 ∧ f = .int .i64 0 ∧ wr = w1) (fun _ _ _ => 0)
   case atStart => exact ⟨rfl, rfl, rfl⟩
   case round =>
    obtain ⟨rfl, rfl, hw⟩ := hrel
    subst hw
    clear HV
    go_wp2
    go_step3
    go_wp2
    go_quiet (fail)
    go_wp2
    go_quiet ((exact (HB.out _ _).mono (fun _ _ hh => ⟨hh.1, _, hh.2⟩)))
    go_wp2
    rw [Exit.noGoto_ret]
    simp +zetaDelta only [Exit.inBlock, Exit.then, Exit.noGoto_ret]
    go_ret
    exact ⟨rfl, over (Below.refl _ _)⟩
  ·have hn2 : 2 ≤ n := by omega
   have hn2I : (2 : Int) ≤ (n : Int) := by omega
   have hn2N : ¬ (n : Int) < 2 := by omega
   clear e3 HE3 e1 e2 hn
   go_enter Try.func37, Try.ntmps37
   go_wp2_with fail
   refine (HV.out _).mono ?_
   rintro e w1 ⟨rfl, hw⟩; subst hw
   go_wp2
   go_step3
   go_wp2
   go_loopw [9, 10] (fun i f wr => i = .int .i64 (n : Int) ∧ f = .int .i64 0 ∧ wr = w1) (fun _ _ _ => 0)
   case atStart => exact ⟨rfl, rfl, rfl⟩
   case round =>
    obtain ⟨rfl, rfl, hw⟩ := hrel
    subst hw
    clear HV
    go_wp2
    (try rw [Exit.noGoto_ret])
    go_ret
    exact ⟨rfl, Below.refl _ _⟩
/-- no wild byte among the first k -/
def okB (s : ByteArray) (k : Nat) : Prop := ∀ j, j < k → j < s.size → okp (s.get! j) = true
theorem okp_high {c : UInt8} (h : 128 ≤ c.toNat) : okp c = true := by
 unfold okp
 have h1 : ¬ c = 42 := fun e => by rw [e] at h; exact absurd h (by decide)
 have h2 : ¬ c = 63 := fun e => by rw [e] at h; exact absurd h (by decide)
 simp [h1, h2]
theorem okB_high {s : ByteArray} {k n : Nat} (h : okB s k) (hn : ∀ t, t < n → 128 ≤ (s.get! (k + t)).toNat) : okB s (k + n) := by
 intro j hj hs
 rcases Nat.lt_or_ge j k with h1 | h1
 ·exact h j h1 hs
 ·have := hn (j - k) (by omega)
  rw [show k + (j - k) = j by omega] at this
  exact okp_high this
theorem okB_low {s : ByteArray} {k : Nat} (hk : k < s.size) (h : okB s k) (hc : okp (s[k]'hk) = true) : okB s (k + 1) := by
 intro j hj hs
 rcases Nat.lt_or_ge j k with h1 | h1
 ·exact h j h1 hs
 ·obtain rfl : j = k := by omega
  rw [get_is s j hs]; exact hc
theorem okB_all {s : ByteArray} (h : okB s s.size) : plainL (lb s) = true := by
 unfold plainL
 rw [List.all_eq_true]
 intro c hc
 obtain ⟨j, hj, rfl⟩ := List.mem_iff_getElem.1 hc
 rw [lb_len] at hj
 have := h j hj hj
 rw [get_is s j hj] at this
 rw [lb_at s j hj]
 exact this
set_option maxRecDepth 100000 in
set_option maxHeartbeats 8000000 in
theorem any_short (s : ByteArray) (w : World) (hs : s.size ≤ 8) : Calls Try.prog 30 #[.string s, .string ⟨#[42, 63]⟩] w fun e w' => (∃ n : Int, e = .returned (.int .i64 n) ∧ decide (n < 0) = plainL (lb s)) ∧ Below w.heap.size w w' := by
 have HU := Lib.hid (fun w => (show Calls Try.prog 38 #[.int .i64 (s.size : Int)] w fun e w' => e = .returned (.bool false) ∧ w' = w from by
  have h := Try.strings_shouldUseASCIISet (s.size : Int) w
  rw [decide_eq_false (by omega)] at h
  exact h))
 have HRH := Lib.hid (fun r w h1 h2 hv => rune_high r w h1 h2 hv)
 have HRL := Lib.hid (fun (r : Int) w h0 h1 => Try.strings_IndexRune_ascii ⟨#[42, 63]⟩ r w h0 h1)
 have hsI : (s.size : Int) ≤ 8 := by omega
 obtain ⟨g, hg⟩ : ∃ g, g = w.heap.size := ⟨_, rfl⟩
 have HI := Lib.hid (show (w.iter s 0).heap[g]? = some (.stringIter s 0) from by rw [hg]; exact w.iter_heap s 0)
 have HB := Lib.hid (show Below g w (w.iter s 0) from by rw [hg]; exact (Below.refl _ w).alloc (Nat.le_refl _) _)
 have HG := Lib.hid hg
 have HGL := Lib.hid (show g < (w.iter s 0).heap.size from (blk_lt HI.out))
 rw [← hg]
 clear hg
 go_enter Try.func30, Try.ntmps30
 go_wp2_with fail
 refine (HU.out _).mono ?_
 rintro e w1 ⟨rfl, hw⟩; subst hw
 go_wp2
 rw [← HG.out]
 go_loopw [9, 10] (fun _ _ wr => ∃ pos : Nat, pos ≤ s.size ∧ wr.heap[g]? = some (.stringIter s pos) ∧ Below g w1 wr ∧ okB s pos) (fun _ _ wr => s.size - wr.iterPos g)
 case atStart => exact ⟨0, by omega, HI.out, HB.out, fun j hj => by omega⟩
 case round =>
  obtain ⟨pos, hp, hi, hb, hok⟩ := hrel
  have HP := Lib.hid (iterPos_of hi)
  have HOK := Lib.hid hok
  clear hok
  rcases Nat.lt_or_ge pos s.size with h2 | h2
  ·obtain ⟨w2, hnx, hi1, hb1⟩ := next_any (P := Try.prog) wr g s pos hi h2
   have HB1 := Lib.hid (hb.trans (hb1 g (Nat.le_refl _)))
   have hlt2 := blk_lt hi1
   by_cases hh : (s[pos]'h2).toNat < 128
   ·have hd := decode_ascii s pos h2 hh
    rw [hd] at hnx hi1
    have HPP := Lib.hid (iterPos_of hi1)
    have HI1 := Lib.hid hi1
    have HR := Lib.hid (fun w => HRL.out ((s[pos]'h2).toNat : Int) w (by omega) (by omega))
    by_cases hc : okp (s[pos]'h2) = true
    ·have HN := Lib.hid (okB_low h2 HOK.out hc)
     have hv : Lib.indexByte (⟨#[42, 63]⟩ : ByteArray).data.toList (((s[pos]'h2).toNat : Int)).toNat.toUInt8 = -1 := by
      have hb9 : ((s[pos]'h2).toNat : Int).toNat.toUInt8 = s[pos]'h2 := by simp
      rw [hb9]
      unfold okp at hc
      simp only [Bool.not_eq_true', Bool.or_eq_false_iff, beq_eq_false_iff_ne] at hc
      have q1 : ((42 : UInt8) == s[pos]'h2) = false := by rw [beq_eq_false_iff_ne]; exact fun e => hc.1 e.symm
      have q2 : ((63 : UInt8) == s[pos]'h2) = false := by rw [beq_eq_false_iff_ne]; exact fun e => hc.2 e.symm
      simp [Lib.indexByte, q1, q2]
     rw [hv] at HR
     clear hv hc hi hi1 hb hb1 hd hh HI HB HU HRH HRL HGL
     go_wp2_with fail
     refine (HR.out _).mono ?_
     rintro e w3 ⟨rfl, hw⟩; subst hw
     clear HR
     go_wp2
     go_roundw
     case rel => exact ⟨pos + 1, by omega, HI1.out, HB1.out, HN.out⟩
     case measure => rw [HPP.out, HP.out]; omega
    ·rw [Bool.not_eq_true] at hc
     have HN := Lib.hid (show plainL (lb s) = false from plain_no h2 (by
      unfold okp at hc
      simp only [Bool.not_eq_false', Bool.or_eq_true, beq_iff_eq] at hc
      exact hc))
     obtain ⟨n, hn⟩ : ∃ n : Int, n = Lib.indexByte (⟨#[42, 63]⟩ : ByteArray).data.toList (((s[pos]'h2).toNat : Int)).toNat.toUInt8 := ⟨_, rfl⟩
     have hn0 : 0 ≤ n := by
      have hb9 : ((s[pos]'h2).toNat : Int).toNat.toUInt8 = s[pos]'h2 := by simp
      rw [hn, hb9]
      unfold okp at hc
      simp only [Bool.not_eq_false', Bool.or_eq_true, beq_iff_eq] at hc
      rcases hc with e | e <;> rw [e] <;> decide
     rw [← hn] at HR
     clear hn hc hi hi1 hb hb1 hd hh HI HB HU HRH HRL HGL
     go_wp2_with fail
     refine (HR.out _).mono ?_
     rintro e w3 ⟨rfl, hw⟩; subst hw
     clear HR
     go_wp2
     go_ret
     exact ⟨⟨_, rfl, by rw [HN.out, decide_eq_false_iff_not]; omega⟩, HB1.out⟩
   ·obtain ⟨d1, d2, d3, d4, d5, d6⟩ := decode_skip s pos h2 (by omega)
    obtain ⟨r, hr⟩ : ∃ r : Int, r = ((Utf8.decode s pos).1 : Int) := ⟨_, rfl⟩
    obtain ⟨k, hk⟩ : ∃ k, k = (Utf8.decode s pos).2 := ⟨_, rfl⟩
    rw [← hr] at hnx d3
    rw [← hk] at hi1 d4 d5 d6
    have HR := Lib.hid (fun w => HRH.out r w (by omega) (by omega) d3)
    have HN := Lib.hid (okB_high HOK.out d6)
    have HI1 := Lib.hid hi1
    have HPP := Lib.hid (iterPos_of hi1)
    clear d1 d2 d3 d6 hr hk hi hi1 hb hb1 hh HI HB HU HRH HRL HGL
    go_wp2_with fail
    refine (HR.out _).mono ?_
    rintro e w3 ⟨rfl, hb3⟩
    have HI3 := Lib.hid ((hb3.block g hlt2).trans HI1.out)
    have HB3 := Lib.hid (HB1.out.trans (hb3.mono (by omega)))
    have HPQ := Lib.hid (iterPos_of HI3.out)
    clear hb3 HR
    go_wp2
    go_roundw
    case rel => exact ⟨pos + k, by omega, HI3.out, HB3.out, HN.out⟩
    case measure => rw [HPQ.out, HP.out]; omega
  ·have hnx := fun ty => next_end (P := Try.prog) wr g s pos hi h2 ty
   have HBB := Lib.hid hb
   have HN := Lib.hid (show plainL (lb s) = true from okB_all (by rw [← show pos = s.size by omega]; exact HOK.out))
   clear hi hb HI HB HU HRH HRL HGL
   go_wp2
   go_ret
   exact ⟨⟨_, rfl, by rw [HN.out]; rfl⟩, HBB.out⟩
end Go.Proofs.Ytcaaljioennnnaa.glob

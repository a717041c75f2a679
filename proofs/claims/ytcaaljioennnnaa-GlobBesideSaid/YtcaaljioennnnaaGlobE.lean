/-
 Layer 21: how many bytes of a pattern are not *, and which texts of some it matches: the program's answers, and the document's.
-/
import Derived.Test.YtcaaljioennnnaaShelf
import Derived.Test.YtcaaljioennnnaaGlobS
import Derived.Test.YtcaaljioennnnaaGlobD
import Derived.RangeFuncBox
namespace Go.Proofs.Ytcaaljioennnnaa.glob
open Go.RowKit
open Go.Proofs.Ytcaaljioennnnaa.words
set_option linter.all false
theorem least_count (l : List UInt8) : leastL l + l.count 42 = l.length := by
 induction l with
 | nil => rfl
 | cons c l ih =>
  unfold leastL at ih ⊢
  by_cases h : c = 42
  ·subst h
   simp at ih ⊢; omega
  ·have h2 : (c == 42) = false := by simpa using h
   simp [h2, List.count_cons] at ih ⊢; omega
set_option maxRecDepth 100000 in
set_option maxHeartbeats 8000000 in
theorem least_w (s : ByteArray) (w : World) (hs : s.size ≤ 281474976710656) : Calls Try.prog 16 #[.string s] w fun e w' => e = .returned (.int .i64 ((leastL (lb s) : Nat) : Int)) ∧ w' = w := by
 have hl := least_count (lb s)
 rw [lb_len] at hl
 obtain ⟨n, hn⟩ : ∃ n, n = leastL (lb s) := ⟨_, rfl⟩
 obtain ⟨m, hm⟩ : ∃ m, m = (lb s).count 42 := ⟨_, rfl⟩
 rw [← hn, ← hm] at hl
 rw [← hn]
 have hlI : (s.size : Int) - (m : Int) = (n : Int) := by omega
 have hsI : (s.size : Int) ≤ 281474976710656 := by omega
 have HC := Lib.hid (fun w => (show Calls Try.prog 26 #[.string s, .string ⟨#[42]⟩] w fun e w' => e = .returned (.int .i64 (m : Int)) ∧ w' = w from by rw [hm]; exact Try.strings_Count_one s 42 w))
 clear hn hm
 go_enter Try.func16, Try.ntmps16
 go_wp2_with fail
 refine (HC.out _).mono ?_
 rintro e w1 ⟨rfl, hw⟩
 subst hw
 clear HC
 go_wp2
 go_ret
 exact ⟨rfl, rfl⟩
/-- texts as cells -/
def TX (l : List ByteArray) : List Value := l.map fun s => Value.string s
theorem TX_app (a b : List ByteArray) : TX (a ++ b) = TX a ++ TX b := by simp [TX]
theorem TX_len (a : List ByteArray) : (TX a).length = a.length := by simp [TX]
theorem TX_at {l : List ByteArray} {j : Nat} {s : ByteArray} (h : l[j]? = some s) : (TX l)[j]? = some (.string s) := by simp [TX, h]
def amongL (p : List UInt8) (l : List ByteArray) : List ByteArray := l.filter fun s => mat p (lb s)
theorem among_next {p : List UInt8} {l : List ByteArray} {k : Nat} {s : ByteArray} (h : l[k]? = some s) : amongL p (l.take (k + 1)) = amongL p (l.take k) ++ (if mat p (lb s) = true then [s] else []) := by
 unfold amongL
 rw [List.take_add_one, h, List.filter_append]
 congr 1
 cases hb : mat p (lb s) <;> simp [hb]
theorem infoS : (Try.prog.info? 9).map (fun i => (i.zero, i.size, i.bytes)) = some (some (.string ByteArray.empty), 1, 16) := by kernel_rfl
/-- what the texts become that a pattern matches -/
def AmongP (p : List UInt8) (l : List ByteArray) (w : World) (e : Ending) (w' : World) : Prop :=
 ∃ v, e = .returned v ∧ w'.ownsRow w.heap.size 9 1 v (amongL p l).length (TX (amongL p l)) ∧ Below w.heap.size w w'
theorem among_len (p l) : (amongL p l).length ≤ l.length := List.length_filter_le _ _
set_option maxRecDepth 100000 in
set_option maxHeartbeats 8000000 in
theorem among_w (p : ByteArray) (A : Option Addr) (c : Nat) (l : List ByteArray) (w : World) (hp : p.size ≤ 1000) (hl : l.length ≤ 1000) (hsz : ∀ s ∈ l, s.size ≤ 1000) (hr : Rd w A (TX l)) :
  Calls Try.prog 19 #[.string p, .slice A l.length c] w (AmongP (lb p) l w) := by
 obtain ⟨i0, hi, hz0, hz1, hz2⟩ := info_parts' infoS
 obtain ⟨n, hn⟩ : ∃ n, n = l.length := ⟨_, rfl⟩
 have hnI : (n : Int) ≤ 1000 := by omega
 rw [← hn]
 have HN := Lib.hid hn
 have HM := Lib.hid (fun (s : ByteArray) (w : World) h => match_w p s w hp h)
 have HSZ := Lib.hid hsz
 have HR := Lib.hid hr
 clear hn hl hsz hr
 go_enter Try.func19, Try.ntmps19
 go_wp2
 go_loopw [5, 10] (fun v i wr => ∃ k : Nat, i = .int .i64 (k : Int) ∧ k ≤ n ∧ wr.ownsRow w.heap.size 9 1 v (amongL (lb p) (l.take k)).length (TX (amongL (lb p) (l.take k))) ∧ Below w.heap.size w wr) (fun _ i _ => n - (intOf i).toNat)
 case atStart => exact ⟨0, rfl, Nat.zero_le _, World.ownsRow_nil _ _ _ _, Below.refl _ _⟩
 case round =>
  obtain ⟨k, rfl, hk, hown, hb⟩ := hrel
  have HO := Lib.hid hown; have HB := Lib.hid hb
  by_cases hlt : k < n
  ·have hltI : (k : Int) < (n : Int) := by omega
   obtain ⟨s, hs⟩ : ∃ s, l[k]? = some s := ⟨l[k]'(by rw [← HN.out]; exact hlt), List.getElem?_eq_getElem _⟩
   obtain ⟨a, ha, -, hcell⟩ := (HR.out.below hb).at_ (TX_at hs)
   subst ha
   have hs1 := HSZ.out s (List.mem_of_getElem? hs)
   have HX := Lib.hid (among_next (p := lb p) hs)
   have hq : (amongL (lb p) (l.take k)).length ≤ 1000 := by
    refine Nat.le_trans (among_len _ _) ?_
    rw [List.length_take]; omega
   obtain ⟨R, hR⟩ : ∃ R, R = amongL (lb p) (l.take k) := ⟨_, rfl⟩
   rw [← hR] at HO HX hq
   cases hm : mat (lb p) (lb s) with
   | false =>
    have HMM := Lib.hid (fun w => (show Calls Try.prog 14 #[.string p, .string s] w fun e w' => e = .returned (.bool false) ∧ Below w.heap.size w w' from by rw [← hm]; exact HM.out s w hs1))
    rw [if_neg (by rw [hm]; simp), List.append_nil] at HX
    clear hown hb hs hm HM hR hs1
    go_wp2_with fail
    refine (HMM.out _).mono ?_
    rintro e w1 ⟨rfl, hb1⟩
    have HO1 := Lib.hid (own_below HO.out hb1)
    have HB1 := Lib.hid (HB.out.trans (hb1.mono HB.out.size))
    clear hb1 hcell
    go_wp2
    go_roundw
    case rel => exact ⟨k + 1, by go_num, hlt, by rw [HX.out]; exact HO1.out, HB1.out⟩
    case measure => simp [intOf]; omega
   | true =>
    have HMM := Lib.hid (fun w => (show Calls Try.prog 14 #[.string p, .string s] w fun e w' => e = .returned (.bool true) ∧ Below w.heap.size w w' from by rw [← hm]; exact HM.out s w hs1))
    rw [if_pos hm] at HX
    clear hown hb hs hm HM hR hs1
    go_wp2_with fail
    refine (HMM.out _).mono ?_
    rintro e w1 ⟨rfl, hb1⟩
    have HO1 := Lib.hid (own_below HO.out hb1)
    have HB1 := Lib.hid (HB.out.trans (hb1.mono HB.out.size))
    clear hb1 hcell
    go_wp2_with (at_builtin; refine wpList_app _ rfl (.tmp 17) (.tmp 19) _ rfl w.heap.size 9 i0 _ 1 16 Try.underlying22 hi hz0 hz1 hz2 rfl (by decide) _ R.length (TX R) rfl (HO1.out.alloc _) _ 1 1 [.string s] rfl rfl (rd_blk (heap_alloc_new w1 _) (k := 1) rfl) (by simp [Value.oneCell']) (by unfold maxLen; omega) (by omega) (by have := HB1.out.size; simp; omega) ?_; intro v' w2 hown' hgrow hB1 hob)
    have HO2 := Lib.hid hown'
    have HB2 := Lib.hid (HB1.out.trans (below_alloc' HB1.out.size hB1))
    clear hown' hgrow hB1 hob
    go_wp2
    go_roundw
    case rel => exact ⟨k + 1, by go_num, hlt, by rw [HX.out, TX_app, List.length_append]; exact HO2.out, HB2.out⟩
    case measure => simp [intOf]; omega
  ·have hltI : ¬ (k : Int) < (n : Int) := by omega
   have HE := Lib.hid (show l.take k = l from List.take_of_length_le (by rw [← HN.out]; omega))
   obtain ⟨A9, c9, rfl, -, -, -⟩ := own_rd hown
   clear hown hb
   go_wp2
   go_ret
   exact ⟨_, rfl, by have := HO.out; rw [HE.out] at this ⊢; exact this, HB.out⟩
end Go.Proofs.Ytcaaljioennnnaa.glob

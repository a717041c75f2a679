/-
 Layer 21: whether two patterns have a text in common: the program's answer.
-/
import Derived.Test.YtcaaljioennnnaaShelf
import Derived.Test.YtcaaljioennnnaaGlobD
import Derived.Deep.RegionHeld
import Derived.BigRegion
namespace Go.Proofs.Ytcaaljioennnnaa.glob
open Go.RowKit
open Go.Proofs.Ytcaaljioennnnaa.words
set_option linter.all false
theorem first_of (l : List UInt8) : (Lib.indexByte l 42 = -1 ∧ noStar l) ∨ ∃ f : Nat, Lib.indexByte l 42 = f ∧ l[f]? = some 42 ∧ ∀ k, k < f → ¬ l[k]? = some 42 := by
 induction l with
 | nil => exact .inl ⟨rfl, fun _ h => by cases h⟩
 | cons c l ih =>
  unfold Lib.indexByte
  by_cases h : c = 42
  ·subst h
   exact .inr ⟨0, by simp, rfl, fun k hk => by omega⟩
  ·have hb : (c == 42) = false := by simpa using h
   rw [hb]
   rcases ih with ⟨h1, h2⟩ | ⟨f, h1, h2, h3⟩
   ·left
    rw [h1]
    refine ⟨rfl, ?_⟩
    intro d hd
    rcases List.mem_cons.1 hd with e | e
    ·rw [e]; exact h
    ·exact h2 d e
   ·right
    refine ⟨f + 1, ?_, by simpa using h2, ?_⟩
    ·rw [h1]
     have : ((f : Int) == -1) = false := by rw [beq_eq_false_iff_ne]; omega
     rw [this]; simp
    ·intro k hk
     rcases k with _ | k
     ·simpa using h
     ·simpa using h3 k (by omega)
theorem data_at (s : ByteArray) (k : Nat) (h : k < s.size) : (((s.data[k]!).toNat : Nat) : Int) = 42 ↔ (lb s)[k]? = some 42 := by
 rw [lb_some s k h, Option.some.injEq, getElem!_pos s.data k h]
 constructor
 ·intro e; apply UInt8.toNat_inj.1; show (s.data[k]'h).toNat = 42; omega
 ·intro e
  have : s.data[k]'h = 42 := e
  rw [this]; rfl
theorem stars_of (s : ByteArray) : (Lib.indexByte (lb s) 42 = -1 ∧ noStar (lb s)) ∨ ∃ f l : Nat, Lib.indexByte (lb s) 42 = f ∧ Lib.lastIndexByte s 42 = l ∧ Stars (lb s) f l := by
 rcases first_of (lb s) with h | ⟨f, h1, h2, h3⟩
 ·exact .inl h
 ·right
  have hfl : f < s.size := by
   rw [← lb_len]
   rcases Nat.lt_or_ge f (lb s).length with h | h
   ·exact h
   ·rw [List.getElem?_eq_none h] at h2; cases h2
  rcases Lib.lastIdx_spec s 42 s.size with ⟨h4, h5⟩ | ⟨i, h4, h5, h6, h7⟩
  ·exact absurd ((data_at s f hfl).2 h2) (h5 f hfl)
  ·refine ⟨f, i, h1, h5, h2, (data_at s i h4).1 h6, h3, ?_⟩
   intro k hk e
   rcases Nat.lt_or_ge k s.size with h8 | h8
   ·exact h7 k hk h8 ((data_at s k h8).2 e)
   ·rw [List.getElem?_eq_none (by rw [lb_len]; exact h8)] at e; cases e
theorem lb_head (s : ByteArray) (h : Nat) : lb (s.extract 0 h) = (lb s).take h := by unfold lb; simp
theorem lb_tail (s : ByteArray) (h : Nat) : lb (s.extract h s.size) = (lb s).drop h := by
 unfold lb
 rw [ByteArray.data_extract, Array.toList_extract, List.extract_eq_drop_take, List.take_of_length_le]
 rw [List.length_drop, Array.length_toList]; exact Nat.le_refl _
theorem ex_size (s : ByteArray) (i j : Nat) (hs : s.size ≤ 1000) : (s.extract i j).size ≤ 1000 := by rw [ByteArray.size_extract]; omega
set_option maxRecDepth 100000 in
set_option maxHeartbeats 8000000 in
theorem meets_w (a b : ByteArray) (w : World) (ha : a.size ≤ 1000) (hb : b.size ≤ 1000) :
  Calls Try.prog 21 #[.string a, .string b] w fun e w' => e = .returned (.bool (meets (lb a) (lb b))) ∧ Below w.heap.size w w' := by
 have HI := Lib.hid (fun s w => (show Calls Try.prog 27 #[.string s, .int .u8 42] w fun e w' => e = .returned (.int .i64 (Lib.indexByte (lb s) 42)) ∧ w' = w from Try.strings_IndexByte s 42 w))
 have HJ := Lib.hid (fun s (hs : s.size ≤ 1000) w => (show Calls Try.prog 28 #[.string s, .int .u8 42] w fun e w' => e = .returned (.int .i64 (Lib.lastIndexByte s 42)) ∧ w' = w from Try.strings_LastIndexByte s 42 (by omega) w))
 have HC := Lib.hid (fun p s w hp hs => com_leads p s w hp hs)
 have haI : (a.size : Int) ≤ 1000 := by omega
 have hbI : (b.size : Int) ≤ 1000 := by omega
 have HLA := Lib.hid (lb_len a); have HLB := Lib.hid (lb_len b)
 obtain ⟨f1, hf1⟩ : ∃ f1, f1 = Lib.indexByte (lb a) 42 := ⟨_, rfl⟩
 obtain ⟨l1, hl1⟩ : ∃ l1, l1 = Lib.lastIndexByte a 42 := ⟨_, rfl⟩
 obtain ⟨f2, hf2⟩ : ∃ f2, f2 = Lib.indexByte (lb b) 42 := ⟨_, rfl⟩
 obtain ⟨l2, hl2⟩ : ∃ l2, l2 = Lib.lastIndexByte b 42 := ⟨_, rfl⟩
 have SA := stars_of a
 have SB := stars_of b
 have HA1 := Lib.hid (HI.out a); have HA2 := Lib.hid (HJ.out a ha); have HB1 := Lib.hid (HI.out b); have HB2 := Lib.hid (HJ.out b hb)
 rw [← hf1] at SA HA1; rw [← hl1] at SA HA2; rw [← hf2] at SB HB1; rw [← hl2] at SB HB2
 have HHA := Lib.hid ha; have HHB := Lib.hid hb
 clear hf1 hl1 hf2 hl2 HI HJ ha hb
 go_enter Try.func21, Try.ntmps21
 go_wp2_with fail
 refine (HA1.out _).mono ?_
 rintro e w1 ⟨rfl, hw⟩; subst hw
 clear HA1
 go_wp2_with fail
 refine (HA2.out _).mono ?_
 rintro e w1 ⟨rfl, hw⟩; subst hw
 clear HA2
 go_wp2_with fail
 refine (HB1.out _).mono ?_
 rintro e w1 ⟨rfl, hw⟩; subst hw
 clear HB1
 go_wp2_with fail
 refine (HB2.out _).mono ?_
 rintro e w1 ⟨rfl, hw⟩; subst hw
 clear HB2
 rcases SB with ⟨h1, h2⟩ | ⟨g, m, h1, h2, hsb⟩
 ·subst h1
  have HE := Lib.hid (meets_one (a := lb a) h2)
  clear h2 SA
  go_wp2_with fail
  refine (HC.out _ _ _ HHA.out HHB.out).mono ?_
  rintro e w2 ⟨rfl, hb⟩
  have HB := Lib.hid hb
  clear hb
  go_wp2
  go_ret
  exact ⟨by rw [HE.out]; rfl, HB.out⟩
 ·subst h1; subst h2
  rcases SA with ⟨h1, h2⟩ | ⟨f, l, h1, h2, hsa⟩
  ·subst h1
   have HE := Lib.hid (show meets (lb a) (lb b) = matF comG (lb b) (lb a) from by rw [meets_comm]; exact meets_one h2)
   clear h2 hsb
   go_wp2_with fail
   refine (HC.out _ _ _ HHB.out HHA.out).mono ?_
   rintro e w2 ⟨rfl, hb⟩
   have HB := Lib.hid hb
   clear hb
   go_wp2
   go_ret
   exact ⟨by rw [HE.out]; rfl, HB.out⟩
  ·subst h1; subst h2
   have hfl := hsa.le
   have hgm := hsb.le
   rw [HLA.out] at hfl; rw [HLB.out] at hgm
   obtain ⟨h, hh⟩ : ∃ h, h = min f g := ⟨_, rfl⟩
   obtain ⟨t, ht⟩ : ∃ t, t = min (a.size - l) (b.size - m) - 1 := ⟨_, rfl⟩
   have hhI : min (f : Int) (g : Int) = (h : Int) := by omega
   have htI : min ((a.size : Int) - (l : Int)) ((b.size : Int) - (m : Int)) = (t : Int) + 1 := by omega
   have h1 : (h : Int) ≤ (a.size : Int) := by omega
   have h2 : (h : Int) ≤ (b.size : Int) := by omega
   have h3 : (t : Int) ≤ (a.size : Int) := by omega
   have h4 : (t : Int) ≤ (b.size : Int) := by omega
   have HE := Lib.hid (meets_stars hsa hsb)
   rw [HLA.out, HLB.out, ← hh, ← ht] at HE
   rw [← lb_head, ← lb_head] at HE
   have hta : (a.size : Int) - (t : Int) = ((a.size - t : Nat) : Int) := by omega
   have htb : (b.size : Int) - (t : Int) = ((b.size - t : Nat) : Int) := by omega
   obtain ⟨ta, hta2⟩ : ∃ ta, ta = a.size - t := ⟨_, rfl⟩
   obtain ⟨tb, htb2⟩ : ∃ tb, tb = b.size - t := ⟨_, rfl⟩
   rw [← hta2] at HE hta; rw [← htb2] at HE htb
   rw [← lb_tail, ← lb_tail] at HE
   have hta3 : (ta : Int) ≤ (a.size : Int) := by omega
   have htb3 : (tb : Int) ≤ (b.size : Int) := by omega
   have hwa : IntKind.i64.wrap (ta : Int) = (ta : Int) := IntWalk.i64_in _ (by omega)
   have hwb : IntKind.i64.wrap (tb : Int) = (tb : Int) := IntWalk.i64_in _ (by omega)
   clear hh ht hsa hsb hta2 htb2
   cases hM : matF comG (lb (a.extract 0 h)) (lb (b.extract 0 h)) with
   | true =>
    have C1 := Lib.hid (fun w => HC.out (a.extract 0 h) (b.extract 0 h) w (ex_size _ _ _ HHA.out) (ex_size _ _ _ HHB.out))
    rw [hM] at C1 HE
    rw [Bool.true_and] at HE
    have C2 := Lib.hid (fun w => HC.out (a.extract ta a.size) (b.extract tb b.size) w (ex_size _ _ _ HHA.out) (ex_size _ _ _ HHB.out))
    obtain ⟨r, hr⟩ : ∃ r, r = matF comG (lb (a.extract ta a.size)) (lb (b.extract tb b.size)) := ⟨_, rfl⟩
    rw [← hr] at C2 HE
    clear hM hr HC
    go_wp2_with fail
    refine wp_region_held_drew (S := fun w' : World => True) (by kernel_rfl) ?_ (fun hHeld => ?_)
    ·exact trivial
    obtain ⟨D, hD⟩ : ∃ u, u = w1.drew := ⟨_, rfl⟩
    have DA := Lib.hid (show Below w1.heap.size w1 D from by rw [hD]; exact over (q := 1) (Below.refl _ _))
    rw [← hD]
    clear hD
    refine tkv 0 rfl ?_
    try simp only [puts]
    refine tkv 1 rfl ?_
    try simp only [puts]
    refine tkv 2 rfl ?_
    try simp only [puts]
    refine tkv 3 rfl ?_
    try simp only [puts]
    refine tkv 4 rfl ?_
    try simp only [puts]
    refine tkv 5 rfl ?_
    try simp only [puts]
    refine wpAnyH_ready (rs := [6]) (by kernel_rfl) (by simp) (AllReadyH.cons rfl (fun K hK => ?_) AllReadyH.nil)
    go_simp
    refine (C1.out _).mono ?_
    rintro e v1 ⟨rfl, hb⟩
    have B1 := Lib.hid (then' DA.out hb)
    clear hb
    go_wp2_with fail
    refine hK.out _ _ trivial (fun hHeld => ?_)
    clear hK K
    try simp only [puts]
    refine tkv 7 rfl ?_
    try simp only [puts]
    refine tkv 8 rfl ?_
    try simp only [puts]
    refine tkv 9 rfl ?_
    try simp only [puts]
    refine tkv 10 rfl ?_
    try simp only [puts]
    refine tkv 11 rfl ?_
    try simp only [puts]
    refine tkv 12 rfl ?_
    try simp only [puts]
    refine tkv 13 rfl ?_
    try simp only [puts]
    refine tkv 14 rfl ?_
    try simp only [puts]
    refine tkv 15 rfl ?_
    try simp only [puts]
    refine tkv 16 rfl ?_
    try simp only [puts]
    refine tkv 17 rfl ?_
    try simp only [puts]
    refine tkv 18 rfl ?_
    try simp only [puts]
    refine tkv 19 rfl ?_
    try simp only [puts]
    refine wpAnyH_ready (rs := [20]) (by kernel_rfl) (by simp) (AllReadyH.cons rfl (fun K hK => ?_) AllReadyH.nil)
    go_simp
    refine (C2.out _).mono ?_
    rintro e v2 ⟨rfl, hb⟩
    have B2 := Lib.hid (then' B1.out hb)
    clear hb
    go_wp2_with fail
    refine hK.out _ _ trivial (fun hHeld => ?_)
    clear hK K
    try simp only [puts]
    refine tkv 21 rfl ?_
    try simp only [puts]
    refine tkv 22 rfl ?_
    try simp only [puts]
    refine wpAnyH_done (by kernel_rfl) ?_ _
    go_wp2
    go_ret
    exact ⟨by rw [HE.out]; rfl, B2.out⟩
   | false =>
    have C1 := Lib.hid (fun w => HC.out (a.extract 0 h) (b.extract 0 h) w (ex_size _ _ _ HHA.out) (ex_size _ _ _ HHB.out))
    rw [hM] at C1 HE
    rw [Bool.false_and] at HE
    clear hM HC
    go_wp2_with fail
    refine wp_region_held_drew (S := fun w' : World => True) (by kernel_rfl) ?_ (fun hHeld => ?_)
    ·exact trivial
    obtain ⟨D, hD⟩ : ∃ u, u = w1.drew := ⟨_, rfl⟩
    have DA := Lib.hid (show Below w1.heap.size w1 D from by rw [hD]; exact over (q := 1) (Below.refl _ _))
    rw [← hD]
    clear hD
    refine tkv 0 rfl ?_
    try simp only [puts]
    refine tkv 1 rfl ?_
    try simp only [puts]
    refine tkv 2 rfl ?_
    try simp only [puts]
    refine tkv 3 rfl ?_
    try simp only [puts]
    refine tkv 4 rfl ?_
    try simp only [puts]
    refine tkv 5 rfl ?_
    try simp only [puts]
    refine wpAnyH_ready (rs := [6]) (by kernel_rfl) (by simp) (AllReadyH.cons rfl (fun K hK => ?_) AllReadyH.nil)
    go_simp
    refine (C1.out _).mono ?_
    rintro e v1 ⟨rfl, hb⟩
    have B1 := Lib.hid (then' DA.out hb)
    clear hb
    go_wp2_with fail
    refine hK.out _ _ trivial (fun hHeld => ?_)
    clear hK K
    try simp only [puts]
    refine tkv 7 rfl ?_
    try simp only [puts]
    refine tku 8 rfl ?_
    try simp only [puts]
    refine tku 9 rfl ?_
    try simp only [puts]
    refine tku 10 rfl ?_
    try simp only [puts]
    refine tku 11 rfl ?_
    try simp only [puts]
    refine tku 12 rfl ?_
    try simp only [puts]
    refine tku 13 rfl ?_
    try simp only [puts]
    refine tku 14 rfl ?_
    try simp only [puts]
    refine tku 15 rfl ?_
    try simp only [puts]
    refine tku 16 rfl ?_
    try simp only [puts]
    refine tku 17 rfl ?_
    try simp only [puts]
    refine tku 18 rfl ?_
    try simp only [puts]
    refine tku 19 rfl ?_
    try simp only [puts]
    refine tku 20 rfl ?_
    try simp only [puts]
    refine tkv 21 rfl ?_
    try simp only [puts]
    refine tkv 22 rfl ?_
    try simp only [puts]
    refine wpAnyH_done (by kernel_rfl) ?_ _
    go_wp2
    go_ret
    exact ⟨by rw [HE.out]; rfl, B1.out⟩
end Go.Proofs.Ytcaaljioennnnaa.glob

/-
  The walk of the law LebLists: Split of Join is the list, Join of Split the bytes.
-/
import Derived.Test.YtnadjcmfmbjnnaaLive
import Derived.Test.YtnadjcmfmbjnnaaLists
namespace Go.Proofs.Ytnadjcmfmbjnnaa.lebLists
open Go.RowKit
open Go.Proofs.Ytnadjcmfmbjnnaa.num Go.Proofs.Ytnadjcmfmbjnnaa.words

set_option maxRecDepth 20000 in
set_option maxHeartbeats 1600000 in
theorem walk (A : Option Addr) (n c : Nat) (l : List Nat) (C : Option Addr) (m d : Nat) (k : List Nat) (w : World)
    (hr : Rd w A (U l)) (hl : l.length = n) (_ : n ≤ c) (hnum : ∀ x ∈ l, x < 18446744073709551616) (_ : n * 8 ≤ 140737488351232)
    (kr : Rd w C (B k)) (kl : k.length = m) (kc : m ≤ d) (kby : ∀ x ∈ k, x < 256) (_ : m * 1 ≤ 140737488351232) (hsum : n + m ≤ 1048576) :
    Calls Try.prog 6 #[.slice A n c, .slice C m d] w fun e w' => e = .returned (.bool true) ∧ Below w.heap.size w w' := by
  have J := fun w hr => lists.join_any A n c l w hr hl (by omega) hnum
  have RJ := fun w hr => lists.rjoin_any A n c l w hr hl (by omega) hnum
  have S := fun w kr => lists.split_any C m d k w kr kl kc (by omega) kby
  have RS := fun w kr => lists.rsplit_any C m d k w kr kl (by omega) kby
  have hjl := lists.joinL_len l hnum
  have hsj := split_join l hnum
  have hjs := join_split k kby
  have hsl := splitL_len k kby
  have J := Lib.hid J; have RJ := Lib.hid RJ; have S := Lib.hid S; have RS := Lib.hid RS
  have HSJ := Lib.hid hsj; have HJS := Lib.hid hjs; have HL := Lib.hid hl; have KL := Lib.hid kl; have HN := Lib.hid hnum; have KB := Lib.hid kby
  rw [kl] at hsl; rw [hl] at hjl
  clear hsj hjs hl kl hnum kby
  go_enter Try.func6, Try.ntmps6
  go_wp2_with fail
  refine (live.live_any _).mono ?_
  rintro e w1 ⟨rfl, hb1⟩
  have hr1 := hr.below hb1
  have kr1 := kr.below hb1
  clear hr kr
  go_wp2_with fail
  refine (J.out _ hr1).mono ?_
  rintro e w2 ⟨v2, rfl, hown2, hb2⟩
  obtain ⟨A2, c2, rfl, hc2, _, hrd2⟩ := own_rd hown2
  have hr2 := hr1.below hb2
  have kr2 := kr1.below hb2
  clear hr1 kr1 hown2
  go_wp2_with fail
  refine (lists.split_any A2 _ c2 (joinL l) _ hrd2 rfl hc2 (by omega) (lists.joinL_byte l)).mono ?_
  rw [HSJ.out]
  rintro e w3 ⟨v3, rfl, hown3, hb3⟩
  have hr3 := hr2.below hb3
  have kr3 := kr2.below hb3
  clear hr2 kr2 hrd2 hc2
  go_wp2_with fail
  refine (S.out _ kr3).mono ?_
  rintro e w4 ⟨v4, rfl, hown4, hb4⟩
  have hr4 := hr3.below hb4
  have kr4 := kr3.below hb4
  have hown34 := own_below hown3 hb4
  clear hr3 kr3 hown3
  go_wp2_with fail
  refine (RS.out _ kr4).mono ?_
  rintro e w5 ⟨v5, rfl, hown5, hb5⟩
  have hr5 := hr4.below hb5
  have kr5 := kr4.below hb5
  obtain ⟨A3, c3, rfl, _, _, hrd3⟩ := own_rd (own_below hown34 hb5)
  obtain ⟨A4, c4, rfl, hc4, _, hrd4⟩ := own_rd (own_below hown4 hb5)
  obtain ⟨A5, c5, rfl, _, _, hrd5⟩ := own_rd hown5
  clear hr4 kr4 hown34 hown4 hown5
  have hbb := then' (then' (then' (then' hb1 hb2) hb3) hb4) hb5
  clear hb1 hb2 hb3 hb4 hb5
  obtain ⟨y, f, hyf⟩ : ∃ y f, splitL k = (y, f) := ⟨_, _, rfl⟩
  rw [hyf] at hrd4 hrd5 hsl hc4
  have HJS2 := HJS.out
  rw [hyf] at HJS2 ⊢
  simp only at hrd4 hrd5 hsl hc4 HJS2 ⊢
  rw [HL.out]
  have HJS3 := Lib.hid HJS2
  clear HJS HJS2 hyf
  by_cases hf : f = 0
  · obtain ⟨hj, hyn⟩ := HJS3.out hf
    have hylen : y.length ≤ 1048576 := by omega
    have JY := fun A c w hr => lists.join_any A y.length c y w hr rfl hylen hyn
    have JY := Lib.hid JY
    have HJ := Lib.hid hj
    clear hyn hj HJS3
    subst hf

    go_wp2_with fail
    refine (same.nums_same A3 A n c3 c l _ hrd3 hr5 HL.out (by omega)).mono ?_
    rintro e w6 ⟨rfl, q6, rfl⟩
    go_wp2_with fail
    refine (same.nums_same A4 A5 _ c4 c5 y _ (hrd4.drewN q6) (hrd5.drewN q6) rfl (by omega)).mono ?_
    rintro e w7 ⟨rfl, q7, rfl⟩
    clear hrd3 hrd5
    go_wp2_with fail
    refine (JY.out A4 c4 _ (hrd4.drewN (q6 + q7))).mono ?_
    rintro e w11 ⟨v11, rfl, hown11, hb11⟩
    rw [HJ.out, KL.out] at hown11
    obtain ⟨A11, c11, rfl, _, _, hrd11⟩ := own_rd hown11
    have kr11 := kr5.below (under hb11)
    have hr11 := hr5.below (under hb11)
    clear hown11
    go_wp2_with fail
    refine (same.bytes_same A11 C m c11 d k _ hrd11 kr11 KL.out (by omega)).mono ?_
    rintro e w12 ⟨rfl, q12, rfl⟩
    have hr12 := hr11.drewN q12
    have hb12 := then' hbb (under hb11)
    clear hrd11 kr11 hbb hb11 hr5 kr5
    go_wp2_with fail
    refine (J.out _ hr12).mono ?_
    rintro e w8 ⟨v8, rfl, hown8, hb8⟩
    have hr8 := hr12.below hb8
    go_wp2_with fail
    refine (RJ.out _ hr8).mono ?_
    rintro e w9 ⟨v9, rfl, hown9, hb9⟩
    obtain ⟨A8, c8, rfl, _, _, hrd8⟩ := own_rd (own_below hown8 hb9)
    obtain ⟨A9, c9, rfl, _, _, hrd9⟩ := own_rd hown9
    clear hown8 hown9 hr8
    go_wp2_with fail
    refine (same.bytes_same A8 A9 _ c8 c9 (joinL l) _ hrd8 hrd9 rfl (by omega)).mono ?_
    rintro e w10 ⟨rfl, q10, rfl⟩
    go_wp2
    go_ret
    exact ⟨rfl, over (then' (then' hb12 (under hb8)) hb9)⟩
  · have hfz : ((f : Int) != 0) = true := by simp; omega
    have hff : ((f : Int) == f) = true := by simp
    have hylen : y.length ≤ 1048576 := by omega
    have hr5' := hr5
    clear HJS3

    go_wp2_with fail
    refine (same.nums_same A3 A n c3 c l _ hrd3 hr5 HL.out (by omega)).mono ?_
    rintro e w6 ⟨rfl, q6, rfl⟩
    go_wp2_with fail
    refine (same.nums_same A4 A5 _ c4 c5 y _ (hrd4.drewN q6) (hrd5.drewN q6) rfl (by omega)).mono ?_
    rintro e w7 ⟨rfl, q7, rfl⟩
    clear hrd3 hrd4 hrd5
    go_wp2_with fail
    have hr7 := hr5.drewN (q6 + q7)
    refine (J.out _ hr7).mono ?_
    rintro e w8 ⟨v8, rfl, hown8, hb8⟩
    have hr8 := hr7.below hb8
    go_wp2_with fail
    refine (RJ.out _ hr8).mono ?_
    rintro e w9 ⟨v9, rfl, hown9, hb9⟩
    obtain ⟨A8, c8, rfl, _, _, hrd8⟩ := own_rd (own_below hown8 hb9)
    obtain ⟨A9, c9, rfl, _, _, hrd9⟩ := own_rd hown9
    clear hown8 hown9 hr8
    go_wp2_with fail
    refine (same.bytes_same A8 A9 _ c8 c9 (joinL l) _ hrd8 hrd9 rfl (by omega)).mono ?_
    rintro e w10 ⟨rfl, q10, rfl⟩
    go_wp2
    go_ret
    exact ⟨rfl, over (then' (then' hbb (under hb8)) hb9)⟩
end Go.Proofs.Ytnadjcmfmbjnnaa.lebLists

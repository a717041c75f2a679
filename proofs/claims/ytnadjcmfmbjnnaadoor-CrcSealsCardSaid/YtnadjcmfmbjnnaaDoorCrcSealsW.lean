/-
  The walk of the law CrcSeals: Open of Seal is the bytes; what Open opens is Seal of it.
-/
import Derived.Test.YtnadjcmfmbjnnaaDoorLive2
import Derived.Test.YtnadjcmfmbjnnaaDoorSealR
import Derived.Test.YtnadjcmfmbjnnaaDoorSame
namespace Go.Proofs.YtnadjcmfmbjnnaaDoor.crcSeals
open Go.RowKit
open Go.Proofs.YtnadjcmfmbjnnaaDoor.crcnum Go.Proofs.YtnadjcmfmbjnnaaDoor.words Go.Proofs.YtnadjcmfmbjnnaaDoor.sealing

theorem openL_len (l : List Nat) : (openL l).1.length ≤ l.length := by
  unfold openL
  split
  · simp
  · split
    · simp only [List.length_take]; omega
    · simp
theorem openL_byte {l : List Nat} (h : ∀ x ∈ l, x < 256) : ∀ x ∈ (openL l).1, x < 256 := by
  unfold openL
  split
  · simp
  · split
    · intro x hx; exact h x (List.mem_of_mem_take hx)
    · simp
set_option maxRecDepth 20000 in
set_option maxHeartbeats 1600000 in
theorem walk (A : Option Addr) (n c : Nat) (l : List Nat) (C : Option Addr) (m d : Nat) (k : List Nat) (w : World)
    (hr : Rd w A (B l)) (hl : l.length = n) (_ : n ≤ c) (hby : ∀ x ∈ l, x < 256) (hn : n * 1 ≤ 140737488351232)
    (kr : Rd w C (B k)) (kl : k.length = m) (kc : m ≤ d) (kby : ∀ x ∈ k, x < 256) (hm : m * 1 ≤ 140737488351232) (ht : crc.Tab w) :
    Calls Tryd.prog 5 #[.slice A n c, .slice C m d] w fun e w' => e = .returned (.bool true) ∧ Below w.heap.size w w' := by
  have S := fun w h1 h2 => seal_any A n c l w h1 h2 hl (by omega) hby
  have RS := fun w h2 => rseal_any A n c l w h2 hl (by omega) hby
  have O := fun w h1 h2 => open_any C m d k w h1 h2 kl kc (by omega) kby
  have RO := fun w h2 => ropen_any C m d k w h2 kl kc (by omega) kby
  have OS := fun X cx w h1 h2 hx => open_any X (sealL l).length cx (sealL l) w h1 h2 rfl hx (by rw [sealL_len]; omega) (sealL_byte hby)
  rw [open_seal] at OS
  have hlen := openL_len k
  have hob := openL_byte kby
  have hso := @seal_open k
  obtain ⟨y, f, hyf⟩ : ∃ y f, openL k = (y, f) := ⟨_, _, rfl⟩
  rw [hyf] at hlen hob hso O RO
  simp only at hlen hob hso
  have SY := fun X cx w h1 h2 => seal_any X y.length cx y w h1 h2 rfl (by omega) hob
  have hsl := sealL_len l
  have hnI : (l.length : Int) ≤ 140737488351232 := by omega
  have hmI : (k.length : Int) ≤ 140737488351232 := by omega
  have hyI : (y.length : Int) ≤ 140737488351232 := by omega
  have S := Lib.hid S; have RS := Lib.hid RS; have O := Lib.hid O; have RO := Lib.hid RO; have OS := Lib.hid OS; have SY := Lib.hid SY
  have HSO := Lib.hid hso; have HL := Lib.hid hl; have KL := Lib.hid kl; have HSL := Lib.hid hsl
  clear hl hby hn kl kc kby hm hob hso hyf hsl hlen
  go_enter Tryd.func5, Tryd.ntmps5
  go_wp2_with fail
  refine (S.out _ ht hr).mono ?_
  rintro e w1 ⟨v1, rfl, hown1, hb1⟩
  obtain ⟨A1, c1, rfl, hc1, _, hrd1⟩ := own_rd hown1
  have ht1 := ht.below hb1
  have hr1 := hr.below hb1
  have kr1 := kr.below hb1
  clear ht hr kr hown1
  go_wp2_with fail
  refine (OS.out A1 c1 _ ht1 hrd1 hc1).mono ?_
  rintro e w2 ⟨v2, rfl, hown2, hb2⟩
  have hbb := then' hb1 hb2
  have ht2 := ht1.below hb2
  have hr2 := hr1.below hb2
  have kr2 := kr1.below hb2
  clear ht1 hr1 kr1 hrd1 hc1 hb1 hb2
  go_wp2_with fail
  refine (O.out _ ht2 kr2).mono ?_
  rintro e w3 ⟨v3, rfl, hown3, hb3⟩
  have hbc := then' hbb hb3
  have ht3 := ht2.below hb3
  have hr3 := hr2.below hb3
  have kr3 := kr2.below hb3
  have hown23 := own_below hown2 hb3
  clear ht2 hr2 kr2 hown2 hbb hb3
  go_wp2_with fail
  refine (RO.out _ kr3).mono ?_
  rintro e w4 ⟨v4, rfl, hown4, hb4⟩
  have hbd := then' hbc hb4
  have ht4 := ht3.below hb4
  have hr4 := hr3.below hb4
  have kr4 := kr3.below hb4
  have hown24 := own_below hown23 hb4
  have hown34 := own_below hown3 hb4
  clear ht3 hr3 kr3 hown23 hown3 hbc hb4
  go_wp2_with fail
  refine (live2.live_any _ ht4).mono ?_
  rintro e w5 ⟨rfl, hb5⟩
  have hbe := then' hbd hb5
  have ht5 := ht4.below hb5
  have hr5 := hr4.below hb5
  have kr5 := kr4.below hb5
  obtain ⟨A2, c2, rfl, _, _, hrd2⟩ := own_rd (own_below hown24 hb5)
  obtain ⟨A3, c3, rfl, _, _, hrd3⟩ := own_rd (own_below hown34 hb5)
  obtain ⟨A4, c4, rfl, _, _, hrd4⟩ := own_rd (own_below hown4 hb5)
  clear ht4 hr4 kr4 hown24 hown34 hown4 hbd hb5
  simp only at hrd2 hrd3 hrd4 ⊢
  rw [HL.out]
  by_cases hf : f = 0
  · have hj := HSO.out hf
    have HJ := Lib.hid hj
    clear hj HSO
    subst hf
    go_wp2_with fail
    refine (same.bytes_same A2 A n c2 c l _ hrd2 hr5 HL.out (by have := HL.out; omega)).mono ?_
    rintro e w6 ⟨rfl, q6, rfl⟩
    go_wp2_with fail
    refine (same.bytes_same A3 A4 _ c3 c4 y _ (hrd3.drewN q6) (hrd4.drewN q6) rfl (by omega)).mono ?_
    rintro e w7 ⟨rfl, q7, rfl⟩
    clear hrd2 hrd4
    go_wp2_with fail
    refine (SY.out A3 c3 _ (ht5.drewN (q6 + q7)) (hrd3.drewN (q6 + q7))).mono ?_
    rintro e w8 ⟨v8, rfl, hown8, hb8⟩
    have hbf := then' hbe (under hb8)
    have ht8 := ht5.below (under hb8)
    have hr8 := hr5.below (under hb8)
    have kr8 := kr5.below (under hb8)
    rw [HJ.out, KL.out] at hown8
    obtain ⟨A8, c8, rfl, _, _, hrd8⟩ := own_rd hown8
    clear hown8 ht5 hr5 kr5 hrd3 hbe hb8
    go_wp2_with fail
    refine (same.bytes_same A8 C m c8 d k _ hrd8 kr8 KL.out (by have := KL.out; omega)).mono ?_
    rintro e w9 ⟨rfl, q9, rfl⟩
    clear hrd8 kr8
    go_wp2_with fail
    refine (S.out _ (ht8.drewN q9) (hr8.drewN q9)).mono ?_
    rintro e w10 ⟨v10, rfl, hown10, hb10⟩
    have hr10 := hr8.below (under hb10)
    have hbg := then' hbf (under hb10)
    clear ht8 hr8 hbf hb10
    go_wp2_with fail
    refine (RS.out _ hr10).mono ?_
    rintro e w11 ⟨v11, rfl, hown11, hb11⟩
    obtain ⟨A10, c10, rfl, _, _, hrd10⟩ := own_rd (own_below hown10 hb11)
    obtain ⟨A11, c11, rfl, _, _, hrd11⟩ := own_rd hown11
    have hbh := then' hbg hb11
    clear hown10 hown11 hr10 hbg hb11
    go_wp2_with fail
    refine (same.bytes_same A10 A11 _ c10 c11 (sealL l) _ hrd10 hrd11 rfl (by rw [HSL.out]; omega)).mono ?_
    rintro e w12 ⟨rfl, q12, rfl⟩
    go_wp2
    go_ret
    exact ⟨rfl, over hbh⟩
  · have hfz : ((f : Int) != 0) = true := by simp; omega
    have hff : ((f : Int) == f) = true := by simp
    clear HSO
    go_wp2_with fail
    refine (same.bytes_same A2 A n c2 c l _ hrd2 hr5 HL.out (by have := HL.out; omega)).mono ?_
    rintro e w6 ⟨rfl, q6, rfl⟩
    go_wp2_with fail
    refine (same.bytes_same A3 A4 _ c3 c4 y _ (hrd3.drewN q6) (hrd4.drewN q6) rfl (by omega)).mono ?_
    rintro e w7 ⟨rfl, q7, rfl⟩
    clear hrd2 hrd3 hrd4 kr5
    go_wp2_with fail
    refine (S.out _ (ht5.drewN (q6 + q7)) (hr5.drewN (q6 + q7))).mono ?_
    rintro e w10 ⟨v10, rfl, hown10, hb10⟩
    have hr10 := hr5.below (under hb10)
    have hbg := then' hbe (under hb10)
    clear ht5 hr5 hbe hb10
    go_wp2_with fail
    refine (RS.out _ hr10).mono ?_
    rintro e w11 ⟨v11, rfl, hown11, hb11⟩
    obtain ⟨A10, c10, rfl, _, _, hrd10⟩ := own_rd (own_below hown10 hb11)
    obtain ⟨A11, c11, rfl, _, _, hrd11⟩ := own_rd hown11
    have hbh := then' hbg hb11
    clear hown10 hown11 hr10 hbg hb11
    go_wp2_with fail
    refine (same.bytes_same A10 A11 _ c10 c11 (sealL l) _ hrd10 hrd11 rfl (by rw [HSL.out]; omega)).mono ?_
    rintro e w12 ⟨rfl, q12, rfl⟩
    go_wp2
    go_ret
    exact ⟨rfl, over hbh⟩
end Go.Proofs.YtnadjcmfmbjnnaaDoor.crcSeals

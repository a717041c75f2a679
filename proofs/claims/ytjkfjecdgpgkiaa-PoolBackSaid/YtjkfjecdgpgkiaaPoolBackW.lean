/-
  The walk of PoolBack: a pool that is written is read as it was; what is read is written so.
-/
import Derived.Test.YtjkfjecdgpgkiaaPoolTB
import Derived.Test.YtjkfjecdgpgkiaaPool5H
import Derived.Test.YtjkfjecdgpgkiaaPoolMakesW
import Derived.Test.YtjkfjecdgpgkiaaSame
namespace Go.Proofs.Ytjkfjecdgpgkiaa.poolBack
open Go.RowKit Go.Maps
open Go.Proofs.Ytjkfjecdgpgkiaa.num Go.Proofs.Ytjkfjecdgpgkiaa.words Go.Proofs.Ytjkfjecdgpgkiaa.poolp Go.Proofs.Ytjkfjecdgpgkiaa.pool Go.Proofs.Ytjkfjecdgpgkiaa.poolt Go.Proofs.Ytjkfjecdgpgkiaa.rdnum Go.Proofs.Ytjkfjecdgpgkiaa.rdr Go.Proofs.Ytjkfjecdgpgkiaa.give Go.Proofs.Ytjkfjecdgpgkiaa.meth Go.Proofs.Ytjkfjecdgpgkiaa.write

theorem takeP_err : ∀ (k : Nat) (s : Rs) (acc : List Str), (s.e = 0 ∨ acc = []) → (takeP k s acc).1.e ≠ 0 → (takeP k s acc).2 = []
  | 0, s, acc, h0, h => by
    simp only [takeP] at h ⊢
    rcases h0 with h0 | h0
    · exact absurd h0 h
    · exact h0
  | k + 1, s, acc, _, h => by
    by_cases hf : (nextF s acc).e = 0
    · rw [takeP_good hf] at h ⊢; exact takeP_err k _ _ (.inl hf) h
    · rw [takeP_bad hf]
theorem poolT_err {s : Rs} (h : (poolT s).1.e ≠ 0) : (poolT s).2 = [] := takeP_err _ _ _ (.inr rfl) h
theorem bytes_small (p : List Str) (h : IsPool p) : (bytesL p).length ≤ 80000 ∧ ∀ c ∈ bytesL p, c < 256 := by
  have h1 := putL_len10 p.length (by have := h.2.1; omega)
  have h2 := bodyL_le p h.2.2
  have h3 := h.2.1
  refine ⟨by unfold bytesL; rw [List.length_append]; omega, fun c hc => ?_⟩
  unfold bytesL bodyL at hc
  rcases List.mem_append.1 hc with hc | hc
  · exact putL_byte _ c hc
  · obtain ⟨x, hx, hc⟩ := List.mem_flatten.1 hc
    obtain ⟨y, _, rfl⟩ := List.mem_map.1 hx
    unfold textL at hc
    rcases List.mem_append.1 hc with hc | hc
    · exact putL_byte _ c hc
    · unfold NL at hc
      obtain ⟨z, _, rfl⟩ := List.mem_map.1 hc
      exact z.toNat_lt
/-- Put of a pool -/
theorem put_p (A : Option Addr) (c : Nat) (p : List Str) (w : World) (hr : Rd w A (SL p)) (h : IsPool p) :
    Calls Try.prog 20 #[.slice A p.length c] w fun e w' => (∃ A' c', e = .returned (.tuple #[.slice A' (bytesL p).length c', .int .i64 0]) ∧ Rd w' A' (B (bytesL p))) ∧ Below w.heap.size w w' := by
  have hrb : rightB p = true := decide_eq_true h
  refine (pput_w A c p w hr (by have := h.2.1; omega) (fun x hx => by have := h.2.2 x hx; omega)).mono ?_
  rintro e w' ⟨⟨v, rfl, hown⟩, hb⟩
  unfold putB at hown
  unfold putE
  rw [if_pos hrb] at hown ⊢
  obtain ⟨A', c', rfl, _, _, hr'⟩ := own_rd hown
  exact ⟨⟨A', c', rfl, hr'⟩, hb⟩
set_option maxRecDepth 100000 in
set_option maxHeartbeats 4000000 in
theorem walk (A : Option Addr) (c : Nat) (ss : List ByteArray) (C : Option Addr) (n d : Nat) (lb : List Nat) (w : World) (hr : Rd w A (texts.S ss)) (hc : ss.length ≤ c) (hn : ss.length * 16 ≤ 140737488351232) (hxs : ∀ x ∈ ss, x.size ≤ 140737488351232)
    (kr : Rd w C (B lb)) (kl : lb.length = n) (kc : n ≤ d) (kby : ∀ x ∈ lb, x < 256) (kn1 : n * 1 ≤ 140737488351232) :
    Calls Try.prog 5 #[.slice A ss.length c, .slice C n d] w fun e w' => e = .returned (.bool true) ∧ Below w.heap.size w w' := by
  have kn : n ≤ 140737488351232 := by omega
  clear kn1
  obtain ⟨L, hfa, hL11, hLz⟩ := poolMakes.few_facts hr hc hn hxs
  obtain ⟨n0, hn0⟩ : ∃ n0, n0 = ss.length := ⟨_, rfl⟩
  rw [← hn0] at hfa
  rw [← hn0]
  clear hr hc hn hxs hn0
  have hM := (fun A c w hr => make_w A c L w hr (by omega) hLz)
  unfold Made at hM
  have hIP := make_pool L
  obtain ⟨P, hP⟩ : ∃ P, P = makeL L := ⟨_, rfl⟩
  rw [← hP] at hM hIP
  obtain ⟨hX1, hX2⟩ := bytes_small P hIP
  have hPut := (fun A c w hr => put_p A c P w hr hIP)
  have hread := pool_read hIP
  obtain ⟨X, hX⟩ : ∃ X, X = bytesL P := ⟨_, rfl⟩
  rw [← hX] at hX1 hX2 hPut hread
  obtain ⟨x, hx⟩ : ∃ x, x = X.length := ⟨_, rfl⟩
  obtain ⟨p, hp⟩ : ∃ p, p = P.length := ⟨_, rfl⟩
  obtain ⟨m, hm⟩ : ∃ m, m = L.length := ⟨_, rfl⟩
  have hp1 : p ≤ 1024 := by rw [hp]; exact hIP.2.1
  have hOpx := (fun A c w hr => open_w A x c X w hr hx.symm (by omega) hX2)
  have hTkx := (fun g w h => take_w g ⟨X, 0, 0, 0⟩ w h)
  rw [hread] at hTkx
  have hEnd := (fun g w h => end_m g ⟨X, x, 0, 0⟩ w h)
  have hendT : endT X x = ⟨1, x, 0, 0⟩ := by unfold endT; rw [if_neg (by omega)]
  unfold Did at hEnd
  dsimp only at hEnd hTkx
  rw [hendT, Rs.ans_ok rfl rfl, Rs.go_ok rfl rfl] at hEnd
  dsimp only at hEnd
  rw [← hx] at hTkx
  have hsame := (fun A C c d w h1 h2 => same_w A C p c d P w h1 h2 hp.symm (by omega))
  rw [← hm] at hfa hM
  rw [← hp] at hM hPut hTkx
  rw [← hx] at hPut
  obtain ⟨T, hT⟩ : ∃ T, T = poolT ⟨lb, 0, 0, 0⟩ := ⟨_, rfl⟩
  have hOk : Rs.Ok ⟨lb, 0, 0, 0⟩ := ⟨Nat.zero_le _, by show lb.length ≤ _; omega, kby, fun _ => rfl⟩
  have hOpb := (fun A c w hr => open_w A n c lb w hr kl (by omega) kby)
  have hTkb := (fun g w h => take_w g ⟨lb, 0, 0, 0⟩ w h)
  rw [← hT] at hTkb
  unfold Opened at hOpx hOpb
  have HFA := Lib.hid hfa; have HM := Lib.hid hM; have HPut := Lib.hid hPut; have HOpx := Lib.hid hOpx; have HTkx := Lib.hid hTkx; have HEnd := Lib.hid hEnd; have HSame := Lib.hid hsame
  have HOpb := Lib.hid hOpb; have HTkb := Lib.hid hTkb; have HKR := Lib.hid kr; have HKL := Lib.hid kl
  have HLV := Lib.hid (fun w => live_any w)
  have hfd : ∀ (a b : Int) (w : World), (Instr.field 44 (.agg #[.int .i64 a, .int .i64 b]) 0).run Try.prog w = .ok (.int .i64 a) w := fun _ _ _ => by kernel_rfl
  have hnl : ∀ (w : World), (binOp BinOp.eql 22 (.slice none 0 0) (.slice none 0 0)).run Try.prog w = .ok (.bool true) w := fun _ => by kernel_rfl
  have hnI0 : (n : Int) ≤ 140737488351232 := by omega
  clear hfa hM hPut hOpx hTkx hEnd hsame hOpb hTkb hendT hread hX1 hX2 hIP hP hLz hL11 kr
  by_cases hbig : 20000 < n
  · obtain ⟨er, her⟩ : ∃ er : Int, er = if bad L = true then 3 else 0 := ⟨_, rfl⟩
    rw [← her] at HM
    have hI : (20000 : Int) < (n : Int) := by omega
    clear her hbig HPut HOpx HTkx HEnd HSame HOpb HTkb hOk hT hm hp hx hX kl kby
    go_enter Try.func5, Try.ntmps5
    go_wp2_with fail
    refine HFA.out.mono ?_
    rintro e w1 ⟨⟨A1, rfl, hr1⟩, rfl⟩
    have HR1 := Lib.hid hr1
    clear hr1 HFA
    go_wp2_with fail
    refine (HM.out A1 c _ HR1.out).mono ?_
    rintro e w2 ⟨⟨A2, c2, rfl, _, hr2⟩, hb2⟩
    have HB2 := Lib.hid hb2; have HP2 := Lib.hid hr2
    clear hb2 hr2 HM HR1
    go_wp2_with fail
    refine (HLV.out _).mono ?_
    rintro e w3 ⟨rfl, hb3⟩
    have HB3 := Lib.hid (then' HB2.out hb3); have HP3 := Lib.hid (HP2.out.below hb3)
    clear hb3 HB2 HP2
    go_wp2_with fail
    refine (HLV.out _).mono ?_
    rintro e w4 ⟨rfl, hb4⟩
    have HB4 := Lib.hid (then' HB3.out hb4)
    clear hb4 HB3
    go_wp2
    go_ret
    exact ⟨rfl, HB4.out⟩
  have hI : ¬ (20000 : Int) < (n : Int) := by omega
  cases hbd : bad L with
  | true =>
    rw [if_pos hbd] at HM
    clear HPut HOpx HTkx HEnd HSame hbd hm hp hx hX kby hp1
    by_cases hte : T.1.e = 0
    · obtain ⟨hip, hw1, hw2⟩ := pool_written hOk rfl rfl (by rw [← hT]; exact hte)
      rw [← hT] at hip hw1 hw2
      dsimp only at hw1 hw2
      obtain ⟨k, hk⟩ : ∃ k, k = T.1.p := ⟨_, rfl⟩
      obtain ⟨t, ht⟩ : ∃ t, t = T.2.length := ⟨_, rfl⟩
      have hkn : k ≤ n := by omega
      have hkl : (bytesL T.2).length = k := by rw [hw1, List.length_take]; omega
      have hrt : rightB T.2 = true := decide_eq_true hip
      have ht1 : t ≤ 1024 := by rw [ht]; exact hip.2.1
      have HFT := Lib.hid (fun g w h => fault_e g T.1 0 hte w h)
      have hPT := (fun A c w hr => put_p A c T.2 w hr hip)
      have hRT := (fun A c w hr => right_w A c T.2 w hr (by have := hip.2.1; omega) (fun x hx => by have := hip.2.2 x hx; omega))
      rw [hkl] at hPT
      rw [← ht] at hPT hRT HTkb
      rw [hrt] at hRT
      have hAt := (fun g w h => at_m g T.1 w h)
      rw [← hk] at hAt
      obtain ⟨C', hC, hcut⟩ := run_cut_h Try.underlying33 (by kernel_rfl) put.size5 C n d k (by omega)
      have hSB := (fun A C c d w h1 h2 => same.bytes_same A C k c d (bytesL T.2) w h1 h2 hkl (by omega))
      have hC' : ∀ w, Rd w C (B lb) → Rd w C' (B (bytesL T.2)) := fun w h => by rw [hw1, ← hk, ← B_take]; exact hC _ _ h
      clear hC
      have HPT := Lib.hid hPT; have HRT := Lib.hid hRT; have HAt := Lib.hid hAt; have HSB := Lib.hid hSB; have HC := Lib.hid hC'
      have hkI : (k : Int) ≤ (n : Int) := by omega
      have hk0 : (0 : Int) ≤ (k : Int) := by omega
      have htI : (t : Int) ≤ 1024 := by omega
      clear hip hw1 hw2 hk ht hkl hrt hPT hRT hAt hSB hC' hte hOk hT kl
      go_enter Try.func5, Try.ntmps5
      go_wp2_with fail
      refine HFA.out.mono ?_
      rintro e w1 ⟨⟨A1, rfl, hr1⟩, rfl⟩
      have HR1 := Lib.hid hr1
      clear hr1 HFA
      go_wp2_with fail
      refine (HM.out A1 c _ HR1.out).mono ?_
      rintro e w2 ⟨⟨A2, c2, rfl, _, hr2⟩, hb2⟩
      have HB2 := Lib.hid hb2; have HP2 := Lib.hid hr2
      clear hb2 hr2 HM HR1
      go_wp2_with fail
      refine (HLV.out _).mono ?_
      rintro e w3 ⟨rfl, hb3⟩
      have HB3 := Lib.hid (then' HB2.out hb3); have HP3 := Lib.hid (HP2.out.below hb3)
      clear hb3 HB2 HP2
      have HB8 := HB3
      clear HB3 HP3
      go_wp2_with fail
      refine (HOpb.out C d _ (HKR.out.below HB8.out)).mono ?_
      rintro e w9 ⟨g2, rfl, hg2, hrw9, hb9⟩
      have HB9 := Lib.hid hb9; have HW9 := Lib.hid hrw9; have HG2 := Lib.hid hg2
      clear hb9 hrw9 HOpb hg2
      go_wp2_with fail
      refine (HTkb.out g2 _ HW9.out).mono ?_
      rintro e w10 ⟨⟨A10, c10, rfl, hr10, hnil⟩, hrw10, hbt10⟩
      have HB10 := Lib.hid (then' HB8.out (HB9.out.trans (hbt10.below HG2.out HB9.out.size))); have HW10 := Lib.hid hrw10; have HQ10 := Lib.hid hr10
      clear hr10 hrw10 hbt10 HTkb HB9 HB8 HW9
      clear hnil
      go_wp2_with fail
      refine (HFT.out g2 _ HW10.out).mono ?_
      rintro e w11 ⟨rfl, hb11⟩
      have HB11 := Lib.hid (then' HB10.out hb11); have HW11 := Lib.hid (HW10.out.below hb11); have HQ11 := Lib.hid (HQ10.out.below hb11)
      clear hb11 HFT HB10 HW10 HQ10
      go_wp2_with fail
      refine (HPT.out A10 c10 _ HQ11.out).mono ?_
      rintro e w12 ⟨⟨A12, c12, rfl, hr12⟩, hb12⟩
      have HB12 := Lib.hid (then' HB11.out hb12); have HW12 := Lib.hid (HW11.out.below hb12); have HQ12 := Lib.hid (HQ11.out.below hb12); have HY12 := Lib.hid hr12
      clear hb12 hr12 HPT HB11 HW11 HQ11
      go_wp2_with fail
      refine (HRT.out A10 c10 _ HQ12.out).mono ?_
      rintro e w13 ⟨rfl, q13, rfl⟩
      clear HRT
      go_wp2_with fail
      refine (HAt.out g2 _ HW12.out.drewN).mono ?_
      rintro e w14 ⟨rfl, rfl⟩
      go_wp2_with fail
      refine (HAt.out g2 _ HW12.out.drewN).mono ?_
      rintro e w14 ⟨rfl, rfl⟩
      go_wp2_with fail
      refine (HSB.out A12 C' c12 d _ (HY12.out.drewN _) ((HC.out _ (HKR.out.below HB12.out)).drewN _)).mono ?_
      rintro e w15 ⟨rfl, q15, rfl⟩
      go_wp2
      go_ret
      exact ⟨rfl, over HB12.out⟩
    · have HTE := Lib.hid hte
      have hT2 : T.2 = [] := by rw [hT] at hte ⊢; exact poolT_err hte
      obtain ⟨er2, her2⟩ : ∃ er2, T.1.e = er2 := ⟨_, rfl⟩
      have hne2 : (er2 != 0) = true := by rw [← her2]; simpa using hte
      have HFT := Lib.hid (fun g w h => fault_e g T.1 er2 her2 w h)
      rw [hT2] at HTkb
      clear her2 hT2 hte hOk hT kl
      go_enter Try.func5, Try.ntmps5
      go_wp2_with fail
      refine HFA.out.mono ?_
      rintro e w1 ⟨⟨A1, rfl, hr1⟩, rfl⟩
      have HR1 := Lib.hid hr1
      clear hr1 HFA
      go_wp2_with fail
      refine (HM.out A1 c _ HR1.out).mono ?_
      rintro e w2 ⟨⟨A2, c2, rfl, _, hr2⟩, hb2⟩
      have HB2 := Lib.hid hb2; have HP2 := Lib.hid hr2
      clear hb2 hr2 HM HR1
      go_wp2_with fail
      refine (HLV.out _).mono ?_
      rintro e w3 ⟨rfl, hb3⟩
      have HB3 := Lib.hid (then' HB2.out hb3); have HP3 := Lib.hid (HP2.out.below hb3)
      clear hb3 HB2 HP2
      have HB8 := HB3
      clear HB3 HP3
      go_wp2_with fail
      refine (HOpb.out C d _ (HKR.out.below HB8.out)).mono ?_
      rintro e w9 ⟨g2, rfl, hg2, hrw9, hb9⟩
      have HB9 := Lib.hid hb9; have HW9 := Lib.hid hrw9; have HG2 := Lib.hid hg2
      clear hb9 hrw9 HOpb hg2
      go_wp2_with fail
      refine (HTkb.out g2 _ HW9.out).mono ?_
      rintro e w10 ⟨⟨A10, c10, rfl, hr10, hnil⟩, hrw10, hbt10⟩
      have HB10 := Lib.hid (then' HB8.out (HB9.out.trans (hbt10.below HG2.out HB9.out.size))); have HW10 := Lib.hid hrw10; have HQ10 := Lib.hid hr10
      clear hr10 hrw10 hbt10 HTkb HB9 HB8 HW9
      obtain ⟨rfl, rfl⟩ := hnil HTE.out
      go_wp2_with fail
      refine (HFT.out g2 _ HW10.out).mono ?_
      rintro e w11 ⟨rfl, hb11⟩
      have HB11 := Lib.hid (then' HB10.out hb11)
      clear hb11 HFT HB10
      go_wp2
      go_ret
      exact ⟨rfl, HB11.out⟩
  | false =>
    rw [if_neg (by rw [hbd]; simp)] at HM
    clear hbd hm hp hx hX kby
    by_cases hte : T.1.e = 0
    · obtain ⟨hip, hw1, hw2⟩ := pool_written hOk rfl rfl (by rw [← hT]; exact hte)
      rw [← hT] at hip hw1 hw2
      dsimp only at hw1 hw2
      obtain ⟨k, hk⟩ : ∃ k, k = T.1.p := ⟨_, rfl⟩
      obtain ⟨t, ht⟩ : ∃ t, t = T.2.length := ⟨_, rfl⟩
      have hkn : k ≤ n := by omega
      have hkl : (bytesL T.2).length = k := by rw [hw1, List.length_take]; omega
      have hrt : rightB T.2 = true := decide_eq_true hip
      have ht1 : t ≤ 1024 := by rw [ht]; exact hip.2.1
      have HFT := Lib.hid (fun g w h => fault_e g T.1 0 hte w h)
      have hPT := (fun A c w hr => put_p A c T.2 w hr hip)
      have hRT := (fun A c w hr => right_w A c T.2 w hr (by have := hip.2.1; omega) (fun x hx => by have := hip.2.2 x hx; omega))
      rw [hkl] at hPT
      rw [← ht] at hPT hRT HTkb
      rw [hrt] at hRT
      have hAt := (fun g w h => at_m g T.1 w h)
      rw [← hk] at hAt
      obtain ⟨C', hC, hcut⟩ := run_cut_h Try.underlying33 (by kernel_rfl) put.size5 C n d k (by omega)
      have hSB := (fun A C c d w h1 h2 => same.bytes_same A C k c d (bytesL T.2) w h1 h2 hkl (by omega))
      have hC' : ∀ w, Rd w C (B lb) → Rd w C' (B (bytesL T.2)) := fun w h => by rw [hw1, ← hk, ← B_take]; exact hC _ _ h
      clear hC
      have HPT := Lib.hid hPT; have HRT := Lib.hid hRT; have HAt := Lib.hid hAt; have HSB := Lib.hid hSB; have HC := Lib.hid hC'
      have hkI : (k : Int) ≤ (n : Int) := by omega
      have hk0 : (0 : Int) ≤ (k : Int) := by omega
      have htI : (t : Int) ≤ 1024 := by omega
      clear hip hw1 hw2 hk ht hkl hrt hPT hRT hAt hSB hC' hte hOk hT kl
      go_enter Try.func5, Try.ntmps5
      go_wp2_with fail
      refine HFA.out.mono ?_
      rintro e w1 ⟨⟨A1, rfl, hr1⟩, rfl⟩
      have HR1 := Lib.hid hr1
      clear hr1 HFA
      go_wp2_with fail
      refine (HM.out A1 c _ HR1.out).mono ?_
      rintro e w2 ⟨⟨A2, c2, rfl, _, hr2⟩, hb2⟩
      have HB2 := Lib.hid hb2; have HP2 := Lib.hid hr2
      clear hb2 hr2 HM HR1
      go_wp2_with fail
      refine (HLV.out _).mono ?_
      rintro e w3 ⟨rfl, hb3⟩
      have HB3 := Lib.hid (then' HB2.out hb3); have HP3 := Lib.hid (HP2.out.below hb3)
      clear hb3 HB2 HP2
      go_wp2_with fail
      refine (HPut.out A2 c2 _ HP3.out).mono ?_
      rintro e w4 ⟨⟨A4, c4, rfl, hr4⟩, hb4⟩
      have HB4 := Lib.hid (then' HB3.out hb4); have HP4 := Lib.hid (HP3.out.below hb4); have HX4 := Lib.hid hr4
      clear hb4 hr4 HPut HB3 HP3
      go_wp2_with fail
      refine (HOpx.out A4 c4 _ HX4.out).mono ?_
      rintro e w5 ⟨g, rfl, hg, hrw, hb5⟩
      have HB5 := Lib.hid hb5; have HW5 := Lib.hid hrw
      clear hb5 hrw HOpx HX4
      go_wp2_with fail
      refine (HTkx.out g _ HW5.out).mono ?_
      rintro e w6 ⟨⟨A6, c6, rfl, hr6, -⟩, hrw6, hbt6⟩
      have HX6 := Lib.hid hr6; have HW6 := Lib.hid hrw6; have HT6 := Lib.hid hbt6; have HP6 := Lib.hid (HP4.out.below (HB5.out.trans (hbt6.below hg HB5.out.size)))
      clear hr6 hrw6 hbt6 HTkx
      go_wp2_with fail
      refine (HSame.out A6 A2 c6 c2 _ HX6.out HP6.out).mono ?_
      rintro e w7 ⟨rfl, q7, rfl⟩
      clear HSame HX6 HP6
      go_wp2_with fail
      refine (HEnd.out g _ HW6.out.drewN).mono ?_
      rintro e w8 ⟨rfl, _, hbt8⟩
      have HB8 := Lib.hid (then' HB4.out (HB5.out.trans ((HT6.out.trans hbt8.undrew).below hg HB5.out.size)))
      clear hbt8 HEnd HB4 HP4
      go_wp2_with fail
      refine (HOpb.out C d _ (HKR.out.below HB8.out)).mono ?_
      rintro e w9 ⟨g2, rfl, hg2, hrw9, hb9⟩
      have HB9 := Lib.hid hb9; have HW9 := Lib.hid hrw9; have HG2 := Lib.hid hg2
      clear hb9 hrw9 HOpb hg2
      go_wp2_with fail
      refine (HTkb.out g2 _ HW9.out).mono ?_
      rintro e w10 ⟨⟨A10, c10, rfl, hr10, hnil⟩, hrw10, hbt10⟩
      have HB10 := Lib.hid (then' HB8.out (HB9.out.trans (hbt10.below HG2.out HB9.out.size))); have HW10 := Lib.hid hrw10; have HQ10 := Lib.hid hr10
      clear hr10 hrw10 hbt10 HTkb HB9 HB8 HW9
      clear hnil
      go_wp2_with fail
      refine (HFT.out g2 _ HW10.out).mono ?_
      rintro e w11 ⟨rfl, hb11⟩
      have HB11 := Lib.hid (then' HB10.out hb11); have HW11 := Lib.hid (HW10.out.below hb11); have HQ11 := Lib.hid (HQ10.out.below hb11)
      clear hb11 HFT HB10 HW10 HQ10
      go_wp2_with fail
      refine (HPT.out A10 c10 _ HQ11.out).mono ?_
      rintro e w12 ⟨⟨A12, c12, rfl, hr12⟩, hb12⟩
      have HB12 := Lib.hid (then' HB11.out hb12); have HW12 := Lib.hid (HW11.out.below hb12); have HQ12 := Lib.hid (HQ11.out.below hb12); have HY12 := Lib.hid hr12
      clear hb12 hr12 HPT HB11 HW11 HQ11
      go_wp2_with fail
      refine (HRT.out A10 c10 _ HQ12.out).mono ?_
      rintro e w13 ⟨rfl, q13, rfl⟩
      clear HRT
      go_wp2_with fail
      refine (HAt.out g2 _ HW12.out.drewN).mono ?_
      rintro e w14 ⟨rfl, rfl⟩
      go_wp2_with fail
      refine (HAt.out g2 _ HW12.out.drewN).mono ?_
      rintro e w14 ⟨rfl, rfl⟩
      go_wp2_with fail
      refine (HSB.out A12 C' c12 d _ (HY12.out.drewN _) ((HC.out _ (HKR.out.below HB12.out)).drewN _)).mono ?_
      rintro e w15 ⟨rfl, q15, rfl⟩
      go_wp2
      go_ret
      exact ⟨rfl, over HB12.out⟩
    · have HTE := Lib.hid hte
      have hT2 : T.2 = [] := by rw [hT] at hte ⊢; exact poolT_err hte
      obtain ⟨er2, her2⟩ : ∃ er2, T.1.e = er2 := ⟨_, rfl⟩
      have hne2 : (er2 != 0) = true := by rw [← her2]; simpa using hte
      have HFT := Lib.hid (fun g w h => fault_e g T.1 er2 her2 w h)
      rw [hT2] at HTkb
      clear her2 hT2 hte hOk hT kl
      go_enter Try.func5, Try.ntmps5
      go_wp2_with fail
      refine HFA.out.mono ?_
      rintro e w1 ⟨⟨A1, rfl, hr1⟩, rfl⟩
      have HR1 := Lib.hid hr1
      clear hr1 HFA
      go_wp2_with fail
      refine (HM.out A1 c _ HR1.out).mono ?_
      rintro e w2 ⟨⟨A2, c2, rfl, _, hr2⟩, hb2⟩
      have HB2 := Lib.hid hb2; have HP2 := Lib.hid hr2
      clear hb2 hr2 HM HR1
      go_wp2_with fail
      refine (HLV.out _).mono ?_
      rintro e w3 ⟨rfl, hb3⟩
      have HB3 := Lib.hid (then' HB2.out hb3); have HP3 := Lib.hid (HP2.out.below hb3)
      clear hb3 HB2 HP2
      go_wp2_with fail
      refine (HPut.out A2 c2 _ HP3.out).mono ?_
      rintro e w4 ⟨⟨A4, c4, rfl, hr4⟩, hb4⟩
      have HB4 := Lib.hid (then' HB3.out hb4); have HP4 := Lib.hid (HP3.out.below hb4); have HX4 := Lib.hid hr4
      clear hb4 hr4 HPut HB3 HP3
      go_wp2_with fail
      refine (HOpx.out A4 c4 _ HX4.out).mono ?_
      rintro e w5 ⟨g, rfl, hg, hrw, hb5⟩
      have HB5 := Lib.hid hb5; have HW5 := Lib.hid hrw
      clear hb5 hrw HOpx HX4
      go_wp2_with fail
      refine (HTkx.out g _ HW5.out).mono ?_
      rintro e w6 ⟨⟨A6, c6, rfl, hr6, -⟩, hrw6, hbt6⟩
      have HX6 := Lib.hid hr6; have HW6 := Lib.hid hrw6; have HT6 := Lib.hid hbt6; have HP6 := Lib.hid (HP4.out.below (HB5.out.trans (hbt6.below hg HB5.out.size)))
      clear hr6 hrw6 hbt6 HTkx
      go_wp2_with fail
      refine (HSame.out A6 A2 c6 c2 _ HX6.out HP6.out).mono ?_
      rintro e w7 ⟨rfl, q7, rfl⟩
      clear HSame HX6 HP6
      go_wp2_with fail
      refine (HEnd.out g _ HW6.out.drewN).mono ?_
      rintro e w8 ⟨rfl, _, hbt8⟩
      have HB8 := Lib.hid (then' HB4.out (HB5.out.trans ((HT6.out.trans hbt8.undrew).below hg HB5.out.size)))
      clear hbt8 HEnd HB4 HP4
      go_wp2_with fail
      refine (HOpb.out C d _ (HKR.out.below HB8.out)).mono ?_
      rintro e w9 ⟨g2, rfl, hg2, hrw9, hb9⟩
      have HB9 := Lib.hid hb9; have HW9 := Lib.hid hrw9; have HG2 := Lib.hid hg2
      clear hb9 hrw9 HOpb hg2
      go_wp2_with fail
      refine (HTkb.out g2 _ HW9.out).mono ?_
      rintro e w10 ⟨⟨A10, c10, rfl, hr10, hnil⟩, hrw10, hbt10⟩
      have HB10 := Lib.hid (then' HB8.out (HB9.out.trans (hbt10.below HG2.out HB9.out.size))); have HW10 := Lib.hid hrw10; have HQ10 := Lib.hid hr10
      clear hr10 hrw10 hbt10 HTkb HB9 HB8 HW9
      obtain ⟨rfl, rfl⟩ := hnil HTE.out
      go_wp2_with fail
      refine (HFT.out g2 _ HW10.out).mono ?_
      rintro e w11 ⟨rfl, hb11⟩
      have HB11 := Lib.hid (then' HB10.out hb11)
      clear hb11 HFT HB10
      go_wp2
      go_ret
      exact ⟨rfl, HB11.out⟩
end Go.Proofs.Ytjkfjecdgpgkiaa.poolBack

/-
  The walk of PoolBytes: a pool's bytes, and what is read of any bytes, as the document's answers are.
-/
import Derived.Test.YtchhibicbgimcaaPool5T
import Derived.Test.YtchhibicbgimcaaPool5P
import Derived.Test.YtchhibicbgimcaaPoolMakesW
import Derived.Test.YtchhibicbgimcaaSame
namespace Go.Proofs.Ytchhibicbgimcaa.poolBytes
open Go.RowKit Go.Maps
open Go.Proofs.Ytchhibicbgimcaa.num Go.Proofs.Ytchhibicbgimcaa.words Go.Proofs.Ytchhibicbgimcaa.poolp Go.Proofs.Ytchhibicbgimcaa.pool Go.Proofs.Ytchhibicbgimcaa.poolt Go.Proofs.Ytchhibicbgimcaa.rdnum Go.Proofs.Ytchhibicbgimcaa.rdr Go.Proofs.Ytchhibicbgimcaa.give Go.Proofs.Ytchhibicbgimcaa.meth Go.Proofs.Ytchhibicbgimcaa.write Go.Proofs.Ytchhibicbgimcaa.refr

theorem take_small : ∀ (k : Nat) (s : Rs) (acc : List Str), (takeP k s acc).2.length ≤ k + acc.length
  | 0, s, acc => by simp [takeP]
  | k + 1, s, acc => by
    by_cases hf : (nextF s acc).e = 0
    · rw [takeP_good hf]; have := take_small k (nextF s acc) (acc ++ [nextS s]); simp at this; omega
    · rw [takeP_bad hf]; simp
theorem putB_small (p : List Str) : (putB p).length ≤ 80000 := by
  unfold putB
  split
  · rename_i h
    have hp := right_pool h
    have h1 := putL_len10 p.length (by have := hp.2.1; omega)
    have h2 := bodyL_le p hp.2.2
    have h3 := hp.2.1
    unfold bytesL; rw [List.length_append]; omega
  · simp

/-- cells of strings are none of the reference's reader -/
theorem rd_apart {w w' : World} {b : Nat} {s : Rs} (h : RR w b s) {A : Option Addr} {l : List Str} (hr : Rd w A (SL l)) (hb : But b w w') : Rd w' A (SL l) := by
  obtain ⟨_, A', n, c, L, hh, _⟩ := h
  rcases hr with e | ⟨a, rfl, ha, hc⟩
  · exact .inl e
  · refine .inr ⟨a, rfl, Nat.lt_of_lt_of_le ha hb.size, fun j u hu => ?_⟩
    have hcu := hc j u hu
    have hne : (a.add j).block ≠ b := by
      intro e
      unfold World.cell? at hcu
      rw [e, hh] at hcu
      dsimp only at hcu
      split at hcu
      · cases hcu
      · have hm := Array.mem_of_getElem? hcu
        unfold SL at hu
        rw [List.getElem?_map, Option.map_eq_some_iff] at hu
        obtain ⟨x, _, rfl⟩ := hu
        simp at hm
    have hlt : (a.add j).block < w.heap.size := by rw [add_block]; exact ha
    unfold World.cell? at hcu ⊢
    rw [hb.block _ hlt (fun e => hne (by cases e; rfl))]
    exact hcu

set_option maxRecDepth 100000 in
set_option maxHeartbeats 4000000 in
theorem walk (A : Option Addr) (c : Nat) (ss : List ByteArray) (C : Option Addr) (n d : Nat) (lb : List Nat) (w : World) (hr : Rd w A (texts.S ss)) (hc : ss.length ≤ c) (hn : ss.length * 16 ≤ 140737488351232) (hxs : ∀ x ∈ ss, x.size ≤ 140737488351232)
    (kr : Rd w C (B lb)) (kl : lb.length = n) (_kc : n ≤ d) (kby : ∀ x ∈ lb, x < 256) (kn1 : n * 1 ≤ 140737488351232) :
    Calls Try.prog 3 #[.slice A ss.length c, .slice C n d] w fun e w' => e = .returned (.bool true) ∧ Below w.heap.size w w' := by
  have kn : n ≤ 140737488351232 := by omega
  clear kn1
  obtain ⟨L, hfa, hL11, hLz⟩ := poolMakes.few_facts hr hc hn hxs
  obtain ⟨n0, hn0⟩ : ∃ n0, n0 = ss.length := ⟨_, rfl⟩
  rw [← hn0] at hfa
  rw [← hn0]
  clear hr hc hn hxs hn0
  have HLV := Lib.hid (fun w => live_any w)
  have HFA := Lib.hid hfa; have HKR := Lib.hid kr
  have hnI0 : (n : Int) ≤ 140737488351232 := by omega
  by_cases hbig : 20000 < n
  · have hI : (20000 : Int) < (n : Int) := by omega
    clear hfa hbig kl kby kn kr hL11 hLz
    go_enter Try.func3, Try.ntmps3
    go_wp2_with fail
    refine HFA.out.mono ?_
    rintro e w1 ⟨⟨A1, rfl, hr1⟩, rfl⟩
    clear hr1 HFA
    go_wp2_with fail
    refine (HLV.out _).mono ?_
    rintro e w2 ⟨rfl, hb2⟩
    have HB2 := Lib.hid hb2
    clear hb2
    go_wp2
    go_ret
    exact ⟨rfl, HB2.out⟩
  have hI : ¬ (20000 : Int) < (n : Int) := by omega
  have hP := (fun A c w hr => pput_w A c L w hr (by omega) hLz)
  have hP5 := (fun A c w hr => pput5_w A c L w hr (by omega) hLz)
  unfold Putted at hP hP5
  have hx80 := putB_small L
  obtain ⟨X, hX⟩ : ∃ X, X = putB L := ⟨_, rfl⟩
  obtain ⟨er, her⟩ : ∃ er : Int, er = (putE L : Int) := ⟨_, rfl⟩
  rw [← hX, ← her] at hP hP5
  rw [← hX] at hx80
  obtain ⟨x, hx⟩ : ∃ x, x = X.length := ⟨_, rfl⟩
  obtain ⟨m, hm⟩ : ∃ m, m = L.length := ⟨_, rfl⟩
  have hSB := (fun A C c d w h1 h2 => same.bytes_same A C x c d X w h1 h2 hx.symm (by omega))
  rw [← hm] at hP hP5 hfa
  rw [← hx] at hP hP5
  have hO := (fun A c w hr => open_w A n c lb w hr kl (by omega) kby)
  have hO5 := (fun A c w hr => open_r A n c lb w hr kl (by omega) kby)
  unfold Opened at hO hO5
  have hT := (fun g w h => take_w g ⟨lb, 0, 0, 0⟩ w h)
  have hT5 := (fun g w h => take5_w g ⟨lb, 0, 0, 0⟩ w h)
  have ht1 : (poolT ⟨lb, 0, 0, 0⟩).2.length ≤ 1024 := by
    have h1 := take_small ((⟨lb, 0, 0, 0⟩ : Rs).ans (numT lb 0 1024) 0) ((⟨lb, 0, 0, 0⟩ : Rs).go (numT lb 0 1024)) []
    have h2 := num_le (s := ⟨lb, 0, 0, 0⟩) (Nat.zero_le _) kby
    simp only [List.length_nil, Nat.add_zero] at h1
    exact Nat.le_trans h1 h2
  obtain ⟨T, hTT⟩ : ∃ T, T = poolT ⟨lb, 0, 0, 0⟩ := ⟨_, rfl⟩
  rw [← hTT] at hT hT5 ht1
  obtain ⟨t, ht⟩ : ∃ t, t = T.2.length := ⟨_, rfl⟩
  have hST := (fun A C c d w h1 h2 => same_w A C t c d T.2 w h1 h2 ht.symm (by omega))
  rw [← ht] at hT hT5
  have hF := (fun g w h => fault_m g T.1 w h)
  have hF5 := (fun g w h => fault_r g T.1 w h)
  have hA := (fun g w h => at_m g T.1 w h)
  have hA5 := (fun g w h => at_r g T.1 w h)
  unfold fv at hF hF5
  obtain ⟨fe, hfe⟩ : ∃ fe : Int, fe = T.1.e := ⟨_, rfl⟩
  obtain ⟨ff, hff⟩ : ∃ ff : Int, ff = (T.1.f : Int) := ⟨_, rfl⟩
  obtain ⟨fp, hfp⟩ : ∃ fp : Int, fp = (T.1.p : Int) := ⟨_, rfl⟩
  rw [← hfe, ← hff] at hF hF5
  rw [← hfp] at hA hA5
  have HP := Lib.hid hP; have HP5 := Lib.hid hP5; have HSB := Lib.hid hSB; have HO := Lib.hid hO; have HO5 := Lib.hid hO5; have HT := Lib.hid hT; have HT5 := Lib.hid hT5
  have HST := Lib.hid hST; have HF := Lib.hid hF; have HF5 := Lib.hid hF5; have HA := Lib.hid hA; have HA5 := Lib.hid hA5
  have HFA := Lib.hid hfa
  have e1 : (er == er) = true := by simp
  have e2 : (fe == fe) = true := by simp
  have e3 : (ff == ff) = true := by simp
  have e4 : (fp == fp) = true := by simp
  clear hfa hP hP5 hSB hO hO5 hT hT5 hST hF hF5 hA hA5 hfe hff hfp ht hTT hx hX her hm kl kby kn kr hL11 hLz hx80 ht1 hbig
  go_enter Try.func3, Try.ntmps3
  go_wp2_with fail
  refine HFA.out.mono ?_
  rintro e w1 ⟨⟨A1, rfl, hr1⟩, rfl⟩
  have HR1 := Lib.hid hr1
  clear hr1 HFA
  go_wp2_with fail
  refine (HP.out A1 c _ HR1.out).mono ?_
  rintro e w2 ⟨⟨v2, rfl, hown2⟩, hb2⟩
  obtain ⟨A2, c2, rfl, _, _, hr2⟩ := own_rd hown2
  have HB2 := Lib.hid hb2; have HX2 := Lib.hid hr2; have HR2 := Lib.hid (HR1.out.below hb2)
  clear hb2 hr2 hown2 HP HR1
  go_wp2_with fail
  refine (HP5.out A1 c _ HR2.out).mono ?_
  rintro e w3 ⟨⟨v3, rfl, hown3⟩, hb3⟩
  obtain ⟨A3, c3, rfl, _, _, hr3⟩ := own_rd hown3
  have HB3 := Lib.hid (then' HB2.out hb3); have HX3 := Lib.hid (HX2.out.below hb3); have HY3 := Lib.hid hr3
  clear hb3 hr3 hown3 HP5 HR2 HB2 HX2
  go_wp2_with fail
  refine (HO.out C d _ (HKR.out.below HB3.out)).mono ?_
  rintro e w4 ⟨g, rfl, hg, hrw, hb4⟩
  have HB4 := Lib.hid (then' HB3.out hb4); have HX4 := Lib.hid (HX3.out.below hb4); have HY4 := Lib.hid (HY3.out.below hb4); have HW4 := Lib.hid hrw
  have HG3 := Lib.hid hg
  have HZ3 := Lib.hid hb4
  clear hb4 hrw hg HO
  go_wp2_with fail
  refine (HO5.out C d _ (HKR.out.below HB4.out)).mono ?_
  rintro e w5 ⟨g5, rfl, hg5, hrr, hb5⟩
  have HB5 := Lib.hid (then' HB4.out hb5); have HX5 := Lib.hid (HX4.out.below hb5); have HY5 := Lib.hid (HY4.out.below hb5); have HW5 := Lib.hid (HW4.out.below hb5); have HV5 := Lib.hid hrr
  have HZ5 := Lib.hid (then' HZ3.out hb5)
  have hgw5 : w3.heap.size ≤ g5 := Nat.le_trans HZ3.out.size hg5
  clear hb5 hrr hg5 HO5 HB4 HX4 HY4 HW4
  have hne : g ≠ g5 := HW5.out.ne HV5.out
  have hne5 : g5 ≠ g := fun e => hne e.symm
  go_wp2_with fail
  refine (HT.out g _ HW5.out).mono ?_
  rintro e w6 ⟨⟨A6, c6, rfl, hr6, -⟩, hrw6, hbt6⟩
  have HU6 := Lib.hid hr6; have HW6 := Lib.hid hrw6; have HV6 := Lib.hid (HV5.out.kept hbt6 hne5 HW5.out.no)
  have HZ6 := Lib.hid (HZ5.out.trans (hbt6.below HG3.out HZ5.out.size))
  clear hr6 hrw6 hbt6 HT HW5 HV5 HZ5
  go_wp2_with fail
  refine (HT5.out g5 _ HV6.out).mono ?_
  rintro e w7 ⟨⟨A7, c7, rfl, hr7⟩, hrr7, hbt7⟩
  have HU7 := Lib.hid (rd_apart HV6.out HU6.out hbt7); have HW7 := Lib.hid (HW6.out.kept hbt7 hne HV6.out.no); have HV7 := Lib.hid hrr7; have HQ7 := Lib.hid hr7
  have HZ7 := Lib.hid (HZ6.out.trans (hbt7.below hgw5 HZ6.out.size))
  have HX7 := Lib.hid (HX3.out.below HZ7.out); have HY7 := Lib.hid (HY3.out.below HZ7.out); have HB7 := Lib.hid (then' HB3.out HZ7.out)
  clear hrr7 hr7 hbt7 HT5 HU6 HW6 HV6 HZ6 hne hne5 hgw5
  go_wp2_with fail
  refine (HLV.out _).mono ?_
  rintro e w8 ⟨rfl, hb8⟩
  have HB8 := Lib.hid (then' HB7.out hb8); have HX8 := Lib.hid (HX7.out.below hb8); have HY8 := Lib.hid (HY7.out.below hb8); have HU8 := Lib.hid (HU7.out.below hb8); have HQ8 := Lib.hid (HQ7.out.below hb8); have HW8 := Lib.hid (HW7.out.below hb8); have HV8 := Lib.hid (HV7.out.below hb8)
  clear hb8 HB7 HX7 HY7 HU7 HQ7 HW7 HV7
  go_wp2_with fail
  refine (HSB.out A2 A3 c2 c3 _ HX8.out HY8.out).mono ?_
  rintro e w9 ⟨rfl, q9, rfl⟩
  clear HSB HX8 HY8
  go_wp2_with fail
  refine (HST.out A6 A7 c6 c7 _ (HU8.out.drewN _) (HQ8.out.drewN _)).mono ?_
  rintro e w9 ⟨rfl, q10, rfl⟩
  clear HST HU8 HQ8
  go_wp2_with fail
  refine (HF.out g _ HW8.out.drewN).mono ?_
  rintro e w9 ⟨rfl, hb9⟩
  have HB9 := Lib.hid (then' HB8.out (under hb9)); have HW9 := Lib.hid (HW8.out.below (under hb9)); have HV9 := Lib.hid (HV8.out.below (under hb9))
  clear hb9 HF HB8 HW8 HV8
  go_wp2_with fail
  refine (HF5.out g5 _ HV9.out).mono ?_
  rintro e w10 ⟨rfl, hb10⟩
  have HB10 := Lib.hid (then' HB9.out hb10); have HW10 := Lib.hid (HW9.out.below hb10); have HV10 := Lib.hid (HV9.out.below hb10)
  clear hb10 HF5 HB9 HW9 HV9
  go_wp2_with fail
  refine (HA.out g _ HW10.out).mono ?_
  rintro e w11 ⟨rfl, rfl⟩
  go_wp2_with fail
  refine (HA5.out g5 _ HV10.out).mono ?_
  rintro e w11 ⟨rfl, rfl⟩
  go_wp2
  go_ret
  exact ⟨rfl, HB10.out⟩
end Go.Proofs.Ytchhibicbgimcaa.poolBytes

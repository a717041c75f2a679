/-
  The walk of PoolMakes: pools, places in them, and two together, as the document's answers are.
-/
import Derived.Test.YtjkfjecdgpgkiaaPool5H
namespace Go.Proofs.Ytjkfjecdgpgkiaa.poolMakes
open Go.RowKit Go.Maps
open Go.Proofs.Ytjkfjecdgpgkiaa.num Go.Proofs.Ytjkfjecdgpgkiaa.words Go.Proofs.Ytjkfjecdgpgkiaa.poolp Go.Proofs.Ytjkfjecdgpgkiaa.pool

/-- what is known of a list of arguments -/
theorem few_facts {A : Option Addr} {c : Nat} {ss : List ByteArray} {w : World} (hr : Rd w A (texts.S ss)) (hc : ss.length ≤ c) (hn : ss.length * 16 ≤ 140737488351232) (hxs : ∀ x ∈ ss, x.size ≤ 140737488351232) :
    ∃ L : List Str, (Calls Try.prog 9 #[.slice A ss.length c] w fun e w' => (∃ A', e = .returned (.slice A' L.length c) ∧ Rd w A' (SL L)) ∧ w' = w) ∧ L.length ≤ 1100 ∧ ∀ x ∈ L, x.length ≤ 140737488355328 := by
  rw [S_SL] at hr
  obtain ⟨l, hl⟩ : ∃ l : List Str, l = ss.map (·.data.toList) := ⟨_, rfl⟩
  have hll : ss.length = l.length := by rw [hl, List.length_map]
  rw [← hl] at hr
  rw [hll] at hc hn ⊢
  refine ⟨fewL l, (few_w A c l w hr hc (by omega)).mono ?_, by unfold fewL; rw [List.length_take]; omega, fun x hx => ?_⟩
  · rintro e w' ⟨⟨A', he, hr'⟩, rfl⟩
    exact ⟨⟨A', he, hr'⟩, rfl⟩
  · have hx2 := List.mem_of_mem_take hx
    rw [hl] at hx2
    obtain ⟨y, hy, rfl⟩ := List.mem_map.1 hx2
    have := hxs y hy
    rw [Array.length_toList]; show y.size ≤ _; omega
theorem merge_small (a b : List Str) : (mergeL a b).length ≤ 1024 := by
  unfold mergeL
  split
  · exact (make_pool _).2.1
  · simp

set_option maxRecDepth 100000 in
set_option maxHeartbeats 4000000 in
theorem walk (A : Option Addr) (c : Nat) (ss : List ByteArray) (C : Option Addr) (d : Nat) (tt : List ByteArray) (s : ByteArray) (w : World) (hr : Rd w A (texts.S ss)) (hc : ss.length ≤ c) (hn : ss.length * 16 ≤ 140737488351232) (hxs : ∀ x ∈ ss, x.size ≤ 140737488351232)
    (kr : Rd w C (texts.S tt)) (kc : tt.length ≤ d) (kn : tt.length * 16 ≤ 140737488351232) (kxs : ∀ x ∈ tt, x.size ≤ 140737488351232) (hs : s.size ≤ 140737488351232) :
    Calls Try.prog 3 #[.slice A ss.length c, .slice C tt.length d, .string s] w fun e w' => e = .returned (.bool true) ∧ Below w.heap.size w w' := by
  obtain ⟨t, rfl⟩ : ∃ t : Str, s = ⟨t.toArray⟩ := ⟨s.data.toList, by simp⟩
  clear hs
  obtain ⟨La, hfa, ha11, haz⟩ := few_facts hr hc hn hxs
  obtain ⟨Lb, hfb, hb11, hbz⟩ := few_facts kr kc kn kxs
  obtain ⟨n0, hn0⟩ : ∃ n0, n0 = ss.length := ⟨_, rfl⟩
  obtain ⟨m0, hm0⟩ : ∃ m0, m0 = tt.length := ⟨_, rfl⟩
  rw [← hn0] at hfa; rw [← hm0] at hfb
  rw [← hn0, ← hm0]
  clear hr hc hn hxs kr kc kn kxs hn0 hm0
  have hM := (fun A c w hr => make_w A c La w hr (by omega) haz)
  have hM5 := (fun A c w hr => make5_w A c La w hr (by omega) haz)
  have hpz : ∀ x ∈ makeL La, x.length ≤ 140737488355328 := fun x hx => by have := (make_pool La).2.2 x hx; omega
  have hpl := (make_pool La).2.1
  have hG := (fun A C c d w hr kr => merge_w A C c d (makeL La) Lb w hr kr (by omega) (by omega) hpz hbz)
  have hG5 := (fun A C c d w hr kr => merge5_w A C c d (makeL La) Lb w hr kr (by omega) (by omega) hpz hbz)
  have hRb := (fun C d w hr => right_w C d Lb w hr (by omega) hbz)
  have hRb5 := (fun C d w hr => right5_w C d Lb w hr (by omega) hbz)
  have hFp := (fun A c w hr => find_w A c (makeL La) t w hr (by omega) hpz)
  have hFp5 := (fun A c w hr => find5_w A c (makeL La) t w hr (by omega) hpz)
  have hFb := (fun A c w hr => find_w A c Lb t w hr (by omega) hbz)
  have hFb5 := (fun A c w hr => find5_w A c Lb t w hr (by omega) hbz)
  unfold Made at hM hM5
  unfold Merged at hG hG5
  have hz1024 := merge_small (makeL La) Lb
  obtain ⟨er, her⟩ : ∃ er : Int, er = if bad La = true then 3 else 0 := ⟨_, rfl⟩
  rw [← her] at hM hM5
  obtain ⟨ge, hge⟩ : ∃ ge : Int, ge = mergeE (makeL La) Lb := ⟨_, rfl⟩
  rw [← hge] at hG hG5
  obtain ⟨M, hMM⟩ : ∃ M, M = mergeL (makeL La) Lb := ⟨_, rfl⟩
  rw [← hMM] at hG hG5 hz1024
  obtain ⟨P, hP⟩ : ∃ P, P = makeL La := ⟨_, rfl⟩
  rw [← hP] at hM hM5 hpl hG hG5 hFp hFp5
  obtain ⟨n, hn⟩ : ∃ n, n = La.length := ⟨_, rfl⟩
  obtain ⟨m, hm⟩ : ∃ m, m = Lb.length := ⟨_, rfl⟩
  obtain ⟨p, hp⟩ : ∃ p, p = P.length := ⟨_, rfl⟩
  obtain ⟨z, hz⟩ : ∃ z, z = M.length := ⟨_, rfl⟩
  have HSP := Lib.hid (fun A C c d w h1 h2 => same_w A C p c d P w h1 h2 hp.symm (by omega))
  have HSM := Lib.hid (fun A C c d w h1 h2 => same_w A C z c d M w h1 h2 hz.symm (by omega))
  rw [← hn] at hfa hM hM5
  rw [← hm] at hfb hG hG5 hRb hRb5 hFb hFb5
  rw [← hp] at hM hM5 hG hG5 hFp hFp5
  rw [← hz] at hG hG5
  have HFA := Lib.hid hfa; have HFB := Lib.hid hfb; have HM := Lib.hid hM; have HM5 := Lib.hid hM5; have HG := Lib.hid hG; have HG5 := Lib.hid hG5
  have HRB := Lib.hid hRb; have HRB5 := Lib.hid hRb5; have HFP := Lib.hid hFp; have HFP5 := Lib.hid hFp5; have HFBB := Lib.hid hFb; have HFB5 := Lib.hid hFb5
  have HLV := Lib.hid (fun w => live_any w)
  generalize rightB Lb = rb at *
  generalize findI P t = fp at *
  generalize findI Lb t = fb at *
  have e1 : (er == er) = true := by simp
  have e2 : (ge == ge) = true := by simp
  have e3 : (fp == fp) = true := by simp
  have e4 : (fb == fb) = true := by simp
  have e5 : (rb == rb) = true := by simp
  clear hfa hfb ha11 haz hb11 hbz hM hM5 hpz hpl hG hG5 hRb hRb5 hFp hFp5 hFb hFb5 hz1024 her hge hMM hP hn hm hp hz
  go_enter Try.func3, Try.ntmps3
  go_wp2_with fail
  refine HFA.out.mono ?_
  rintro e w1 ⟨⟨A1, rfl, hr1⟩, rfl⟩
  have HR1 := Lib.hid hr1
  clear hr1 HFA
  go_wp2_with fail
  refine HFB.out.mono ?_
  rintro e w1 ⟨⟨C1, rfl, kr1⟩, rfl⟩
  have KR1 := Lib.hid kr1
  clear kr1 HFB
  go_wp2_with fail
  refine (HM.out A1 c _ HR1.out).mono ?_
  rintro e w2 ⟨⟨A2, c2, rfl, _, hr2⟩, hb2⟩
  have HB2 := Lib.hid hb2; have HX2 := Lib.hid hr2; have HA2 := Lib.hid (HR1.out.below hb2); have HC2 := Lib.hid (KR1.out.below hb2)
  clear hb2 hr2 HM HR1 KR1
  go_wp2_with fail
  refine (HM5.out A1 c _ HA2.out).mono ?_
  rintro e w3 ⟨⟨A3, c3, rfl, _, hr3⟩, hb3⟩
  have HB3 := Lib.hid (then' HB2.out hb3); have HX3 := Lib.hid (HX2.out.below hb3); have HY3 := Lib.hid hr3; have HC3 := Lib.hid (HC2.out.below hb3)
  clear hb3 hr3 HM5 HB2 HX2 HA2 HC2
  go_wp2_with fail
  refine (HG.out A2 C1 c2 d _ HX3.out HC3.out).mono ?_
  rintro e w4 ⟨⟨A4, c4, rfl, _, hr4⟩, hb4⟩
  have HB4 := Lib.hid (then' HB3.out hb4); have HX4 := Lib.hid (HX3.out.below hb4); have HY4 := Lib.hid (HY3.out.below hb4); have HC4 := Lib.hid (HC3.out.below hb4); have HU4 := Lib.hid hr4
  clear hb4 hr4 HG HB3 HX3 HY3 HC3
  go_wp2_with fail
  refine (HG5.out A3 C1 c3 d _ HY4.out HC4.out).mono ?_
  rintro e w5 ⟨⟨A5, c5, rfl, _, hr5⟩, hb5⟩
  have HB5 := Lib.hid (then' HB4.out hb5); have HX5 := Lib.hid (HX4.out.below hb5); have HY5 := Lib.hid (HY4.out.below hb5); have HC5 := Lib.hid (HC4.out.below hb5); have HU5 := Lib.hid (HU4.out.below hb5); have HV5 := Lib.hid hr5
  clear hb5 hr5 HG5 HB4 HX4 HY4 HC4 HU4
  go_wp2_with fail
  refine (HLV.out _).mono ?_
  rintro e w6 ⟨rfl, hb6⟩
  have HB6 := Lib.hid (then' HB5.out hb6); have HX6 := Lib.hid (HX5.out.below hb6); have HY6 := Lib.hid (HY5.out.below hb6); have HC6 := Lib.hid (HC5.out.below hb6); have HU6 := Lib.hid (HU5.out.below hb6); have HV6 := Lib.hid (HV5.out.below hb6)
  clear hb6 HLV HB5 HX5 HY5 HC5 HU5 HV5
  go_wp2_with fail
  refine (HSP.out A2 A3 c2 c3 _ HX6.out HY6.out).mono ?_
  rintro e w7 ⟨rfl, q7, rfl⟩
  clear HSP HY6
  go_wp2_with fail
  refine (HRB.out C1 d _ (HC6.out.drewN _)).mono ?_
  rintro e w7 ⟨rfl, q8, rfl⟩
  clear HRB
  go_wp2_with fail
  refine (HRB5.out C1 d _ (HC6.out.drewN _)).mono ?_
  rintro e w7 ⟨rfl, q9, rfl⟩
  clear HRB5
  go_wp2_with fail
  refine (HFP.out A2 c2 _ (HX6.out.drewN _)).mono ?_
  rintro e w7 ⟨rfl, q10, rfl⟩
  clear HFP
  go_wp2_with fail
  refine (HFP5.out A2 c2 _ (HX6.out.drewN _)).mono ?_
  rintro e w7 ⟨rfl, q11, rfl⟩
  clear HFP5
  go_wp2_with fail
  refine (HFBB.out C1 d _ (HC6.out.drewN _)).mono ?_
  rintro e w7 ⟨rfl, q12, rfl⟩
  clear HFBB
  go_wp2_with fail
  refine (HFB5.out C1 d _ (HC6.out.drewN _)).mono ?_
  rintro e w7 ⟨rfl, q13, rfl⟩
  clear HFB5
  go_wp2_with fail
  refine (HSM.out A4 A5 c4 c5 _ (HU6.out.drewN _) (HV6.out.drewN _)).mono ?_
  rintro e w7 ⟨rfl, q14, rfl⟩
  go_wp2
  go_ret
  exact ⟨rfl, over HB6.out⟩
end Go.Proofs.Ytjkfjecdgpgkiaa.poolMakes

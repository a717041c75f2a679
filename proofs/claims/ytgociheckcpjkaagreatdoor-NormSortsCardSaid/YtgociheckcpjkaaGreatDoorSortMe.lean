/- SortMe -/
import Derived.Test.YtgociheckcpjkaaGreatDoorNormT
import Derived.Test.YtgociheckcpjkaaGreatDoorNormK
import Derived.Deep.DeepCutAuto
import Derived.Deep.RegionHeld3
import Derived.Deep.MidRow
namespace Go.Proofs.YtgociheckcpjkaaGreatDoor.prg
open Go.RowKit
open words kindp opp op kind word sorts
set_option maxRecDepth 100000
set_option maxHeartbeats 4000000
set_option linter.all false
theorem len_me (x : MeM) : (meC x).length = 6 := rfl
theorem size_me : (Tryz.prog.info? 38).map (·.size) = some 6 := by kernel_rfl
theorem one_me (x : MeM) : ∀ v ∈ meC x, v.oneCell' = true := by
 unfold meC
 intro v hv
 simp only [List.mem_cons, List.not_mem_nil, or_false] at hv
 rcases hv with rfl | rfl | rfl | rfl | rfl | rfl <;> rfl
theorem swr_me (P A M B Q : List MeM) (b g n c i j m : Nat) (w : World) (hr : Row 38 6 meC b g n c w (P ++ (A ++ (M ++ (B ++ Q))))) (hA : A.length = m) (hB : B.length = m) (hi : P.length = i) (hj : i + m + M.length = j) (hn : n ≤ 281474976710656) :
 Calls Tryz.prog 135 #[.slice (some ⟨g, 0, none⟩) n c, .int .i64 (i : Int), .int .i64 (j : Int), .int .i64 (m : Int), .func (.func 24) #[] #[]] w fun e w' => e = .returned (.tuple #[]) ∧ Row 38 6 meC b g n c w' (P ++ (B ++ (M ++ (A ++ Q)))) ∧ w.grownBy w' (some g) := by
 have hN := hr.len
 simp only [List.length_append] at hN
 have HR := hh hr
 have hbd : (n : Int) ≤ 281474976710656 := by omega
 have hib : i + m ≤ n := by omega
 have hjb : j + m ≤ n := by omega
 have HU := hh Tryz.underlying38
 clear hr hN
 go_enter Tryz.func135, Tryz.ntmps135
 go_wp2
 go_loopw [10] (fun z wr => ∃ k : Nat, z = .int .i64 (k : Int) ∧ k ≤ m ∧ Row 38 6 meC b g n c wr (swp P A M B Q k) ∧ w.grownBy wr (some g)) (fun z _ => m - (intOf z).toNat)
 case atStart => exact ⟨0, rfl, Nat.zero_le _, by rw [swp_zero]; exact HR.out, gt_refl _ _⟩
 case round =>
  obtain ⟨k, rfl, hk, hrk, hgk⟩ := hrel
  obtain ⟨wa, hwa⟩ : ∃ u, u = wr := ⟨_, rfl⟩
  subst hwa
  have HRK := hh hrk; have HGK := hh hgk
  by_cases hlt : k < m
  ·have hltI : (k : Int) < (m : Int) := by omega
   obtain ⟨x, hx⟩ : ∃ x, A[k]? = some x := ⟨A[k]'(by omega), List.getElem?_eq_getElem _⟩
   obtain ⟨y, hy⟩ : ∃ y, B[k]? = some y := ⟨B[k]'(by omega), List.getElem?_eq_getElem _⟩
   obtain ⟨s1, s2, s3⟩ := swp_step P A M B Q k x y hx hy (by omega)
   obtain ⟨p, hp⟩ : ∃ p, p = i + k := ⟨_, rfl⟩
   obtain ⟨q, hq⟩ : ∃ q, q = j + k := ⟨_, rfl⟩
   rw [show P.length + k = p by omega] at s1 s3
   rw [show P.length + A.length + M.length + k = q by omega] at s2 s3
   have hwp : IntKind.i64.wrap ((i : Int) + (k : Int)) = (p : Int) := by rw [show (i : Int) + (k : Int) = (p : Int) by omega]; exact IntWalk.i64_in _ (by omega)
   have hwq : IntKind.i64.wrap ((j : Int) + (k : Int)) = (q : Int) := by rw [show (j : Int) + (k : Int) = (q : Int) by omega]; exact IntWalk.i64_in _ (by omega)
   have hpn : (p : Int) < (n : Int) := by omega
   have hqn : (q : Int) < (n : Int) := by omega
   have hp0 : (0 : Int) ≤ (p : Int) := by omega
   have hq0 : (0 : Int) ≤ (q : Int) := by omega
   have r1 := hrk.range len_me s1
   have r2 := hrk.range len_me s2
   have t1 := hrk.there len_me (i := p) (by omega)
   have t2 := hrk.there len_me (i := q) (by omega)
   have HT := hh (hrk.two len_me (i := p) (j := q) x y (by omega) (by omega))
   rw [s3] at HT
   obtain ⟨cx, hcx⟩ : ∃ cx, cx = meC x := ⟨_, rfl⟩
   obtain ⟨cy, hcy⟩ : ∃ cy, cy = meC y := ⟨_, rfl⟩
   have ox : ∀ v ∈ cx, v.oneCell' = true := by rw [hcx]; exact one_me x
   have oy : ∀ v ∈ cy, v.oneCell' = true := by rw [hcy]; exact one_me y
   have lx : cx.length = 6 := by rw [hcx]; rfl
   have ly : cy.length = 6 := by rw [hcy]; rfl
   rw [← hcx] at r1 HT
   rw [← hcy] at r2 HT
   have hi1 : (Tryz.prog.info? 38).map (·.size) = some cx.length := by rw [size_me, lx]
   have hi2 : (Tryz.prog.info? 38).map (·.size) = some cy.length := by rw [size_me, ly]
   have hu := HU.out
   clear s1 s2 s3 hcx hcy hx hy hrk hgk hp hq
   go_wp2_with fail
   refine wp_region_held_drew (S := (fun _ => True)) (by kernel_rfl) ?_ (fun hHeld => ?_)
   ·exact trivial
   refine tkp 0 rfl ?_
   refine tkp 1 rfl ?_
   refine tkp 2 rfl ?_
   refine tkp 3 rfl ?_
   refine tkp 4 rfl ?_
   refine tkp 5 rfl ?_
   refine tkp 6 rfl ?_
   refine tkp 7 rfl ?_
   refine tkp 8 rfl ?_
   refine tkp 9 rfl ?_
   refine tkp 10 rfl ?_
   refine tkp 11 rfl ?_
   refine tkp 12 rfl ?_
   refine tkp 14 rfl ?_
   refine tkp 15 rfl ?_
   refine tkp 16 rfl ?_
   refine tkp 17 rfl ?_
   refine tkp 18 rfl ?_
   refine tld2 13 19 g (q * 6) g (p * 6) cy cx rfl rfl rfl rfl rfl rfl rfl rfl (fun _ => rfl) (fun _ => rfl) r2 r1 hu hi2 hi1 trivial ?_ (by decide) (by decide)
   try simp only [puts]
   refine tkp 20 rfl ?_
   refine tst 21 g (p * 6) cy rfl rfl rfl rfl (by rw [ly]; exact t1) hi2 oy trivial (fun _ => ?_)
   try simp only [puts]
   refine tkp 22 rfl ?_
   refine tst 23 g (q * 6) cx rfl rfl rfl rfl (by rw [lx]; exact World.there_setCells (show wa.drew.there g (q * 6) 6 from t2) _ _ _) hi1 ox trivial (fun _ => ?_)
   try simp only [puts]
   refine wpAnyH_done (by kernel_rfl) ?_ _
   go_wp2
   go_roundw
   case rel => exact ⟨k + 1, by go_num, by omega, HT.out.1, gt_trans HGK.out HT.out.2⟩
   case measure => simp [intOf]; omega
  ·have hltI : ¬ (k : Int) < (m : Int) := by omega
   have he := hrk
   rw [swp_end P A M B Q k (by omega) (by omega)] at he
   have HE := hh he
   clear hrk hgk he
   go_wp2
   refine bodyPost_end (v := .tuple #[]) (by simp [results, Tryz.results135, go_sem]) rfl ?_
   exact ⟨rfl, HE.out, HGK.out⟩
theorem rot_me (P U V Q : List MeM) (b g n c i m j : Nat) (w : World) (hr : Row 38 6 meC b g n c w (P ++ (U ++ (V ++ Q)))) (hi : P.length = i) (hm : i + U.length = m) (hj : m + V.length = j) (hU : 0 < U.length) (hV : 0 < V.length) (hn : n ≤ 281474976710656) :
 Calls Tryz.prog 122 #[.slice (some ⟨g, 0, none⟩) n c, .int .i64 (i : Int), .int .i64 (m : Int), .int .i64 (j : Int), .func (.func 24) #[] #[]] w fun e w' => e = .returned (.tuple #[]) ∧ Row 38 6 meC b g n c w' (P ++ (V ++ (U ++ Q))) ∧ w.grownBy w' (some g) := by
 have hN := hr.len
 simp only [List.length_append] at hN
 obtain ⟨G, hG⟩ : ∃ G, G = P ++ (V ++ (U ++ Q)) := ⟨_, rfl⟩
 rw [← hG]
 have HGL := hh (show P ++ (V ++ (U ++ Q)) = G from hG.symm)
 have HR := hh hr
 have hbd : (n : Int) ≤ 281474976710656 := by omega
 have hjn : j ≤ n := by omega
 obtain ⟨u0, hu0⟩ : ∃ u, u = U.length := ⟨_, rfl⟩
 obtain ⟨v0, hv0⟩ : ∃ u, u = V.length := ⟨_, rfl⟩
 have hs1 : IntKind.i64.wrap ((m : Int) - (i : Int)) = (u0 : Int) := by rw [show (m : Int) - (i : Int) = (u0 : Int) by omega]; exact IntWalk.i64_in _ (by omega)
 have hs2 : IntKind.i64.wrap ((j : Int) - (m : Int)) = (v0 : Int) := by rw [show (j : Int) - (m : Int) = (v0 : Int) by omega]; exact IntWalk.i64_in _ (by omega)
 have HS := hh (fun (P A M B Q : List MeM) (i j m : Nat) (w : World) (hr : Row 38 6 meC b g n c w (P ++ (A ++ (M ++ (B ++ Q))))) (hA : A.length = m) (hB : B.length = m) (hi : P.length = i) (hj : i + m + M.length = j) => swr_me P A M B Q b g n c i j m w hr hA hB hi hj hn)
 have H0 := hh (show u0 = U.length ∧ v0 = V.length ∧ P.length + u0 = m ∧ 0 < u0 ∧ 0 < v0 ∧ m + v0 ≤ n from ⟨hu0, hv0, by omega, by omega, by omega, by omega⟩)
 clear hr hN hG hU hV hi hm hj hu0 hv0
 go_enter Tryz.func122, Tryz.ntmps122
 go_wp2
 go_loopw [10, 11] (fun x y wr => ∃ u v : Nat, x = .int .i64 (u : Int) ∧ y = .int .i64 (v : Int) ∧ 0 < u ∧ 0 < v ∧ m + v ≤ n ∧ u ≤ m ∧ w.grownBy wr (some g) ∧ ∃ P' U' V' Q' : List MeM, U'.length = u ∧ V'.length = v ∧ P'.length + u = m ∧ Row 38 6 meC b g n c wr (P' ++ (U' ++ (V' ++ Q'))) ∧ P' ++ (V' ++ (U' ++ Q')) = G) (fun x y _ => (intOf x).toNat + (intOf y).toNat)
 case atStart => exact ⟨u0, v0, rfl, rfl, H0.out.2.2.2.1, H0.out.2.2.2.2.1, H0.out.2.2.2.2.2, by have := H0.out.2.2.1; omega, gt_refl _ _, P, U, V, Q, H0.out.1.symm, H0.out.2.1.symm, H0.out.2.2.1, HR.out, HGL.out⟩
 case round =>
  obtain ⟨u, v, rfl, rfl, hu, hv, hvn, hum, hg, P', U', V', Q', lU, lV, lP, hr, he⟩ := hrel
  obtain ⟨wa, hwa⟩ : ∃ z, z = wr := ⟨_, rfl⟩
  subst hwa
  have HGK := hh hg
  obtain ⟨p, hp⟩ : ∃ p, p = P'.length := ⟨_, rfl⟩
  have hsp : IntKind.i64.wrap ((m : Int) - (u : Int)) = (p : Int) := by rw [show (m : Int) - (u : Int) = (p : Int) by omega]; exact IntWalk.i64_in _ (by omega)
  by_cases huv : u = v
  ·subst huv
   have HC := hh (HS.out P' U' [] V' Q' p m u wa hr lU lV hp.symm (by simp; omega))
   have HE := hh he
   clear hr he lU lV lP hp hg hu hv hvn hum
   go_wp2_with fail
   refine HC.out.mono ?_
   rintro e v1 ⟨rfl, hr1, hg1⟩
   have HR1 := hh hr1; have HG1 := hh hg1
   clear hr1 hg1
   go_wp2
   refine bodyPost_end (v := .tuple #[]) (by simp [results, Tryz.results122, go_sem]) rfl ?_
   exact ⟨rfl, by rw [← HE.out]; exact HR1.out, gt_trans HGK.out HG1.out⟩
  ·have huv' : ¬ (u : Int) = (v : Int) := by omega
   by_cases hlt : v < u
   ·have hltI : (v : Int) < (u : Int) := by omega
    obtain ⟨d, hd⟩ : ∃ d, d = u - v := ⟨_, rfl⟩
    have hsd : IntKind.i64.wrap ((u : Int) - (v : Int)) = (d : Int) := by rw [show (u : Int) - (v : Int) = (d : Int) by omega]; exact IntWalk.i64_in _ (by omega)
    have HC := hh (HS.out P' (U'.take v) (U'.drop v) V' Q' p m v wa (by rw [← List.append_assoc (U'.take v), List.take_append_drop]; exact hr) (by rw [List.length_take]; omega) lV hp.symm (by rw [List.length_drop]; omega))
    have HNX := hh (show 0 < d ∧ d ≤ m ∧ (U'.drop v).length = d ∧ (U'.take v).length = v ∧ (P' ++ V').length + d = m from ⟨by omega, by omega, by rw [List.length_drop]; omega, by rw [List.length_take]; omega, by rw [List.length_append]; omega⟩)
    have HE := hh (show (P' ++ V') ++ (U'.take v ++ (U'.drop v ++ Q')) = G by rw [← he, ← List.append_assoc (U'.take v), List.take_append_drop, List.append_assoc])
    have HV := hh (show 0 < v ∧ m + v ≤ n from ⟨hv, hvn⟩)
    have hMS := hh (show d + v < u + v by omega)
    clear hr he lU lV lP hp hg hu hv hvn hum hd
    go_wp2_with fail
    refine HC.out.mono ?_
    rintro e v1 ⟨rfl, hr1, hg1⟩
    have HR1 := hh hr1; have HG1 := hh hg1
    clear hr1 hg1
    go_wp2
    go_roundw
    case rel => exact ⟨d, v, rfl, rfl, HNX.out.1, HV.out.1, HV.out.2, HNX.out.2.1, gt_trans HGK.out HG1.out, P' ++ V', U'.drop v, U'.take v, Q', HNX.out.2.2.1, HNX.out.2.2.2.1, HNX.out.2.2.2.2, by have := HR1.out; rw [List.append_assoc]; exact this, HE.out⟩
    case measure => have := hMS.out; simp [intOf]; omega
   ·have hltI : ¬ (v : Int) < (u : Int) := by omega
    obtain ⟨d, hd⟩ : ∃ d, d = v - u := ⟨_, rfl⟩
    have hsd : IntKind.i64.wrap ((v : Int) - (u : Int)) = (d : Int) := by rw [show (v : Int) - (u : Int) = (d : Int) by omega]; exact IntWalk.i64_in _ (by omega)
    obtain ⟨t, ht⟩ : ∃ t, t = m + v := ⟨_, rfl⟩
    have hst : IntKind.i64.wrap ((m : Int) + (v : Int)) = (t : Int) := by rw [show (m : Int) + (v : Int) = (t : Int) by omega]; exact IntWalk.i64_in _ (by omega)
    obtain ⟨q, hq⟩ : ∃ q, q = m + d := ⟨_, rfl⟩
    have hsq : IntKind.i64.wrap ((t : Int) - (u : Int)) = (q : Int) := by rw [show (t : Int) - (u : Int) = (q : Int) by omega]; exact IntWalk.i64_in _ (by omega)
    have HC := hh (HS.out P' U' (V'.take d) (V'.drop d) Q' p q u wa (by rw [← List.append_assoc (V'.take d), List.take_append_drop]; exact hr) lU (by rw [List.length_drop]; omega) hp.symm (by rw [List.length_take]; omega))
    have HNX := hh (show 0 < d ∧ m + d ≤ n ∧ (V'.drop d).length = u ∧ (V'.take d).length = d ∧ P'.length + u = m from ⟨by omega, by omega, by rw [List.length_drop]; omega, by rw [List.length_take]; omega, by omega⟩)
    have HE := hh (show P' ++ (V'.take d ++ (V'.drop d ++ (U' ++ Q'))) = G by rw [← he, ← List.append_assoc (V'.take d), List.take_append_drop])
    have HV := hh (show 0 < u ∧ u ≤ m from ⟨hu, hum⟩)
    have hMS := hh (show u + d < u + v by omega)
    clear hr he lU lV lP hp hg hu hv hvn hum hd ht hq
    go_wp2_with fail
    refine HC.out.mono ?_
    rintro e v1 ⟨rfl, hr1, hg1⟩
    have HR1 := hh hr1; have HG1 := hh hg1
    clear hr1 hg1
    go_wp2
    go_roundw
    case rel => exact ⟨u, d, rfl, rfl, HV.out.1, HNX.out.1, HNX.out.2.1, HV.out.2, gt_trans HGK.out HG1.out, P', V'.drop d, V'.take d, U' ++ Q', HNX.out.2.2.1, HNX.out.2.2.2.1, HNX.out.2.2.2.2, HR1.out, HE.out⟩
    case measure => have := hMS.out; simp [intOf]; omega
theorem ins_me (P X Q : List MeM) (b g n c i j : Nat) (w : World) (hr : Row 38 6 meC b g n c w (P ++ (X ++ Q))) (hi : P.length = i) (hj : i + X.length = j) (hn : n ≤ 281474976710656) :
 Calls Tryz.prog 102 #[.slice (some ⟨g, 0, none⟩) n c, .int .i64 (i : Int), .int .i64 (j : Int), .func (.func 24) #[] #[]] w fun e w' => e = .returned (.tuple #[]) ∧ Row 38 6 meC b g n c w' (P ++ (sortS ltM X ++ Q)) ∧ w.grownBy w' (some g) := by
 have hN := hr.len
 simp only [List.length_append] at hN
 have hbd : (n : Int) ≤ 281474976710656 := by omega
 have hjn : j ≤ n := by omega
 have HU := hh Tryz.underlying38
 have HI := hh hi; have HJ := hh hj
 have hs0 : IntKind.i64.wrap ((i : Int) + 1) = ((i + 1 : Nat) : Int) := by rw [show (i : Int) + 1 = ((i + 1 : Nat) : Int) by omega]; exact IntWalk.i64_in _ (by omega)
 have HX0 := hh (show Row 38 6 meC b g n c w (P ++ (sortS ltM (X.take 1) ++ (X.drop 1 ++ Q))) from by
  have e : sortS ltM (X.take 1) = X.take 1 := by cases X with
   | nil => rfl
   | cons x X => simp [sortS, nil_mrg]
  rw [e, ← List.append_assoc (X.take 1), List.take_append_drop]; exact hr)
 clear hr hN hi hj
 go_enter Tryz.func102, Tryz.ntmps102
 go_wp2
 go_loopw [8] (fun z wr => ∃ t y : Nat, z = .int .i64 (y : Int) ∧ y = i + t ∧ 0 < t ∧ (t ≤ X.length ∨ t = 1) ∧ Row 38 6 meC b g n c wr (P ++ (sortS ltM (X.take t) ++ (X.drop t ++ Q))) ∧ w.grownBy wr (some g)) (fun z _ => j - (intOf z).toNat)
 case atStart => exact ⟨1, i + 1, rfl, rfl, by omega, .inr rfl, HX0.out, gt_refl _ _⟩
 case round =>
  obtain ⟨t, y, rfl, hy, ht, htx, hrk, hgk⟩ := hrel
  obtain ⟨wa, hwa⟩ : ∃ u, u = wr := ⟨_, rfl⟩
  subst hwa
  have HGK := hh hgk
  by_cases hlt : y < j
  ·have hltI : (y : Int) < (j : Int) := by omega
   have htl : t < X.length := by have := HJ.out; omega
   obtain ⟨x, hx⟩ : ∃ x, X[t]? = some x := ⟨X[t]'htl, List.getElem?_eq_getElem _⟩
   obtain ⟨S, hS⟩ : ∃ S, S = sortS ltM (X.take t) := ⟨_, rfl⟩
   have hSl : S.length = t := by rw [hS, sortS_length, List.length_take]; omega
   have hSa : Asc ltM S := by rw [hS]; exact asc_sortS swo_me _
   obtain ⟨R, hR⟩ : ∃ R, R = X.drop (t + 1) ++ Q := ⟨_, rfl⟩
   have hd : X.drop t ++ Q = x :: R := by rw [hR, List.drop_eq_getElem_cons htl, List.cons_append]; congr 1; exact (List.getElem?_eq_some_iff.1 hx).2
   have HND := hh (show ∀ S1 S2, S = S1 ++ S2 → (∀ z ∈ S1, ltM x z = false) → (∀ z ∈ S2, ltM x z = true) → P ++ (sortS ltM (X.take (t + 1)) ++ (X.drop (t + 1) ++ Q)) = P ++ (S1 ++ x :: (S2 ++ R)) from fun S1 S2 h1 h2 h3 => by
    rw [List.take_add_one, hx, Option.toList_some, sortS_snoc, ← hS, h1, ins_at S1 S2 x h2 h3, hR]; simp only [List.append_assoc, List.cons_append])
   have hs1 : IntKind.i64.wrap ((y : Int) + 1) = ((y + 1 : Nat) : Int) := by rw [show (y : Int) + 1 = ((y + 1 : Nat) : Int) by omega]; exact IntWalk.i64_in _ (by omega)
   have HY := hh (show y + 1 = i + (t + 1) ∧ 0 < t + 1 ∧ t + 1 ≤ X.length ∧ y < j from ⟨by omega, by omega, by omega, hlt⟩)
   have HR1 := hh (show Row 38 6 meC b g n c wa (P ++ (S ++ x :: ([] ++ R))) by rw [hS, List.nil_append, ← hd]; exact hrk)
   have HSA := hh hSa
   have HYS := hh (show y = i + S.length by omega)
   obtain ⟨cx, ecx⟩ : ∃ c, c = meC x := ⟨_, rfl⟩
   have ocx : ∀ v ∈ cx, v.oneCell' = true := by rw [ecx]; exact one_me x
   have lcx : cx.length = 6 := by rw [ecx]; rfl
   have hcx : (Tryz.prog.info? 38).map (·.size) = some cx.length := by rw [size_me, lcx]
   have HCX := hh ecx
   have hu := HU.out
   clear hrk hgk hx hS hSl hSa hR hd htl ecx hy ht htx hlt
   go_wp2
   go_loopw [9] (fun z wr => ∃ q : Nat, z = .int .i64 (q : Int) ∧ ∃ S1 S2, S = S1 ++ S2 ∧ q = i + S1.length ∧ (∀ z ∈ S2, ltM x z = true) ∧ Row 38 6 meC b g n c wr (P ++ (S1 ++ x :: (S2 ++ R))) ∧ w.grownBy wr (some g)) (fun z _ => (intOf z).toNat)
   case atStart => exact ⟨y, rfl, S, [], by simp, HYS.out, by simp, HR1.out, HGK.out⟩
   case round =>
    obtain ⟨q, rfl, S1, S2, hSS, hq, h2, hrk, hgk⟩ := hrel
    obtain ⟨wb, hwb⟩ : ∃ u, u = wr := ⟨_, rfl⟩
    subst hwb
    have HGB := hh hgk
    rcases List.eq_nil_or_concat S1 with h0 | ⟨S1', z, h0⟩
    ·have hqi : ¬ (i : Int) < (q : Int) := by rw [h0] at hq; simp at hq; omega
     have hqd : decide ((i : Int) < (q : Int)) = false := decide_eq_false hqi
     have hqn : decide (i < q) = false := decide_eq_false (by omega)
     have HRE := hh (show Row 38 6 meC b g n c wb (P ++ (sortS ltM (X.take (t + 1)) ++ (X.drop (t + 1) ++ Q))) by rw [HND.out S1 S2 hSS (by rw [h0]; simp) h2]; exact hrk)
     clear hrk hgk h0 hSS h2 hq
     go_wp2_with fail
     refine wp_region_held_drew (S := (fun _ => True)) (by kernel_rfl) ?_ (fun hHeld => ?_)
     ·exact trivial
     refine tkp 0 rfl ?_
     refine tkp 1 rfl ?_
     refine tkp 2 rfl ?_
     refine tkp 3 rfl ?_
     refine tup 4 rfl ?_
     refine tup 5 rfl ?_
     refine tup 6 rfl ?_
     refine tup 7 rfl ?_
     refine tup 8 rfl ?_
     refine tup 9 rfl ?_
     refine tup 10 rfl ?_
     refine tup 11 rfl ?_
     refine tup 12 rfl ?_
     refine tup 13 rfl ?_
     refine tup 14 rfl ?_
     refine tup 15 rfl ?_
     refine tkp 16 rfl ?_
     refine wpAnyH_done (by kernel_rfl) ?_ _
     go_wp2
     go_roundw
     case rel => exact ⟨t + 1, y + 1, rfl, HY.out.1, HY.out.2.1, .inl HY.out.2.2.1, HRE.out.drew, gt_drew HGB.out⟩
     case measure => have := HY.out.2.2.2; simp [intOf]; omega
    ·rw [List.concat_eq_append] at h0
     subst h0
     obtain ⟨p, hp⟩ : ∃ p, p = (P ++ S1').length := ⟨_, rfl⟩
     have hpq : q = p + 1 := by rw [hp, List.length_append, HI.out]; simp at hq; omega
     have hpy : q ≤ y := by have := HYS.out; rw [hSS] at this; simp at this hq; omega
     have hrk' : Row 38 6 meC b g n c wb ((P ++ S1') ++ z :: x :: (S2 ++ R)) := by have h := hrk; simp only [List.append_assoc, List.cons_append, List.nil_append] at h ⊢; exact h
     have hqi : (i : Int) < (q : Int) := by simp at hq; omega
     have hqd : decide ((i : Int) < (q : Int)) = true := decide_eq_true hqi
     have hqn : decide (i < q) = true := decide_eq_true (by omega)
     have hpn : (p : Int) < (n : Int) := by have := HY.out.2.2.2; omega
     have hqN : (q : Int) < (n : Int) := by have := HY.out.2.2.2; omega
     have hp0 : (0 : Int) ≤ (p : Int) := by omega
     have hq0 : (0 : Int) ≤ (q : Int) := by omega
     have hsq : IntKind.i64.wrap ((q : Int) - 1) = (p : Int) := by rw [show (q : Int) - 1 = (p : Int) by omega]; exact IntWalk.i64_in _ (by omega)
     obtain ⟨cz, ecz⟩ : ∃ c, c = meC z := ⟨_, rfl⟩
     have ocz : ∀ v ∈ cz, v.oneCell' = true := by rw [ecz]; exact one_me z
     have lcz : cz.length = 6 := by rw [ecz]; rfl
     have hcz : (Tryz.prog.info? 38).map (·.size) = some cz.length := by rw [size_me, lcz]
     have az : ((P ++ S1') ++ z :: x :: (S2 ++ R))[p]? = some z := by rw [hp]; exact at_len _ _ _
     have ax : ((P ++ S1') ++ z :: x :: (S2 ++ R))[q]? = some x := by rw [hpq, hp, List.getElem?_append_right (by omega), Nat.add_sub_cancel_left]; rfl
     have HRG := hh (show ∀ u, Below wb.heap.size wb u → Row 38 6 meC b g n c u ((P ++ S1') ++ z :: x :: (S2 ++ R)) ∧ u.rangeAt g (q * 6) cx ∧ u.rangeAt g (p * 6) cz ∧ u.there g (q * 6) 6 ∧ u.there g (p * 6) 6 from fun u hb => by
      have h := hrk'.below hb
      exact ⟨h, by rw [HCX.out]; exact h.range len_me ax, by rw [ecz]; exact h.range len_me az, h.there len_me (by omega), h.there len_me (by omega)⟩)
     obtain ⟨-, rcx, rcz, -, -⟩ := HRG.out wb (Below.refl _ _)
     have HCL := hh (show ∀ w, Calls Tryz.prog 24 #[.agg cx.toArray, .agg cz.toArray] w fun e w' => ∃ r : Int, e = .returned (.int .i64 r) ∧ ((0 ≤ r) ↔ ltM x z = false) ∧ Below w.heap.size w w' from fun w => by rw [HCX.out, ecz]; exact byMethod_w x z w)
     have HW := hh (show ∀ u, Below wb.heap.size wb u → Row 38 6 meC b g n c ((u.drew.setCells g (q * 6) cz).setCells g (p * 6) cx) (P ++ (S1' ++ x :: ((z :: S2) ++ R))) ∧ w.grownBy ((u.drew.setCells g (q * 6) cz).setCells g (p * 6) cx) (some g) from fun u hb => by
      obtain ⟨k1, k2⟩ := (HRG.out u hb).1.two len_me (i := q) (j := p) x z (by omega) (by omega)
      rw [hpq, hp, set_back, ← HCX.out, ← ecz, ← hp, ← hpq] at k1
      rw [← HCX.out, ← ecz] at k2
      refine ⟨by simpa using k1, gt_trans HGB.out (gt_trans (gt_below hb g) k2)⟩)
     have HS2 := hh (show ltM x z = true → S = S1' ++ (z :: S2) ∧ p = i + S1'.length ∧ ∀ a ∈ z :: S2, ltM x a = true from fun h => ⟨by rw [hSS]; simp, by rw [hp, List.length_append, HI.out], fun a ha => by
      rcases List.mem_cons.1 ha with rfl | ha
      ·exact h
      ·exact h2 a ha⟩)
     have HRE := hh (show ∀ u, Below wb.heap.size wb u → ltM x z = false → Row 38 6 meC b g n c u (P ++ (sortS ltM (X.take (t + 1)) ++ (X.drop (t + 1) ++ Q))) from fun u hb h => by
      have hA : Asc ltM (S1' ++ [z]) := by have := HSA.out; rw [hSS] at this; exact this.left
      rw [HND.out (S1' ++ [z]) S2 hSS (fun a ha => swo_me.le (asc_last swo_me hA a ha) h) h2]
      exact hrk.below hb)
     have HPQ := hh hpq
     clear hrk hgk hrk' hSS h2 hq hpq hp ecz az ax hpy
     cases hxz : ltM x z with
     | false =>
      have HRF := hh (fun u hb => HRE.out u hb hxz)
      clear HS2 HRE HW
      go_wp2_with fail
      refine wp_region_held_drew (S := (fun w' => w'.rangeAt g (q * 6) cx ∧ w'.rangeAt g (p * 6) cz)) (by kernel_rfl) ?_ (fun hHeld => ?_)
      ·exact ⟨rcx, rcz⟩
      refine tkp 0 rfl ?_
      refine tkp 1 rfl ?_
      refine tkp 2 rfl ?_
      refine tkp 3 rfl ?_
      refine tkp 4 rfl ?_
      refine tkp 5 rfl ?_
      refine tkp 6 rfl ?_
      refine tkp 7 rfl ?_
      refine tld 8 g (q * 6) cx rfl rfl rfl (fun w hS => hS.1) hu hcx ?_
      try simp only [puts]
      refine tkp 9 rfl ?_
      refine tkp 10 rfl ?_
      refine tkp 11 rfl ?_
      refine tkp 12 rfl ?_
      refine tld 13 g (p * 6) cz rfl rfl rfl (fun w hS => hS.2) hu hcz ?_
      try simp only [puts]
      refine rdy 14 rfl (fun K hK => ?_)
      go_simp
      refine (HCL.out _).mono ?_; rintro e v1 ⟨r, rfl, hs, hb⟩; have hbq : Below wb.heap.size wb v1 := (by first | exact hb | exact ⟨hb.os, hb.tape, hb.output, hb.size, hb.block⟩); rw [hxz] at hs; have hrd : decide (r < (0 : Int)) = false := decide_eq_false (by have := hs.2 rfl; omega); have HB1 := hh hbq; obtain ⟨-, ncx, ncz, -, -⟩ := HRG.out v1 hbq; clear hb hbq hs; go_wp2_with fail
      refine hK.out _ _ ⟨ncx, ncz⟩ (fun hHeld => ?_)
      clear hK K
      try simp only [puts]
      refine tkp 15 rfl ?_
      refine tkp 16 rfl ?_
      refine wpAnyH_done (by kernel_rfl) ?_ _
      clear rcx rcz ncx ncz
      go_wp2
      go_roundw
      case rel => exact ⟨t + 1, y + 1, rfl, HY.out.1, HY.out.2.1, .inl HY.out.2.2.1, HRF.out _ HB1.out, gt_trans HGB.out (gt_below HB1.out g)⟩
      case measure => have := HY.out.2.2.2; simp [intOf]; omega
     | true =>
      have HS3 := hh (HS2.out hxz)
      clear HS2 HRE
      go_wp2_with fail
      refine wp_region_held_drew (S := (fun w' => w'.rangeAt g (q * 6) cx ∧ w'.rangeAt g (p * 6) cz)) (by kernel_rfl) ?_ (fun hHeld => ?_)
      ·exact ⟨rcx, rcz⟩
      refine tkp 0 rfl ?_
      refine tkp 1 rfl ?_
      refine tkp 2 rfl ?_
      refine tkp 3 rfl ?_
      refine tkp 4 rfl ?_
      refine tkp 5 rfl ?_
      refine tkp 6 rfl ?_
      refine tkp 7 rfl ?_
      refine tld 8 g (q * 6) cx rfl rfl rfl (fun w hS => hS.1) hu hcx ?_
      try simp only [puts]
      refine tkp 9 rfl ?_
      refine tkp 10 rfl ?_
      refine tkp 11 rfl ?_
      refine tkp 12 rfl ?_
      refine tld 13 g (p * 6) cz rfl rfl rfl (fun w hS => hS.2) hu hcz ?_
      try simp only [puts]
      refine rdy 14 rfl (fun K hK => ?_)
      go_simp
      refine (HCL.out _).mono ?_; rintro e v1 ⟨r, rfl, hs, hb⟩; have hbq : Below wb.heap.size wb v1 := (by first | exact hb | exact ⟨hb.os, hb.tape, hb.output, hb.size, hb.block⟩); rw [hxz] at hs; have hrd : decide (r < (0 : Int)) = true := decide_eq_true (by rcases Int.lt_or_le r 0 with h | h; exact h; exact absurd (hs.1 h) (by decide)); have HB1 := hh hbq; obtain ⟨-, ncx, ncz, -, -⟩ := HRG.out v1 hbq; clear hb hbq hs; go_wp2_with fail
      refine hK.out _ _ ⟨ncx, ncz⟩ (fun hHeld => ?_)
      clear hK K
      try simp only [puts]
      refine tkp 15 rfl ?_
      refine tkp 16 rfl ?_
      refine wpAnyH_done (by kernel_rfl) ?_ _
      clear rcx rcz ncx ncz
      obtain ⟨-, rcx, rcz, tq, tp⟩ := HRG.out _ HB1.out
      go_wp2_with fail
      refine wp_region_held_drew (S := (fun _ => True)) (by kernel_rfl) ?_ (fun hHeld => ?_)
      ·exact trivial
      refine tkp 0 rfl ?_
      refine tkp 1 rfl ?_
      refine tkp 2 rfl ?_
      refine tkp 3 rfl ?_
      refine tkp 4 rfl ?_
      refine tkp 5 rfl ?_
      refine tkp 6 rfl ?_
      refine tkp 7 rfl ?_
      refine tkp 8 rfl ?_
      refine tkp 10 rfl ?_
      refine tkp 11 rfl ?_
      refine tkp 12 rfl ?_
      refine tld2 9 13 g (p * 6) g (q * 6) cz cx rfl rfl rfl rfl rfl rfl rfl rfl (fun _ => rfl) (fun _ => rfl) rcz rcx hu hcz hcx trivial ?_ (by decide) (by decide)
      try simp only [puts]
      refine tkp 14 rfl ?_
      refine tst 15 g (q * 6) cz rfl rfl rfl rfl (by rw [lcz]; exact tq) hcz ocz trivial (fun _ => ?_)
      try simp only [puts]
      refine tkp 16 rfl ?_
      refine tst 17 g (p * 6) cx rfl rfl rfl rfl (by rw [lcx]; exact World.there_setCells (show v1.drew.there g (p * 6) 6 from tp) _ _ _) hcx ocx trivial (fun _ => ?_)
      try simp only [puts]
      refine wpAnyH_done (by kernel_rfl) ?_ _
      go_wp2
      go_roundw
      case rel => exact ⟨p, rfl, S1', z :: S2, HS3.out.1, HS3.out.2.1, HS3.out.2.2, (HW.out _ HB1.out).1, (HW.out _ HB1.out).2⟩
      case measure => have := HPQ.out; simp [intOf]; omega
  ·have hltI : ¬ (y : Int) < (j : Int) := by omega
   have HRE := hh (show Row 38 6 meC b g n c wa (P ++ (sortS ltM X ++ Q)) by
    have h := hrk
    rw [List.take_of_length_le (by have := HJ.out; omega), List.drop_eq_nil_of_le (by have := HJ.out; omega)] at h
    exact h)
   clear hrk hgk
   go_wp2
   refine bodyPost_end (v := .tuple #[]) (by simp [results, Tryz.results102, go_sem]) rfl ?_
   exact ⟨rfl, HRE.out, HGK.out⟩
theorem sya_me (P R Q : List MeM) (x : MeM) (b g n c i m j : Nat) (w : World) (hr : Row 38 6 meC b g n c w (P ++ x :: (R ++ Q))) (hi : P.length = i) (hm : i + 1 = m) (hj : m + R.length = j) (hA : Asc ltM R) (hn : n ≤ 281474976710656) :
 Calls Tryz.prog 103 #[.slice (some ⟨g, 0, none⟩) n c, .int .i64 (i : Int), .int .i64 (m : Int), .int .i64 (j : Int), .func (.func 24) #[] #[]] w fun e w' => e = .returned (.tuple #[]) ∧ Row 38 6 meC b g n c w' (P ++ (mrg ltM [x] R ++ Q)) ∧ w.grownBy w' (some g) := by
 have hN := hr.len
 simp only [List.length_append, List.length_cons] at hN
 have hbd : (n : Int) ≤ 281474976710656 := by omega
 have hjn : j ≤ n := by omega
 have HU := hh Tryz.underlying38
 have HB := hh (show i + 1 = m ∧ m + R.length = j ∧ P.length = i ∧ j ≤ n from ⟨hm, hj, hi, hjn⟩)
 have HR := hh hr; have HAS := hh hA
 have hs0 : IntKind.i64.wrap ((m : Int) - (i : Int)) = 1 := by rw [show (m : Int) - (i : Int) = 1 by omega]; rfl
 have hin : (i : Int) < (n : Int) := by omega
 have hi0 : (0 : Int) ≤ (i : Int) := by omega
 obtain ⟨cx, ecx⟩ : ∃ c, c = meC x := ⟨_, rfl⟩
 have ocx : ∀ v ∈ cx, v.oneCell' = true := by rw [ecx]; exact one_me x
 have lcx : cx.length = 6 := by rw [ecx]; rfl
 have hcx : (Tryz.prog.info? 38).map (·.size) = some cx.length := by rw [size_me, lcx]
 have HCX := hh ecx
 have ax : (P ++ x :: (R ++ Q))[i]? = some x := by rw [← hi]; exact at_len _ _ _
 have HRG := hh (show ∀ u, Row 38 6 meC b g n c u (P ++ x :: (R ++ Q)) → u.rangeAt g (i * 6) cx from fun u h => by rw [HCX.out]; exact h.range len_me ax)
 have HAT := hh (show ∀ (q : Nat) y, R[q]? = some y → (P ++ x :: (R ++ Q))[m + q]? = some y from fun q y h => by
  have hq := (List.getElem?_eq_some_iff.1 h).1
  rw [List.getElem?_append_right (by omega), show m + q - P.length = q + 1 by omega, List.getElem?_cons_succ, List.getElem?_append_left hq]; exact h)
 have hu := HU.out
 clear hr hN hi hm hj hjn hA ax ecx
 go_enter Tryz.func103, Tryz.ntmps103
 go_wp2
 go_loopw [10, 11] (fun z y wr => ∃ lo hi : Nat, z = .int .i64 (lo : Int) ∧ y = .int .i64 (hi : Int) ∧ m ≤ lo ∧ lo ≤ hi ∧ hi ≤ j ∧ (lo = m ∨ ∃ y, R[lo - 1 - m]? = some y ∧ ltM y x = true) ∧ (hi = j ∨ ∃ y, R[hi - m]? = some y ∧ ltM y x = false) ∧ Row 38 6 meC b g n c wr (P ++ x :: (R ++ Q)) ∧ w.grownBy wr (some g)) (fun z y _ => (intOf y).toNat - (intOf z).toNat)
 case atStart => exact ⟨m, j, rfl, rfl, Nat.le_refl _, by have := HB.out; omega, Nat.le_refl _, .inl rfl, .inl rfl, HR.out, gt_refl _ _⟩
 case round =>
  obtain ⟨lo, hi, rfl, rfl, h1, h2, h3, hl, hg9, hrk, hgk⟩ := hrel
  obtain ⟨wb, hwb⟩ : ∃ u, u = wr := ⟨_, rfl⟩
  subst hwb
  have HGB := hh hgk; have HRB := hh hrk
  by_cases hlt : lo < hi
  ·have hltI : (lo : Int) < (hi : Int) := by omega
   obtain ⟨h, hh0⟩ : ∃ h, h = (lo + hi) / 2 := ⟨_, rfl⟩
   have hm1 : IntKind.i64.wrap ((lo : Int) + (hi : Int)) = (lo : Int) + (hi : Int) := IntWalk.i64_in _ (by have := HB.out; omega)
   have hm2 : IntKind.u64.wrap ((lo : Int) + (hi : Int)) / 2 = (h : Int) := by rw [IntWalk.u64_in _ (by have := HB.out; omega)]; omega
   obtain ⟨y, hy⟩ : ∃ y, R[h - m]? = some y := ⟨R[h - m]'(by have := HB.out; omega), List.getElem?_eq_getElem _⟩
   obtain ⟨cy, ecy⟩ : ∃ c, c = meC y := ⟨_, rfl⟩
   have ocy : ∀ v ∈ cy, v.oneCell' = true := by rw [ecy]; exact one_me y
   have lcy : cy.length = 6 := by rw [ecy]; rfl
   have hcy : (Tryz.prog.info? 38).map (·.size) = some cy.length := by rw [size_me, lcy]
   have hhn : (h : Int) < (n : Int) := by have := HB.out; omega
   have hh0' : (0 : Int) ≤ (h : Int) := by omega
   have HRH := hh (show ∀ u, Row 38 6 meC b g n c u (P ++ x :: (R ++ Q)) → u.rangeAt g (h * 6) cy from fun u k => by
    have := HAT.out (h - m) y hy
    rw [show m + (h - m) = h by omega] at this
    rw [ecy]; exact k.range len_me this)
   have HCL := hh (show ∀ w, Calls Tryz.prog 24 #[.agg cy.toArray, .agg cx.toArray] w fun e w' => ∃ r : Int, e = .returned (.int .i64 r) ∧ ((0 ≤ r) ↔ ltM y x = false) ∧ Below w.heap.size w w' from fun w => by rw [HCX.out, ecy]; exact byMethod_w y x w)
   have HLO := hh (show ltM y x = true → (h + 1 = m ∨ ∃ y, R[h + 1 - 1 - m]? = some y ∧ ltM y x = true) from fun k => .inr ⟨y, by rw [Nat.add_sub_cancel]; exact hy, k⟩)
   have HHI := hh (show ltM y x = false → (h = j ∨ ∃ y, R[h - m]? = some y ∧ ltM y x = false) from fun k => .inr ⟨y, hy, k⟩)
   have HL := hh hl; have HH := hh hg9
   have HO := hh (show m ≤ lo ∧ lo ≤ h ∧ h < hi ∧ hi ≤ j ∧ h + 1 ≤ hi from ⟨h1, by omega, by omega, h3, by omega⟩)
   have hs1 : IntKind.i64.wrap ((h : Int) + 1) = ((h + 1 : Nat) : Int) := by rw [show (h : Int) + 1 = ((h + 1 : Nat) : Int) by omega]; exact IntWalk.i64_in _ (by have := HB.out; omega)
   have rcx := HRG.out wb hrk; have rcy := HRH.out wb hrk
   clear hrk hgk h1 h2 h3 hl hg9 hy ecy hh0 hlt
   cases hxz : ltM y x with
   | false =>
    have HHI2 := hh (HHI.out hxz)
    clear HHI HLO
    go_wp2_with fail
    refine wp_region_held_drew (S := (fun w' => w'.rangeAt g (h * 6) cy ∧ w'.rangeAt g (i * 6) cx)) (by kernel_rfl) ?_ (fun hHeld => ?_)
    ·exact ⟨rcy, rcx⟩
    refine tkp 0 rfl ?_
    refine tkp 1 rfl ?_
    refine tkp 2 rfl ?_
    refine tkp 3 rfl ?_
    refine tld 4 g (h * 6) cy rfl rfl rfl (fun w hS => hS.1) hu hcy ?_
    try simp only [puts]
    refine tkp 5 rfl ?_
    refine tkp 6 rfl ?_
    refine tkp 7 rfl ?_
    refine tld 8 g (i * 6) cx rfl rfl rfl (fun w hS => hS.2) hu hcx ?_
    try simp only [puts]
    refine rdy 9 rfl (fun K hK => ?_)
    go_simp
    refine (HCL.out _).mono ?_; rintro e v1 ⟨r, rfl, hs, hb⟩; have hbq : Below wb.heap.size wb v1 := (by first | exact hb | exact ⟨hb.os, hb.tape, hb.output, hb.size, hb.block⟩); rw [hxz] at hs; have hrd : decide (r < (0 : Int)) = false := decide_eq_false (by have := hs.2 rfl; omega); have HB1 := hh hbq; have ncx := HRG.out v1 (HRB.out.below hbq); have ncy := HRH.out v1 (HRB.out.below hbq); clear hb hbq hs; go_wp2_with fail
    refine hK.out _ _ ⟨ncy, ncx⟩ (fun hHeld => ?_)
    clear hK K
    try simp only [puts]
    refine tkp 10 rfl ?_
    refine wpAnyH_done (by kernel_rfl) ?_ _
    clear rcx rcy ncx ncy
    go_wp2
    go_roundw
    case rel => exact ⟨lo, h, rfl, rfl, HO.out.1, HO.out.2.1, by have := HO.out; omega, HL.out, HHI2.out, HRB.out.below HB1.out, gt_trans HGB.out (gt_below HB1.out g)⟩
    case measure => have := HO.out; simp [intOf]; omega
   | true =>
    have HLO2 := hh (HLO.out hxz)
    clear HHI HLO
    go_wp2_with fail
    refine wp_region_held_drew (S := (fun w' => w'.rangeAt g (h * 6) cy ∧ w'.rangeAt g (i * 6) cx)) (by kernel_rfl) ?_ (fun hHeld => ?_)
    ·exact ⟨rcy, rcx⟩
    refine tkp 0 rfl ?_
    refine tkp 1 rfl ?_
    refine tkp 2 rfl ?_
    refine tkp 3 rfl ?_
    refine tld 4 g (h * 6) cy rfl rfl rfl (fun w hS => hS.1) hu hcy ?_
    try simp only [puts]
    refine tkp 5 rfl ?_
    refine tkp 6 rfl ?_
    refine tkp 7 rfl ?_
    refine tld 8 g (i * 6) cx rfl rfl rfl (fun w hS => hS.2) hu hcx ?_
    try simp only [puts]
    refine rdy 9 rfl (fun K hK => ?_)
    go_simp
    refine (HCL.out _).mono ?_; rintro e v1 ⟨r, rfl, hs, hb⟩; have hbq : Below wb.heap.size wb v1 := (by first | exact hb | exact ⟨hb.os, hb.tape, hb.output, hb.size, hb.block⟩); rw [hxz] at hs; have hrd : decide (r < (0 : Int)) = true := decide_eq_true (by rcases Int.lt_or_le r 0 with h | h; exact h; exact absurd (hs.1 h) (by decide)); have HB1 := hh hbq; have ncx := HRG.out v1 (HRB.out.below hbq); have ncy := HRH.out v1 (HRB.out.below hbq); clear hb hbq hs; go_wp2_with fail
    refine hK.out _ _ ⟨ncy, ncx⟩ (fun hHeld => ?_)
    clear hK K
    try simp only [puts]
    refine tkp 10 rfl ?_
    refine wpAnyH_done (by kernel_rfl) ?_ _
    clear rcx rcy ncx ncy
    go_wp2
    go_roundw
    case rel => exact ⟨h + 1, hi, rfl, rfl, by have := HO.out; omega, HO.out.2.2.2.2, HO.out.2.2.2.1, HLO2.out, HH.out, HRB.out.below HB1.out, gt_trans HGB.out (gt_below HB1.out g)⟩
    case measure => have := HO.out; simp [intOf]; omega
  ·have hltI : ¬ (lo : Int) < (hi : Int) := by omega
   have ehl : hi = lo := by omega
   subst ehl
   obtain ⟨R1, hR1⟩ : ∃ R1, R1 = R.take (hi - m) := ⟨_, rfl⟩
   obtain ⟨R2, hR2⟩ : ∃ R2, R2 = R.drop (hi - m) := ⟨_, rfl⟩
   have hR : R = R1 ++ R2 := by rw [hR1, hR2, List.take_append_drop]
   have l1 : R1.length = hi - m := by rw [hR1, List.length_take]; have := HB.out; omega
   have HE := hh (show mrg ltM [x] R = R1 ++ x :: R2 from by
    rw [hR]
    have hA := HAS.out
    rw [hR] at hA
    refine ins_front R1 R2 x (fun y hy => ?_) (fun y hy => ?_)
    ·rcases hl with h | ⟨z, hz, hzx⟩
     ·have : R1 = [] := List.length_eq_zero_iff.1 (by omega)
      rw [this] at hy; cases hy
     ·have hz1 : R1[hi - 1 - m]? = some z := by rw [hR1, List.getElem?_take_of_lt (by have := (List.mem_iff_getElem?.1 hy); obtain ⟨q, hq⟩ := this; have := (List.getElem?_eq_some_iff.1 hq).1; omega)]; exact hz
      obtain ⟨q, hq⟩ := List.mem_iff_getElem?.1 hy
      have hql := (List.getElem?_eq_some_iff.1 hq).1
      have hle : ltM z y = false := by
       rcases Nat.lt_or_ge q (hi - 1 - m) with h | h
       ·have := List.pairwise_iff_getElem.1 hA.left q (hi - 1 - m) hql (by omega) h
        rw [(List.getElem?_eq_some_iff.1 hq).2, (List.getElem?_eq_some_iff.1 hz1).2] at this; exact this
       ·have : q = hi - 1 - m := by omega
        subst this; rw [hq] at hz1; cases hz1; exact swo_me.irr _
      exact swo_me.le_lt hle hzx
    ·rcases hg9 with h | ⟨z, hz, hzx⟩
     ·have : R2 = [] := by rw [hR2]; exact List.drop_eq_nil_of_le (by have := HB.out; omega)
      rw [this] at hy; cases hy
     ·have hz1 : R2[0]? = some z := by rw [hR2, List.getElem?_drop, Nat.add_zero]; exact hz
      cases hr2 : R2 with
      | nil => rw [hr2] at hy; cases hy
      | cons z' r =>
       rw [hr2] at hz1 hy hA
       cases hz1
       exact swo_me.le hzx (asc_first swo_me hA.right y hy))
   have HR2 := hh (show Row 38 6 meC b g n c wb (P ++ x :: (R1 ++ (R2 ++ Q))) by rw [← List.append_assoc R1, ← hR]; exact hrk)
   have HL1 := hh (show R1.length = hi - m ∧ m ≤ hi ∧ hi ≤ j from ⟨l1, h1, h3⟩)
   have hsh : IntKind.i64.wrap ((hi : Int) - 1) = ((hi - 1 : Nat) : Int) := by rw [show (hi : Int) - 1 = ((hi - 1 : Nat) : Int) by have := HB.out; omega]; exact IntWalk.i64_in _ (by have := HB.out; omega)
   obtain ⟨h', hh'⟩ : ∃ h', h' = hi - 1 := ⟨_, rfl⟩
   rw [← hh'] at hsh
   have HH' := hh hh'
   clear hrk hgk h1 h2 h3 hl hg9 hR hR1 hR2 l1 HAT HRG HRB hlt hh'
   go_wp2
   go_loopw [13] (fun z wr => ∃ p t : Nat, z = .int .i64 (p : Int) ∧ p = i + t ∧ t ≤ R1.length ∧ Row 38 6 meC b g n c wr (P ++ (R1.take t ++ x :: (R1.drop t ++ (R2 ++ Q)))) ∧ w.grownBy wr (some g)) (fun z _ => h' - (intOf z).toNat)
   case atStart => exact ⟨i, 0, rfl, rfl, Nat.zero_le _, HR2.out, HGB.out⟩
   case round =>
    obtain ⟨p, t, rfl, hp, ht, hrk, hgk⟩ := hrel
    obtain ⟨wc, hwc⟩ : ∃ u, u = wr := ⟨_, rfl⟩
    subst hwc
    have HGC := hh hgk
    by_cases hlt : p < h'
    ·have hltI : (p : Int) < (h' : Int) := by omega
     have htl : t < R1.length := by have := HB.out; have := HL1.out; have := HH'.out; omega
     obtain ⟨y, hy⟩ : ∃ y, R1[t]? = some y := ⟨R1[t]'htl, List.getElem?_eq_getElem _⟩
     have hd : R1.drop t = y :: R1.drop (t + 1) := by rw [List.drop_eq_getElem_cons htl]; congr 1; exact (List.getElem?_eq_some_iff.1 hy).2
     have hrk' : Row 38 6 meC b g n c wc ((P ++ R1.take t) ++ x :: y :: (R1.drop (t + 1) ++ (R2 ++ Q))) := by have h := hrk; rw [hd] at h; simp only [List.append_assoc, List.cons_append] at h ⊢; exact h
     have lp : (P ++ R1.take t).length = p := by rw [List.length_append, List.length_take, HB.out.2.2.1]; omega
     obtain ⟨q, hq⟩ : ∃ q, q = p + 1 := ⟨_, rfl⟩
     have hs1 : IntKind.i64.wrap ((p : Int) + 1) = (q : Int) := by rw [show (p : Int) + 1 = (q : Int) by omega]; exact IntWalk.i64_in _ (by have := HB.out; have := HL1.out; have := HH'.out; omega)
     have hpn : (p : Int) < (n : Int) := by have := HB.out; have := HL1.out; have := HH'.out; omega
     have hqn : (q : Int) < (n : Int) := by have := HB.out; have := HL1.out; have := HH'.out; omega
     have hp0 : (0 : Int) ≤ (p : Int) := by omega
     have hq0 : (0 : Int) ≤ (q : Int) := by omega
     obtain ⟨cy, ecy⟩ : ∃ c, c = meC y := ⟨_, rfl⟩
     have ocy : ∀ v ∈ cy, v.oneCell' = true := by rw [ecy]; exact one_me y
     have lcy : cy.length = 6 := by rw [ecy]; rfl
     have hcy : (Tryz.prog.info? 38).map (·.size) = some cy.length := by rw [size_me, lcy]
     have ax : ((P ++ R1.take t) ++ x :: y :: (R1.drop (t + 1) ++ (R2 ++ Q)))[p]? = some x := by rw [← lp]; exact at_len _ _ _
     have ay : ((P ++ R1.take t) ++ x :: y :: (R1.drop (t + 1) ++ (R2 ++ Q)))[q]? = some y := by rw [hq, ← lp, List.getElem?_append_right (by omega), Nat.add_sub_cancel_left]; rfl
     have rcx : wc.rangeAt g (p * 6) cx := by rw [HCX.out]; exact hrk'.range len_me ax
     have rcy : wc.rangeAt g (q * 6) cy := by rw [ecy]; exact hrk'.range len_me ay
     have tp := hrk'.there len_me (i := p) (by omega)
     have tq := hrk'.there len_me (i := q) (by omega)
     have HW := hh (show Row 38 6 meC b g n c ((wc.drew.setCells g (p * 6) cy).setCells g (q * 6) cx) (P ++ (R1.take (t + 1) ++ x :: (R1.drop (t + 1) ++ (R2 ++ Q)))) ∧ w.grownBy ((wc.drew.setCells g (p * 6) cy).setCells g (q * 6) cx) (some g) from by
      obtain ⟨k1, k2⟩ := hrk'.two len_me (i := p) (j := q) x y (by omega) (by omega)
      rw [hq, ← lp, set_forth, ← HCX.out, ← ecy, lp, ← hq] at k1
      rw [← HCX.out, ← ecy] at k2
      refine ⟨?_, gt_trans HGC.out k2⟩
      rw [List.take_add_one, hy, Option.toList_some]
      simp only [List.append_assoc, List.cons_append, List.nil_append] at k1 ⊢
      exact k1)
     have HPT := hh (show q = i + (t + 1) ∧ t + 1 ≤ R1.length ∧ p < h' ∧ q = p + 1 from ⟨by omega, by omega, hlt, hq⟩)
     clear hrk hgk hrk' hy hd lp hp ht htl hq ecy ax ay hlt
     go_wp2_with fail
     refine wp_region_held_drew (S := (fun _ => True)) (by kernel_rfl) ?_ (fun hHeld => ?_)
     ·exact trivial
     refine tkp 0 rfl ?_
     refine tkp 1 rfl ?_
     refine tkp 2 rfl ?_
     refine tkp 3 rfl ?_
     refine tkp 4 rfl ?_
     refine tkp 5 rfl ?_
     refine tkp 6 rfl ?_
     refine tkp 7 rfl ?_
     refine tkp 8 rfl ?_
     refine tkp 10 rfl ?_
     refine tkp 11 rfl ?_
     refine tkp 12 rfl ?_
     refine tld2 9 13 g (q * 6) g (p * 6) cy cx rfl rfl rfl rfl rfl rfl rfl rfl (fun _ => rfl) (fun _ => rfl) rcy rcx hu hcy hcx trivial ?_ (by decide) (by decide)
     try simp only [puts]
     refine tkp 14 rfl ?_
     refine tst 15 g (p * 6) cy rfl rfl rfl rfl (by rw [lcy]; exact tp) hcy ocy trivial (fun _ => ?_)
     try simp only [puts]
     refine tkp 16 rfl ?_
     refine tst 17 g (q * 6) cx rfl rfl rfl rfl (by rw [lcx]; exact World.there_setCells (show wc.drew.there g (q * 6) 6 from tq) _ _ _) hcx ocx trivial (fun _ => ?_)
     try simp only [puts]
     refine wpAnyH_done (by kernel_rfl) ?_ _
     go_wp2
     go_roundw
     case rel => exact ⟨q, t + 1, rfl, HPT.out.1, HPT.out.2.1, HW.out.1, HW.out.2⟩
     case measure => have := HPT.out; simp [intOf]; omega
    ·have hltI : ¬ (p : Int) < (h' : Int) := by omega
     have HRE := hh (show Row 38 6 meC b g n c wc (P ++ (mrg ltM [x] R ++ Q)) by
      have h := hrk
      rw [List.take_of_length_le (by have := HB.out; have := HL1.out; have := HH'.out; omega), List.drop_eq_nil_of_le (by have := HB.out; have := HL1.out; have := HH'.out; omega)] at h
      rw [HE.out]; simp only [List.append_assoc, List.cons_append, List.nil_append] at h ⊢; exact h)
     clear hrk hgk hp ht hlt
     go_wp2
     try simp only [Exit.inBlock, Exit.then]
     refine bodyPost_ret (v := .tuple #[]) (by simp [results, Tryz.results103, go_sem]) rfl ?_
     exact ⟨rfl, HRE.out, HGC.out⟩
theorem syb_me (P L Q : List MeM) (x : MeM) (b g n c i m j : Nat) (w : World) (hr : Row 38 6 meC b g n c w (P ++ (L ++ x :: Q))) (hi : P.length = i) (hm : i + L.length = m) (hj : m + 1 = j) (hL : L.length ≠ 1) (hA : Asc ltM L) (hn : n ≤ 281474976710656) :
 Calls Tryz.prog 103 #[.slice (some ⟨g, 0, none⟩) n c, .int .i64 (i : Int), .int .i64 (m : Int), .int .i64 (j : Int), .func (.func 24) #[] #[]] w fun e w' => e = .returned (.tuple #[]) ∧ Row 38 6 meC b g n c w' (P ++ (mrg ltM L [x] ++ Q)) ∧ w.grownBy w' (some g) := by
 have hN := hr.len
 simp only [List.length_append, List.length_cons] at hN
 have hbd : (n : Int) ≤ 281474976710656 := by omega
 have hjn : j ≤ n := by omega
 have HU := hh Tryz.underlying38
 have HB := hh (show i + L.length = m ∧ m + 1 = j ∧ P.length = i ∧ j ≤ n from ⟨hm, hj, hi, hjn⟩)
 have HR := hh hr; have HAS := hh hA
 obtain ⟨l0, hl0⟩ : ∃ l, l = L.length := ⟨_, rfl⟩
 have hs0 : IntKind.i64.wrap ((m : Int) - (i : Int)) = (l0 : Int) := by rw [show (m : Int) - (i : Int) = (l0 : Int) by omega]; exact IntWalk.i64_in _ (by omega)
 have hs2 : IntKind.i64.wrap ((j : Int) - (m : Int)) = 1 := by rw [show (j : Int) - (m : Int) = 1 by omega]; rfl
 have hl1 : ¬ (l0 : Int) = 1 := by omega
 have hlb : ((l0 : Int) == 1) = false := beq_eq_false_iff_ne.2 hl1
 have hmn : (m : Int) < (n : Int) := by omega
 have hm0 : (0 : Int) ≤ (m : Int) := by omega
 obtain ⟨cx, ecx⟩ : ∃ c, c = meC x := ⟨_, rfl⟩
 have ocx : ∀ v ∈ cx, v.oneCell' = true := by rw [ecx]; exact one_me x
 have lcx : cx.length = 6 := by rw [ecx]; rfl
 have hcx : (Tryz.prog.info? 38).map (·.size) = some cx.length := by rw [size_me, lcx]
 have HCX := hh ecx
 have ax : (P ++ (L ++ x :: Q))[m]? = some x := by rw [← List.append_assoc, show m = (P ++ L).length by rw [List.length_append]; omega]; exact at_len _ _ _
 have HRG := hh (show ∀ u, Row 38 6 meC b g n c u (P ++ (L ++ x :: Q)) → u.rangeAt g (m * 6) cx from fun u h => by rw [HCX.out]; exact h.range len_me ax)
 have HAT := hh (show ∀ (q : Nat) y, L[q]? = some y → (P ++ (L ++ x :: Q))[i + q]? = some y from fun q y h => by
  have hq := (List.getElem?_eq_some_iff.1 h).1
  rw [List.getElem?_append_right (by omega), show i + q - P.length = q by omega, List.getElem?_append_left hq]; exact h)
 have hu := HU.out
 clear hr hN hi hm hj hjn hA ax ecx hL hl0
 go_enter Tryz.func103, Tryz.ntmps103
 go_wp2
 go_loopw [14, 15] (fun z y wr => ∃ lo hi : Nat, z = .int .i64 (lo : Int) ∧ y = .int .i64 (hi : Int) ∧ i ≤ lo ∧ lo ≤ hi ∧ hi ≤ m ∧ (lo = i ∨ ∃ y, L[lo - 1 - i]? = some y ∧ ltM x y = false) ∧ (hi = m ∨ ∃ y, L[hi - i]? = some y ∧ ltM x y = true) ∧ Row 38 6 meC b g n c wr (P ++ (L ++ x :: Q)) ∧ w.grownBy wr (some g)) (fun z y _ => (intOf y).toNat - (intOf z).toNat)
 case atStart => exact ⟨i, m, rfl, rfl, Nat.le_refl _, by have := HB.out; omega, Nat.le_refl _, .inl rfl, .inl rfl, HR.out, gt_refl _ _⟩
 case round =>
  obtain ⟨lo, hi, rfl, rfl, h1, h2, h3, hl, hg9, hrk, hgk⟩ := hrel
  obtain ⟨wb, hwb⟩ : ∃ u, u = wr := ⟨_, rfl⟩
  subst hwb
  have HGB := hh hgk; have HRB := hh hrk
  by_cases hlt : lo < hi
  ·have hltI : (lo : Int) < (hi : Int) := by omega
   obtain ⟨h, hh0⟩ : ∃ h, h = (lo + hi) / 2 := ⟨_, rfl⟩
   have hm1 : IntKind.i64.wrap ((lo : Int) + (hi : Int)) = (lo : Int) + (hi : Int) := IntWalk.i64_in _ (by have := HB.out; omega)
   have hm2 : IntKind.u64.wrap ((lo : Int) + (hi : Int)) / 2 = (h : Int) := by rw [IntWalk.u64_in _ (by have := HB.out; omega)]; omega
   obtain ⟨y, hy⟩ : ∃ y, L[h - i]? = some y := ⟨L[h - i]'(by have := HB.out; omega), List.getElem?_eq_getElem _⟩
   obtain ⟨cy, ecy⟩ : ∃ c, c = meC y := ⟨_, rfl⟩
   have ocy : ∀ v ∈ cy, v.oneCell' = true := by rw [ecy]; exact one_me y
   have lcy : cy.length = 6 := by rw [ecy]; rfl
   have hcy : (Tryz.prog.info? 38).map (·.size) = some cy.length := by rw [size_me, lcy]
   have hhn : (h : Int) < (n : Int) := by have := HB.out; omega
   have hh0' : (0 : Int) ≤ (h : Int) := by omega
   have HRH := hh (show ∀ u, Row 38 6 meC b g n c u (P ++ (L ++ x :: Q)) → u.rangeAt g (h * 6) cy from fun u k => by
    have := HAT.out (h - i) y hy
    rw [show i + (h - i) = h by omega] at this
    rw [ecy]; exact k.range len_me this)
   have HCL := hh (show ∀ w, Calls Tryz.prog 24 #[.agg cx.toArray, .agg cy.toArray] w fun e w' => ∃ r : Int, e = .returned (.int .i64 r) ∧ ((0 ≤ r) ↔ ltM x y = false) ∧ Below w.heap.size w w' from fun w => by rw [HCX.out, ecy]; exact byMethod_w x y w)
   have HLO := hh (show ltM x y = false → (h + 1 = i ∨ ∃ y, L[h + 1 - 1 - i]? = some y ∧ ltM x y = false) from fun k => .inr ⟨y, by rw [Nat.add_sub_cancel]; exact hy, k⟩)
   have HHI := hh (show ltM x y = true → (h = m ∨ ∃ y, L[h - i]? = some y ∧ ltM x y = true) from fun k => .inr ⟨y, hy, k⟩)
   have HL := hh hl; have HH := hh hg9
   have HO := hh (show i ≤ lo ∧ lo ≤ h ∧ h < hi ∧ hi ≤ m ∧ h + 1 ≤ hi from ⟨h1, by omega, by omega, h3, by omega⟩)
   have hs1 : IntKind.i64.wrap ((h : Int) + 1) = ((h + 1 : Nat) : Int) := by rw [show (h : Int) + 1 = ((h + 1 : Nat) : Int) by omega]; exact IntWalk.i64_in _ (by have := HB.out; omega)
   have rcx := HRG.out wb hrk; have rcy := HRH.out wb hrk
   clear hrk hgk h1 h2 h3 hl hg9 hy ecy hh0 hlt
   cases hxz : ltM x y with
   | true =>
    have HHI2 := hh (HHI.out hxz)
    clear HHI HLO
    go_wp2_with fail
    refine wp_region_held_drew (S := (fun w' => w'.rangeAt g (m * 6) cx ∧ w'.rangeAt g (h * 6) cy)) (by kernel_rfl) ?_ (fun hHeld => ?_)
    ·exact ⟨rcx, rcy⟩
    refine tkp 0 rfl ?_
    refine tkp 1 rfl ?_
    refine tkp 2 rfl ?_
    refine tkp 3 rfl ?_
    refine tld 4 g (m * 6) cx rfl rfl rfl (fun w hS => hS.1) hu hcx ?_
    try simp only [puts]
    refine tkp 5 rfl ?_
    refine tkp 6 rfl ?_
    refine tkp 7 rfl ?_
    refine tld 8 g (h * 6) cy rfl rfl rfl (fun w hS => hS.2) hu hcy ?_
    try simp only [puts]
    refine rdy 9 rfl (fun K hK => ?_)
    go_simp
    refine (HCL.out _).mono ?_; rintro e v1 ⟨r, rfl, hs, hb⟩; have hbq : Below wb.heap.size wb v1 := (by first | exact hb | exact ⟨hb.os, hb.tape, hb.output, hb.size, hb.block⟩); rw [hxz] at hs; have hrd : decide (r < (0 : Int)) = true := decide_eq_true (by rcases Int.lt_or_le r 0 with h | h; exact h; exact absurd (hs.1 h) (by decide)); have HB1 := hh hbq; have ncx := HRG.out v1 (HRB.out.below hbq); have ncy := HRH.out v1 (HRB.out.below hbq); clear hb hbq hs; go_wp2_with fail
    refine hK.out _ _ ⟨ncx, ncy⟩ (fun hHeld => ?_)
    clear hK K
    try simp only [puts]
    refine tkp 10 rfl ?_
    refine tkp 11 rfl ?_
    refine wpAnyH_done (by kernel_rfl) ?_ _
    clear rcx rcy ncx ncy
    go_wp2
    go_roundw
    case rel => exact ⟨lo, h, rfl, rfl, HO.out.1, HO.out.2.1, by have := HO.out; omega, HL.out, HHI2.out, HRB.out.below HB1.out, gt_trans HGB.out (gt_below HB1.out g)⟩
    case measure => have := HO.out; simp [intOf]; omega
   | false =>
    have HLO2 := hh (HLO.out hxz)
    clear HHI HLO
    go_wp2_with fail
    refine wp_region_held_drew (S := (fun w' => w'.rangeAt g (m * 6) cx ∧ w'.rangeAt g (h * 6) cy)) (by kernel_rfl) ?_ (fun hHeld => ?_)
    ·exact ⟨rcx, rcy⟩
    refine tkp 0 rfl ?_
    refine tkp 1 rfl ?_
    refine tkp 2 rfl ?_
    refine tkp 3 rfl ?_
    refine tld 4 g (m * 6) cx rfl rfl rfl (fun w hS => hS.1) hu hcx ?_
    try simp only [puts]
    refine tkp 5 rfl ?_
    refine tkp 6 rfl ?_
    refine tkp 7 rfl ?_
    refine tld 8 g (h * 6) cy rfl rfl rfl (fun w hS => hS.2) hu hcy ?_
    try simp only [puts]
    refine rdy 9 rfl (fun K hK => ?_)
    go_simp
    refine (HCL.out _).mono ?_; rintro e v1 ⟨r, rfl, hs, hb⟩; have hbq : Below wb.heap.size wb v1 := (by first | exact hb | exact ⟨hb.os, hb.tape, hb.output, hb.size, hb.block⟩); rw [hxz] at hs; have hrd : decide (r < (0 : Int)) = false := decide_eq_false (by have := hs.2 rfl; omega); have HB1 := hh hbq; have ncx := HRG.out v1 (HRB.out.below hbq); have ncy := HRH.out v1 (HRB.out.below hbq); clear hb hbq hs; go_wp2_with fail
    refine hK.out _ _ ⟨ncx, ncy⟩ (fun hHeld => ?_)
    clear hK K
    try simp only [puts]
    refine tkp 10 rfl ?_
    refine tkp 11 rfl ?_
    refine wpAnyH_done (by kernel_rfl) ?_ _
    clear rcx rcy ncx ncy
    go_wp2
    go_roundw
    case rel => exact ⟨h + 1, hi, rfl, rfl, by have := HO.out; omega, HO.out.2.2.2.2, HO.out.2.2.2.1, HLO2.out, HH.out, HRB.out.below HB1.out, gt_trans HGB.out (gt_below HB1.out g)⟩
    case measure => have := HO.out; simp [intOf]; omega
  ·have hltI : ¬ (lo : Int) < (hi : Int) := by omega
   have ehl : hi = lo := by omega
   subst ehl
   obtain ⟨L1, hL1⟩ : ∃ L1, L1 = L.take (hi - i) := ⟨_, rfl⟩
   obtain ⟨L2, hL2⟩ : ∃ L2, L2 = L.drop (hi - i) := ⟨_, rfl⟩
   have hL : L = L1 ++ L2 := by rw [hL1, hL2, List.take_append_drop]
   have l1 : L1.length = hi - i := by rw [hL1, List.length_take]; have := HB.out; omega
   have l2 : hi + L2.length = m := by rw [hL2, List.length_drop]; have := HB.out; omega
   have HE := hh (show mrg ltM L [x] = L1 ++ x :: L2 from by
    rw [hL]
    have hA := HAS.out
    rw [hL] at hA
    refine ins_at L1 L2 x (fun y hy => ?_) (fun y hy => ?_)
    ·rcases hl with h | ⟨z, hz, hzx⟩
     ·have : L1 = [] := List.length_eq_zero_iff.1 (by omega)
      rw [this] at hy; cases hy
     ·obtain ⟨q, hq⟩ := List.mem_iff_getElem?.1 hy
      have hql := (List.getElem?_eq_some_iff.1 hq).1
      have hz1 : L1[hi - 1 - i]? = some z := by rw [hL1, List.getElem?_take_of_lt (by omega)]; exact hz
      have hle : ltM z y = false := by
       rcases Nat.lt_or_ge q (hi - 1 - i) with h | h
       ·have := List.pairwise_iff_getElem.1 hA.left q (hi - 1 - i) hql (by omega) h
        rw [(List.getElem?_eq_some_iff.1 hq).2, (List.getElem?_eq_some_iff.1 hz1).2] at this; exact this
       ·have : q = hi - 1 - i := by omega
        subst this; rw [hq] at hz1; cases hz1; exact swo_me.irr _
      exact swo_me.le hle hzx
    ·rcases hg9 with h | ⟨z, hz, hzx⟩
     ·have : L2 = [] := List.length_eq_zero_iff.1 (by omega)
      rw [this] at hy; cases hy
     ·have hz1 : L2[0]? = some z := by rw [hL2, List.getElem?_drop, Nat.add_zero]; exact hz
      cases hr2 : L2 with
      | nil => rw [hr2] at hy; cases hy
      | cons z' r =>
       rw [hr2] at hz1 hy hA
       cases hz1
       exact swo_me.lt_le hzx (asc_first swo_me hA.right y hy))
   have HR2 := hh (show Row 38 6 meC b g n c wb (P ++ (L1 ++ (L2 ++ x :: ([] ++ Q)))) by rw [← List.append_assoc L1, ← hL]; exact hrk)
   have HL1 := hh (show P.length + L1.length = hi ∧ hi + L2.length = m ∧ m < n from ⟨by have := HB.out; omega, l2, by have := HB.out; omega⟩)
   clear hrk hgk h1 h2 h3 hl hg9 hL hL1 hL2 l1 l2 HAT HRG HRB hlt
   go_wp2
   go_loopw [17] (fun z wr => ∃ q t : Nat, z = .int .i64 (q : Int) ∧ q = hi + t ∧ t ≤ L2.length ∧ Row 38 6 meC b g n c wr (P ++ (L1 ++ (L2.take t ++ x :: (L2.drop t ++ Q)))) ∧ w.grownBy wr (some g)) (fun z _ => (intOf z).toNat)
   case atStart => exact ⟨m, L2.length, rfl, HL1.out.2.1.symm, Nat.le_refl _, by rw [List.take_length, List.drop_length]; exact HR2.out, HGB.out⟩
   case round =>
    obtain ⟨q, t, rfl, hq, ht, hrk, hgk⟩ := hrel
    obtain ⟨wc, hwc⟩ : ∃ u, u = wr := ⟨_, rfl⟩
    subst hwc
    have HGC := hh hgk
    by_cases hlt : hi < q
    ·have hltI : (hi : Int) < (q : Int) := by omega
     obtain ⟨t', ht'⟩ : ∃ t', t = t' + 1 := ⟨t - 1, by omega⟩
     subst ht'
     obtain ⟨y, hy⟩ : ∃ y, L2[t']? = some y := ⟨L2[t']'(by omega), List.getElem?_eq_getElem _⟩
     have hd : L2.drop t' = y :: L2.drop (t' + 1) := by rw [List.drop_eq_getElem_cons (by omega)]; congr 1; exact (List.getElem?_eq_some_iff.1 hy).2
     have hrk' : Row 38 6 meC b g n c wc ((P ++ (L1 ++ L2.take t')) ++ y :: x :: (L2.drop (t' + 1) ++ Q)) := by have h := hrk; rw [List.take_add_one, hy, Option.toList_some] at h; simp only [List.append_assoc, List.cons_append, List.nil_append] at h ⊢; exact h
     obtain ⟨p, hp⟩ : ∃ p, p = hi + t' := ⟨_, rfl⟩
     have lp : (P ++ (L1 ++ L2.take t')).length = p := by rw [List.length_append, List.length_append, List.length_take]; have := HL1.out; omega
     have hpq : q = p + 1 := by omega
     have hs1 : IntKind.i64.wrap ((q : Int) - 1) = (p : Int) := by rw [show (q : Int) - 1 = (p : Int) by omega]; exact IntWalk.i64_in _ (by have := HL1.out; omega)
     have hpn : (p : Int) < (n : Int) := by have := HL1.out; omega
     have hqn : (q : Int) < (n : Int) := by have := HL1.out; omega
     have hp0 : (0 : Int) ≤ (p : Int) := by omega
     have hq0 : (0 : Int) ≤ (q : Int) := by omega
     obtain ⟨cy, ecy⟩ : ∃ c, c = meC y := ⟨_, rfl⟩
     have ocy : ∀ v ∈ cy, v.oneCell' = true := by rw [ecy]; exact one_me y
     have lcy : cy.length = 6 := by rw [ecy]; rfl
     have hcy : (Tryz.prog.info? 38).map (·.size) = some cy.length := by rw [size_me, lcy]
     have ay : ((P ++ (L1 ++ L2.take t')) ++ y :: x :: (L2.drop (t' + 1) ++ Q))[p]? = some y := by rw [← lp]; exact at_len _ _ _
     have ax : ((P ++ (L1 ++ L2.take t')) ++ y :: x :: (L2.drop (t' + 1) ++ Q))[q]? = some x := by rw [hpq, ← lp, List.getElem?_append_right (by omega), Nat.add_sub_cancel_left]; rfl
     have rcx : wc.rangeAt g (q * 6) cx := by rw [HCX.out]; exact hrk'.range len_me ax
     have rcy : wc.rangeAt g (p * 6) cy := by rw [ecy]; exact hrk'.range len_me ay
     have tp := hrk'.there len_me (i := p) (by omega)
     have tq := hrk'.there len_me (i := q) (by omega)
     have HW := hh (show Row 38 6 meC b g n c ((wc.drew.setCells g (q * 6) cy).setCells g (p * 6) cx) (P ++ (L1 ++ (L2.take t' ++ x :: (L2.drop t' ++ Q)))) ∧ w.grownBy ((wc.drew.setCells g (q * 6) cy).setCells g (p * 6) cx) (some g) from by
      obtain ⟨k1, k2⟩ := hrk'.two len_me (i := q) (j := p) x y (by omega) (by omega)
      rw [hpq, ← lp, set_back, ← HCX.out, ← ecy, lp, ← hpq] at k1
      rw [← HCX.out, ← ecy] at k2
      refine ⟨?_, gt_trans HGC.out k2⟩
      rw [hd]
      simp only [List.append_assoc, List.cons_append, List.nil_append] at k1 ⊢
      exact k1)
     have HPT := hh (show p = hi + t' ∧ t' ≤ L2.length ∧ q = p + 1 from ⟨hp, by omega, hpq⟩)
     clear hrk hgk hrk' hy hd lp hp ht hq hpq ecy ax ay hlt
     go_wp2_with fail
     refine wp_region_held_drew (S := (fun _ => True)) (by kernel_rfl) ?_ (fun hHeld => ?_)
     ·exact trivial
     refine tkp 0 rfl ?_
     refine tkp 1 rfl ?_
     refine tkp 2 rfl ?_
     refine tkp 3 rfl ?_
     refine tkp 4 rfl ?_
     refine tkp 5 rfl ?_
     refine tkp 6 rfl ?_
     refine tkp 7 rfl ?_
     refine tkp 8 rfl ?_
     refine tkp 10 rfl ?_
     refine tkp 11 rfl ?_
     refine tkp 12 rfl ?_
     refine tld2 9 13 g (p * 6) g (q * 6) cy cx rfl rfl rfl rfl rfl rfl rfl rfl (fun _ => rfl) (fun _ => rfl) rcy rcx hu hcy hcx trivial ?_ (by decide) (by decide)
     try simp only [puts]
     refine tkp 14 rfl ?_
     refine tst 15 g (q * 6) cy rfl rfl rfl rfl (by rw [lcy]; exact tq) hcy ocy trivial (fun _ => ?_)
     try simp only [puts]
     refine tkp 16 rfl ?_
     refine tst 17 g (p * 6) cx rfl rfl rfl rfl (by rw [lcx]; exact World.there_setCells (show wc.drew.there g (p * 6) 6 from tp) _ _ _) hcx ocx trivial (fun _ => ?_)
     try simp only [puts]
     refine wpAnyH_done (by kernel_rfl) ?_ _
     go_wp2
     go_roundw
     case rel => exact ⟨p, t', rfl, HPT.out.1, HPT.out.2.1, HW.out.1, HW.out.2⟩
     case measure => have := HPT.out; simp [intOf]; omega
    ·have hltI : ¬ (hi : Int) < (q : Int) := by omega
     have HRE := hh (show Row 38 6 meC b g n c wc (P ++ (mrg ltM L [x] ++ Q)) by
      have h := hrk
      rw [show t = 0 by omega, List.take_zero, List.drop_zero] at h
      rw [HE.out]; simp only [List.append_assoc, List.cons_append, List.nil_append] at h ⊢; exact h)
     clear hrk hgk hq ht hlt
     go_wp2
     try simp only [Exit.inBlock, Exit.then]
     refine bodyPost_ret (v := .tuple #[]) (by simp [results, Tryz.results103, go_sem]) rfl ?_
     exact ⟨rfl, HRE.out, HGC.out⟩
theorem syc_me (N : Nat) (b g n c : Nat) (IH : ∀ (P L R Q : List MeM) (i m j : Nat) (w : World), L.length + R.length ≤ N → Row 38 6 meC b g n c w (P ++ (L ++ (R ++ Q))) → P.length = i → i + L.length = m → m + R.length = j → 0 < L.length → 0 < R.length → Asc ltM L → Asc ltM R → Calls Tryz.prog 103 #[.slice (some ⟨g, 0, none⟩) n c, .int .i64 (i : Int), .int .i64 (m : Int), .int .i64 (j : Int), .func (.func 24) #[] #[]] w fun e w' => e = .returned (.tuple #[]) ∧ Row 38 6 meC b g n c w' (P ++ (mrg ltM L R ++ Q)) ∧ w.grownBy w' (some g))
 (P L R Q : List MeM) (i m j : Nat) (w : World) (hN : L.length + R.length ≤ N + 1) (hr : Row 38 6 meC b g n c w (P ++ (L ++ (R ++ Q)))) (hi : P.length = i) (hm : i + L.length = m) (hj : m + R.length = j) (hL : 2 ≤ L.length) (hR : 2 ≤ R.length) (hAL : Asc ltM L) (hAR : Asc ltM R) (hn : n ≤ 281474976710656) :
 Calls Tryz.prog 103 #[.slice (some ⟨g, 0, none⟩) n c, .int .i64 (i : Int), .int .i64 (m : Int), .int .i64 (j : Int), .func (.func 24) #[] #[]] w fun e w' => e = .returned (.tuple #[]) ∧ Row 38 6 meC b g n c w' (P ++ (mrg ltM L R ++ Q)) ∧ w.grownBy w' (some g) := by
 have hNl := hr.len
 simp only [List.length_append] at hNl
 have hbd : (n : Int) ≤ 281474976710656 := by omega
 have hjn : j ≤ n := by omega
 have HU := hh Tryz.underlying38
 have HB := hh (show i + L.length = m ∧ m + R.length = j ∧ P.length = i ∧ j ≤ n from ⟨hm, hj, hi, hjn⟩)
 have HR := hh hr; have HAL := hh hAL; have HAR := hh hAR; have HIH := hh IH; have HN := hh hN
 have HRT := hh (fun (P U V Q : List MeM) (i m j : Nat) (w : World) hr hi hm hj hU hV => rot_me P U V Q b g n c i m j w hr hi hm hj hU hV hn)
 obtain ⟨l0, hl0⟩ : ∃ l, l = L.length := ⟨_, rfl⟩
 obtain ⟨q0, hq0⟩ : ∃ l, l = R.length := ⟨_, rfl⟩
 have hs0 : IntKind.i64.wrap ((m : Int) - (i : Int)) = (l0 : Int) := by rw [show (m : Int) - (i : Int) = (l0 : Int) by omega]; exact IntWalk.i64_in _ (by omega)
 have hs2 : IntKind.i64.wrap ((j : Int) - (m : Int)) = (q0 : Int) := by rw [show (j : Int) - (m : Int) = (q0 : Int) by omega]; exact IntWalk.i64_in _ (by omega)
 have hl1 : ¬ (l0 : Int) = 1 := by omega
 have hlb : ((l0 : Int) == 1) = false := beq_eq_false_iff_ne.2 hl1
 have hq1 : ¬ (q0 : Int) = 1 := by omega
 have hqb : ((q0 : Int) == 1) = false := beq_eq_false_iff_ne.2 hq1
 obtain ⟨md, hmd⟩ : ∃ h, h = (i + j) / 2 := ⟨_, rfl⟩
 have hm1 : IntKind.i64.wrap ((i : Int) + (j : Int)) = (i : Int) + (j : Int) := IntWalk.i64_in _ (by have := HB.out; omega)
 have hm2 : IntKind.u64.wrap ((i : Int) + (j : Int)) / 2 = (md : Int) := by rw [IntWalk.u64_in _ (by have := HB.out; omega)]; omega
 have hmdn : (md : Int) < (n : Int) := by omega
 have hmd0 : (0 : Int) ≤ (md : Int) := by omega
 obtain ⟨nn, hnn⟩ : ∃ h, h = md + m := ⟨_, rfl⟩
 have hs3 : IntKind.i64.wrap ((md : Int) + (m : Int)) = (nn : Int) := by rw [show (md : Int) + (m : Int) = (nn : Int) by omega]; exact IntWalk.i64_in _ (by omega)
 obtain ⟨p, hp⟩ : ∃ h, h = nn - 1 := ⟨_, rfl⟩
 have hs4 : IntKind.i64.wrap ((nn : Int) - 1) = (p : Int) := by rw [show (nn : Int) - 1 = (p : Int) by omega]; exact IntWalk.i64_in _ (by omega)
 obtain ⟨s0, r0, hS, hT⟩ : ∃ s0 r0 : Nat, (i ≤ s0 ∧ nn ≤ s0 + j ∧ s0 ≤ r0 ∧ r0 ≤ m ∧ r0 ≤ md ∧ (s0 = i ∨ s0 + j = nn) ∧ (r0 = m ∨ r0 = md)) ∧ ((md < m ∧ s0 + j = nn ∧ r0 = md) ∨ (m ≤ md ∧ s0 = i ∧ r0 = m)) := by
  rcases Nat.lt_or_ge md m with h | h
  ·exact ⟨nn - j, md, by omega, .inl ⟨h, by omega, rfl⟩⟩
  ·exact ⟨i, m, by omega, .inr ⟨h, rfl, rfl⟩⟩
 have HS := hh hS; have HT := hh hT
 have HM := hh (show nn = md + m ∧ p + 1 = nn ∧ i < md ∧ md < j ∧ i + 2 ≤ m ∧ m + 2 ≤ j from by omega)
 have hu := HU.out
 clear hr hNl hi hm hj hjn hAL hAR hL hR hN IH hl0 hq0 hmd hnn hp hS hT
 go_enter Tryz.func103, Tryz.ntmps103
 go_upto_if 140 with fail
 go_cut [20, 21] (fun x y wx => x = .int .i64 (s0 : Int) ∧ y = .int .i64 (r0 : Int) ∧ Row 38 6 meC b g n c wx (P ++ (L ++ (R ++ Q))) ∧ w.grownBy wx (some g))
 case first =>
  as_aux_lemma =>
   rcases HT.out with ⟨h1, h2, h3⟩ | ⟨h1, h2, h3⟩
   ·have h1I : (md : Int) < (m : Int) := by omega
    have hs5 : IntKind.i64.wrap ((nn : Int) - (j : Int)) = (s0 : Int) := by rw [show (nn : Int) - (j : Int) = (s0 : Int) by omega]; exact IntWalk.i64_in _ (by have := HB.out; have := HS.out; omega)
    have H3 := hh h3
    clear h1 h2 h3
    go_wp2
    go_meet
    exact ⟨rfl, by rw [H3.out], HR.out, gt_refl _ _⟩
   ·have h1I : ¬ (md : Int) < (m : Int) := by omega
    have H2 := hh h2; have H3 := hh h3
    clear h1 h2 h3
    go_wp2
    go_meet
    exact ⟨by rw [H2.out], by rw [H3.out], HR.out, gt_refl _ _⟩
 case rest =>
  obtain ⟨rfl, rfl, hrc, hgc⟩ := hcut
  have HRC := hh hrc; have HGC := hh hgc
  clear hrc hgc
  go_wp2
  go_loopw [20, 21] (fun z y wr => ∃ lo hi : Nat, z = .int .i64 (lo : Int) ∧ y = .int .i64 (hi : Int) ∧ s0 ≤ lo ∧ lo ≤ hi ∧ hi ≤ r0 ∧ (lo = s0 ∨ ∃ x y, L[lo - 1 - i]? = some x ∧ R[nn - lo - m]? = some y ∧ ltM y x = false) ∧ (hi = r0 ∨ ∃ x y, L[hi - i]? = some x ∧ R[p - hi - m]? = some y ∧ ltM y x = true) ∧ Row 38 6 meC b g n c wr (P ++ (L ++ (R ++ Q))) ∧ w.grownBy wr (some g)) (fun z y _ => (intOf y).toNat - (intOf z).toNat)
  case atStart => exact ⟨s0, r0, rfl, rfl, Nat.le_refl _, HS.out.2.2.1, Nat.le_refl _, .inl rfl, .inl rfl, HRC.out, HGC.out⟩
  case round =>
   obtain ⟨lo, hi, rfl, rfl, h1, h2, h3, hl, hg9, hrk, hgk⟩ := hrel
   obtain ⟨wb, hwb⟩ : ∃ u, u = wr := ⟨_, rfl⟩
   subst hwb
   have HGB := hh hgk; have HRB := hh hrk
   by_cases hlt : lo < hi
   ·have hltI : (lo : Int) < (hi : Int) := by omega
    obtain ⟨h, hh0⟩ : ∃ h, h = (lo + hi) / 2 := ⟨_, rfl⟩
    have hHB : i ≤ h ∧ h < m ∧ m ≤ p - h ∧ p - h < j ∧ h ≤ p ∧ lo ≤ h ∧ h < hi := by have := HB.out; have := HS.out; have := HM.out; omega
    have hm3 : IntKind.i64.wrap ((lo : Int) + (hi : Int)) = (lo : Int) + (hi : Int) := IntWalk.i64_in _ (by have := HB.out; have := HS.out; omega)
    have hm4 : IntKind.u64.wrap ((lo : Int) + (hi : Int)) / 2 = (h : Int) := by rw [IntWalk.u64_in _ (by have := HB.out; have := HS.out; omega)]; omega
    obtain ⟨d, hd⟩ : ∃ d, d = p - h := ⟨_, rfl⟩
    have hsd : IntKind.i64.wrap ((p : Int) - (h : Int)) = (d : Int) := by rw [show (p : Int) - (h : Int) = (d : Int) by omega]; exact IntWalk.i64_in _ (by have := HB.out; omega)
    obtain ⟨x, hx⟩ : ∃ y, L[h - i]? = some y := ⟨L[h - i]'(by have := HB.out; omega), List.getElem?_eq_getElem _⟩
    obtain ⟨y, hy⟩ : ∃ y, R[d - m]? = some y := ⟨R[d - m]'(by have := HB.out; omega), List.getElem?_eq_getElem _⟩
    obtain ⟨cx, ecx⟩ : ∃ c, c = meC x := ⟨_, rfl⟩
    have ocx : ∀ v ∈ cx, v.oneCell' = true := by rw [ecx]; exact one_me x
    have lcx : cx.length = 6 := by rw [ecx]; rfl
    have hcx : (Tryz.prog.info? 38).map (·.size) = some cx.length := by rw [size_me, lcx]
    obtain ⟨cy, ecy⟩ : ∃ c, c = meC y := ⟨_, rfl⟩
    have ocy : ∀ v ∈ cy, v.oneCell' = true := by rw [ecy]; exact one_me y
    have lcy : cy.length = 6 := by rw [ecy]; rfl
    have hcy : (Tryz.prog.info? 38).map (·.size) = some cy.length := by rw [size_me, lcy]
    have hhn : (h : Int) < (n : Int) := by have := HB.out; omega
    have hh0' : (0 : Int) ≤ (h : Int) := by omega
    have hdn : (d : Int) < (n : Int) := by have := HB.out; omega
    have hd0' : (0 : Int) ≤ (d : Int) := by omega
    have HRG := hh (show ∀ u, Row 38 6 meC b g n c u (P ++ (L ++ (R ++ Q))) → u.rangeAt g (d * 6) cy ∧ u.rangeAt g (h * 6) cx from fun u k => by
     have k1 : (P ++ (L ++ (R ++ Q)))[h]? = some x := by
      rw [List.getElem?_append_right (by have := HB.out; omega), show h - P.length = h - i by rw [HB.out.2.2.1], List.getElem?_append_left (by have := HB.out; omega)]; exact hx
     have k2 : (P ++ (L ++ (R ++ Q)))[d]? = some y := by
      rw [List.getElem?_append_right (by have := HB.out; omega), List.getElem?_append_right (by have := HB.out; omega), show d - P.length - L.length = d - m by have := HB.out; omega, List.getElem?_append_left (by have := HB.out; omega)]; exact hy
     exact ⟨by rw [ecy]; exact k.range len_me k2, by rw [ecx]; exact k.range len_me k1⟩)
    have HCL := hh (show ∀ w, Calls Tryz.prog 24 #[.agg cy.toArray, .agg cx.toArray] w fun e w' => ∃ r : Int, e = .returned (.int .i64 r) ∧ ((0 ≤ r) ↔ ltM y x = false) ∧ Below w.heap.size w w' from fun w => by rw [ecx, ecy]; exact byMethod_w y x w)
    have HLO := hh (show ltM y x = false → (h + 1 = s0 ∨ ∃ x y, L[h + 1 - 1 - i]? = some x ∧ R[nn - (h + 1) - m]? = some y ∧ ltM y x = false) from fun k => .inr ⟨x, y, by rw [Nat.add_sub_cancel]; exact hx, by rw [show nn - (h + 1) - m = d - m by have := HM.out; omega]; exact hy, k⟩)
    have HHI := hh (show ltM y x = true → (h = r0 ∨ ∃ x y, L[h - i]? = some x ∧ R[p - h - m]? = some y ∧ ltM y x = true) from fun k => .inr ⟨x, y, hx, by rw [← hd]; exact hy, k⟩)
    have HL := hh hl; have HH := hh hg9
    have HO := hh (show s0 ≤ lo ∧ lo ≤ h ∧ h < hi ∧ hi ≤ r0 ∧ h + 1 ≤ hi from ⟨h1, by omega, by omega, h3, by omega⟩)
    have hs1 : IntKind.i64.wrap ((h : Int) + 1) = ((h + 1 : Nat) : Int) := by rw [show (h : Int) + 1 = ((h + 1 : Nat) : Int) by omega]; exact IntWalk.i64_in _ (by have := HB.out; omega)
    obtain ⟨rcy, rcx⟩ := HRG.out wb hrk
    clear hrk hgk h1 h2 h3 hl hg9 hx hy ecx ecy hh0 hlt hHB hd
    cases hxz : ltM y x with
    | true =>
     as_aux_lemma =>
      have HHI2 := hh (HHI.out hxz)
      clear HHI HLO
      go_wp2_with fail
      refine wp_region_held_drew (S := (fun w' => w'.rangeAt g (d * 6) cy ∧ w'.rangeAt g (h * 6) cx)) (by kernel_rfl) ?_ (fun hHeld => ?_)
      ·exact ⟨rcy, rcx⟩
      refine tkp 0 rfl ?_
      refine tkp 1 rfl ?_
      refine tkp 2 rfl ?_
      refine tkp 3 rfl ?_
      refine tkp 4 rfl ?_
      refine tkp 5 rfl ?_
      refine tld 6 g (d * 6) cy rfl rfl rfl (fun w hS => hS.1) hu hcy ?_
      try simp only [puts]
      refine tkp 7 rfl ?_
      refine tkp 8 rfl ?_
      refine tkp 9 rfl ?_
      refine tld 10 g (h * 6) cx rfl rfl rfl (fun w hS => hS.2) hu hcx ?_
      try simp only [puts]
      refine rdy 11 rfl (fun K hK => ?_)
      go_simp
      refine (HCL.out _).mono ?_; rintro e v1 ⟨r, rfl, hs, hb⟩; have hbq : Below wb.heap.size wb v1 := (by first | exact hb | exact ⟨hb.os, hb.tape, hb.output, hb.size, hb.block⟩); rw [hxz] at hs; have hrd : decide (r < (0 : Int)) = true := decide_eq_true (by rcases Int.lt_or_le r 0 with h | h; exact h; exact absurd (hs.1 h) (by decide)); have HB1 := hh hbq; obtain ⟨ncy, ncx⟩ := HRG.out v1 (HRB.out.below hbq); clear hb hbq hs; go_wp2_with fail
      refine hK.out _ _ ⟨ncy, ncx⟩ (fun hHeld => ?_)
      clear hK K
      try simp only [puts]
      refine tkp 12 rfl ?_
      refine tkp 13 rfl ?_
      refine wpAnyH_done (by kernel_rfl) ?_ _
      clear rcx rcy ncx ncy
      go_wp2
      go_roundw
      case rel => exact ⟨lo, h, rfl, rfl, HO.out.1, HO.out.2.1, by have := HO.out; omega, HL.out, HHI2.out, HRB.out.below HB1.out, gt_trans HGB.out (gt_below HB1.out g)⟩
      case measure => have := HO.out; simp [intOf]; omega
    | false =>
     as_aux_lemma =>
      have HLO2 := hh (HLO.out hxz)
      clear HHI HLO
      go_wp2_with fail
      refine wp_region_held_drew (S := (fun w' => w'.rangeAt g (d * 6) cy ∧ w'.rangeAt g (h * 6) cx)) (by kernel_rfl) ?_ (fun hHeld => ?_)
      ·exact ⟨rcy, rcx⟩
      refine tkp 0 rfl ?_
      refine tkp 1 rfl ?_
      refine tkp 2 rfl ?_
      refine tkp 3 rfl ?_
      refine tkp 4 rfl ?_
      refine tkp 5 rfl ?_
      refine tld 6 g (d * 6) cy rfl rfl rfl (fun w hS => hS.1) hu hcy ?_
      try simp only [puts]
      refine tkp 7 rfl ?_
      refine tkp 8 rfl ?_
      refine tkp 9 rfl ?_
      refine tld 10 g (h * 6) cx rfl rfl rfl (fun w hS => hS.2) hu hcx ?_
      try simp only [puts]
      refine rdy 11 rfl (fun K hK => ?_)
      go_simp
      refine (HCL.out _).mono ?_; rintro e v1 ⟨r, rfl, hs, hb⟩; have hbq : Below wb.heap.size wb v1 := (by first | exact hb | exact ⟨hb.os, hb.tape, hb.output, hb.size, hb.block⟩); rw [hxz] at hs; have hrd : decide (r < (0 : Int)) = false := decide_eq_false (by have := hs.2 rfl; omega); have HB1 := hh hbq; obtain ⟨ncy, ncx⟩ := HRG.out v1 (HRB.out.below hbq); clear hb hbq hs; go_wp2_with fail
      refine hK.out _ _ ⟨ncy, ncx⟩ (fun hHeld => ?_)
      clear hK K
      try simp only [puts]
      refine tkp 12 rfl ?_
      refine tkp 13 rfl ?_
      refine wpAnyH_done (by kernel_rfl) ?_ _
      clear rcx rcy ncx ncy
      go_wp2
      go_roundw
      case rel => exact ⟨h + 1, hi, rfl, rfl, by have := HO.out; omega, HO.out.2.2.2.2, HO.out.2.2.2.1, HLO2.out, HH.out, HRB.out.below HB1.out, gt_trans HGB.out (gt_below HB1.out g)⟩
      case measure => have := HO.out; simp [intOf]; omega
   ·have hltI : ¬ (lo : Int) < (hi : Int) := by omega
    have ehl : hi = lo := by omega
    subst ehl
    obtain ⟨e, he⟩ : ∃ e, e = nn - hi := ⟨_, rfl⟩
    have hEB : i ≤ hi ∧ hi ≤ m ∧ m ≤ e ∧ e ≤ j ∧ e + hi = nn := by have := HB.out; have := HS.out; have := HM.out; omega
    have hse : IntKind.i64.wrap ((nn : Int) - (hi : Int)) = (e : Int) := by rw [show (nn : Int) - (hi : Int) = (e : Int) by omega]; exact IntWalk.i64_in _ (by have := HB.out; omega)
    obtain ⟨L1, hL1⟩ : ∃ l, l = L.take (hi - i) := ⟨_, rfl⟩
    obtain ⟨L2, hL2⟩ : ∃ l, l = L.drop (hi - i) := ⟨_, rfl⟩
    obtain ⟨R1, hR1⟩ : ∃ l, l = R.take (e - m) := ⟨_, rfl⟩
    obtain ⟨R2, hR2⟩ : ∃ l, l = R.drop (e - m) := ⟨_, rfl⟩
    have hLL : L = L1 ++ L2 := by rw [hL1, hL2, List.take_append_drop]
    have hRR : R = R1 ++ R2 := by rw [hR1, hR2, List.take_append_drop]
    have HLN := hh (show i + L1.length = hi ∧ hi + L2.length = m ∧ m + R1.length = e ∧ e + R2.length = j ∧ e + hi = nn from by
     rw [hL1, hL2, hR1, hR2, List.length_take, List.length_drop, List.length_take, List.length_drop]; have := HB.out; omega)
    have HMG := hh (show mrg ltM L R = mrg ltM L1 R1 ++ mrg ltM L2 R2 from by
     rw [hL1, hL2, hR1, hR2]
     refine sym_split swo_me L R HAL.out HAR.out (hi - i) (e - m) (by have := HB.out; omega) (by have := HB.out; omega) ?_ ?_
     ·rcases hl with k | ⟨x, y, k1, k2, k3⟩
      ·rcases HS.out.2.2.2.2.2.1 with k4 | k4
       ·exact .inl (by omega)
       ·exact .inr (.inl (by have := HB.out; have := HM.out; omega))
      ·exact .inr (.inr ⟨x, y, by rw [show hi - i - 1 = hi - 1 - i by omega]; exact k1, by rw [show e - m = nn - hi - m by omega]; exact k2, k3⟩)
     ·rcases hg9 with k | ⟨x, y, k1, k2, k3⟩
      ·rcases HS.out.2.2.2.2.2.2 with k4 | k4
       ·exact .inl (by have := HB.out; omega)
       ·exact .inr (.inl (by have := HB.out; have := HM.out; omega))
      ·exact .inr (.inr ⟨x, y, k1, by rw [show e - m - 1 = p - hi - m by have := HM.out; omega]; exact k2, k3⟩))
    have HAS := hh (show Asc ltM L1 ∧ Asc ltM L2 ∧ Asc ltM R1 ∧ Asc ltM R2 from by
     have k1 := HAL.out; have k2 := HAR.out
     rw [hLL] at k1; rw [hRR] at k2
     exact ⟨k1.left, k1.right, k2.left, k2.right⟩)
    have HRD := hh (show Row 38 6 meC b g n c wb (P ++ (L1 ++ (L2 ++ (R1 ++ (R2 ++ Q))))) from by
     have k := hrk
     rw [hLL, hRR] at k
     simp only [List.append_assoc] at k ⊢
     exact k)
    have HPL := hh (show (P ++ L1).length = hi from by rw [List.length_append]; have := HB.out; have := HLN.out; omega)
    have HPM := hh (show (P ++ mrg ltM L1 R1).length = md from by rw [List.length_append, mrg_length]; have := HB.out; have := HLN.out; have := HM.out; omega)
    have HTN := hh (show L.length + R.length ≤ N + 1 ∧ i + L.length = m ∧ m + R.length = j from ⟨HN.out, HB.out.1, HB.out.2.1⟩)
    obtain ⟨b1, hb1⟩ : ∃ t, t = decide (hi < m ∧ m < e) := ⟨_, rfl⟩
    obtain ⟨b2, hb2⟩ : ∃ t, t = decide (i < hi ∧ hi < md) := ⟨_, rfl⟩
    obtain ⟨b3, hb3⟩ : ∃ t, t = decide (md < e ∧ e < j) := ⟨_, rfl⟩
    have HB1 := hh hb1; have HB2 := hh hb2; have HB3 := hh hb3
    clear hrk hgk h1 h2 h3 hl hg9 hlt he hEB hL1 hL2 hR1 hR2 hLL hRR hb1 hb2 hb3 HRB
    go_upto_region 39 with fail
    go_cut [185] (fun v wx => v = .bool b1 ∧ Row 38 6 meC b g n c wx (P ++ (L1 ++ (L2 ++ (R1 ++ (R2 ++ Q))))) ∧ w.grownBy wx (some g))
    case first =>
     as_aux_lemma =>
      by_cases k1 : hi < m
      ·have k1I : (hi : Int) < (m : Int) := by omega
       have k1d : decide ((hi : Int) < (m : Int)) = true := decide_eq_true k1I
       have k1e : decide (hi < m) = true := decide_eq_true (by omega)
       by_cases k2 : m < e
       ·have k2I : (m : Int) < (e : Int) := by omega
        have k2d : decide ((m : Int) < (e : Int)) = true := decide_eq_true k2I
        have k2e : decide (m < e) = true := decide_eq_true (by omega)
        have HV := hh (show b1 = true from by rw [HB1.out]; exact decide_eq_true (by omega))
        clear k1 k2
        go_wp2
        go_meet
        exact ⟨by rw [HV.out], HRD.out, HGB.out⟩
       ·have k2I : ¬ (m : Int) < (e : Int) := by omega
        have k2d : decide ((m : Int) < (e : Int)) = false := decide_eq_false k2I
        have k2e : decide (m < e) = false := decide_eq_false (by omega)
        have HV := hh (show b1 = false from by rw [HB1.out]; exact decide_eq_false (by omega))
        clear k1 k2
        go_wp2
        go_meet
        exact ⟨by rw [HV.out], HRD.out, HGB.out⟩
      ·have k1I : ¬ (hi : Int) < (m : Int) := by omega
       have k1d : decide ((hi : Int) < (m : Int)) = false := decide_eq_false k1I
       have k1e : decide (hi < m) = false := decide_eq_false (by omega)
       have HV := hh (show b1 = false from by rw [HB1.out]; exact decide_eq_false (by omega))
       clear k1
       go_wp2
       go_meet
       exact ⟨by rw [HV.out], HRD.out, HGB.out⟩
    case rest =>
     obtain ⟨rfl, hrc, hgc⟩ := hcut
     have HR1 := hh hrc; have HG1 := hh hgc
     clear hrc hgc
     go_upto_if 185 with fail
     go_cut [] (fun wx => Row 38 6 meC b g n c wx (P ++ (L1 ++ (R1 ++ (L2 ++ (R2 ++ Q))))) ∧ w.grownBy wx (some g))
     case first =>
      as_aux_lemma =>
       cases b1 with
       | true =>
        have k := of_decide_eq_true HB1.out.symm
        have HC := hh (HRT.out (P ++ L1) L2 R1 (R2 ++ Q) hi m e _ (by rw [List.append_assoc]; exact HR1.out) HPL.out (by have := HLN.out; omega) (by have := HLN.out; omega) (by have := HLN.out; omega) (by have := HLN.out; omega))
        clear k
        go_wp2_with fail
        refine HC.out.mono ?_
        rintro e' v1 ⟨rfl, hr1, hg1⟩
        have K1 := hh hr1; have K2 := hh hg1
        clear hr1 hg1
        go_wp2
        go_meet
        exact ⟨by have k := K1.out; rw [List.append_assoc] at k; exact k, gt_trans HG1.out K2.out⟩
       | false =>
        have k := of_decide_eq_false HB1.out.symm
        have HE := hh (show P ++ (L1 ++ (L2 ++ (R1 ++ (R2 ++ Q)))) = P ++ (L1 ++ (R1 ++ (L2 ++ (R2 ++ Q)))) from by
         rw [← List.append_assoc L2, app_none (L := L2) (R := R1) (by have := HLN.out; omega), List.append_assoc])
        clear k
        go_wp2
        go_meet
        exact ⟨by rw [← HE.out]; exact HR1.out, HG1.out⟩
     case rest =>
      obtain ⟨hrc, hgc⟩ := hcut
      have HR2 := hh hrc; have HG2 := hh hgc
      clear hrc hgc HR1 HG1
      go_upto_region 41 with fail
      go_cut [199] (fun v wx => v = .bool b2 ∧ Row 38 6 meC b g n c wx (P ++ (L1 ++ (R1 ++ (L2 ++ (R2 ++ Q))))) ∧ w.grownBy wx (some g))
      case first =>
       as_aux_lemma =>
        by_cases k1 : i < hi
        ·have k1I : (i : Int) < (hi : Int) := by omega
         have k1d : decide ((i : Int) < (hi : Int)) = true := decide_eq_true k1I
         have k1e : decide (i < hi) = true := decide_eq_true (by omega)
         by_cases k2 : hi < md
         ·have k2I : (hi : Int) < (md : Int) := by omega
          have k2d : decide ((hi : Int) < (md : Int)) = true := decide_eq_true k2I
          have k2e : decide (hi < md) = true := decide_eq_true (by omega)
          have HV := hh (show b2 = true from by rw [HB2.out]; exact decide_eq_true (by omega))
          clear k1 k2
          go_wp2
          go_meet
          exact ⟨by rw [HV.out], HR2.out, HG2.out⟩
         ·have k2I : ¬ (hi : Int) < (md : Int) := by omega
          have k2d : decide ((hi : Int) < (md : Int)) = false := decide_eq_false k2I
          have k2e : decide (hi < md) = false := decide_eq_false (by omega)
          have HV := hh (show b2 = false from by rw [HB2.out]; exact decide_eq_false (by omega))
          clear k1 k2
          go_wp2
          go_meet
          exact ⟨by rw [HV.out], HR2.out, HG2.out⟩
        ·have k1I : ¬ (i : Int) < (hi : Int) := by omega
         have k1d : decide ((i : Int) < (hi : Int)) = false := decide_eq_false k1I
         have k1e : decide (i < hi) = false := decide_eq_false (by omega)
         have HV := hh (show b2 = false from by rw [HB2.out]; exact decide_eq_false (by omega))
         clear k1
         go_wp2
         go_meet
         exact ⟨by rw [HV.out], HR2.out, HG2.out⟩
      case rest =>
       obtain ⟨rfl, hrc, hgc⟩ := hcut
       have HR3 := hh hrc; have HG3 := hh hgc
       clear hrc hgc HR2 HG2
       go_upto_if 199 with fail
       go_cut [] (fun wx => Row 38 6 meC b g n c wx (P ++ (mrg ltM L1 R1 ++ (L2 ++ (R2 ++ Q)))) ∧ w.grownBy wx (some g))
       case first =>
        as_aux_lemma =>
         cases b2 with
         | true =>
          have k := of_decide_eq_true HB2.out.symm
          have HC := hh (HIH.out P L1 R1 (L2 ++ (R2 ++ Q)) i hi md _ (by have := HLN.out; have := HTN.out; have := HM.out; omega) HR3.out HB.out.2.2.1 HLN.out.1 (by have := HLN.out; have := HM.out; omega) (by have := HLN.out; omega) (by have := HLN.out; have := HM.out; omega) HAS.out.1 HAS.out.2.2.1)
          clear k
          go_wp2_with fail
          refine HC.out.mono ?_
          rintro e' v1 ⟨rfl, hr1, hg1⟩
          have K1 := hh hr1; have K2 := hh hg1
          clear hr1 hg1
          go_wp2
          go_meet
          exact ⟨K1.out, gt_trans HG3.out K2.out⟩
         | false =>
          have k := of_decide_eq_false HB2.out.symm
          have HE := hh (show P ++ (L1 ++ (R1 ++ (L2 ++ (R2 ++ Q)))) = P ++ (mrg ltM L1 R1 ++ (L2 ++ (R2 ++ Q))) from by
           rw [mrg_none (L := L1) (R := R1) (by have := HLN.out; have := HM.out; omega), List.append_assoc])
          clear k
          go_wp2
          go_meet
          exact ⟨by rw [← HE.out]; exact HR3.out, HG3.out⟩
       case rest =>
        obtain ⟨hrc, hgc⟩ := hcut
        have HR4 := hh hrc; have HG4 := hh hgc
        clear hrc hgc HR3 HG3
        go_upto_region 43 with fail
        go_cut [213] (fun v wx => v = .bool b3 ∧ Row 38 6 meC b g n c wx (P ++ (mrg ltM L1 R1 ++ (L2 ++ (R2 ++ Q)))) ∧ w.grownBy wx (some g))
        case first =>
         as_aux_lemma =>
          by_cases k1 : md < e
          ·have k1I : (md : Int) < (e : Int) := by omega
           have k1d : decide ((md : Int) < (e : Int)) = true := decide_eq_true k1I
           have k1e : decide (md < e) = true := decide_eq_true (by omega)
           by_cases k2 : e < j
           ·have k2I : (e : Int) < (j : Int) := by omega
            have k2d : decide ((e : Int) < (j : Int)) = true := decide_eq_true k2I
            have k2e : decide (e < j) = true := decide_eq_true (by omega)
            have HV := hh (show b3 = true from by rw [HB3.out]; exact decide_eq_true (by omega))
            clear k1 k2
            go_wp2
            go_meet
            exact ⟨by rw [HV.out], HR4.out, HG4.out⟩
           ·have k2I : ¬ (e : Int) < (j : Int) := by omega
            have k2d : decide ((e : Int) < (j : Int)) = false := decide_eq_false k2I
            have k2e : decide (e < j) = false := decide_eq_false (by omega)
            have HV := hh (show b3 = false from by rw [HB3.out]; exact decide_eq_false (by omega))
            clear k1 k2
            go_wp2
            go_meet
            exact ⟨by rw [HV.out], HR4.out, HG4.out⟩
          ·have k1I : ¬ (md : Int) < (e : Int) := by omega
           have k1d : decide ((md : Int) < (e : Int)) = false := decide_eq_false k1I
           have k1e : decide (md < e) = false := decide_eq_false (by omega)
           have HV := hh (show b3 = false from by rw [HB3.out]; exact decide_eq_false (by omega))
           clear k1
           go_wp2
           go_meet
           exact ⟨by rw [HV.out], HR4.out, HG4.out⟩
        case rest =>
         obtain ⟨rfl, hrc, hgc⟩ := hcut
         have HR5 := hh hrc; have HG5 := hh hgc
         clear hrc hgc HR4 HG4
         cases b3 with
         | true =>
          as_aux_lemma =>
           have k := of_decide_eq_true HB3.out.symm
           have HC := hh (HIH.out (P ++ mrg ltM L1 R1) L2 R2 Q md e j _ (by have := HLN.out; have := HTN.out; have := HM.out; omega) (by rw [List.append_assoc]; exact HR5.out) HPM.out (by have := HLN.out; have := HM.out; omega) HLN.out.2.2.2.1 (by have := HLN.out; have := HM.out; omega) (by have := HLN.out; omega) HAS.out.2.1 HAS.out.2.2.2)
           clear k
           go_wp2_with fail
           refine HC.out.mono ?_
           rintro e' v1 ⟨rfl, hr1, hg1⟩
           have K1 := hh hr1; have K2 := hh hg1
           clear hr1 hg1
           go_wp2
           refine bodyPost_end (v := .tuple #[]) (by simp [results, Tryz.results103, go_sem]) rfl ?_
           exact ⟨rfl, by have k := K1.out; rw [List.append_assoc] at k; rw [HMG.out, List.append_assoc]; exact k, gt_trans HG5.out K2.out⟩
         | false =>
          as_aux_lemma =>
           have k := of_decide_eq_false HB3.out.symm
           have HE := hh (show P ++ (mrg ltM L1 R1 ++ (L2 ++ (R2 ++ Q))) = P ++ (mrg ltM L R ++ Q) from by
            rw [HMG.out, mrg_none (L := L2) (R := R2) (by have := HLN.out; have := HM.out; omega), List.append_assoc, List.append_assoc])
           clear k
           go_wp2
           refine bodyPost_end (v := .tuple #[]) (by simp [results, Tryz.results103, go_sem]) rfl ?_
           exact ⟨rfl, by rw [← HE.out]; exact HR5.out, HG5.out⟩
theorem sym_me (b g n c : Nat) (hn : n ≤ 281474976710656) : ∀ (N : Nat) (P L R Q : List MeM) (i m j : Nat) (w : World), L.length + R.length ≤ N → Row 38 6 meC b g n c w (P ++ (L ++ (R ++ Q))) → P.length = i → i + L.length = m → m + R.length = j → 0 < L.length → 0 < R.length → Asc ltM L → Asc ltM R → Calls Tryz.prog 103 #[.slice (some ⟨g, 0, none⟩) n c, .int .i64 (i : Int), .int .i64 (m : Int), .int .i64 (j : Int), .func (.func 24) #[] #[]] w fun e w' => e = .returned (.tuple #[]) ∧ Row 38 6 meC b g n c w' (P ++ (mrg ltM L R ++ Q)) ∧ w.grownBy w' (some g)
 | 0, P, L, R, Q, i, m, j, w, h, _, _, _, _, h1, _, _, _ => by omega
 | N + 1, P, L, R, Q, i, m, j, w, h, hr, hi, hm, hj, h1, h2, h3, h4 => by
  rcases Nat.lt_or_ge L.length 2 with k | k
  ·obtain ⟨x, rfl⟩ := List.length_eq_one_iff.1 (show L.length = 1 by omega)
   exact sya_me P R Q x b g n c i m j w hr hi hm hj h4 hn
  ·rcases Nat.lt_or_ge R.length 2 with k2 | k2
   ·obtain ⟨x, rfl⟩ := List.length_eq_one_iff.1 (show R.length = 1 by omega)
    exact syb_me P L Q x b g n c i m j w hr hi hm hj (by omega) h3 hn
   ·exact syc_me N b g n c (sym_me b g n c hn N) P L R Q i m j w h hr hi hm hj k k2 h3 h4 hn
theorem sta_me (X : List MeM) (b g n c : Nat) (w : World) (hr : Row 38 6 meC b g n c w X) (hn : n ≤ 281474976710656) :
 Calls Tryz.prog 63 #[.slice (some ⟨g, 0, none⟩) n c, .int .i64 (n : Int), .func (.func 24) #[] #[]] w fun e w' => e = .returned (.tuple #[]) ∧ Row 38 6 meC b g n c w' (sortS ltM X) ∧ w.grownBy w' (some g) := by
 have hbd : (n : Int) ≤ 281474976710656 := by omega
 have HR := hh hr
 have HN := hh (show X.length = n ∧ n ≤ 281474976710656 from ⟨hr.len, hn⟩)
 have HINS := hh (fun (P X Q : List MeM) (i j : Nat) (w : World) hr hi hj => ins_me P X Q b g n c i j w hr hi hj hn)
 have HSYM := hh (fun (P L R Q : List MeM) (i m j : Nat) (w : World) hr hi hm hj h1 h2 h3 h4 => sym_me b g n c hn (L.length + R.length) P L R Q i m j w (Nat.le_refl _) hr hi hm hj h1 h2 h3 h4)
 clear hr
 go_enter Tryz.func63, Tryz.ntmps63
 go_wp2
 go_loopw [7, 8] (fun x y wr => ∃ a q e : Nat, x = .int .i64 (a : Int) ∧ y = .int .i64 (e : Int) ∧ e = a + 20 ∧ a = q * 20 ∧ a ≤ n ∧ Row 38 6 meC b g n c wr (chunked ltM 20 (X.take a) ++ X.drop a) ∧ w.grownBy wr (some g)) (fun x _ _ => n - (intOf x).toNat)
 case atStart => exact ⟨0, 0, 20, rfl, rfl, rfl, rfl, Nat.zero_le _, by rw [List.take_zero, List.drop_zero, chunked_nil]; exact HR.out, gt_refl _ _⟩
 case round =>
  obtain ⟨a, q, e, rfl, rfl, he, haq, han, hrk, hgk⟩ := hrel
  obtain ⟨wa, hwa⟩ : ∃ u, u = wr := ⟨_, rfl⟩
  subst hwa
  have HGA := hh hgk
  have hlen : (chunked ltM 20 (X.take a)).length = a := by rw [chunked_length _ (by omega), List.length_take]; have := HN.out; omega
  by_cases hle : e ≤ n
  ·have hleI : (e : Int) ≤ (n : Int) := by omega
   have HC := hh (HINS.out (chunked ltM 20 (X.take a)) ((X.drop a).take 20) (X.drop e) a e wa (by
    have e1 : (X.drop a).take 20 ++ X.drop e = X.drop a := by rw [he, ← List.drop_drop, List.take_append_drop]
    rw [e1]; exact hrk) hlen (by rw [List.length_take, List.length_drop]; have := HN.out; omega))
   have HX := hh (show chunked ltM 20 (X.take a) ++ (sortS ltM ((X.drop a).take 20) ++ X.drop e) = chunked ltM 20 (X.take e) ++ X.drop e from by
    rw [he, chunk_next ltM (by omega) q a X haq (by have := HN.out; omega), List.append_assoc])
   have hs1 : IntKind.i64.wrap ((e : Int) + 20) = ((e + 20 : Nat) : Int) := by rw [show (e : Int) + 20 = ((e + 20 : Nat) : Int) by omega]; exact IntWalk.i64_in _ (by omega)
   have HO := hh (show e = (q + 1) * 20 ∧ e ≤ n ∧ a < e from ⟨by omega, hle, by omega⟩)
   clear hrk hgk he haq han hle hlen
   go_wp2_with fail
   refine HC.out.mono ?_
   rintro e' v1 ⟨rfl, hr1, hg1⟩
   have K1 := hh hr1; have K2 := hh hg1
   clear hr1 hg1
   go_wp2
   go_roundw
   case rel => exact ⟨e, q + 1, e + 20, rfl, rfl, rfl, HO.out.1, HO.out.2.1, by rw [← HX.out]; exact K1.out, gt_trans HGA.out K2.out⟩
   case measure => have := HO.out; simp [intOf]; omega
  ·have hleI : ¬ (e : Int) ≤ (n : Int) := by omega
   have HC := hh (HINS.out (chunked ltM 20 (X.take a)) (X.drop a) [] a n wa (by rw [List.append_nil]; exact hrk) hlen (by rw [List.length_drop]; have := HN.out; omega))
   have HX := hh (show chunked ltM 20 (X.take a) ++ (sortS ltM (X.drop a) ++ []) = chunked ltM 20 X from by
    rw [List.append_nil]; exact chunk_end ltM (by omega) q a X haq (by have := HN.out; omega) (by have := HN.out; omega))
   clear hrk hgk he haq han hle hlen
   go_wp2_with fail
   refine HC.out.mono ?_
   rintro e' v1 ⟨rfl, hr1, hg1⟩
   have K1 := hh hr1; have K2 := hh (gt_trans HGA.out hg1)
   clear hr1 hg1
   go_wp2
   go_loopw [6] (fun x wr => ∃ s : Nat, x = .int .i64 (s : Int) ∧ 20 ≤ s ∧ s ≤ 2 * n + 20 ∧ Row 38 6 meC b g n c wr (chunked ltM s X) ∧ w.grownBy wr (some g)) (fun x _ => n - (intOf x).toNat)
   case atStart => exact ⟨20, rfl, Nat.le_refl _, by omega, by rw [← HX.out]; exact K1.out, K2.out⟩
   case round =>
    obtain ⟨s, rfl, hs1, hs2, hrk, hgk⟩ := hrel
    obtain ⟨wb, hwb⟩ : ∃ u, u = wr := ⟨_, rfl⟩
    subst hwb
    have HRB := hh hrk; have HGB := hh hgk
    by_cases hlt : s < n
    ·have hltI : (s : Int) < (n : Int) := by omega
     obtain ⟨s2, hs3⟩ : ∃ t, t = 2 * s := ⟨_, rfl⟩
     have hsa : IntKind.i64.wrap (2 * (s : Int)) = (s2 : Int) := by rw [show 2 * (s : Int) = (s2 : Int) by omega]; exact IntWalk.i64_in _ (by omega)
     have hsb : IntKind.i64.wrap ((s : Int) * 2) = (s2 : Int) := by rw [show (s : Int) * 2 = (s2 : Int) by omega]; exact IntWalk.i64_in _ (by omega)
     have HS := hh (show 20 ≤ s ∧ s < n ∧ s2 = 2 * s from ⟨hs1, hlt, hs3⟩)
     clear hrk hgk hs1 hs2 hlt hs3
     go_wp2
     go_loopw [7, 8] (fun x y wr => ∃ a q e : Nat, x = .int .i64 (a : Int) ∧ y = .int .i64 (e : Int) ∧ e = a + s2 ∧ a = q * s2 ∧ a ≤ n ∧ Row 38 6 meC b g n c wr (chunked ltM s2 (X.take a) ++ chunked ltM s (X.drop a)) ∧ w.grownBy wr (some g)) (fun x _ _ => n - (intOf x).toNat)
     case atStart => exact ⟨0, 0, s2, rfl, rfl, by omega, by omega, Nat.zero_le _, by rw [List.take_zero, List.drop_zero, chunked_nil]; exact HRB.out, HGB.out⟩
     case round =>
      obtain ⟨a, q, e, rfl, rfl, he, haq, han, hrk, hgk⟩ := hrel
      obtain ⟨wc, hwc⟩ : ∃ u, u = wr := ⟨_, rfl⟩
      subst hwc
      have HRC := hh hrk; have HGC := hh hgk
      have hS := HS.out
      have hlen : (chunked ltM s2 (X.take a)).length = a := by rw [chunked_length _ (by omega), List.length_take]; have := HN.out; omega
      obtain ⟨x, y, z, k1, k2, k3, k4, k5, k6, k7⟩ := chunk_pair swo_me (show 0 < s by omega) q a X (by rw [haq, hS.2.2]) (by have := HN.out; omega)
      rw [← hS.2.2] at k6 k7
      obtain ⟨m, hm⟩ : ∃ m, m = a + s := ⟨_, rfl⟩
      have hsm : IntKind.i64.wrap ((a : Int) + (s : Int)) = (m : Int) := by rw [show (a : Int) + (s : Int) = (m : Int) by omega]; exact IntWalk.i64_in _ (by omega)
      by_cases hle : e ≤ n
      ·have hleI : (e : Int) ≤ (n : Int) := by omega
       have HC := hh (HSYM.out (chunked ltM s2 (X.take a)) x y z a m e wc (by rw [← k1]; exact hrk) hlen (by have := HN.out; omega) (by have := HN.out; omega) (by have := HN.out; omega) (by have := HN.out; omega) k2 k3)
       have HX := hh (show chunked ltM s2 (X.take a) ++ (mrg ltM x y ++ z) = chunked ltM s2 (X.take e) ++ chunked ltM s (X.drop e) from by
        rw [← List.append_assoc, k7, k6, he])
       obtain ⟨e2, he2⟩ : ∃ t, t = e + s2 := ⟨_, rfl⟩
       have hse : IntKind.i64.wrap ((e : Int) + (s2 : Int)) = (e2 : Int) := by rw [show (e : Int) + (s2 : Int) = (e2 : Int) by omega]; exact IntWalk.i64_in _ (by omega)
       have HO := hh (show e2 = e + s2 ∧ e = (q + 1) * s2 ∧ e ≤ n ∧ a < e from ⟨he2, by rw [Nat.succ_mul]; omega, hle, by omega⟩)
       clear hrk hgk he haq han hle hlen hS k1 k2 k3 k4 k5 k6 k7 hm he2
       go_wp2_with fail
       refine HC.out.mono ?_
       rintro e' v1 ⟨rfl, hr1, hg1⟩
       have K1 := hh hr1; have K2 := hh hg1
       clear hr1 hg1
       go_wp2
       go_roundw
       case rel => exact ⟨e, q + 1, e2, rfl, rfl, HO.out.1, HO.out.2.1, HO.out.2.2.1, by rw [← HX.out]; exact K1.out, gt_trans HGC.out K2.out⟩
       case measure => have := HO.out; simp [intOf]; omega
      ·have hleI : ¬ (e : Int) ≤ (n : Int) := by omega
       by_cases hmn : m < n
       ·have hmI : (m : Int) < (n : Int) := by omega
        have HC := hh (HSYM.out (chunked ltM s2 (X.take a)) x y z a m n wc (by rw [← k1]; exact hrk) hlen (by have := HN.out; omega) (by have := HN.out; omega) (by have := HN.out; omega) (by have := HN.out; omega) k2 k3)
        have HX := hh (show chunked ltM s2 (X.take a) ++ (mrg ltM x y ++ z) = chunked ltM s2 X from by
         rw [← List.append_assoc, k7, k6, List.take_of_length_le (by have := HN.out; omega), List.drop_eq_nil_of_le (by have := HN.out; omega), chunked_nil, List.append_nil])
        have HO := hh (show 20 ≤ s2 ∧ s2 ≤ 2 * n + 20 ∧ s < s2 from by omega)
        clear hrk hgk he haq han hle hlen hS k1 k2 k3 k4 k5 k6 k7 hm hmn
        go_wp2_with fail
        refine HC.out.mono ?_
        rintro e' v1 ⟨rfl, hr1, hg1⟩
        have K1 := hh hr1; have K2 := hh hg1
        clear hr1 hg1
        go_wp2
        go_roundw
        case rel => exact ⟨s2, rfl, HO.out.1, HO.out.2.1, by rw [← HX.out]; exact K1.out, gt_trans HGC.out K2.out⟩
        case measure => have := HO.out; have := HS.out; simp [intOf]; omega
       ·have hmI : ¬ (m : Int) < (n : Int) := by omega
        have HX := hh (show chunked ltM s2 (X.take a) ++ chunked ltM s (X.drop a) = chunked ltM s2 X from by
         rw [chunked_short ltM (by omega) (X.drop a) (by rw [List.length_drop]; have := HN.out; omega)]
         exact chunk_end ltM (by omega) q a X haq (by have := HN.out; omega) (by have := HN.out; omega))
        have HO := hh (show 20 ≤ s2 ∧ s2 ≤ 2 * n + 20 ∧ s < s2 from by omega)
        clear hrk hgk he haq han hle hlen hS k1 k2 k3 k4 k5 k6 k7 hm hmn
        go_wp2
        go_roundw
        case rel => exact ⟨s2, rfl, HO.out.1, HO.out.2.1, by rw [← HX.out]; exact HRC.out, HGC.out⟩
        case measure => have := HO.out; have := HS.out; simp [intOf]; omega
    ·have hltI : ¬ (s : Int) < (n : Int) := by omega
     have HX := hh (show chunked ltM s X = sortS ltM X from chunked_short ltM (by omega) X (by have := HN.out; omega))
     clear hrk hgk hs1 hs2 hlt
     go_wp2
     refine bodyPost_end (v := .tuple #[]) (by simp [results, Tryz.results63, go_sem]) rfl ?_
     exact ⟨rfl, by rw [← HX.out]; exact HRB.out, HGB.out⟩
theorem srt_me (X : List MeM) (b g n c : Nat) (w : World) (hr : Row 38 6 meC b g n c w X) (hn : n ≤ 281474976710656) :
 Calls Tryz.prog 23 #[.slice (some ⟨g, 0, none⟩) n c, .func (.func 24) #[] #[]] w fun e w' => e = .returned (.tuple #[]) ∧ Row 38 6 meC b g n c w' (sortS ltM X) ∧ w.grownBy w' (some g) := by
 have HII := hh (sta_me X b g n c w hr hn)
 clear hr
 go_enter Tryz.func23, Tryz.ntmps23
 go_wp2_with fail
 refine HII.out.mono ?_
 rintro e v ⟨rfl, hr1, hg1⟩
 have K1 := hh hr1; have K2 := hh hg1
 clear hr1 hg1 HII
 go_wp2
 refine bodyPost_end (v := .tuple #[]) (by simp [results, Tryz.results23, go_sem]) rfl ?_
 exact ⟨rfl, K1.out, K2.out⟩
end Go.Proofs.YtgociheckcpjkaaGreatDoor.prg

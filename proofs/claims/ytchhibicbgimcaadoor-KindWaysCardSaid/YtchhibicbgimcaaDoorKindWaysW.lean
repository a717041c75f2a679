/-
  The walk of KindWays: renamed, and renamed back, a descriptor is as it was, where the names are one to one.
-/
import Derived.Test.YtchhibicbgimcaaDoorKindY
import Derived.Test.YtchhibicbgimcaaDoorKindBackW
import Derived.Test.YtchhibicbgimcaaDoorStep
namespace Go.Proofs.YtchhibicbgimcaaDoor.kindWays
open Go.RowKit
open Go.Proofs.YtchhibicbgimcaaDoor.words Go.Proofs.YtchhibicbgimcaaDoor.kindp Go.Proofs.YtchhibicbgimcaaDoor.word Go.Proofs.YtchhibicbgimcaaDoor.rdr Go.Proofs.YtchhibicbgimcaaDoor.kind

theorem back_take {L : List Pr} {j : Nat} {x : Pr} (h : L[j]? = some x) : backL (L.take (j + 1)) = backL (L.take j) ++ [(x.2, x.1)] := by
  unfold backL; rw [List.take_add_one, h, List.map_append]; rfl
theorem ren_len (d : Tx) (l : List Pr) : (renD d l).length ≤ 64 := by
  unfold renD
  split
  · exact kindBack.desc_small _ _
  · simp
theorem sx_at {l : List Tx} {i : Nat} {x : Tx} (h : l[i]? = some x) : (SX l)[i]? = some (.string ⟨x.toArray⟩) := by simp [SX, h]

theorem any_step {L : List Pr} {c : Tx} {x : Pr} {k : Nat} (h : L[k]? = some x) : (L.take (k + 1)).any (fun q => q.1 == c) = ((L.take k).any (fun q => q.1 == c) || (x.1 == c)) := by
  rw [List.take_add_one, h, List.any_append]; simp
theorem take_ex {CL : List Tx} {L : List Pr} {j : Nat} {x : Tx} (h : ∀ c ∈ CL.take j, ∃ q ∈ L, q.1 = c) (hx : CL[j]? = some x) (hb : L.any (fun q => q.1 == x) = true) : ∀ c ∈ CL.take (j + 1), ∃ q ∈ L, q.1 = c := by
  intro c hc
  rw [List.take_add_one, hx, List.mem_append] at hc
  rcases hc with hc | hc
  · exact h c hc
  · simp at hc
    subst hc
    obtain ⟨q, hq, e⟩ := List.any_eq_true.1 hb
    exact ⟨q, hq, by simpa using e⟩

set_option maxRecDepth 100000 in
set_option maxHeartbeats 4000000 in
theorem walk0 (s : ByteArray) (B : Option Addr) (bc : Nat) (l : List Pr) (w : World) (hs : s.size ≤ 140737488351232) (hr : Rd w B (PL l)) (hl : l.length ≤ 281474976710656) (hz : ∀ q ∈ l, q.1.length ≤ 281474976710656 ∧ q.2.length ≤ 281474976710656) (hm : Mx w) (hv : Vd w) :
    Calls Tryd.prog 7 #[.string s, .slice B l.length bc] w fun e w' => e = .returned (.bool true) ∧ Below w.heap.size w w' := by
  have HM := Lib.hid hm; have HV := Lib.hid hv
  have HLV := Lib.hid (fun w hm hv => live_any w hm hv)
  have hsI : (s.size : Int) ≤ 140737488351232 := by omega
  have hlI : (l.length : Int) ≤ 281474976710656 := by omega
  by_cases h3 : 2000 < s.size
  · have hI2 : (2000 : Int) < (s.size : Int) := by omega
    clear hs hm hv hr hz hl h3
    go_enter Tryd.func7, Tryd.ntmps7
    go_wp2_with fail
    refine (HLV.out _ HM.out HV.out).mono ?_
    rintro e w1 ⟨rfl, hb1⟩
    have HB := Lib.hid hb1
    clear hb1
    go_wp2
    go_ret
    exact ⟨rfl, HB.out⟩
  have hI2 : ¬ (2000 : Int) < (s.size : Int) := by omega
  have hCL := clean_w B bc l w hr hl
  unfold CleanW at hCL
  have HCL := Lib.hid hCL; have HZ := Lib.hid hz
  obtain ⟨D, hD⟩ : ∃ D, D = s.data.toList := ⟨_, rfl⟩
  have hDs : (⟨D.toArray⟩ : ByteArray) = s := by rw [hD]
  have hDl : D.length ≤ 2000 := by rw [hD, size_data]; omega
  have hC := (fun w hm hv => classes_w D w (by omega) hm hv)
  have hS := (fun w hm hv => split_k D w (by omega) hm hv)
  have hN1 := (fun A c L w hr hl hz hm hv => renamed_w D A c L w (by omega) hr hl hz hm hv)
  have hN2 := (fun A c L M w hr hl hz hm hv => renamed_w (renD D L) A c M w (by have := ren_len D L; omega) hr hl hz hm hv)
  rw [hDs] at hC hS hN1
  unfold SplitW at hS
  unfold ClsW at hC
  have hc9 := kindDescs.cls_small D
  have hWY := (fun L => kindp.ways (l := L) (d := D))
  obtain ⟨⟨q0, ⟨kr, cr⟩, es⟩, hxs⟩ : ∃ x, x = splitT D := ⟨_, rfl⟩
  rw [← hxs] at hS hWY
  dsimp only at hS hWY
  have HWY := Lib.hid hWY
  obtain ⟨i0, hi0, hz0, hz1, hz2⟩ := info_parts infoP
  obtain ⟨n, hn⟩ : ∃ n, n = l.length := ⟨_, rfl⟩
  rw [← hn] at HCL hlI ⊢
  have HDS := Lib.hid hDs
  have HC := Lib.hid hC; have HS := Lib.hid hS; have HN1 := Lib.hid hN1; have HN2 := Lib.hid hN2
  obtain ⟨CL, hCLe⟩ : ∃ CL, CL = classesT D := ⟨_, rfl⟩
  rw [← hCLe] at HC hc9 HWY
  clear hs hm hv hr hz hl hCL hn hD hDs hDl hC hS hN1 hN2 hCLe h3 hWY hxs
  go_enter Tryd.func7, Tryd.ntmps7
  go_wp2_with fail
  refine HCL.out.mono ?_
  rintro e w1 ⟨⟨L, A, c, rfl, hone, h20, hmem, hrd⟩, hb1⟩
  have HONE := Lib.hid hone; have HRD := Lib.hid hrd; have HB1 := Lib.hid hb1
  have HZL := Lib.hid (fun q hq => HZ.out q (hmem q hq))
  have hLI : (L.length : Int) ≤ 20 := by omega
  have hsz1 := hb1.size
  clear hone hmem hrd hb1
  go_wp2
  go_loopw [5, 6] (fun v i wr => ∃ j : Nat, i = .int .i64 (j : Int) ∧ j ≤ L.length ∧ wr.ownsRow w1.heap.size 51 2 v j (PL (backL (L.take j))) ∧ Below w1.heap.size w1 wr) (fun _ i _ => L.length - (intOf i).toNat)
  case atStart => exact ⟨0, rfl, Nat.zero_le _, World.ownsRow_nil _ _ _ _, Below.refl _ _⟩
  case round =>
    obtain ⟨j, rfl, hj, hown, hbw⟩ := hrel
    obtain ⟨A2, c2, rfl, _, _, hrd2⟩ := own_rd hown
    have HO := Lib.hid hown; have HB := Lib.hid hbw
    have hsz := hbw.size
    by_cases hlt : j < L.length
    · have hltI : (j : Int) < (L.length : Int) := by omega
      obtain ⟨⟨qo, qn⟩, hx⟩ : ∃ x, L[j]? = some x := ⟨L[j]'hlt, List.getElem?_eq_getElem _⟩
      obtain ⟨b, rfl, hb, b0, b1⟩ := pl_cell HRD.out hx
      dsimp only at b0 b1
      have hb0 : (b.add (j * 2)).block < w1.heap.size := by rw [add_block]; exact hb
      have d0 := (hbw.cell hb0).trans b0
      have d1 := (hbw.cell (p := ⟨(b.add (j * 2)).block, (b.add (j * 2)).off + 1, none⟩) hb0).trans b1
      have D0 := Lib.hid d0; have D1 := Lib.hid d1
      have HBT := Lib.hid (back_take hx)
      have j0 : (0 : Int) ≤ (j : Int) := by omega
      clear hown hbw hx hrd2 b0 b1 hb
      go_wp2
      go_region_held3 (fun w' => w'.cell? (b.add (j * 2)) = some (.string ⟨qo.toArray⟩) ∧ w'.cell? ⟨(b.add (j * 2)).block, (b.add (j * 2)).off + 1, none⟩ = some (.string ⟨qn.toArray⟩)) (go_keep)
        ((refine step_app _ (by rfl) (.tmp 27) (.tmp 39) _ (by rfl) w1.heap.size 51 i0 _ 2 32 Tryd.underlying45 hi0 hz0 hz1 hz2 rfl (by omega) _ j (PL (backL (L.take j))) (by rfl) (by exact World.ownsRow.alloc (w := wr.drew) HO.out _) _ 1 1 [_, _] (by rfl) (by rfl) (rd_blk (heap_alloc_new wr.drew _) (k := 2) rfl) (by simp [Value.oneCell']) (by simp only [maxLen]; omega) (by omega) (by simp; omega) ?_; intro v' w2 hown2 hg2 hb2 hat2; clear hg2 hat2; have hbz := (((Below.refl w1.heap.size wr).drew.alloc hsz _).trans hb2); have r1 := (hbz.cell hb0).trans D0.out; have r2 := (hbz.cell (p := ⟨(b.add (j * 2)).block, (b.add (j * 2)).off + 1, none⟩) hb0).trans D1.out))
      have hown3 : w2.ownsRow w1.heap.size 51 2 v' (j + 1) (PL (backL (L.take (j + 1)))) := by
        rw [HBT.out, PL_app]
        exact hown2
      have HB3 := Lib.hid (HB.out.trans hbz)
      have HO3 := Lib.hid hown3
      clear r1 r2 hbz hb2 hown2 d0 d1 hown3
      go_wp2
      go_roundw
      case rel => exact ⟨j + 1, by go_num, by omega, HO3.out, HB3.out⟩
      case measure => simp [intOf]; omega
    · have hltI : ¬ (j : Int) < (L.length : Int) := by omega
      obtain rfl : j = L.length := by omega
      rw [List.take_length] at hrd2
      have HRB := Lib.hid hrd2
      have HBW := Lib.hid (HB1.out.trans (hbw.mono hsz1))
      have HRDW := Lib.hid (HRD.out.below hbw)
      clear hown hbw hrd2
      go_wp2_with fail
      refine (HC.out _ (HM.out.below HBW.out) (HV.out.below HBW.out)).mono ?_
      rintro e w3 ⟨⟨C, cc, rfl, hrdC⟩, hb3⟩
      have HRC := Lib.hid hrdC
      have HB3 := Lib.hid (HBW.out.trans (hb3.mono HBW.out.size))
      have HRB3 := Lib.hid (HRB.out.below hb3); have HRD3 := Lib.hid (HRDW.out.below hb3)
      have hCI : (CL.length : Int) ≤ 9 := by omega
      clear hrdC hb3
      go_wp2
      go_loopw [8] (fun i wr => ∃ j : Nat, i = .int .i64 (j : Int) ∧ j ≤ CL.length ∧ (∀ x ∈ CL.take j, ∃ q ∈ L, q.1 = x) ∧ ∃ r, wr = w3.drewN r) (fun i _ => CL.length - (intOf i).toNat)
      case atStart => exact ⟨0, rfl, Nat.zero_le _, by simp, 0, rfl⟩
      case round =>
        obtain ⟨j, rfl, hj, hall, r, rfl⟩ := hrel
        have HALL := Lib.hid hall
        clear hall
        by_cases hlt : j < CL.length
        · have hltI : (j : Int) < (CL.length : Int) := by omega
          obtain ⟨cx, hx⟩ : ∃ x, CL[j]? = some x := ⟨CL[j]'hlt, List.getElem?_eq_getElem _⟩
          obtain ⟨b, rfl, hb, cb⟩ := HRC.out.at_ (sx_at hx)
          have HX := Lib.hid hx
          have j0 : (0 : Int) ≤ (j : Int) := by omega
          clear hx hb
          go_wp2
          go_loopw [9, 10] (fun hv kv w5 => ∃ k : Nat, kv = .int .i64 (k : Int) ∧ k ≤ L.length ∧ hv = .bool ((L.take k).any (fun q => q.1 == cx)) ∧ ∃ r, w5 = w3.drewN r) (fun _ kv _ => L.length - (intOf kv).toNat)
          case atStart => exact ⟨0, rfl, Nat.zero_le _, rfl, r, rfl⟩
          case round =>
            obtain ⟨k, rfl, hk, rfl, r2, rfl⟩ := hrel
            by_cases hkl : k < L.length
            · have hklI : (k : Int) < (L.length : Int) := by omega
              obtain ⟨⟨xo, xn⟩, hxk⟩ : ∃ x, L[k]? = some x := ⟨L[k]'hkl, List.getElem?_eq_getElem _⟩
              have hst := any_step (c := cx) hxk
              obtain ⟨g, rfl, hg, c0, c1⟩ := pl_cell HRD3.out hxk
              dsimp only at c0 c1 hst
              obtain ⟨bk, hbk⟩ : ∃ bk, bk = (L.take k).any (fun q => q.1 == cx) := ⟨_, rfl⟩
              rw [← hbk] at hst ⊢
              have HST := Lib.hid hst
              have k0 : (0 : Int) ≤ (k : Int) := by omega
              clear hst hbk hxk hg
              cases bk with
              | true =>
                go_wp2
                go_quiet (fail)
                go_wp2
                go_roundw
                case rel => exact ⟨k + 1, by go_num, by omega, by rw [HST.out]; rfl, _, rfl⟩
                case measure => simp [intOf]; omega
              | false =>
                go_wp2
                go_quiet (fail)
                go_wp2
                go_roundw
                case rel => exact ⟨k + 1, by go_num, by omega, by rw [HST.out]; simp only [Bool.false_or], _, rfl⟩
                case measure => simp [intOf]; omega
            · have hklI : ¬ (k : Int) < (L.length : Int) := by omega
              obtain rfl : k = L.length := by omega
              rw [List.take_length]
              have htk := take_ex HALL.out HX.out
              obtain ⟨bk, hbk⟩ : ∃ bk, bk = L.any (fun q => q.1 == cx) := ⟨_, rfl⟩
              rw [← hbk] at htk ⊢
              have HTK := Lib.hid htk
              clear htk hbk
              cases bk with
              | true =>
                go_wp2
                go_roundw
                case rel => exact ⟨j + 1, by go_num, by omega, HTK.out rfl, _, rfl⟩
                case measure => simp [intOf]; omega
              | false =>
                go_wp2_with fail
                refine (HLV.out (w3.drewN r2) (show Mx w3 from HM.out.below HB3.out) (show Vd w3 from HV.out.below HB3.out)).mono ?_
                rintro e w6 ⟨rfl, hb6⟩
                have HB6 := Lib.hid (HB3.out.trans ((under hb6).mono HB3.out.size))
                clear hb6
                go_wp2
                go_ret
                exact ⟨rfl, HB6.out⟩
        · have hltI : ¬ (j : Int) < (CL.length : Int) := by omega
          obtain rfl : j = CL.length := by omega
          have hall := HALL.out
          rw [List.take_length] at hall
          have HCC := Lib.hid hall
          clear hall
          have HBD := Lib.hid (over (q := r) HB3.out)
          have HRD4 : Hid (Rd (w3.drewN r) _ (PL L)) := HRD3
          have HRB4 : Hid (Rd (w3.drewN r) _ (PL (backL L))) := HRB3
          generalize w3.drewN r = w4 at *
          go_wp2_with fail
          refine (HS.out _ (HM.out.below HBD.out) (HV.out.below HBD.out)).mono ?_
          rintro e w5 ⟨⟨P, pc, rfl, hown5⟩, hb5⟩
          have hb5 := hb5.alloc hb5.size (.cells #[.int .i64 kr, .string ⟨cr.toArray⟩] 24)
          have HB5 := Lib.hid (HBD.out.trans (hb5.mono HBD.out.size))
          have HRD5 := Lib.hid (HRD4.out.below hb5); have HRB5 := Lib.hid (HRB4.out.below hb5)
          clear hown5 hb5
          go_wp2_with fail
          refine (HN1.out _ _ L _ HRD5.out (by omega) (fun q hq => (HZL.out q hq).2) (HM.out.below HB5.out) (HV.out.below HB5.out)).mono ?_
          rintro e w6 ⟨rfl, hb6⟩
          have HB6 := Lib.hid (HB5.out.trans (hb6.mono HB5.out.size))
          have HRB6 := Lib.hid (HRB5.out.below hb6)
          clear hb6
          have hbl : (backL L).length = L.length := by unfold backL; rw [List.length_map]
          have hn2 := (fun w hr hm hv => HN2.out A2 c2 L (backL L) w hr (by omega) (fun q hq => by
            unfold backL at hq
            obtain ⟨y, hy, e⟩ := List.mem_map.1 hq
            rw [← e]; exact (HZL.out y hy).1) hm hv)
          rw [hbl] at hn2
          have hwy := HWY.out L HONE.out HCC.out
          generalize renD D L = T at *
          go_wp2_with fail
          refine (HLV.out _ (HM.out.below HB6.out) (HV.out.below HB6.out)).mono ?_
          rintro e w7 ⟨rfl, hb7⟩
          have HB7 := Lib.hid (HB6.out.trans (hb7.mono HB6.out.size))
          have HRB7 := Lib.hid (HRB6.out.below hb7)
          clear hb7
          by_cases hes : es = 0
          · subst hes
            by_cases hT : T = []
            · subst hT
              clear hn2 hwy
              go_wp2
              go_ret
              exact ⟨rfl, HB7.out⟩
            · rw [hwy rfl hT, HDS.out] at hn2
              have hT1 : List.isEmpty T = false := by cases T with
                | nil => exact absurd rfl hT
                | cons a b => rfl
              have hT2 : (T == []) = false := by cases T with
                | nil => exact absurd rfl hT
                | cons a b => rfl
              have HN := Lib.hid hn2
              have eD : (s.toList == s.toList) = true := by simp
              clear hn2 hwy
              go_wp2_with fail
              refine (HN.out _ HRB7.out (HM.out.below HB7.out) (HV.out.below HB7.out)).mono ?_
              rintro e w8 ⟨rfl, hb8⟩
              have HB8 := Lib.hid (HB7.out.trans (hb8.mono HB7.out.size))
              clear hb8
              go_wp2
              go_ret
              exact ⟨rfl, HB8.out⟩
          · have heI : ((es : Int) != 0) = true := by rw [bne_iff_ne]; omega
            clear hn2 hwy hes
            go_wp2
            go_ret
            exact ⟨rfl, HB7.out⟩
theorem walk (s : ByteArray) (B : Option Addr) (bc : Nat) (l : List Pr) (w : World) (hs : s.size ≤ 140737488351232) (hr : Rd w B (PL l)) (_ : l.length ≤ bc) (hl : l.length * 32 ≤ 140737488351232) (hz : ∀ q ∈ l, q.1.length ≤ 140737488351232 ∧ q.2.length ≤ 140737488351232) (hm : Mx w) (hv : Vd w) :
    Calls Tryd.prog 7 #[.string s, .slice B l.length bc] w fun e w' => e = .returned (.bool true) ∧ Below w.heap.size w w' :=
  walk0 s B bc l w hs hr (by omega) (fun q hq => by have := hz q hq; omega) hm hv
end Go.Proofs.YtchhibicbgimcaaDoor.kindWays

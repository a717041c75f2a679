/-
  Layer 5: a pool that is read: the document's answer.
-/
import Derived.Test.YtchhibicbgimcaaPoolT
namespace Go.Proofs.Ytchhibicbgimcaa.poolt
open Go.RowKit
open Go.Proofs.Ytchhibicbgimcaa.num Go.Proofs.Ytchhibicbgimcaa.words Go.Proofs.Ytchhibicbgimcaa.poolp Go.Proofs.Ytchhibicbgimcaa.pool Go.Proofs.Ytchhibicbgimcaa.rdnum Go.Proofs.Ytchhibicbgimcaa.rdr Go.Proofs.Ytchhibicbgimcaa.give Go.Proofs.Ytchhibicbgimcaa.meth Go.Proofs.Ytchhibicbgimcaa.refr

/-- the reference's reader beside a row of strings that grew -/
theorem rr_row {w w' : World} {b base n : Nat} {s : Rs} {v : Value} {xs : List Value} (h : RR w b s) (hb : b < base) (ho : w.ownsRow base 9 1 v n xs) (hg : w.grownBy w' v.ownBlock) : RR w' b s := by
  rcases ho.2 with ⟨rfl, _⟩ | ⟨g, cap, cur, rfl, hg0, hgh, _⟩
  · have hg2 : But w.heap.size w w' := ⟨hg.os, hg.tape, hg.output, hg.size, fun k hk _ => hg.block k hk (by simp [Value.ownBlock])⟩
    exact h.kept hg2 (by have := h.lt; omega) (fun cs f => by simp)
  · have hg2 : But g w w' := hg
    exact h.kept hg2 (by omega) (fun cs f e => by rw [hgh] at e; cases e)
theorem fault5_e (b : Nat) (s : Rs) (er : Int) (he : s.e = er) (w : World) (h : RR w b s) :
    Calls Try.prog 15 #[.pointer (some ⟨b, 0, none⟩)] w fun e w' => e = .returned (.agg #[.int .i64 er, .int .i64 (s.f : Int)]) ∧ Below w.heap.size w w' := by
  have := fault_r b s w h
  unfold fv at this
  rw [he] at this
  exact this
/-- what the loop holds -/
def Inv5 (T : Rs × List Str) (n k : Nat) (s : Rs) (acc : List Str) : Prop := acc.length = k ∧ k ≤ n ∧ (s.e = 0 → takeP (n - k) s acc = T) ∧ (s.e ≠ 0 → T = (s, []))
theorem Inv5.next {T : Rs × List Str} {n k : Nat} {s s3 : Rs} {acc : List Str} (h : Inv5 T n k s acc) (hk : k < n) (he : s.e = 0) (h3 : nextF s acc = s3) : Inv5 T n (k + 1) s3 (acc ++ [nextS s]) := by
  obtain ⟨h1, h2, ha, hb⟩ := h
  have hT := ha he
  obtain ⟨m, hm⟩ : ∃ m, n - k = m + 1 := ⟨n - k - 1, by omega⟩
  have hm2 : n - (k + 1) = m := by omega
  rw [hm] at hT
  refine ⟨by rw [List.length_append, h1]; rfl, by omega, fun h0 => ?_, fun h0 => ?_⟩
  · rw [hm2, ← hT, takeP_good (by rw [h3]; exact h0), h3]
  · rw [← hT, takeP_bad (by rw [h3]; exact h0), h3]
theorem inv5_zero (s : Rs) : Inv5 (poolT s) (s.ans (numT s.l s.p 1024) 0) 0 (s.go (numT s.l s.p 1024)) [] := by
  refine ⟨rfl, Nat.zero_le _, fun _ => rfl, fun h => ?_⟩
  have h0 : s.ans (numT s.l s.p 1024) 0 = 0 := by
    unfold Rs.ans
    by_cases hs : s.e = 0
    · have h2 : (numT s.l s.p 1024).e ≠ 0 := fun e => h (by rw [Rs.go_ok hs e]; exact hs)
      rw [if_pos (.inr h2)]
    · rw [if_pos (.inl hs)]
  unfold poolT
  rw [h0]; rfl
theorem num_le {s : Rs} (hp : s.p ≤ s.l.length) (hb : ∀ x ∈ s.l, x < 256) : s.ans (numT s.l s.p 1024) 0 ≤ 1024 := by
  by_cases h0 : s.e = 0 ∧ (numT s.l s.p 1024).e = 0
  · rw [Rs.ans_ok h0.1 h0.2]
    obtain ⟨_, he, hv, _⟩ := numT_ok hp hb h0.2
    rw [he]; omega
  · unfold Rs.ans
    rw [if_pos (by by_cases h1 : s.e = 0
                   · exact .inr fun h2 => h0 ⟨h1, h2⟩
                   · exact .inl h1)]
    omega

set_option maxRecDepth 100000 in
set_option maxHeartbeats 4000000 in
theorem take5_w (b : Nat) (s : Rs) (w : World) (h : RR w b s) :
    Calls Try.prog 11 #[.pointer (some ⟨b, 0, none⟩)] w fun e w' => (∃ A c, e = .returned (.slice A (poolT s).2.length c) ∧ Rd w' A (SL (poolT s).2)) ∧ RR w' b (poolT s).1 ∧ But b w w' := by
  have hN := num_r b s 1024 w h (by omega) (by omega)
  have hlt := h.lt
  have hn1 := num_le h.1.le h.1.byte
  have hz := inv5_zero s
  obtain ⟨n, hn⟩ : ∃ n, n = s.ans (numT s.l s.p 1024) 0 := ⟨_, rfl⟩
  obtain ⟨s1, hs1⟩ : ∃ s1, s1 = s.go (numT s.l s.p 1024) := ⟨_, rfl⟩
  unfold DidR at hN
  rw [← hn, ← hs1] at hN
  rw [← hn] at hn1
  rw [← hn, ← hs1] at hz
  obtain ⟨T, hT⟩ : ∃ T, poolT s = T := ⟨_, rfl⟩
  rw [hT] at hz ⊢
  have HN := Lib.hid hN; have HZ := Lib.hid hz
  have hnI : (n : Int) ≤ 1024 := by omega
  have hfd : ∀ (a b : Int) (w : World), (Instr.field 38 (.agg #[.int .i64 a, .int .i64 b]) 0).run Try.prog w = .ok (.int .i64 a) w := fun _ _ _ => by kernel_rfl
  obtain ⟨i0, hi0, hz0, hz1, hz2⟩ := info_parts infoS
  clear h hN hn hs1 hT hz
  go_enter Try.func11, Try.ntmps11
  go_wp2_with fail
  refine HN.out.mono ?_
  rintro e w1 ⟨rfl, hr1, hb1⟩
  have HR1 := Lib.hid hr1; have HB1 := Lib.hid hb1
  clear hr1 hb1 HN
  go_wp2
  go_loopw [4, 5] (fun v i wr => ∃ (k : Nat) (s : Rs) (acc : List Str), i = .int .i64 (k : Int) ∧ Inv5 T n k s acc ∧ wr.ownsRow w.heap.size 9 1 v k (SL acc) ∧ RR wr b s ∧ But b w wr) (fun _ i _ => n - (intOf i).toNat)
  case atStart => exact ⟨0, s1, [], rfl, HZ.out, World.ownsRow_nil _ _ _ _, HR1.out, HB1.out⟩
  case round =>
    obtain ⟨k, s, acc, rfl, hinv, hown, hrw, hbt⟩ := hrel
    have hk := hinv.2.1
    have hl := hinv.1
    have HI := Lib.hid hinv; have HBT := Lib.hid hbt; have HO := Lib.hid hown; have HR := Lib.hid hrw
    clear hinv hbt hown hrw
    by_cases hlt2 : k < n
    · have hltI : (k : Int) < (n : Int) := by omega
      by_cases hse : s.e = 0
      · have HF0 := Lib.hid (fun w h => fault5_e b s 0 hse w h)
        have HX := Lib.hid (HI.out.next (s3 := nextF s acc) hlt2 hse rfl)
        have htx := fun wr h => text_r b s wr h
        unfold DidR at htx
        obtain ⟨x, hx⟩ : ∃ x, x = nextS s := ⟨_, rfl⟩
        have hxx : give.S (s.ans (textT s.l s.p) []) = .string ⟨x.toArray⟩ := by rw [hx]; rfl
        obtain ⟨s2, hs2⟩ : ∃ s2, s2 = nextR s := ⟨_, rfl⟩
        have hss : s.go (textT s.l s.p) = s2 := hs2.symm
        rw [hxx, hss] at htx
        rw [← hx] at HX
        have HTX := Lib.hid htx
        have HXX := Lib.hid hx; have HS2 := Lib.hid hs2; have HL := Lib.hid hl
        clear htx hxx hss hse
        cases k with
        | zero =>
          have ec : ((0 : Nat) : Int) = 0 := rfl
          have h0 : acc = [] := List.eq_nil_of_length_eq_zero hl
          have hnf : nextF s acc = s2 := by unfold nextF wrong; rw [h0, ← hs2]; rfl
          rw [hnf] at HX
          rw [ec] at hltI ⊢
          clear hl hx hs2 ec h0 hnf
          go_wp2_with fail
          refine (HF0.out _ HR.out).mono ?_
          rintro e w2 ⟨rfl, hb2⟩
          have HR2 := Lib.hid (HR.out.below hb2); have HB2 := Lib.hid (HBT.out.trans (But.of hb2)); have HO2 := Lib.hid (own_below HO.out hb2)
          clear hb2 HF0
          go_wp2_with fail
          refine (HTX.out _ HR2.out).mono ?_
          rintro e w3 ⟨rfl, hr3, hb3⟩
          have HR3 := Lib.hid hr3; have HB3 := Lib.hid (HB2.out.trans hb3); have HO3 := Lib.hid (HO2.out.kept hb3 (Or.inr (row_ne HO2.out hlt).symm))
          clear hr3 hb3 HTX HR2 HB2 HO2
          have hsz3 := HB3.out.size
          go_wp2_with (at_builtin; refine wpList_app _ rfl (.tmp 41) (.tmp 43) _ rfl w.heap.size 9 i0 _ 1 16 Try.underlying22 hi0 hz0 hz1 hz2 rfl (by omega) _ 0 (SL acc) rfl (HO3.out.alloc _) _ 1 1 [_] rfl rfl (rd_blk (heap_alloc_new w3 _) (k := 1) rfl) (by simp [Value.oneCell']) (by simp only [maxLen]; omega) (by omega) (by simp; omega) ?_; intro v7 w7 hown7 hg7 hb7 hat7; clear hat7)
          have hown8 : w7.ownsRow w.heap.size 9 1 v7 (0 + 1) (SL (acc ++ [x])) := by rw [SL_app]; exact hown7
          have HR8 := Lib.hid (rr_row (HR3.out.below ((Below.refl _ w3).alloc (Nat.le_refl _) _)) hlt (HO3.out.alloc _) hg7)
          have HB8 := Lib.hid (but_low (but_low HB3.out ((Below.refl _ w3).alloc hsz3 _)) hb7)
          clear hown7 hg7 hb7
          go_roundw
          case rel => exact ⟨0 + 1, _, acc ++ [x], by go_num, HX.out, hown8, HR8.out, HB8.out⟩
          case measure => simp [intOf]; omega
        | succ j =>
          have e1 : ((j + 1 : Nat) : Int) = (j : Int) + 1 := by omega
          obtain ⟨y, hy⟩ : ∃ y, acc[j]? = some y := ⟨acc[j]'(by omega), List.getElem?_eq_getElem _⟩
          have hlast := last_of hy hl
          have HY := Lib.hid hy
          rw [e1] at hltI ⊢
          have hj0 : (0 : Int) ≤ (j : Int) := by omega
          have hj1 : (j : Int) < (j : Int) + 1 := by omega
          have hjp : (0 : Int) < (j : Int) + 1 := by omega
          have hjn : (j : Int) ≤ 1024 := by omega
          by_cases he2 : s2.e = 0
          · have HF2 := Lib.hid (fun w h => fault5_e b s2 0 he2 w h)
            by_cases hyx : y < x
            · have hnf : nextF s acc = s2 := by unfold nextF wrong; rw [hlast, ← hs2, ← hx]; simp [hyx]
              rw [hnf] at HX
              have hl1 : Op.bytesLess y x = true := by rw [less_mk]; exact decide_eq_true hyx
              have hl2 : Op.bytesLess x y = false := by rw [less_mk]; exact decide_eq_false (fun h => List.lt_irrefl _ (List.lt_trans h hyx))
              have hl3 : (x == y) = false := by rw [eq_mk]; exact decide_eq_false (fun h => by rw [h] at hyx; exact List.lt_irrefl _ hyx)
              clear hl hx hs2 e1 hnf hyx hlast hy he2
              go_wp2_with fail
              refine (HF0.out _ HR.out).mono ?_
              rintro e w2 ⟨rfl, hb2⟩
              have HR2 := Lib.hid (HR.out.below hb2); have HB2 := Lib.hid (HBT.out.trans (But.of hb2)); have HO2 := Lib.hid (own_below HO.out hb2)
              clear hb2 HF0
              go_wp2_with fail
              refine (HTX.out _ HR2.out).mono ?_
              rintro e w3 ⟨rfl, hr3, hb3⟩
              have HR3 := Lib.hid hr3; have HB3 := Lib.hid (HB2.out.trans hb3); have HO3 := Lib.hid (HO2.out.kept hb3 (Or.inr (row_ne HO2.out hlt).symm))
              clear hr3 hb3 HTX HR2 HB2 HO2
              go_wp2_with fail
              refine (HF2.out _ HR3.out).mono ?_
              rintro e w4 ⟨rfl, hb4⟩
              have HR4 := Lib.hid (HR3.out.below hb4); have HB4 := Lib.hid (HB3.out.trans (But.of hb4)); have HO4 := Lib.hid (own_below HO3.out hb4)
              clear hb4 HF2 HR3 HB3 HO3
              obtain ⟨A', c', he2, _, _, hrd2⟩ := own_rd HO4.out
              cases he2
              obtain ⟨a, rfl, _, hcell⟩ := sl_cell hrd2 HY.out
              clear hrd2
              have hsz4 := HB4.out.size
              go_wp2_with (at_builtin; refine wpList_app _ rfl (.tmp 41) (.tmp 43) _ rfl w.heap.size 9 i0 _ 1 16 Try.underlying22 hi0 hz0 hz1 hz2 rfl (by omega) _ (j + 1) (SL acc) rfl (HO4.out.alloc _) _ 1 1 [_] rfl rfl (rd_blk (heap_alloc_new w4 _) (k := 1) rfl) (by simp [Value.oneCell']) (by simp only [maxLen]; omega) (by omega) (by simp; omega) ?_; intro v7 w7 hown7 hg7 hb7 hat7; clear hat7)
              have hown8 : w7.ownsRow w.heap.size 9 1 v7 (j + 1 + 1) (SL (acc ++ [x])) := by rw [SL_app]; exact hown7
              have HR8 := Lib.hid (rr_row (HR4.out.below ((Below.refl _ w4).alloc (Nat.le_refl _) _)) hlt (HO4.out.alloc _) hg7)
              have HB8 := Lib.hid (but_low (but_low HB4.out ((Below.refl _ w4).alloc hsz4 _)) hb7)
              clear hown7 hg7 hb7
              go_roundw
              case rel => exact ⟨j + 1 + 1, _, acc ++ [x], by go_num, HX.out, hown8, HR8.out, HB8.out⟩
              case measure => simp [intOf]; omega
            · have hnf : nextF s acc = s2.fail 5 := by unfold nextF wrong; rw [hlast, ← hs2, ← hx]; simp [hyx]
              rw [hnf] at HX
              have HFL := Lib.hid (fun w h => fail_mr b s2 5 w h)
              have hl1 : Op.bytesLess y x = false := by rw [less_mk]; exact decide_eq_false hyx
              generalize s2.fail 5 = s3 at *
              rcases tri x y with h | ⟨h, hxy⟩ | ⟨h, hxy, h2⟩
              · have hl2 : Op.bytesLess x y = true := by rw [less_mk]; exact decide_eq_true h
                clear hl hx hs2 e1 hnf hyx hlast hy he2 h
                go_wp2_with fail
                refine (HF0.out _ HR.out).mono ?_
                rintro e w2 ⟨rfl, hb2⟩
                have HR2 := Lib.hid (HR.out.below hb2); have HB2 := Lib.hid (HBT.out.trans (But.of hb2)); have HO2 := Lib.hid (own_below HO.out hb2)
                clear hb2 HF0
                go_wp2_with fail
                refine (HTX.out _ HR2.out).mono ?_
                rintro e w3 ⟨rfl, hr3, hb3⟩
                have HR3 := Lib.hid hr3; have HB3 := Lib.hid (HB2.out.trans hb3); have HO3 := Lib.hid (HO2.out.kept hb3 (Or.inr (row_ne HO2.out hlt).symm))
                clear hr3 hb3 HTX HR2 HB2 HO2
                go_wp2_with fail
                refine (HF2.out _ HR3.out).mono ?_
                rintro e w4 ⟨rfl, hb4⟩
                have HR4 := Lib.hid (HR3.out.below hb4); have HB4 := Lib.hid (HB3.out.trans (But.of hb4)); have HO4 := Lib.hid (own_below HO3.out hb4)
                clear hb4 HF2 HR3 HB3 HO3
                obtain ⟨A', c', he2, _, _, hrd2⟩ := own_rd HO4.out
                cases he2
                obtain ⟨a, rfl, _, hcell⟩ := sl_cell hrd2 HY.out
                clear hrd2
                go_wp2_with fail
                refine (HFL.out _ HR4.out).mono ?_
                rintro e w5 ⟨rfl, hr5, hb5⟩
                have HR5 := Lib.hid hr5; have HB5 := Lib.hid (HB4.out.trans hb5); have HO5 := Lib.hid (HO4.out.kept hb5 (Or.inr (row_ne HO4.out hlt).symm))
                clear hr5 hb5 HFL HR4 HB4 HO4 hcell
                have hsz5 := HB5.out.size
                go_wp2_with (at_builtin; refine wpList_app _ rfl (.tmp 41) (.tmp 43) _ rfl w.heap.size 9 i0 _ 1 16 Try.underlying22 hi0 hz0 hz1 hz2 rfl (by omega) _ (j + 1) (SL acc) rfl (HO5.out.alloc _) _ 1 1 [_] rfl rfl (rd_blk (heap_alloc_new w5 _) (k := 1) rfl) (by simp [Value.oneCell']) (by simp only [maxLen]; omega) (by omega) (by simp; omega) ?_; intro v7 w7 hown7 hg7 hb7 hat7; clear hat7)
                have hown8 : w7.ownsRow w.heap.size 9 1 v7 (j + 1 + 1) (SL (acc ++ [x])) := by rw [SL_app]; exact hown7
                have HR8 := Lib.hid (rr_row (HR5.out.below ((Below.refl _ w5).alloc (Nat.le_refl _) _)) hlt (HO5.out.alloc _) hg7)
                have HB8 := Lib.hid (but_low (but_low HB5.out ((Below.refl _ w5).alloc hsz5 _)) hb7)
                clear hown7 hg7 hb7
                go_roundw
                case rel => exact ⟨j + 1 + 1, _, acc ++ [x], by go_num, HX.out, hown8, HR8.out, HB8.out⟩
                case measure => simp [intOf]; omega
              · have hl2 : Op.bytesLess x y = false := by rw [less_mk]; exact decide_eq_false h
                have hl3 : (x == y) = true := by rw [eq_mk]; exact decide_eq_true hxy
                clear hl hx hs2 e1 hnf hyx hlast hy he2 h hxy
                go_wp2_with fail
                refine (HF0.out _ HR.out).mono ?_
                rintro e w2 ⟨rfl, hb2⟩
                have HR2 := Lib.hid (HR.out.below hb2); have HB2 := Lib.hid (HBT.out.trans (But.of hb2)); have HO2 := Lib.hid (own_below HO.out hb2)
                clear hb2 HF0
                go_wp2_with fail
                refine (HTX.out _ HR2.out).mono ?_
                rintro e w3 ⟨rfl, hr3, hb3⟩
                have HR3 := Lib.hid hr3; have HB3 := Lib.hid (HB2.out.trans hb3); have HO3 := Lib.hid (HO2.out.kept hb3 (Or.inr (row_ne HO2.out hlt).symm))
                clear hr3 hb3 HTX HR2 HB2 HO2
                go_wp2_with fail
                refine (HF2.out _ HR3.out).mono ?_
                rintro e w4 ⟨rfl, hb4⟩
                have HR4 := Lib.hid (HR3.out.below hb4); have HB4 := Lib.hid (HB3.out.trans (But.of hb4)); have HO4 := Lib.hid (own_below HO3.out hb4)
                clear hb4 HF2 HR3 HB3 HO3
                obtain ⟨A', c', he2, _, _, hrd2⟩ := own_rd HO4.out
                cases he2
                obtain ⟨a, rfl, _, hcell⟩ := sl_cell hrd2 HY.out
                clear hrd2
                go_wp2_with fail
                refine (HFL.out _ HR4.out).mono ?_
                rintro e w5 ⟨rfl, hr5, hb5⟩
                have HR5 := Lib.hid hr5; have HB5 := Lib.hid (HB4.out.trans hb5); have HO5 := Lib.hid (HO4.out.kept hb5 (Or.inr (row_ne HO4.out hlt).symm))
                clear hr5 hb5 HFL HR4 HB4 HO4 hcell
                have hsz5 := HB5.out.size
                go_wp2_with (at_builtin; refine wpList_app _ rfl (.tmp 41) (.tmp 43) _ rfl w.heap.size 9 i0 _ 1 16 Try.underlying22 hi0 hz0 hz1 hz2 rfl (by omega) _ (j + 1) (SL acc) rfl (HO5.out.alloc _) _ 1 1 [_] rfl rfl (rd_blk (heap_alloc_new w5 _) (k := 1) rfl) (by simp [Value.oneCell']) (by simp only [maxLen]; omega) (by omega) (by simp; omega) ?_; intro v7 w7 hown7 hg7 hb7 hat7; clear hat7)
                have hown8 : w7.ownsRow w.heap.size 9 1 v7 (j + 1 + 1) (SL (acc ++ [x])) := by rw [SL_app]; exact hown7
                have HR8 := Lib.hid (rr_row (HR5.out.below ((Below.refl _ w5).alloc (Nat.le_refl _) _)) hlt (HO5.out.alloc _) hg7)
                have HB8 := Lib.hid (but_low (but_low HB5.out ((Below.refl _ w5).alloc hsz5 _)) hb7)
                clear hown7 hg7 hb7
                go_roundw
                case rel => exact ⟨j + 1 + 1, _, acc ++ [x], by go_num, HX.out, hown8, HR8.out, HB8.out⟩
                case measure => simp [intOf]; omega
              · exact absurd h2 hyx
          · obtain ⟨er, her⟩ : ∃ er, s2.e = er := ⟨_, rfl⟩
            have hne : (er == 0) = false := by rw [← her]; simpa using he2
            have HF2 := Lib.hid (fun w h => fault5_e b s2 er her w h)
            have hnf : nextF s acc = s2 := by
              unfold nextF; rw [← hs2, fail_no (.inl he2)]; simp
            rw [hnf] at HX
            clear hl hx hs2 e1 hnf hlast hy he2 her
            go_wp2_with fail
            refine (HF0.out _ HR.out).mono ?_
            rintro e w2 ⟨rfl, hb2⟩
            have HR2 := Lib.hid (HR.out.below hb2); have HB2 := Lib.hid (HBT.out.trans (But.of hb2)); have HO2 := Lib.hid (own_below HO.out hb2)
            clear hb2 HF0
            go_wp2_with fail
            refine (HTX.out _ HR2.out).mono ?_
            rintro e w3 ⟨rfl, hr3, hb3⟩
            have HR3 := Lib.hid hr3; have HB3 := Lib.hid (HB2.out.trans hb3); have HO3 := Lib.hid (HO2.out.kept hb3 (Or.inr (row_ne HO2.out hlt).symm))
            clear hr3 hb3 HTX HR2 HB2 HO2
            go_wp2_with fail
            refine (HF2.out _ HR3.out).mono ?_
            rintro e w4 ⟨rfl, hb4⟩
            have HR4 := Lib.hid (HR3.out.below hb4); have HB4 := Lib.hid (HB3.out.trans (But.of hb4)); have HO4 := Lib.hid (own_below HO3.out hb4)
            clear hb4 HF2 HR3 HB3 HO3
            have hsz4 := HB4.out.size
            go_wp2_with (at_builtin; refine wpList_app _ rfl (.tmp 41) (.tmp 43) _ rfl w.heap.size 9 i0 _ 1 16 Try.underlying22 hi0 hz0 hz1 hz2 rfl (by omega) _ (j + 1) (SL acc) rfl (HO4.out.alloc _) _ 1 1 [_] rfl rfl (rd_blk (heap_alloc_new w4 _) (k := 1) rfl) (by simp [Value.oneCell']) (by simp only [maxLen]; omega) (by omega) (by simp; omega) ?_; intro v7 w7 hown7 hg7 hb7 hat7; clear hat7)
            have hown8 : w7.ownsRow w.heap.size 9 1 v7 (j + 1 + 1) (SL (acc ++ [x])) := by rw [SL_app]; exact hown7
            have HR8 := Lib.hid (rr_row (HR4.out.below ((Below.refl _ w4).alloc (Nat.le_refl _) _)) hlt (HO4.out.alloc _) hg7)
            have HB8 := Lib.hid (but_low (but_low HB4.out ((Below.refl _ w4).alloc hsz4 _)) hb7)
            clear hown7 hg7 hb7
            go_roundw
            case rel => exact ⟨j + 1 + 1, _, acc ++ [x], by go_num, HX.out, hown8, HR8.out, HB8.out⟩
            case measure => simp [intOf]; omega
      · obtain ⟨er, her⟩ : ∃ er, s.e = er := ⟨_, rfl⟩
        have hne : (er == 0) = false := by rw [← her]; simpa using hse
        have hne2 : (er != 0) = true := by rw [← her]; simpa using hse
        have HF0 := Lib.hid (fun w h => fault5_e b s er her w h)
        have HT := Lib.hid (HI.out.2.2.2 hse)
        clear her hse hl
        go_wp2_with fail
        refine (HF0.out _ HR.out).mono ?_
        rintro e w4 ⟨rfl, hb4⟩
        have HR4 := Lib.hid (HR.out.below hb4); have HB4 := Lib.hid (HBT.out.trans (But.of hb4))
        clear hb4
        go_wp2_with fail
        refine (HF0.out _ HR4.out).mono ?_
        rintro e w5 ⟨rfl, hb5⟩
        have HP := Lib.hid (show ((∃ A c, Ending.returned (.slice none 0 0) = .returned (.slice A T.2.length c) ∧ Rd w5 A (SL T.2)) ∧ RR w5 b T.1 ∧ But b w w5) by
          rw [HT.out]
          exact ⟨⟨none, 0, rfl, .inl rfl⟩, HR4.out.below hb5, HB4.out.trans (But.of hb5)⟩)
        clear hb5
        go_wp2
        go_ret
        exact HP.out
    · have hltI : ¬ (k : Int) < (n : Int) := by omega
      obtain rfl : k = n := by omega
      by_cases hse : s.e = 0
      · have HF0 := Lib.hid (fun w h => fault5_e b s 0 hse w h)
        have hT := HI.out.2.2.1 hse
        rw [Nat.sub_self] at hT
        have HT := Lib.hid (show T = (s, acc) from hT.symm)
        obtain ⟨A, c, rfl, hkc, _, hrd⟩ := own_rd HO.out
        have HRD := Lib.hid hrd; have HL := Lib.hid hl
        clear hse hT hrd hl
        go_wp2_with fail
        refine (HF0.out _ HR.out).mono ?_
        rintro e w4 ⟨rfl, hb4⟩
        have HP := Lib.hid (show ((∃ A' c', Ending.returned (.slice A k c) = .returned (.slice A' T.2.length c') ∧ Rd w4 A' (SL T.2)) ∧ RR w4 b T.1 ∧ But b w w4) by
          rw [HT.out]
          exact ⟨⟨A, c, by show _ = Ending.returned (.slice A acc.length c); rw [HL.out], HRD.out.below hb4⟩, HR.out.below hb4, HBT.out.trans (But.of hb4)⟩)
        clear hb4
        go_wp2
        go_ret
        exact HP.out
      · obtain ⟨er, her⟩ : ∃ er, s.e = er := ⟨_, rfl⟩
        have hne : (er == 0) = false := by rw [← her]; simpa using hse
        have hne2 : (er != 0) = true := by rw [← her]; simpa using hse
        have HF0 := Lib.hid (fun w h => fault5_e b s er her w h)
        have HT := Lib.hid (HI.out.2.2.2 hse)
        clear her hse hl
        go_wp2_with fail
        refine (HF0.out _ HR.out).mono ?_
        rintro e w5 ⟨rfl, hb5⟩
        have HP := Lib.hid (show ((∃ A c, Ending.returned (.slice none 0 0) = .returned (.slice A T.2.length c) ∧ Rd w5 A (SL T.2)) ∧ RR w5 b T.1 ∧ But b w w5) by
          rw [HT.out]
          exact ⟨⟨none, 0, rfl, .inl rfl⟩, HR.out.below hb5, HBT.out.trans (But.of hb5)⟩)
        clear hb5
        go_wp2
        go_ret
        exact HP.out
end Go.Proofs.Ytchhibicbgimcaa.poolt

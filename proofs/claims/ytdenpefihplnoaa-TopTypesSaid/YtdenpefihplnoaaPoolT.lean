/-
  Layer 5: a pool that is read: the program's answer.
-/
import Derived.Test.YtdenpefihplnoaaLive5
import Derived.Test.YtdenpefihplnoaaRefR4
namespace Go.Proofs.Ytdenpefihplnoaa.poolt
open Go.RowKit
open Go.Proofs.Ytdenpefihplnoaa.num Go.Proofs.Ytdenpefihplnoaa.words Go.Proofs.Ytdenpefihplnoaa.poolp Go.Proofs.Ytdenpefihplnoaa.pool Go.Proofs.Ytdenpefihplnoaa.rdnum Go.Proofs.Ytdenpefihplnoaa.rdr Go.Proofs.Ytdenpefihplnoaa.give Go.Proofs.Ytdenpefihplnoaa.meth Go.Proofs.Ytdenpefihplnoaa.refr

/-- bytes, as a string -/
def toS (x : List Nat) : Str := x.map UInt8.ofNat
theorem toS_S (x : List Nat) : give.S x = .string ⟨(toS x).toArray⟩ := rfl
/-- a text of a pool: the reader behind it, and the text -/
def nextS (s : Rs) : Str := toS (s.ans (textT s.l s.p) [])
def nextR (s : Rs) : Rs := s.go (textT s.l s.p)
/-- it does not stand behind the one ahead of it -/
def wrong (acc : List Str) (x : Str) : Bool := match acc.getLast? with | none => false | some y => !decide (y < x)
def nextF (s : Rs) (acc : List Str) : Rs := if wrong acc (nextS s) = true then (nextR s).fail 5 else nextR s
/-- so many texts -/
def takeP : Nat → Rs → List Str → Rs × List Str
  | 0, s, acc => (s, acc)
  | k + 1, s, acc => if (nextF s acc).e ≠ 0 then (nextF s acc, []) else takeP k (nextF s acc) (acc ++ [nextS s])
theorem takeP_bad {k : Nat} {s : Rs} {acc : List Str} (h : (nextF s acc).e ≠ 0) : takeP (k + 1) s acc = (nextF s acc, []) := by unfold takeP; rw [if_pos h]
theorem takeP_good {k : Nat} {s : Rs} {acc : List Str} (h : (nextF s acc).e = 0) : takeP (k + 1) s acc = takeP k (nextF s acc) (acc ++ [nextS s]) := by rw [takeP, if_neg (by simpa using h)]
/-- a pool -/
def poolT (s : Rs) : Rs × List Str := takeP (s.ans (numT s.l s.p 1024) 0) (s.go (numT s.l s.p 1024)) []
theorem last_of {acc : List Str} {j : Nat} {y : Str} (hj : acc[j]? = some y) (hl : acc.length = j + 1) : acc.getLast? = some y := by
  rw [List.getLast?_eq_getElem?, hl]; exact hj

/-- a reader beside a row of strings that grew -/
theorem rw_row {w w' : World} {b base n : Nat} {s : Rs} {v : Value} {xs : List Value} (h : RW w b s) (hb : b < base) (ho : w.ownsRow base 9 1 v n xs) (hg : w.grownBy w' v.ownBlock) : RW w' b s := by
  rcases ho.2 with ⟨rfl, _⟩ | ⟨g, cap, cur, rfl, hg0, hgh, _⟩
  · have hg2 : But w.heap.size w w' := ⟨hg.os, hg.tape, hg.output, hg.size, fun k hk _ => hg.block k hk (by simp [Value.ownBlock])⟩
    exact h.kept hg2 (by have := h.lt; omega) (fun cs f => by simp)
  · have hg2 : But g w w' := hg
    exact h.kept hg2 (by omega) (fun cs f e => by rw [hgh] at e; cases e)

theorem but_low {b : Nat} {w w1 w2 : World} (h : But b w w1) (k : Below w.heap.size w1 w2) : But b w w2 :=
  ⟨k.os.trans h.os, k.tape.trans h.tape, k.output.trans h.output, Nat.le_trans h.size k.size, fun j hj hne => (k.block j hj).trans (h.block j hj hne)⟩
/-- what Fault answers -/
theorem fault_e (b : Nat) (s : Rs) (er : Int) (he : s.e = er) (w : World) (h : RW w b s) :
    Calls Try.prog 23 #[.pointer (some ⟨b, 0, none⟩)] w fun e w' => e = .returned (.agg #[.int .i64 er, .int .i64 (s.f : Int)]) ∧ Below w.heap.size w w' := by
  have := fault_m b s w h
  unfold fv at this
  rw [he] at this
  exact this
theorem fail_ne {s : Rs} : (s.fail 5).e ≠ 0 := by
  unfold Rs.fail
  split
  · rename_i h; rcases h with h | h
    · exact h
    · cases h
  · simp

set_option maxRecDepth 100000 in
set_option maxHeartbeats 1600000 in
theorem take_w (b : Nat) (s : Rs) (w : World) (h : RW w b s) :
    Calls Try.prog 9 #[.pointer (some ⟨b, 0, none⟩)] w fun e w' => (∃ A c, e = .returned (.slice A (poolT s).2.length c) ∧ Rd w' A (SL (poolT s).2) ∧ ((poolT s).1.e ≠ 0 → A = none ∧ c = 0)) ∧ RW w' b (poolT s).1 ∧ But b w w' := by
  have hN := num_m b s 1024 w h (by omega) (by omega)
  have hlt := h.lt
  obtain ⟨n, hn⟩ : ∃ n, n = s.ans (numT s.l s.p 1024) 0 := ⟨_, rfl⟩
  obtain ⟨s1, hs1⟩ : ∃ s1, s1 = s.go (numT s.l s.p 1024) := ⟨_, rfl⟩
  obtain ⟨T, hT⟩ : ∃ T, T = takeP n s1 [] := ⟨_, rfl⟩
  have hpT : poolT s = T := by unfold poolT; rw [← hn, ← hs1, hT]
  have hn1 : n ≤ 1024 := by
    by_cases h0 : s.e = 0 ∧ (numT s.l s.p 1024).e = 0
    · rw [hn, Rs.ans_ok h0.1 h0.2]
      obtain ⟨_, he, hv, _⟩ := numT_ok h.1.le h.1.byte h0.2
      rw [he]; omega
    · rw [hn]; unfold Rs.ans; rw [if_pos (by by_cases h1 : s.e = 0
                                             · exact .inr fun h2 => h0 ⟨h1, h2⟩
                                             · exact .inl h1)]; omega
  rw [hpT]
  unfold Did at hN
  rw [← hn, ← hs1] at hN
  have HN := Lib.hid hN
  have HT := Lib.hid hT
  have hnI : (n : Int) ≤ 1024 := by omega
  have hfd : ∀ (a b : Int) (w : World), (Instr.field 57 (.agg #[.int .i64 a, .int .i64 b]) 0).run Try.prog w = .ok (.int .i64 a) w := fun _ _ _ => by kernel_rfl
  obtain ⟨i0, hi0, hz0, hz1, hz2⟩ := info_parts infoS
  clear h hN hn hs1 hT hpT
  go_enter Try.func9, Try.ntmps9
  go_wp2_with fail
  refine HN.out.mono ?_
  rintro e w1 ⟨rfl, hr1, hb1⟩
  have HR1 := Lib.hid hr1; have HB1 := Lib.hid hb1
  clear hr1 hb1 HN
  go_wp2
  go_loopw [3, 8] (fun v i wr => ∃ (k : Nat) (s : Rs) (acc : List Str), i = .int .i64 (k : Int) ∧ k ≤ n ∧ acc.length = k ∧ takeP (n - k) s acc = T ∧ (s.e ≠ 0 → v = .slice none 0 0) ∧ wr.ownsRow w.heap.size 9 1 v k (SL acc) ∧ RW wr b s ∧ But b w wr) (fun _ i _ => n - (intOf i).toNat)
  case atStart => exact ⟨0, s1, [], rfl, Nat.zero_le _, rfl, by rw [HT.out]; rfl, fun _ => rfl, World.ownsRow_nil _ _ _ _, HR1.out, HB1.out⟩
  case round =>
    obtain ⟨k, s, acc, rfl, hk, hl, hT, hv, hown, hrw, hbt⟩ := hrel
    have HL := Lib.hid hl; have HTT := Lib.hid hT; have HV := Lib.hid hv; have HBT := Lib.hid hbt
    by_cases hlt2 : k < n
    · have hltI : (k : Int) < (n : Int) := by omega
      have htx := fun wr h => text_m b s wr h
      unfold Did at htx
      obtain ⟨x, hx⟩ : ∃ x, x = nextS s := ⟨_, rfl⟩
      have hxx : give.S (s.ans (textT s.l s.p) []) = .string ⟨x.toArray⟩ := by rw [hx]; rfl
      obtain ⟨s2, hs2⟩ : ∃ s2, s2 = nextR s := ⟨_, rfl⟩
      have hss : s.go (textT s.l s.p) = s2 := hs2.symm
      rw [hxx, hss] at htx
      have HTX := Lib.hid htx
      obtain ⟨m, hm⟩ : ∃ m, n - k = m + 1 := ⟨n - k - 1, by omega⟩
      obtain ⟨A, c, rfl, hkc, _, hrd⟩ := own_rd hown
      have HO := Lib.hid hown; have HR := Lib.hid hrw; have HX := Lib.hid hx; have HS2 := Lib.hid hs2; have HMM := Lib.hid hm
      cases k with
      | zero =>
        have ec : ((0 : Nat) : Int) = 0 := rfl
        have h0 : acc = [] := List.eq_nil_of_length_eq_zero hl
        have hnf : nextF s acc = s2 := by unfold nextF wrong; rw [h0, ← hs2]; rfl
        have hstep : s2.e ≠ 0 → T = (s2, []) := fun h => by rw [← HTT.out, hm, takeP_bad (by rw [hnf]; exact h), hnf]
        have hgo : s2.e = 0 → takeP (n - (0 + 1)) s2 (acc ++ [x]) = T := fun h => by rw [← HTT.out, hm, takeP_good (by rw [hnf]; exact h), hnf, ← hx, show n - (0 + 1) = m by omega]
        rw [ec] at hltI ⊢
        by_cases he : s2.e = 0
        · have HE := Lib.hid he; have HG := Lib.hid (hgo he)
          have her := he
          clear hl hT hv hbt htx hx hxx hs2 hss hm hown hrw hrd ec h0 hnf hstep hgo he
          go_wp2_with fail
          refine (HTX.out _ HR.out).mono ?_
          rintro e w2 ⟨rfl, hr2, hb2⟩
          have HR2 := Lib.hid hr2; have HB2 := Lib.hid (HBT.out.trans hb2); have HO2 := Lib.hid (HO.out.kept hb2 (Or.inr (row_ne HO.out hlt).symm))
          clear hr2 hb2 HTX
          have HFT := Lib.hid (fault_e b _ 0 her)
          clear her
          go_wp2_with fail
          refine (HFT.out _ HR2.out).mono ?_
          rintro e w4 ⟨rfl, hb4⟩
          have HO4 := Lib.hid (own_below HO2.out hb4); have HR4 := Lib.hid (HR2.out.below hb4); have HB4 := Lib.hid (HB2.out.trans (But.of hb4))
          have hsz4 := HB4.out.size
          clear hb4 HFT
          go_wp2_with (at_builtin; refine wpList_app _ rfl (.tmp 30) (.tmp 32) _ rfl w.heap.size 9 i0 _ 1 16 Try.underlying23 hi0 hz0 hz1 hz2 rfl (by omega) _ 0 (SL acc) rfl (HO4.out.alloc _) _ 1 1 [_] rfl rfl (rd_blk (heap_alloc_new w4 _) (k := 1) rfl) (by simp [Value.oneCell']) (by simp only [maxLen]; omega) (by omega) (by simp; omega) ?_; intro v5 w5 hown5 hg5 hb5 hat5; clear hat5)
          have hown6 : w5.ownsRow w.heap.size 9 1 v5 (0 + 1) (SL (acc ++ [x])) := by rw [SL_app]; exact hown5
          have HR6 := Lib.hid (rw_row (HR4.out.below ((Below.refl _ w4).alloc (Nat.le_refl _) _)) hlt (HO4.out.alloc _) hg5)
          have HB6 := Lib.hid (but_low (but_low HB4.out ((Below.refl _ w4).alloc hsz4 _)) hb5)
          clear hown5 hg5 hb5
          go_roundw
          case rel => exact ⟨0 + 1, _, acc ++ [x], by go_num, by omega, by rw [List.length_append, HL.out]; rfl, HG.out, fun h => absurd HE.out h, hown6, HR6.out, HB6.out⟩
          case measure => simp [intOf]; omega
        · obtain ⟨er, her⟩ : ∃ er, s2.e = er := ⟨_, rfl⟩
          have hne : (er != 0) = true := by rw [← her]; simpa using he
          have HB5 := Lib.hid (hstep he)
          clear hl hT hv hbt htx hx hxx hs2 hss hm hown hrw hrd ec h0 hnf hstep hgo he
          go_wp2_with fail
          refine (HTX.out _ HR.out).mono ?_
          rintro e w2 ⟨rfl, hr2, hb2⟩
          have HR2 := Lib.hid hr2; have HB2 := Lib.hid (HBT.out.trans hb2)
          clear hr2 hb2 HTX
          have HFT := Lib.hid (fault_e b _ er her)
          clear her
          go_wp2_with fail
          refine (HFT.out _ HR2.out).mono ?_
          rintro e w4 ⟨rfl, hb4⟩
          have HP := Lib.hid (show ((∃ A c, Ending.returned (.slice none 0 0) = .returned (.slice A T.2.length c) ∧ Rd w4 A (SL T.2) ∧ (T.1.e ≠ 0 → A = none ∧ c = 0)) ∧ RW w4 b T.1 ∧ But b w w4) by
            rw [HB5.out]
            exact ⟨⟨none, 0, rfl, .inl rfl, fun _ => ⟨rfl, rfl⟩⟩, HR2.out.below hb4, HB2.out.trans (But.of hb4)⟩)
          clear hb4 HFT
          go_wp2
          go_ret
          exact HP.out
      | succ j =>
        have e1 : ((j + 1 : Nat) : Int) = (j : Int) + 1 := by omega
        obtain ⟨y, hy⟩ : ∃ y, acc[j]? = some y := ⟨acc[j]'(by omega), List.getElem?_eq_getElem _⟩
        have hlast := last_of hy hl
        have HY := Lib.hid hy
        rw [e1] at hltI ⊢
        have hj0 : (0 : Int) ≤ (j : Int) := by omega
        have hj1 : (j : Int) < (j : Int) + 1 := by omega
        have hjp : (0 : Int) < (j : Int) + 1 := by omega
        have hjn : (j : Int) ≤ 1024 := by omega
        by_cases hyx : y < x
        · have hnf : nextF s acc = s2 := by unfold nextF wrong; rw [hlast, ← hs2, ← hx]; simp [hyx]
          have hstep : s2.e ≠ 0 → T = (s2, []) := fun h => by rw [← HTT.out, hm, takeP_bad (by rw [hnf]; exact h), hnf]
          have hgo : s2.e = 0 → takeP (n - (j + 1 + 1)) s2 (acc ++ [x]) = T := fun h => by rw [← HTT.out, hm, takeP_good (by rw [hnf]; exact h), hnf, ← hx, show n - (j + 1 + 1) = m by omega]
          have hl1 : Op.bytesLess y x = true := by rw [less_mk]; exact decide_eq_true hyx
          have hl2 : Op.bytesLess x y = false := by rw [less_mk]; exact decide_eq_false (fun h => List.lt_irrefl _ (List.lt_trans h hyx))
          have hl3 : (x == y) = false := by rw [eq_mk]; exact decide_eq_false (fun h => by rw [h] at hyx; exact List.lt_irrefl _ hyx)
          by_cases he : s2.e = 0
          · have HE := Lib.hid he; have HG := Lib.hid (hgo he)
            have her := he
            clear hl hT hv hbt htx hx hxx hs2 hss hm hown hrw hrd e1 hnf hstep hgo hy hlast he hyx
            go_wp2_with fail
            refine (HTX.out _ HR.out).mono ?_
            rintro e w2 ⟨rfl, hr2, hb2⟩
            have HR2 := Lib.hid hr2; have HB2 := Lib.hid (HBT.out.trans hb2); have HO2 := Lib.hid (HO.out.kept hb2 (Or.inr (row_ne HO.out hlt).symm))
            obtain ⟨A', c', he2, _, _, hrd2⟩ := own_rd HO2.out
            cases he2
            obtain ⟨a, rfl, _, hcell⟩ := sl_cell hrd2 HY.out
            clear hr2 hb2 HTX hrd2
            have HFT := Lib.hid (fault_e b _ 0 her)
            clear her
            go_wp2_with fail
            refine (HFT.out _ HR2.out).mono ?_
            rintro e w4 ⟨rfl, hb4⟩
            have HO4 := Lib.hid (own_below HO2.out hb4); have HR4 := Lib.hid (HR2.out.below hb4); have HB4 := Lib.hid (HB2.out.trans (But.of hb4))
            have hsz4 := HB4.out.size
            clear hb4 HFT
            go_wp2_with (at_builtin; refine wpList_app _ rfl (.tmp 30) (.tmp 32) _ rfl w.heap.size 9 i0 _ 1 16 Try.underlying23 hi0 hz0 hz1 hz2 rfl (by omega) _ (j + 1) (SL acc) rfl (HO4.out.alloc _) _ 1 1 [_] rfl rfl (rd_blk (heap_alloc_new w4 _) (k := 1) rfl) (by simp [Value.oneCell']) (by simp only [maxLen]; omega) (by omega) (by simp; omega) ?_; intro v5 w5 hown5 hg5 hb5 hat5; clear hat5)
            have hown6 : w5.ownsRow w.heap.size 9 1 v5 (j + 1 + 1) (SL (acc ++ [x])) := by rw [SL_app]; exact hown5
            have HR6 := Lib.hid (rw_row (HR4.out.below ((Below.refl _ w4).alloc (Nat.le_refl _) _)) hlt (HO4.out.alloc _) hg5)
            have HB6 := Lib.hid (but_low (but_low HB4.out ((Below.refl _ w4).alloc hsz4 _)) hb5)
            clear hown5 hg5 hb5
            go_roundw
            case rel => exact ⟨j + 1 + 1, _, acc ++ [x], by go_num, by omega, by rw [List.length_append, HL.out]; rfl, HG.out, fun h => absurd HE.out h, hown6, HR6.out, HB6.out⟩
            case measure => simp [intOf]; omega
          · obtain ⟨er, her⟩ : ∃ er, s2.e = er := ⟨_, rfl⟩
            have hne : (er != 0) = true := by rw [← her]; simpa using he
            have HB5 := Lib.hid (hstep he)
            clear hl hT hv hbt htx hx hxx hs2 hss hm hown hrw hrd e1 hnf hstep hgo hy hlast he hyx
            go_wp2_with fail
            refine (HTX.out _ HR.out).mono ?_
            rintro e w2 ⟨rfl, hr2, hb2⟩
            have HR2 := Lib.hid hr2; have HB2 := Lib.hid (HBT.out.trans hb2); have HO2 := Lib.hid (HO.out.kept hb2 (Or.inr (row_ne HO.out hlt).symm))
            obtain ⟨A', c', he2, _, _, hrd2⟩ := own_rd HO2.out
            cases he2
            obtain ⟨a, rfl, _, hcell⟩ := sl_cell hrd2 HY.out
            clear hr2 hb2 HTX hrd2
            have HFT := Lib.hid (fault_e b _ er her)
            clear her
            go_wp2_with fail
            refine (HFT.out _ HR2.out).mono ?_
            rintro e w4 ⟨rfl, hb4⟩
            have HP := Lib.hid (show ((∃ A c, Ending.returned (.slice none 0 0) = .returned (.slice A T.2.length c) ∧ Rd w4 A (SL T.2) ∧ (T.1.e ≠ 0 → A = none ∧ c = 0)) ∧ RW w4 b T.1 ∧ But b w w4) by
              rw [HB5.out]
              exact ⟨⟨none, 0, rfl, .inl rfl, fun _ => ⟨rfl, rfl⟩⟩, HR2.out.below hb4, HB2.out.trans (But.of hb4)⟩)
            clear hb4 HFT
            go_wp2
            go_ret
            exact HP.out
        · have hnf : nextF s acc = s2.fail 5 := by unfold nextF wrong; rw [hlast, ← hs2, ← hx]; simp [hyx]
          have he : (s2.fail 5).e ≠ 0 := fail_ne
          have hstep : T = (s2.fail 5, []) := by rw [← HTT.out, hm, takeP_bad (by rw [hnf]; exact he), hnf]
          have hl1 : Op.bytesLess y x = false := by rw [less_mk]; exact decide_eq_false hyx
          obtain ⟨er, her⟩ : ∃ er, (s2.fail 5).e = er := ⟨_, rfl⟩
          have hne : (er != 0) = true := by rw [← her]; simpa using he
          have HB5 := Lib.hid hstep
          have HFL := Lib.hid (fun w h => fail_mw b s2 5 w h)
          generalize s2.fail 5 = s3 at *
          clear hl hT hv hbt htx hx hxx hs2 hss hm hown hrw hrd e1 hnf hstep hy hlast he
          rcases tri x y with h | ⟨h, hxy⟩ | ⟨h, hxy, h2⟩
          · have hl2 : Op.bytesLess x y = true := by rw [less_mk]; exact decide_eq_true h
            clear h hyx
            go_wp2_with fail
            refine (HTX.out _ HR.out).mono ?_
            rintro e w2 ⟨rfl, hr2, hb2⟩
            have HR2 := Lib.hid hr2; have HB2 := Lib.hid (HBT.out.trans hb2); have HO2 := Lib.hid (HO.out.kept hb2 (Or.inr (row_ne HO.out hlt).symm))
            obtain ⟨A', c', he2, _, _, hrd2⟩ := own_rd HO2.out
            cases he2
            obtain ⟨a, rfl, _, hcell⟩ := sl_cell hrd2 HY.out
            clear hr2 hb2 HTX hrd2
            go_wp2_with fail
            refine (HFL.out _ HR2.out).mono ?_
            rintro e w3 ⟨rfl, hr3, hb3⟩
            have HR3 := Lib.hid hr3; have HB3 := Lib.hid (HB2.out.trans hb3)
            clear hr3 hb3 HFL
            have HFT := Lib.hid (fault_e b _ er her)
            clear her
            go_wp2_with fail
            refine (HFT.out _ HR3.out).mono ?_
            rintro e w4 ⟨rfl, hb4⟩
            have HP := Lib.hid (show ((∃ A c, Ending.returned (.slice none 0 0) = .returned (.slice A T.2.length c) ∧ Rd w4 A (SL T.2) ∧ (T.1.e ≠ 0 → A = none ∧ c = 0)) ∧ RW w4 b T.1 ∧ But b w w4) by
              rw [HB5.out]
              exact ⟨⟨none, 0, rfl, .inl rfl, fun _ => ⟨rfl, rfl⟩⟩, HR3.out.below hb4, HB3.out.trans (But.of hb4)⟩)
            clear hb4 HFT
            go_wp2
            go_ret
            exact HP.out
          · have hl2 : Op.bytesLess x y = false := by rw [less_mk]; exact decide_eq_false h
            have hl3 : (x == y) = true := by rw [eq_mk]; exact decide_eq_true hxy
            clear h hyx hxy
            go_wp2_with fail
            refine (HTX.out _ HR.out).mono ?_
            rintro e w2 ⟨rfl, hr2, hb2⟩
            have HR2 := Lib.hid hr2; have HB2 := Lib.hid (HBT.out.trans hb2); have HO2 := Lib.hid (HO.out.kept hb2 (Or.inr (row_ne HO.out hlt).symm))
            obtain ⟨A', c', he2, _, _, hrd2⟩ := own_rd HO2.out
            cases he2
            obtain ⟨a, rfl, _, hcell⟩ := sl_cell hrd2 HY.out
            clear hr2 hb2 HTX hrd2
            go_wp2_with fail
            refine (HFL.out _ HR2.out).mono ?_
            rintro e w3 ⟨rfl, hr3, hb3⟩
            have HR3 := Lib.hid hr3; have HB3 := Lib.hid (HB2.out.trans hb3)
            clear hr3 hb3 HFL
            have HFT := Lib.hid (fault_e b _ er her)
            clear her
            go_wp2_with fail
            refine (HFT.out _ HR3.out).mono ?_
            rintro e w4 ⟨rfl, hb4⟩
            have HP := Lib.hid (show ((∃ A c, Ending.returned (.slice none 0 0) = .returned (.slice A T.2.length c) ∧ Rd w4 A (SL T.2) ∧ (T.1.e ≠ 0 → A = none ∧ c = 0)) ∧ RW w4 b T.1 ∧ But b w w4) by
              rw [HB5.out]
              exact ⟨⟨none, 0, rfl, .inl rfl, fun _ => ⟨rfl, rfl⟩⟩, HR3.out.below hb4, HB3.out.trans (But.of hb4)⟩)
            clear hb4 HFT
            go_wp2
            go_ret
            exact HP.out
          · exact absurd h2 hyx
    · have hltI : ¬ (k : Int) < (n : Int) := by omega
      obtain rfl : k = n := by omega
      rw [Nat.sub_self] at hT
      obtain ⟨A, c, rfl, hkc, _, hrd⟩ := own_rd hown
      have HP := Lib.hid (show ((∃ A' c', Ending.returned (.slice A k c) = .returned (.slice A' T.2.length c') ∧ Rd wr A' (SL T.2) ∧ (T.1.e ≠ 0 → A' = none ∧ c' = 0)) ∧ RW wr b T.1 ∧ But b w wr) by
        rw [← hT]
        refine ⟨⟨A, c, by show _ = Ending.returned (.slice A acc.length c); rw [hl], hrd, fun h => ?_⟩, hrw, hbt⟩
        have := hv h
        cases this
        exact ⟨rfl, rfl⟩)
      clear hl hT hv hbt hown hrw hrd
      go_wp2
      go_ret
      exact HP.out
end Go.Proofs.Ytdenpefihplnoaa.poolt

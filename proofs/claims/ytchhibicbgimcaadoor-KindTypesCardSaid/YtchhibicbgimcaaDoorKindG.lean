/-
  Layer 6: a descriptor with other classes' names: the program's answer.
-/
import Derived.Test.YtchhibicbgimcaaDoorKindM
namespace Go.Proofs.YtchhibicbgimcaaDoor.kind
open Go.RowKit
open Go.Proofs.YtchhibicbgimcaaDoor.words Go.Proofs.YtchhibicbgimcaaDoor.kindp Go.Proofs.YtchhibicbgimcaaDoor.word Go.Proofs.YtchhibicbgimcaaDoor.rdr

theorem TL_set : ∀ {l : List Ty} {j : Nat} (y : Ty), j < l.length → ((TL l).set (j * 2) (.int .i64 y.1)).set (j * 2 + 1) (.string ⟨y.2.toArray⟩) = TL (l.set j y)
  | [], _, _, h => by simp at h
  | x :: l, 0, y, _ => rfl
  | x :: l, j + 1, y, h => by
    have ih := TL_set (l := l) (j := j) y (by simpa using h)
    rw [show (j + 1) * 2 = (j * 2) + 1 + 1 by omega]
    have e : TL (x :: l) = .int .i64 x.1 :: .string ⟨x.2.toArray⟩ :: TL l := rfl
    have e2 : TL ((x :: l).set (j + 1) y) = .int .i64 x.1 :: .string ⟨x.2.toArray⟩ :: TL (l.set j y) := rfl
    rw [e, e2, ← ih]
    rfl
/-- the first of them are renamed -/
def mixT (l : List Pr) (p : List Ty) (j : Nat) : List Ty := (p.take j).map (renT l) ++ p.drop j
theorem mix_len (l : List Pr) (p : List Ty) (j : Nat) : (mixT l p j).length = p.length := by
  unfold mixT; rw [List.length_append, List.length_map, List.length_take, List.length_drop]; omega
theorem mix_at {l : List Pr} {p : List Ty} {j : Nat} {x : Ty} (h : p[j]? = some x) : (mixT l p j)[j]? = some x := by
  have hj : j < p.length := by
    rcases Nat.lt_or_ge j p.length with h1 | h1
    · exact h1
    · rw [List.getElem?_eq_none h1] at h; cases h
  unfold mixT
  rw [List.getElem?_append_right (by rw [List.length_map, List.length_take]; omega), List.length_map, List.length_take, List.getElem?_drop, show j + (j - min j p.length) = j by omega]
  exact h
theorem mix_next {l : List Pr} {p : List Ty} {j : Nat} {x : Ty} (h : p[j]? = some x) : (mixT l p j).set j (renT l x) = mixT l p (j + 1) := by
  have hj : j < p.length := by
    rcases Nat.lt_or_ge j p.length with h1 | h1
    · exact h1
    · rw [List.getElem?_eq_none h1] at h; cases h
  unfold mixT
  have e : p.drop j = x :: p.drop (j + 1) := by
    rw [List.getElem?_eq_some_iff] at h
    obtain ⟨h1, h2⟩ := h
    rw [List.drop_eq_getElem_cons h1, h2]
  rw [e, List.take_add_one, h, List.set_append_right _ _ (by rw [List.length_map, List.length_take]; omega), List.length_map, List.length_take, show j - min j p.length = 0 by omega]
  simp
theorem mix_zero (l : List Pr) (p : List Ty) : mixT l p 0 = p := by simp [mixT]
theorem mix_all (l : List Pr) (p : List Ty) : mixT l p p.length = p.map (renT l) := by simp [mixT]
theorem split_small {d : Tx} (he : (splitT d).2.2 = 0) : (splitT d).2.1.2.length ≤ 32 ∧ ∀ x ∈ (splitT d).1, x.2.length ≤ 32 := by
  have h := desc_split (d := d) (t := (splitT d).2.1) (p := (splitT d).1) (Prod.ext rfl (Prod.ext rfl he))
  have hr : ∀ t : Ty, rightT t = true → t.2.length ≤ 32 := by
    intro t ht
    rcases right_cases ht with rfl | rfl | rfl | ⟨c, rfl, hc⟩ | ⟨c, rfl, hc⟩
    · simp
    · simp
    · simp
    · exact (cls_no hc).2.2
    · exact (cls_no hc).2.2
  refine ⟨hr _ h.2.1, fun x hx => hr _ ?_⟩
  have := h.2.2 x hx
  unfold wrongT at this
  rw [Bool.or_eq_false_iff, Bool.not_eq_false'] at this
  exact this.2
theorem ren_small {l : List Pr} (hz : ∀ q ∈ l, q.2.length ≤ 281474976710656) {t : Ty} (ht : t.2.length ≤ 281474976710656) : (renT l t).2.length ≤ 281474976710656 := by
  unfold renT
  split
  · cases hk : lookT l t.2 with
    | none => exact ht
    | some n => exact hz _ (look_mem hk)
  · exact ht

set_option maxRecDepth 100000 in
set_option maxHeartbeats 4000000 in
theorem renamed_w (s : Tx) (B : Option Addr) (bc : Nat) (l : List Pr) (w : World) (hs : s.length ≤ 65536) (hr : Rd w B (PL l)) (hl : l.length ≤ 281474976710656) (hz : ∀ q ∈ l, q.2.length ≤ 281474976710656) (hm : Mx w) (hv : Vd w) :
    Calls Tryd.prog 29 #[.string ⟨s.toArray⟩, .slice B l.length bc] w fun e w' => e = .returned (.string ⟨(renD s l).toArray⟩) ∧ Below w.heap.size w w' := by
  have hS := split_k s w hs hm hv
  have hrD : renD s l = if (splitT s).2.2 = 0 then (descT (renT l (splitT s).2.1) ((splitT s).1.map (renT l))).1 else [] := rfl
  have hsm := split_small (d := s)
  have h8 := split_len s
  unfold SplitW at hS
  obtain ⟨x, hx⟩ : ∃ x, x = splitT s := ⟨_, rfl⟩
  rw [← hx] at hS hrD hsm h8
  obtain ⟨p, ⟨k, c⟩, er⟩ := x
  dsimp only at hS hrD hsm h8
  have HS := Lib.hid hS; have HRD := Lib.hid hrD
  have HR := Lib.hid hr; have HV := Lib.hid hv
  obtain ⟨L, hL⟩ : ∃ L, L = l.length := ⟨_, rfl⟩
  have HRN := Lib.hid (fun (k : Int) (c : Tx) w hr => ren_w k c B bc l w hr hl)
  rw [← hL] at HRN ⊢
  by_cases he : er = 0
  · subst he
    obtain ⟨hs1, hs2⟩ := hsm rfl
    rw [if_pos rfl] at HRD
    have hzp : ∀ t ∈ p.map (renT l), t.2.length ≤ 281474976710656 := by
      intro t ht
      obtain ⟨y, hy, rfl⟩ := List.mem_map.1 ht
      exact ren_small hz (by have := hs2 y hy; omega)
    have hzt : (renT l (k, c)).2.length ≤ 281474976710656 := ren_small hz (by dsimp only; omega)
    obtain ⟨n, hn⟩ : ∃ n, n = p.length := ⟨_, rfl⟩
    have HDS := Lib.hid (fun A cc w hr hv => desc_w (renT l (k, c)).1 (renT l (k, c)).2 A cc (p.map (renT l)) w hzt hr (by rw [List.length_map]; omega) hzp hv)
    rw [List.length_map, ← hn] at HDS
    rw [← hn] at HS h8
    have hnI : (n : Int) ≤ 8 := by omega
    have HN := Lib.hid hn
    obtain ⟨D, hD⟩ : ∃ D, D = descT (renT l (k, c)) (p.map (renT l)) := ⟨_, rfl⟩
    rw [show ((renT l (k, c)).1, (renT l (k, c)).2) = renT l (k, c) from rfl, ← hD] at HDS
    rw [← hD] at HRD
    unfold DescW at HDS
    obtain ⟨⟨k2, c2⟩, hkc⟩ : ∃ y, y = renT l (k, c) := ⟨_, rfl⟩
    have HK := Lib.hid hkc
    rw [← hkc] at HDS
    dsimp only at HDS
    clear hS hrD hsm hr hz hm hv hs hx hL hs1 hs2 hzp hzt hn hD hkc hl
    go_enter Tryd.func29, Tryd.ntmps29
    go_wp2_with fail
    refine HS.out.mono ?_
    rintro e w1 ⟨⟨A, cc, rfl, hown⟩, hb1⟩
    have hAlt : ∀ a, A = some a → a.block < w1.heap.size := fun a ha => (hown.lt a.block (by rw [ha]; rfl)).2
    have HO := Lib.hid hown; have HB := Lib.hid hb1; have HA := Lib.hid hAlt
    have hal6 : Below w1.heap.size w1 (w1.alloc (.cells #[.int .i64 k, .string ⟨c.toArray⟩] 24)) := (Below.refl _ _).alloc (Nat.le_refl _) _
    have HAL6 := Lib.hid hal6
    have hsz1 := hb1.size
    clear hown hb1 hAlt hal6
    go_wp2
    go_loopw [22] (fun i wr => ∃ j : Nat, i = .int .i64 (j : Int) ∧ j ≤ n ∧ wr.ownsRow w.heap.size 24 2 (.slice A n cc) n (TL (mixT l p j)) ∧ wr.heap[w1.heap.size]? = some (.cells #[.int .i64 k, .string ⟨c.toArray⟩] 24 (0, 0)) ∧ Below w.heap.size w wr) (fun i _ => n - (intOf i).toNat)
    case atStart => exact ⟨0, rfl, Nat.zero_le _, by rw [mix_zero]; exact HO.out.alloc _, heap_alloc_new w1 _, HB.out.alloc hsz1 _⟩
    case round =>
      obtain ⟨j, rfl, hj, hown, hg6, hbw⟩ := hrel
      have HOW := Lib.hid hown; have HG6 := Lib.hid hg6; have HBW := Lib.hid hbw
      by_cases hlt : j < n
      · have hltI : (j : Int) < (n : Int) := by omega
        obtain ⟨⟨kd, cl⟩, hx⟩ : ∃ x, p[j]? = some x := ⟨p[j]'(by rw [← HN.out]; exact hlt), List.getElem?_eq_getElem _⟩
        have hmx := mix_at (l := l) hx
        have hnx := mix_next (l := l) hx
        obtain ⟨g, rfl⟩ : ∃ g, A = some ⟨g, 0, none⟩ := by
          rcases hown.2 with ⟨h1, h2⟩ | ⟨g, cap, cur, h1, _⟩
          · omega
          · cases h1; exact ⟨_, rfl⟩
        have hgl := HA.out _ rfl
        have hgb := (hown.lt g rfl).1
        dsimp only at hgl
        obtain ⟨t0, t1⟩ := TL_at hmx
        have c0 : wr.cell? ⟨g, j * 2, none⟩ = some (.int .i64 kd) := (hown.cellAt (j * 2) (by omega)).trans t0
        have c1 : wr.cell? ⟨g, j * 2 + 1, none⟩ = some (.string ⟨cl.toArray⟩) := (hown.cellAt (j * 2 + 1) (by omega)).trans t1
        have hal9 : Below wr.heap.size wr (wr.alloc (.cells #[.int .i64 kd, .string ⟨cl.toArray⟩] 24)) := (Below.refl _ _).alloc (Nat.le_refl _) _
        have HAL9 := Lib.hid hal9
        have HRR := Lib.hid (HR.out.below (hbw.trans (hal9.mono hbw.size)))
        obtain ⟨⟨k9, c9⟩, h9⟩ : ∃ y, y = renT l (kd, cl) := ⟨_, rfl⟩
        have HRK := Lib.hid (HRN.out kd cl)
        rw [← h9] at HRK hnx
        unfold RenW at HRK
        dsimp only at HRK
        have htl := TL_set (l := mixT l p j) (k9, c9) (j := j) (by rw [mix_len, ← HN.out]; exact hlt)
        rw [hnx] at htl
        have HTL := Lib.hid htl
        have HT0 := Lib.hid t0; have HT1 := Lib.hid t1
        clear hown hg6 hal9 hx hmx hnx h9 htl t0 t1
        go_wp2_with fail
        refine (HRK.out _ HRR.out).mono ?_
        rintro e w4 ⟨rfl, hb4⟩
        have hb49 := HAL9.out.trans (hb4.mono (by simp))
        have ho4 := own_below HOW.out hb49
        have d0 : w4.cell? ⟨g, j * 2, none⟩ = some (.int .i64 kd) := (ho4.cellAt (j * 2) (by omega)).trans HT0.out
        have d1 : w4.cell? ⟨g, j * 2 + 1, none⟩ = some (.string ⟨cl.toArray⟩) := (ho4.cellAt (j * 2 + 1) (by omega)).trans HT1.out
        have f0 := ho4.frozenAt (j * 2)
        have f1 := ho4.frozenAt (j * 2 + 1)
        obtain ⟨ho5, hg5⟩ := ho4.stored (j * 2) (.int .i64 k9)
        obtain ⟨ho6, hg65⟩ := ho5.stored (j * 2 + 1) (.string ⟨c9.toArray⟩)
        rw [show ((TL (mixT l p j)).set (j * 2) (.int .i64 k9)).set (j * 2 + 1) (.string ⟨c9.toArray⟩) = TL (mixT l p (j + 1)) from HTL.out] at ho6
        have hq6 := but_ne hg65 (but_ne hg5 ((hb49.block _ (blk_lt HG6.out)).trans HG6.out) (by omega)) (by omega)
        have HO6 := Lib.hid ho6; have HQ6 := Lib.hid hq6
        have HB6 := Lib.hid (((HBW.out.trans (hb49.mono HBW.out.size)).setCell (p := ⟨g, j * 2, none⟩) hgb (.int .i64 k9)).setCell (p := ⟨g, j * 2 + 1, none⟩) hgb (.string ⟨c9.toArray⟩))
        clear hb4 hb49 ho4 ho5 ho6 hg5 hg65 hq6 c0 c1
        go_wp2
        go_roundw
        case rel => exact ⟨j + 1, by go_num, by omega, HO6.out, HQ6.out, HB6.out⟩
        case measure => simp [intOf]; omega
      · have hltI : ¬ (j : Int) < (n : Int) := by omega
        obtain rfl : j = n := by omega
        have ho := HOW.out
        rw [HN.out, mix_all, ← HN.out] at ho
        obtain ⟨A', c', e1, _, _, hrd⟩ := own_rd ho
        cases e1
        have HRD2 := Lib.hid hrd
        have c0 : wr.cell? ⟨w1.heap.size, 0, none⟩ = some (.int .i64 k) := cell_of_row _ _ _ _ _ _ hg6
        have c1 : wr.cell? ⟨w1.heap.size, 1, none⟩ = some (.string ⟨c.toArray⟩) := cell_of_row _ _ _ _ _ _ hg6
        have HRK := Lib.hid (HRN.out k c)
        rw [← HK.out] at HRK
        unfold RenW at HRK
        dsimp only at HRK
        have HRR := Lib.hid (HR.out.below hbw); have HVR := Lib.hid (HV.out.below hbw)
        clear hown hg6 ho hrd hbw
        go_wp2_with fail
        refine (HRK.out _ HRR.out).mono ?_
        rintro e w4 ⟨rfl, hb4⟩
        have HRD4 := Lib.hid (HRD2.out.below hb4); have HV4 := Lib.hid (HVR.out.below hb4)
        have HB4 := Lib.hid (HBW.out.trans (hb4.mono HBW.out.size))
        clear hb4
        go_wp2_with fail
        refine (HDS.out A cc _ HRD4.out HV4.out).mono ?_
        rintro e w5 ⟨rfl, hb5⟩
        have HB5 := Lib.hid (HB4.out.trans (hb5.mono HB4.out.size))
        clear hb5
        go_wp2
        go_ret
        rw [HRD.out]
        exact ⟨rfl, HB5.out⟩
  · rw [if_neg he] at HRD
    have heI : ((er : Int) != 0) = true := by simp; omega
    clear hS hrD hsm hr hz hm hv hs hx hL he h8 hl
    go_enter Tryd.func29, Tryd.ntmps29
    go_wp2_with fail
    refine HS.out.mono ?_
    rintro e w1 ⟨⟨A, cc, rfl, hown⟩, hb1⟩
    have HB := Lib.hid (hb1.alloc hb1.size (.cells #[.int .i64 k, .string ⟨c.toArray⟩] 24))
    clear hown hb1
    go_wp2
    go_ret
    rw [HRD.out]
    exact ⟨rfl, HB.out⟩
end Go.Proofs.YtchhibicbgimcaaDoor.kind

/-
 Layer 14: a place at which no row begins is reached from the one ahead of it alone: the walk.
-/
import Derived.Test.YtnmnnokdoiagkaaDoorFlowH
namespace Go.Proofs.YtnmnnokdoiagkaaDoor.flow
open Go.RowKit Go.Shelf
open words kindp opp op prg flowp kind

theorem sel_pre (p : Nat → Bool) (k : Nat) : ∀ n, k ≤ n → ∃ r, selL n p = selL k p ++ r := by
 intro n
 induction n with
 | zero => intro h; obtain rfl : k = 0 := by omega
           exact ⟨[], (List.append_nil _).symm⟩
 | succ n ih =>
  intro h
  by_cases he : k = n + 1
  ·subst he; exact ⟨[], (List.append_nil _).symm⟩
  ·obtain ⟨r, hr⟩ := ih (by omega)
   rw [selL_succ, hr, List.append_assoc]
   exact ⟨_, rfl⟩
theorem sel_at {p : Nat → Bool} {k n : Nat} (hk : k < n) (hp : p k = true) : (selL n p)[(selL k p).length]? = some (k : Int) := by
 obtain ⟨r, hr⟩ := sel_pre p (k + 1) n hk
 rw [hr, selL_succ, hp, if_pos rfl, List.append_assoc, List.getElem?_append_right (Nat.le_refl _), Nat.sub_self]
 rfl
theorem sel_ne {p : Nat → Bool} {k n t : Nat} {v : Int} (hp : p k = false) (hv : (selL n p)[t]? = some v) : v ≠ (k : Int) := by
 rintro rfl
 obtain ⟨j, -, h1, h2⟩ := selL_mem.1 (List.mem_of_getElem? hv)
 obtain rfl : k = j := by omega
 rw [hp] at h1; cases h1
theorem sel_step {p : Nat → Bool} {k : Nat} : (selL (k + 1) p).length = (selL k p).length + (if p k = true then 1 else 0) := by
 rw [selL_succ, List.length_append]
 split <;> rfl
theorem no_begin {l : List In} {k : Nat} (hk : k < l.length) (hp : beginB l k = false) : comeL l (k : Int) = [(k : Int) - 1] ∧ nextL l ((k : Int) - 1) = [(k : Int)] := by
 unfold beginB at hp
 rw [decide_eq_false_iff_not] at hp
 obtain ⟨j, rfl⟩ : ∃ j, k = j + 1 := ⟨k - 1, by omega⟩
 have e : ((j + 1 : Nat) : Int) - 1 = (j : Int) := by omega
 rw [e]
 have hx : l[j]? = some (l[j]'(by omega)) := List.getElem?_eq_getElem _
 generalize l[j]'(by omega) = x at hx
 have hj : ¬ ((targetL x).2 = true) ∧ fallsB x.o = true := by
  refine ⟨fun h => hp (.inr ⟨j, List.mem_range.2 (by omega), x, hx, .inr ⟨rfl, .inl h⟩⟩), ?_⟩
  cases hf : fallsB x.o with
  | true => rfl
  | false => exact absurd (.inr ⟨j, List.mem_range.2 (by omega), x, hx, .inr ⟨rfl, .inr hf⟩⟩) hp
 have ho : onL l (j : Int) = [((j + 1 : Nat) : Int)] := by
  rw [onL_at hx]
  unfold ow
  rw [if_pos ⟨hj.2, hk⟩, if_neg (fun h => hj.1 h.1)]
  rfl
 refine ⟨inc_ext (selL_inc _ _) (by simp [Inc]) fun t => ?_, ?_⟩
 ·refine selL_mem.trans ?_
  rw [List.mem_singleton]
  refine ⟨?_, fun h => ⟨j, by omega, by rw [ho]; simp, h⟩⟩
  rintro ⟨i, hi, hc, rfl⟩
  rw [List.contains_iff_mem] at hc
  have hy : l[i]? = some (l[i]'hi) := List.getElem?_eq_getElem _
  generalize l[i]'hi = y at hy
  rw [onL_at hy] at hc
  unfold ow at hc
  rw [List.mem_append] at hc
  rcases hc with hc | hc
  ·split at hc
   ·simp at hc; omega
   ·cases hc
  ·split at hc
   ·rename_i h2
    exact absurd (.inr ⟨i, List.mem_range.2 hi, y, hy, .inl ⟨h2.1, (List.mem_singleton.1 hc).symm⟩⟩) hp
   ·cases hc
 ·unfold nextL
  rw [ho]
  exact ordL_of (by simp [Inc]) fun _ => Iff.rfl
end Go.Proofs.YtnmnnokdoiagkaaDoor.flow
namespace Go.Proofs.YtnmnnokdoiagkaaDoor.flowRows
open Go.RowKit Go.Shelf
open words kindp opp op prg flowp kind flow

set_option maxRecDepth 100000 in
set_option maxHeartbeats 8000000 in
theorem walk (A : Option Addr) (c : Nat) (L0 : List InM) (w : World) (hz : L0.length ≤ 281474976710656) (hc : L0.length ≤ c) (hr : Rd w A (L0.flatMap inC)) (hs : Sh w) (hm : Mx w) :
  Calls Tryd.prog 6 #[.slice A L0.length c] w fun e w' => e = .returned (.bool true) ∧ Below w.heap.size w w' := by
 have HFW := Lib.hid (few_w A c L0 w hz hc hr)
 obtain ⟨L, hL⟩ : ∃ L, L = L0.take 40 := ⟨_, rfl⟩
 have hl40 : L.length ≤ 40 := by rw [hL, List.length_take]; omega
 rw [← hL] at HFW
 obtain ⟨n, hn⟩ : ∃ n, n = L.length := ⟨_, rfl⟩
 have HN := Lib.hid hn
 rw [← hn] at HFW hl40
 have hnI : (n : Int) ≤ 40 := by omega
 have HS := Lib.hid hs; have HM := Lib.hid hm
 have HLV := Lib.hid (fun w hs hm => live14 w hs hm)
 clear hz hc hr hs hm hL hn
 go_enter Tryd.func6, Tryd.ntmps6
 go_wp2_with fail
 refine HFW.out.mono ?_
 rintro e w1 ⟨A', rfl, hr, hw1⟩; subst w1
 have HR := Lib.hid hr
 have hBL := blocks_w A' c L w (by rw [← HN.out]; omega) hr HS.out
 obtain ⟨p, hp⟩ : ∃ p, p = beginB (L.map (·.i)) := ⟨_, rfl⟩
 unfold BlP at hBL
 rw [blocks_eq, List.length_map, ← HN.out, ← hp] at hBL
 have HBL := Lib.hid hBL
 have HNX := Lib.hid (fun z w h1 h2 => next_w A' c L z w (by rw [← HN.out]; omega) h1 h2)
 have HBK := Lib.hid (fun z w h1 h2 => back_w A' c L z w (by rw [← HN.out]; omega) h1 h2)
 rw [← HN.out] at HNX HBK
 have HNB := Lib.hid (fun k (hk : k < n) (h : p k = false) => no_begin (l := L.map (·.i)) (k := k) (by rw [List.length_map, ← HN.out]; exact hk) (by rw [← hp]; exact h))
 have hln := selL_len n p
 have hat : ∀ k, k < n → p k = true → (selL n p)[(selL k p).length]? = some (k : Int) := fun k h1 h2 => sel_at h1 h2
 have hne : ∀ k t v, p k = false → (selL n p)[t]? = some v → v ≠ (k : Int) := fun k t v h1 h2 => sel_ne h1 h2
 have HAT := Lib.hid hat; have HNE := Lib.hid hne
 obtain ⟨S, hS⟩ : ∃ S, S = selL n p := ⟨_, rfl⟩
 have HSS := Lib.hid hS
 rw [← hS] at HBL HAT HNE hln
 clear hr hBL HFW hp hS hat hne
 go_wp2_with fail
 refine HBL.out.mono ?_
 rintro e w2 ⟨A2, c2, rfl, hr2, hb2⟩
 have HB2 := Lib.hid hb2; have HR2 := Lib.hid hr2
 clear hb2 hr2 HBL
 go_wp2
 go_loopw [4, 5] (fun a i wr => ∃ k : Nat, k ≤ n ∧ i = .int .i64 (k : Int) ∧ a = .int .i64 ((selL k p).length : Int) ∧ Below w2.heap.size w2 wr) (fun _ i _ => n - (intOf i).toNat)
 case atStart => exact ⟨0, Nat.zero_le _, rfl, rfl, Below.refl _ _⟩
 case round =>
  obtain ⟨k, hk, rfl, rfl, hb⟩ := hrel
  have HB := Lib.hid hb
  have HBB := Lib.hid (HB2.out.trans (hb.mono HB2.out.size))
  by_cases hlt : k < n
  case neg =>
   obtain rfl : k = n := by omega
   have hltI : ¬ (k : Int) < (k : Int) := by omega
   have hSe : (selL k p).length = S.length := by rw [HSS.out]
   have HL1 := Lib.hid (HLV.out wr (HS.out.below HBB.out) (HM.out.below HBB.out))
   rw [hSe]
   clear hb hSe
   go_wp2_with fail
   refine HL1.out.mono ?_
   rintro e w3 ⟨rfl, hb3⟩
   have HB3 := Lib.hid hb3
   clear hb3
   go_wp2
   go_ret
   exact ⟨rfl, then_ HBB.out (Nat.le_refl _) HB3.out⟩
  case pos =>
   have hltI : (k : Int) < (n : Int) := by omega
   have hstep := sel_step (p := p) (k := k)
   obtain ⟨t, ht⟩ : ∃ t, t = (selL k p).length := ⟨_, rfl⟩
   have hat := HAT.out k hlt
   rw [← ht] at hstep hat ⊢
   cases hpk : p k with
   | true =>
    have hv := hat hpk
    have htS : t < S.length := (List.getElem?_eq_some_iff.1 hv).1
    have htI : (t : Int) < (S.length : Int) := by omega
    obtain ⟨a, rfl, -, cx⟩ := (HR2.out.below hb).at_ (IL_at hv)
    rw [hpk, if_pos rfl] at hstep
    have HST := Lib.hid hstep
    clear hb hat hpk hv ht hstep
    go_wp2
    go_roundw
    case rel => exact ⟨k + 1, by omega, by go_num, by rw [HST.out]; go_num, HB.out⟩
    case measure => simp [intOf]; omega
   | false =>
    rw [hpk, if_neg Bool.false_ne_true, Nat.add_zero] at hstep
    have HST := Lib.hid hstep
    obtain ⟨e1, e2⟩ := HNB.out k hlt hpk
    have h1 := HBK.out (k : Int) wr (HR.out.below HBB.out) (HS.out.below HBB.out)
    rw [e1] at h1
    have H1 := Lib.hid h1
    have h2 := fun w a b => HNX.out ((k : Int) - 1) w a b
    rw [e2] at h2
    have H2 := Lib.hid h2
    have HI := Lib.hid (fun A C c d z w h1 h2 => ints_same A C 1 c d [z] w h1 h2 rfl (by decide))
    by_cases htS : t < S.length
    ·have htI : (t : Int) < (S.length : Int) := by omega
     have hv : S[t]? = some (S[t]'htS) := List.getElem?_eq_getElem _
     generalize S[t]'htS = v at hv
     have hvk : (v == (k : Int)) = false := beq_eq_false_iff_ne.2 (HNE.out k t v hpk hv)
     obtain ⟨a, rfl, -, cx⟩ := (HR2.out.below hb).at_ (IL_at hv)
     clear hb hat hpk hv ht hstep e1 e2 h1 h2
     go_wp2_with fail
     refine H1.out.mono ?_
     rintro e w5 ⟨A5, c5, rfl, r5, b5⟩
     have HB5 := Lib.hid b5; have HR5 := Lib.hid r5
     clear b5 r5
     go_wp2_with fail
     refine (HI.out _ _ _ _ _ _ (HR5.out.below ((Below.refl _ _).alloc (Nat.le_refl _) _)) (rd_blk (k := 1) (heap_alloc_new _ _) rfl)).mono ?_
     rintro e w6 ⟨rfl, q6, hq6⟩
     have HB6 := Lib.hid (show Below wr.heap.size wr w6 from by rw [hq6]; exact over (HB5.out.alloc HB5.out.size _))
     have HW6 := Lib.hid (HBB.out.trans (HB6.out.mono HBB.out.size))
     clear hq6 HR5 H1
     go_wp2_with fail
     refine (H2.out _ (HR.out.below HW6.out) (HS.out.below HW6.out)).mono ?_
     rintro e w7 ⟨A7, c7, rfl, r7, b7⟩
     have HB7 := Lib.hid (HB6.out.trans (b7.mono HB6.out.size)); have HR7 := Lib.hid r7
     clear b7 r7 H2
     go_wp2_with fail
     refine (HI.out _ _ _ _ _ _ (HR7.out.below ((Below.refl _ _).alloc (Nat.le_refl _) _)) (rd_blk (k := 1) (heap_alloc_new _ _) rfl)).mono ?_
     rintro e w8 ⟨rfl, q8, hq8⟩
     have HB8 := Lib.hid (show Below wr.heap.size wr w8 from by rw [hq8]; exact over (HB7.out.alloc HB7.out.size _))
     clear hq8 HR7
     go_wp2
     go_roundw
     case rel => exact ⟨k + 1, by omega, by go_num, by rw [HST.out]; rfl, HB.out.trans (HB8.out.mono HB.out.size)⟩
     case measure => simp [intOf]; omega
    ·have htI : ¬ (t : Int) < (S.length : Int) := by omega
     clear hb hat hpk ht hstep e1 e2 h1 h2
     go_wp2_with fail
     refine H1.out.mono ?_
     rintro e w5 ⟨A5, c5, rfl, r5, b5⟩
     have HB5 := Lib.hid b5; have HR5 := Lib.hid r5
     clear b5 r5
     go_wp2_with fail
     refine (HI.out _ _ _ _ _ _ (HR5.out.below ((Below.refl _ _).alloc (Nat.le_refl _) _)) (rd_blk (k := 1) (heap_alloc_new _ _) rfl)).mono ?_
     rintro e w6 ⟨rfl, q6, hq6⟩
     have HB6 := Lib.hid (show Below wr.heap.size wr w6 from by rw [hq6]; exact over (HB5.out.alloc HB5.out.size _))
     have HW6 := Lib.hid (HBB.out.trans (HB6.out.mono HBB.out.size))
     clear hq6 HR5 H1
     go_wp2_with fail
     refine (H2.out _ (HR.out.below HW6.out) (HS.out.below HW6.out)).mono ?_
     rintro e w7 ⟨A7, c7, rfl, r7, b7⟩
     have HB7 := Lib.hid (HB6.out.trans (b7.mono HB6.out.size)); have HR7 := Lib.hid r7
     clear b7 r7 H2
     go_wp2_with fail
     refine (HI.out _ _ _ _ _ _ (HR7.out.below ((Below.refl _ _).alloc (Nat.le_refl _) _)) (rd_blk (k := 1) (heap_alloc_new _ _) rfl)).mono ?_
     rintro e w8 ⟨rfl, q8, hq8⟩
     have HB8 := Lib.hid (show Below wr.heap.size wr w8 from by rw [hq8]; exact over (HB7.out.alloc HB7.out.size _))
     clear hq8 HR7
     go_wp2
     go_roundw
     case rel => exact ⟨k + 1, by omega, by go_num, by rw [HST.out]; rfl, HB.out.trans (HB8.out.mono HB.out.size)⟩
     case measure => simp [intOf]; omega
end Go.Proofs.YtnmnnokdoiagkaaDoor.flowRows

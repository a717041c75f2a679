/-
  Layer 5: what must be whatever is asked; and a part of a list.
-/
import Derived.Test.YtchhibicbgimcaaPoolW
namespace Go.Proofs.Ytchhibicbgimcaa.pool
open Go.RowKit Go.Maps
open Go.Proofs.Ytchhibicbgimcaa.num Go.Proofs.Ytchhibicbgimcaa.words Go.Proofs.Ytchhibicbgimcaa.poolp Go.Proofs.Ytchhibicbgimcaa.give Go.Proofs.Ytchhibicbgimcaa.write

theorem SL_S (l : List Str) : SL l = texts.S (l.map fun x => ⟨x.toArray⟩) := by simp [SL, texts.S, Function.comp_def]
theorem S_SL (xs : List ByteArray) : texts.S xs = SL (xs.map (·.data.toList)) := by simp [SL, texts.S, Function.comp_def]
theorem same_w (A C : Option Addr) (n c d : Nat) (l : List Str) (w : World) (h1 : Rd w A (SL l)) (h2 : Rd w C (SL l)) (hl : l.length = n) (hn : n ≤ 281474976710656) :
    Calls Try.prog 13 #[.slice A n c, .slice C n d] w fun e w' => e = .returned (.bool true) ∧ ∃ q, w' = w.drewN q :=
  texts.texts_same A C n c d (l.map fun x => ⟨x.toArray⟩) w (SL_S l ▸ h1) (SL_S l ▸ h2) (by rw [List.length_map]; exact hl) hn
def bab : List Str := [[98], [97], [98]]
def ab : List Str := [[97], [98]]
theorem ab_right : rightB ab = true := by decide +kernel
theorem ba_wrong : rightB [[98], [97]] = false := by decide +kernel
theorem bab_ok : bad bab = false := by decide +kernel
theorem bab_make : makeL bab = ab := up_ext (make_pool bab).1 (right_pool ab_right).1 fun y => by
  rw [mem_make bab_ok]; simp [bab, ab]
  exact Or.inr
theorem ab_find : findI ab [98] = 1 := find_at ab_right (k := 1) rfl
theorem ab_miss : findI ab [99] = -1 := find_no fun h => by have := h.2; simp [ab] at this
theorem ab_bytes : (putB ab).length = 5 := by
  unfold putB
  rw [if_pos ab_right]
  show (putL 2 ++ (putL 1 ++ [97] ++ (putL 1 ++ [98] ++ []))).length = 5
  rw [show putL 2 = [2] by unfold putL; rfl, show putL 1 = [1] by unfold putL; rfl]
  rfl
theorem ab_e : putE ab = 0 := by unfold putE; rw [if_pos ab_right]
theorem ba_e : putE [[98], [97]] = 5 := by unfold putE; rw [if_neg (by rw [ba_wrong]; simp)]

set_option maxRecDepth 100000 in
set_option maxHeartbeats 2000000 in
theorem live_any (w : World) : Calls Try.prog 5 #[] w fun e w' => e = .returned (.bool true) ∧ Below w.heap.size w w' := by
  have HM := Lib.hid (fun A c w hr => make_w A c bab w hr (by decide) (by decide))
  unfold Made at HM
  rw [if_neg (by rw [bab_ok]; simp), bab_make] at HM
  have HP1 := Lib.hid (fun A c w hr => pput_w A c [[98], [97]] w hr (by decide) (by decide))
  have HP2 := Lib.hid (fun A c w hr => pput_w A c ab w hr (by decide) (by decide))
  unfold Putted at HP1 HP2
  rw [ba_e] at HP1
  rw [ab_e, ab_bytes] at HP2
  have HR := Lib.hid (fun A c w hr => right_w A c ab w hr (by decide) (by decide))
  rw [ab_right] at HR
  have HF1 := Lib.hid (fun A c w hr => find_w A c ab [98] w hr (by decide) (by decide))
  rw [ab_find] at HF1
  have HF2 := Lib.hid (fun A c w hr => find_w A c ab [99] w hr (by decide) (by decide))
  rw [ab_miss] at HF2
  have HS := Lib.hid (fun A C c d w h1 h2 => same_w A C 2 c d ab w h1 h2 rfl (by decide))
  have hbl : bab.length = 3 := rfl
  have hal : ab.length = 2 := rfl
  have hbal : ([[98], [97]] : List Str).length = 2 := rfl
  rw [hbl] at HM
  rw [hal] at HM HP2 HR HF1 HF2
  rw [hbal] at HP1
  clear hbl hal hbal
  go_enter Try.func5, Try.ntmps5
  go_wp2_with fail
  have r1 := Lib.hid (rd_blk (xs := SL bab) (heap_alloc_new w (.cells #[.string ⟨#[98]⟩, .string ⟨#[97]⟩, .string ⟨#[98]⟩] 9)) (k := 3) rfl)
  refine (HM.out _ 3 _ r1.out).mono ?_
  rintro e w1 ⟨⟨A, c, rfl, _, hrA⟩, hb1⟩
  have HB1 := Lib.hid (((Below.refl w.heap.size w).alloc (Nat.le_refl _) _).trans (hb1.mono (by simp)))
  have HA1 := Lib.hid hrA
  have HB2 := Lib.hid (HB1.out.alloc HB1.out.size (.cells #[.string ⟨#[98]⟩, .string ⟨#[97]⟩] 9))
  have r2 := Lib.hid (rd_blk (xs := SL [[98], [97]]) (heap_alloc_new w1 (.cells #[.string ⟨#[98]⟩, .string ⟨#[97]⟩] 9)) (k := 2) rfl)
  have kb := (Below.refl w1.heap.size w1).alloc (Nat.le_refl _) (.cells #[.string ⟨#[98]⟩, .string ⟨#[97]⟩] 9)
  have HA2 := Lib.hid (HA1.out.below kb)
  clear hb1 hrA kb HM r1
  go_wp2_with fail
  refine (HP1.out _ 2 _ r2.out).mono ?_
  rintro e w2 ⟨⟨v, rfl, _⟩, hb2⟩
  have HB3 := Lib.hid (then' HB2.out hb2)
  have HA3 := Lib.hid (HA2.out.below hb2)
  clear hb2 HP1 r2
  go_wp2_with fail
  refine (HP2.out A c _ HA3.out).mono ?_
  rintro e w3 ⟨⟨v3, rfl, hown3⟩, hb3⟩
  obtain ⟨A3, c3, rfl, _, _, _⟩ := own_rd hown3
  have HB4 := Lib.hid (then' HB3.out hb3)
  have HA4 := Lib.hid (HA3.out.below hb3)
  have kb := (Below.refl w3.heap.size w3).alloc (Nat.le_refl _) (.cells #[.string ⟨#[97]⟩, .string ⟨#[98]⟩] 9)
  have HA5 := Lib.hid (HA4.out.below kb)
  have HB5 := Lib.hid (HB4.out.alloc HB4.out.size (.cells #[.string ⟨#[97]⟩, .string ⟨#[98]⟩] 9))
  have r5 := Lib.hid (rd_blk (xs := SL ab) (heap_alloc_new w3 (.cells #[.string ⟨#[97]⟩, .string ⟨#[98]⟩] 9)) (k := 2) rfl)
  clear hb3 HP2 hown3 kb
  go_wp2_with fail
  refine (HS.out A _ c 2 _ HA5.out r5.out).mono ?_
  rintro e w5 ⟨rfl, q5, rfl⟩
  clear HS
  go_wp2_with fail
  refine (HR.out A c _ (HA5.out.drewN _)).mono ?_
  rintro e w6 ⟨rfl, q6, rfl⟩
  clear HR
  go_wp2_with fail
  refine (HF1.out A c _ (HA5.out.drewN _)).mono ?_
  rintro e w7 ⟨rfl, q7, rfl⟩
  clear HF1
  go_wp2_with fail
  refine (HF2.out A c _ (HA5.out.drewN _)).mono ?_
  rintro e w8 ⟨rfl, q8, rfl⟩
  clear HF2
  go_wp2
  go_ret
  exact ⟨rfl, over HB5.out⟩

/-- the first of a list -/
def fewL (l : List Str) : List Str := l.take 1100
set_option maxRecDepth 100000 in
theorem few_w (A : Option Addr) (c : Nat) (l : List Str) (w : World) (hr : Rd w A (SL l)) (hc : l.length ≤ c) (hl : l.length ≤ 140737488355328) :
    Calls Try.prog 4 #[.slice A l.length c] w fun e w' => (∃ A', e = .returned (.slice A' (fewL l).length c) ∧ Rd w A' (SL (fewL l))) ∧ w' = w := by
  by_cases h : 1100 < l.length
  · have hI : (1100 : Int) < (l.length : Int) := by omega
    have hlen : (fewL l).length = 1100 := by unfold fewL; rw [List.length_take]; omega
    have HR := Lib.hid (show Rd w A (SL (fewL l)) by have := hr.take 1100; unfold SL at this; rw [← List.map_take] at this; exact this)
    have hcI : (1100 : Int) ≤ (c : Int) := by omega
    rw [hlen]
    clear hr hc hlen h
    go_enter Try.func4, Try.ntmps4
    go_wp2
    go_ret
    exact ⟨⟨A, rfl, HR.out⟩, rfl⟩
  · have hI : ¬ (1100 : Int) < (l.length : Int) := by omega
    have hlen : fewL l = l := by unfold fewL; exact List.take_of_length_le (by omega)
    have HR := Lib.hid hr
    rw [hlen]
    clear hr hc hlen h
    go_enter Try.func4, Try.ntmps4
    go_wp2
    go_ret
    exact ⟨⟨A, rfl, HR.out⟩, rfl⟩
end Go.Proofs.Ytchhibicbgimcaa.pool

/- Ref -/
import Derived.Test.YtdifmgeicnndfaaKindN
import Derived.Test.YtdifmgeicnndfaaWordM
import Derived.Deep.QuietTactic
import Derived.BigQuiet
namespace Go.Proofs.Ytdifmgeicnndfaa.kind
open Go.RowKit
open words kindp word
set_option maxRecDepth 100000
set_option maxHeartbeats 4000000
theorem cls_rr (c : Tx) (w : World) (hc : c.length ≤ 281474976710656) :
  Calls Try.prog 120 #[.string ⟨c.toArray⟩] w fun e w' => e = .returned (.bool (clsB c)) ∧ w' = w := by
 have h := class_r ⟨c.toArray⟩ w (by rw [mk_len]; exact hc)
 rw [cls_eq] at h
 exact h
theorem right_r (k : Int) (c : Tx) (w : World) (hc : c.length ≤ 281474976710656) :
  Calls Try.prog 122 #[.agg #[.int .i64 k, .string ⟨c.toArray⟩]] w fun e w' => e = .returned (.bool (rightT (k, c))) ∧ Below w.heap.size w w' := by
 have HC := zh (fun w => cls_rr c w hc)
 have HAL := zh ((Below.refl w.heap.size w).alloc (Nat.le_refl _) (.cells #[.int .i64 k, .string ⟨c.toArray⟩] 63))
 rcases kinds k with rfl | rfl | rfl | rfl | rfl | ⟨e1, e2, e3, e4, e5, -, e6⟩
 ·by_cases h0 : c = []
  ·subst h0
   rw [show rightT (1, []) = true from rfl]
   go_enter Try.func122, Try.ntmps122
   go_wp2
   go_ret
   exact ⟨rfl, HAL.out⟩
  ·rw [show rightT (1, c) = false by rw [right_no (by rfl)]; simp [h0]]
   have hie : List.isEmpty c = false := by
    cases c with
    | nil => exact absurd rfl h0
    | cons => rfl
   go_enter Try.func122, Try.ntmps122
   go_wp2
   go_ret
   exact ⟨rfl, HAL.out⟩
 ·by_cases h0 : c = []
  ·subst h0
   rw [show rightT (2, []) = true from rfl]
   go_enter Try.func122, Try.ntmps122
   go_wp2
   go_ret
   exact ⟨rfl, HAL.out⟩
  ·rw [show rightT (2, c) = false by rw [right_no (by rfl)]; simp [h0]]
   have hie : List.isEmpty c = false := by
    cases c with
    | nil => exact absurd rfl h0
    | cons => rfl
   go_enter Try.func122, Try.ntmps122
   go_wp2
   go_ret
   exact ⟨rfl, HAL.out⟩
 ·rw [show rightT (3, c) = clsB c from right_has rfl]
  clear hc
  go_enter Try.func122, Try.ntmps122
  go_wp2_with fail
  refine (HC.out _).mono ?_
  rintro e w1 ⟨rfl, rfl⟩
  go_wp2
  go_ret
  exact ⟨rfl, HAL.out⟩
 ·by_cases h0 : c = []
  ·subst h0
   rw [show rightT (4, []) = true from rfl]
   go_enter Try.func122, Try.ntmps122
   go_wp2
   go_ret
   exact ⟨rfl, HAL.out⟩
  ·rw [show rightT (4, c) = false by rw [right_no (by rfl)]; simp [h0]]
   have hie : List.isEmpty c = false := by
    cases c with
    | nil => exact absurd rfl h0
    | cons => rfl
   go_enter Try.func122, Try.ntmps122
   go_wp2
   go_ret
   exact ⟨rfl, HAL.out⟩
 ·rw [show rightT (5, c) = clsB c from right_has rfl]
  clear hc
  go_enter Try.func122, Try.ntmps122
  go_wp2_with fail
  refine (HC.out _).mono ?_
  rintro e w1 ⟨rfl, rfl⟩
  go_wp2
  go_ret
  exact ⟨rfl, HAL.out⟩
 ·have n1 : ¬ k = 1 := by simpa using e1
  have n2 : ¬ k = 2 := by simpa using e2
  have n4 : ¬ k = 4 := by simpa using e4
  rw [show rightT (k, c) = false by rw [right_no e6]; simp [n1, n2, n4]]
  clear hc n1 n2 n4 e6
  go_enter Try.func122, Try.ntmps122
  go_wp2
  go_ret
  exact ⟨rfl, HAL.out⟩
end Go.Proofs.Ytdifmgeicnndfaa.kind
namespace Go.Proofs.Ytdifmgeicnndfaa.kind
open Go.RowKit
open words kindp word rdr
set_option maxRecDepth 100000
set_option maxHeartbeats 4000000
theorem next_some_w {s : ByteArray} {at_ : Nat} {t : Ty} {r : Tx} (w : World) (hs : s.size ≤ 281474976710656) (hat : at_ ≤ s.size) (h : typeT (s.data.toList.drop at_) = some (t, r)) :
  ∃ to : Nat, to ≤ s.size ∧ at_ < to ∧ r = s.data.toList.drop to ∧ Calls Try.prog 165 #[.string s, .int .i64 (at_ : Int)] w fun e w' => e = .returned (.tuple #[.agg #[.int .i64 t.1, .string ⟨t.2.toArray⟩], .int .i64 (to : Int), .bool true]) ∧ Below w.heap.size w w' := by
 have hr := (type_less h)
 refine ⟨s.size - r.length, by omega, ?_, ?_, (next_r s at_ w hs hat).mono ?_⟩
 ·rw [List.length_drop, size_data] at hr; omega
 ·obtain ⟨_, e⟩ := type_of h
  have e2 : s.data.toList = s.data.toList.take at_ ++ (textT t ++ r) := by rw [← e, List.take_append_drop]
  have hl : s.size = at_ + ((textT t).length + r.length) := by
   have := congrArg List.length e2
   rw [List.length_append, List.length_append, List.length_take, size_data] at this; omega
  conv => rhs; rw [e2]
  rw [← List.append_assoc, List.drop_append, List.drop_of_length_le (by rw [List.length_append, List.length_take, size_data]; omega), List.nil_append, List.length_append, List.length_take, size_data, show s.size - r.length - (min at_ s.size + (textT t).length) = 0 by omega, List.drop_zero]
 ·intro e w' hh
  unfold Next at hh
  rw [h] at hh
  obtain ⟨⟨to, h1, h2, h3, h4⟩, hb⟩ := hh
  have hto : to = s.size - r.length := by rw [h3, List.length_drop, size_data] ; rw [size_data] at h1; omega
  exact ⟨by rw [h4, hto]; rfl, hb⟩
theorem next_none_w {s : ByteArray} {at_ : Nat} (w : World) (hs : s.size ≤ 281474976710656) (hat : at_ ≤ s.size) (h : typeT (s.data.toList.drop at_) = none) :
  Calls Try.prog 165 #[.string s, .int .i64 (at_ : Int)] w fun e w' => (∃ (k : Int) (c : Tx) (m : Nat), e = .returned (.tuple #[.agg #[.int .i64 k, .string ⟨c.toArray⟩], .int .i64 (m : Int), .bool false])) ∧ Below w.heap.size w w' := by
 refine (next_r s at_ w hs hat).mono ?_
 intro e w' hh
 unfold Next at hh
 rw [h] at hh
 obtain ⟨⟨t, m, h4⟩, hb⟩ := hh
 exact ⟨⟨t.1, t.2, m, h4⟩, hb⟩
theorem parse_r (s : ByteArray) (w : World) (hs : s.size ≤ 281474976710656) :
  Calls Try.prog 166 #[.string s] w fun e w' => e = .returned (parseV s.data.toList) ∧ Below w.heap.size w w' := by
 have hal : Below w.heap.size w (w.alloc (.cells #[.int .i64 0, .string ⟨#[]⟩] 63)) := (Below.refl _ _).alloc (Nat.le_refl _) _
 have HAL := zh hal
 have HNW := zh (heap_alloc_new w (.cells #[.int .i64 0, .string ⟨#[]⟩] 63))
 have hsI : (s.size : Int) ≤ 281474976710656 := by omega
 have ec : ((0 : Nat) : Int) = 0 := rfl
 cases h : typeT (s.data.toList.drop 0) with
 | none =>
  have hk := (fun w => next_none_w w hs (Nat.zero_le _) h)
  rw [ec] at hk
  have HK := zh hk
  have HP := zh (show parseV s.data.toList = .tuple #[.agg #[.int .i64 0, .string ⟨#[]⟩], .int .i64 1] by rw [List.drop_zero] at h; unfold parseV parseT allT; rw [h]; rfl)
  clear hk h hs hal ec
  go_enter Try.func166, Try.ntmps166
  go_wp2_with fail
  refine (HK.out _).mono ?_
  rintro e w1 ⟨⟨k, c, m, rfl⟩, hb1⟩
  have hce := (hb1.block _ (by simp)).trans HNW.out
  have hlt := blk_lt hce
  obtain ⟨z0, z1⟩ := two_alloc hce (.int .i64 0) (.string ⟨#[]⟩) (.cells #[.int .i64 k, .string ⟨c.toArray⟩] 63)
  have c0 : w1.cell? ⟨w.heap.size, 0, none⟩ = some (.int .i64 0) := cell_of_row _ _ _ _ _ _ hce
  have c1 : w1.cell? ⟨w.heap.size, 1, none⟩ = some (.string ⟨#[]⟩) := cell_of_row _ _ _ _ _ _ hce
  have f0 := frozen_of_row w1 _ 0 _ _ hce
  have f1 := frozen_of_row w1 _ 1 _ _ hce
  have HB := zh (HAL.out.trans (hb1.mono (by simp)))
  clear hb1 hce
  go_wp2
  exact bodyPost_ret (v := .tuple #[.agg #[.int .i64 0, .string ⟨#[]⟩], .int .i64 1]) (by simp [results, Try.results166, go_sem, z0, z1]) rfl ⟨by rw [HP.out], ((HB.out.setCell (by simp) _).setCell (by simp) _).alloc (by simp; omega) _⟩
 | some tr =>
  obtain ⟨⟨k, c⟩, r⟩ := tr
  have hk := (fun w => next_some_w w hs (Nat.zero_le _) h)
  obtain ⟨to, h1, h2, h3, -⟩ := hk w
  have hk2 : ∀ w, Calls Try.prog 165 #[.string s, .int .i64 0] w fun e w' => e = .returned (.tuple #[.agg #[.int .i64 k, .string ⟨c.toArray⟩], .int .i64 (to : Int), .bool true]) ∧ Below w.heap.size w w' := by
   intro w
   obtain ⟨to', h1', h2', h3', hc⟩ := hk w
   have : to' = to := by
    have e := congrArg List.length (h3.symm.trans h3')
    rw [List.length_drop, List.length_drop, size_data] at e; omega
   rw [this, ec] at hc; exact hc
  have HK := zh hk2
  have hrl : r.length = s.size - to := by rw [h3, List.length_drop, size_data]
  rw [List.drop_zero] at h
  cases r with
  | nil =>
   have hto : ((to : Int) != (s.size : Int)) = false := by simp at hrl ⊢; omega
   have HP := zh (show parseV s.data.toList = .tuple #[.agg #[.int .i64 k, .string ⟨c.toArray⟩], .int .i64 0] by unfold parseV parseT allT; rw [h]; rfl)
   clear hk hk2 h h1 h2 h3 hs hal ec hrl
   go_enter Try.func166, Try.ntmps166
   go_wp2_with fail
   refine (HK.out _).mono ?_
   rintro e w1 ⟨rfl, hb1⟩
   have hce := (hb1.block _ (by simp)).trans HNW.out
   have hlt := blk_lt hce
   obtain ⟨z0, z1⟩ := two_alloc hce (.int .i64 k) (.string ⟨c.toArray⟩) (.cells #[.int .i64 k, .string ⟨c.toArray⟩] 63)
   have c0 : w1.cell? ⟨w.heap.size, 0, none⟩ = some (.int .i64 0) := cell_of_row _ _ _ _ _ _ hce
   have c1 : w1.cell? ⟨w.heap.size, 1, none⟩ = some (.string ⟨#[]⟩) := cell_of_row _ _ _ _ _ _ hce
   have f0 := frozen_of_row w1 _ 0 _ _ hce
   have f1 := frozen_of_row w1 _ 1 _ _ hce
   have HB := zh (HAL.out.trans (hb1.mono (by simp)))
   clear hb1 hce
   go_wp2
   exact bodyPost_ret (v := .tuple #[.agg #[.int .i64 k, .string ⟨c.toArray⟩], .int .i64 0]) (by simp [results, Try.results166, go_sem, z0, z1]) rfl ⟨by rw [HP.out], ((HB.out.setCell (by simp) _).setCell (by simp) _).alloc (by simp; omega) _⟩
  | cons x r =>
   have hto : ((to : Int) != (s.size : Int)) = true := by simp at hrl ⊢; omega
   have HP := zh (show parseV s.data.toList = .tuple #[.agg #[.int .i64 0, .string ⟨#[]⟩], .int .i64 1] by unfold parseV parseT allT; rw [h]; rfl)
   clear hk hk2 h h1 h2 h3 hs hal ec hrl
   go_enter Try.func166, Try.ntmps166
   go_wp2_with fail
   refine (HK.out _).mono ?_
   rintro e w1 ⟨rfl, hb1⟩
   have hce := (hb1.block _ (by simp)).trans HNW.out
   have hlt := blk_lt hce
   obtain ⟨z0, z1⟩ := two_alloc hce (.int .i64 0) (.string ⟨#[]⟩) (.cells #[.int .i64 k, .string ⟨c.toArray⟩] 63)
   have c0 : w1.cell? ⟨w.heap.size, 0, none⟩ = some (.int .i64 0) := cell_of_row _ _ _ _ _ _ hce
   have c1 : w1.cell? ⟨w.heap.size, 1, none⟩ = some (.string ⟨#[]⟩) := cell_of_row _ _ _ _ _ _ hce
   have f0 := frozen_of_row w1 _ 0 _ _ hce
   have f1 := frozen_of_row w1 _ 1 _ _ hce
   have HB := zh (HAL.out.trans (hb1.mono (by simp)))
   clear hb1 hce
   go_wp2
   exact bodyPost_ret (v := .tuple #[.agg #[.int .i64 0, .string ⟨#[]⟩], .int .i64 1]) (by simp [results, Try.results166, go_sem, z0, z1]) rfl ⟨by rw [HP.out], ((HB.out.setCell (by simp) _).setCell (by simp) _).alloc (by simp; omega) _⟩
end Go.Proofs.Ytdifmgeicnndfaa.kind
namespace Go.Proofs.Ytdifmgeicnndfaa.kind
open Go.RowKit
open words kindp word rdr
set_option maxRecDepth 100000
set_option maxHeartbeats 4000000
end Go.Proofs.Ytdifmgeicnndfaa.kind
namespace Go.Proofs.Ytdifmgeicnndfaa.kind
open Go.RowKit
open words kindp word rdr
set_option maxRecDepth 100000
set_option maxHeartbeats 4000000
end Go.Proofs.Ytdifmgeicnndfaa.kind
namespace Go.Proofs.Ytdifmgeicnndfaa.kind
open Go.RowKit
open words kindp word rdr piece
set_option maxRecDepth 100000
set_option maxHeartbeats 4000000
theorem next_all {s : ByteArray} {at_ : Nat} {t : Ty} {r : Tx} (hs : s.size ≤ 281474976710656) (hat : at_ ≤ s.size) (h : typeT (s.data.toList.drop at_) = some (t, r)) :
  ∃ to : Nat, to ≤ s.size ∧ at_ < to ∧ r = s.data.toList.drop to ∧ ∀ w, Calls Try.prog 165 #[.string s, .int .i64 (at_ : Int)] w fun e w' => e = .returned (.tuple #[.agg #[.int .i64 t.1, .string ⟨t.2.toArray⟩], .int .i64 (to : Int), .bool true]) ∧ Below w.heap.size w w' := by
 have hr := type_less h
 rw [List.length_drop, size_data] at hr
 refine ⟨s.size - r.length, by omega, by omega, ?_, fun w => ?_⟩
 ·obtain ⟨to, h1, h2, h3, -⟩ := next_some_w (default : World) hs hat h
  rw [h3, List.length_drop, size_data, show s.size - (s.size - to) = to by omega]
 ·obtain ⟨to, h1, h2, h3, hc⟩ := next_some_w w hs hat h
  have : s.size - r.length = to := by rw [h3, List.length_drop, size_data]; omega
  rw [this]; exact hc
theorem ext_drop (s : ByteArray) (k : Nat) : (s.extract k s.size).data.toList = s.data.toList.drop k := by
 rw [ext_data, List.take_of_length_le (by rw [List.length_drop, size_data]; exact Nat.le_refl _)]
theorem sig_end {acc : List Ty} : sigT (([] : Tx).length + 1) acc [] = none := rfl
theorem split_one {d : Tx} (h : ¬ 64 < d.length) (hg : sigD d = none) : splitT d = ([], (0, []), 1) := by unfold splitT; rw [if_neg h, hg]
theorem split_some {d : Tx} {p : List Ty} {t : Ty} (h : ¬ 64 < d.length) (hg : sigD d = some (p, t)) : splitT d = if 8 < p.length then ([], (0, []), 3) else (p, t, 0) := by unfold splitT; rw [if_neg h, hg]
def SigR (G : Option (List Ty × Ty)) (L : Tx) (at_ : Nat) (acc : List Ty) : Prop := sigT ((L.drop at_).length + 1) acc (L.drop at_) = G ∧ at_ ≤ L.length ∧ acc.length ≤ at_
theorem split_r (s : ByteArray) (w : World) (hs : s.size ≤ 140737488355328) :
  Calls Try.prog 143 #[.string s] w (SplitW s.data.toList w) := by
 have hal : Below w.heap.size w (w.alloc (.cells #[.int .i64 0, .string ⟨#[]⟩] 63)) := (Below.refl _ _).alloc (Nat.le_refl _) _
 have HAL := zh hal
 have HNW := zh (heap_alloc_new w (.cells #[.int .i64 0, .string ⟨#[]⟩] 63))
 have hsI : (s.size : Int) ≤ 140737488355328 := by omega
 have hlen := size_data s
 obtain ⟨L, hL⟩ : ∃ L, L = s.data.toList := ⟨_, rfl⟩
 rw [← hL] at hlen ⊢
 by_cases h64 : 64 < s.size
 ·have h64I : (64 : Int) < (s.size : Int) := by omega
  have HS := zh (show splitT L = ([], (0, []), 3) by unfold splitT; rw [if_pos (by omega)])
  clear hal hs h64 hlen hL
  go_enter Try.func143, Try.ntmps143
  go_wp2
  exact bodyPost_ret (v := .tuple #[.slice none 0 0, .agg #[.int .i64 0, .string ⟨#[]⟩], .int .i64 3]) (by simp [results, Try.results143, go_sem]) rfl (splitW_of HS.out none 0 rfl (World.ownsRow_nil _ _ _ _) HAL.out)
 have h64I : ¬ (64 : Int) < (s.size : Int) := by omega
 have h64L : ¬ 64 < L.length := by omega
 by_cases h0 : s.size = 0
 ·have h0I : ((s.size : Int) == 0) = true := by rw [beq_iff_eq]; omega
  have HS := zh (split_one h64L (show sigD L = none by
   have : L = [] := List.eq_nil_of_length_eq_zero (by omega)
   rw [this]; rfl))
  clear hal hs h64 hlen hL h64L h0
  go_enter Try.func143, Try.ntmps143
  go_wp2
  exact bodyPost_ret (v := .tuple #[.slice none 0 0, .agg #[.int .i64 0, .string ⟨#[]⟩], .int .i64 1]) (by simp [results, Try.results143, go_sem]) rfl (splitW_of HS.out none 0 rfl (World.ownsRow_nil _ _ _ _) HAL.out)
 have h0I : ((s.size : Int) == 0) = false := by rw [beq_eq_false_iff_ne]; omega
 have hp0 : 0 < s.size := by omega
 have hpI : (0 : Int) < (s.size : Int) := by omega
 have hd0 := drop_data hp0
 rw [← hL, List.drop_zero] at hd0
 by_cases h40 : (s[0]'hp0).toNat = 40
 ·have hb40 : (((s[0]'hp0).toNat : Int) != 40) = false := by rw [h40]; rfl
  have hG : SigR (sigD L) L 1 [] := by
   refine ⟨?_, by omega, Nat.zero_le _⟩
   unfold sigD
   rw [hd0, byte_nat h40]
   rw [if_pos (show ((UInt8.ofNat 40) :: List.drop (0 + 1) L).head? = some 40 from rfl), List.tail_cons]
   show sigT ((List.drop (0 + 1) L).length + 1) [] (List.drop (0 + 1) L) = _
   exact sig_fuel _ _ _ _ (by omega) (by simp; omega)
  have HSO := zh (fun (h : sigD L = none) => split_one h64L h)
  have HSS := zh (fun (p : List Ty) (t : Ty) (h : sigD L = some (p, t)) => split_some h64L h)
  obtain ⟨G, hGG⟩ : ∃ G, G = sigD L := ⟨_, rfl⟩
  rw [← hGG] at hG HSO HSS
  have HG := zh hG; have HLN := zh hlen; have HL := zh hL
  obtain ⟨i0, hi0, hz0, hz1, hz2⟩ := info_parts infoT
  have hszn : s.size ≤ 64 := by omega
  clear hG hGG hd0 h40 h0 h64 h64L hal hlen hL hs
  go_enter Try.func143, Try.ntmps143
  go_wp2
  go_loopw [5, 6] (fun v i wr => ∃ (j : Nat) (acc : List Ty), i = .int .i64 (j : Int) ∧ SigR G L j acc ∧ wr.heap[w.heap.size]? = some (.cells #[.int .i64 0, .string ⟨#[]⟩] 63 (0, 0)) ∧ wr.ownsRow (w.heap.size + 1) 63 2 v acc.length (TL acc) ∧ Below w.heap.size w wr) (fun _ i _ => s.size - (intOf i).toNat)
  case atStart => exact ⟨1, [], rfl, HG.out, HNW.out, World.ownsRow_nil _ _ _ _, HAL.out⟩
  case round =>
   obtain ⟨j, acc, rfl, hsig, hg3, hown, hbw⟩ := hrel
   obtain ⟨A, cc, rfl, _, _, _⟩ := own_rd hown
   have HG3 := zh hg3; have HO := zh hown; have HB := zh hbw
   obtain ⟨hsg, hjl, hacc⟩ := hsig
   rw [HLN.out] at hjl
   have hl3 := blk_lt hg3
   have hsz := hbw.size
   clear hown hbw
   by_cases hlt : j < s.size
   ·have hltI : (j : Int) < (s.size : Int) := by omega
    have hltJ : ¬ (s.size : Int) ≤ (j : Int) := by omega
    have hdj := drop_data hlt
    rw [← HL.out] at hdj
    by_cases h41 : (s[j]'hlt).toNat = 41
    ·have hb41 : (((s[j]'hlt).toNat : Int) != 41) = false := by rw [h41]; rfl
     rw [hdj, byte_nat h41] at hsg
     rw [show (UInt8.ofNat 41) = 41 from rfl, sig_done] at hsg
     have hP := (fun w => parse_r (s.extract (j + 1) s.size) w (by rw [← size_data, ext_drop, List.length_drop, size_data]; omega))
     rw [ext_drop, ← HL.out] at hP
     unfold parseV twoV tyV parseT at hP
     cases hall : allT (L.drop (j + 1)) with
     | none =>
      rw [hall] at hP hsg
      dsimp only at hP
      have HP := zh hP
      have HS := zh (HSO.out hsg.symm)
      clear hP hall hsg hdj h41 hg3
      go_wp2_with fail
      refine (HP.out _).mono ?_
      rintro e w1 ⟨rfl, hb1⟩
      have hg3 := (hb1.block _ hl3).trans HG3.out
      have HB1 := zh (HB.out.trans (hb1.mono hsz))
      have HG4 := zh hg3
      have c0 : w1.cell? ⟨w.heap.size, 0, none⟩ = some (.int .i64 0) := cell_of_row _ _ _ _ _ _ hg3
      have c1 : w1.cell? ⟨w.heap.size, 1, none⟩ = some (.string ⟨#[]⟩) := cell_of_row _ _ _ _ _ _ hg3
      have f0 := frozen_of_row w1 _ 0 _ _ hg3
      have f1 := frozen_of_row w1 _ 1 _ _ hg3
      have hlt1 := blk_lt hg3
      obtain ⟨z0, z1⟩ := two_alloc hg3 (.int .i64 0) (.string ⟨#[]⟩) (.cells #[.int .i64 0, .string ⟨#[]⟩] 63)
      clear hb1 hg3
      go_wp2
      exact bodyPost_ret (v := .tuple #[.slice none 0 0, .agg #[.int .i64 0, .string ⟨#[]⟩], .int .i64 1]) (by simp [results, Try.results143, go_sem, z0, z1]) rfl (splitW_of HS.out none 0 rfl (World.ownsRow_nil _ _ _ _) (((HB1.out.setCell (by simp) _).setCell (by simp) _).alloc (by simp; omega) _))
     | some t =>
      obtain ⟨k, c⟩ := t
      rw [hall] at hP hsg
      dsimp only at hP
      have HP := zh hP
      by_cases h8 : 8 < acc.length
      ·have h8I : (8 : Int) < (acc.length : Int) := by omega
       have hsp := HSS.out _ _ hsg.symm
       rw [if_pos h8] at hsp
       have HS := zh hsp
       clear hP hall hsg hdj h41 hg3 hsp h8
       go_wp2_with fail
       refine (HP.out _).mono ?_
       rintro e w1 ⟨rfl, hb1⟩
       have hg3 := (hb1.block _ hl3).trans HG3.out
       have HB1 := zh (HB.out.trans (hb1.mono hsz))
       have c0 : w1.cell? ⟨w.heap.size, 0, none⟩ = some (.int .i64 0) := cell_of_row _ _ _ _ _ _ hg3
       have c1 : w1.cell? ⟨w.heap.size, 1, none⟩ = some (.string ⟨#[]⟩) := cell_of_row _ _ _ _ _ _ hg3
       have f0 := frozen_of_row w1 _ 0 _ _ hg3
       have f1 := frozen_of_row w1 _ 1 _ _ hg3
       have hlt1 := blk_lt hg3
       obtain ⟨z0, z1⟩ := two_alloc hg3 (.int .i64 0) (.string ⟨#[]⟩) (.cells #[.int .i64 k, .string ⟨c.toArray⟩] 63)
       clear hb1 hg3
       go_wp2
       exact bodyPost_ret (v := .tuple #[.slice none 0 0, .agg #[.int .i64 0, .string ⟨#[]⟩], .int .i64 3]) (by simp [results, Try.results143, go_sem, z0, z1]) rfl (splitW_of HS.out none 0 rfl (World.ownsRow_nil _ _ _ _) (((HB1.out.setCell (by simp) _).setCell (by simp) _).alloc (by simp; omega) _))
      ·have h8I : ¬ (8 : Int) < (acc.length : Int) := by omega
       have hsp := HSS.out _ _ hsg.symm
       rw [if_neg h8] at hsp
       have HS := zh hsp
       clear hP hall hsg hdj h41 hg3 hsp h8
       go_wp2_with fail
       refine (HP.out _).mono ?_
       rintro e w1 ⟨rfl, hb1⟩
       have HO1 := zh (own_below HO.out hb1)
       have HCE := zh ((hb1.block _ hl3).trans HG3.out)
       have hlt := blk_lt HCE.out
       have HB1 := zh (HB.out.trans (hb1.mono hsz))
       clear hb1
       go_wp2
       have hce := HCE.out
       have hW := zh ((Below.refl w1.heap.size w1).alloc (Nat.le_refl _) (.cells #[.int .i64 k, .string ⟨c.toArray⟩] 63))
       have hn5 := heap_alloc_new w1 (.cells #[.int .i64 k, .string ⟨c.toArray⟩] 63)
       have hce := (hW.out.block _ hlt).trans HCE.out
       have HOW := zh (own_below HO1.out hW.out)
       have HBW := zh (HB1.out.trans (hW.out.mono HB1.out.size))
       generalize hgW : w1.alloc (.cells #[.int .i64 k, .string ⟨c.toArray⟩] 63) = W at *
       have d0 : W.cell? ⟨w1.heap.size, 0, none⟩ = some (.int .i64 k) := cell_of_row _ _ _ _ _ _ hn5
       have d1 : W.cell? ⟨w1.heap.size, 1, none⟩ = some (.string ⟨c.toArray⟩) := cell_of_row _ _ _ _ _ _ hn5
       have c0 : W.cell? ⟨w.heap.size, 0, none⟩ = some (.int .i64 0) := cell_of_row _ _ _ _ _ _ hce
       have c1 : W.cell? ⟨w.heap.size, 1, none⟩ = some (.string ⟨#[]⟩) := cell_of_row _ _ _ _ _ _ hce
       have f0 := frozen_of_row W _ 0 _ _ hce
       have f1 := frozen_of_row W _ 1 _ _ hce
       have hne : ¬ w1.heap.size = w.heap.size := by omega
       have hne' : ¬ w.heap.size = w1.heap.size := by omega
       obtain ⟨z0, z1, -⟩ := two_set hce (.int .i64 k) (.string ⟨c.toArray⟩)
       have HZ0 := zh z0; have HZ1 := zh z1
       clear hgW hn5 hce hlt hW z0 z1
       generalize w1.heap.size = g at *
       have HO3 := zh (own_base (own_but HOW.out (b := w.heap.size) (by omega) (((But.refl w.heap.size W).set 0 (.int .i64 k)).set 1 (.string ⟨c.toArray⟩))) (base' := w.heap.size) (by omega))
       have HB3 := zh ((HBW.out.setCell (p := ⟨w.heap.size, 0, none⟩) (by simp) (.int .i64 k)).setCell (p := ⟨w.heap.size, 1, none⟩) (by simp) (.string ⟨c.toArray⟩))
       go_region
       have z0 := HZ0.out; have z1 := HZ1.out
       go_wp2
       exact bodyPost_ret (v := .tuple #[.slice A acc.length cc, .agg #[.int .i64 k, .string ⟨c.toArray⟩], .int .i64 0]) (by simp [results, Try.results143, go_sem, z0, z1]) rfl (splitW_of HS.out A cc rfl HO3.out (over (q := 1) HB3.out))
    ·have hb41 : (((s[j]'hlt).toNat : Int) != 41) = true := by rw [bne_iff_ne]; omega
     have hnd : (L.drop j).head? ≠ some 41 := by
      rw [hdj]; intro e; simp at e; rw [e] at h41; exact h41 rfl
     cases htt : typeT (L.drop j) with
     | none =>
      rw [sig_none hnd htt] at hsg
      have HS := zh (HSO.out hsg.symm)
      have HK := zh (fun w => next_none_w (s := s) (at_ := j) w (by omega) (by omega) (by rw [← HL.out]; exact htt))
      clear hsg hdj h41 hg3 hnd htt
      go_wp2_with fail
      refine (HK.out _).mono ?_
      rintro e w1 ⟨⟨k, c, m, rfl⟩, hb1⟩
      have hg3 := (hb1.block _ hl3).trans HG3.out
      have HB1 := zh (HB.out.trans (hb1.mono hsz))
      have c0 : w1.cell? ⟨w.heap.size, 0, none⟩ = some (.int .i64 0) := cell_of_row _ _ _ _ _ _ hg3
      have c1 : w1.cell? ⟨w.heap.size, 1, none⟩ = some (.string ⟨#[]⟩) := cell_of_row _ _ _ _ _ _ hg3
      have f0 := frozen_of_row w1 _ 0 _ _ hg3
      have f1 := frozen_of_row w1 _ 1 _ _ hg3
      have hlt1 := blk_lt hg3
      obtain ⟨z0, z1⟩ := two_alloc hg3 (.int .i64 0) (.string ⟨#[]⟩) (.cells #[.int .i64 k, .string ⟨c.toArray⟩] 63)
      clear hb1 hg3
      go_wp2
      exact bodyPost_ret (v := .tuple #[.slice none 0 0, .agg #[.int .i64 0, .string ⟨#[]⟩], .int .i64 1]) (by simp [results, Try.results143, go_sem, z0, z1]) rfl (splitW_of HS.out none 0 rfl (World.ownsRow_nil _ _ _ _) (((HB1.out.setCell (by simp) _).setCell (by simp) _).alloc (by simp; omega) _))
     | some tr =>
      obtain ⟨⟨k, c⟩, r⟩ := tr
      obtain ⟨to, hto1, hto2, rfl, hK⟩ := next_all (s := s) (at_ := j) (by omega) (by omega) (by rw [← HL.out]; exact htt)
      have HK := zh hK
      by_cases hvd : ((k, c) : Ty) = (1, [])
      ·cases hvd
       rw [sig_void hnd htt] at hsg
       have HS := zh (HSO.out hsg.symm)
       clear hsg hdj h41 hg3 hnd htt hK
       go_wp2_with fail
       refine (HK.out _).mono ?_
       rintro e w1 ⟨rfl, hb1⟩
       dsimp only
       have hg3 := (hb1.block _ hl3).trans HG3.out
       have HB1 := zh (HB.out.trans (hb1.mono hsz))
       have c0 : w1.cell? ⟨w.heap.size, 0, none⟩ = some (.int .i64 0) := cell_of_row _ _ _ _ _ _ hg3
       have c1 : w1.cell? ⟨w.heap.size, 1, none⟩ = some (.string ⟨#[]⟩) := cell_of_row _ _ _ _ _ _ hg3
       have f0 := frozen_of_row w1 _ 0 _ _ hg3
       have f1 := frozen_of_row w1 _ 1 _ _ hg3
       have hlt1 := blk_lt hg3
       obtain ⟨z0, z1⟩ := two_alloc hg3 (.int .i64 0) (.string ⟨#[]⟩) (.cells #[.int .i64 1, .string ⟨#[]⟩] 63)
       clear hb1 hg3
       go_wp2
       exact bodyPost_ret (v := .tuple #[.slice none 0 0, .agg #[.int .i64 0, .string ⟨#[]⟩], .int .i64 1]) (by simp [results, Try.results143, go_sem, z0, z1]) rfl (splitW_of HS.out none 0 rfl (World.ownsRow_nil _ _ _ _) (((HB1.out.setCell (by simp) _).setCell (by simp) _).alloc (by simp; omega) _))
      ·rw [sig_next hnd htt hvd] at hsg
       have hk1 : (k == 1) = false := by
        rw [beq_eq_false_iff_ne]
        intro hk
        have hrt := (type_of htt).1
        rw [hk, right_no rfl] at hrt
        exact hvd (by rw [hk, (of_decide_eq_true hrt).2])
       have HNX := zh (show SigR G L to (acc ++ [(k, c)]) from ⟨by rw [HL.out]; exact hsg, by rw [HLN.out]; exact hto1, by rw [List.length_append]; show acc.length + 1 ≤ to; omega⟩)
       clear hsg hdj h41 hg3 hnd htt hK hvd
       go_wp2_with fail
       refine (HK.out _).mono ?_
       rintro e w1 ⟨rfl, hb1⟩
       dsimp only
       have HG1 := zh ((hb1.block _ hl3).trans HG3.out)
       have hlt1 := blk_lt HG1.out
       have HB1 := zh (HB.out.trans (hb1.mono hsz))
       have HO1 := zh (own_below HO.out hb1)
       clear hb1
       have HN2 := two_new w1 (.cells #[.int .i64 k, .string ⟨c.toArray⟩] 63) (.cells #[.int .i64 k, .string ⟨c.toArray⟩] 63)
       have HRD := zh (rd_blk HN2.2 (show (#[(.int .i64 k : Value), .string ⟨c.toArray⟩] : Array Value).toList.take 2 = [.int .i64 k, .string ⟨c.toArray⟩] from rfl))
       have hb2 := ((Below.refl w1.heap.size w1).alloc (Nat.le_refl _) (.cells #[.int .i64 k, .string ⟨c.toArray⟩] 63)).alloc (by simp) (.cells #[.int .i64 k, .string ⟨c.toArray⟩] 63)
       have HO4 := zh (own_below HO1.out hb2)
       have HG2 := zh ((hb2.block _ hlt1).trans HG1.out)
       have HB2 := zh (HB1.out.trans (hb2.mono HB1.out.size))
       have hacc2 : acc.length ≤ 64 := by omega
       clear hb2 HN2
       go_wp2_with (at_builtin; refine wpList_app _ rfl (.tmp 50) (.tmp 52) _ rfl (w.heap.size + 1) 63 i0 _ 2 24 Try.underlying201 hi0 hz0 hz1 hz2 rfl (by omega) _ acc.length (TL acc) rfl HO4.out _ 1 1 [.int .i64 k, .string ⟨c.toArray⟩] rfl rfl HRD.out (by simp [Value.oneCell']) (by simp only [maxLen]; omega) (by omega) (by simp; omega) ?_; intro v7 w7 hown7 hg7 hb7 hat7; clear hat7; obtain ⟨A7, cc7, rfl, _, _, _⟩ := own_rd hown7)
       have hown8 : w7.ownsRow (w.heap.size + 1) 63 2 (.slice A7 (acc.length + 1) cc7) (acc ++ [((k, c) : Ty)]).length (TL (acc ++ [(k, c)])) := by rw [List.length_append, TL_app]; exact hown7
       have hq7 := (hb7.block w.heap.size (by omega)).trans HG2.out
       have HB9 := zh (HB2.out.trans (hb7.mono (by omega)))
       have HO9 := zh hown8; have HQ9 := zh hq7
       clear hown7 hg7 hb7 hown8 hq7
       go_roundw
       case rel => exact ⟨to, acc ++ [((k, c) : Ty)], rfl, HNX.out, HQ9.out, HO9.out, HB9.out⟩
       case measure => simp only [intOf]; omega
   ·have hltI : ¬ (j : Int) < (s.size : Int) := by omega
    have hltJ : (s.size : Int) ≤ (j : Int) := by omega
    rw [List.drop_of_length_le (by rw [HLN.out]; omega), sig_end] at hsg
    have HS := zh (HSO.out hsg.symm)
    have c0 : wr.cell? ⟨w.heap.size, 0, none⟩ = some (.int .i64 0) := cell_of_row _ _ _ _ _ _ hg3
    have c1 : wr.cell? ⟨w.heap.size, 1, none⟩ = some (.string ⟨#[]⟩) := cell_of_row _ _ _ _ _ _ hg3
    have f0 := frozen_of_row wr _ 0 _ _ hg3
    have f1 := frozen_of_row wr _ 1 _ _ hg3
    obtain ⟨z0, z1, -⟩ := two_set hg3 (.int .i64 0) (.string ⟨#[]⟩)
    clear hsg hg3
    go_wp2
    exact bodyPost_ret (v := .tuple #[.slice none 0 0, .agg #[.int .i64 0, .string ⟨#[]⟩], .int .i64 1]) (by simp [results, Try.results143, go_sem, z0, z1]) rfl (splitW_of HS.out none 0 rfl (World.ownsRow_nil _ _ _ _) ((HB.out.setCell (by simp) _).setCell (by simp) _))
 ·have hb40 : (((s[0]'hp0).toNat : Int) != 40) = true := by simp; omega
  have HS := zh (split_one h64L (show sigD L = none by
   unfold sigD; rw [hd0, if_neg (by intro e; simp at e; rw [e] at h40; exact h40 rfl)]))
  clear hal hs h64 hlen hL h64L h0 hd0 h40
  go_enter Try.func143, Try.ntmps143
  go_wp2
  exact bodyPost_ret (v := .tuple #[.slice none 0 0, .agg #[.int .i64 0, .string ⟨#[]⟩], .int .i64 1]) (by simp [results, Try.results143, go_sem]) rfl (splitW_of HS.out none 0 rfl (World.ownsRow_nil _ _ _ _) HAL.out)
end Go.Proofs.Ytdifmgeicnndfaa.kind
namespace Go.Proofs.Ytdifmgeicnndfaa.kind
open Go.RowKit
open words kindp word rdr piece
set_option maxRecDepth 100000
set_option maxHeartbeats 4000000
end Go.Proofs.Ytdifmgeicnndfaa.kind

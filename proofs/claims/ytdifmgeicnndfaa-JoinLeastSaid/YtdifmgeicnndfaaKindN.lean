/- KindN -/
import Derived.Test.YtdifmgeicnndfaaWordM
namespace Go.Proofs.Ytdifmgeicnndfaa.kind
open Go.RowKit
open words kindp word piece write
set_option maxRecDepth 100000
set_option maxHeartbeats 4000000
theorem data_mk (s : ByteArray) : (⟨s.data.toList.toArray⟩ : ByteArray) = s := by simp
theorem cls_data (s : ByteArray) : namedB classB s = clsB s.data.toList := by rw [← cls_eq, data_mk]
theorem size_data (s : ByteArray) : s.data.toList.length = s.size := by rw [Array.length_toList]; rfl
theorem at_data {s : ByteArray} {k : Nat} (h : k < s.size) : s.data.toList[k]? = some (s[k]'h) := by
 rw [List.getElem?_eq_getElem (by rw [size_data]; exact h)]; rfl
theorem drop_data {s : ByteArray} {k : Nat} (h : k < s.size) : s.data.toList.drop k = (s[k]'h) :: s.data.toList.drop (k + 1) := by
 have := at_data h
 rw [List.getElem?_eq_some_iff] at this
 obtain ⟨h1, h2⟩ := this
 rw [List.drop_eq_getElem_cons h1, h2]
theorem byte_nat {a : UInt8} {n : Nat} (h : a.toNat = n) : a = UInt8.ofNat n := by
 rw [← h]; simp
theorem ext_mk (s : ByteArray) (a b : Nat) : s.extract a b = ⟨((s.data.toList.drop a).take (b - a)).toArray⟩ := by
 rw [← ext_data, data_mk]
def Next (L : Tx) (at_ : Nat) (w : World) (e : Ending) (w' : World) : Prop :=
 (match typeT (L.drop at_) with
  | some (t, r) => ∃ to : Nat, to ≤ L.length ∧ at_ < to ∧ r = L.drop to ∧ e = .returned (.tuple #[tyV t, .int .i64 (to : Int), .bool true])
  | none => ∃ (t : Ty) (m : Nat), e = .returned (.tuple #[tyV t, .int .i64 (m : Int), .bool false])) ∧ Below w.heap.size w w'
theorem next_some {L r : Tx} {t : Ty} {at_ to : Nat} {w w' : World} {e : Ending} (h : typeT (L.drop at_) = some (t, r)) (h1 : to ≤ L.length) (h2 : at_ < to) (h3 : r = L.drop to) (he : e = .returned (.tuple #[tyV t, .int .i64 (to : Int), .bool true])) (hb : Below w.heap.size w w') : Next L at_ w e w' := by
 unfold Next; rw [h]; exact ⟨⟨to, h1, h2, h3, he⟩, hb⟩
theorem next_none {L : Tx} (t : Ty) {at_ : Nat} (m : Nat) {w w' : World} {e : Ending} (h : typeT (L.drop at_) = none) (he : e = .returned (.tuple #[tyV t, .int .i64 (m : Int), .bool false])) (hb : Below w.heap.size w w') : Next L at_ w e w' := by
 unfold Next; rw [h]; exact ⟨⟨t, m, he⟩, hb⟩
theorem next_end (s : ByteArray) (at_ : Nat) (w : World) (_hs : s.size ≤ 281474976710656) (hat : at_ = s.size) :
  Calls Try.prog 165 #[.string s, .int .i64 (at_ : Int)] w (Next s.data.toList at_ w) := by
 have HT := zh (show typeT (s.data.toList.drop at_) = none by rw [hat, ← size_data, List.drop_length]; rfl)
 have hI : ¬ (at_ : Int) < (s.size : Int) := by omega
 have hI2 : (s.size : Int) ≤ (at_ : Int) := by omega
 clear hat
 go_enter Try.func165, Try.ntmps165
 go_wp2
 exact bodyPost_ret (v := .tuple #[.agg #[.int .i64 0, .string ⟨#[]⟩], .int .i64 0, .bool false]) (by simp [results, Try.results165, go_sem]) rfl (next_none (0, []) 0 HT.out rfl (by repeat (first | exact Below.refl _ _ | refine Below.setCell ?_ (by simp) _ | refine Below.alloc ?_ (by simp) _)))
theorem next_one (s : ByteArray) (at_ : Nat) (w : World) (hs : s.size ≤ 281474976710656) (hat : at_ < s.size) (h91 : (s[at_]'hat).toNat ≠ 91) (h76 : (s[at_]'hat).toNat ≠ 76) :
  Calls Try.prog 165 #[.string s, .int .i64 (at_ : Int)] w (Next s.data.toList at_ w) := by
 have hI : (at_ : Int) < (s.size : Int) := by omega
 have hI2 : ¬ (s.size : Int) ≤ (at_ : Int) := by omega
 have hsI : (s.size : Int) ≤ 281474976710656 := by omega
 have b91 : (((s[at_]'hat).toNat : Int) == 91) = false := by simp; omega
 have b76 : (((s[at_]'hat).toNat : Int) == 76) = false := by simp; omega
 have hdr := drop_data hat
 have hlen := size_data s
 by_cases h86 : (s[at_]'hat).toNat = 86
 ·have b86 : (((s[at_]'hat).toNat : Int) == 86) = true := by rw [h86]; rfl
  have HT := zh (show typeT (s.data.toList.drop at_) = some ((1, []), s.data.toList.drop (at_ + 1)) by rw [hdr, byte_nat h86]; rfl)
  have HL := zh hlen; have HA := zh hat
  clear h86 hdr hlen h91 h76 hs
  go_enter Try.func165, Try.ntmps165
  go_wp2
  exact bodyPost_ret (v := .tuple #[.agg #[.int .i64 1, .string ⟨#[]⟩], .int .i64 ((at_ : Int) + 1), .bool true]) (by simp [results, Try.results165, go_sem]) rfl (next_some (to := at_ + 1) HT.out (by rw [HL.out]; have := HA.out; omega) (by omega) rfl rfl (by repeat (first | exact Below.refl _ _ | refine Below.setCell ?_ (by simp) _ | refine Below.alloc ?_ (by simp) _)))
 have b86 : (((s[at_]'hat).toNat : Int) == 86) = false := by simp; omega
 by_cases h73 : (s[at_]'hat).toNat = 73
 ·have b73 : (((s[at_]'hat).toNat : Int) == 73) = true := by rw [h73]; rfl
  have HT := zh (show typeT (s.data.toList.drop at_) = some ((2, []), s.data.toList.drop (at_ + 1)) by rw [hdr, byte_nat h73]; rfl)
  have HL := zh hlen; have HA := zh hat
  clear h86 h73 hdr hlen h91 h76 hs
  go_enter Try.func165, Try.ntmps165
  go_wp2
  exact bodyPost_ret (v := .tuple #[.agg #[.int .i64 2, .string ⟨#[]⟩], .int .i64 ((at_ : Int) + 1), .bool true]) (by simp [results, Try.results165, go_sem]) rfl (next_some (to := at_ + 1) HT.out (by rw [HL.out]; have := HA.out; omega) (by omega) rfl rfl (by repeat (first | exact Below.refl _ _ | refine Below.setCell ?_ (by simp) _ | refine Below.alloc ?_ (by simp) _)))
 have b73 : (((s[at_]'hat).toNat : Int) == 73) = false := by simp; omega
 have HT := zh (show typeT (s.data.toList.drop at_) = none by
  rw [hdr]; dsimp only [typeT]
  rw [if_neg (by intro e; rw [e] at h86; exact h86 rfl), if_neg (by intro e; rw [e] at h73; exact h73 rfl), if_neg (by intro e; rw [e] at h76; exact h76 rfl), if_neg (by intro e; rw [e] at h91; exact h91 rfl)])
 clear h86 h73 hdr hlen h91 h76 hs
 go_enter Try.func165, Try.ntmps165
 go_wp2
 exact bodyPost_ret (v := .tuple #[.agg #[.int .i64 0, .string ⟨#[]⟩], .int .i64 0, .bool false]) (by simp [results, Try.results165, go_sem]) rfl (next_none (0, []) 0 HT.out rfl (by repeat (first | exact Below.refl _ _ | refine Below.setCell ?_ (by simp) _ | refine Below.alloc ?_ (by simp) _)))
theorem class_at {L : Tx} {f to : Nat} (k : Int) (h : L[to]? = some 59) (hf : f ≤ to) (hn : (59 : UInt8) ∉ (L.drop f).take (to - f)) :
  classT k (L.drop f) = if clsB ((L.drop f).take (to - f)) = true then some ((k, (L.drop f).take (to - f)), L.drop (to + 1)) else none := by
 rw [cutAt h hf]
 unfold classT
 rw [cut_hit hn]
 dsimp only
 rw [Bool.true_and]
 have e : ((L.drop f).take (to - f) ++ 59 :: L.drop (to + 1)).take (to - f) = (L.drop f).take (to - f) := by rw [← cutAt h hf]
 rw [e]
theorem class_end {L : Tx} {f : Nat} (k : Int) (hn : (59 : UInt8) ∉ (L.drop f).take (L.length - f)) : classT k (L.drop f) = none := by
 rw [List.take_of_length_le (by rw [List.length_drop]; omega)] at hn
 unfold classT
 rw [cut_miss hn]
 rfl
theorem cls_r (s : ByteArray) (a b : Nat) (w : World) (hs : s.size ≤ 281474976710656) :
  Calls Try.prog 120 #[.string (s.extract a b)] w fun e w' => e = .returned (.bool (clsB ((s.data.toList.drop a).take (b - a)))) ∧ w' = w := by
 have h : (s.extract a b).size ≤ 281474976710656 := by
  rw [← size_data, ext_data, List.length_take, List.length_drop, size_data]; omega
 have h2 := class_r (s.extract a b) w h
 rw [cls_data, ext_data] at h2
 exact h2
def Seek (L : Tx) (f to : Nat) : Prop := to ≤ L.length ∧ f ≤ to + 1 ∧ (59 : UInt8) ∉ (L.drop f).take (to - f)
theorem seek_zero {L : Tx} {to : Nat} (h : to ≤ L.length) : Seek L (to + 1) to := ⟨h, Nat.le_refl _, by rw [show to - (to + 1) = 0 by omega]; simp⟩
theorem seek_next {L : Tx} {f to : Nat} {c : UInt8} (h : Seek L f to) (hc : L[to]? = some c) (h59 : c ≠ 59) (hlt : to < L.length) : Seek L f (to + 1) := by
 obtain ⟨h1, h2, h3⟩ := h
 refine ⟨hlt, by omega, ?_⟩
 by_cases hf : f ≤ to
 ·exact notNext hc hf (fun e => h59 e.symm) h3
 ·rw [show to + 1 - f = 0 by omega]; simp
theorem next_cls (s : ByteArray) (at_ : Nat) (w : World) (hs : s.size ≤ 281474976710656) (hat : at_ < s.size) (h76 : (s[at_]'hat).toNat = 76) :
  Calls Try.prog 165 #[.string s, .int .i64 (at_ : Int)] w (Next s.data.toList at_ w) := by
 have hI : (at_ : Int) < (s.size : Int) := by omega
 have hsI : (s.size : Int) ≤ 281474976710656 := by omega
 have hI3 : ¬ (s.size : Int) ≤ (at_ : Int) := by omega
 have b91 : (((s[at_]'hat).toNat : Int) == 91) = false := by rw [h76]; rfl
 have b86 : (((s[at_]'hat).toNat : Int) == 86) = false := by rw [h76]; rfl
 have b73 : (((s[at_]'hat).toNat : Int) == 73) = false := by rw [h76]; rfl
 have b76 : (((s[at_]'hat).toNat : Int) == 76) = true := by rw [h76]; rfl
 have hty : typeT (s.data.toList.drop at_) = classT 3 (s.data.toList.drop (at_ + 1)) := by rw [drop_data hat, byte_nat h76]; rfl
 have hlen := size_data s
 obtain ⟨L, hL⟩ : ∃ L, L = s.data.toList := ⟨_, rfl⟩
 have HTY := zh hty; have HLN := zh hlen
 have HAT := zh (fun k (h : k < s.size) => at_data h)
 rw [← hL] at HTY HLN HAT
 have H76 := zh (show L[at_]? = some 76 by rw [HAT.out _ (by omega), byte_nat h76]; rfl)
 have HZ := zh (seek_zero (L := L) (to := at_) (by rw [HLN.out]; omega))
 have HCR := zh (fun a b w => cls_r s a b w hs)
 rw [← hL] at HCR
 have HL := zh hL
 rw [← hL]
 clear h76  hty hlen hs hL
 go_enter Try.func165, Try.ntmps165
 go_wp2
 go_loopw [8] (fun i wr => ∃ to : Nat, i = .int .i64 (to : Int) ∧ at_ ≤ to ∧ Seek L (at_ + 1) to ∧ wr = w.alloc (.cells #[.int .i64 0, .string ⟨#[]⟩] 63)) (fun i _ => s.size - (intOf i).toNat)
 case atStart => exact ⟨at_, by first | rfl | (congr 1), Nat.le_refl _, HZ.out, rfl⟩
 case round =>
  obtain ⟨to, rfl, hto, hsk, rfl⟩ := hrel
  have hle := hsk.1
  rw [HLN.out] at hle
  have HSK := zh hsk
  clear hsk
  by_cases hlt : to < s.size
  ·have hltI : (to : Int) < (s.size : Int) := by omega
   have hltJ : ¬ (s.size : Int) ≤ (to : Int) := by omega
   by_cases hc : (s[to]'hlt).toNat = 59
   ·have hb59 : (((s[to]'hlt).toNat : Int) != 59) = false := by rw [hc]; rfl
    have h59 : L[to]? = some 59 := by rw [HAT.out to hlt, byte_nat hc]; rfl
    have hf : at_ + 1 ≤ to := by
     rcases Nat.lt_or_ge to (at_ + 1) with h | h
     ·have : to = at_ := by omega
      rw [this, H76.out] at h59; cases h59
     ·exact h
    have hC := class_at 3 h59 hf HSK.out.2.2
    rw [← HTY.out] at hC
    have HK := (fun w => HCR.out (at_ + 1) to w)
    cases hcl : clsB ((L.drop (at_ + 1)).take (to - (at_ + 1))) with
    | false =>
     rw [hcl] at hC HK
     have HC := zh hC; have HKK := zh HK
     clear hC HK hcl h59 hc
     go_wp2_with fail
     refine (HKK.out _).mono ?_
     rintro e w1 ⟨rfl, rfl⟩
     go_wp2
     exact bodyPost_ret (v := .tuple #[.agg #[.int .i64 0, .string ⟨#[]⟩], .int .i64 0, .bool false]) (by simp [results, Try.results165, go_sem]) rfl (next_none (0, []) 0 HC.out rfl (by repeat (first | exact Below.refl _ _ | refine Below.setCell ?_ (by simp) _ | refine Below.alloc ?_ (by simp) _)))
    | true =>
     rw [hcl] at hC HK
     rw [if_pos rfl] at hC
     have HC := zh hC; have HKK := zh HK
     have HEX := zh (ext_mk s (at_ + 1) to)
     rw [← HL.out] at HEX
     clear hC HK hcl h59 hc
     go_wp2_with fail
     refine (HKK.out _).mono ?_
     rintro e w1 ⟨rfl, rfl⟩
     go_wp2
     exact bodyPost_ret (v := .tuple #[.agg #[.int .i64 3, .string (s.extract (at_ + 1) to)], .int .i64 ((to : Int) + 1), .bool true]) (by simp [results, Try.results165, go_sem]) rfl (next_some (to := to + 1) HC.out (by rw [HLN.out]; omega) (by omega) rfl (by rw [HEX.out]; rfl) (by repeat (first | exact Below.refl _ _ | refine Below.setCell ?_ (by simp) _ | refine Below.alloc ?_ (by simp) _)))
   ·have hb59 : (((s[to]'hlt).toNat : Int) != 59) = true := by simp; omega
    have HN := zh (seek_next HSK.out (HAT.out to hlt) (by intro e; rw [e] at hc; exact hc rfl) (by rw [HLN.out]; exact hlt))
    clear hc
    go_wp2
    go_roundw
    case rel => exact ⟨to + 1, by go_num, by omega, HN.out, trivial⟩
    case measure => simp [intOf]; omega
  ·have hltI : ¬ (to : Int) < (s.size : Int) := by omega
   have hltJ : (s.size : Int) ≤ (to : Int) := by omega
   obtain rfl : to = s.size := by omega
   have hE := class_end (L := L) (f := at_ + 1) 3 (by rw [HLN.out]; exact HSK.out.2.2)
   rw [← HTY.out] at hE
   have HC := zh hE
   clear hE
   go_wp2
   exact bodyPost_ret (v := .tuple #[.agg #[.int .i64 0, .string ⟨#[]⟩], .int .i64 0, .bool false]) (by simp [results, Try.results165, go_sem]) rfl (next_none (0, []) 0 HC.out rfl (by repeat (first | exact Below.refl _ _ | refine Below.setCell ?_ (by simp) _ | refine Below.alloc ?_ (by simp) _)))
theorem next_clss (s : ByteArray) (at_ : Nat) (w : World) (hs : s.size ≤ 281474976710656) (hat : at_ < s.size) (h91 : (s[at_]'hat).toNat = 91) (hat2 : at_ + 1 < s.size) (h76 : (s[at_ + 1]'hat2).toNat = 76) :
  Calls Try.prog 165 #[.string s, .int .i64 (at_ : Int)] w (Next s.data.toList at_ w) := by
 have hI : (at_ : Int) < (s.size : Int) := by omega
 have hsI : (s.size : Int) ≤ 281474976710656 := by omega
 have hI2 : (at_ : Int) + 1 < (s.size : Int) := by omega
 have hI3 : ¬ (s.size : Int) ≤ (at_ : Int) + 1 := by omega
 have b91 : (((s[at_]'hat).toNat : Int) == 91) = true := by rw [h91]; rfl
 have b86 : (((s[at_ + 1]'hat2).toNat : Int) == 86) = false := by rw [h76]; rfl
 have b73 : (((s[at_ + 1]'hat2).toNat : Int) == 73) = false := by rw [h76]; rfl
 have b76 : (((s[at_ + 1]'hat2).toNat : Int) == 76) = true := by rw [h76]; rfl
 have hty : typeT (s.data.toList.drop at_) = classT 5 (s.data.toList.drop (at_ + 2)) := by rw [drop_data hat, byte_nat h91, drop_data hat2, byte_nat h76]; rfl
 have htn : ((at_ : Int) + 1).toNat = at_ + 1 := by omega
 have hlen := size_data s
 obtain ⟨L, hL⟩ : ∃ L, L = s.data.toList := ⟨_, rfl⟩
 have HTY := zh hty; have HLN := zh hlen
 have HAT := zh (fun k (h : k < s.size) => at_data h)
 rw [← hL] at HTY HLN HAT
 have H76 := zh (show L[at_ + 1]? = some 76 by rw [HAT.out _ (by omega), byte_nat h76]; rfl)
 have HZ := zh (seek_zero (L := L) (to := at_ + 1) (by rw [HLN.out]; omega))
 have HCR := zh (fun a b w => cls_r s a b w hs)
 rw [← hL] at HCR
 have HL := zh hL
 rw [← hL]
 clear h76 h91 hty hlen hs hL
 go_enter Try.func165, Try.ntmps165
 go_wp2
 go_loopw [8] (fun i wr => ∃ to : Nat, i = .int .i64 (to : Int) ∧ at_ + 1 ≤ to ∧ Seek L (at_ + 2) to ∧ wr = w.alloc (.cells #[.int .i64 0, .string ⟨#[]⟩] 63)) (fun i _ => s.size - (intOf i).toNat)
 case atStart => exact ⟨at_ + 1, by first | rfl | (congr 1), Nat.le_refl _, HZ.out, rfl⟩
 case round =>
  obtain ⟨to, rfl, hto, hsk, rfl⟩ := hrel
  have hle := hsk.1
  rw [HLN.out] at hle
  have HSK := zh hsk
  clear hsk
  by_cases hlt : to < s.size
  ·have hltI : (to : Int) < (s.size : Int) := by omega
   have hltJ : ¬ (s.size : Int) ≤ (to : Int) := by omega
   by_cases hc : (s[to]'hlt).toNat = 59
   ·have hb59 : (((s[to]'hlt).toNat : Int) != 59) = false := by rw [hc]; rfl
    have h59 : L[to]? = some 59 := by rw [HAT.out to hlt, byte_nat hc]; rfl
    have hf : at_ + 2 ≤ to := by
     rcases Nat.lt_or_ge to (at_ + 2) with h | h
     ·have : to = at_ + 1 := by omega
      rw [this, H76.out] at h59; cases h59
     ·exact h
    have hC := class_at 5 h59 hf HSK.out.2.2
    rw [← HTY.out] at hC
    have HK := (fun w => HCR.out (at_ + 2) to w)
    cases hcl : clsB ((L.drop (at_ + 2)).take (to - (at_ + 2))) with
    | false =>
     rw [hcl] at hC HK
     have HC := zh hC; have HKK := zh HK
     clear hC HK hcl h59 hc
     go_wp2_with fail
     refine (HKK.out _).mono ?_
     rintro e w1 ⟨rfl, rfl⟩
     go_wp2
     exact bodyPost_ret (v := .tuple #[.agg #[.int .i64 0, .string ⟨#[]⟩], .int .i64 0, .bool false]) (by simp [results, Try.results165, go_sem]) rfl (next_none (0, []) 0 HC.out rfl (by repeat (first | exact Below.refl _ _ | refine Below.setCell ?_ (by simp) _ | refine Below.alloc ?_ (by simp) _)))
    | true =>
     rw [hcl] at hC HK
     rw [if_pos rfl] at hC
     have HC := zh hC; have HKK := zh HK
     have HEX := zh (ext_mk s (at_ + 2) to)
     rw [← HL.out] at HEX
     clear hC HK hcl h59 hc
     go_wp2_with fail
     refine (HKK.out _).mono ?_
     rintro e w1 ⟨rfl, rfl⟩
     go_wp2
     exact bodyPost_ret (v := .tuple #[.agg #[.int .i64 5, .string (s.extract (at_ + 2) to)], .int .i64 ((to : Int) + 1), .bool true]) (by simp [results, Try.results165, go_sem]) rfl (next_some (to := to + 1) HC.out (by rw [HLN.out]; omega) (by omega) rfl (by rw [HEX.out]; rfl) (by repeat (first | exact Below.refl _ _ | refine Below.setCell ?_ (by simp) _ | refine Below.alloc ?_ (by simp) _)))
   ·have hb59 : (((s[to]'hlt).toNat : Int) != 59) = true := by simp; omega
    have HN := zh (seek_next HSK.out (HAT.out to hlt) (by intro e; rw [e] at hc; exact hc rfl) (by rw [HLN.out]; exact hlt))
    clear hc
    go_wp2
    go_roundw
    case rel => exact ⟨to + 1, by go_num, by omega, HN.out, trivial⟩
    case measure => simp [intOf]; omega
  ·have hltI : ¬ (to : Int) < (s.size : Int) := by omega
   have hltJ : (s.size : Int) ≤ (to : Int) := by omega
   obtain rfl : to = s.size := by omega
   have hE := class_end (L := L) (f := at_ + 2) 5 (by rw [HLN.out]; exact HSK.out.2.2)
   rw [← HTY.out] at hE
   have HC := zh hE
   clear hE
   go_wp2
   exact bodyPost_ret (v := .tuple #[.agg #[.int .i64 0, .string ⟨#[]⟩], .int .i64 0, .bool false]) (by simp [results, Try.results165, go_sem]) rfl (next_none (0, []) 0 HC.out rfl (by repeat (first | exact Below.refl _ _ | refine Below.setCell ?_ (by simp) _ | refine Below.alloc ?_ (by simp) _)))
theorem next_arr (s : ByteArray) (at_ : Nat) (w : World) (hs : s.size ≤ 281474976710656) (hat : at_ < s.size) (h91 : (s[at_]'hat).toNat = 91) (h76 : ∀ h : at_ + 1 < s.size, (s[at_ + 1]'h).toNat ≠ 76) :
  Calls Try.prog 165 #[.string s, .int .i64 (at_ : Int)] w (Next s.data.toList at_ w) := by
 have hI : (at_ : Int) < (s.size : Int) := by omega
 have hsI : (s.size : Int) ≤ 281474976710656 := by omega
 have b91 : (((s[at_]'hat).toNat : Int) == 91) = true := by rw [h91]; rfl
 have hdr := drop_data hat
 have hlen := size_data s
 have htn : ((at_ : Int) + 1).toNat = at_ + 1 := by omega
 by_cases hat2 : at_ + 1 < s.size
 ·have hI2 : (at_ : Int) + 1 < (s.size : Int) := by omega
  have hI3 : ¬ (s.size : Int) ≤ (at_ : Int) + 1 := by omega
  have h76 := h76 hat2
  have b76 : (((s[at_ + 1]'hat2).toNat : Int) == 76) = false := by simp; omega
  have hdr2 := drop_data hat2
  rw [hdr2, byte_nat h91] at hdr
  by_cases h86 : (s[at_ + 1]'hat2).toNat = 86
  ·have b86 : (((s[at_ + 1]'hat2).toNat : Int) == 86) = true := by rw [h86]; rfl
   have HT := zh (show typeT (s.data.toList.drop at_) = none by rw [hdr, byte_nat h86]; rfl)
   clear h86 hdr hlen h91 h76 hs hdr2
   go_enter Try.func165, Try.ntmps165
   go_wp2
   exact bodyPost_ret (v := .tuple #[.agg #[.int .i64 1, .string ⟨#[]⟩], .int .i64 ((at_ : Int) + 1 + 1), .bool false]) (by simp [results, Try.results165, go_sem]) rfl (next_none (1, []) (at_ + 2) HT.out (by congr 1) (by repeat (first | exact Below.refl _ _ | refine Below.setCell ?_ (by simp) _ | refine Below.alloc ?_ (by simp) _)))
  have b86 : (((s[at_ + 1]'hat2).toNat : Int) == 86) = false := by simp; omega
  by_cases h73 : (s[at_ + 1]'hat2).toNat = 73
  ·have b73 : (((s[at_ + 1]'hat2).toNat : Int) == 73) = true := by rw [h73]; rfl
   have HT := zh (show typeT (s.data.toList.drop at_) = some ((4, []), s.data.toList.drop (at_ + 2)) by rw [hdr, byte_nat h73]; rfl)
   have HL := zh hlen; have HA := zh hat2
   clear h86 h73 hdr hlen h91 h76 hs hdr2
   go_enter Try.func165, Try.ntmps165
   go_wp2
   exact bodyPost_ret (v := .tuple #[.agg #[.int .i64 4, .string ⟨#[]⟩], .int .i64 ((at_ : Int) + 1 + 1), .bool true]) (by simp [results, Try.results165, go_sem]) rfl (next_some (to := at_ + 2) HT.out (by rw [HL.out]; have := HA.out; omega) (by omega) rfl (by congr 1) (by repeat (first | exact Below.refl _ _ | refine Below.setCell ?_ (by simp) _ | refine Below.alloc ?_ (by simp) _)))
  have b73 : (((s[at_ + 1]'hat2).toNat : Int) == 73) = false := by simp; omega
  have HT := zh (show typeT (s.data.toList.drop at_) = none by
   rw [hdr]
   show (if (s[at_ + 1]'hat2) = 73 then _ else if (s[at_ + 1]'hat2) = 76 then _ else none) = none
   rw [if_neg (by intro e; rw [e] at h73; exact h73 rfl), if_neg (by intro e; rw [e] at h76; exact h76 rfl)])
  clear h86 h73 hdr hlen h91 h76 hs hdr2
  go_enter Try.func165, Try.ntmps165
  go_wp2
  exact bodyPost_ret (v := .tuple #[.agg #[.int .i64 0, .string ⟨#[]⟩], .int .i64 0, .bool false]) (by simp [results, Try.results165, go_sem]) rfl (next_none (0, []) 0 HT.out rfl (by repeat (first | exact Below.refl _ _ | refine Below.setCell ?_ (by simp) _ | refine Below.alloc ?_ (by simp) _)))
 ·have hI2 : ¬ (at_ : Int) + 1 < (s.size : Int) := by omega
  have hI3 : (s.size : Int) ≤ (at_ : Int) + 1 := by omega
  have HT := zh (show typeT (s.data.toList.drop at_) = none by
   rw [hdr, byte_nat h91, List.drop_of_length_le (by rw [hlen]; omega)]; rfl)
  clear hdr hlen h91 h76 hs hat2
  go_enter Try.func165, Try.ntmps165
  go_wp2
  exact bodyPost_ret (v := .tuple #[.agg #[.int .i64 0, .string ⟨#[]⟩], .int .i64 0, .bool false]) (by simp [results, Try.results165, go_sem]) rfl (next_none (0, []) 0 HT.out rfl (by repeat (first | exact Below.refl _ _ | refine Below.setCell ?_ (by simp) _ | refine Below.alloc ?_ (by simp) _)))
theorem next_r (s : ByteArray) (at_ : Nat) (w : World) (hs : s.size ≤ 281474976710656) (hat : at_ ≤ s.size) :
  Calls Try.prog 165 #[.string s, .int .i64 (at_ : Int)] w (Next s.data.toList at_ w) := by
 by_cases h : at_ < s.size
 ·by_cases h76 : (s[at_]'h).toNat = 76
  ·exact next_cls s at_ w hs h h76
  ·by_cases h91 : (s[at_]'h).toNat = 91
   ·by_cases h2 : at_ + 1 < s.size
    ·by_cases h3 : (s[at_ + 1]'h2).toNat = 76
     ·exact next_clss s at_ w hs h h91 h2 h3
     ·exact next_arr s at_ w hs h h91 (fun _ => h3)
    ·exact next_arr s at_ w hs h h91 (fun h3 => absurd h3 h2)
   ·exact next_one s at_ w hs h h91 h76
 ·exact next_end s at_ w hs (by omega)
end Go.Proofs.Ytdifmgeicnndfaa.kind

/-
  Digits, and the number that they are: of no program.
-/
import Derived.Lib.AtoiAllCases
import Derived.Lib.ItoaLen
import Derived.Lib.ItoaMem
namespace Go.Proofs.YtcpjllkfgoaamaaDoor.dec
open Go.Lib

def isD (c : UInt8) : Bool := decide (48 ≤ c.toNat ∧ c.toNat ≤ 57)
/-- the number that digits are -/
def valF (acc : Nat) (l : List UInt8) : Nat := l.foldl (fun a c => a * 10 + (c.toNat - 48)) acc
def val (l : List UInt8) : Nat := valF 0 l
theorem valF_cons (acc : Nat) (c : UInt8) (r : List UInt8) : valF acc (c :: r) = valF (acc * 10 + (c.toNat - 48)) r := by unfold valF; rw [List.foldl_cons]
theorem valF_snoc (acc : Nat) (r : List UInt8) (c : UInt8) : valF acc (r ++ [c]) = valF acc r * 10 + (c.toNat - 48) := by
  unfold valF; rw [List.foldl_append]; rfl
theorem val_snoc (r : List UInt8) (c : UInt8) : val (r ++ [c]) = val r * 10 + (c.toNat - 48) := valF_snoc 0 r c
theorem valF_ge : ∀ (l : List UInt8) (acc : Nat), acc ≤ valF acc l
  | [], acc => Nat.le_refl _
  | c :: r, acc => by
    rw [valF_cons]
    have := valF_ge r (acc * 10 + (c.toNat - 48))
    omega
theorem parseUint10_all : ∀ (l : List UInt8) (acc : Nat), l.all isD = true → acc < 18446744073709551616 → parseUint10 acc l = if valF acc l < 18446744073709551616 then .ok (valF acc l) else .range
  | [], acc, _, h => by
    simp only [parseUint10]
    rw [if_pos (show valF acc [] < _ from h)]; rfl
  | c :: r, acc, ha, h => by
    rw [List.all_cons, Bool.and_eq_true] at ha
    have hc : 48 ≤ c.toNat ∧ c.toNat ≤ 57 := of_decide_eq_true ha.1
    simp only [parseUint10]
    rw [if_pos hc, valF_cons]
    have hge := valF_ge r (acc * 10 + (c.toNat - 48))
    by_cases h1 : 1844674407370955162 ≤ acc
    · rw [if_pos h1, if_neg (by omega)]
    · rw [if_neg h1]
      by_cases h2 : 18446744073709551616 ≤ acc * 10 + (c.toNat - 48)
      · rw [if_pos h2, if_neg (by omega)]
      · rw [if_neg h2, parseUint10_all r _ ha.2 (by omega)]
theorem atoiAll_digits (l : List UInt8) (hne : l ≠ []) (ha : l.all isD = true) : atoiAll l = if val l < 9223372036854775808 then .ok (val l : Int) else .range := by
  obtain ⟨c, r, rfl⟩ : ∃ c r, l = c :: r := by cases l with
    | nil => exact absurd rfl hne
    | cons c r => exact ⟨c, r, rfl⟩
  have hc : 48 ≤ c.toNat ∧ c.toNat ≤ 57 := by
    rw [List.all_cons, Bool.and_eq_true] at ha
    exact of_decide_eq_true ha.1
  rw [atoiAll_plain c r (by omega) (by omega)]
  unfold parseMag
  rw [if_neg (by simp), parseUint10_all _ 0 ha (by omega)]
  show signless (if val (c :: r) < 18446744073709551616 then .ok (val (c :: r)) else .range) = _
  generalize val (c :: r) = v
  by_cases h1 : v < 9223372036854775808
  · rw [if_pos (by omega), if_pos h1]; simp only [signless]; rw [if_neg (by omega)]
  · rw [if_neg h1]
    by_cases h2 : v < 18446744073709551616
    · rw [if_pos h2]; simp only [signless]; rw [if_pos (by omega)]
    · rw [if_neg h2]; rfl

theorem dig_toNat {u : Nat} (h : u < 10) : (UInt8.ofNat (48 + u)).toNat = 48 + u := by
  rw [UInt8.toNat_ofNat']; omega
theorem dec_small {u : Nat} (h : u < 10) : decDigits u = [UInt8.ofNat (48 + u)] := by rw [decDigits, dif_pos h]
theorem dec_big {u : Nat} (h : ¬ u < 10) : decDigits u = decDigits (u / 10) ++ [UInt8.ofNat (48 + u % 10)] := by rw [decDigits, dif_neg h]
theorem dec_ne : ∀ u : Nat, decDigits u ≠ [] := by
  intro u
  by_cases h : u < 10
  · rw [dec_small h]; simp
  · rw [dec_big h]; simp
theorem isD_dig {u : Nat} (h : u < 10) : isD (UInt8.ofNat (48 + u)) = true := by
  unfold isD; rw [dig_toNat h]; simp; omega
theorem dec_all : ∀ u : Nat, (decDigits u).all isD = true := by
  intro u
  induction u using Nat.strongRecOn with
  | _ u ih =>
    by_cases h : u < 10
    · rw [dec_small h, List.all_cons, isD_dig h]; rfl
    · rw [dec_big h, List.all_append, ih (u / 10) (by omega), List.all_cons, isD_dig (by omega)]; rfl
theorem dec_val : ∀ u : Nat, val (decDigits u) = u := by
  intro u
  induction u using Nat.strongRecOn with
  | _ u ih =>
    by_cases h : u < 10
    · rw [dec_small h]; show 0 * 10 + ((UInt8.ofNat (48 + u)).toNat - 48) = u; rw [dig_toNat h]; omega
    · rw [dec_big h, val_snoc, ih (u / 10) (by omega), dig_toNat (by omega)]; omega
theorem dec_head : ∀ u : Nat, 1 ≤ u → ∃ c r, decDigits u = c :: r ∧ c.toNat ≠ 48 := by
  intro u
  induction u using Nat.strongRecOn with
  | _ u ih =>
    intro h1
    by_cases h : u < 10
    · exact ⟨_, _, dec_small h, by rw [dig_toNat h]; omega⟩
    · obtain ⟨c, r, e, hc⟩ := ih (u / 10) (by omega) (by omega)
      exact ⟨c, r ++ [UInt8.ofNat (48 + u % 10)], by rw [dec_big h, e]; rfl, hc⟩
/-- digits that may be a number's -/
def okD (l : List UInt8) : Bool := !l.isEmpty && l.all isD && !(decide (1 < l.length) && decide (l.head?.map (·.toNat) = some 48))
theorem val_pos {c : UInt8} {r : List UInt8} (hd : isD c = true) (h : c.toNat ≠ 48) : 1 ≤ val (c :: r) := by
  have := valF_ge r (0 * 10 + (c.toNat - 48))
  have hc : 48 ≤ c.toNat ∧ c.toNat ≤ 57 := of_decide_eq_true hd
  show 1 ≤ valF (0 * 10 + (c.toNat - 48)) r
  omega
theorem dig_of {c : UInt8} (h : isD c = true) : UInt8.ofNat (48 + (c.toNat - 48)) = c := by
  have hc : 48 ≤ c.toNat ∧ c.toNat ≤ 57 := of_decide_eq_true h
  apply UInt8.toNat_inj.1
  rw [UInt8.toNat_ofNat']
  omega
theorem dec_back_aux : ∀ (n : Nat) (c : UInt8) (r : List UInt8), r.length = n → (c :: r).all isD = true → (r ≠ [] → c.toNat ≠ 48) → decDigits (val (c :: r)) = c :: r := by
  intro n
  induction n with
  | zero =>
    intro c r hl ha _
    obtain rfl : r = [] := List.eq_nil_of_length_eq_zero hl
    have hd : isD c = true := by simpa using ha
    have hc : 48 ≤ c.toNat ∧ c.toNat ≤ 57 := of_decide_eq_true hd
    have e : val [c] = c.toNat - 48 := by show 0 * 10 + (c.toNat - 48) = _; omega
    rw [e, dec_small (by omega), dig_of hd]
  | succ n ih =>
    intro c r hl ha h48
    obtain ⟨r', d, rfl⟩ : ∃ r' d, r = r' ++ [d] := by
      rcases List.eq_nil_or_concat r with h | ⟨r', d, h⟩
      · rw [h] at hl; cases hl
      · exact ⟨r', d, by simpa using h⟩
    have hne : r' ++ [d] ≠ [] := by simp
    have hc48 := h48 hne
    have ha' : (c :: r').all isD = true ∧ isD d = true := by
      rw [← List.cons_append, List.all_append, Bool.and_eq_true] at ha
      exact ⟨ha.1, by simpa using ha.2⟩
    have hd : 48 ≤ d.toNat ∧ d.toNat ≤ 57 := of_decide_eq_true ha'.2
    have hcd : isD c = true := by
      have := ha'.1
      rw [List.all_cons, Bool.and_eq_true] at this
      exact this.1
    have hv := val_pos (r := r') hcd hc48
    have e : val (c :: (r' ++ [d])) = val (c :: r') * 10 + (d.toNat - 48) := by rw [← List.cons_append, val_snoc]
    rw [e, dec_big (by omega)]
    have h1 : (val (c :: r') * 10 + (d.toNat - 48)) / 10 = val (c :: r') := by omega
    have h2 : (val (c :: r') * 10 + (d.toNat - 48)) % 10 = d.toNat - 48 := by omega
    rw [h1, h2, ih c r' (by simpa using hl) ha'.1 (fun _ => hc48), dig_of ha'.2]
    rfl
theorem dec_back (l : List UInt8) (h : okD l = true) : decDigits (val l) = l := by
  unfold okD at h
  rw [Bool.and_eq_true, Bool.and_eq_true] at h
  cases l with
  | nil => simp at h
  | cons c r =>
    refine dec_back_aux r.length c r rfl h.1.2 fun hr h48 => ?_
    have h3 := h.2
    have h4 : 0 < r.length := List.length_pos_iff.2 hr
    rw [decide_eq_true (show 1 < (c :: r).length by rw [List.length_cons]; omega), decide_eq_true (show ((c :: r).head?.map (·.toNat)) = some 48 by rw [← h48]; rfl)] at h3
    cases h3
theorem okD_dec (u : Nat) : okD (decDigits u) = true := by
  unfold okD
  rw [dec_all u]
  rcases Nat.eq_zero_or_pos u with rfl | hu
  · rw [dec_small (by omega)]; simp
  · obtain ⟨c, r, e, hc⟩ := dec_head u hu
    rw [e]
    simp [hc]
/-- what Parse answers: the number, and what is wrong -/
def parseD (l : List UInt8) : Nat × Nat := if okD l then (if 65536 < val l then (0, 12) else (val l, 0)) else (0, 1)
theorem parse_neg (u : Nat) : parseD (45 :: decDigits u) = (0, 1) := by
  unfold parseD okD
  rw [show List.all (45 :: decDigits u) isD = false by rw [List.all_cons]; rfl]
  simp
theorem parse_dec (u : Nat) : parseD (decDigits u) = if 65536 < u then (0, 12) else (u, 0) := by
  unfold parseD
  rw [okD_dec u, if_pos rfl, dec_val]
end Go.Proofs.YtcpjllkfgoaamaaDoor.dec

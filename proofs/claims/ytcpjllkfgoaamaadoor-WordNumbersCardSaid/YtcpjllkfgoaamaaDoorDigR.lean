/-
  Layer 4: the reference's digits of a number are the program's.
-/
import Derived.Test.YtcpjllkfgoaamaaDoorParseR
namespace Go.Proofs.YtcpjllkfgoaamaaDoor.word
open Go.RowKit Go.Shelf
open Go.Proofs.YtcpjllkfgoaamaaDoor.num Go.Proofs.YtcpjllkfgoaamaaDoor.words Go.Proofs.YtcpjllkfgoaamaaDoor.give Go.Proofs.YtcpjllkfgoaamaaDoor.write Go.Proofs.YtcpjllkfgoaamaaDoor.dec

def dgt (d : Nat) : UInt8 := UInt8.ofNat (48 + d)
theorem enc_fin : ∀ d : Fin 10, Utf8.encode (48 + (d.val : Int)) = ⟨#[UInt8.ofNat (48 + d.val)]⟩ := by decide +kernel
theorem enc_dig {d : Nat} (h : d < 10) : Utf8.encode (48 + (d : Int)) = ⟨#[dgt d]⟩ := enc_fin ⟨d, h⟩
theorem glue1 (x : UInt8) (t : List UInt8) : (⟨#[x]⟩ : ByteArray) ++ ⟨t.toArray⟩ = ⟨(x :: t).toArray⟩ := by
  apply ByteArray.ext; rw [ByteArray.data_append]; simp
theorem glue2 (x : UInt8) (t : List UInt8) : (⟨t.toArray⟩ : ByteArray) ++ ⟨#[x]⟩ = ⟨(t ++ [x]).toArray⟩ := by
  apply ByteArray.ext; rw [ByteArray.data_append]; simp
def front (m : Nat) : List UInt8 := if m < 10 then [] else Lib.decDigits (m / 10)
theorem dec_front (u : Nat) : Lib.decDigits u = front u ++ [dgt (u % 10)] := by
  unfold front
  by_cases h : u < 10
  · rw [if_pos h, dec_small h, show u % 10 = u by omega]; rfl
  · rw [if_neg h, dec_big h]; rfl
theorem front_big {m : Nat} (h : ¬ m < 10) : front m = front (m / 10) ++ [dgt (m / 10 % 10)] := by
  conv => lhs; unfold front
  rw [if_neg h, dec_front]
theorem dec_le {u : Nat} (h : u ≤ 9223372036854775808) : (Lib.decDigits u).length ≤ 21 := by
  rcases Nat.lt_or_ge u 9223372036854775808 with h1 | h1
  · have := Lib.itoa_length_le (u : Int) (by omega) (by omega)
    rw [Lib.itoa_nonneg] at this; exact this
  · obtain rfl : u = 9223372036854775808 := by omega
    have := Lib.itoa_length_le (-((9223372036854775808 : Nat) : Int)) (by omega) (by omega)
    rw [Lib.itoa_neg _ (by omega), List.length_cons] at this; omega

set_option maxRecDepth 100000 in
set_option maxHeartbeats 1000000 in
theorem digits_rp (u : Nat) (h1 : u ≤ 9223372036854775807) (w : World) :
    Calls Tryd.prog 21 #[.int .i64 (u : Int)] w fun e w' => e = .returned (.string ⟨(Lib.decDigits u).toArray⟩) ∧ w' = w := by
  have HL := Lib.hid (dec_le (u := u) (by omega))
  have h0I : ¬ (u : Int) < 0 := by omega
  have h2I : (0 : Int) ≤ (u : Int) := by omega
  have h1I : (u : Int) ≤ 9223372036854775807 := by omega
  have HE := Lib.hid (fun (m : Nat) => enc_dig (d := m % 10) (by omega))
  have HF := Lib.hid (dec_front u)
  have he := HE.out u
  have hm0 : (0 : Int) ≤ (u : Int) % 10 := by omega
  have hm1 : (u : Int) % 10 ≤ 9 := by omega
  rw [show ((u % 10 : Nat) : Int) = (u : Int) % 10 by omega] at he
  clear h1
  go_enter Tryd.func21, Tryd.ntmps21
  go_wp2
  clear he
  go_loopw [0, 5] (fun n s wr => ∃ (m : Nat) (t : List UInt8), n = .int .i64 (m : Int) ∧ s = .string ⟨t.toArray⟩ ∧ m ≤ u ∧ wr = w ∧ Lib.decDigits u = front m ++ t) (fun n _ _ => (intOf n).toNat)
  case atStart => exact ⟨u, _, rfl, rfl, Nat.le_refl _, rfl, HF.out⟩
  case round =>
    obtain ⟨m, t, rfl, rfl, hmu, rfl, hd⟩ := hrel
    have hl : t.length ≤ 21 := by have := HL.out; rw [hd, List.length_append] at this; omega
    have HD := Lib.hid hd
    clear hd
    by_cases hb : m < 10
    · have hbI : ¬ (10 : Int) ≤ (m : Int) := by omega
      have HT := Lib.hid (show Lib.decDigits u = t by rw [HD.out]; unfold front; rw [if_pos hb]; rfl)
      clear HD HE HF
      go_wp2
      go_ret
      rw [HT.out]
      exact ⟨rfl, rfl⟩
    · have hbI : (10 : Int) ≤ (m : Int) := by omega
      have HN := Lib.hid (front_big hb)
      have hq0 : (0 : Int) ≤ (m : Int) / 10 := by omega
      have hq1 : (m : Int) / 10 ≤ 9223372036854775807 := by omega
      have hm0 : (0 : Int) ≤ (m : Int) / 10 % 10 := by omega
      have hm1 : (m : Int) / 10 % 10 ≤ 9 := by omega
      have he := HE.out (m / 10)
      rw [show ((m / 10 % 10 : Nat) : Int) = (m : Int) / 10 % 10 by omega] at he
      have HG := Lib.hid (glue1 (dgt (m / 10 % 10)) t)
      have hzt : (⟨t.toArray⟩ : ByteArray).size = t.length := size_of t
      have hz : ¬ 9223372036854775807 < 1 + t.length := by omega
      clear HF
      go_wp2
      go_roundw
      case rel => exact ⟨m / 10, dgt (m / 10 % 10) :: t, by go_num, by rw [← HG.out], by omega, by first | rfl | trivial, by rw [HD.out, HN.out, List.append_assoc]; rfl⟩
      case measure => simp [intOf]; omega
theorem tmod_neg (u : Nat) : Int.tmod (-(u : Int)) 10 = -((u % 10 : Nat) : Int) := by
  rw [Int.neg_tmod]; congr 1
theorem tdiv_neg (u : Nat) : Int.tdiv (-(u : Int)) 10 = -((u / 10 : Nat) : Int) := by
  rw [Int.neg_tdiv]; congr 1
theorem dec_dgt_small {u : Nat} (h : u < 10) : Lib.decDigits u = [dgt (u % 10)] := by rw [dec_small h, show u % 10 = u by omega]; rfl
theorem dec_dgt_big {u : Nat} (h : ¬ u < 10) : Lib.decDigits u = Lib.decDigits (u / 10) ++ [dgt (u % 10)] := dec_big h
set_option maxRecDepth 100000 in
set_option maxHeartbeats 1000000 in
theorem digits_rn : ∀ u : Nat, 1 ≤ u → u ≤ 9223372036854775808 → ∀ w : World,
    Calls Tryd.prog 21 #[.int .i64 (-(u : Int))] w fun e w' => e = .returned (.string ⟨(45 :: Lib.decDigits u).toArray⟩) ∧ w' = w := by
  intro u
  induction u using Nat.strongRecOn with
  | _ u ih =>
    intro h0 h1 w
    obtain ⟨n, hn⟩ : ∃ n : Int, n = -(u : Int) := ⟨_, rfl⟩
    rw [← hn]
    have ht : n.tmod 10 = -((u % 10 : Nat) : Int) := by rw [hn]; exact tmod_neg u
    have hq : n.tdiv 10 = -((u / 10 : Nat) : Int) := by rw [hn]; exact tdiv_neg u
    have hnI : n < 0 := by omega
    have hnL : -9223372036854775808 ≤ n := by omega
    obtain ⟨d, hd⟩ : ∃ d, d = u % 10 := ⟨_, rfl⟩
    rw [← hd] at ht
    have hd9 : d ≤ 9 := by omega
    have hd9I : (d : Int) ≤ 9 := by omega
    have he := enc_dig (d := d) (by omega)
    by_cases hs : u < 10
    · have HS := Lib.hid (dec_dgt_small hs)
      have hq0 : n.tdiv 10 = 0 := by rw [hq, show u / 10 = 0 by omega]; rfl
      rw [← hd] at HS
      have HG := Lib.hid (glue1 45 [dgt d])
      clear hq hn ih hd hs h0 h1 hd9
      go_enter Tryd.func21, Tryd.ntmps21
      go_wp2
      go_ret
      rw [HS.out, ← HG.out]
      exact ⟨rfl, rfl⟩
    · have HS := Lib.hid (dec_dgt_big hs)
      rw [← hd] at HS
      have HI := Lib.hid (ih (u / 10) (by omega) (by omega) (by omega))
      have HG := Lib.hid (glue2 (dgt d) (45 :: Lib.decDigits (u / 10)))
      obtain ⟨q, hqq⟩ : ∃ q : Int, q = -((u / 10 : Nat) : Int) := ⟨_, rfl⟩
      rw [← hqq] at hq HI
      have hqI : ¬ q = 0 := by omega
      have hqL : -922337203685477581 ≤ q := by omega
      have hqU : q < 0 := by omega
      have hqB : (q != 0) = true := by simpa using hqI
      have hl := dec_le (u := u / 10) (by omega)
      generalize Lib.decDigits (u / 10) = t at *
      have hzt : (⟨(45 :: t).toArray⟩ : ByteArray).size = t.length + 1 := size_of _
      obtain ⟨T, hT⟩ : ∃ T : ByteArray, T = ⟨(45 :: t).toArray⟩ := ⟨_, rfl⟩
      rw [← hT] at hzt HI HG
      have hz : ¬ 9223372036854775807 < T.size + 1 := by omega
      clear hT hzt hl hn ih hd hs h0 h1 hd9 hqq
      go_enter Tryd.func21, Tryd.ntmps21
      go_wp2_with fail
      refine (HI.out _).mono ?_
      rintro e w' ⟨rfl, rfl⟩
      clear HI
      go_wp2
      go_ret
      rw [HS.out]
      exact ⟨by rw [HG.out, List.cons_append]; rfl, rfl⟩
set_option maxRecDepth 100000 in
theorem digits_r (n : Int) (h0 : -9223372036854775808 ≤ n) (h1 : n ≤ 9223372036854775807) (w : World) :
    Calls Tryd.prog 21 #[.int .i64 n] w fun e w' => e = .returned (.string ⟨(Lib.itoa n).toArray⟩) ∧ w' = w := by
  rcases Int.lt_or_le n 0 with h | h
  · obtain ⟨u, rfl⟩ : ∃ u : Nat, n = -(u : Int) := ⟨n.natAbs, by omega⟩
    rw [Lib.itoa_neg u (by omega)]
    exact digits_rn u (by omega) (by omega) w
  · obtain ⟨u, rfl⟩ : ∃ u : Nat, n = (u : Int) := ⟨n.toNat, by omega⟩
    rw [Lib.itoa_nonneg]
    exact digits_rp u (by omega) w
end Go.Proofs.YtcpjllkfgoaamaaDoor.word

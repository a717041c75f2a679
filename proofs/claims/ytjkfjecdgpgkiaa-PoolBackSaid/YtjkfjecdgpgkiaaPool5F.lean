/-
  Layer 5, the document's answer: a string's place in a pool.
-/
import Derived.Test.YtjkfjecdgpgkiaaPool5M
namespace Go.Proofs.Ytjkfjecdgpgkiaa.pool
open Go.RowKit Go.Maps
open Go.Proofs.Ytjkfjecdgpgkiaa.num Go.Proofs.Ytjkfjecdgpgkiaa.words Go.Proofs.Ytjkfjecdgpgkiaa.poolp

set_option maxRecDepth 100000 in
set_option maxHeartbeats 800000 in
theorem find5_w (A : Option Addr) (c : Nat) (p : List Str) (s : Str) (w : World) (hr : Rd w A (SL p)) (hl : p.length ≤ 1048576) (hsz : ∀ x ∈ p, x.length ≤ 140737488355328) :
    Calls Try.prog 19 #[.slice A p.length c, .string ⟨s.toArray⟩] w fun e w' => e = .returned (.int .i64 (findI p s)) ∧ ∃ q, w' = w.drewN q := by
  have HRT := Lib.hid (fun q => right5_w A c p (w.drewN q) (hr.drewN q) hl hsz)
  have HR := Lib.hid hr
  obtain ⟨n, hn⟩ : ∃ n, n = p.length := ⟨_, rfl⟩
  obtain ⟨r, hrr⟩ : ∃ r, r = findI p s := ⟨_, rfl⟩
  obtain ⟨b, hb⟩ : ∃ b, b = rightB p := ⟨_, rfl⟩
  rw [← hn, ← hb] at HRT
  rw [← hn, ← hrr]
  have HN := Lib.hid hn
  have HRR := Lib.hid hrr
  have HBB := Lib.hid hb
  have hnI : (n : Int) ≤ 1048576 := by omega
  clear hn hrr hb hr hl hsz
  go_enter Try.func19, Try.ntmps19
  go_wp2
  go_loopw [5] (fun i wr => ∃ k q : Nat, i = .int .i64 (k : Int) ∧ k ≤ n ∧ wr = w.drewN q ∧ s ∉ p.take k) (fun i _ => n - (intOf i).toNat)
  case atStart => exact ⟨0, 0, rfl, Nat.zero_le _, rfl, by simp⟩
  case round =>
    obtain ⟨k, q, rfl, hk, rfl, hno⟩ := hrel
    have HNO := Lib.hid hno
    clear hno
    by_cases hlt : k < n
    · have hltI : (k : Int) < (n : Int) := by omega
      obtain ⟨x, hx⟩ : ∃ x, p[k]? = some x := ⟨p[k]'(by rw [← HN.out]; exact hlt), List.getElem?_eq_getElem _⟩
      obtain ⟨a, rfl, _, hcell⟩ := sl_cell HR.out hx
      have HX := Lib.hid hx
      clear hx
      cases b with
      | false =>
        have HV := Lib.hid (HRR.out.trans (find_no (s := s) (fun h => by rw [← HBB.out] at h; cases h.1)))
        go_wp2_with fail
        refine (HRT.out _).mono ?_
        rintro e w' ⟨rfl, q2, rfl⟩
        clear HRT
        go_wp2
        go_ret
        rw [HV.out]
        exact ⟨rfl, _, rfl⟩
      | true =>
        by_cases he : x = s
        · have hxs : (x == s) = true := by rw [eq_mk]; exact decide_eq_true he
          have HV := Lib.hid (HRR.out.trans (find_at HBB.out.symm (by rw [← he]; exact HX.out)))
          clear he
          go_wp2_with fail
          refine (HRT.out _).mono ?_
          rintro e w' ⟨rfl, q2, rfl⟩
          clear HRT
          go_wp2
          go_ret
          rw [HV.out]
          exact ⟨rfl, _, rfl⟩
        · have hxs : (x == s) = false := by rw [eq_mk]; exact decide_eq_false he
          have HV := Lib.hid (show s ∉ p.take (k + 1) by
            rw [take_snoc HX.out, List.mem_append, List.mem_singleton]
            rintro (h | h)
            · exact HNO.out h
            · exact he h.symm)
          clear he
          go_wp2_with fail
          refine (HRT.out _).mono ?_
          rintro e w' ⟨rfl, q2, rfl⟩
          clear HRT
          go_wp2
          go_roundw
          case rel => exact ⟨k + 1, _, by go_num, by omega, rfl, HV.out⟩
          case measure => simp [intOf]; omega
    · have hltI : ¬ (k : Int) < (n : Int) := by omega
      have htk : p.take k = p := List.take_of_length_le (by rw [← HN.out]; omega)
      have HV := Lib.hid (HRR.out.trans (find_no (fun h => HNO.out (by rw [htk]; exact h.2))))
      clear htk
      go_wp2
      go_ret
      rw [HV.out]
      exact ⟨rfl, _, rfl⟩
end Go.Proofs.Ytjkfjecdgpgkiaa.pool

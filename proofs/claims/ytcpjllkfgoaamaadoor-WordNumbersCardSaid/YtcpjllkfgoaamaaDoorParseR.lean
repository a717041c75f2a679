/-
  Layer 4: the reference's answers to digits: those that are read, and those that are written, are the program's.
-/
import Derived.Test.YtcpjllkfgoaamaaDoorParse
import Derived.Laws.Runes
namespace Go.Proofs.YtcpjllkfgoaamaaDoor.word
open Go.RowKit Go.Shelf
open Go.Proofs.YtcpjllkfgoaamaaDoor.num Go.Proofs.YtcpjllkfgoaamaaDoor.words Go.Proofs.YtcpjllkfgoaamaaDoor.give Go.Proofs.YtcpjllkfgoaamaaDoor.write Go.Proofs.YtcpjllkfgoaamaaDoor.dec

def clampN (v : Nat) : Nat := if 65536 < v then 65536 else v
theorem byte_at (s : ByteArray) (k : Nat) (h : k < s.size) : s.data.toList[k]? = some (s[k]'h) := by
  rw [Array.getElem?_toList, Array.getElem?_eq_getElem (by exact h)]; rfl
theorem take_at (s : ByteArray) (k : Nat) (h : k < s.size) : s.data.toList.take (k + 1) = s.data.toList.take k ++ [s[k]'h] := by
  rw [List.take_add_one, byte_at s k h]; rfl
theorem isD_at {c : UInt8} (h0 : 48 ≤ c.toNat) (h1 : c.toNat ≤ 57) : isD c = true := by simp [isD, h0, h1]
theorem not_ok_of {s : ByteArray} {k : Nat} (h : k < s.size) (hd : ¬ (48 ≤ (s[k]'h).toNat ∧ (s[k]'h).toNat ≤ 57)) : okD s.data.toList = false := by
  have : s.data.toList.all isD = false := by
    rw [List.all_eq_false]
    exact ⟨_, List.mem_of_getElem? (byte_at s k h), by simp only [isD, decide_eq_true_eq]; exact hd⟩
  unfold okD; rw [this]; simp

/-- what holds between two rounds -/
def Run (s : ByteArray) (k m : Nat) (b : Bool) : Prop := (s.data.toList.take k).all isD = true ∧ m = clampN (val (s.data.toList.take k)) ∧ (b = true ↔ 65536 < val (s.data.toList.take k))
theorem Run.zero (s : ByteArray) : Run s 0 0 false := ⟨rfl, rfl, by simp [val, valF]⟩
theorem Run.le {s : ByteArray} {k m : Nat} {b : Bool} (h : Run s k m b) : m ≤ 65536 := by rw [h.2.1]; unfold clampN; split <;> omega
theorem Run.next {s : ByteArray} {k m : Nat} {b : Bool} (h : Run s k m b) (hk : k < s.size) (h0 : 48 ≤ (s[k]'hk).toNat) (h1 : (s[k]'hk).toNat ≤ 57) :
    (65536 < m * 10 + ((s[k]'hk).toNat - 48) → Run s (k + 1) 65536 true) ∧ (¬ 65536 < m * 10 + ((s[k]'hk).toNat - 48) → Run s (k + 1) (m * 10 + ((s[k]'hk).toNat - 48)) b) := by
  obtain ⟨a1, a2, a3⟩ := h
  have hall : (s.data.toList.take (k + 1)).all isD = true := by rw [take_at s k hk, List.all_append, a1]; simp [isD_at h0 h1]
  have hv : val (s.data.toList.take (k + 1)) = val (s.data.toList.take k) * 10 + ((s[k]'hk).toNat - 48) := by rw [take_at s k hk, val_snoc]
  generalize val (s.data.toList.take k) = v at *
  unfold clampN at a2
  refine ⟨fun hx => ⟨hall, ?_, ?_⟩, fun hx => ⟨hall, ?_, ?_⟩⟩
  · rw [hv]; unfold clampN; rw [if_pos (by split at a2 <;> omega)]
  · rw [hv]; simp; split at a2 <;> omega
  · rw [hv]; unfold clampN; rw [if_neg (by split at a2 <;> omega)]; split at a2 <;> omega
  · rw [hv, a3]; split at a2 <;> omega
theorem Run.done {s : ByteArray} {m : Nat} {b : Bool} (h : Run s s.size m b) (h0 : ¬ s.size = 0) (hz : ∀ h : 0 < s.size, ¬ (1 < s.size ∧ (s[0]'h).toNat = 48)) : parseB s = if b = true then (0, 12) else (m, 0) := by
  obtain ⟨a1, a2, a3⟩ := h
  have hl : s.data.toList.length = s.size := by rw [Array.length_toList]; rfl
  rw [← hl, List.take_length] at a1 a2 a3
  have hpos : 0 < s.size := by omega
  have hok : okD s.data.toList = true := by
    rw [okD_eq, all_isD, a1, head_of hpos]
    have hne : s.data.toList.isEmpty = false := by
      cases e : s.data.toList with
      | nil => rw [e] at hl; simp at hl; omega
      | cons c r => rfl
    rw [hne]
    by_cases h1 : 1 < s.size
    · have : ¬ (s[0]'hpos).toNat = 48 := fun e => hz hpos ⟨h1, e⟩
      simp [this]
    · simp [h1]
  rw [a_parse hok]
  by_cases hb : 65536 < val s.data.toList
  · rw [if_pos hb, if_pos (a3.2 hb)]
  · rw [if_neg hb, if_neg (fun e => hb (a3.1 e)), a2]; unfold clampN; rw [if_neg hb]

set_option maxRecDepth 100000 in
set_option maxHeartbeats 2000000 in
theorem parse_r (s : ByteArray) (hs : s.size ≤ 65536) (w : World) :
    Calls Tryd.prog 20 #[.string s] w fun e w' => e = .returned (parseV s) ∧ w' = w := by
  have HV := Lib.hid (show parseV s = .tuple #[.int .i64 ((parseB s).1 : Int), .int .i64 ((parseB s).2 : Int)] from rfl)
  have hsI : (s.size : Int) ≤ 65536 := by omega
  by_cases h0 : s.size = 0
  · have h0I : ((s.size : Int) == 0) = true := by simp [h0]
    have h0J : (s.size : Int) = 0 := by omega
    have hn : okD s.data.toList = false := by
      have : s.data.toList = [] := List.eq_nil_of_length_eq_zero (by rw [Array.length_toList]; exact h0)
      rw [this]; rfl
    rw [HV.out, no_parse hn]
    clear HV h0 hn
    go_enter Tryd.func20, Tryd.ntmps20
    go_wp2
    go_ret2
    exact ⟨rfl, rfl⟩
  have h0I : ((s.size : Int) == 0) = false := by simp [h0]
  have h0J : ¬ (s.size : Int) = 0 := by omega
  have hpos : 0 < s.size := by omega
  have hposI : (0 : Int) < (s.size : Int) := by omega
  by_cases hz : 1 < s.size ∧ (s[0]'hpos).toNat = 48
  · have hn : okD s.data.toList = false := by
      rw [okD_eq, head_of hpos, hz.2, decide_eq_true hz.1]; simp
    rw [HV.out, no_parse hn]
    have h1I : (1 : Int) < (s.size : Int) := by omega
    have hcI : ((s[0]'hpos).toNat : Int) = 48 := by omega
    have hcB : (((s[0]'hpos).toNat : Int) == 48) = true := by simpa using hcI
    clear HV hn hz h0
    go_enter Tryd.func20, Tryd.ntmps20
    go_wp2
    go_ret2
    exact ⟨rfl, rfl⟩
  have HZ := Lib.hid (fun (b : Bool) (m : Nat) (h : Run s s.size m b) => Run.done h h0 (fun _ => hz))
  have HN := Lib.hid (fun (k : Nat) (h : k < s.size) hd => no_parse (not_ok_of (s := s) (k := k) h hd))
  have hzz : (¬ (1 : Int) < (s.size : Int)) ∨ ((1 : Int) < (s.size : Int) ∧ (((s[0]'hpos).toNat : Int) == 48) = false ∧ ¬ ((s[0]'hpos).toNat : Int) = 48) := by
    by_cases h1 : 1 < s.size
    · refine .inr ⟨by omega, ?_⟩
      have : ¬ ((s[0]'hpos).toNat : Int) = 48 := fun e => hz ⟨h1, by omega⟩
      exact ⟨by simpa using this, this⟩
    · exact .inl (by omega)
  clear hz h0
  go_enter Tryd.func20, Tryd.ntmps20
  rcases hzz with h1I | ⟨h1I, hcB, hcI⟩
  all_goals
    go_wp2
    go_loopw [4, 5, 6] (fun n g i wr => ∃ (k m : Nat) (b : Bool), k ≤ s.size ∧ i = .int .i64 (k : Int) ∧ n = .int .i64 (m : Int) ∧ g = .bool b ∧ wr = w ∧ Run s k m b) (fun _ _ i _ => s.size - (intOf i).toNat)
    case atStart => exact ⟨0, 0, false, Nat.zero_le _, rfl, rfl, rfl, rfl, Run.zero s⟩
    case round =>
      obtain ⟨k, m, b, hk, rfl, rfl, rfl, rfl, hrun⟩ := hrel
      have hm := hrun.le
      have hmI : (m : Int) ≤ 65536 := by omega
      by_cases hlt : k < s.size
      · have hltI : (k : Int) < (s.size : Int) := by omega
        have hc8 : (s[k]'hlt).toNat < 256 := UInt8.toNat_lt _
        have HX := Lib.hid (fun h0 h1 => hrun.next hlt h0 h1)
        have HNN := Lib.hid (HN.out k hlt)
        clear hrun HZ HN
        by_cases hd : 48 ≤ (s[k]'hlt).toNat ∧ (s[k]'hlt).toNat ≤ 57
        · have hc0 : (48 : Int) ≤ ((s[k]'hlt).toNat : Int) := by omega
          have hc1 : ((s[k]'hlt).toNat : Int) ≤ 57 := by omega
          have hd0 : ¬ ((s[k]'hlt).toNat : Int) < 48 := by omega
          have hd1 : ¬ (57 : Int) < ((s[k]'hlt).toNat : Int) := by omega
          obtain ⟨hx1, hx2⟩ := HX.out hd.1 hd.2
          have ecast : ((m * 10 + ((s[k]'hlt).toNat - 48) : Nat) : Int) = (m : Int) * 10 + (((s[k]'hlt).toNat : Int) - 48) := by omega
          by_cases hbig : 65536 < m * 10 + ((s[k]'hlt).toNat - 48)
          · have HR := Lib.hid (hx1 hbig)
            have hbI : (65536 : Int) < (m : Int) * 10 + (((s[k]'hlt).toNat : Int) - 48) := by omega
            clear hx1 hx2 HX HNN hd hbig ecast
            go_wp2
            go_roundw
            case rel => exact ⟨k + 1, 65536, true, by omega, by go_num, rfl, rfl, by first | rfl | trivial, HR.out⟩
            case measure => simp [intOf]; omega
          · have HR := Lib.hid (hx2 hbig)
            have HE := Lib.hid ecast
            have hbI : ¬ (65536 : Int) < (m : Int) * 10 + (((s[k]'hlt).toNat : Int) - 48) := by omega
            clear hx1 hx2 HX HNN hd hbig ecast
            go_wp2
            go_roundw
            case rel => exact ⟨k + 1, _, b, by omega, by go_num, by rw [HE.out], rfl, by first | rfl | trivial, HR.out⟩
            case measure => simp [intOf]; omega
        · have HP := Lib.hid (HNN.out hd)
          clear HX HNN
          by_cases hl : ((s[k]'hlt).toNat : Int) < 48
          · go_wp2
            go_ret2
            rw [HV.out, HP.out]
            exact ⟨rfl, rfl⟩
          · have hg : (57 : Int) < ((s[k]'hlt).toNat : Int) := by omega
            go_wp2
            go_ret2
            rw [HV.out, HP.out]
            exact ⟨rfl, rfl⟩
      · have hltI : ¬ (k : Int) < (s.size : Int) := by omega
        have hks : k = s.size := by omega
        subst hks
        have HP := Lib.hid (HZ.out b m hrun)
        clear HZ HN hrun
        cases b
        · go_wp2
          go_ret2
          rw [HV.out, HP.out]
          exact ⟨rfl, rfl⟩
        · go_wp2
          go_ret2
          rw [HV.out, HP.out]
          exact ⟨rfl, rfl⟩
end Go.Proofs.YtcpjllkfgoaamaaDoor.word

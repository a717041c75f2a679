/-
  Layer 5, the document's answer: the pool of strings.
-/
import Derived.Test.YtjkfjecdgpgkiaaPool5W
namespace Go.Proofs.Ytjkfjecdgpgkiaa.pool
open Go.RowKit Go.Maps
open Go.Proofs.Ytjkfjecdgpgkiaa.num Go.Proofs.Ytjkfjecdgpgkiaa.words Go.Proofs.Ytjkfjecdgpgkiaa.poolp

/-- the pool of the first of a list -/
def curL (l : List Str) (k : Nat) : List Str := (nub (l.take k)).mergeSort leB
theorem cur_zero (l : List Str) : curL l 0 = [] := by unfold curL; rw [List.take_zero]; show ([] : List Str).mergeSort leB = []; simp
theorem cur_up (l : List Str) (k : Nat) : Up (curL l k) := sorted_up (nub_nodup _)
theorem mem_cur {l : List Str} {k : Nat} {y : Str} : y ∈ curL l k ↔ y ∈ l.take k := by
  unfold curL; rw [(List.mergeSort_perm (nub (l.take k)) leB).mem_iff, mem_nub]
theorem cur_len (l : List Str) (k : Nat) : (curL l k).length = (nub (l.take k)).length := (List.mergeSort_perm (nub (l.take k)) leB).length_eq
theorem cur_snoc {l : List Str} {k : Nat} {x : Str} (hx : l[k]? = some x) : withL (curL l k) x = curL l (k + 1) :=
  up_ext (with_up _ _) (cur_up _ _) fun y => by rw [mem_with, mem_cur, mem_cur, take_snoc hx, List.mem_append, List.mem_singleton]
theorem cur_bad {l : List Str} {k : Nat} (h : 1024 < (curL l k).length) : bad l = true := by
  rw [cur_len] at h
  have := nub_take_le l k
  unfold bad
  rw [Bool.or_eq_true]
  exact .inr (decide_eq_true (by omega))
theorem cur_all {l : List Str} (hw : ∀ x ∈ l, x.length ≤ 64) (h : (curL l l.length).length ≤ 1024) : bad l = false ∧ curL l l.length = makeL l := by
  have hb : bad l = false := by
    rw [cur_len, List.take_length] at h
    exact not_bad (fun x hx => hw x (mem_nub.1 hx)) h
  refine ⟨hb, ?_⟩
  unfold makeL curL
  rw [if_neg (by rw [hb]; simp), List.take_length]

set_option maxRecDepth 100000 in
set_option maxHeartbeats 800000 in
theorem make5_w (A : Option Addr) (c : Nat) (l : List Str) (w : World) (hr : Rd w A (SL l)) (hl : l.length ≤ 1048576) (hsz : ∀ x ∈ l, x.length ≤ 140737488355328) :
    Calls Try.prog 11 #[.slice A l.length c] w (Made l w) := by
  have HSZ := Lib.hid hsz
  have HR := Lib.hid hr
  have HWT := Lib.hid (fun A c (p : List Str) (s : Str) (w : World) (hr : Rd w A (SL p)) hc hu hl => with_w A c p s w hr hc hu hl)
  unfold At at HWT
  obtain ⟨n, hn⟩ : ∃ n, n = l.length := ⟨_, rfl⟩
  rw [← hn]
  have HN := Lib.hid hn
  have hnI : (n : Int) ≤ 1048576 := by omega
  clear hr hl hsz hn
  go_enter Try.func11, Try.ntmps11
  go_wp2
  go_loopw [4] (fun i wr => ∃ k q : Nat, i = .int .i64 (k : Int) ∧ k ≤ n ∧ wr = w.drewN q ∧ ∀ x ∈ l.take k, x.length ≤ 64) (fun i _ => n - (intOf i).toNat)
  case atStart => exact ⟨0, 0, rfl, Nat.zero_le _, rfl, by simp⟩
  case round =>
    obtain ⟨k, q, rfl, hk, rfl, h64⟩ := hrel
    have H64 := Lib.hid h64
    clear h64
    by_cases hlt : k < n
    · have hltI : (k : Int) < (n : Int) := by omega
      obtain ⟨x, hx⟩ : ∃ x, l[k]? = some x := ⟨l[k]'(by rw [← HN.out]; exact hlt), List.getElem?_eq_getElem _⟩
      obtain ⟨a, rfl, _, hcell⟩ := sl_cell HR.out hx
      have hxz := HSZ.out x (List.mem_of_getElem? hx)
      have hms := mk_size x
      have hxI : (x.length : Int) ≤ 140737488355328 := by omega
      by_cases hw : 64 < x.length
      · have hwI : (64 : Int) < (x.length : Int) := by omega
        have HBB := Lib.hid (bad_wide (List.mem_of_getElem? hx) hw)
        clear hx hw hxz
        go_wp2
        go_ret2
        exact made_bad HBB.out (over (Below.refl _ _))
      · have hwI : ¬ (64 : Int) < (x.length : Int) := by omega
        have HX := Lib.hid (show ∀ y ∈ l.take (k + 1), y.length ≤ 64 by
          rw [take_snoc hx]
          intro y hy
          rcases List.mem_append.1 hy with h | h
          · exact H64.out y h
          · rw [List.mem_singleton.1 h]; omega)
        clear hx hw hxz
        go_wp2
        go_roundw
        case rel => exact ⟨k + 1, q, by go_num, by omega, rfl, HX.out⟩
        case measure => simp [intOf]; omega
    · have hltI : ¬ (k : Int) < (n : Int) := by omega
      have htk : l.take k = l := List.take_of_length_le (by rw [← HN.out]; omega)
      have HW := Lib.hid (show ∀ x ∈ l, x.length ≤ 64 by have := H64.out; rw [htk] at this; exact this)
      clear htk H64
      go_wp2
      go_loopw [5, 6] (fun v i wr => ∃ (k c' : Nat) (A' : Option Addr), v = .slice A' (curL l k).length c' ∧ i = .int .i64 (k : Int) ∧ k ≤ n ∧ (curL l k).length ≤ c' ∧ (curL l k).length ≤ 1024 ∧ Rd wr A' (SL (curL l k)) ∧ Below w.heap.size w wr) (fun _ i _ => n - (intOf i).toNat)
      case atStart => exact ⟨0, 0, none, by rw [cur_zero]; rfl, rfl, Nat.zero_le _, by rw [cur_zero]; exact Nat.le_refl _, by rw [cur_zero]; exact Nat.zero_le _, by rw [cur_zero]; exact .inl rfl, over (Below.refl _ _)⟩
      case round =>
        obtain ⟨i, c', A', rfl, rfl, hi, hcc, h1024, hrd, hbw⟩ := hrel
        have HB := Lib.hid hbw; have HRD := Lib.hid hrd
        clear hrd
        by_cases hlt : i < n
        · have hltI : (i : Int) < (n : Int) := by omega
          obtain ⟨x, hx⟩ : ∃ x, l[i]? = some x := ⟨l[i]'(by rw [← HN.out]; exact hlt), List.getElem?_eq_getElem _⟩
          obtain ⟨a, rfl, _, hcell⟩ := sl_cell (HR.out.below hbw) hx
          have HWX := Lib.hid (fun w hr => HWT.out A' c' (curL l i) x w hr hcc (cur_up l i) (by omega))
          have HE := Lib.hid (cur_snoc hx)
          have HX := Lib.hid hx
          rw [HE.out] at HWX
          have HBAD := Lib.hid (fun h => cur_bad (l := l) (k := i + 1) h)
          clear hbw
          go_wp2_with fail
          refine (HWX.out _ HRD.out).mono ?_
          rintro e w2 ⟨⟨A2, c2, rfl, hc2, hr2⟩, hb2⟩
          have HB2 := Lib.hid (HB.out.trans (hb2.mono HB.out.size)); have HR2 := Lib.hid hr2
          clear hr2 hb2 HWX
          by_cases hm : 1024 < (curL l (i + 1)).length
          · have hmI : (1024 : Int) < ((curL l (i + 1)).length : Int) := by omega
            have HBB := Lib.hid (HBAD.out hm)
            clear hm
            go_wp2
            go_ret2
            exact made_bad HBB.out HB2.out
          · have hmI : ¬ (1024 : Int) < ((curL l (i + 1)).length : Int) := by omega
            go_wp2
            go_roundw
            case rel => exact ⟨i + 1, c2, A2, rfl, by go_num, by omega, hc2, by omega, HR2.out, HB2.out⟩
            case measure => simp [intOf]; omega
        · have hltI : ¬ (i : Int) < (n : Int) := by omega
          have hin : i = l.length := by rw [← HN.out]; omega
          have hrd := HRD.out
          rw [hin] at hrd hcc h1024
          obtain ⟨hbb, hmm⟩ := cur_all HW.out h1024
          have HF := Lib.hid (show Made l w (.returned (.tuple #[.slice A' (curL l i).length c', .int .i64 0])) wr by
            unfold Made
            rw [if_neg (by rw [hbb]; simp), ← hmm, hin]
            exact ⟨⟨A', c', rfl, hcc, hrd⟩, HB.out⟩)
          clear hin hrd hcc hbb hmm hbw
          go_wp2
          go_ret2
          exact HF.out
end Go.Proofs.Ytjkfjecdgpgkiaa.pool

/-
  Layer 5, the document's answer: a rising list with a string more.
-/
import Derived.Test.YtjkfjecdgpgkiaaPool5R
namespace Go.Proofs.Ytjkfjecdgpgkiaa.pool
open Go.RowKit Go.Maps
open Go.Proofs.Ytjkfjecdgpgkiaa.num Go.Proofs.Ytjkfjecdgpgkiaa.words Go.Proofs.Ytjkfjecdgpgkiaa.poolp

/-- a rising list with a string more -/
def withL (p : List Str) (s : Str) : List Str := (nub (p ++ [s])).mergeSort leB
theorem with_up (p : List Str) (s : Str) : Up (withL p s) := sorted_up (nub_nodup _)
theorem mem_with {p : List Str} {s y : Str} : y ∈ withL p s ↔ y ∈ p ∨ y = s := by
  unfold withL
  rw [(List.mergeSort_perm (nub (p ++ [s])) leB).mem_iff, mem_nub, List.mem_append, List.mem_singleton]
/-- what the loop holds -/
def Wth (p : List Str) (s : Str) (k : Nat) (d : Bool) (out : List Str) : Prop :=
  if d = true then Up out ∧ (∀ y, y ∈ out ↔ y ∈ p.take k ∨ y = s) ∧ out.length = k + 1 ∧ ∃ z, z ∈ p.take k ∧ s < z
  else out = p.take k ∧ ∀ y ∈ p.take k, y < s
theorem wth_zero (p : List Str) (s : Str) : Wth p s 0 false [] := by
  unfold Wth; rw [if_neg (by simp)]; exact ⟨by simp, by simp⟩
theorem wth_len {p : List Str} {s : Str} {k : Nat} {d : Bool} {out : List Str} (h : Wth p s k d out) : out.length ≤ k + 1 := by
  unfold Wth at h
  cases d with
  | true => rw [if_pos rfl] at h; omega
  | false => rw [if_neg (by simp)] at h; rw [h.1, List.length_take]; omega
theorem take_lt {p : List Str} (hu : Up p) {k : Nat} {x : Str} (hx : p[k]? = some x) : ∀ y ∈ p.take k, y < x := by
  intro y hy
  obtain ⟨i, hi⟩ := List.getElem?_of_mem hy
  rw [List.getElem?_take] at hi
  split at hi
  · exact (up_at hu hi hx).1 (by assumption)
  · cases hi
theorem up_snoc {l : List Str} (hl : Up l) {x : Str} (h : ∀ y ∈ l, y < x) : Up (l ++ [x]) := by
  unfold Up at *
  rw [List.pairwise_append]
  exact ⟨hl, List.pairwise_singleton _ _, fun a ha b hb => by rw [List.mem_singleton.1 hb]; exact h a ha⟩
theorem up_take {p : List Str} (hu : Up p) (k : Nat) : Up (p.take k) := List.Pairwise.sublist (List.take_sublist k p) hu
theorem take_snoc {p : List Str} {k : Nat} {x : Str} (hx : p[k]? = some x) : p.take (k + 1) = p.take k ++ [x] := by rw [List.take_add_one, hx]; rfl
/-- a round behind the string -/
theorem wth_done {p : List Str} {s x : Str} {k : Nat} {out : List Str} (hu : Up p) (hx : p[k]? = some x) (h : Wth p s k true out) : Wth p s (k + 1) true (out ++ [x]) := by
  unfold Wth at *
  rw [if_pos rfl] at *
  obtain ⟨h1, h2, h3, z, hz, hsz⟩ := h
  have hlt := take_lt hu hx
  refine ⟨up_snoc h1 fun y hy => ?_, fun y => ?_, by rw [List.length_append, h3]; rfl, z, ?_, hsz⟩
  · rcases (h2 y).1 hy with h | h
    · exact hlt y h
    · rw [h]; exact List.lt_trans hsz (hlt z hz)
  · rw [List.mem_append, List.mem_singleton, take_snoc hx, List.mem_append, List.mem_singleton, h2]
    constructor
    · rintro ((h | h) | h)
      · exact .inl (.inl h)
      · exact .inr h
      · exact .inl (.inr h)
    · rintro ((h | h) | h)
      · exact .inl (.inl h)
      · exact .inr h
      · exact .inl (.inr h)
  · rw [take_snoc hx]; exact List.mem_append_left _ hz
/-- the round in which the string is laid -/
theorem wth_laid {p : List Str} {s x : Str} {k : Nat} {out : List Str} (hu : Up p) (hx : p[k]? = some x) (hs : s < x) (h : Wth p s k false out) : Wth p s (k + 1) true (out ++ [s] ++ [x]) := by
  unfold Wth at *
  rw [if_neg (by simp)] at h
  rw [if_pos rfl]
  obtain ⟨rfl, h2⟩ := h
  have hlt := take_lt hu hx
  have hk : k < p.length := by
    rcases Nat.lt_or_ge k p.length with h | h
    · exact h
    · rw [List.getElem?_eq_none h] at hx; cases hx
  refine ⟨up_snoc (up_snoc (up_take hu k) h2) fun y hy => ?_, fun y => ?_, by rw [List.length_append, List.length_append, List.length_take]; simp; omega, x, ?_, hs⟩
  · rcases List.mem_append.1 hy with h | h
    · exact hlt y h
    · rw [List.mem_singleton.1 h]; exact hs
  · rw [take_snoc hx, List.mem_append, List.mem_append, List.mem_append, List.mem_singleton, List.mem_singleton]
    constructor
    · rintro ((h | h) | h)
      · exact .inl (.inl h)
      · exact .inr h
      · exact .inl (.inr h)
    · rintro ((h | h) | h)
      · exact .inl (.inl h)
      · exact .inr h
      · exact .inl (.inr h)
  · rw [take_snoc hx]; simp
/-- a round ahead of it -/
theorem wth_next {p : List Str} {s x : Str} {k : Nat} {out : List Str} (hx : p[k]? = some x) (hs : x < s) (h : Wth p s k false out) : Wth p s (k + 1) false (out ++ [x]) := by
  unfold Wth at *
  rw [if_neg (by simp)] at *
  obtain ⟨rfl, h2⟩ := h
  refine ⟨(take_snoc hx).symm, fun y hy => ?_⟩
  rw [take_snoc hx] at hy
  rcases List.mem_append.1 hy with h | h
  · exact h2 y h
  · rw [List.mem_singleton.1 h]; exact hs
theorem wth_end {p : List Str} {s : Str} {out : List Str} (h : Wth p s p.length true out) : out = withL p s := by
  unfold Wth at h
  rw [if_pos rfl, List.take_length] at h
  exact up_ext h.1 (with_up p s) fun y => by rw [h.2.1, mem_with]
theorem wth_last {p : List Str} (hu : Up p) {s : Str} {out : List Str} (h : Wth p s p.length false out) : out ++ [s] = withL p s := by
  unfold Wth at h
  rw [if_neg (by simp), List.take_length] at h
  obtain ⟨rfl, h2⟩ := h
  exact up_ext (up_snoc hu h2) (with_up _ s) fun y => by rw [mem_with, List.mem_append, List.mem_singleton]
theorem with_had {p : List Str} (hu : Up p) {s : Str} (h : s ∈ p) : withL p s = p :=
  up_ext (with_up p s) hu fun y => by rw [mem_with]; exact ⟨fun h2 => h2.elim id fun e => e ▸ h, .inl⟩

/-- a list, anywhere -/
def At (l : List Str) (w : World) (e : Ending) (w' : World) : Prop := (∃ A c, e = .returned (.slice A l.length c) ∧ l.length ≤ c ∧ Rd w' A (SL l)) ∧ Below w.heap.size w w'

set_option maxRecDepth 100000 in
set_option maxHeartbeats 800000 in
theorem with_w (A : Option Addr) (c : Nat) (p : List Str) (s : Str) (w : World) (hr : Rd w A (SL p)) (hc : p.length ≤ c) (hu : Up p) (hl : p.length ≤ 2048) :
    Calls Try.prog 37 #[.slice A p.length c, .string ⟨s.toArray⟩] w (At (withL p s) w) := by
  obtain ⟨i0, hi0, hz0, hz1, hz2⟩ := info_parts infoS
  have HR := Lib.hid hr
  have HU := Lib.hid hu
  obtain ⟨n, hn⟩ : ∃ n, n = p.length := ⟨_, rfl⟩
  rw [← hn] at hc ⊢
  have HN := Lib.hid hn
  have hnI : (n : Int) ≤ 2048 := by omega
  clear hr hu hn
  go_enter Try.func37, Try.ntmps37
  go_wp2
  go_loopw [5, 6, 7] (fun v d i wr => ∃ (k : Nat) (b : Bool) (out : List Str), d = .bool b ∧ i = .int .i64 (k : Int) ∧ k ≤ n ∧ Wth p s k b out ∧ wr.ownsRow w.heap.size 9 1 v out.length (SL out) ∧ Below w.heap.size w wr) (fun _ _ i _ => n - (intOf i).toNat)
  case atStart => exact ⟨0, false, [], rfl, rfl, Nat.zero_le _, wth_zero p s, World.ownsRow_nil _ _ _ _, Below.refl _ _⟩
  case round =>
    obtain ⟨k, b, out, rfl, rfl, hk, hw, hown, hbw⟩ := hrel
    have HW := Lib.hid hw; have HO := Lib.hid hown; have HB := Lib.hid hbw
    have hsz := hbw.size
    have hlen := wth_len hw
    clear hown hw
    by_cases hlt : k < n
    · have hltI : (k : Int) < (n : Int) := by omega
      obtain ⟨x, hx⟩ : ∃ x, p[k]? = some x := ⟨p[k]'(by rw [← HN.out]; exact hlt), List.getElem?_eq_getElem _⟩
      obtain ⟨a, rfl, _, hcell⟩ := sl_cell (HR.out.below hbw) hx
      rcases tri x s with h | ⟨h, he⟩ | ⟨h, he, h2⟩
      · have hxs : (x == s) = false := by rw [eq_mk]; exact decide_eq_false (fun e => by rw [e] at h; exact List.lt_irrefl _ h)
        have hl1 : Op.bytesLess x s = true := by rw [less_mk]; exact decide_eq_true h
        cases b with
        | false =>
          have HW2 := Lib.hid (wth_next hx h HW.out)
          clear hx h hbw
          go_wp2_with (at_builtin; refine wpList_app _ rfl (.tmp 35) (.tmp 40) _ rfl w.heap.size 9 i0 _ 1 16 Try.underlying22 hi0 hz0 hz1 hz2 rfl (by omega) _ out.length (SL out) rfl (HO.out.alloc _) _ 1 1 [_] rfl rfl (rd_blk (heap_alloc_new wr _) (k := 1) rfl) (by simp [Value.oneCell']) (by simp only [maxLen]; omega) (by omega) (by first | (simp; omega) | (have := hb1.size; simp at this ⊢; omega)) ?_; intro v2 w2 hown2 hg2 hb2 hat2; clear hg2 hat2)
          have hown3 : w2.ownsRow w.heap.size 9 1 v2 (out ++ [x]).length (SL (out ++ [x])) := by rw [List.length_append, SL_app]; exact hown2
          have HB2 := Lib.hid ((HB.out.alloc hsz _).trans hb2)
          clear hown2 hb2
          go_roundw
          case rel => exact ⟨k + 1, false, _, rfl, by go_num, by omega, HW2.out, hown3, HB2.out⟩
          case measure => simp [intOf]; omega
        | true =>
          have HW2 := Lib.hid (wth_done HU.out hx HW.out)
          clear hx h hbw
          go_wp2_with (at_builtin; refine wpList_app _ rfl (.tmp 35) (.tmp 40) _ rfl w.heap.size 9 i0 _ 1 16 Try.underlying22 hi0 hz0 hz1 hz2 rfl (by omega) _ out.length (SL out) rfl (HO.out.alloc _) _ 1 1 [_] rfl rfl (rd_blk (heap_alloc_new wr _) (k := 1) rfl) (by simp [Value.oneCell']) (by simp only [maxLen]; omega) (by omega) (by first | (simp; omega) | (have := hb1.size; simp at this ⊢; omega)) ?_; intro v2 w2 hown2 hg2 hb2 hat2; clear hg2 hat2)
          have hown3 : w2.ownsRow w.heap.size 9 1 v2 (out ++ [x]).length (SL (out ++ [x])) := by rw [List.length_append, SL_app]; exact hown2
          have HB2 := Lib.hid ((HB.out.alloc hsz _).trans hb2)
          clear hown2 hb2
          go_roundw
          case rel => exact ⟨k + 1, true, _, rfl, by go_num, by omega, HW2.out, hown3, HB2.out⟩
          case measure => simp [intOf]; omega
      · have hxs : (x == s) = true := by rw [eq_mk]; exact decide_eq_true he
        have HE := Lib.hid (with_had HU.out (he ▸ List.mem_of_getElem? hx))
        clear hx h he hbw
        go_wp2
        have hfin : At (withL p s) w (.returned (.slice (some a) n c)) wr := by
          rw [HE.out]; unfold At; rw [← HN.out]
          exact ⟨⟨_, c, rfl, hc, HR.out.below HB.out⟩, HB.out⟩
        go_ret
        exact hfin
      · have hxs : (x == s) = false := by rw [eq_mk]; exact decide_eq_false he
        have hl1 : Op.bytesLess x s = false := by rw [less_mk]; exact decide_eq_false h
        cases b with
        | false =>
          have HW2 := Lib.hid (wth_laid HU.out hx h2 HW.out)
          have HX := Lib.hid hx
          clear hx h he h2 hbw
          go_wp2_with (first | (at_builtin; refine wpList_app _ rfl (.tmp 31) (.tmp 33) _ rfl w.heap.size 9 i0 _ 1 16 Try.underlying22 hi0 hz0 hz1 hz2 rfl (by omega) _ out.length (SL out) rfl (HO.out.alloc _) _ 1 1 [_] rfl rfl (rd_blk (heap_alloc_new wr _) (k := 1) rfl) (by simp [Value.oneCell']) (by simp only [maxLen]; omega) (by omega) (by first | (simp; omega) | (have := hb1.size; simp at this ⊢; omega)) ?_; intro v1 w1 hown1 hg1 hb1 hat1; clear hg1 hat1; obtain ⟨a1, ha1, _, hcell1⟩ := sl_cell (HR.out.below ((HB.out.alloc hsz _).trans hb1)) HX.out; cases ha1; clear hcell) | (at_builtin; refine wpList_app _ rfl (.tmp 35) (.tmp 40) _ rfl w.heap.size 9 i0 _ 1 16 Try.underlying22 hi0 hz0 hz1 hz2 rfl (by omega) _ (out.length + 1) (SL out ++ [.string ⟨s.toArray⟩]) rfl (hown1.alloc _) _ 1 1 [_] rfl rfl (rd_blk (heap_alloc_new w1 _) (k := 1) rfl) (by simp [Value.oneCell']) (by simp only [maxLen]; omega) (by omega) (by first | (simp; omega) | (have := hb1.size; simp at this ⊢; omega)) ?_; intro v2 w2 hown2 hg2 hb2 hat2; clear hg2 hat2) | go_in)
          have hown3 : w2.ownsRow w.heap.size 9 1 v2 (out ++ [s] ++ [x]).length (SL (out ++ [s] ++ [x])) := by rw [List.length_append, List.length_append, SL_app, SL_app]; exact hown2
          have HB1 := Lib.hid ((HB.out.alloc hsz _).trans hb1)
          have HB2 := Lib.hid ((HB1.out.alloc HB1.out.size _).trans hb2)
          clear hown2 hb2 hb1 hown1
          go_roundw
          case rel => exact ⟨k + 1, true, _, rfl, by go_num, by omega, HW2.out, hown3, HB2.out⟩
          case measure => simp [intOf]; omega
        | true =>
          have HW2 := Lib.hid (wth_done HU.out hx HW.out)
          clear hx h he h2 hbw
          go_wp2_with (at_builtin; refine wpList_app _ rfl (.tmp 35) (.tmp 40) _ rfl w.heap.size 9 i0 _ 1 16 Try.underlying22 hi0 hz0 hz1 hz2 rfl (by omega) _ out.length (SL out) rfl (HO.out.alloc _) _ 1 1 [_] rfl rfl (rd_blk (heap_alloc_new wr _) (k := 1) rfl) (by simp [Value.oneCell']) (by simp only [maxLen]; omega) (by omega) (by first | (simp; omega) | (have := hb1.size; simp at this ⊢; omega)) ?_; intro v2 w2 hown2 hg2 hb2 hat2; clear hg2 hat2)
          have hown3 : w2.ownsRow w.heap.size 9 1 v2 (out ++ [x]).length (SL (out ++ [x])) := by rw [List.length_append, SL_app]; exact hown2
          have HB2 := Lib.hid ((HB.out.alloc hsz _).trans hb2)
          clear hown2 hb2
          go_roundw
          case rel => exact ⟨k + 1, true, _, rfl, by go_num, by omega, HW2.out, hown3, HB2.out⟩
          case measure => simp [intOf]; omega
    · have hltI : ¬ (k : Int) < (n : Int) := by omega
      obtain rfl : k = n := by omega
      have hw := HW.out
      rw [HN.out] at hw
      cases b with
      | true =>
        have HE := Lib.hid (wth_end hw)
        obtain ⟨A2, c2, rfl, hc2, -, hr2⟩ := own_rd HO.out
        have HR2 := Lib.hid hr2
        clear hw hbw hr2
        go_wp2
        go_ret
        rw [← HE.out]
        exact ⟨⟨A2, c2, rfl, hc2, HR2.out⟩, HB.out⟩
      | false =>
        have HE := Lib.hid (wth_last HU.out hw)
        clear hw hbw
        go_wp2_with (at_builtin; refine wpList_app _ rfl (.tmp 44) (.tmp 46) _ rfl w.heap.size 9 i0 _ 1 16 Try.underlying22 hi0 hz0 hz1 hz2 rfl (by omega) _ out.length (SL out) rfl (HO.out.alloc _) _ 1 1 [_] rfl rfl (rd_blk (heap_alloc_new wr _) (k := 1) rfl) (by simp [Value.oneCell']) (by simp only [maxLen]; omega) (by omega) (by first | (simp; omega) | (have := hb1.size; simp at this ⊢; omega)) ?_; intro v2 w2 hown2 hg2 hb2 hat2; clear hg2 hat2)
        have HB2 := Lib.hid ((HB.out.alloc hsz _).trans hb2)
        obtain ⟨A2, c2, rfl, hc2, -, hr2⟩ := own_rd hown2
        have HR2 := Lib.hid hr2
        clear hown2 hb2 hr2
        go_ret
        rw [← HE.out]
        refine ⟨⟨A2, c2, ?_, ?_, ?_⟩, HB2.out⟩
        · rw [List.length_append]; rfl
        · rw [List.length_append]; exact hc2
        · rw [SL_app]; exact HR2.out
end Go.Proofs.Ytjkfjecdgpgkiaa.pool

/-
  Layer 5: the pool of some strings: the program's answer.
-/
import Derived.Test.YtdenpefihplnoaaPoolP
import Derived.Test.YtdenpefihplnoaaTexts
import Derived.Test.YtdenpefihplnoaaShelf
import Derived.Maps.OwnSet
import Derived.Maps.AppendAt
import Derived.WalkKit
import Derived.WalkLawsBesides
namespace Go.Proofs.Ytdenpefihplnoaa.pool
open Go.RowKit Go.Maps Go.WideMaps Go.Proofs
open Go.Sort (Holds putRow grow holds_putRow holds_ahead size_grow heap_grow_old cell?_grow)
open Go.Proofs.Ytdenpefihplnoaa.words Go.Proofs.Ytdenpefihplnoaa.poolp

/-- strings, as cells -/
def SL (l : List Str) : List Value := l.map fun x => Value.string ⟨x.toArray⟩
theorem SL_len (l : List Str) : (SL l).length = l.length := by simp [SL]
theorem SL_app (l r : List Str) : SL (l ++ r) = SL l ++ SL r := by simp [SL]
theorem SL_at {l : List Str} {j : Nat} {c : Str} (h : l[j]? = some c) : (SL l)[j]? = some (.string ⟨c.toArray⟩) := by simp [SL, h]
theorem sl_cell {w : World} {A : Option Addr} {l : List Str} (h : Rd w A (SL l)) {k : Nat} {x : Str} (hx : l[k]? = some x) : ∃ a, A = some a ∧ a.block < w.heap.size ∧ w.cell? (a.add k) = some (.string ⟨x.toArray⟩) := h.at_ (SL_at hx)
theorem mk_toList (x : Str) : (⟨x.toArray⟩ : ByteArray).toList = x := by rw [Lib.toList_data]
theorem mk_size (x : Str) : (⟨x.toArray⟩ : ByteArray).size = x.length := by show x.toArray.size = _; simp
/-- the set of what has been met -/
def seen (acc : List Str) : DataW Unit := setOf (.agg []) (acc.map Lit.string)
theorem seen_snoc (acc : List Str) (x : Str) : seen (acc ++ [x]) = (seen acc).put (.string x) (.agg []) := by
  unfold seen; rw [List.map_append]; exact setOf_snoc _ _ _
theorem seen_has (acc : List Str) (x : Str) : Maps.has (seen acc) (.string x) = acc.contains x := by
  unfold seen
  rw [has_setOf _ _ _ (by intro y hy; obtain ⟨z, _, rfl⟩ := List.mem_map.1 hy; exact trivial), List.any_map, Bool.eq_iff_iff, List.any_eq_true, List.contains_iff_mem]
  constructor
  · rintro ⟨y, hy, h⟩
    have : y = x := by simpa [Lit.sameKey] using h
    rw [← this]; exact hy
  · intro h
    exact ⟨x, h, by simp [Lit.sameKey]⟩

set_option maxRecDepth 100000 in
theorem lawS : Keyed Try.prog 9 := string_keyed Try.underlying9
set_option maxRecDepth 100000 in
theorem zeroU (w : World) : (zeroValue 47).run Try.prog w = .ok (.agg #[]) w := by kernel_rfl
set_option maxRecDepth 100000 in
theorem infoS : (Try.prog.info? 9).map (fun i => (i.zero, i.size, i.bytes)) = some (some (.string ByteArray.empty), 1, 16) := by kernel_rfl

theorem row_ne {w : World} {base : Nat} {e : TypeId} {size : Nat} {v : Value} {n : Nat} {xs : List Value} (h : w.ownsRow base e size v n xs) {b : Nat} (hb : b < base) : some b ≠ v.ownBlock := fun e1 => by
  have := (h.lt b e1.symm).1; omega
/-- what Make answers -/
def Made (l : List Str) (w : World) (e : Ending) (w' : World) : Prop :=
  (∃ A c, e = .returned (.tuple #[.slice A (makeL l).length c, .int .i64 (if bad l = true then 3 else 0)]) ∧ (makeL l).length ≤ c ∧ Rd w' A (SL (makeL l))) ∧ Below w.heap.size w w'
theorem made_bad {l : List Str} (h : bad l = true) {w w' : World} (hb : Below w.heap.size w w') : Made l w (.returned (.tuple #[.slice none 0 0, .int .i64 3])) w' := by
  unfold Made
  rw [if_pos h, make_bad h]
  exact ⟨⟨none, 0, rfl, Nat.le_refl _, .inl rfl⟩, hb⟩
theorem holds_own {w : World} {base g cap : Nat} {l : List Str} (h : w.ownsRow base 9 1 (.slice (some ⟨g, 0, none⟩) l.length cap) l.length (SL l)) : Holds encStr w g 0 l.toArray := by
  intro j hj
  have hj' : j < l.length := by simpa using hj
  have hx : l[j]? = some l[j] := List.getElem?_eq_getElem hj'
  have hc := h.cells (g := g) rfl j _ (SL_at hx)
  rw [add_zero_off] at hc
  refine ⟨?_, ?_⟩
  · rw [Nat.zero_add, hc]
    simp [encStr, hj']
  · rcases h.2 with ⟨h0, _⟩ | ⟨g', cap', cur, h0, _, hg, _⟩
    · cases h0
    · cases h0
      exact frozen_of_row w g _ _ _ hg
/-- behind the sort -/
theorem sorted_row {w : World} {g n : Nat} {l : List Str} {os : Array Obj} (h : Holds encStr w g 0 l.toArray) (hg : g < w.heap.size) :
    Below g w (grow (putRow encStr (Sort.ahead w n) g 0 (l.mergeSort fun x y => decide (x ≤ y)).toArray) os) ∧ Rd (grow (putRow encStr (Sort.ahead w n) g 0 (l.mergeSort fun x y => decide (x ≤ y)).toArray) os) (some ⟨g, 0, none⟩) (SL (l.mergeSort leB)) := by
  have hlen : (l.mergeSort fun x y => decide (x ≤ y)).length = l.length := (List.mergeSort_perm l _).length_eq
  generalize (l.mergeSort fun x y => decide (x ≤ y)) = q at *
  have hh : Holds encStr (putRow encStr (Sort.ahead w n) g 0 q.toArray) g 0 q.toArray := holds_putRow encStr _ g 0 l.toArray q.toArray (holds_ahead encStr w n g 0 l.toArray h) (by simpa using hlen)
  have hs : (putRow encStr (Sort.ahead w n) g 0 q.toArray).heap.size = w.heap.size := by simp
  refine ⟨⟨rfl, rfl, rfl, by rw [size_grow, hs]; omega, fun k hk => ?_⟩, .inr ⟨_, rfl, by rw [size_grow, hs]; show g < _; omega, fun j u hu => ?_⟩⟩
  · rw [heap_grow_old _ _ (by rw [hs]; omega)]
    show ((Sort.ahead w n).heap.modify g _)[k]? = _
    rw [Array.getElem?_modify, if_neg (by omega)]
    rfl
  · rw [add_zero_off]
    have hj : j < q.length := by
      rcases Nat.lt_or_ge j q.length with h1 | h1
      · exact h1
      · rw [List.getElem?_eq_none (by rw [SL_len]; exact h1)] at hu; cases hu
    rw [cell?_grow _ _ _ (by rw [hs]; exact hg)]
    have := (hh j (by simpa using hj)).1
    rw [Nat.zero_add] at this
    rw [this]
    rw [SL_at (List.getElem?_eq_getElem hj)] at hu
    cases hu
    simp [encStr, hj]

set_option maxRecDepth 100000 in
set_option maxHeartbeats 2000000 in
theorem make_w (A : Option Addr) (c : Nat) (l : List Str) (w : World) (hr : Rd w A (SL l)) (hl : l.length ≤ 1048576) (hsz : ∀ x ∈ l, x.length ≤ 140737488355328) :
    Calls Try.prog 7 #[.slice A l.length c] w (Made l w) := by
  have hmm := @run_makeMap Try.prog
  obtain ⟨i0, hi, hz0, hz1, hz2⟩ := info_parts infoS
  have HR := Lib.hid hr
  have HSZ := Lib.hid hsz
  obtain ⟨n, hn⟩ : ∃ n, n = l.length := ⟨_, rfl⟩
  rw [← hn]
  have hnI : (n : Int) ≤ 1048576 := by omega
  have HN := Lib.hid hn
  clear hr hl hsz hn
  go_enter Try.func7, Try.ntmps7
  go_wp2
  go_loopw [4, 13] (fun v i wr => ∃ (k : Nat), i = .int .i64 (k : Int) ∧ k ≤ n ∧ wr.ownsMap Try.prog 9 unitElem w.heap.size k (seen (nub (l.take k))) ∧ wr.ownsRow (w.heap.size + 1) 9 1 v (nub (l.take k)).length (SL (nub (l.take k))) ∧
      (∀ x ∈ nub (l.take k), x.length ≤ 64) ∧ (nub (l.take k)).length ≤ 1024 ∧ Below w.heap.size w wr ∧ w.heap.size + 1 ≤ wr.heap.size) (fun _ i _ => n - (intOf i).toNat)
  case atStart => exact ⟨0, rfl, Nat.zero_le _, World.ownsMap_made _ _ _ _, World.ownsRow_nil _ _ _ _, by simp [nub], by simp [nub], (Below.refl _ _).alloc (Nat.le_refl _) _, by simp⟩
  case round =>
    obtain ⟨k, rfl, hk, hown, hrow, h64, h1024, hb, hs1⟩ := hrel
    have HM := Lib.hid hown; have HO := Lib.hid hrow; have H64 := Lib.hid h64; have H10 := Lib.hid h1024; have HB := Lib.hid hb
    clear hown hrow h64
    by_cases hlt : k < n
    · have hltI : (k : Int) < (n : Int) := by omega
      obtain ⟨x, hx⟩ : ∃ x, l[k]? = some x := ⟨l[k]'(by rw [← HN.out]; exact hlt), List.getElem?_eq_getElem _⟩
      obtain ⟨a, rfl, _, hcell⟩ := sl_cell (HR.out.below hb) hx
      have HX := Lib.hid hx
      have hxz := HSZ.out x (List.mem_of_getElem? hx)
      have hkey : keyOf Try.prog 9 (.string ⟨x.toArray⟩) = some (.string x) := by
        have := keyOf_string_mk (s := ⟨x.toArray⟩) Try.underlying9 (by rw [mk_size]; unfold maxLen; omega)
        simpa using this
      have hxI : (x.length : Int) ≤ 140737488355328 := by omega
      have hms := mk_size x
      have hal := H10.out
      have HT := Lib.hid (nub_take hx)
      cases hct : (nub (l.take k)).contains x with
      | true =>
        have hhas : Maps.has (seen (nub (l.take k))) (.string x) = true := by rw [seen_has, hct]
        have HE := Lib.hid (show nub (l.take (k + 1)) = nub (l.take k) by rw [HT.out]; unfold add; rw [hct]; rfl)
        clear hct HT hx hms hb
        go_wp2_with (first
          | (at_lookup; refine wpList_lookup_own_unit _ rfl _ _ 46 rfl 9 47 lawS Try.underlying46 (zeroU _) w.heap.size k _ rfl HM.out _ _ rfl hkey ?_)
          | go_in)
        go_roundw
        case rel => exact ⟨k + 1, by go_num, by omega, by rw [HE.out]; exact (HM.out.alloc _).mono (Nat.le_succ _), by rw [HE.out]; exact HO.out.alloc _, by rw [HE.out]; exact H64.out, by rw [HE.out]; exact H10.out, HB.out.alloc HB.out.size _, by simp; omega⟩
        case measure => simp [intOf]; omega
      | false =>
        have hhas : Maps.has (seen (nub (l.take k))) (.string x) = false := by rw [seen_has, hct]
        by_cases hbad : 64 < x.length ∨ (nub (l.take k)).length = 1024
        · have hbb : bad l = true := by
            rcases hbad with h | h
            · exact bad_wide (List.mem_of_getElem? HX.out) h
            · exact bad_much HX.out hct h
          have HBB := Lib.hid hbb
          have hcase : (64 : Int) < (x.length : Int) ∨ (¬ (64 : Int) < (x.length : Int) ∧ ((nub (l.take k)).length : Int) = 1024) := by omega
          obtain ⟨A2, c2, hv, -, -, -⟩ := own_rd HO.out
          subst hv
          clear hct HT hx hb hbb hbad
          rcases hcase with h1 | ⟨h1, h2⟩
          · go_wp2_with (first
              | (at_lookup; refine wpList_lookup_own_unit _ rfl _ _ 46 rfl 9 47 lawS Try.underlying46 (zeroU _) w.heap.size k _ rfl HM.out _ _ rfl hkey ?_)
              | go_in)
            go_ret2
            exact made_bad HBB.out (HB.out.alloc HB.out.size _)
          · have h3 : (((nub (l.take k)).length : Int) == 1024) = true := by simpa using h2
            go_wp2_with (first
              | (at_lookup; refine wpList_lookup_own_unit _ rfl _ _ 46 rfl 9 47 lawS Try.underlying46 (zeroU _) w.heap.size k _ rfl HM.out _ _ rfl hkey ?_)
              | go_in)
            go_ret2
            exact made_bad HBB.out (HB.out.alloc HB.out.size _)
        · have h1 : ¬ (64 : Int) < (x.length : Int) := by omega
          have h2 : ¬ ((nub (l.take k)).length : Int) = 1024 := by omega
          have h3 : (((nub (l.take k)).length : Int) == 1024) = false := by simpa using h2
          have HE := Lib.hid (show nub (l.take (k + 1)) = nub (l.take k) ++ [x] by rw [HT.out]; unfold add; rw [hct]; rfl)
          have hln : (nub (l.take k)).length ≤ 1023 := by omega
          have hlx : x.length ≤ 64 := by omega
          obtain ⟨A2, c2, hv, -, -, -⟩ := own_rd HO.out
          subst hv
          clear hct HT hx hb hbad
          go_wp2_with (first
            | (at_lookup; refine wpList_lookup_own_unit _ rfl _ _ 46 rfl 9 47 lawS Try.underlying46 (zeroU _) w.heap.size k _ rfl HM.out _ _ rfl hkey ?_)
            | (at_mapUpdate; refine wpList_mapUpdate_own _ rfl _ _ _ 46 rfl 9 47 lawS Try.underlying46 (unitElem (H := Unit)) w.heap.size k _ rfl (HM.out.alloc _) (by unfold maxLen; omega) _ _ _ rfl rfl hkey _ [] unitElem_mk ?_; intro w1 hown1 hgrow1)
            | (at_builtin; refine wpList_append_own _ rfl _ _ 23 rfl (w.heap.size + 1) 9 i0 (.string ByteArray.empty) 1 16 Try.underlying23 hi hz0 hz1 hz2 rfl (by decide) _ _ _ rfl (((HO.out.alloc _).kept hgrow1 (Or.inr (row_ne HO.out (Nat.lt_succ_self _)).symm)).alloc _) ⟨w1.heap.size, 0, none⟩ 1 1 [.string ⟨x.toArray⟩] rfl rfl (cell_one_new _ _ _) (by simp [Value.oneCell']) (by unfold maxLen; omega) (by omega) (by have := hgrow1.size; simp at this ⊢; omega) ?_; intro v' w2 hown' hgrow2 hnil2)
            | go_in)
          have hr1 := (HO.out.alloc (.cells #[] 47)).kept hgrow1 (Or.inr (row_ne HO.out (Nat.lt_succ_self _)).symm)
          have s1 := hgrow1.size
          have s2 := hgrow2.size
          simp at s1 s2
          have hb0 := HB.out.size
          have hm2 : w2.ownsMap Try.prog 9 unitElem w.heap.size (k + 1) (seen (nub (l.take (k + 1)))) := by
            rw [HE.out, seen_snoc]
            exact (hown1.alloc _).kept hgrow2 (row_ne hr1 (Nat.lt_succ_self _))
          have hr2 : w2.ownsRow (w.heap.size + 1) 9 1 v' (nub (l.take (k + 1))).length (SL (nub (l.take (k + 1)))) := by
            rw [HE.out, List.length_append, SL_app]; exact hown'
          have hb2 : Below w.heap.size w w2 := ((((HB.out.alloc hb0 _).grown hgrow1 (by simp; omega) (fun j hj => by cases hj; exact Nat.le_refl _)).alloc (by omega) _).grown hgrow2 (by simp; omega) (fun j hj => Nat.le_trans (Nat.le_succ _) (hr1.lt j hj).1))
          have h64' : ∀ y ∈ nub (l.take (k + 1)), y.length ≤ 64 := by
            rw [HE.out]
            intro y hy
            rcases List.mem_append.1 hy with h | h
            · exact H64.out y h
            · rw [List.mem_singleton.1 h]; exact hlx
          have h10' : (nub (l.take (k + 1))).length ≤ 1024 := by rw [HE.out, List.length_append]; simp; omega
          have HF := Lib.hid (And.intro hm2 (And.intro hr2 (And.intro h64' (And.intro h10' hb2))))
          clear hm2 hr2 hb2 h64' h10' hown' hown1 hr1
          go_roundw
          case rel => exact ⟨k + 1, by go_num, by omega, HF.out.1, HF.out.2.1, HF.out.2.2.1, HF.out.2.2.2.1, HF.out.2.2.2.2, by omega⟩
          case measure => simp [intOf]; omega
    · have hltI : ¬ (k : Int) < (n : Int) := by omega
      have htk : l.take k = l := List.take_of_length_le (by rw [← HN.out]; omega)
      have hrow := HO.out
      have hok := not_bad (l := l) (by rw [← htk]; exact H64.out) (by rw [← htk]; exact H10.out)
      rw [htk] at hrow
      have hlen : (makeL l).length = (nub l).length := by unfold makeL; rw [if_neg (by rw [hok]; simp), (List.mergeSort_perm (nub l) leB).length_eq]
      have HOK := Lib.hid hok
      have HLEN := Lib.hid hlen
      have hnl := nub_len l
      rw [← HN.out] at hnl
      clear hok hlen hb
      rcases hrow.2 with ⟨rfl, hnil⟩ | ⟨g, cap, cur, rfl, hg0, hgh, hgc, _⟩
      · have hn0 : nub l = [] := List.eq_nil_of_length_eq_zero hnil
        have HS := Lib.hid (Try.slices_Sort_string_none none 0 wr)
        have HN0 := Lib.hid hn0
        clear hn0 hnil hrow htk
        go_wp2_with fail
        refine HS.out.mono ?_
        rintro e w' ⟨rfl, rfl⟩
        clear HS
        go_wp2
        go_ret2
        have hm0 : makeL l = [] := List.eq_nil_of_length_eq_zero (by rw [HLEN.out, HN0.out]; rfl)
        unfold Made
        rw [if_neg (by rw [HOK.out]; simp), hm0]
        exact ⟨⟨none, 0, rfl, Nat.le_refl _, .inl rfl⟩, HB.out⟩
      · have hho := holds_own hrow
        have HS := Lib.hid (Try.slices_Sort_string g 0 cap (nub l) wr hho (blk_lt hgh) (by omega))
        have HR2 := Lib.hid (fun n os => sorted_row (n := n) (os := os) hho (blk_lt hgh))
        have hgw : w.heap.size ≤ g := by omega
        clear hrow htk hho
        go_wp2_with fail
        refine HS.out.mono ?_
        rintro e w' ⟨rfl, q, os, rfl⟩
        obtain ⟨hbs, hrs⟩ := HR2.out q os
        have HBS := Lib.hid hbs; have HRS := Lib.hid hrs
        clear hbs hrs HS HR2
        go_wp2
        go_ret2
        unfold Made
        rw [if_neg (by rw [HOK.out]; simp), HLEN.out]
        refine ⟨⟨some ⟨g, 0, none⟩, cap, rfl, hgc, ?_⟩, HB.out.trans (HBS.out.mono hgw)⟩
        unfold makeL
        rw [if_neg (by rw [HOK.out]; simp)]
        exact HRS.out
end Go.Proofs.Ytdenpefihplnoaa.pool

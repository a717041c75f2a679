/-
  Layer 6, the document's answers: the classes that a descriptor names, and whether two lists of types are the same.
-/
import Derived.Test.YtchhibicbgimcaaDoorRef
namespace Go.Proofs.YtchhibicbgimcaaDoor.kind
open Go.RowKit
open Go.Proofs.YtchhibicbgimcaaDoor.words Go.Proofs.YtchhibicbgimcaaDoor.kindp Go.Proofs.YtchhibicbgimcaaDoor.word Go.Proofs.YtchhibicbgimcaaDoor.rdr Go.Proofs.YtchhibicbgimcaaDoor.piece

set_option maxRecDepth 100000 in
set_option maxHeartbeats 1600000 in
theorem types_same (A C : Option Addr) (c d : Nat) (l : List Ty) (w : World) (h1 : Rd w A (TL l)) (h2 : Rd w C (TL l)) (hl : l.length ≤ 281474976710656) :
    Calls Tryd.prog 21 #[.slice A l.length c, .slice C l.length d] w fun e w' => e = .returned (.bool true) ∧ ∃ q, w' = w.drewN q := by
  obtain ⟨n, hn⟩ : ∃ n, n = l.length := ⟨_, rfl⟩
  rw [← hn] at hl ⊢
  have hnI : (n : Int) ≤ 281474976710656 := by omega
  have hnn : ((n : Int) != n) = false := by simp
  clear hl
  go_enter Tryd.func21, Tryd.ntmps21
  go_wp2
  go_loopw [5] (fun i wr => ∃ k : Nat, k ≤ n ∧ i = .int .i64 (k : Int) ∧ ∃ q, wr = w.drewN q) (fun i _ => n - (intOf i).toNat)
  case atStart => exact ⟨0, Nat.zero_le _, rfl, 0, rfl⟩
  case round =>
    obtain ⟨k, hk, rfl, q, rfl⟩ := hrel
    by_cases hlt : k < n
    · have hltI : (k : Int) < (n : Int) := by omega
      obtain ⟨⟨kd, cl⟩, hx⟩ : ∃ x, l[k]? = some x := ⟨l[k]'(by omega), List.getElem?_eq_getElem (by omega)⟩
      obtain ⟨a, rfl, _, a0, a1⟩ := tl_cell h1 hx
      obtain ⟨b, rfl, _, b0, b1⟩ := tl_cell h2 hx
      dsimp only at a0 a1 b0 b1
      have e0 : (kd == kd) = true := by simp
      have e1 : (cl == cl) = true := by simp
      clear h1 h2 hx hn
      go_wp2
      go_quiet (fail)
      go_wp2
      go_roundw
      case rel => exact ⟨k + 1, by omega, by go_num, _, rfl⟩
      case measure => simp [intOf]; omega
    · have hltI : ¬ (k : Int) < (n : Int) := by omega
      go_wp2
      go_ret
      exact ⟨rfl, q, rfl⟩

theorem split_bad {d : Tx} (h : ¬ (splitT d).2.2 = 0) : (splitT d).1 = [] ∧ (splitT d).2.1 = (0, []) := by
  unfold splitT at h ⊢
  split
  · exact ⟨rfl, rfl⟩
  · rename_i h64
    rw [if_neg h64] at h
    cases hq : sigD d with
    | none => exact ⟨rfl, rfl⟩
    | some q =>
      rw [hq] at h
      dsimp only at h ⊢
      split
      · exact ⟨rfl, rfl⟩
      · rename_i h8
        rw [if_neg h8] at h
        exact absurd rfl h
theorem right_cls {t : Ty} (h : rightT t = true) : (t.2 = [] ↔ hasB t.1 = false) := by
  rcases right_cases h with rfl | rfl | rfl | ⟨c, rfl, hc⟩ | ⟨c, rfl, hc⟩
  · exact ⟨fun _ => rfl, fun _ => rfl⟩
  · exact ⟨fun _ => rfl, fun _ => rfl⟩
  · exact ⟨fun _ => rfl, fun _ => rfl⟩
  · exact ⟨fun e => absurd e (cls_ne hc), fun e => by cases e⟩
  · exact ⟨fun e => absurd e (cls_ne hc), fun e => by cases e⟩
theorem split_right {d : Tx} (he : (splitT d).2.2 = 0) : ∀ t ∈ (splitT d).1 ++ [(splitT d).2.1], rightT t = true := by
  have h := desc_split (d := d) (t := (splitT d).2.1) (p := (splitT d).1) (Prod.ext rfl (Prod.ext rfl he))
  intro t ht
  rw [List.mem_append, List.mem_singleton] at ht
  rcases ht with ht | rfl
  · have := h.2.2 t ht
    unfold wrongT at this
    rw [Bool.or_eq_false_iff, Bool.not_eq_false'] at this
    exact this.2
  · exact h.2.1

set_option maxRecDepth 100000 in
set_option maxHeartbeats 4000000 in
theorem classes_r (s : ByteArray) (w : World) (hs : s.size ≤ 140737488355328) :
    Calls Tryd.prog 26 #[.string s] w (ClsW (classesT s.data.toList) w) := by
  have hS := split_r s w hs
  generalize s.data.toList = S at hS ⊢
  have hC : classesT S = clsL ((splitT S).1 ++ [(splitT S).2.1]) := rfl
  have hbad := split_bad (d := S)
  have hrt := split_right (d := S)
  have h8 := split_len S
  unfold SplitW at hS
  obtain ⟨x, hx⟩ : ∃ x, x = splitT S := ⟨_, rfl⟩
  rw [← hx] at hS hC h8 hbad hrt
  obtain ⟨p, ⟨k, c⟩, er⟩ := x
  dsimp only at hS hC h8 hbad hrt
  have HS := Lib.hid hS
  by_cases he : er = 0
  · subst he
    have hrt := hrt rfl
    obtain ⟨i0, hi0, hz0, hz1, hz2⟩ := info_parts infoT
    obtain ⟨i1, hj0, hy0, hy1, hy2⟩ := info_parts infoX
    have HC := Lib.hid hC
    obtain ⟨all, hall⟩ : ∃ all, all = p ++ [((k, c) : Ty)] := ⟨_, rfl⟩
    rw [← hall] at HC hrt
    obtain ⟨n, hn⟩ : ∃ n, n = p.length := ⟨_, rfl⟩
    rw [← hn] at HS h8
    have hal : all.length = n + 1 := by rw [hall, List.length_append, hn]; rfl
    have HAL := Lib.hid hal; have HLL := Lib.hid hall; have HRT := Lib.hid hrt
    have HTN := Lib.hid (show (TL p).length = n * 2 by rw [TL_len, hn])
    have hnI : (n : Int) ≤ 8 := by omega
    clear hS hC hx hall hn hal hs hbad hrt
    go_enter Tryd.func26, Tryd.ntmps26
    go_wp2_with fail
    refine HS.out.mono ?_
    rintro e w1 ⟨⟨A, cc, rfl, hown⟩, hb1⟩
    obtain ⟨_, _, e1, _, _, hrd⟩ := own_rd hown
    cases e1
    have hal6 : Below w1.heap.size w1 (w1.alloc (.cells #[.int .i64 k, .string ⟨c.toArray⟩] 24)) := (Below.refl _ _).alloc (Nat.le_refl _) _
    have HRP := Lib.hid (hrd.below hal6); have HB := Lib.hid hb1
    have HNW := Lib.hid (heap_alloc_new w1 (.cells #[.int .i64 k, .string ⟨c.toArray⟩] 24))
    have HAL6 := Lib.hid hal6
    have hsz1 := hb1.size
    clear hown hb1 hrd hal6
    have HONE := Lib.hid (TL_cells p)
    go_wp2_with (first | (at_builtin; refine wpList_app _ rfl (.tmp 17) (.tmp 18) _ rfl (w1.heap.size + 1) 24 i0 _ 2 24 Tryd.underlying33 hi0 hz0 hz1 hz2 rfl (by omega) _ 0 [] rfl (World.ownsRow_nil _ _ _ _) A n cc (TL p) rfl HTN.out HRP.out HONE.out (by simp only [maxLen]; omega) (by omega) (by simp) ?_; intro v7 w7 hown7 hg7 hb7 hat7; clear hat7 hg7; rw [Nat.zero_add, List.nil_append] at hown7; obtain ⟨A7, cc7, rfl, _, _, _⟩ := own_rd hown7; have hce := (hb7.block w1.heap.size (by omega)).trans HNW.out; have c0 : w7.cell? ⟨w1.heap.size, 0, none⟩ = some (.int .i64 k) := cell_of_row _ _ _ _ _ _ hce; have c1 : w7.cell? ⟨w1.heap.size, 1, none⟩ = some (.string ⟨c.toArray⟩) := cell_of_row _ _ _ _ _ _ hce) | (at_builtin; refine wpList_app _ rfl (.tmp 20) (.tmp 22) _ rfl (w1.heap.size + 1) 24 i0 _ 2 24 Tryd.underlying33 hi0 hz0 hz1 hz2 rfl (by omega) _ n (TL p) rfl (hown7.alloc _) _ 1 1 [.int .i64 k, .string ⟨c.toArray⟩] rfl rfl (rd_blk (heap_alloc_new w7 _) (k := 2) rfl) (by simp [Value.oneCell']) (by simp only [maxLen]; omega) (by omega) (by have := hb7.size; simp at this ⊢; omega) ?_; intro v8 w8 hown8 hg8 hb8 hat8; clear hat8 hg8; obtain ⟨A8, cc8, rfl, _, _, hrd8⟩ := own_rd hown8))
    have hrd9 : Rd w8 A8 (TL all) := by rw [HLL.out, TL_app]; exact hrd8
    have HR8 := Lib.hid hrd9
    have hbb := (hb7.alloc (by have := hb7.size; simp at this ⊢; omega) (.cells #[.int .i64 k, .string ⟨c.toArray⟩] 24)).trans hb8
    have HB8 := Lib.hid (HB.out.trans ((HAL6.out.trans (hbb.mono (by simp))).mono hsz1))
    clear hrd9 hrd8 hown8 hown7 hb7 hb8 hbb hce c0 c1
    go_loopw [7, 8] (fun v i wr => ∃ j : Nat, i = .int .i64 (j : Int) ∧ j ≤ n + 1 ∧ wr.ownsRow w8.heap.size 9 1 v (clsL (all.take j)).length (SX (clsL (all.take j))) ∧ Below w8.heap.size w8 wr) (fun _ i _ => n + 1 - (intOf i).toNat)
    case atStart => exact ⟨0, rfl, Nat.zero_le _, World.ownsRow_nil _ _ _ _, Below.refl _ _⟩
    case round =>
      obtain ⟨j, rfl, hj, hown, hbw⟩ := hrel
      have HOW := Lib.hid hown; have HBW := Lib.hid hbw
      have hsz2 := hbw.size
      by_cases hlt : j < n + 1
      · have hltI : (j : Int) < (n : Int) + 1 := by omega
        obtain ⟨⟨kd, cl⟩, hx⟩ : ∃ x, all[j]? = some x := ⟨all[j]'(by rw [HAL.out]; exact hlt), List.getElem?_eq_getElem _⟩
        obtain ⟨a, rfl, ha, c0, c1⟩ := tl_cell (HR8.out.below hbw) hx
        dsimp only at c0 c1
        have hct := cls_take hx
        have hcl := cls_len (all.take j)
        rw [List.length_take] at hcl
        have hhas := right_cls (HRT.out _ (List.mem_of_getElem? hx))
        dsimp only at hhas
        cases hb : hasB kd with
        | false =>
          have hc0 := hhas.2 hb
          subst hc0
          rw [hb] at hct
          rw [if_neg (by simp), List.append_nil] at hct
          have HCT := Lib.hid hct
          clear hown hbw hx ha hct hcl hb hhas
          go_wp2
          go_roundw
          case rel => exact ⟨j + 1, by go_num, by omega, by rw [HCT.out]; exact HOW.out, HBW.out⟩
          case measure => simp [intOf]; omega
        | true =>
          have hc0 : cl ≠ [] := fun e => by rw [hhas.1 e] at hb; cases hb
          have hc1 : List.isEmpty cl = false := by cases cl with
            | nil => exact absurd rfl hc0
            | cons a b => rfl
          rw [hb] at hct
          rw [if_pos rfl] at hct
          have HCT := Lib.hid hct
          obtain ⟨acc, hacc⟩ : ∃ acc, acc = clsL (all.take j) := ⟨_, rfl⟩
          rw [← hacc] at HOW HCT hcl
          clear hown hbw hx ha hct hb hacc hhas
          go_wp2_with (at_builtin; refine wpList_app _ rfl (.tmp 36) (.tmp 42) _ rfl w8.heap.size 9 i1 _ 1 16 Tryd.underlying42 hj0 hy0 hy1 hy2 rfl (by omega) _ acc.length (SX acc) rfl (HOW.out.alloc _) _ 1 1 [.string ⟨cl.toArray⟩] rfl rfl (rd_blk (heap_alloc_new wr _) (k := 1) rfl) (by simp [Value.oneCell']) (by simp only [maxLen]; omega) (by omega) (by simp; omega) ?_; intro v5 w5 hown5 hg5 hb5 hat5; clear hat5)
          have hown6 : w5.ownsRow w8.heap.size 9 1 v5 (acc ++ [cl]).length (SX (acc ++ [cl])) := by rw [List.length_append, SX_app]; exact hown5
          have HO6 := Lib.hid hown6
          have HB6 := Lib.hid ((HBW.out.alloc hsz2 (.cells #[.string ⟨cl.toArray⟩] 9)).trans hb5)
          clear hown5 hg5 hb5 hown6
          go_roundw
          case rel => exact ⟨j + 1, by go_num, by omega, by rw [HCT.out]; exact HO6.out, HB6.out⟩
          case measure => simp [intOf]; omega
      · have hltI : ¬ (j : Int) < (n : Int) + 1 := by omega
        have htk : all.take j = all := List.take_of_length_le (by rw [HAL.out]; omega)
        have ho := HOW.out
        rw [htk, ← HC.out] at ho
        obtain ⟨A9, c9, rfl, _, _, hrd9⟩ := own_rd ho
        have HRD9 := Lib.hid hrd9
        clear hown hbw htk ho hrd9
        go_wp2
        go_ret
        exact ⟨⟨A9, c9, rfl, HRD9.out⟩, HB8.out.trans (HBW.out.mono HB8.out.size)⟩
  · obtain ⟨rfl, hkc⟩ := hbad he
    cases hkc
    have HC := Lib.hid (show classesT S = [] by rw [hC]; rfl)
    have heI : ((er : Int) != 0) = true := by simp; omega
    clear hS hx hs hC he h8 hrt
    go_enter Tryd.func26, Tryd.ntmps26
    go_wp2_with fail
    refine HS.out.mono ?_
    rintro e w1 ⟨⟨A, cc, rfl, hown⟩, hb1⟩
    have HB := Lib.hid (hb1.alloc hb1.size (.cells #[.int .i64 0, .string ⟨#[]⟩] 24))
    clear hown hb1
    go_wp2
    go_ret
    refine ⟨?_, HB.out⟩
    rw [HC.out]
    exact ⟨none, 0, rfl, .inl rfl⟩
end Go.Proofs.YtchhibicbgimcaaDoor.kind

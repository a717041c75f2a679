/-
  Layer 6: the classes that a descriptor names: the program's answer.
-/
import Derived.Test.YtchhibicbgimcaaDoorKindG
namespace Go.Proofs.YtchhibicbgimcaaDoor.kind
open Go.RowKit
open Go.Proofs.YtchhibicbgimcaaDoor.words Go.Proofs.YtchhibicbgimcaaDoor.kindp Go.Proofs.YtchhibicbgimcaaDoor.word Go.Proofs.YtchhibicbgimcaaDoor.rdr

/-- texts, cell by cell -/
def SX (l : List Tx) : List Value := l.map fun x => .string ⟨x.toArray⟩
theorem SX_app (a b : List Tx) : SX (a ++ b) = SX a ++ SX b := by simp [SX]
theorem SX_len (l : List Tx) : (SX l).length = l.length := by simp [SX]
theorem new_rdg {W : World} (g : Nat) (cs : Array Value) (t : TypeId) (k : Nat) (hW : W.heap.size = g) (xs : List Value) (hx : cs.toList.take k = xs) : Rd (W.alloc (.cells cs t)) (some ⟨g, 0, none⟩) xs := by
  rw [← hW]; exact rd_blk (heap_alloc_new W _) hx
/-- some texts, anywhere -/
def ClsW (l : List Tx) (w : World) (e : Ending) (w' : World) : Prop := (∃ A c, e = .returned (.slice A l.length c) ∧ Rd w' A (SX l)) ∧ Below w.heap.size w w'
/-- the classes of some types -/
def clsL (l : List Ty) : List Tx := (l.filter fun t => hasB t.1).map (·.2)
theorem cls_take {l : List Ty} {j : Nat} {t : Ty} (h : l[j]? = some t) : clsL (l.take (j + 1)) = clsL (l.take j) ++ (if hasB t.1 = true then [t.2] else []) := by
  unfold clsL
  rw [List.take_add_one, h]
  simp only [Option.toList, List.filter_append, List.map_append]
  by_cases hb : hasB t.1 = true
  · rw [if_pos hb]; simp [hb]
  · rw [if_neg hb]; simp [hb]
theorem cls_len (l : List Ty) : (clsL l).length ≤ l.length := by unfold clsL; rw [List.length_map]; exact List.length_filter_le _ _
set_option maxRecDepth 100000 in
theorem infoX : (Tryd.prog.info? 9).map (fun i => (i.zero, i.size, i.bytes)) = some (some (.string ⟨#[]⟩), 1, 16) := by kernel_rfl

set_option maxRecDepth 100000 in
set_option maxHeartbeats 4000000 in
theorem classes_w (s : Tx) (w : World) (hs : s.length ≤ 65536) (hm : Mx w) (hv : Vd w) :
    Calls Tryd.prog 25 #[.string ⟨s.toArray⟩] w (ClsW (classesT s) w) := by
  have hS := split_k s w hs hm hv
  have hC : classesT s = clsL ((splitT s).1 ++ [(splitT s).2.1]) := rfl
  have h8 := split_len s
  unfold SplitW at hS
  obtain ⟨x, hx⟩ : ∃ x, x = splitT s := ⟨_, rfl⟩
  rw [← hx] at hS hC h8
  obtain ⟨p, ⟨k, c⟩, er⟩ := x
  dsimp only at hS hC h8
  obtain ⟨i0, hi0, hz0, hz1, hz2⟩ := info_parts infoT
  obtain ⟨i1, hj0, hy0, hy1, hy2⟩ := info_parts infoX
  have HS := Lib.hid hS; have HC := Lib.hid hC
  obtain ⟨all, hall⟩ : ∃ all, all = p ++ [((k, c) : Ty)] := ⟨_, rfl⟩
  rw [← hall] at HC
  obtain ⟨n, hn⟩ : ∃ n, n = p.length := ⟨_, rfl⟩
  rw [← hn] at HS h8
  have hal : all.length = n + 1 := by rw [hall, List.length_append, hn]; rfl
  have HAL := Lib.hid hal; have HLL := Lib.hid hall
  have hnI : (n : Int) ≤ 8 := by omega
  clear hS hC hx hall hn hal hs hm hv
  go_enter Tryd.func25, Tryd.ntmps25
  go_wp2_with fail
  refine HS.out.mono ?_
  rintro e w1 ⟨⟨A, cc, rfl, hown⟩, hb1⟩
  have hbx := hb1.alloc hb1.size (.cells #[.int .i64 k, .string ⟨c.toArray⟩] 24)
  have hby := hbx.alloc hbx.size (.cells #[.int .i64 k, .string ⟨c.toArray⟩] 24)
  have HBY := Lib.hid hby
  have HO := Lib.hid ((hown.alloc (.cells #[.int .i64 k, .string ⟨c.toArray⟩] 24)).alloc (.cells #[.int .i64 k, .string ⟨c.toArray⟩] 24))
  have HRD := Lib.hid (new_rdg (W := w1.alloc (.cells #[.int .i64 k, .string ⟨c.toArray⟩] 24)) (w1.heap.size + 1) #[.int .i64 k, .string ⟨c.toArray⟩] 24 2 (by simp) [.int .i64 k, .string ⟨c.toArray⟩] rfl)
  have hsz := hby.size
  clear hown hb1 hbx hby
  go_wp2_with (at_builtin; refine wpList_app _ rfl (.tmp 15) (.tmp 17) _ rfl w.heap.size 24 i0 _ 2 24 Tryd.underlying33 hi0 hz0 hz1 hz2 rfl (by omega) _ n (TL p) rfl HO.out _ 1 1 [.int .i64 k, .string ⟨c.toArray⟩] rfl rfl HRD.out (by simp [Value.oneCell']) (by simp only [maxLen]; omega) (by omega) hsz ?_; intro v7 w7 hown7 hg7 hb7 hat7; clear hg7 hat7; obtain ⟨A7, cc7, rfl, _, _, hrd7⟩ := own_rd hown7; clear hown7)
  have hrd8 : Rd w7 A7 (TL all) := by rw [HLL.out, TL_app]; exact hrd7
  have HR7 := Lib.hid hrd8
  have HB7 := Lib.hid (HBY.out.trans hb7)
  clear hrd7 hrd8 hb7
  go_loopw [6, 20] (fun v i wr => ∃ j : Nat, i = .int .i64 (j : Int) ∧ j ≤ n + 1 ∧ wr.ownsRow w7.heap.size 9 1 v (clsL (all.take j)).length (SX (clsL (all.take j))) ∧ Below w7.heap.size w7 wr) (fun _ i _ => n + 1 - (intOf i).toNat)
  case atStart => exact ⟨0, rfl, Nat.zero_le _, World.ownsRow_nil _ _ _ _, Below.refl _ _⟩
  case round =>
    obtain ⟨j, rfl, hj, hown, hbw⟩ := hrel
    have HOW := Lib.hid hown; have HBW := Lib.hid hbw
    have hsz2 := hbw.size
    by_cases hlt : j < n + 1
    · have hltI : (j : Int) < (n : Int) + 1 := by omega
      obtain ⟨⟨kd, cl⟩, hx⟩ : ∃ x, all[j]? = some x := ⟨all[j]'(by rw [HAL.out]; exact hlt), List.getElem?_eq_getElem _⟩
      obtain ⟨a, rfl, ha, c0, c1⟩ := tl_cell (HR7.out.below hbw) hx
      dsimp only at c0 c1
      have hct := cls_take hx
      have hcl := cls_len (all.take j)
      rw [List.length_take] at hcl
      have HH := (fun w => has_w kd cl w)
      have hal8 : Below wr.heap.size wr (wr.alloc (.cells #[.int .i64 kd, .string ⟨cl.toArray⟩] 24)) := (Below.refl _ _).alloc (Nat.le_refl _) _
      have HAL8 := Lib.hid hal8
      have HNW := Lib.hid (heap_alloc_new wr (.cells #[.int .i64 kd, .string ⟨cl.toArray⟩] 24))
      cases hb : hasB kd with
      | false =>
        rw [hb] at HH hct
        rw [if_neg (by simp), List.append_nil] at hct
        have HHH := Lib.hid HH; have HCT := Lib.hid hct
        clear hown hbw hx ha hct hcl HH hb hal8
        go_wp2_with fail
        refine (HHH.out _).mono ?_
        rintro e w4 ⟨rfl, hb4⟩
        have hb49 := HAL8.out.trans (hb4.mono (by simp))
        have HO4 := Lib.hid (own_below HOW.out hb49)
        have HB4 := Lib.hid (HBW.out.trans (hb49.mono HBW.out.size))
        clear hb4 hb49
        go_wp2
        go_roundw
        case rel => exact ⟨j + 1, by go_num, by omega, by rw [HCT.out]; exact HO4.out, HB4.out⟩
        case measure => simp [intOf]; omega
      | true =>
        rw [hb] at HH hct
        rw [if_pos rfl] at hct
        have HHH := Lib.hid HH; have HCT := Lib.hid hct
        obtain ⟨acc, hacc⟩ : ∃ acc, acc = clsL (all.take j) := ⟨_, rfl⟩
        rw [← hacc] at HOW HCT hcl
        clear hown hbw hx ha hct HH hb hal8 hacc
        go_wp2_with fail
        refine (HHH.out _).mono ?_
        rintro e w4 ⟨rfl, hb4⟩
        have hb49 := HAL8.out.trans (hb4.mono (by simp))
        have hce := (hb4.block wr.heap.size (by simp)).trans HNW.out
        have d1 : w4.cell? ⟨wr.heap.size, 1, none⟩ = some (.string ⟨cl.toArray⟩) := cell_of_row _ _ _ _ _ _ hce
        have HO4 := Lib.hid (own_below HOW.out hb49)
        have HB4 := Lib.hid (HBW.out.trans (hb49.mono HBW.out.size))
        have hsz4 := HB4.out.size
        clear hb4 hb49 hce
        go_wp2_with (at_builtin; refine wpList_app _ rfl (.tmp 26) (.tmp 29) _ rfl w7.heap.size 9 i1 _ 1 16 Tryd.underlying42 hj0 hy0 hy1 hy2 rfl (by omega) _ acc.length (SX acc) rfl (HO4.out.alloc _) _ 1 1 [.string ⟨cl.toArray⟩] rfl rfl (rd_blk (heap_alloc_new w4 _) (k := 1) rfl) (by simp [Value.oneCell']) (by simp only [maxLen]; omega) (by omega) (by simp; omega) ?_; intro v5 w5 hown5 hg5 hb5 hat5; clear hat5)
        have hown6 : w5.ownsRow w7.heap.size 9 1 v5 (acc ++ [cl]).length (SX (acc ++ [cl])) := by rw [List.length_append, SX_app]; exact hown5
        have HO6 := Lib.hid hown6
        have HB6 := Lib.hid ((HB4.out.alloc hsz4 (.cells #[.string ⟨cl.toArray⟩] 9)).trans hb5)
        clear hown5 hg5 hb5 hown6
        go_roundw
        case rel => exact ⟨j + 1, by go_num, by omega, by rw [HCT.out]; exact HO6.out, HB6.out⟩
        case measure => simp [intOf]; omega
    · have hltI : ¬ (j : Int) < (n : Int) + 1 := by omega
      have htk : all.take j = all := List.take_of_length_le (by rw [HAL.out]; omega)
      have ho := HOW.out
      rw [htk, ← HC.out] at ho
      obtain ⟨A9, c9, rfl, _, _, hrd9⟩ := own_rd ho
      have HRD9 := Lib.hid hrd9
      clear hown hbw htk ho hrd9
      go_wp2
      go_ret
      exact ⟨⟨A9, c9, rfl, HRD9.out⟩, HB7.out.trans (HBW.out.mono HB7.out.size)⟩
end Go.Proofs.YtchhibicbgimcaaDoor.kind

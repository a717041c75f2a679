/-
 Layer 6: the types of a descriptor: the program's answer.
-/
import Derived.Test.YtjcdgpfffmnneaaGreatDoorKindB
namespace Go.Proofs.YtjcdgpfffmnneaaGreatDoor.kind
open Go.RowKit
open words kindp word piece rdr

/-- the type of what answers nothing lies there -/
def Vd (w : World) : Prop := w.cell? ⟨0, 0, none⟩ = some (.int .i64 1) ∧ w.cell? ⟨0, 1, none⟩ = some (.string ⟨#[]⟩)
theorem Vd.below {w w' : World} (h : Vd w) (hb : Below w.heap.size w w') : Vd w' :=
 ⟨(hb.cell (World.block_lt_of_cell? _ _ h.1)).trans h.1, (hb.cell (World.block_lt_of_cell? _ _ h.2)).trans h.2⟩
/-- a reading that answers a signature, or gives up -/
def GaveS (q : Option (List Ty × Ty)) (w : World) (e : Ending) (w' : World) : Prop :=
 (match q with
  | some (p, t) => ∃ v, e = .returned (.agg #[v, .int .i64 t.1, .string ⟨t.2.toArray⟩]) ∧ w'.ownsRow w.heap.size 61 2 v p.length (TL p)
  | none => e = .panicked [{ v := noV, recovered := false }]) ∧ Below w.heap.size w w'
theorem gaveS_some {q : Option (List Ty × Ty)} {p : List Ty} {t : Ty} {w w' : World} {e : Ending} (h : q = some (p, t)) (v : Value) (he : e = .returned (.agg #[v, .int .i64 t.1, .string ⟨t.2.toArray⟩])) (ho : w'.ownsRow w.heap.size 61 2 v p.length (TL p)) (hb : Below w.heap.size w w') : GaveS q w e w' := by
 unfold GaveS; rw [h]; exact ⟨⟨v, he, ho⟩, hb⟩
theorem gaveS_none {q : Option (List Ty × Ty)} {w w' : World} {e : Ending} (h : q = none) (he : e = .panicked [{ v := noV, recovered := false }]) (hb : Below w.heap.size w w') : GaveS q w e w' := by
 unfold GaveS; rw [h]; exact ⟨he, hb⟩
theorem all_some {s : Tx} {t : Ty} (w : World) (hs : s.length < 4294967281) (hm : Mx w) (h : allT s = some t) :
  Calls Tryz.prog 149 #[.string ⟨s.toArray⟩] w fun e w' => e = .returned (.agg #[.int .i64 t.1, .string ⟨t.2.toArray⟩]) ∧ Below w.heap.size w w' :=
 (all_k s w hs hm).mono fun e w' hh => by unfold Gave at hh; rw [h] at hh; exact hh
theorem all_none {s : Tx} (w : World) (hs : s.length < 4294967281) (hm : Mx w) (h : allT s = none) :
  Calls Tryz.prog 149 #[.string ⟨s.toArray⟩] w fun e w' => e = .panicked [{ v := noV, recovered := false }] ∧ Below w.heap.size w w' :=
 (all_k s w hs hm).mono fun e w' hh => by unfold Gave at hh; rw [h] at hh; exact hh
theorem has_w2 (s p : Tx) (w : World) :
  Calls Tryz.prog 147 #[.string ⟨s.toArray⟩, .string ⟨p.toArray⟩] w fun e w' => e = .returned (.bool (Lib.hasPrefix s p)) ∧ w' = w :=
 Tryz.strings_HasPrefix ⟨s.toArray⟩ ⟨p.toArray⟩ w
theorem pre_head (s : Tx) (c : UInt8) : Lib.hasPrefix s [c] = decide (s.head? = some c) := by
 unfold Lib.hasPrefix
 cases s with
 | nil => rfl
 | cons x r => simp [List.isPrefixOf, eq_comm (a := x)]; rfl
def strLen (v : Value) : Nat := match v with | .string s => s.size | _ => 0
theorem ext_tail (r : Tx) : (⟨r.toArray⟩ : ByteArray).extract 1 r.length = ⟨r.tail.toArray⟩ := by
 apply ByteArray.ext
 rw [← Array.toList_inj, ext_data]
 show (r.drop 1).take (r.length - 1) = r.tail
 rw [List.drop_one, List.take_of_length_le (by simp)]
/-- three cells that are set -/
theorem three_set {w : World} {g : Nat} {a b c : Value} {t : TypeId} (h : w.heap[g]? = some (.cells #[a, b, c] t (0, 0))) (x y z : Value) :
  (w.setCell ⟨g, 0, none⟩ x).cell? ⟨g, 0, none⟩ = some x ∧ ((w.setCell ⟨g, 0, none⟩ x).setCell ⟨g, 1, none⟩ y).cell? ⟨g, 1, none⟩ = some y ∧ (((w.setCell ⟨g, 0, none⟩ x).setCell ⟨g, 1, none⟩ y).setCell ⟨g, 2, none⟩ z).cell? ⟨g, 2, none⟩ = some z := by
 have h1 := heap_setCell_same w g 0 _ _ x h
 have h2 := heap_setCell_same _ g 1 _ _ y h1
 have h3 := heap_setCell_same _ g 2 _ _ z h2
 exact ⟨by rw [cell_of_row _ _ _ _ _ _ h1]; rfl, by rw [cell_of_row _ _ _ _ _ _ h2]; rfl, by rw [cell_of_row _ _ _ _ _ _ h3]; rfl⟩
/-- the last two of three cells that are set -/
theorem last_set {w : World} {g : Nat} {a b c : Value} {t : TypeId} (h : w.heap[g]? = some (.cells #[a, b, c] t (0, 0))) (y z : Value) :
  ((w.setCell ⟨g, 1, none⟩ y).setCell ⟨g, 2, none⟩ z).heap[g]? = some (.cells #[a, y, z] t (0, 0)) ∧ But g w ((w.setCell ⟨g, 1, none⟩ y).setCell ⟨g, 2, none⟩ z) := by
 have h2 := heap_setCell_same w g 1 _ _ y h
 have h3 := heap_setCell_same _ g 2 _ _ z h2
 exact ⟨h3, ((But.refl g w).set 1 _).set 2 _⟩
theorem own_ne {w : World} {base : Nat} {e : TypeId} {size : Nat} {v : Value} {n : Nat} {xs : List Value} (h : w.ownsRow base e size v n xs) {b : Nat} (hb : b < base) : some b ≠ v.ownBlock := fun e1 => by
 have := (h.lt b e1.symm).1; omega
theorem own_but {w w' : World} {base : Nat} {e : TypeId} {size : Nat} {v : Value} {n : Nat} {xs : List Value} (h : w.ownsRow base e size v n xs) {b : Nat} (hb : b < base) (hg : But b w w') : w'.ownsRow base e size v n xs :=
 h.kept hg (.inr (own_ne h hb).symm)
theorem own_old {w : World} {base : Nat} {e : TypeId} {size : Nat} {v : Value} {n : Nat} {xs : List Value} (h : w.ownsRow base e size v n xs) {b : Nat} (hb : w.heap.size ≤ b) : some b ≠ v.ownBlock := fun e1 => by
 have := (h.lt b e1.symm).2; omega
theorem new_rd {w W : World} (cs : Array Value) (t : TypeId) (k : Nat) (hW : W.heap.size = w.heap.size) (xs : List Value) (hx : cs.toList.take k = xs) : Rd (W.alloc (.cells cs t)) (some ⟨w.heap.size, 0, none⟩) xs := by
 rw [← hW]; exact rd_blk (heap_alloc_new W _) hx
theorem but_ne {w w' : World} {b g : Nat} {o : Obj} (hg : But b w w') (h : w.heap[g]? = some o) (hne : g ≠ b) : w'.heap[g]? = some o := hg.heap h hne
/-- what the loop holds -/
def SigI (G : Option (List Ty × Ty)) (n : Nat) (acc : List Ty) (r : Tx) : Prop := sigT (r.length + 1) acc r = G ∧ acc.length + r.length ≤ n

set_option maxRecDepth 100000 in
set_option maxHeartbeats 4000000 in
theorem sig_w (s : Tx) (w : World) (hs : s.length ≤ 65536) (hm : Mx w) (hv : Vd w) :
  Calls Tryz.prog 123 #[.string ⟨s.toArray⟩] w (GaveS (sigD s) w) := by
 have hp : ∀ (t : TypeId) (v : Value) (w : World), (Instr.panic (.iface t v)).run Tryz.prog w = .halt (.panic (.iface t v)) w := fun _ _ _ => rfl
 have hal : Below w.heap.size w (w.alloc (.cells #[.slice none 0 0, .int .i64 0, .string ⟨#[]⟩] 136)) := (Below.refl _ _).alloc (Nat.le_refl _) _
 have HAL := Lib.hid hal
 have hP := (fun w => prefix_w s [40] w)
 rw [pre_head] at hP
 by_cases h40 : s.head? = some 40
 ·rw [decide_eq_true h40] at hP
  obtain ⟨r0, rfl⟩ : ∃ r, s = 40 :: r := by
   cases s with
   | nil => cases h40
   | cons x r => cases h40; exact ⟨r, rfl⟩
  rw [show Lib.trimPrefix (40 :: r0) [40] = r0 by rw [trim_at (by rw [pre_head]; rfl)]; rfl] at hP
  have hG : SigI (sigD (40 :: r0)) r0.length [] r0 := by
   refine ⟨?_, by simp⟩
   unfold sigD
   rw [if_pos (show (40 :: r0).head? = some 40 from rfl), List.tail_cons]
   exact sig_fuel _ _ _ _ (by omega) (by simp; omega)
  obtain ⟨G, hGG⟩ : ∃ G, G = sigD (40 :: r0) := ⟨_, rfl⟩
  rw [← hGG] at hG ⊢
  have hn : r0.length ≤ 65536 := by have : (40 :: r0).length = r0.length + 1 := rfl; omega
  obtain ⟨n, hnn⟩ : ∃ n, n = r0.length := ⟨_, rfl⟩
  rw [← hnn] at hG hn
  have HG := Lib.hid hG; have HP := Lib.hid hP
  have HM := Lib.hid hm; have HV := Lib.hid hv
  obtain ⟨i0, hi0, hz0, hz1, hz2⟩ := info_parts infoT
  clear hG hP h40 hs hal hGG hnn hm hv
  go_enter Tryz.func123, Tryz.ntmps123
  go_wp2_with fail
  refine (HP.out _).mono ?_
  rintro e w1 ⟨rfl, rfl⟩
  go_wp2
  go_loopw [3] (fun i wr => ∃ (r : Tx) (acc : List Ty) (v : Value), i = .string ⟨r.toArray⟩ ∧ SigI G n acc r ∧ wr.heap[w.heap.size]? = some (.cells #[.slice none 0 0, .int .i64 0, .string ⟨#[]⟩] 136 (0, 0)) ∧ wr.heap[w.heap.size + 1]? = some (.cells #[v, .int .i64 0, .string ⟨#[]⟩] 136 (0, 0)) ∧ wr.ownsRow (w.heap.size + 2) 61 2 v acc.length (TL acc) ∧ Below w.heap.size w wr) (fun i _ => strLen i)
  case atStart => exact ⟨r0, [], .slice none 0 0, rfl, HG.out, (two_new w _ _).1, (two_new w _ _).2, World.ownsRow_nil _ _ _ _, HAL.out.alloc (by simp) _⟩
  case round =>
   obtain ⟨r, acc, v, rfl, hsig, hg2, hg5, hown, hbw⟩ := hrel
   have HSI := Lib.hid hsig; have HG2 := Lib.hid hg2; have HG5 := Lib.hid hg5; have HO := Lib.hid hown; have HB := Lib.hid hbw
   have HMR := Lib.hid (HM.out.below hbw); have HVR := Lib.hid (HV.out.below hbw)
   have hrl : r.length < 4294967281 := by have := hsig.2; omega
   have HH := (fun w => has_w2 r [41] w)
   rw [pre_head] at HH
   by_cases h41 : r.head? = some 41
   ·rw [decide_eq_true h41] at HH
    have HHP := Lib.hid HH
    have HE := Lib.hid (ext_tail r)
    have htl : r.tail.length < 4294967281 := by rw [List.length_tail]; omega
    obtain ⟨q, rfl⟩ : ∃ q, r = 41 :: q := by
     cases r with
     | nil => cases h41
     | cons x q => cases h41; exact ⟨q, rfl⟩
    have hd := hsig.1
    rw [sig_done] at hd
    have hG5L := blk_lt hg5
    cases hall : allT q with
    | none =>
     have hA := (fun w hm => all_none (s := q) w (by simpa using htl) hm hall)
     rw [hall] at hd
     have HA := Lib.hid hA; have HD := Lib.hid hd.symm
     clear HH hsig hg2 hg5 hown hbw hA hd hall htl
     go_wp2_with fail
     refine (HHP.out _).mono ?_
     rintro e w1 ⟨rfl, rfl⟩
     go_wp2_with fail
     rw [show (⟨(41 :: q).toArray⟩ : ByteArray).extract 1 (q.length + 1) = ⟨q.toArray⟩ from HE.out]
     refine (HA.out _ HMR.out).mono ?_
     rintro e w2 ⟨rfl, hb2⟩
     exact ⟨rfl, gaveS_none HD.out rfl (HB.out.trans (hb2.mono HB.out.size))⟩
    | some t =>
     obtain ⟨k, c⟩ := t
     have hA := (fun w hm => all_some (s := q) w (by simpa using htl) hm hall)
     rw [hall] at hd
     have HA := Lib.hid hA; have HD := Lib.hid hd.symm
     clear HH hsig hg2 hg5 hown hbw hA hd hall htl
     go_wp2_with fail
     refine (HHP.out _).mono ?_
     rintro e w1 ⟨rfl, rfl⟩
     go_wp2_with fail
     rw [show (⟨(41 :: q).toArray⟩ : ByteArray).extract 1 (q.length + 1) = ⟨q.toArray⟩ from HE.out]
     refine (HA.out _ HMR.out).mono ?_
     rintro e w2 ⟨rfl, hb2⟩
     dsimp only
     have hg2 := (hb2.block _ (blk_lt HG2.out)).trans HG2.out
     have hg5 := (hb2.block _ (blk_lt HG5.out)).trans HG5.out
     have c50 : w2.cell? ⟨w.heap.size + 1, 0, none⟩ = some v := cell_of_row _ _ _ _ _ _ hg5
     have c51 : w2.cell? ⟨w.heap.size + 1, 1, none⟩ = some (.int .i64 0) := cell_of_row _ _ _ _ _ _ hg5
     have c52 : w2.cell? ⟨w.heap.size + 1, 2, none⟩ = some (.string ⟨#[]⟩) := cell_of_row _ _ _ _ _ _ hg5
     have f51 := frozen_of_row w2 _ 1 _ _ hg5
     have f52 := frozen_of_row w2 _ 2 _ _ hg5
     have c20 : w2.cell? ⟨w.heap.size, 0, none⟩ = some (.slice none 0 0) := cell_of_row _ _ _ _ _ _ hg2
     have c21 : w2.cell? ⟨w.heap.size, 1, none⟩ = some (.int .i64 0) := cell_of_row _ _ _ _ _ _ hg2
     have c22 : w2.cell? ⟨w.heap.size, 2, none⟩ = some (.string ⟨#[]⟩) := cell_of_row _ _ _ _ _ _ hg2
     have f20 := frozen_of_row w2 _ 0 _ _ hg2
     have f21 := frozen_of_row w2 _ 1 _ _ hg2
     have f22 := frozen_of_row w2 _ 2 _ _ hg2
     have HB2 := Lib.hid (HB.out.trans (hb2.mono HB.out.size))
     have HO2 := Lib.hid (own_below HO.out hb2)
     obtain ⟨A, cc, rfl, _, _, _⟩ := own_rd HO2.out
     obtain ⟨hq5, hbt5⟩ := last_set hg5 (.int .i64 k) (.string ⟨c.toArray⟩)
     have hq2 := but_ne hbt5 hg2 (by omega)
     obtain ⟨z0, z1, z2⟩ := three_set hq2 (.slice A acc.length cc) (.int .i64 k) (.string ⟨c.toArray⟩)
     have HO3 := Lib.hid (own_base (own_but (own_but HO2.out (b := w.heap.size + 1) (by omega) hbt5) (b := w.heap.size) (by omega) ((((But.refl w.heap.size _).set 0 (.slice A acc.length cc)).set 1 (.int .i64 k)).set 2 (.string ⟨c.toArray⟩))) (base' := w.heap.size) (by omega))
     clear hb2 hg2 hg5 hq5 hbt5 hq2
     go_wp2
     exact bodyPost_ret (v := .agg #[.slice A acc.length cc, .int .i64 k, .string ⟨c.toArray⟩]) (by simp [results, Tryz.results123, go_sem, z0, z1, z2]) rfl (gaveS_some HD.out _ rfl HO3.out (((((HB2.out.setCell (by simp) _).setCell (by simp) _).setCell (by simp) _).setCell (by simp) _).setCell (by simp) _))
   ·rw [decide_eq_false h41] at HH
    have HHP := Lib.hid HH
    obtain ⟨hsg, hln⟩ := hsig
    have hal6 : Below wr.heap.size wr (wr.alloc (.cells #[.int .i64 0, .string ⟨#[]⟩] 61)) := (Below.refl _ _).alloc (Nat.le_refl _) _
    have HM6 := Lib.hid (HMR.out.below hal6); have HV6 := Lib.hid (HVR.out.below hal6)
    have HAL6 := Lib.hid hal6
    cases htt : typeT r with
    | none =>
     rw [sig_none h41 htt] at hsg
     have HD := Lib.hid hsg.symm
     have HT := Lib.hid (fun w hm => type_none (s := r) w hrl hm htt)
     clear HH hg2 hg5 hown hbw hal6 hsg htt h41 hln
     go_wp2_with fail
     refine (HHP.out _).mono ?_
     rintro e w1 ⟨rfl, rfl⟩
     go_wp2_with fail
     refine (HT.out _ HM6.out).mono ?_
     rintro e w2 ⟨rfl, hb2⟩
     exact ⟨rfl, gaveS_none HD.out rfl (HB.out.trans ((HAL6.out.trans (hb2.mono (by simp))).mono HB.out.size))⟩
    | some tr =>
     obtain ⟨⟨k, c⟩, q⟩ := tr
     have hql := type_less htt
     have HT := Lib.hid (fun w hm => type_some (s := r) w hrl hm htt)
     by_cases hvd : ((k, c) : Ty) = (1, [])
     ·cases hvd
      rw [sig_void h41 htt] at hsg
      have HD := Lib.hid hsg.symm
      clear HH hg2 hg5 hown hbw hal6 hsg htt h41 hln hql
      go_wp2_with fail
      refine (HHP.out _).mono ?_
      rintro e w1 ⟨rfl, rfl⟩
      go_wp2_with fail
      refine (HT.out _ HM6.out).mono ?_
      rintro e w2 ⟨rfl, hb2⟩
      unfold tyV
      dsimp only
      have hg6 := (hb2.block w1.heap.size (by simp)).trans (heap_alloc_new w1 _)
      obtain ⟨z0, z1, hz6⟩ := two_set hg6 (.int .i64 1) (.string ⟨#[]⟩)
      have c60 : w2.cell? ⟨w1.heap.size, 0, none⟩ = some (.int .i64 0) := cell_of_row _ _ _ _ _ _ hg6
      have c61 : w2.cell? ⟨w1.heap.size, 1, none⟩ = some (.string ⟨#[]⟩) := cell_of_row _ _ _ _ _ _ hg6
      have f60 := frozen_of_row w2 _ 0 _ _ hg6
      have f61 := frozen_of_row w2 _ 1 _ _ hg6
      obtain ⟨v0, v1⟩ := HV6.out.below hb2
      have hgv : 0 < w1.heap.size := World.block_lt_of_cell? _ _ HVR.out.1
      have hgn : ¬ w1.heap.size = 0 := by omega
      have hb12 := HAL6.out.trans (hb2.mono (by simp))
      have HB2 := Lib.hid (HB.out.trans (hb12.mono HB.out.size))
      clear hb2 hg6 hz6 hb12
      go_wp2
      exact ⟨rfl, gaveS_none HD.out rfl ((HB2.out.setCell HB.out.size _).setCell HB.out.size _)⟩
     ·rw [sig_next h41 htt hvd] at hsg
      have HNX := Lib.hid (show SigI G n (acc ++ [(k, c)]) q from ⟨hsg, by rw [List.length_append]; show acc.length + 1 + q.length ≤ n; omega⟩)
      have hacc : acc.length ≤ 65536 := by omega
      have hk1 : (k = 1 ∧ c ≠ []) ∨ (k == 1) = false := by
       by_cases h : k = 1
       ·exact .inl ⟨h, fun h2 => hvd (by rw [h, h2])⟩
       ·exact .inr (by simpa using h)
      obtain ⟨A, cc, rfl, _, _, _⟩ := own_rd HO.out
      clear HH hg2 hg5 hown hbw hal6 hsg htt h41 hln hvd
      go_wp2_with fail
      refine (HHP.out _).mono ?_
      rintro e w1 ⟨rfl, rfl⟩
      go_wp2_with fail
      refine (HT.out _ HM6.out).mono ?_
      rintro e w2 ⟨rfl, hb2⟩
      unfold tyV
      dsimp only
      have hg6 := (hb2.block w1.heap.size (by simp)).trans (heap_alloc_new w1 _)
      obtain ⟨z0, z1, hz6⟩ := two_set hg6 (.int .i64 k) (.string ⟨c.toArray⟩)
      have c60 : w2.cell? ⟨w1.heap.size, 0, none⟩ = some (.int .i64 0) := cell_of_row _ _ _ _ _ _ hg6
      have c61 : w2.cell? ⟨w1.heap.size, 1, none⟩ = some (.string ⟨#[]⟩) := cell_of_row _ _ _ _ _ _ hg6
      have f60 := frozen_of_row w2 _ 0 _ _ hg6
      have f61 := frozen_of_row w2 _ 1 _ _ hg6
      obtain ⟨v0, v1⟩ := HV6.out.below hb2
      have hgv : 0 < w1.heap.size := World.block_lt_of_cell? _ _ HVR.out.1
      have hgn : ¬ w1.heap.size = 0 := by omega
      have hb12 := HAL6.out.trans (hb2.mono (by simp))
      have HB2 := Lib.hid (HB.out.trans (hb12.mono HB.out.size))
      have HO2 := own_below HO.out hb12
      have HO3 := HO2.kept (((But.refl w1.heap.size w2).set 0 (.int .i64 k)).set 1 (.string ⟨c.toArray⟩)) (.inr (own_old HO.out (Nat.le_refl _)).symm)
      have HO4 := Lib.hid (HO3.alloc (.cells #[.int .i64 k, .string ⟨c.toArray⟩] 61))
      have hq2 := (hb12.block _ (blk_lt HG2.out)).trans HG2.out
      have hq5 := (hb12.block _ (blk_lt HG5.out)).trans HG5.out
      have c50 : w2.cell? ⟨w.heap.size + 1, 0, none⟩ = some (.slice A acc.length cc) := cell_of_row _ _ _ _ _ _ hq5
      have f50 := frozen_of_row w2 _ 0 _ _ hq5
      have hl5 := blk_lt HG5.out
      have hl2 := blk_lt HG2.out
      have HQ2 := Lib.hid hq2; have HQ5 := Lib.hid hq5
      have hsz2 := hb12.size
      clear hb2 hg6 hb12 HO2 HO3 hq2 hq5 hz6
      have HQ2A := Lib.hid ((((Below.refl _ ((w2.setCell ⟨w1.heap.size, 0, none⟩ (.int .i64 k)).setCell ⟨w1.heap.size, 1, none⟩ (.string ⟨c.toArray⟩))).alloc (Nat.le_refl _) (.cells #[.int .i64 k, .string ⟨c.toArray⟩] 61)).block _ (by simp; omega)).trans (but_ne (((But.refl w1.heap.size w2).set 0 (.int .i64 k)).set 1 (.string ⟨c.toArray⟩)) HQ2.out (by omega)))
      have HQ5A := Lib.hid ((((Below.refl _ ((w2.setCell ⟨w1.heap.size, 0, none⟩ (.int .i64 k)).setCell ⟨w1.heap.size, 1, none⟩ (.string ⟨c.toArray⟩))).alloc (Nat.le_refl _) (.cells #[.int .i64 k, .string ⟨c.toArray⟩] 61)).block _ (by simp; omega)).trans (but_ne (((But.refl w1.heap.size w2).set 0 (.int .i64 k)).set 1 (.string ⟨c.toArray⟩)) HQ5.out (by omega)))
      have HB5 := Lib.hid (((HB2.out.setCell (p := ⟨w1.heap.size, 0, none⟩) HB.out.size (.int .i64 k)).setCell (p := ⟨w1.heap.size, 1, none⟩) HB.out.size (.string ⟨c.toArray⟩)).alloc (by simp; omega) (.cells #[.int .i64 k, .string ⟨c.toArray⟩] 61))
      have HRD := Lib.hid (new_rd (w := w2) (W := (w2.setCell ⟨w1.heap.size, 0, none⟩ (.int .i64 k)).setCell ⟨w1.heap.size, 1, none⟩ (.string ⟨c.toArray⟩)) #[.int .i64 k, .string ⟨c.toArray⟩] 61 2 (by simp) [.int .i64 k, .string ⟨c.toArray⟩] rfl)
      rcases hk1 with ⟨rfl, hc0⟩ | hk1
      ·go_wp2_with (at_builtin; refine wpList_app _ rfl (.tmp 30) (.tmp 32) _ rfl (w.heap.size + 2) 61 i0 _ 2 24 Tryz.underlying108 hi0 hz0 hz1 hz2 rfl (by omega) _ acc.length (TL acc) rfl HO4.out _ 1 1 [.int .i64 1, .string ⟨c.toArray⟩] rfl rfl HRD.out (by simp [Value.oneCell']) (by simp only [maxLen]; omega) (by omega) (by simp; omega) ?_; intro v7 w7 hown7 hg7 hb7 hat7; clear hat7; obtain ⟨A7, cc7, rfl, _, _, _⟩ := own_rd hown7; have hq7 := (hb7.block (w.heap.size + 1) (by omega)).trans HQ5A.out; have c57 : w7.cell? ⟨w.heap.size + 1, 0, none⟩ = some (.slice A acc.length cc) := cell_of_row _ _ _ _ _ _ hq7; have f57 := frozen_of_row w7 _ 0 _ _ hq7)
       have hown8 : w7.ownsRow (w.heap.size + 2) 61 2 (.slice A7 (acc.length + 1) cc7) (acc ++ [((1, c) : Ty)]).length (TL (acc ++ [(1, c)])) := by rw [List.length_append, TL_app]; exact hown7
       have hown9 := own_but hown8 (b := w.heap.size + 1) (by omega) ((But.refl (w.heap.size + 1) w7).set 0 (.slice A7 (acc.length + 1) cc7))
       have hq9 : (w7.setCell ⟨w.heap.size + 1, 0, none⟩ (.slice A7 (acc.length + 1) cc7)).heap[w.heap.size + 1]? = some (.cells #[.slice A7 (acc.length + 1) cc7, .int .i64 0, .string ⟨#[]⟩] 136 (0, 0)) := heap_setCell_same w7 (w.heap.size + 1) 0 _ _ (.slice A7 (acc.length + 1) cc7) hq7
       have hq29 := but_ne ((But.refl (w.heap.size + 1) w7).set 0 (.slice A7 (acc.length + 1) cc7)) ((hb7.block w.heap.size (by omega)).trans HQ2A.out) (by omega)
       have HB9 := Lib.hid ((HB5.out.trans (hb7.mono (by omega))).setCell (p := ⟨w.heap.size + 1, 0, none⟩) (by simp) (.slice A7 (acc.length + 1) cc7))
       have HO9 := Lib.hid hown9; have HQ9 := Lib.hid hq9; have HQ29 := Lib.hid hq29
       clear hown7 hg7 hb7 hown8 hown9 hq7 hq9 hq29 c57 f57
       go_roundw
       case rel => exact ⟨q, acc ++ [((1, c) : Ty)], _, rfl, HNX.out, HQ29.out, HQ9.out, HO9.out, HB9.out⟩
       case measure => first | (simp [strLen, mk_len]; omega) | (simp [strLen]; rw [mk_len, mk_len]; omega)
      ·go_wp2_with (at_builtin; refine wpList_app _ rfl (.tmp 30) (.tmp 32) _ rfl (w.heap.size + 2) 61 i0 _ 2 24 Tryz.underlying108 hi0 hz0 hz1 hz2 rfl (by omega) _ acc.length (TL acc) rfl HO4.out _ 1 1 [.int .i64 k, .string ⟨c.toArray⟩] rfl rfl HRD.out (by simp [Value.oneCell']) (by simp only [maxLen]; omega) (by omega) (by simp; omega) ?_; intro v7 w7 hown7 hg7 hb7 hat7; clear hat7; obtain ⟨A7, cc7, rfl, _, _, _⟩ := own_rd hown7; have hq7 := (hb7.block (w.heap.size + 1) (by omega)).trans HQ5A.out; have c57 : w7.cell? ⟨w.heap.size + 1, 0, none⟩ = some (.slice A acc.length cc) := cell_of_row _ _ _ _ _ _ hq7; have f57 := frozen_of_row w7 _ 0 _ _ hq7)
       have hown8 : w7.ownsRow (w.heap.size + 2) 61 2 (.slice A7 (acc.length + 1) cc7) (acc ++ [((k, c) : Ty)]).length (TL (acc ++ [(k, c)])) := by rw [List.length_append, TL_app]; exact hown7
       have hown9 := own_but hown8 (b := w.heap.size + 1) (by omega) ((But.refl (w.heap.size + 1) w7).set 0 (.slice A7 (acc.length + 1) cc7))
       have hq9 : (w7.setCell ⟨w.heap.size + 1, 0, none⟩ (.slice A7 (acc.length + 1) cc7)).heap[w.heap.size + 1]? = some (.cells #[.slice A7 (acc.length + 1) cc7, .int .i64 0, .string ⟨#[]⟩] 136 (0, 0)) := heap_setCell_same w7 (w.heap.size + 1) 0 _ _ (.slice A7 (acc.length + 1) cc7) hq7
       have hq29 := but_ne ((But.refl (w.heap.size + 1) w7).set 0 (.slice A7 (acc.length + 1) cc7)) ((hb7.block w.heap.size (by omega)).trans HQ2A.out) (by omega)
       have HB9 := Lib.hid ((HB5.out.trans (hb7.mono (by omega))).setCell (p := ⟨w.heap.size + 1, 0, none⟩) (by simp) (.slice A7 (acc.length + 1) cc7))
       have HO9 := Lib.hid hown9; have HQ9 := Lib.hid hq9; have HQ29 := Lib.hid hq29
       clear hown7 hg7 hb7 hown8 hown9 hq7 hq9 hq29 c57 f57
       go_roundw
       case rel => exact ⟨q, acc ++ [((k, c) : Ty)], _, rfl, HNX.out, HQ29.out, HQ9.out, HO9.out, HB9.out⟩
       case measure => first | (simp [strLen, mk_len]; omega) | (simp [strLen]; rw [mk_len, mk_len]; omega)
 ·rw [decide_eq_false h40] at hP
  have HP := Lib.hid hP
  have HG := Lib.hid (show sigD s = none by unfold sigD; rw [if_neg h40])
  clear hP h40 hs hal hm hv
  go_enter Tryz.func123, Tryz.ntmps123
  go_wp2_with fail
  refine (HP.out _).mono ?_
  rintro e w1 ⟨rfl, rfl⟩
  go_wp2
  exact ⟨rfl, gaveS_none HG.out rfl HAL.out⟩
end Go.Proofs.YtjcdgpfffmnneaaGreatDoor.kind

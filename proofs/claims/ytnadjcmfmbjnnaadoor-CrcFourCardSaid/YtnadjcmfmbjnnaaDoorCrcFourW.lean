/-
  The walk of the law CrcFour: bytes that are turned within four in a row, and their sum.
-/
import Derived.Test.YtnadjcmfmbjnnaaDoorLive2
import Derived.Test.YtnadjcmfmbjnnaaDoorFourNum
namespace Go.Proofs.YtnadjcmfmbjnnaaDoor.crcFour
open Go.RowKit
open Go.Proofs.YtnadjcmfmbjnnaaDoor.crcnum Go.Proofs.YtnadjcmfmbjnnaaDoor.words Go.Proofs.YtnadjcmfmbjnnaaDoor.fournum

theorem xor8 {a b : Nat} (ha : a < 256) (hb : b < 256) : bits .xor .u8 (a : Int) (b : Int) = ((a ^^^ b : Nat) : Int) := u8_xor_nat a b ha hb
theorem B_set (l : List Nat) (i x : Nat) : (B l).set i (.int .u8 (x : Int)) = B (l.set i x) := by simp [B, List.map_set]
theorem box_at {w : World} {g t x y z u j : Nat} (h : w.heap[g]? = some (.cells #[.int .u8 (x : Int), .int .u8 (y : Int), .int .u8 (z : Int), .int .u8 (u : Int)] t (0, 0))) (hj : j < 4) :
    w.cell? ⟨g, j, none⟩ = some (.int .u8 (four x y z u j : Int)) := by
  rw [cell_of_row w g j _ t (0, 0) h]
  match j, hj with
  | 0, _ => rfl
  | 1, _ => rfl
  | 2, _ => rfl
  | 3, _ => rfl
theorem own_at {w : World} {base e n g cap : Nat} {l : List Nat} (h : w.ownsRow base e 1 (.slice (some ⟨g, 0, none⟩) n cap) n (B l)) {i y : Nat} (hy : l[i]? = some y) : w.cell? ⟨g, i, none⟩ = some (.int .u8 (y : Int)) := by
  have h1 := B_at hy
  obtain ⟨hlt, _⟩ := List.getElem?_eq_some_iff.1 h1
  rw [h.cellAt i (by have := h.1; omega)]
  exact h1
def Turned (l : List Nat) (d : Nat → Nat) (p j : Nat) (t : Bool) : Prop := t = true ↔ ∃ i, i < j ∧ p + i < l.length ∧ d i ≠ 0
theorem Turned.skip {l : List Nat} {d : Nat → Nat} {p j : Nat} {t : Bool} (h : Turned l d p j t) (hs : l.length ≤ p + j ∨ d j = 0) : Turned l d p (j + 1) t := by
  unfold Turned at *
  rw [h]
  constructor
  · rintro ⟨i, h1, h2, h3⟩; exact ⟨i, by omega, h2, h3⟩
  · rintro ⟨i, h1, h2, h3⟩
    by_cases e : i = j
    · subst e
      rcases hs with hs | hs
      · omega
      · exact absurd hs h3
    · exact ⟨i, by omega, h2, h3⟩
theorem Turned.turn {l : List Nat} {d : Nat → Nat} {p j : Nat} (h1 : p + j < l.length) (h2 : d j ≠ 0) : Turned l d p (j + 1) true := by
  unfold Turned
  simp only [true_iff]
  exact ⟨j, by omega, h1, h2⟩

set_option maxRecDepth 20000 in
set_option maxHeartbeats 1600000 in
theorem walk (A : Option Addr) (n c : Nat) (l : List Nat) (a : Int) (x y z u : Nat) (w : World) (hr : Rd w A (B l)) (hl : l.length = n) (_ : n ≤ c) (hby : ∀ x ∈ l, x < 256) (hn : n * 1 ≤ 140737488351232)
    (a1 : 0 ≤ a) (a2 : a ≤ 65535) (h4 : x < 256 ∧ y < 256 ∧ z < 256 ∧ u < 256) (ht : crc.Tab w) :
    Calls Tryd.prog 6 #[.slice A n c, .int .u16 a, .agg #[.int .u8 (x : Int), .int .u8 (y : Int), .int .u8 (z : Int), .int .u8 (u : Int)]] w fun e w' => e = .returned (.bool true) ∧ Below w.heap.size w w' := by
  obtain ⟨i0, hi0, hz0, hz1, hz2⟩ := info_parts put.info5
  obtain ⟨p, rfl⟩ := Int.eq_ofNat_of_zero_le a1
  have d4 := four_lt h4
  have S := fun w h1 h2 => crc.sum_any A n c l w h1 h2 hl (by omega) hby
  have S2 : ∀ X cx cur w, cur.length = n → (∀ x ∈ cur, x < 256) → crc.Tab w → Rd w X (B cur) → Calls Tryd.prog 10 #[.slice X n cx] w fun e w' => e = .returned (.int .u32 (sumL cur : Int)) ∧ w = w' := fun X cx cur w h0 h1 h2 h3 => crc.sum_any X n cx cur w h2 h3 h0 (by omega) h1
  have S := Lib.hid S; have S2 := Lib.hid S2; have HL := Lib.hid hl; have HN := Lib.hid hn; have HBY := Lib.hid hby; have D4 := Lib.hid d4
  have nI : (n : Int) ≤ 140737488351232 := by omega
  have ba : Below w.heap.size w (w.alloc (Obj.cells #[.int .u8 (x : Int), .int .u8 (y : Int), .int .u8 (z : Int), .int .u8 (u : Int)] 38)) := (Below.refl _ _).alloc (Nat.le_refl _) _
  have hr1 := hr.below ba
  have BA := Lib.hid ba
  have hbox0 := heap_alloc_new w (Obj.cells #[.int .u8 (x : Int), .int .u8 (y : Int), .int .u8 (z : Int), .int .u8 (u : Int)] 38)
  have HBOX := Lib.hid hbox0
  clear hl hn hby d4 h4 ba hbox0
  go_enter Tryd.func6, Tryd.ntmps6
  go_wp2_with (at_builtin; refine wpList_app _ rfl (.tmp 11) (.tmp 12) _ rfl (w.heap.size + 1) 5 i0 _ 1 1 Tryd.underlying23 hi0 hz0 hz1 hz2 rfl (by omega) _ 0 [] rfl (World.ownsRow_nil _ _ _ _) A n c (B l) rfl (by rw [B_len, HL.out]; omega) hr1 (B_one l) (by have := HN.out; simp only [maxLen]; omega) (by have := HN.out; omega) (by simp) ?_; intro v1 w1 hown1 hg1 hb1 hat1; clear hg1 hat1)
  rw [List.nil_append, Nat.zero_add] at hown1
  go_loopw [8, 9] (fun tv iv wr => ∃ (j : Nat) (t : Bool) (cur : List Nat), j ≤ 4 ∧ iv = .int .i64 (j : Int) ∧ tv = .bool t ∧ Turned l (four x y z u) p j t ∧ Cur l cur (four x y z u) p j ∧ wr.ownsRow (w.heap.size + 1) 5 1 v1 n (B cur) ∧
      Below (w.heap.size + 1) (w.alloc (Obj.cells #[.int .u8 (x : Int), .int .u8 (y : Int), .int .u8 (z : Int), .int .u8 (u : Int)] 38)) wr) (fun _ iv _ => 4 - (intOf iv).toNat)
  case atStart => exact ⟨0, false, l, by omega, rfl, rfl, by unfold Turned; simp, Cur.start _ _ _, hown1, hb1⟩
  case round =>
    obtain ⟨j, t, cur, hj, rfl, rfl, htd, hcur, hown, hb⟩ := hrel
    have hcl : cur.length = n := by rw [hcur.1]; exact HL.out
    have HCL := Lib.hid hcl; have HTD := Lib.hid htd; have HC := Lib.hid hcur; have HO := Lib.hid hown
    clear hcl htd hcur hown
    by_cases hlt : j < 4
    · have hbx := box_at ((hb.block w.heap.size (by omega)).trans HBOX.out) hlt
      have hdj := D4.out j
      obtain ⟨d, hd⟩ : ∃ d, four x y z u j = d := ⟨_, rfl⟩
      rw [hd] at hbx hdj
      have HD := Lib.hid hd
      clear hd
      by_cases hin : p + j < n
      · obtain ⟨b, hcb⟩ : ∃ b, cur[p + j]? = some b := ⟨cur[p + j]'(by rw [HCL.out]; exact hin), List.getElem?_eq_getElem _⟩
        obtain ⟨g, cap, rfl, hcap, _⟩ := live2.own_form HO.out (by omega)
        have hcell := own_at HO.out hcb
        have hfz := World.ownsRow.frozenAt HO.out (p + j)
        have hcub := HC.out.byte HBY.out D4.out
        have hbb := hcub b (List.mem_of_getElem? hcb)
        have hx := xor8 hbb hdj
        have hgne : g ≠ w.heap.size := by have := (HO.out.lt g rfl).1; omega
        have HCB := Lib.hid hcb
        clear hcb hcub hown1
        have hinI : (p : Int) + j < n := by omega
        by_cases h0 : d = 0
        · have hz : ((d : Int) != 0) = false := by rw [h0]; rfl
          have H0 := Lib.hid h0
          clear h0
          go_wp2
          go_roundw
          case rel => exact ⟨j + 1, t, cur, by omega, by go_num, rfl, HTD.out.skip (.inr (by rw [HD.out]; exact H0.out)), HC.out.skip (.inr (by rw [HD.out]; exact H0.out)), HO.out, hb⟩
          case measure => simp [intOf]; omega
        · have hz : ((d : Int) != 0) = true := by simp; omega
          have H0 := Lib.hid h0
          clear h0
          go_wp2
          go_region
          have hst := (HO.out.stored (p + j) (.int .u8 ((b ^^^ d : Nat) : Int))).1
          rw [B_set] at hst
          have hbn := (hb.setCell (p := ⟨g, p + j, none⟩) (HO.out.lt g rfl).1 (.int .u8 ((b ^^^ d : Nat) : Int))).drew
          have hcn := HC.out.turn HCB.out
          rw [HD.out] at hcn
          have HST := Lib.hid hst; have HBN := Lib.hid hbn; have HCN := Lib.hid hcn
          clear hst hbn hcn hcell hbx
          go_wp2
          go_roundw
          case rel => exact ⟨j + 1, true, cur.set (p + j) (b ^^^ d), by omega, by go_num, rfl, Turned.turn (by rw [HL.out]; exact hin) (by rw [HD.out]; exact H0.out), HCN.out, HST.out, HBN.out⟩
          case measure => simp [intOf]; omega
      · have hinI : (n : Int) ≤ p + j := by omega
        obtain ⟨X, cx, rfl, _, _, _⟩ := own_rd HO.out
        clear hown1
        go_wp2
        go_roundw
        case rel => exact ⟨j + 1, t, cur, by omega, by go_num, rfl, HTD.out.skip (.inl (by rw [HL.out]; omega)), HC.out.skip (.inl (by rw [HL.out]; omega)), HO.out, hb⟩
        case measure => simp [intOf]; omega
    · have hj4 : j = 4 := by omega
      have hcub := HC.out.byte HBY.out D4.out
      have hiff : t = true ↔ sumL cur ≠ sumL l := by
        have h1 := HTD.out
        have h2 := HC.out
        rw [hj4] at h1 h2
        rw [h2.sums HBY.out D4.out]
        exact h1
      have hne : ((sumL cur : Int) != (sumL l : Int)) = t := by
        cases t with
        | true => rw [bne_iff_ne]; intro h; exact hiff.1 rfl (by omega)
        | false =>
          rw [bne_eq_false_iff_eq]
          rcases Nat.lt_trichotomy (sumL cur) (sumL l) with h | h | h
          · have := hiff.2 (by omega); cases this
          · omega
          · have := hiff.2 (by omega); cases this
      have hbw : Below w.heap.size w wr := BA.out.trans (hb.mono (by omega))
      have htr := ht.below hbw
      have hr2 := hr.below hbw
      obtain ⟨X, cx, rfl, _, _, hrx⟩ := own_rd HO.out
      have S2x := fun w h1 h2 => S2.out X cx cur w HCL.out hcub h1 h2
      have S2x := Lib.hid S2x
      have HBW := Lib.hid hbw
      clear hcub hiff hbw hown1 hj4 S2 hb hb1 hr1
      generalize sumL cur = s1 at *
      generalize sumL l = s2 at *
      go_wp2_with fail
      refine (live2.live_any _ htr).mono ?_
      rintro e w3 ⟨rfl, hb3⟩
      have t3 := htr.below hb3
      have r3 := hr2.below hb3
      have x3 := hrx.below hb3
      go_wp2_with fail
      refine (S2x.out _ t3 x3).mono ?_
      rintro e w' ⟨rfl, rfl⟩
      go_wp2_with fail
      refine (S.out _ t3 r3).mono ?_
      rintro e w' ⟨rfl, rfl⟩
      have htt : (t == t) = true := by simp
      go_wp2
      go_ret
      exact ⟨rfl, then_ HBW.out (Nat.le_refl _) hb3⟩
end Go.Proofs.YtnadjcmfmbjnnaaDoor.crcFour

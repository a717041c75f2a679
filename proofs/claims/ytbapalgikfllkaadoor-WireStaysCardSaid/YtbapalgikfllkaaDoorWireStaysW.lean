/-
  The walk of WireStays: behind a failure nothing changes any more, and a reader stands within its bytes.
-/
import Derived.Test.YtbapalgikfllkaaDoorWireReadsW
import Derived.Deep.DeepCutAuto
namespace Go.Proofs.YtbapalgikfllkaaDoor.wireStays
open Go.RowKit
open Go.Proofs.YtbapalgikfllkaaDoor.num Go.Proofs.YtbapalgikfllkaaDoor.words Go.Proofs.YtbapalgikfllkaaDoor.rdnum Go.Proofs.YtbapalgikfllkaaDoor.rdr Go.Proofs.YtbapalgikfllkaaDoor.give Go.Proofs.YtbapalgikfllkaaDoor.sealing Go.Proofs.YtbapalgikfllkaaDoor.meth Go.Proofs.YtbapalgikfllkaaDoor.refr Go.Proofs.YtbapalgikfllkaaDoor.both Go.Proofs.YtbapalgikfllkaaDoor.write Go.Proofs.YtbapalgikfllkaaDoor.wireReads

set_option maxRecDepth 100000 in
set_option maxHeartbeats 1600000 in
theorem walk (A : Option Addr) (n c : Nat) (l : List Nat) (C : Option Addr) (m e : Nat) (r : List (Int × Int)) (w : World) (hr : Rd w A (B l)) (hl : l.length = n) (_hc : n ≤ c) (hby : ∀ x ∈ l, x < 256) (hreach : n * 1 ≤ 140737488351232)
    (hq : Rds w C r) (hrl : r.length = m) (hm : m ≤ 140737488351232) (tab : crc.Tab w) :
    Calls Tryd.prog 6 #[.slice A n c, .slice C m e] w fun en w' => en = .returned (.bool true) ∧ Below w.heap.size w w' := by
  have HTab := Lib.hid tab
  have O1 := Lib.hid (fun wx (h : Rd wx A (B l)) => open_w A n c l wx h hl (by omega) hby)
  have O2 := Lib.hid (fun wx (h : Rd wx A (B l)) => open_r A n c l wx h hl (by omega) hby)
  have HRd := Lib.hid hr
  have HQ := Lib.hid hq
  have HRL := Lib.hid hrl
  have hmI : (m : Int) ≤ 140737488351232 := by omega
  have hnI : (n : Int) ≤ 140737488351232 := by omega
  have HLN := Lib.hid hl
  clear tab hr hl hby hreach hq hrl
  go_enter Tryd.func6, Tryd.ntmps6
  go_wp2_with fail
  refine (O1.out w HRd.out).mono ?_
  rintro en w1 ⟨g1, rfl, hg1, hr1, hb1⟩
  have HB1 := Lib.hid hb1
  have HR1 := Lib.hid hr1
  clear hb1 hr1
  go_wp2_with fail
  refine (O2.out w1 (HRd.out.below HB1.out)).mono ?_
  rintro en w2 ⟨g2, rfl, hg2, hr2, hb2⟩
  have HB2 := Lib.hid (then_ HB1.out (Nat.le_refl _) hb2)
  have hpair := new_pair (base := w.heap.size) (HR1.out.below hb2) hr2 hg1 (Nat.le_trans HB1.out.size hg2) HB2.out.size
  have HP := Lib.hid hpair
  have HB3 := Lib.hid (HB2.out.alloc HB2.out.size (Obj.cells #[.pointer (some ⟨g1, 0, none⟩), .pointer (some ⟨g2, 0, none⟩)] 30))
  clear hb2 hr2 hpair HR1 hg1 hg2
  go_wp2_with fail
  generalize w2.alloc (Obj.cells #[.pointer (some ⟨g1, 0, none⟩), .pointer (some ⟨g2, 0, none⟩)] 30) = w3 at *
  generalize w2.heap.size = d at *
  refine (live3.live_any w3 (HTab.out.below HB3.out)).mono ?_
  rintro en w4 ⟨rfl, hb4⟩
  have HB4 := Lib.hid (then_ HB3.out (Nat.le_refl _) hb4)
  have HP4 := Lib.hid (HP.out.below hb4)
  clear hb4 HB3 HP HB2 HB1
  go_wp2_with fail
  go_loopw [6] (fun i wr => ∃ k : Nat, k ≤ m ∧ k ≤ 60 ∧ i = .int .i64 (k : Int) ∧ (∃ s, Pair wr d s w.heap.size ∧ s.l.length ≤ n) ∧ Below w.heap.size w wr) (fun i _ => 60 - (intOf i).toNat)
  case atStart => exact ⟨0, Nat.zero_le _, Nat.zero_le _, rfl, ⟨_, HP4.out, by dsimp only; rw [HLN.out]; exact Nat.le_refl _⟩, HB4.out⟩
  case round =>
    obtain ⟨k, hk, hk60, rfl, ⟨s, hp, hsn⟩, hb⟩ := hrel
    have HB := Lib.hid hb
    have HP := Lib.hid hp
    clear hb hp
    by_cases hlt : k < m
    · by_cases h60 : k < 60
      · obtain ⟨⟨kd, nn⟩, hx⟩ : ∃ q, r[k]? = some q := ⟨r[k]'(by rw [HRL.out]; exact hlt), List.getElem?_eq_getElem _⟩
        obtain ⟨a, rfl, ha, c1, c2, n1, n2⟩ := (HQ.out.below HB.out) k _ hx
        dsimp only at c1 c2 n1 n2
        have c3 : wr.cell? ⟨(a.add (k * 2)).block, (a.add (k * 2)).off + 1, none⟩ = some (.int .i64 nn) := by rw [← add_add] at c2; exact c2
        have hltI : (k : Int) < (m : Int) := by omega
        have h60I : (k : Int) < 60 := by omega
        have RD := Lib.hid (fun wx t (h : Pair wx d s w.heap.size) hb => read_any d s w.heap.size kd nn wx t h hb n1 n2)
        clear hx n1 n2 c2
        obtain ⟨b, g, hh, hw, hrr, e1, e2, e3⟩ := HP.out
        have HW := Lib.hid hw
        have d0 : wr.cell? ⟨d, 0, none⟩ = some (.pointer (some ⟨b, 0, none⟩)) := by rw [cell_of_row _ _ _ _ _ _ hh]; rfl
        have hdl := blk_lt hh
        have F1 := Lib.hid (fun wx (h : RW wx b s) => fault_m b s wx h)
        have A1 := Lib.hid (fun wx (h : RW wx b s) => at_m b s wx h)
        have hnew := World.new_ne wr ⟨d, 0, none⟩ d0
        clear hh hw hrr e1 e2 e3
        go_upto_region 7 with fail
        go_cut [7, 8] (fun s7 s8 wx => ∃ g : Nat, s7 = .pointer (some ⟨g, 0, none⟩) ∧ s8 = .int .i64 (s.p : Int) ∧ wx.heap[g]? = some (.cells #[.int .i64 s.e, .int .i64 (s.f : Int)] 51 (0, 0)) ∧ Below wr.heap.size wr wx)
        case first =>
          go_region_held3 (fun w' => w'.cell? ⟨d, 0, none⟩ = some (.pointer (some ⟨b, 0, none⟩))) (go_keep)
            (first
              | (go_at_call 30; refine (F1.out _ ?_).mono ?_; (first | exact HW.out | exact RW.below HW.out ((Below.refl _ _).alloc (Nat.le_refl _) _) | exact RW.below HW.out (over ((Below.refl _ _).alloc (Nat.le_refl _) _))); rintro en w5 ⟨rfl, hb5⟩; unfold fv; have hbz : Below wr.heap.size wr w5 := (by first | exact under hb5 | exact hb5 | exact then_ ((Below.refl _ _).alloc (Nat.le_refl _) _) (Nat.le_refl _) hb5 | exact then_ (over ((Below.refl _ _).alloc (Nat.le_refl _) _)) (Nat.le_refl _) hb5 | exact then_ (Below.drew ((Below.refl _ _).alloc (Nat.le_refl _) _)) (Nat.le_refl _) hb5); have p0 := (hbz.cell (p := ⟨d, 0, none⟩) hdl).trans d0; (first | (have hn5 : w5.heap[wr.heap.size]? = some (Obj.cells #[Value.int IntKind.i64 0, Value.int IntKind.i64 0] 51 (0, 0)) := (hb5.block wr.heap.size (by show _ < (wr.alloc (Obj.cells #[Value.int IntKind.i64 0, Value.int IntKind.i64 0] 51)).heap.size; rw [World.size_alloc]; omega)).trans (heap_alloc_new wr _); have z0 : w5.cell? ⟨wr.heap.size, 0, none⟩ = some (.int .i64 0) := (by rw [cell_of_row _ _ _ _ _ _ hn5]; rfl); have z1 : w5.cell? ⟨wr.heap.size, 1, none⟩ = some (.int .i64 0) := (by rw [cell_of_row _ _ _ _ _ _ hn5]; rfl); have y0 := frozen_of_row w5 _ 0 _ _ hn5; have y1 := frozen_of_row w5 _ 1 _ _ hn5) | skip))
              | (go_at_call 31; refine (A1.out _ ?_).mono ?_; (first | exact RW.below HW.out hbz | exact RW.below (RW.below HW.out hbz) ((Below.refl _ _).alloc (Nat.le_refl _) _)); rintro en w6 ⟨rfl, rfl⟩))
          all_goals
            go_wp2_with fail
            go_meet
            first
              | exact ⟨_, rfl, rfl, heap_alloc_new _ _, hbz.alloc hbz.size _⟩
              | exact ⟨_, rfl, rfl, heap_setCell_same _ _ 1 _ _ _ (heap_setCell_same _ _ 0 _ _ _ hn5), (hbz.setCell (Nat.le_refl _) _).setCell (Nat.le_refl _) _⟩
        case rest =>
          obtain ⟨gx, rfl, rfl, hgx, hbx⟩ := hcut
          have HBc := Lib.hid (HB.out.trans (hbx.mono HB.out.size))
          have HPc := Lib.hid (HP.out.below hbx)
          have k1 := (hbx.cell (by rw [add_block]; exact ha)).trans c1
          have k3 := (hbx.cell (p := ⟨(a.add (k * 2)).block, (a.add (k * 2)).off + 1, none⟩) (by show (a.add (k * 2)).block < _; rw [add_block]; exact ha)).trans c3
          have HGX := Lib.hid hgx
          clear hgx hbx c1 c3 d0 hnew HW
          go_wp2_with fail
          refine (RD.out wc (HTab.out.below HBc.out) HPc.out HBc.out.size).mono ?_
          rintro en w6 ⟨rfl, ⟨t, hpt, hst⟩, hb6, hk6⟩
          have HB6 := Lib.hid (HBc.out.trans hb6)
          have HP6 := Lib.hid hpt
          have hgx6 := (hk6 _ _ _ HGX.out).trans HGX.out
          have x0 : w6.cell? ⟨gx, 0, none⟩ = some (.int .i64 s.e) := by rw [cell_of_row _ _ _ _ _ _ hgx6]; rfl
          have x1 : w6.cell? ⟨gx, 1, none⟩ = some (.int .i64 (s.f : Int)) := by rw [cell_of_row _ _ _ _ _ _ hgx6]; rfl
          have hgl := blk_lt hgx6
          obtain ⟨b', c', hh, hw, hrr, e1, e2, e3⟩ := hpt
          have HW := Lib.hid hw
          have d0 : w6.cell? ⟨d, 0, none⟩ = some (.pointer (some ⟨b', 0, none⟩)) := by rw [cell_of_row _ _ _ _ _ _ hh]; rfl
          have hdl6 := blk_lt hh
          have hok := hw.1.le
          have htl := hst.2
          have F2 := Lib.hid (fun wx (h : RW wx b' t) => fault_m b' t wx h)
          have A2 := Lib.hid (fun wx (h : RW wx b' t) => at_m b' t wx h)
          have L2 := Lib.hid (fun wx (h : RW wx b' t) => left_m b' t wx h)
          have hp0 : ¬ (t.p : Int) < 0 := by omega
          have hp1 : ¬ (n : Int) < (t.p : Int) := by omega
          have hle : ¬ (n : Int) < left t := by unfold left; split <;> omega
          have HST := Lib.hid hst
          clear hst hb6 hk6 hgx6 hh hw hrr e1 e2 e3 k1 k3 F1 A1 RD hok htl
          go_wp2_with fail
          refine (A2.out w6 HW.out).mono ?_
          rintro en w7 ⟨rfl, rfl⟩
          go_wp2_with fail
          refine (A2.out _ HW.out).mono ?_
          rintro en w8 ⟨rfl, rfl⟩
          go_wp2_with fail
          refine (L2.out _ HW.out).mono ?_
          rintro en w9 ⟨rfl, q9, rfl⟩
          go_wp2_with fail
          by_cases hs : s.e = 0
          · rw [hs] at x0
            go_quiet (fail)
            go_wp2_with fail
            go_roundw
            case rel => exact ⟨k + 1, by omega, by omega, by go_num, ⟨t, HP6.out, by have := HST.out.2; omega⟩, over HB6.out⟩
            case measure => simp [intOf]; omega
          · obtain ⟨te, tf, tp⟩ := HST.out.1 hs
            have hsb : (s.e == 0) = false := by simpa using hs
            have hsn2 : (s.e != 0) = true := by simpa using hs
            have hsd : decide (s.e = 0) = false := by simpa using hs
            go_region_held3 (fun w' => w'.cell? ⟨d, 0, none⟩ = some (.pointer (some ⟨b', 0, none⟩)) ∧ w'.cell? ⟨gx, 0, none⟩ = some (.int .i64 s.e) ∧ w'.cell? ⟨gx, 1, none⟩ = some (.int .i64 (s.f : Int))) (go_keep)
              (first
                | (go_at_call 30; refine (F2.out _ ?_).mono ?_; (first | exact HW.out); rintro en w9 ⟨rfl, hb9'⟩; unfold fv; rw [te, tf]; have hb9 : Below w8.heap.size w8 w9 := (by first | exact under hb9' | exact hb9'); have z0 := (hb9.cell (p := ⟨d, 0, none⟩) hdl6).trans d0; have z1 := (hb9.cell (p := ⟨gx, 0, none⟩) hgl).trans x0; have z2 := (hb9.cell (p := ⟨gx, 1, none⟩) hgl).trans x1)
                | (go_at_call 31; refine (A2.out _ ?_).mono ?_; (first | exact RW.below HW.out hb9); rintro en w10 ⟨rfl, rfl⟩; rw [tp]))
            go_wp2_with fail
            trace_state
            go_roundw
            case rel => exact ⟨k + 1, by omega, by omega, by go_num, ⟨t, HP6.out.below hb9, by have := HST.out.2; omega⟩, HB6.out.trans (hb9.mono HB6.out.size)⟩
            case measure => simp [intOf]; omega
      · have hltI : (k : Int) < (m : Int) := by omega
        have h60I : ¬ (k : Int) < 60 := by omega
        go_wp2
        go_ret
        exact ⟨rfl, HB.out⟩
    · have hltI : ¬ (k : Int) < (m : Int) := by omega
      go_wp2
      go_ret
      exact ⟨rfl, HB.out⟩
end Go.Proofs.YtbapalgikfllkaaDoor.wireStays

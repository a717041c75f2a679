/-
  A read of both readers: a section; they go on within it, where there is one.
-/
import Derived.Test.YtbapalgikfllkaaDoorBoth6
namespace Go.Proofs.YtbapalgikfllkaaDoor.both
open Go.RowKit
open Go.Proofs.YtbapalgikfllkaaDoor.num Go.Proofs.YtbapalgikfllkaaDoor.words Go.Proofs.YtbapalgikfllkaaDoor.rdnum Go.Proofs.YtbapalgikfllkaaDoor.rdr Go.Proofs.YtbapalgikfllkaaDoor.give Go.Proofs.YtbapalgikfllkaaDoor.sealing Go.Proofs.YtbapalgikfllkaaDoor.meth Go.Proofs.YtbapalgikfllkaaDoor.refr

/-- both go on in other readers -/
theorem Pair.swap {w : World} {d b c g h base : Nat} {t : Rs} (hd : w.heap[d]? = some (.cells #[.pointer (some ⟨b, 0, none⟩), .pointer (some ⟨c, 0, none⟩)] 30 (0, 0))) (hw : RW w g t) (hr : RR w h t) (hg : g ≠ d) (hh : h ≠ d) (b1 : base ≤ g) (b2 : base ≤ h) (b3 : base ≤ d) :
    Pair ((w.setCell ⟨d, 0, none⟩ (.pointer (some ⟨g, 0, none⟩))).setCell ⟨d, 1, none⟩ (.pointer (some ⟨h, 0, none⟩))) d t base := by
  have h1 := heap_setCell_same w d 0 _ _ (.pointer (some ⟨g, 0, none⟩)) hd
  have h2 := heap_setCell_same _ d 1 _ _ (.pointer (some ⟨h, 0, none⟩)) h1
  have hbut : But d w ((w.setCell ⟨d, 0, none⟩ (.pointer (some ⟨g, 0, none⟩))).setCell ⟨d, 1, none⟩ (.pointer (some ⟨h, 0, none⟩))) := ((But.refl d w).set 0 _).set 1 _
  have hno : ∀ cs f, w.heap[d]? ≠ some (.cells cs 5 f) := fun cs f => by rw [hd]; intro e; simp at e
  exact ⟨g, h, h2, hw.kept hbut hg hno, hr.kept hbut hh hno, b1, b2, b3⟩

set_option maxRecDepth 100000 in
set_option maxHeartbeats 1600000 in
theorem read4 (d : Nat) (s : Rs) (base : Nat) (n : Int) (w : World) (tab : crc.Tab w) (h : Pair w d s base) (hbase : base ≤ w.heap.size) :
    Calls Tryd.prog 17 #[.pointer (some ⟨d, 0, none⟩), .agg #[.int .i64 4, .int .i64 n]] w (ReadBoth d s base w) := by
  obtain ⟨b, c, hp⟩ := pre h 4 n
  have d0 := hp.d0
  have d1 := hp.d1
  have g0 := hp.g0
  have g1 := hp.g1
  obtain ⟨id, hid⟩ : ∃ id : Nat, IntKind.u8.wrap n = (id : Int) := ⟨(n % 256).toNat, by rw [IntKind.wrap_u8]; omega⟩
  have hTab : crc.Tab (w.alloc (Obj.cells #[Value.int IntKind.i64 4, Value.int IntKind.i64 n] 34)) := tab.below hp.wb
  have H1 := Lib.hid (fun wx (ht : crc.Tab wx) (h : RW wx b s) => sect_m b s id wx ht h)
  have H2 := Lib.hid (fun wx (h : RR wx c s) => sect_r c s id wx h)
  have HP := Lib.hid hp
  have hdb : ¬ d = b := hp.ne.1
  have hdc : ¬ d = c := hp.ne.2.1
  have hgb : ¬ w.heap.size = b := hp.ne.2.2.2.1
  have hgc : ¬ w.heap.size = c := hp.ne.2.2.2.2.1
  have HBA := Lib.hid hbase
  have HTab := Lib.hid hTab
  have fd : ∀ j, (w.alloc (Obj.cells #[Value.int IntKind.i64 4, Value.int IntKind.i64 n] 34)).frozen? ⟨d, j, none⟩ = false := fun j => frozen_of_row _ _ j _ _ hp.dh
  have HFd := Lib.hid fd
  clear hp h hbase tab hTab fd
  by_cases hok : s.e = 0 ∧ (sectT s.l s.p id).e = 0
  · have K1 := Lib.hid (fun wx (ht : crc.Tab wx) (h : RW wx b s) => (H1.out wx ht h).mono (R' := fun e w' => ∃ g, e = .returned (.pointer (some ⟨g, 0, none⟩)) ∧ wx.heap.size ≤ g ∧ RW w' g ⟨s.l.take ((sectT s.l s.p id).v.1 + (sectT s.l s.p id).v.2), (sectT s.l s.p id).v.1, 0, 0⟩ ∧ RW w' b (s.go (sectT s.l s.p id)) ∧ But b wx w') (fun e w' k => by
      obtain ⟨⟨_, _, g, he, hg, hr⟩ | ⟨h1 | h1, _⟩, h2, h3⟩ := k
      · exact ⟨g, he, hg, hr, h2, h3⟩
      · exact absurd hok.1 h1
      · exact absurd hok.2 h1))
    have K2 := Lib.hid (fun wx (h : RR wx c s) => (H2.out wx h).mono (R' := fun e w' => ∃ g, e = .returned (.pointer (some ⟨g, 0, none⟩)) ∧ wx.heap.size ≤ g ∧ RR w' g ⟨s.l.take ((sectT s.l s.p id).v.1 + (sectT s.l s.p id).v.2), (sectT s.l s.p id).v.1, 0, 0⟩ ∧ RR w' c (s.go (sectT s.l s.p id)) ∧ But c wx w') (fun e w' k => by
      obtain ⟨⟨_, _, g, he, hg, hr⟩ | ⟨h1 | h1, _⟩, h2, h3⟩ := k
      · exact ⟨g, he, hg, hr, h2, h3⟩
      · exact absurd hok.1 h1
      · exact absurd hok.2 h1))
    have HOK := Lib.hid hok
    clear hok
    go_enter Tryd.func17, Tryd.ntmps17
    go_wp2_with fail
    generalize w.alloc (Obj.cells #[Value.int IntKind.i64 4, Value.int IntKind.i64 n] 34) = W at *
    generalize hgs : w.heap.size = g at *
    have HGS := Lib.hid hgs
    clear hgs
    go_region_held3 (fun w' => w'.cell? ⟨d, 0, none⟩ = some (.pointer (some ⟨b, 0, none⟩)) ∧ w'.cell? ⟨d, 1, none⟩ = some (.pointer (some ⟨c, 0, none⟩)) ∧ w'.cell? ⟨g, 1, none⟩ = some (.int .i64 n)) (go_keep)
      (first
        | (go_at_call 22; refine (K1.out _ ?_ ?_).mono ?_; exact HTab.out; exact HP.out.rw_; rintro e w1 ⟨h1, rfl, hh1, hn1, hr1, hb1⟩; have q0 := hb1.undrew.cell d0 (by simpa using hdb); have q1 := hb1.undrew.cell d1 (by simpa using hdb); have q2 := hb1.undrew.cell g1 (by simpa using hgb))
        | (go_at_call 64; refine (K2.out _ ?_).mono ?_; exact HP.out.rr1 hb1.undrew; rintro e w2 ⟨h2, rfl, hh2, hn2, hr2, hb2⟩; have p0 := hb2.cell q0 (by simpa using hdc); have p1 := hb2.cell q1 (by simpa using hdc); have p2 := hb2.cell q2 (by simpa using hgc)))
    have hp := HP.out
    have hB1 : But b W w1 := hb1.undrew
    have hdl := blk_lt hp.dh
    have hcl := hp.rr.lt
    have hsz1 := hB1.size
    have hWg : g ≤ W.heap.size := by have := hp.wb.size; rw [HGS.out] at this; exact this
    have hh1' : W.heap.size ≤ h1 := hh1
    have hhd : w2.heap[d]? = some (.cells #[.pointer (some ⟨b, 0, none⟩), .pointer (some ⟨c, 0, none⟩)] 30 (0, 0)) := hb2.heap (hB1.heap hp.dh hp.ne.1) hp.ne.2.1
    have hno : ∀ cs f, w1.heap[c]? ≠ some (.cells cs 5 f) := fun cs f => by rw [hB1.block c hcl (fun e => hp.ne.2.2.1 (by cases e; rfl))]; exact hp.rr.no cs f
    have hn1' := hn1.kept hb2 (by omega) hno
    have f0 := frozen_of_row w2 d 0 _ _ hhd
    have f1 := frozen_of_row w2 d 1 _ _ hhd
    have hfin := Pair.swap (base := base) hhd hn1' hn2 (by omega) (by omega) (by have := HBA.out; omega) (by have := HBA.out; omega) hp.le.2.2
    have hbel : Below base w w2 := ((hp.wb.mono (by rw [HGS.out]; exact HBA.out)).trans (hB1.below hp.le.1 (by have := HBA.out; omega))).trans (hb2.below hp.le.2.1 (by have := HBA.out; omega))
    have hbel2 := (hbel.setCell (p := ⟨d, 0, none⟩) hp.le.2.2 (.pointer (some ⟨h1, 0, none⟩))).setCell (p := ⟨d, 1, none⟩) hp.le.2.2 (.pointer (some ⟨h2, 0, none⟩))
    have hkeep : Keep w _ := (((Keep.below hp.wb).trans (Keep.rw_ hB1 hp.rw_)).trans (Keep.rr hb2 (hp.rr1 hB1))).trans (Keep.but (((But.refl d w2).set 0 (.pointer (some ⟨h1, 0, none⟩))).set 1 (.pointer (some ⟨h2, 0, none⟩))) hhd (by decide))
    have HKP := Lib.hid hkeep
    have HFIN := Lib.hid hfin
    have HBEL := Lib.hid hbel2
    clear hkeep hp hB1 hdl hcl hsz1 hWg hh1' hhd hno hn1' hfin hbel hbel2 hb1 hb2 hn1 hn2 hr1 hr2 hh1 hh2 q0 q1 q2 p2 d0 d1 g0 g1
    go_wp2
    go_ret
    exact ⟨rfl, ⟨_, HFIN.out, fun h => absurd HOK.out.1 h, by dsimp only; rw [List.length_take]; omega⟩, HBEL.out, HKP.out⟩
  · have K1 := Lib.hid (fun wx (ht : crc.Tab wx) (h : RW wx b s) => (H1.out wx ht h).mono (R' := fun e w' => e = .returned (.pointer none) ∧ RW w' b (s.go (sectT s.l s.p id)) ∧ But b wx w') (fun e w' k => by
      obtain ⟨⟨h1, hz, g, he, hg, hr⟩ | ⟨_, h1⟩, h2, h3⟩ := k
      · exact absurd ⟨h1, hz⟩ hok
      · exact ⟨h1, h2, h3⟩))
    have K2 := Lib.hid (fun wx (h : RR wx c s) => (H2.out wx h).mono (R' := fun e w' => e = .returned (.pointer none) ∧ RR w' c (s.go (sectT s.l s.p id)) ∧ But c wx w') (fun e w' k => by
      obtain ⟨⟨h1, hz, g, he, hg, hr⟩ | ⟨_, h1⟩, h2, h3⟩ := k
      · exact absurd ⟨h1, hz⟩ hok
      · exact ⟨h1, h2, h3⟩))
    clear hok
    go_enter Tryd.func17, Tryd.ntmps17
    go_wp2_with fail
    generalize w.alloc (Obj.cells #[Value.int IntKind.i64 4, Value.int IntKind.i64 n] 34) = W at *
    generalize hgs : w.heap.size = g at *
    have HGS := Lib.hid hgs
    clear hgs
    go_region_held3 (fun w' => w'.cell? ⟨d, 0, none⟩ = some (.pointer (some ⟨b, 0, none⟩)) ∧ w'.cell? ⟨d, 1, none⟩ = some (.pointer (some ⟨c, 0, none⟩)) ∧ w'.cell? ⟨g, 1, none⟩ = some (.int .i64 n)) (go_keep)
      (first
        | (go_at_call 22; refine (K1.out _ ?_ ?_).mono ?_; exact HTab.out; exact HP.out.rw_; rintro e w1 ⟨rfl, hr1, hb1⟩; have q0 := hb1.undrew.cell d0 (by simpa using hdb); have q1 := hb1.undrew.cell d1 (by simpa using hdb); have q2 := hb1.undrew.cell g1 (by simpa using hgb))
        | (go_at_call 64; refine (K2.out _ ?_).mono ?_; exact HP.out.rr1 hb1.undrew; rintro e w2 ⟨rfl, hr2, hb2⟩; have p0 := hb2.cell q0 (by simpa using hdc); have p1 := hb2.cell q1 (by simpa using hdc); have p2 := hb2.cell q2 (by simpa using hgc)))
    have hd := HP.out.done (by rw [HGS.out]; exact HBA.out) hb1.undrew hr1 hb2 hr2
    have HD1 := Lib.hid hd.1
    have HD2 := Lib.hid hd.2
    clear hd hb1 hr1 hb2 hr2 q0 q1 q2 p0 p1 p2
    go_wp2
    go_ret
    exact ⟨rfl, ⟨_, HD1.out, stays_go _ _⟩, HD2.out.1, HD2.out.2⟩

/-- A READ OF BOTH, whatever is asked. -/
theorem read_any (d : Nat) (s : Rs) (base : Nat) (k n : Int) (w : World) (tab : crc.Tab w) (h : Pair w d s base) (hbase : base ≤ w.heap.size) (n1 : -9223372036854775808 ≤ n) (n2 : n ≤ 9223372036854775807) :
    Calls Tryd.prog 17 #[.pointer (some ⟨d, 0, none⟩), .agg #[.int .i64 k, .int .i64 n]] w (ReadBoth d s base w) := by
  by_cases hk : k < 0 ∨ 6 < k
  · exact readX d s base k n w h hbase hk
  · have h1 : k = 0 ∨ k = 1 ∨ k = 2 ∨ k = 3 ∨ k = 4 ∨ k = 5 ∨ k = 6 := by omega
    rcases h1 with rfl | rfl | rfl | rfl | rfl | rfl | rfl
    · exact read0 d s base n w h hbase
    · exact read1 d s base n w h hbase n1 n2
    · exact read2 d s base n w h hbase
    · exact read3 d s base n w h hbase
    · exact read4 d s base n w tab h hbase
    · exact read5 d s base n w h hbase
    · exact read6 d s base n w h hbase
end Go.Proofs.YtbapalgikfllkaaDoor.both

/-
  A read of both readers: a failure that is asked for, a section, and whatever else.
-/
import Derived.Test.YtbapalgikfllkaaDoorBoth0
namespace Go.Proofs.YtbapalgikfllkaaDoor.both
open Go.RowKit
open Go.Proofs.YtbapalgikfllkaaDoor.num Go.Proofs.YtbapalgikfllkaaDoor.words Go.Proofs.YtbapalgikfllkaaDoor.rdnum Go.Proofs.YtbapalgikfllkaaDoor.rdr Go.Proofs.YtbapalgikfllkaaDoor.give Go.Proofs.YtbapalgikfllkaaDoor.sealing Go.Proofs.YtbapalgikfllkaaDoor.meth Go.Proofs.YtbapalgikfllkaaDoor.refr

set_option maxRecDepth 100000 in
set_option maxHeartbeats 800000 in
theorem read6 (d : Nat) (s : Rs) (base : Nat) (n : Int) (w : World) (h : Pair w d s base) (hbase : base ≤ w.heap.size) :
    Calls Tryd.prog 17 #[.pointer (some ⟨d, 0, none⟩), .agg #[.int .i64 6, .int .i64 n]] w (ReadBoth d s base w) := by
  obtain ⟨b, c, hp⟩ := pre h 6 n
  have d0 := hp.d0
  have d1 := hp.d1
  have g0 := hp.g0
  have g1 := hp.g1
  have H1 := Lib.hid (fun wx (h : RW wx b s) => fail_mw b s n wx h)
  have H2 := Lib.hid (fun wx (h : RR wx c s) => fail_mr c s n wx h)
  have HP := Lib.hid hp
  have hdb : ¬ d = b := hp.ne.1
  have hdc : ¬ d = c := hp.ne.2.1
  have hgb : ¬ w.heap.size = b := hp.ne.2.2.2.1
  have hgc : ¬ w.heap.size = c := hp.ne.2.2.2.2.1
  have HBA := Lib.hid hbase
  clear hp h hbase
  go_enter Tryd.func17, Tryd.ntmps17
  go_wp2_with fail
  generalize w.alloc (Obj.cells #[Value.int IntKind.i64 6, Value.int IntKind.i64 n] 34) = W at *
  generalize hgs : w.heap.size = g at *
  have HGS := Lib.hid hgs
  clear hgs
  go_region_held3 (fun w' => w'.cell? ⟨d, 0, none⟩ = some (.pointer (some ⟨b, 0, none⟩)) ∧ w'.cell? ⟨g, 1, none⟩ = some (.int .i64 n)) (go_keep)
    (first
      | (go_at_call 66; refine (H1.out _ ?_).mono ?_; exact HP.out.rw_; rintro e w1 ⟨rfl, hr1, hb1⟩; have q0 := hb1.undrew.cell d0 (by simpa using hdb); have q1 := hb1.undrew.cell d1 (by simpa using hdb); have q2 := hb1.undrew.cell g1 (by simpa using hgb)))
  have HB1 := Lib.hid hb1.undrew
  have HR1 := Lib.hid hr1
  have HS1 := Lib.hid (HP.out.rr1 HB1.out)
  clear hb1 hr1 d0 d1 g0 g1 q0
  go_wp2_with fail
  go_region_held3 (fun w' => w'.cell? ⟨d, 1, none⟩ = some (.pointer (some ⟨c, 0, none⟩)) ∧ w'.cell? ⟨g, 1, none⟩ = some (.int .i64 n)) (go_keep)
    (first
      | (go_at_call 67; refine (H2.out _ ?_).mono ?_; exact HS1.out; rintro e w2 ⟨rfl, hr2, hb2⟩; have p1 := hb2.undrew.cell q1 (by simpa using hdc); have p2 := hb2.undrew.cell q2 (by simpa using hgc)))
  have hd := HP.out.done (by rw [HGS.out]; exact HBA.out) HB1.out HR1.out hb2.undrew hr2
  have HD1 := Lib.hid hd.1
  have HD2 := Lib.hid hd.2
  clear hd hb2 hr2 q1 q2 p1 p2
  go_wp2
  go_ret
  exact ⟨rfl, ⟨_, HD1.out, stays_fail _ _⟩, HD2.out.1, HD2.out.2⟩

set_option maxRecDepth 100000 in
set_option maxHeartbeats 800000 in
theorem readX (d : Nat) (s : Rs) (base : Nat) (k n : Int) (w : World) (h : Pair w d s base) (hbase : base ≤ w.heap.size) (hk : k < 0 ∨ 6 < k) :
    Calls Tryd.prog 17 #[.pointer (some ⟨d, 0, none⟩), .agg #[.int .i64 k, .int .i64 n]] w (ReadBoth d s base w) := by
  have hb : Below w.heap.size w (w.alloc (.cells #[.int .i64 k, .int .i64 n] 34)) := (Below.refl _ _).alloc (Nat.le_refl _) _
  have k0 : (k == 0) = false := by simp; omega
  have k1 : (k == 1) = false := by simp; omega
  have k2 : (k == 2) = false := by simp; omega
  have k3 : (k == 3) = false := by simp; omega
  have k4 : (k == 4) = false := by simp; omega
  have k5 : (k == 5) = false := by simp; omega
  have k6 : (k == 6) = false := by simp; omega
  have HP := Lib.hid (h.below hb)
  have HB := Lib.hid (hb.mono hbase)
  have HK := Lib.hid (Keep.below hb)
  clear h hb hbase hk
  go_enter Tryd.func17, Tryd.ntmps17
  go_wp2
  go_ret
  exact ⟨rfl, ⟨_, HP.out, stays_refl _⟩, HB.out, HK.out⟩
end Go.Proofs.YtbapalgikfllkaaDoor.both

/-
  A read of both readers: a byte, a number, one with a sign, a text, the end: they answer alike, and stand alike.
-/
import Derived.Test.YtbapalgikfllkaaDoorBoth
namespace Go.Proofs.YtbapalgikfllkaaDoor.both
open Go.RowKit
open Go.Proofs.YtbapalgikfllkaaDoor.num Go.Proofs.YtbapalgikfllkaaDoor.words Go.Proofs.YtbapalgikfllkaaDoor.rdnum Go.Proofs.YtbapalgikfllkaaDoor.rdr Go.Proofs.YtbapalgikfllkaaDoor.give Go.Proofs.YtbapalgikfllkaaDoor.sealing Go.Proofs.YtbapalgikfllkaaDoor.meth Go.Proofs.YtbapalgikfllkaaDoor.refr

set_option maxRecDepth 100000 in
theorem eq_str (x : List Nat) (w : World) : (binOp .eql 9 (S x) (S x)).run Tryd.prog w = .ok (.bool true) w := by
  unfold S
  simp [go_sem]
set_option maxRecDepth 100000 in
theorem guard_str (x : List Nat) (o1 o2 : Operand) (w : World) : (eqGuard .eql 9 o1 o2 (S x) (S x)).run Tryd.prog w = .ok () w := by
  unfold S
  simp [go_sem]

set_option maxRecDepth 100000 in
set_option maxHeartbeats 800000 in
theorem read0 (d : Nat) (s : Rs) (base : Nat) (n : Int) (w : World) (h : Pair w d s base) (hbase : base ≤ w.heap.size) :
    Calls Tryd.prog 17 #[.pointer (some ⟨d, 0, none⟩), .agg #[.int .i64 0, .int .i64 n]] w (ReadBoth d s base w) := by
  obtain ⟨b, c, hp⟩ := pre h 0 n
  have d0 := hp.d0
  have d1 := hp.d1
  have g0 := hp.g0
  have g1 := hp.g1
  have H1 := Lib.hid (fun wx (h : RW wx b s) => byte_m b s wx h)
  have H2 := Lib.hid (fun wx (h : RR wx c s) => byte_r c s wx h)
  have HP := Lib.hid hp
  have hdb : ¬ d = b := hp.ne.1
  have hdc : ¬ d = c := hp.ne.2.1
  have hgb : ¬ w.heap.size = b := hp.ne.2.2.2.1
  have hgc : ¬ w.heap.size = c := hp.ne.2.2.2.2.1
  have HBA := Lib.hid hbase
  clear hp h hbase
  go_enter Tryd.func17, Tryd.ntmps17
  go_wp2_with fail
  generalize w.alloc (Obj.cells #[Value.int IntKind.i64 0, Value.int IntKind.i64 n] 34) = W at *
  generalize hgs : w.heap.size = g at *
  have HGS := Lib.hid hgs
  clear hgs
  go_region_held3 (fun w' => w'.cell? ⟨d, 0, none⟩ = some (.pointer (some ⟨b, 0, none⟩)) ∧ w'.cell? ⟨d, 1, none⟩ = some (.pointer (some ⟨c, 0, none⟩))) (go_keep)
    (first
      | (go_at_call 59; refine (H1.out _ ?_).mono ?_; exact HP.out.rw_; rintro e w1 ⟨rfl, hr1, hb1⟩; have q0 := hb1.undrew.cell d0 (by simpa using hdb); have q1 := hb1.undrew.cell d1 (by simpa using hdb))
      | (go_at_call 60; refine (H2.out _ ?_).mono ?_; exact HP.out.rr1 hb1.undrew; rintro e w2 ⟨rfl, hr2, hb2⟩; have p0 := hb2.cell q0 (by simpa using hdc); have p1 := hb2.cell q1 (by simpa using hdc)))
  have hd := HP.out.done (by rw [HGS.out]; exact HBA.out) hb1.undrew hr1 hb2 hr2
  have HD1 := Lib.hid hd.1
  have HD2 := Lib.hid hd.2
  clear hd hb1 hr1 hb2 hr2 q0 q1 p0 p1
  go_wp2
  go_ret
  exact ⟨rfl, ⟨_, HD1.out, stays_go _ _⟩, HD2.out.1, HD2.out.2⟩

set_option maxRecDepth 100000 in
set_option maxHeartbeats 800000 in
theorem read1 (d : Nat) (s : Rs) (base : Nat) (n : Int) (w : World) (h : Pair w d s base) (hbase : base ≤ w.heap.size) (n1 : -9223372036854775808 ≤ n) (n2 : n ≤ 9223372036854775807) :
    Calls Tryd.prog 17 #[.pointer (some ⟨d, 0, none⟩), .agg #[.int .i64 1, .int .i64 n]] w (ReadBoth d s base w) := by
  obtain ⟨b, c, hp⟩ := pre h 1 n
  have d0 := hp.d0
  have d1 := hp.d1
  have g0 := hp.g0
  have g1 := hp.g1
  have H1 := Lib.hid (fun wx (h : RW wx b s) => num_m b s n wx h n1 n2)
  have H2 := Lib.hid (fun wx (h : RR wx c s) => num_r c s n wx h n1 n2)
  have HP := Lib.hid hp
  have hdb : ¬ d = b := hp.ne.1
  have hdc : ¬ d = c := hp.ne.2.1
  have hgb : ¬ w.heap.size = b := hp.ne.2.2.2.1
  have hgc : ¬ w.heap.size = c := hp.ne.2.2.2.2.1
  have HBA := Lib.hid hbase
  clear hp h hbase
  go_enter Tryd.func17, Tryd.ntmps17
  go_wp2_with fail
  generalize w.alloc (Obj.cells #[Value.int IntKind.i64 1, Value.int IntKind.i64 n] 34) = W at *
  generalize hgs : w.heap.size = g at *
  have HGS := Lib.hid hgs
  clear hgs
  go_region_held3 (fun w' => w'.cell? ⟨d, 0, none⟩ = some (.pointer (some ⟨b, 0, none⟩)) ∧ w'.cell? ⟨d, 1, none⟩ = some (.pointer (some ⟨c, 0, none⟩)) ∧ w'.cell? ⟨g, 1, none⟩ = some (.int .i64 n)) (go_keep)
    (first
      | (go_at_call 24; refine (H1.out _ ?_).mono ?_; exact HP.out.rw_; rintro e w1 ⟨rfl, hr1, hb1⟩; have q0 := hb1.undrew.cell d0 (by simpa using hdb); have q1 := hb1.undrew.cell d1 (by simpa using hdb); have q2 := hb1.undrew.cell g1 (by simpa using hgb))
      | (go_at_call 61; refine (H2.out _ ?_).mono ?_; exact HP.out.rr1 hb1.undrew; rintro e w2 ⟨rfl, hr2, hb2⟩; have p0 := hb2.cell q0 (by simpa using hdc); have p1 := hb2.cell q1 (by simpa using hdc); have p2 := hb2.cell q2 (by simpa using hgc)))
  have hd := HP.out.done (by rw [HGS.out]; exact HBA.out) hb1.undrew hr1 hb2 hr2
  have HD1 := Lib.hid hd.1
  have HD2 := Lib.hid hd.2
  clear hd hb1 hr1 hb2 hr2 q0 q1 p0 p1
  go_wp2
  go_ret
  exact ⟨rfl, ⟨_, HD1.out, stays_go _ _⟩, HD2.out.1, HD2.out.2⟩

set_option maxRecDepth 100000 in
set_option maxHeartbeats 800000 in
theorem read2 (d : Nat) (s : Rs) (base : Nat) (n : Int) (w : World) (h : Pair w d s base) (hbase : base ≤ w.heap.size) :
    Calls Tryd.prog 17 #[.pointer (some ⟨d, 0, none⟩), .agg #[.int .i64 2, .int .i64 n]] w (ReadBoth d s base w) := by
  obtain ⟨b, c, hp⟩ := pre h 2 n
  have d0 := hp.d0
  have d1 := hp.d1
  have g0 := hp.g0
  have g1 := hp.g1
  have H1 := Lib.hid (fun wx (h : RW wx b s) => signed_m b s wx h)
  have H2 := Lib.hid (fun wx (h : RR wx c s) => signed_r c s wx h)
  have HP := Lib.hid hp
  have hdb : ¬ d = b := hp.ne.1
  have hdc : ¬ d = c := hp.ne.2.1
  have hgb : ¬ w.heap.size = b := hp.ne.2.2.2.1
  have hgc : ¬ w.heap.size = c := hp.ne.2.2.2.2.1
  have HBA := Lib.hid hbase
  clear hp h hbase
  go_enter Tryd.func17, Tryd.ntmps17
  go_wp2_with fail
  generalize w.alloc (Obj.cells #[Value.int IntKind.i64 2, Value.int IntKind.i64 n] 34) = W at *
  generalize hgs : w.heap.size = g at *
  have HGS := Lib.hid hgs
  clear hgs
  go_region_held3 (fun w' => w'.cell? ⟨d, 0, none⟩ = some (.pointer (some ⟨b, 0, none⟩)) ∧ w'.cell? ⟨d, 1, none⟩ = some (.pointer (some ⟨c, 0, none⟩))) (go_keep)
    (first
      | (go_at_call 25; refine (H1.out _ ?_).mono ?_; exact HP.out.rw_; rintro e w1 ⟨rfl, hr1, hb1⟩; have q0 := hb1.undrew.cell d0 (by simpa using hdb); have q1 := hb1.undrew.cell d1 (by simpa using hdb))
      | (go_at_call 62; refine (H2.out _ ?_).mono ?_; exact HP.out.rr1 hb1.undrew; rintro e w2 ⟨rfl, hr2, hb2⟩; have p0 := hb2.cell q0 (by simpa using hdc); have p1 := hb2.cell q1 (by simpa using hdc)))
  have hd := HP.out.done (by rw [HGS.out]; exact HBA.out) hb1.undrew hr1 hb2 hr2
  have HD1 := Lib.hid hd.1
  have HD2 := Lib.hid hd.2
  clear hd hb1 hr1 hb2 hr2 q0 q1 p0 p1
  go_wp2
  go_ret
  exact ⟨rfl, ⟨_, HD1.out, stays_go _ _⟩, HD2.out.1, HD2.out.2⟩

set_option maxRecDepth 100000 in
set_option maxHeartbeats 800000 in
theorem read3 (d : Nat) (s : Rs) (base : Nat) (n : Int) (w : World) (h : Pair w d s base) (hbase : base ≤ w.heap.size) :
    Calls Tryd.prog 17 #[.pointer (some ⟨d, 0, none⟩), .agg #[.int .i64 3, .int .i64 n]] w (ReadBoth d s base w) := by
  obtain ⟨b, c, hp⟩ := pre h 3 n
  have d0 := hp.d0
  have d1 := hp.d1
  have g0 := hp.g0
  have g1 := hp.g1
  have H1 := Lib.hid (fun wx (h : RW wx b s) => text_m b s wx h)
  have H2 := Lib.hid (fun wx (h : RR wx c s) => text_r c s wx h)
  have HP := Lib.hid hp
  have hdb : ¬ d = b := hp.ne.1
  have hdc : ¬ d = c := hp.ne.2.1
  have hgb : ¬ w.heap.size = b := hp.ne.2.2.2.1
  have hgc : ¬ w.heap.size = c := hp.ne.2.2.2.2.1
  have HBA := Lib.hid hbase
  clear hp h hbase
  have hss := eq_str
  have hgs1 := guard_str
  go_enter Tryd.func17, Tryd.ntmps17
  go_wp2_with fail
  generalize w.alloc (Obj.cells #[Value.int IntKind.i64 3, Value.int IntKind.i64 n] 34) = W at *
  generalize hgs : w.heap.size = g at *
  have HGS := Lib.hid hgs
  clear hgs
  go_region_held3 (fun w' => w'.cell? ⟨d, 0, none⟩ = some (.pointer (some ⟨b, 0, none⟩)) ∧ w'.cell? ⟨d, 1, none⟩ = some (.pointer (some ⟨c, 0, none⟩))) (go_keep)
    (first
      | (go_at_call 23; refine (H1.out _ ?_).mono ?_; exact HP.out.rw_; rintro e w1 ⟨rfl, hr1, hb1⟩; have q0 := hb1.undrew.cell d0 (by simpa using hdb); have q1 := hb1.undrew.cell d1 (by simpa using hdb))
      | (go_at_call 63; refine (H2.out _ ?_).mono ?_; exact HP.out.rr1 hb1.undrew; rintro e w2 ⟨rfl, hr2, hb2⟩; have p0 := hb2.cell q0 (by simpa using hdc); have p1 := hb2.cell q1 (by simpa using hdc)))
  have hd := HP.out.done (by rw [HGS.out]; exact HBA.out) hb1.undrew hr1 hb2 hr2
  have HD1 := Lib.hid hd.1
  have HD2 := Lib.hid hd.2
  clear hd hb1 hr1 hb2 hr2 q0 q1 p0 p1
  go_wp2
  go_ret
  exact ⟨rfl, ⟨_, HD1.out, stays_go _ _⟩, HD2.out.1, HD2.out.2⟩

set_option maxRecDepth 100000 in
set_option maxHeartbeats 800000 in
theorem read5 (d : Nat) (s : Rs) (base : Nat) (n : Int) (w : World) (h : Pair w d s base) (hbase : base ≤ w.heap.size) :
    Calls Tryd.prog 17 #[.pointer (some ⟨d, 0, none⟩), .agg #[.int .i64 5, .int .i64 n]] w (ReadBoth d s base w) := by
  obtain ⟨b, c, hp⟩ := pre h 5 n
  have d0 := hp.d0
  have d1 := hp.d1
  have g0 := hp.g0
  have g1 := hp.g1
  have H1 := Lib.hid (fun wx (h : RW wx b s) => end_m b s wx h)
  have H2 := Lib.hid (fun wx (h : RR wx c s) => end_r c s wx h)
  have HP := Lib.hid hp
  have hdb : ¬ d = b := hp.ne.1
  have hdc : ¬ d = c := hp.ne.2.1
  have hgb : ¬ w.heap.size = b := hp.ne.2.2.2.1
  have hgc : ¬ w.heap.size = c := hp.ne.2.2.2.2.1
  have HBA := Lib.hid hbase
  clear hp h hbase
  go_enter Tryd.func17, Tryd.ntmps17
  go_wp2_with fail
  generalize w.alloc (Obj.cells #[Value.int IntKind.i64 5, Value.int IntKind.i64 n] 34) = W at *
  generalize hgs : w.heap.size = g at *
  have HGS := Lib.hid hgs
  clear hgs
  go_region_held3 (fun w' => w'.cell? ⟨d, 0, none⟩ = some (.pointer (some ⟨b, 0, none⟩)) ∧ w'.cell? ⟨d, 1, none⟩ = some (.pointer (some ⟨c, 0, none⟩))) (go_keep)
    (first
      | (go_at_call 26; refine (H1.out _ ?_).mono ?_; exact HP.out.rw_; rintro e w1 ⟨rfl, hr1, hb1⟩; have q0 := hb1.undrew.cell d0 (by simpa using hdb); have q1 := hb1.undrew.cell d1 (by simpa using hdb))
      | (go_at_call 65; refine (H2.out _ ?_).mono ?_; exact HP.out.rr1 hb1.undrew; rintro e w2 ⟨rfl, hr2, hb2⟩; have p0 := hb2.cell q0 (by simpa using hdc); have p1 := hb2.cell q1 (by simpa using hdc)))
  have hd := HP.out.done (by rw [HGS.out]; exact HBA.out) hb1.undrew hr1 hb2 hr2
  have HD1 := Lib.hid hd.1
  have HD2 := Lib.hid hd.2
  clear hd hb1 hr1 hb2 hr2 q0 q1 p0 p1
  go_wp2
  go_ret
  exact ⟨rfl, ⟨_, HD1.out, stays_go _ _⟩, HD2.out.1, HD2.out.2⟩
end Go.Proofs.YtbapalgikfllkaaDoor.both

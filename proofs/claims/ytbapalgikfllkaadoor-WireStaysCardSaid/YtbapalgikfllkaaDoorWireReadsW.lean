/-
  The walk of WireReads: whatever is read, of whatever bytes, both readers answer alike, and stand alike.
-/
import Derived.Test.YtbapalgikfllkaaDoorSameB
namespace Go.Proofs.YtbapalgikfllkaaDoor.wireReads
open Go.RowKit
open Go.Proofs.YtbapalgikfllkaaDoor.num Go.Proofs.YtbapalgikfllkaaDoor.words Go.Proofs.YtbapalgikfllkaaDoor.rdnum Go.Proofs.YtbapalgikfllkaaDoor.rdr Go.Proofs.YtbapalgikfllkaaDoor.give Go.Proofs.YtbapalgikfllkaaDoor.sealing Go.Proofs.YtbapalgikfllkaaDoor.meth Go.Proofs.YtbapalgikfllkaaDoor.refr Go.Proofs.YtbapalgikfllkaaDoor.both Go.Proofs.YtbapalgikfllkaaDoor.write

/-- reads, as they came in -/
def Rds (w : World) (A : Option Addr) (l : List (Int × Int)) : Prop :=
  ∀ (i : Nat) (q : Int × Int), l[i]? = some q → ∃ a, A = some a ∧ a.block < w.heap.size ∧ w.cell? (a.add (i * 2)) = some (.int .i64 q.1) ∧ w.cell? (a.add (i * 2 + 1)) = some (.int .i64 q.2) ∧ -9223372036854775808 ≤ q.2 ∧ q.2 ≤ 9223372036854775807
theorem Rds.below {w w' : World} {A : Option Addr} {l : List (Int × Int)} (h : Rds w A l) (hb : Below w.heap.size w w') : Rds w' A l := by
  intro i q hq
  obtain ⟨a, h1, h2, h3, h4, h5, h6⟩ := h i q hq
  exact ⟨a, h1, Nat.lt_of_lt_of_le h2 hb.size, (hb.cell (by rw [add_block]; exact h2)).trans h3, (hb.cell (by rw [add_block]; exact h2)).trans h4, h5, h6⟩
theorem new_pair {w : World} {b c : Nat} {s : Rs} {base : Nat} (h1 : RW w b s) (h2 : RR w c s) (b1 : base ≤ b) (b2 : base ≤ c) (b3 : base ≤ w.heap.size) :
    Pair (w.alloc (.cells #[.pointer (some ⟨b, 0, none⟩), .pointer (some ⟨c, 0, none⟩)] 30)) w.heap.size s base :=
  ⟨b, c, heap_alloc_new w _, h1.below ((Below.refl _ _).alloc (Nat.le_refl _) _), h2.below ((Below.refl _ _).alloc (Nat.le_refl _) _), b1, b2, b3⟩

set_option maxRecDepth 100000 in
set_option maxHeartbeats 1600000 in
theorem walk (A : Option Addr) (n c : Nat) (l : List Nat) (C : Option Addr) (m e : Nat) (r : List (Int × Int)) (w : World) (hr : Rd w A (B l)) (hl : l.length = n) (_hc : n ≤ c) (hby : ∀ x ∈ l, x < 256) (hreach : n * 1 ≤ 140737488351232)
    (hq : Rds w C r) (hrl : r.length = m) (hm : m ≤ 140737488351232) (tab : crc.Tab w) :
    Calls Tryd.prog 3 #[.slice A n c, .slice C m e] w fun en w' => en = .returned (.bool true) ∧ Below w.heap.size w w' := by
  have HTab := Lib.hid tab
  have O1 := Lib.hid (fun wx (h : Rd wx A (B l)) => open_w A n c l wx h hl (by omega) hby)
  have O2 := Lib.hid (fun wx (h : Rd wx A (B l)) => open_r A n c l wx h hl (by omega) hby)
  have HRd := Lib.hid hr
  have HQ := Lib.hid hq
  have HRL := Lib.hid hrl
  have hmI : (m : Int) ≤ 140737488351232 := by omega
  clear tab hr hl hby hreach hq hrl
  go_enter Tryd.func3, Tryd.ntmps3
  go_wp2_with fail
  refine (O1.out w HRd.out).mono ?_
  rintro en w1 ⟨g1, rfl, hg1, hr1, hb1⟩
  have HB1 := Lib.hid hb1
  have HR1 := Lib.hid hr1
  clear hb1 hr1
  go_wp2_with fail
  refine (O2.out w1 (HRd.out.below HB1.out)).mono ?_
  rintro en w2 ⟨g2, rfl, hg2, hr2, hb2⟩
  have HB2 := Lib.hid (then_ HB1.out (Nat.le_refl _) hb2)
  have hpair := new_pair (base := w.heap.size) (HR1.out.below hb2) hr2 hg1 (Nat.le_trans HB1.out.size hg2) HB2.out.size
  have HP := Lib.hid hpair
  have HB3 := Lib.hid (HB2.out.alloc HB2.out.size (Obj.cells #[.pointer (some ⟨g1, 0, none⟩), .pointer (some ⟨g2, 0, none⟩)] 30))
  clear hb2 hr2 hpair HR1 hg1 hg2
  go_wp2_with fail
  generalize w2.alloc (Obj.cells #[.pointer (some ⟨g1, 0, none⟩), .pointer (some ⟨g2, 0, none⟩)] 30) = w3 at *
  generalize w2.heap.size = d at *
  refine (live3.live_any w3 (HTab.out.below HB3.out)).mono ?_
  rintro en w4 ⟨rfl, hb4⟩
  have HB4 := Lib.hid (then_ HB3.out (Nat.le_refl _) hb4)
  have HP4 := Lib.hid (HP.out.below hb4)
  clear hb4 HB3 HP HB2 HB1
  go_wp2_with fail
  refine (same_any d _ _ w4 HP4.out).mono ?_
  rintro en w5 ⟨rfl, hb5⟩
  have HB5 := Lib.hid (then_ HB4.out (Nat.le_refl _) hb5)
  have HP5 := Lib.hid (HP4.out.below hb5)
  clear hb5 HB4 HP4
  go_wp2_with fail
  go_loopw [6] (fun i wr => ∃ k : Nat, k ≤ m ∧ k ≤ 60 ∧ i = .int .i64 (k : Int) ∧ (∃ s, Pair wr d s w.heap.size) ∧ Below w.heap.size w wr) (fun i _ => 60 - (intOf i).toNat)
  case atStart => exact ⟨0, Nat.zero_le _, Nat.zero_le _, rfl, ⟨_, HP5.out⟩, HB5.out⟩
  case round =>
    obtain ⟨k, hk, hk60, rfl, ⟨s, hp⟩, hb⟩ := hrel
    have HB := Lib.hid hb
    have HP := Lib.hid hp
    clear hb hp
    by_cases hlt : k < m
    · by_cases h60 : k < 60
      · obtain ⟨⟨kd, nn⟩, hx⟩ : ∃ q, r[k]? = some q := ⟨r[k]'(by rw [HRL.out]; exact hlt), List.getElem?_eq_getElem _⟩
        obtain ⟨a, rfl, ha, c1, c2, n1, n2⟩ := (HQ.out.below HB.out) k _ hx
        dsimp only at c1 c2 n1 n2
        have c3 : wr.cell? ⟨(a.add (k * 2)).block, (a.add (k * 2)).off + 1, none⟩ = some (.int .i64 nn) := by rw [← add_add] at c2; exact c2
        have hltI : (k : Int) < (m : Int) := by omega
        have h60I : (k : Int) < 60 := by omega
        have RD := Lib.hid (fun wx t (h : Pair wx d s w.heap.size) hb => read_any d s w.heap.size kd nn wx t h hb n1 n2)
        clear hx ha n1 n2 c2
        go_wp2_with fail
        refine (RD.out wr (HTab.out.below HB.out) HP.out HB.out.size).mono ?_
        rintro en w6 ⟨rfl, ⟨t, hpt, -⟩, hb6, -⟩
        have HB6 := Lib.hid (HB.out.trans hb6)
        have HP6 := Lib.hid hpt
        clear hpt hb6 c1 c3
        go_wp2_with fail
        refine (same_any d t _ w6 HP6.out).mono ?_
        rintro en w7 ⟨rfl, hb7⟩
        have HB7 := Lib.hid (then_ HB6.out (Nat.le_refl _) hb7)
        have HP7 := Lib.hid (HP6.out.below hb7)
        clear hb7
        go_wp2
        go_roundw
        case rel => exact ⟨k + 1, by omega, by omega, by go_num, ⟨t, HP7.out⟩, HB7.out⟩
        case measure => simp [intOf]; omega
      · have hltI : (k : Int) < (m : Int) := by omega
        have h60I : ¬ (k : Int) < 60 := by omega
        go_wp2
        go_ret
        exact ⟨rfl, HB.out⟩
    · have hltI : ¬ (k : Int) < (m : Int) := by omega
      go_wp2
      go_ret
      exact ⟨rfl, HB.out⟩
end Go.Proofs.YtbapalgikfllkaaDoor.wireReads

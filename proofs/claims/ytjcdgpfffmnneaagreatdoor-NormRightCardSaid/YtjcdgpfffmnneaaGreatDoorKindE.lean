/-
 Layer 6: what an array has in it, and a class that stands first in a text: the program's answers.
-/
import Derived.Test.YtjcdgpfffmnneaaGreatDoorKindR
import Derived.Test.YtjcdgpfffmnneaaGreatDoorShelf
namespace Go.Proofs.YtjcdgpfffmnneaaGreatDoor.kind
open Go.RowKit
open words kindp word
/-- the length of the longest pattern is there -/
def Mx (w : World) : Prop := ∃ m, w.cell? ⟨2, 0, none⟩ = some (.int .i64 m)
theorem Mx.below {w w' : World} (h : Mx w) (hb : Below w.heap.size w w') : Mx w' := by
 obtain ⟨m, hm⟩ := h
 exact ⟨m, (hb.cell (World.block_lt_of_cell? _ _ hm)).trans hm⟩
theorem Mx.drewN {w : World} {n : Nat} (h : Mx w) : Mx (w.drewN n) := h
/-- what a reading gives up with -/
def noV : Value := .iface 159 (.agg #[])

theorem cut_le (s : Tx) : (Lib.cut s [59]).1.length ≤ s.length := by
 unfold Lib.cut
 split
 ·dsimp only; rw [List.length_take]; omega
 ·exact Nat.le_refl _
theorem cut_w (s : Tx) (w : World) (hs : s.length < 4294967281) (hm : Mx w) :
  Calls Tryz.prog 169 #[.string ⟨s.toArray⟩, .string ⟨#[59]⟩] w fun e w' => e = .returned (.tuple #[.string ⟨(Lib.cut s [59]).1.toArray⟩, .string ⟨(Lib.cut s [59]).2.1.toArray⟩, .bool (Lib.cut s [59]).2.2]) ∧ ∃ n, w' = w.drewN n := by
 obtain ⟨m, hm⟩ := hm
 exact Tryz.strings_Cut ⟨s.toArray⟩ ⟨#[59]⟩ m w (by rw [mk_len]; exact hs) hm
theorem prefix_w (s p : Tx) (w : World) :
  Calls Tryz.prog 146 #[.string ⟨s.toArray⟩, .string ⟨p.toArray⟩] w fun e w' => e = .returned (.tuple #[.string ⟨(Lib.trimPrefix s p).toArray⟩, .bool (Lib.hasPrefix s p)]) ∧ w' = w :=
 Tryz.strings_CutPrefix ⟨s.toArray⟩ ⟨p.toArray⟩ w

set_option maxRecDepth 100000 in
set_option maxHeartbeats 800000 in
theorem class_ok (s a b : Tx) (w : World) (hs : s.length < 4294967281) (hm : Mx w) (h : Lib.cut s [59] = (a, b, true)) (hc : clsB a = true) :
  Calls Tryz.prog 161 #[.string ⟨s.toArray⟩] w fun e w' => e = .returned (.tuple #[.string ⟨a.toArray⟩, .string ⟨b.toArray⟩]) ∧ ∃ n, w' = w.drewN n := by
 have hC := cut_w s w hs hm
 have hl := cut_le s
 rw [h] at hC hl
 dsimp only at hC hl
 have HC := Lib.hid hC
 have HN := Lib.hid (fun w => class_name ⟨a.toArray⟩ w (by rw [mk_len]; omega))
 rw [cls_eq, hc] at HN
 clear hC h hc hl hs hm
 go_enter Tryz.func161, Tryz.ntmps161
 go_wp2_with fail
 refine HC.out.mono ?_
 rintro e w1 ⟨rfl, q, rfl⟩
 go_wp2_with fail
 refine (HN.out _).mono ?_
 rintro e w1 ⟨rfl, rfl⟩
 go_wp2
 go_ret2
 exact ⟨rfl, q, rfl⟩

set_option maxRecDepth 100000 in
set_option maxHeartbeats 800000 in
theorem class_no (s : Tx) (w : World) (hs : s.length < 4294967281) (hm : Mx w) (h : ((Lib.cut s [59]).2.2 && clsB (Lib.cut s [59]).1) = false) :
  Calls Tryz.prog 161 #[.string ⟨s.toArray⟩] w fun e w' => e = .panicked [{ v := noV, recovered := false }] ∧ ∃ n, w' = w.drewN n := by
 have hp : ∀ (t : TypeId) (v : Value) (w : World), (Instr.panic (.iface t v)).run Tryz.prog w = .halt (.panic (.iface t v)) w := fun _ _ _ => rfl
 have hC := cut_w s w hs hm
 have hl := cut_le s
 obtain ⟨r, hr⟩ : ∃ r, r = Lib.cut s [59] := ⟨_, rfl⟩
 rw [← hr] at hC hl h
 clear hr
 obtain ⟨a, b, f⟩ := r
 dsimp only at hC hl h
 have HC := Lib.hid hC
 cases f with
 | false =>
  clear hC hl hs hm h
  go_enter Tryz.func161, Tryz.ntmps161
  go_wp2_with fail
  refine HC.out.mono ?_
  rintro e w1 ⟨rfl, q, rfl⟩
  go_wp2
  exact ⟨rfl, rfl, q, rfl⟩
 | true =>
  rw [Bool.true_and] at h
  have HN := Lib.hid (fun w => class_name ⟨a.toArray⟩ w (by rw [mk_len]; omega))
  rw [cls_eq, h] at HN
  clear hC h hl hs hm
  go_enter Tryz.func161, Tryz.ntmps161
  go_wp2_with fail
  refine HC.out.mono ?_
  rintro e w1 ⟨rfl, q, rfl⟩
  go_wp2_with fail
  refine (HN.out _).mono ?_
  rintro e w1 ⟨rfl, rfl⟩
  go_wp2
  exact ⟨rfl, rfl, q, rfl⟩
end Go.Proofs.YtjcdgpfffmnneaaGreatDoor.kind

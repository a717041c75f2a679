/-
  What the reader's other methods answer: Section, Fail, Fault, At, Left.
-/
import Derived.Test.YtcpjllkfgoaamaaDoorMeth
namespace Go.Proofs.YtcpjllkfgoaamaaDoor.meth
open Go.RowKit
open Go.Proofs.YtcpjllkfgoaamaaDoor.num Go.Proofs.YtcpjllkfgoaamaaDoor.words Go.Proofs.YtcpjllkfgoaamaaDoor.rdnum Go.Proofs.YtcpjllkfgoaamaaDoor.rdr Go.Proofs.YtcpjllkfgoaamaaDoor.give Go.Proofs.YtcpjllkfgoaamaaDoor.reading

/-- A SECTION's READER, or none, and the reader behind it. -/
def DidS (b : Nat) (s : Rs) (r : Rr (Nat × Nat)) (w : World) (e : Ending) (w' : World) : Prop :=
  ((s.e = 0 ∧ r.e = 0 ∧ ∃ g, e = .returned (.pointer (some ⟨g, 0, none⟩)) ∧ w.heap.size ≤ g ∧ RW w' g ⟨s.l.take (r.v.1 + r.v.2), r.v.1, 0, 0⟩) ∨
    ((s.e ≠ 0 ∨ r.e ≠ 0) ∧ e = .returned (.pointer none))) ∧ RW w' b (s.go r) ∧ But b w w'

set_option maxRecDepth 100000 in
set_option maxHeartbeats 400000 in
theorem sect_clo (b : Nat) (s : Rs) (id : Nat) (q2 q3 : Nat) (w : World) (tab : crc.Tab w) (h : RW w b s) (h2 : w.cell? ⟨q2, 0, none⟩ = some (.pointer (some ⟨b, 0, none⟩))) (h3 : w.cell? ⟨q3, 0, none⟩ = some (.int .u8 (id : Int))) :
    Calls Tryd.prog 59 #[.pointer (some ⟨q2, 0, none⟩), .pointer (some ⟨q3, 0, none⟩)] w (Sect b s (sectT s.l s.p id) w) := by
  have hk := sect_any b s id w tab h
  have HK := Lib.hid hk
  clear hk h tab
  go_enter Tryd.func59, Tryd.ntmps59
  go_wp2_with fail
  refine HK.out.mono ?_
  rintro e w' (⟨hx, ⟨g, rfl, hg, hrg⟩, hr, hbt⟩ | ⟨hx, rfl, hr, hbt⟩)
  rotate_left
  · exact ⟨rfl, .inr ⟨hx, rfl, hr, hbt⟩⟩
  have HG := Lib.hid hrg; clear hrg; have HX := Lib.hid hx; clear hx; have HR := Lib.hid hr; clear hr; have HT := Lib.hid hbt; clear hbt
  have HGG := Lib.hid hg; clear hg
  go_wp2
  go_ret
  exact .inl ⟨HX.out, ⟨_, rfl, HGG.out, HG.out⟩, HR.out, HT.out⟩

set_option maxRecDepth 100000 in
set_option maxHeartbeats 400000 in
theorem sect_m (b : Nat) (s : Rs) (id : Nat) (w : World) (tab : crc.Tab w) (h : RW w b s) :
    Calls Tryd.prog 39 #[.pointer (some ⟨b, 0, none⟩), .int .u8 (id : Int)] w (DidS b s (sectT s.l s.p id) w) := by
  have hmf : ∀ (fn : Fn) (first cap : Array Value) (w : World), (Instr.makeFunc fn first cap).run Tryd.prog w = .ok (.func fn first cap) w := fun _ _ _ _ => rfl
  have hcf : ∀ (args : Array Value) (w : World), (callFunc 59 args).run Tryd.prog w = .ok (.enter 59 args) w := fun _ _ => by kernel_rfl
  have hbw : Below w.heap.size w ((w.alloc (Obj.cells #[.pointer (some ⟨b, 0, none⟩)] 58)).alloc (Obj.cells #[.int .u8 (id : Int)] 5)) := ((Below.refl _ _).alloc (Nat.le_refl _) _).alloc (by simp) _
  have q2 : ((w.alloc (Obj.cells #[.pointer (some ⟨b, 0, none⟩)] 58)).alloc (Obj.cells #[.int .u8 (id : Int)] 5)).cell? ⟨w.heap.size, 0, none⟩ = some (.pointer (some ⟨b, 0, none⟩)) := by
    rw [cell_of_row _ _ 0 _ _ _ ((Below.heap_alloc _ _ _ (by simp)).trans (heap_alloc_new w _))]; rfl
  have q3 : ((w.alloc (Obj.cells #[.pointer (some ⟨b, 0, none⟩)] 58)).alloc (Obj.cells #[.int .u8 (id : Int)] 5)).cell? ⟨w.heap.size + 1, 0, none⟩ = some (.int .u8 (id : Int)) := by
    have e := heap_alloc_new (w.alloc (Obj.cells #[.pointer (some ⟨b, 0, none⟩)] 58)) (Obj.cells #[.int .u8 (id : Int)] 5)
    rw [World.size_alloc] at e
    rw [cell_of_row _ _ 0 _ _ _ e]; rfl
  have hcall : Calls Tryd.prog 58 #[.pointer (some ⟨b, 0, none⟩), .func (.func 59) #[] #[.pointer (some ⟨w.heap.size, 0, none⟩), .pointer (some ⟨w.heap.size + 1, 0, none⟩)]] ((w.alloc (Obj.cells #[.pointer (some ⟨b, 0, none⟩)] 58)).alloc (Obj.cells #[.int .u8 (id : Int)] 5)) (DidS b s (sectT s.l s.p id) w) := by
    by_cases hs : s.e = 0
    · refine (live_reader b s (sectT s.l s.p id).e (sectT s.l s.p id).f (fun v w' => ∃ g, v = .pointer (some ⟨g, 0, none⟩) ∧ w.heap.size ≤ g ∧ RW w' g ⟨s.l.take ((sectT s.l s.p id).v.1 + (sectT s.l s.p id).v.2), (sectT s.l s.p id).v.1, 0, 0⟩ ∧ RW w' b { s with p := (sectT s.l s.p id).q } ∧ But b w w') _ #[] #[.pointer (some ⟨w.heap.size, 0, none⟩), .pointer (some ⟨w.heap.size + 1, 0, none⟩)] _ (h.below hbw) hs (sectT_f h.1.le h.1.byte) hcf (fun w1 hb1 => ?_)).mono (fun e w' k => ?_)
      · have hb01 := then_ hbw (Nat.le_refl _) hb1
        refine (sect_clo b s id w.heap.size (w.heap.size + 1) w1 ((tab.below hbw).below hb1) ((h.below hbw).below hb1) ((hb1.cell (p := ⟨w.heap.size, 0, none⟩) (by simp; try omega)).trans q2) ((hb1.cell (p := ⟨w.heap.size + 1, 0, none⟩) (by simp)).trans q3)).mono fun e w' k => ?_
        rcases k with ⟨h0, ⟨g, rfl, hg, hrg⟩, hr, hbt⟩ | ⟨h0, rfl, hr, hbt⟩
        · exact .inl ⟨h0, _, rfl, g, rfl, Nat.le_trans hb01.size hg, hrg, hr, (But.of hb01).trans hbt⟩
        · exact .inr ⟨h0, rfl, hr, hbt⟩
      · rcases k with ⟨h0, v, w1, rfl, ⟨g, rfl, hg, hrg, hr, hbt⟩, hb2⟩ | ⟨h0, rfl, hr, hbt⟩
        · exact ⟨.inl ⟨hs, h0, g, rfl, hg, hrg.below hb2⟩, by rw [Rs.go_ok hs h0]; exact hr.below hb2, hbt.trans (But.of hb2)⟩
        · exact ⟨.inr ⟨.inr h0, rfl⟩, by rw [Rs.go_err hs h0]; exact hr, (But.of hbw).trans hbt⟩
    · refine (dead_reader b s _ _ (h.below hbw) hs).mono fun e w' ⟨he, hb⟩ => ⟨.inr ⟨.inl hs, he⟩, by rw [Rs.go_dead hs]; exact (h.below hbw).below hb, (But.of hbw).trans (But.of hb)⟩
  have HC := Lib.hid hcall
  clear hbw q2 q3 h hcall hcf tab
  go_enter Tryd.func39, Tryd.ntmps39
  go_wp2_with fail
  refine HC.out.mono ?_
  rintro e w' ⟨hx, hr, hbt⟩
  have HR := Lib.hid hr
  have HT := Lib.hid hbt
  clear hr hbt
  rcases hx with ⟨hx0, hx1, g, rfl, hg, hrg⟩ | ⟨hx, rfl⟩
  · have HX := Lib.hid hx0; have HX1 := Lib.hid hx1; have HG := Lib.hid hg; have HRG := Lib.hid hrg
    clear hx0 hx1 hg hrg
    go_wp2
    go_ret
    exact ⟨.inl ⟨HX.out, HX1.out, g, rfl, HG.out, HRG.out⟩, HR.out, HT.out⟩
  · have HX := Lib.hid hx
    clear hx
    go_wp2
    go_ret
    exact ⟨.inr ⟨HX.out, rfl⟩, HR.out, HT.out⟩

/-- how many are left -/
def left (s : Rs) : Int := if s.e ≠ 0 then 0 else (s.l.length : Int) - s.p
/-- a fault as a value -/
def fv (s : Rs) : Value := .agg #[.int .i64 s.e, .int .i64 (s.f : Int)]
end Go.Proofs.YtcpjllkfgoaamaaDoor.meth

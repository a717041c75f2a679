/-
  What the reader's methods answer, and how they leave it.
-/
import Derived.Test.YtcpjllkfgoaamaaDoorRead
import Derived.Test.YtcpjllkfgoaamaaDoorZag
namespace Go.Proofs.YtcpjllkfgoaamaaDoor.meth
open Go.RowKit
open Go.Proofs.YtcpjllkfgoaamaaDoor.num Go.Proofs.YtcpjllkfgoaamaaDoor.words Go.Proofs.YtcpjllkfgoaamaaDoor.rdnum Go.Proofs.YtcpjllkfgoaamaaDoor.rdr Go.Proofs.YtcpjllkfgoaamaaDoor.give Go.Proofs.YtcpjllkfgoaamaaDoor.reading

/-- A READ's ANSWER, and the reader behind it. -/
def Did {α : Type} (b : Nat) (s : Rs) (r : Rr α) (z : α) (val : α → Value) (w : World) (e : Ending) (w' : World) : Prop :=
  e = .returned (val (s.ans r z)) ∧ RW w' b (s.go r) ∧ But b w w'

theorem raw_end {b : Nat} {s : Rs} {P : Program} {K : Nat} {args : Array Value} {w : World} (h : Calls P K args w (Raw b s (endT s.l s.p) (fun _ => .bool true) w)) : Calls P K args w (Raw b s (endT s.l s.p) (fun x : Nat => .bool (x == 1)) w) := by
  refine h.mono fun e w' k => ?_
  rcases k with ⟨h0, rfl, hr, hb⟩ | k
  · have h1 : (endT s.l s.p).v = 1 := by
      unfold endT at h0 ⊢; split
      · rename_i hx; rw [if_pos hx] at h0; simp at h0
      · rfl
    exact .inl ⟨h0, by rw [h1]; rfl, hr, hb⟩
  · exact .inr k
/-- the inner read answered, or gave up -/
theorem two_of {α : Type} {b : Nat} {s : Rs} {r : Rr α} {val : α → Value} {w w1 : World} (hw : But b w w1) {e : Ending} {w' : World} (h : Raw b s r val w1 e w') :
    Two b s r.e r.f (fun v w' => v = val r.v ∧ RW w' b { s with p := r.q } ∧ But b w w') w1 e w' := by
  rcases h with ⟨h0, rfl, hr, hb⟩ | ⟨h0, rfl, hr, hb⟩
  · exact .inl ⟨h0, _, rfl, rfl, hr, hw.trans hb⟩
  · exact .inr ⟨h0, rfl, hr, hb⟩
theorem did_of {α : Type} {b : Nat} {s : Rs} {r : Rr α} {z : α} {val : α → Value} {w0 w : World} (hw : But b w0 w) (hs : s.e = 0) {e : Ending} {w' : World}
    (h : Ans b s r.e r.f (val z) (fun v w' => v = val r.v ∧ RW w' b { s with p := r.q } ∧ But b w w') w e w') : Did b s r z val w0 e w' := by
  rcases h with ⟨h0, v, w1, rfl, ⟨rfl, hr, hb⟩, hb2⟩ | ⟨h0, rfl, hr, hb⟩
  · exact ⟨by rw [Rs.ans_ok hs h0], by rw [Rs.go_ok hs h0]; exact hr.below hb2, hw.trans (hb.trans (But.of hb2))⟩
  · exact ⟨by rw [Rs.ans_err h0], by rw [Rs.go_err hs h0]; exact hr, hw.trans hb⟩

set_option maxRecDepth 100000 in
set_option maxHeartbeats 400000 in
theorem end_m (b : Nat) (s : Rs) (w : World) (h : RW w b s) :
    Calls Tryd.prog 41 #[.pointer (some ⟨b, 0, none⟩)] w (Did b s (endT s.l s.p) 0 (fun x : Nat => .bool (x == 1)) w) := by
  have hmf : ∀ (fn : Fn) (first cap : Array Value) (w : World), (Instr.makeFunc fn first cap).run Tryd.prog w = .ok (.func fn first cap) w := fun _ _ _ _ => rfl
  have hcf : ∀ (args : Array Value) (w : World), (callFunc 64 args).run Tryd.prog w = .ok (.enter 64 args) w := fun _ _ => by kernel_rfl
  have hbw : Below w.heap.size w w := Below.refl _ _
  have hcall : Calls Tryd.prog 63 #[.pointer (some ⟨b, 0, none⟩), .func (.func 64) #[.pointer (some ⟨b, 0, none⟩)] #[]] (w) (Did b s (endT s.l s.p) 0 (fun x : Nat => .bool (x == 1)) w) := by
    by_cases hs : s.e = 0
    · refine (live_bool b s _ _ (fun v w' => v = (fun x : Nat => .bool (x == 1)) (endT s.l s.p).v ∧ RW w' b { s with p := (endT s.l s.p).q } ∧ But b (w) w') _ #[.pointer (some ⟨b, 0, none⟩)] #[] _ (h.below hbw) hs (endT_f h.1.le) hcf (fun w1 hb1 => ?_)).mono (fun e w' k => did_of (z := 0) (But.of hbw) hs k)
      refine (raw_end (end_any b s w1 (h.below hb1))).mono fun e w' k => two_of (But.of hb1) k
    · refine (dead_bool b s _ _ (h.below hbw) hs).mono fun e w' ⟨he, hb⟩ => ⟨by rw [he, Rs.ans_dead hs]; rfl, by rw [Rs.go_dead hs]; exact (h.below hbw).below hb, (But.of hbw).trans (But.of hb)⟩
  have HC := Lib.hid hcall
  clear hbw h hcall hcf
  go_enter Tryd.func41, Tryd.ntmps41
  go_wp2_with fail
  refine HC.out.mono ?_
  rintro e w' ⟨rfl, hr, hbt⟩
  have HR := Lib.hid hr
  have HT := Lib.hid hbt
  clear hr hbt
  go_wp2
  go_ret
  exact ⟨rfl, HR.out, HT.out⟩

set_option maxRecDepth 100000 in
set_option maxHeartbeats 400000 in
theorem text_m (b : Nat) (s : Rs) (w : World) (h : RW w b s) :
    Calls Tryd.prog 40 #[.pointer (some ⟨b, 0, none⟩)] w (Did b s (textT s.l s.p) [] S w) := by
  have hmf : ∀ (fn : Fn) (first cap : Array Value) (w : World), (Instr.makeFunc fn first cap).run Tryd.prog w = .ok (.func fn first cap) w := fun _ _ _ _ => rfl
  have hcf : ∀ (args : Array Value) (w : World), (callFunc 62 args).run Tryd.prog w = .ok (.enter 62 args) w := fun _ _ => by kernel_rfl
  have hbw : Below w.heap.size w w := Below.refl _ _
  have hcall : Calls Tryd.prog 61 #[.pointer (some ⟨b, 0, none⟩), .func (.func 62) #[.pointer (some ⟨b, 0, none⟩)] #[]] (w) (Did b s (textT s.l s.p) [] S w) := by
    by_cases hs : s.e = 0
    · refine (live_string b s _ _ (fun v w' => v = S (textT s.l s.p).v ∧ RW w' b { s with p := (textT s.l s.p).q } ∧ But b (w) w') _ #[.pointer (some ⟨b, 0, none⟩)] #[] _ (h.below hbw) hs (textT_f h.1.le h.1.byte) hcf (fun w1 hb1 => ?_)).mono (fun e w' k => did_of (z := []) (But.of hbw) hs k)
      refine (text_any b s w1 (h.below hb1)).mono fun e w' k => two_of (But.of hb1) k
    · refine (dead_string b s _ _ (h.below hbw) hs).mono fun e w' ⟨he, hb⟩ => ⟨by rw [he, Rs.ans_dead hs]; rfl, by rw [Rs.go_dead hs]; exact (h.below hbw).below hb, (But.of hbw).trans (But.of hb)⟩
  have HC := Lib.hid hcall
  clear hbw h hcall hcf
  go_enter Tryd.func40, Tryd.ntmps40
  go_wp2_with fail
  refine HC.out.mono ?_
  rintro e w' ⟨rfl, hr, hbt⟩
  have HR := Lib.hid hr
  have HT := Lib.hid hbt
  clear hr hbt
  go_wp2
  go_ret
  exact ⟨rfl, HR.out, HT.out⟩

theorem signed_v {l : List Nat} {p : Nat} (hp : p ≤ l.length) (hl : ∀ c ∈ l, c < 256) : (lebT l p).e = 0 → ((lebT l p).v : Int) ≤ 18446744073709551615 := fun h => by
  have := (lebT_ok hp hl h).2.1
  omega
end Go.Proofs.YtcpjllkfgoaamaaDoor.meth

/-
  What the reader's methods answer, and how they leave it.
-/
import Derived.Test.YtdenpefihplnoaaRead
import Derived.Test.YtdenpefihplnoaaZag
namespace Go.Proofs.Ytdenpefihplnoaa.meth
open Go.RowKit
open Go.Proofs.Ytdenpefihplnoaa.num Go.Proofs.Ytdenpefihplnoaa.words Go.Proofs.Ytdenpefihplnoaa.rdnum Go.Proofs.Ytdenpefihplnoaa.rdr Go.Proofs.Ytdenpefihplnoaa.give Go.Proofs.Ytdenpefihplnoaa.reading

/-- A READ's ANSWER, and the reader behind it. -/
def Did {α : Type} (b : Nat) (s : Rs) (r : Rr α) (z : α) (val : α → Value) (w : World) (e : Ending) (w' : World) : Prop :=
  e = .returned (val (s.ans r z)) ∧ RW w' b (s.go r) ∧ But b w w'

theorem raw_end {b : Nat} {s : Rs} {P : Program} {K : Nat} {args : Array Value} {w : World} (h : Calls P K args w (Raw b s (endT s.l s.p) (fun _ => .bool true) w)) : Calls P K args w (Raw b s (endT s.l s.p) (fun x : Nat => .bool (x == 1)) w) := by
  refine h.mono fun e w' k => ?_
  rcases k with ⟨h0, rfl, hr, hb⟩ | k
  · have h1 : (endT s.l s.p).v = 1 := by
      unfold endT at h0 ⊢; split
      · rename_i hx; rw [if_pos hx] at h0; simp at h0
      · rfl
    exact .inl ⟨h0, by rw [h1]; rfl, hr, hb⟩
  · exact .inr k
/-- the inner read answered, or gave up -/
theorem two_of {α : Type} {b : Nat} {s : Rs} {r : Rr α} {val : α → Value} {w w1 : World} (hw : But b w w1) {e : Ending} {w' : World} (h : Raw b s r val w1 e w') :
    Two b s r.e r.f (fun v w' => v = val r.v ∧ RW w' b { s with p := r.q } ∧ But b w w') w1 e w' := by
  rcases h with ⟨h0, rfl, hr, hb⟩ | ⟨h0, rfl, hr, hb⟩
  · exact .inl ⟨h0, _, rfl, rfl, hr, hw.trans hb⟩
  · exact .inr ⟨h0, rfl, hr, hb⟩
theorem did_of {α : Type} {b : Nat} {s : Rs} {r : Rr α} {z : α} {val : α → Value} {w0 w : World} (hw : But b w0 w) (hs : s.e = 0) {e : Ending} {w' : World}
    (h : Ans b s r.e r.f (val z) (fun v w' => v = val r.v ∧ RW w' b { s with p := r.q } ∧ But b w w') w e w') : Did b s r z val w0 e w' := by
  rcases h with ⟨h0, v, w1, rfl, ⟨rfl, hr, hb⟩, hb2⟩ | ⟨h0, rfl, hr, hb⟩
  · exact ⟨by rw [Rs.ans_ok hs h0], by rw [Rs.go_ok hs h0]; exact hr.below hb2, hw.trans (hb.trans (But.of hb2))⟩
  · exact ⟨by rw [Rs.ans_err h0], by rw [Rs.go_err hs h0]; exact hr, hw.trans hb⟩

set_option maxRecDepth 100000 in
set_option maxHeartbeats 400000 in
theorem num_clo (b : Nat) (s : Rs) (m : Int) (q2 q3 : Nat) (w : World) (h : RW w b s) (h2 : w.cell? ⟨q2, 0, none⟩ = some (.pointer (some ⟨b, 0, none⟩))) (h3 : w.cell? ⟨q3, 0, none⟩ = some (.int .i64 m)) (hm1 : -9223372036854775808 ≤ m) (hm2 : m ≤ 9223372036854775807) :
    Calls Try.prog 37 #[.pointer (some ⟨q2, 0, none⟩), .pointer (some ⟨q3, 0, none⟩)] w (Raw b s (numT s.l s.p m) (fun x : Nat => .int .i64 (x : Int)) w) := by
  have hk := num_any b s m w h hm1 hm2
  have HK := Lib.hid hk
  clear hk h
  go_enter Try.func37, Try.ntmps37
  go_wp2_with (go_at_call 38; refine HK.out.mono ?_; rintro e w' (⟨hx, rfl, hr, hbt⟩ | ⟨hx, rfl, hr, hbt⟩); rotate_left; exact ⟨rfl, .inr ⟨hx, rfl, hr, hbt⟩⟩; have HX := Lib.hid hx; clear hx; have HR := Lib.hid hr; clear hr; have HT := Lib.hid hbt; clear hbt)
  go_ret
  exact .inl ⟨HX.out, rfl, HR.out, HT.out⟩


set_option maxRecDepth 100000 in
set_option maxHeartbeats 400000 in
theorem num_m (b : Nat) (s : Rs) (m : Int) (w : World) (h : RW w b s) (hm1 : -9223372036854775808 ≤ m) (hm2 : m ≤ 9223372036854775807) :
    Calls Try.prog 20 #[.pointer (some ⟨b, 0, none⟩), .int .i64 m] w (Did b s (numT s.l s.p m) 0 (fun x : Nat => .int .i64 (x : Int)) w) := by
  have hmf : ∀ (fn : Fn) (first cap : Array Value) (w : World), (Instr.makeFunc fn first cap).run Try.prog w = .ok (.func fn first cap) w := fun _ _ _ _ => rfl
  have hcf : ∀ (args : Array Value) (w : World), (callFunc 37 args).run Try.prog w = .ok (.enter 37 args) w := fun _ _ => by kernel_rfl
  have hbw : Below w.heap.size w ((w.alloc (Obj.cells #[.pointer (some ⟨b, 0, none⟩)] 37)).alloc (Obj.cells #[.int .i64 m] 3)) := ((Below.refl _ _).alloc (Nat.le_refl _) _).alloc (by simp) _
  have q2 : ((w.alloc (Obj.cells #[.pointer (some ⟨b, 0, none⟩)] 37)).alloc (Obj.cells #[.int .i64 m] 3)).cell? ⟨w.heap.size, 0, none⟩ = some (.pointer (some ⟨b, 0, none⟩)) := by
    rw [cell_of_row _ _ 0 _ _ _ ((Below.heap_alloc _ _ _ (by simp)).trans (heap_alloc_new w _))]; rfl
  have q3 : ((w.alloc (Obj.cells #[.pointer (some ⟨b, 0, none⟩)] 37)).alloc (Obj.cells #[.int .i64 m] 3)).cell? ⟨w.heap.size + 1, 0, none⟩ = some (.int .i64 m) := by
    have e := heap_alloc_new (w.alloc (Obj.cells #[.pointer (some ⟨b, 0, none⟩)] 37)) (Obj.cells #[.int .i64 m] 3)
    rw [World.size_alloc] at e
    rw [cell_of_row _ _ 0 _ _ _ e]; rfl
  have hcall : Calls Try.prog 36 #[.pointer (some ⟨b, 0, none⟩), .func (.func 37) #[] #[.pointer (some ⟨w.heap.size, 0, none⟩), .pointer (some ⟨w.heap.size + 1, 0, none⟩)]] ((w.alloc (Obj.cells #[.pointer (some ⟨b, 0, none⟩)] 37)).alloc (Obj.cells #[.int .i64 m] 3)) (Did b s (numT s.l s.p m) 0 (fun x : Nat => .int .i64 (x : Int)) w) := by
    by_cases hs : s.e = 0
    · refine (live_int b s _ _ (fun v w' => v = (fun x : Nat => .int .i64 (x : Int)) (numT s.l s.p m).v ∧ RW w' b { s with p := (numT s.l s.p m).q } ∧ But b ((w.alloc (Obj.cells #[.pointer (some ⟨b, 0, none⟩)] 37)).alloc (Obj.cells #[.int .i64 m] 3)) w') _ #[] #[.pointer (some ⟨w.heap.size, 0, none⟩), .pointer (some ⟨w.heap.size + 1, 0, none⟩)] _ (h.below hbw) hs (numT_f h.1.le) hcf (fun w1 hb1 => ?_)).mono (fun e w' k => did_of (z := 0) (But.of hbw) hs k)
      refine (num_clo b s m w.heap.size (w.heap.size + 1) w1 ((h.below hbw).below hb1) ((hb1.cell (p := ⟨w.heap.size, 0, none⟩) (by simp; try omega)).trans q2) ((hb1.cell (p := ⟨w.heap.size + 1, 0, none⟩) (by simp)).trans q3) hm1 hm2).mono fun e w' k => two_of (But.of hb1) k
    · refine (dead_int b s _ _ (h.below hbw) hs).mono fun e w' ⟨he, hb⟩ => ⟨by rw [he, Rs.ans_dead hs]; rfl, by rw [Rs.go_dead hs]; exact (h.below hbw).below hb, (But.of hbw).trans (But.of hb)⟩
  have HC := Lib.hid hcall
  clear hbw q2 q3 h hcall hcf
  go_enter Try.func20, Try.ntmps20
  go_wp2_with fail
  refine HC.out.mono ?_
  rintro e w' ⟨rfl, hr, hbt⟩
  have HR := Lib.hid hr
  have HT := Lib.hid hbt
  clear hr hbt
  go_wp2
  go_ret
  exact ⟨rfl, HR.out, HT.out⟩

set_option maxRecDepth 100000 in
set_option maxHeartbeats 400000 in
theorem text_m (b : Nat) (s : Rs) (w : World) (h : RW w b s) :
    Calls Try.prog 21 #[.pointer (some ⟨b, 0, none⟩)] w (Did b s (textT s.l s.p) [] S w) := by
  have hmf : ∀ (fn : Fn) (first cap : Array Value) (w : World), (Instr.makeFunc fn first cap).run Try.prog w = .ok (.func fn first cap) w := fun _ _ _ _ => rfl
  have hcf : ∀ (args : Array Value) (w : World), (callFunc 40 args).run Try.prog w = .ok (.enter 40 args) w := fun _ _ => by kernel_rfl
  have hbw : Below w.heap.size w w := Below.refl _ _
  have hcall : Calls Try.prog 39 #[.pointer (some ⟨b, 0, none⟩), .func (.func 40) #[.pointer (some ⟨b, 0, none⟩)] #[]] (w) (Did b s (textT s.l s.p) [] S w) := by
    by_cases hs : s.e = 0
    · refine (live_string b s _ _ (fun v w' => v = S (textT s.l s.p).v ∧ RW w' b { s with p := (textT s.l s.p).q } ∧ But b (w) w') _ #[.pointer (some ⟨b, 0, none⟩)] #[] _ (h.below hbw) hs (textT_f h.1.le h.1.byte) hcf (fun w1 hb1 => ?_)).mono (fun e w' k => did_of (z := []) (But.of hbw) hs k)
      refine (text_any b s w1 (h.below hb1)).mono fun e w' k => two_of (But.of hb1) k
    · refine (dead_string b s _ _ (h.below hbw) hs).mono fun e w' ⟨he, hb⟩ => ⟨by rw [he, Rs.ans_dead hs]; rfl, by rw [Rs.go_dead hs]; exact (h.below hbw).below hb, (But.of hbw).trans (But.of hb)⟩
  have HC := Lib.hid hcall
  clear hbw h hcall hcf
  go_enter Try.func21, Try.ntmps21
  go_wp2_with fail
  refine HC.out.mono ?_
  rintro e w' ⟨rfl, hr, hbt⟩
  have HR := Lib.hid hr
  have HT := Lib.hid hbt
  clear hr hbt
  go_wp2
  go_ret
  exact ⟨rfl, HR.out, HT.out⟩

theorem signed_v {l : List Nat} {p : Nat} (hp : p ≤ l.length) (hl : ∀ c ∈ l, c < 256) : (lebT l p).e = 0 → ((lebT l p).v : Int) ≤ 18446744073709551615 := fun h => by
  have := (lebT_ok hp hl h).2.1
  omega
end Go.Proofs.Ytdenpefihplnoaa.meth

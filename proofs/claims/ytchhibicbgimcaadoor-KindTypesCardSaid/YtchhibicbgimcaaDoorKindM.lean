/-
  Layer 6: types with other classes' names: the program's answer.
-/
import Derived.Test.YtchhibicbgimcaaDoorKindF
import Derived.Laws.OwnMore
namespace Go.Proofs.YtchhibicbgimcaaDoor.kind
open Go.RowKit
open Go.Proofs.YtchhibicbgimcaaDoor.words Go.Proofs.YtchhibicbgimcaaDoor.kindp Go.Proofs.YtchhibicbgimcaaDoor.word Go.Proofs.YtchhibicbgimcaaDoor.rdr

/-- pairs, cell by cell -/
def PL (l : List Pr) : List Value := l.flatMap fun q => [.string ⟨q.1.toArray⟩, .string ⟨q.2.toArray⟩]
theorem PL_app (a b : List Pr) : PL (a ++ b) = PL a ++ PL b := by simp [PL]
theorem PL_len : ∀ l : List Pr, (PL l).length = l.length * 2
  | [] => rfl
  | t :: l => by
    have := PL_len l
    show (PL ([t] ++ l)).length = _
    rw [PL_app, List.length_append, this]
    show 2 + l.length * 2 = (l.length + 1) * 2
    omega
theorem PL_at : ∀ {l : List Pr} {i : Nat} {t : Pr}, l[i]? = some t → (PL l)[i * 2]? = some (.string ⟨t.1.toArray⟩) ∧ (PL l)[i * 2 + 1]? = some (.string ⟨t.2.toArray⟩)
  | [], _, _, h => by simp at h
  | x :: l, 0, t, h => by simp at h; subst h; exact ⟨rfl, rfl⟩
  | x :: l, i + 1, t, h => by
    have h2 : l[i]? = some t := by simpa using h
    have ih := PL_at h2
    have e : PL (x :: l) = [.string ⟨x.1.toArray⟩, .string ⟨x.2.toArray⟩] ++ PL l := rfl
    rw [e, show (i + 1) * 2 = i * 2 + 2 by omega, show i * 2 + 2 + 1 = (i * 2 + 1) + 2 by omega]
    simpa using ih
theorem pl_cell {w : World} {A : Option Addr} {l : List Pr} (h : Rd w A (PL l)) {i : Nat} {t : Pr} (hi : l[i]? = some t) :
    ∃ a, A = some a ∧ a.block < w.heap.size ∧ w.cell? (a.add (i * 2)) = some (.string ⟨t.1.toArray⟩) ∧ w.cell? ⟨(a.add (i * 2)).block, (a.add (i * 2)).off + 1, none⟩ = some (.string ⟨t.2.toArray⟩) := by
  obtain ⟨h0, h1⟩ := PL_at hi
  obtain ⟨a, rfl, hb, hc⟩ := h.at_ h0
  obtain ⟨a', e, _, hc1⟩ := h.at_ h1
  cases e
  exact ⟨a, rfl, hb, hc, by rw [← add_add] at hc1; exact hc1⟩
/-- a pair of that name -/
def olds (c : Tx) (q : Pr) : Bool := decide (q.1 = c)
theorem beq_tx (a b : Tx) : (a == b) = decide (a = b) := by
  by_cases h : a = b
  · subst h; simp
  · rw [decide_eq_false h]; simpa using h
theorem find_idx {α : Type} {P : α → Bool} : ∀ {l : List α} {i : Nat} {x : α}, l[i]? = some x → P x = true → (∀ y ∈ l.take i, P y = false) → l.find? P = some x
  | [], _, _, h, _, _ => by simp at h
  | y :: l, 0, x, h, hp, _ => by simp at h; subst h; simp [hp]
  | y :: l, i + 1, x, h, hp, ha => by
    have h2 : l[i]? = some x := by simpa using h
    have hy := ha y (by simp)
    rw [List.find?_cons_of_neg (by rw [hy]; simp)]
    exact find_idx h2 hp (fun z hz => ha z (by simp [hz]))
theorem look_idx {l : List Pr} {c : Tx} {r : Int} (h : Idx (olds c) l r) : (r = -1 ∧ lookT l c = none) ∨ ∃ (i : Nat) (q : Pr), r = (i : Int) ∧ l[i]? = some q ∧ lookT l c = some q.2 := by
  rcases h with ⟨rfl, h⟩ | ⟨i, q, rfl, hq, hp, hall⟩
  · refine .inl ⟨rfl, ?_⟩
    unfold lookT
    rw [List.find?_eq_none.2 (fun x hx => by have := h x hx; unfold olds at this; rw [this]; simp)]; rfl
  · refine .inr ⟨i, q, rfl, hq, ?_⟩
    unfold lookT
    rw [show (fun q : Pr => decide (q.1 = c)) = olds c from rfl, find_idx hq hp hall]; rfl

set_option maxRecDepth 100000 in
set_option maxHeartbeats 1600000 in
theorem old_w (o n : Tx) (g : Nat) (c : Tx) (w : World) (hg : w.cell? ⟨g, 1, none⟩ = some (.string ⟨c.toArray⟩)) :
    Calls Tryd.prog 46 #[.agg #[.string ⟨o.toArray⟩, .string ⟨n.toArray⟩], .pointer (some ⟨g, 0, none⟩)] w fun e w' => e = .returned (.bool (olds c (o, n))) ∧ Below w.heap.size w w' := by
  have hal : Below w.heap.size w (w.alloc (.cells #[.string ⟨o.toArray⟩, .string ⟨n.toArray⟩] 51)) := (Below.refl _ _).alloc (Nat.le_refl _) _
  have hg2 := (hal.cell (World.block_lt_of_cell? _ _ hg)).trans hg
  have HAL := Lib.hid hal
  have HE := Lib.hid (show (o == c) = olds c (o, n) from beq_tx o c)
  obtain ⟨b, hb⟩ : ∃ b, (o == c) = b := ⟨_, rfl⟩
  have HB := Lib.hid hb
  clear hal hg
  go_enter Tryd.func46, Tryd.ntmps46
  go_wp2
  go_ret
  exact ⟨by rw [← HE.out, HB.out]; rfl, HAL.out⟩

set_option maxRecDepth 100000 in
set_option maxHeartbeats 1600000 in
theorem index_p (A : Option Addr) (c : Nat) (p : List Pr) (g : Nat) (x0 : Tx) (w : World) (hr : Rd w A (PL p)) (hl : p.length ≤ 281474976710656) (hv : w.cell? ⟨g, 1, none⟩ = some (.string ⟨x0.toArray⟩)) :
    Calls Tryd.prog 45 #[.slice A p.length c, .func (.func 46) #[] #[.pointer (some ⟨g, 0, none⟩)]] w fun e w' => ∃ r, e = .returned (.int .i64 r) ∧ Idx (olds x0) p r ∧ Below w.heap.size w w' := by
  obtain ⟨n, hn⟩ : ∃ n, n = p.length := ⟨_, rfl⟩
  rw [← hn] at hl ⊢
  have hnI : (n : Int) ≤ 281474976710656 := by omega
  have HN := Lib.hid hn; have HR := Lib.hid hr; have HV := Lib.hid hv
  clear hr hv hn hl
  go_enter Tryd.func45, Tryd.ntmps45
  go_wp2
  go_loopw [8] (fun i wr => ∃ k : Nat, i = .int .i64 (k : Int) ∧ k ≤ n ∧ (∀ t ∈ p.take k, (olds x0) t = false) ∧ Below w.heap.size w wr) (fun i _ => n - (intOf i).toNat)
  case atStart => exact ⟨0, rfl, Nat.zero_le _, by simp, Below.refl _ _⟩
  case round =>
    obtain ⟨k, rfl, hk, hall, hbw⟩ := hrel
    have HA := Lib.hid hall; have HB := Lib.hid hbw
    clear hall
    by_cases hlt : k < n
    · have hltI : (k : Int) < (n : Int) := by omega
      obtain ⟨⟨kd, cl⟩, hx⟩ : ∃ x, p[k]? = some x := ⟨p[k]'(by rw [← HN.out]; exact hlt), List.getElem?_eq_getElem _⟩
      obtain ⟨a, rfl, ha, c0, c1⟩ := pl_cell (HR.out.below hbw) hx
      dsimp only at c0 c1
      have HW := Lib.hid (fun w hv => old_w kd cl g x0 w hv)
      have HVR := Lib.hid ((hbw.cell (World.block_lt_of_cell? _ _ HV.out)).trans HV.out)
      have HX := Lib.hid hx
      have hmt := take_more HA.out hx
      cases hwr : (olds x0) (kd, cl) with
      | true =>
        rw [hwr] at HW
        have HI := Lib.hid (show Idx (olds x0) p (k : Int) from .inr ⟨k, _, rfl, hx, hwr, HA.out⟩)
        clear hx hmt hwr hbw ha
        go_wp2_with fail
        refine (HW.out _ HVR.out).mono ?_
        rintro e w1 ⟨rfl, hb1⟩
        have HB1 := Lib.hid (HB.out.trans (hb1.mono HB.out.size))
        clear hb1
        go_wp2
        go_ret
        exact ⟨_, rfl, HI.out, HB1.out⟩
      | false =>
        rw [hwr] at HW
        have HM := Lib.hid (hmt hwr)
        clear hx hmt hwr hbw ha
        go_wp2_with fail
        refine (HW.out _ HVR.out).mono ?_
        rintro e w1 ⟨rfl, hb1⟩
        have HB1 := Lib.hid (HB.out.trans (hb1.mono HB.out.size))
        clear hb1
        go_wp2
        go_roundw
        case rel => exact ⟨k + 1, by go_num, by omega, HM.out, HB1.out⟩
        case measure => simp [intOf]; omega
    · have hltI : ¬ (k : Int) < (n : Int) := by omega
      have hall := HA.out
      rw [List.take_of_length_le (by rw [← HN.out]; omega)] at hall
      have HI := Lib.hid (show Idx (olds x0) p (-1) from .inl ⟨rfl, hall⟩)
      clear hall hbw
      go_wp2
      go_ret
      exact ⟨_, rfl, HI.out, HB.out⟩


/-- THE PROGRAM's TYPE WITH ANOTHER CLASS's NAME. -/
def RenW (x : Ty) (w : World) (e : Ending) (w' : World) : Prop := e = .returned (.agg #[.int .i64 x.1, .string ⟨x.2.toArray⟩]) ∧ Below w.heap.size w w'

set_option maxRecDepth 100000 in
set_option maxHeartbeats 1600000 in
theorem ren_w (k : Int) (c : Tx) (A : Option Addr) (cc : Nat) (l : List Pr) (w : World) (hr : Rd w A (PL l)) (hl : l.length ≤ 281474976710656) :
    Calls Tryd.prog 27 #[.agg #[.int .i64 k, .string ⟨c.toArray⟩], .slice A l.length cc] w (RenW (renT l (k, c)) w) := by
  have hmf : ∀ (fn : Fn) (first cap : Array Value) (w : World), (Instr.makeFunc fn first cap).run Tryd.prog w = .ok (.func fn first cap) w := fun _ _ _ _ => rfl
  have hal : Below w.heap.size w ((w.alloc (.cells #[.int .i64 k, .string ⟨c.toArray⟩] 24)).alloc (.cells #[.int .i64 0, .string ⟨#[]⟩] 24)) := ((Below.refl _ _).alloc (Nat.le_refl _) _).alloc (by simp) _
  have HAL := Lib.hid hal
  have hnw := two_new w (.cells #[.int .i64 k, .string ⟨c.toArray⟩] 24) (.cells #[.int .i64 0, .string ⟨#[]⟩] 24)
  have HNW := Lib.hid hnw
  have HI := Lib.hid (index_p A cc l w.heap.size c _ (hr.below hal) hl (by rw [cell_of_row _ _ _ _ _ _ hnw.1]; rfl))
  have HH := (fun w => has_w k c w)
  obtain ⟨n, hn⟩ : ∃ n, n = l.length := ⟨_, rfl⟩
  rw [← hn] at hl HI ⊢
  have HN := Lib.hid hn; have HR := Lib.hid (hr.below hal)
  have hnI : (n : Int) ≤ 281474976710656 := by omega
  clear hnw hal hr hn hl
  go_enter Tryd.func27, Tryd.ntmps27
  go_wp2_with fail
  refine HI.out.mono ?_
  rintro e w1 ⟨r, rfl, hidx, hb1⟩
  have hli := look_idx hidx
  have hg0 := (hb1.block _ (by simp; omega)).trans HNW.out.1
  have hg1 := (hb1.block _ (by simp)).trans HNW.out.2
  have hr1 := HR.out.below hb1
  have HB := Lib.hid (HAL.out.trans (hb1.mono (by simp; omega)))
  clear hidx hb1 HI HNW HR
  have c00 : w1.cell? ⟨w.heap.size, 0, none⟩ = some (.int .i64 k) := cell_of_row _ _ _ _ _ _ hg0
  have c01 : w1.cell? ⟨w.heap.size, 1, none⟩ = some (.string ⟨c.toArray⟩) := cell_of_row _ _ _ _ _ _ hg0
  have HG0 := Lib.hid hg0; have HG1 := Lib.hid hg1; have HR1 := Lib.hid hr1
  clear hg0 hg1 hr1
  cases hb : hasB k with
  | false =>
    rw [hb] at HH
    have HHH := Lib.hid HH
    have HD := Lib.hid (show renT l (k, c) = (k, c) by unfold renT; rw [if_neg (by rw [hb]; simp)])
    clear HH hb hli
    go_wp2_with fail
    refine (HHH.out _).mono ?_
    rintro e w2 ⟨rfl, hb2⟩
    have hg02 := (hb2.block _ (blk_lt HG0.out)).trans HG0.out
    have hg12 := (hb2.block _ (blk_lt HG1.out)).trans HG1.out
    have d00 : w2.cell? ⟨w.heap.size, 0, none⟩ = some (.int .i64 k) := cell_of_row _ _ _ _ _ _ hg02
    have d01 : w2.cell? ⟨w.heap.size, 1, none⟩ = some (.string ⟨c.toArray⟩) := cell_of_row _ _ _ _ _ _ hg02
    have d10 : w2.cell? ⟨w.heap.size + 1, 0, none⟩ = some (.int .i64 0) := cell_of_row _ _ _ _ _ _ hg12
    have d11 : w2.cell? ⟨w.heap.size + 1, 1, none⟩ = some (.string ⟨#[]⟩) := cell_of_row _ _ _ _ _ _ hg12
    have f10 := frozen_of_row w2 _ 0 _ _ hg12
    have f11 := frozen_of_row w2 _ 1 _ _ hg12
    have HB2 := Lib.hid (then' HB.out hb2)
    obtain ⟨z0, z1, -⟩ := two_set hg12 (.int .i64 k) (.string ⟨c.toArray⟩)
    clear hb2 hg02 hg12 c00 c01
    go_wp2
    exact bodyPost_ret (v := .agg #[.int .i64 k, .string ⟨c.toArray⟩]) (by simp [results, Tryd.results27, go_sem, z0, z1]) rfl ⟨by rw [HD.out], (HB2.out.setCell (by simp) _).setCell (by simp) _⟩
  | true =>
    rw [hb] at HH
    have HHH := Lib.hid HH
    rcases hli with ⟨rfl, hlk⟩ | ⟨i, q, rfl, hq, hlk⟩
    · have HD := Lib.hid (show renT l (k, c) = (k, c) by unfold renT; rw [if_pos hb, hlk])
      clear HH hb hlk
      go_wp2_with fail
      refine (HHH.out _).mono ?_
      rintro e w2 ⟨rfl, hb2⟩
      have hg02 := (hb2.block _ (blk_lt HG0.out)).trans HG0.out
      have hg12 := (hb2.block _ (blk_lt HG1.out)).trans HG1.out
      have d00 : w2.cell? ⟨w.heap.size, 0, none⟩ = some (.int .i64 k) := cell_of_row _ _ _ _ _ _ hg02
      have d01 : w2.cell? ⟨w.heap.size, 1, none⟩ = some (.string ⟨c.toArray⟩) := cell_of_row _ _ _ _ _ _ hg02
      have d10 : w2.cell? ⟨w.heap.size + 1, 0, none⟩ = some (.int .i64 0) := cell_of_row _ _ _ _ _ _ hg12
      have d11 : w2.cell? ⟨w.heap.size + 1, 1, none⟩ = some (.string ⟨#[]⟩) := cell_of_row _ _ _ _ _ _ hg12
      have f10 := frozen_of_row w2 _ 0 _ _ hg12
      have f11 := frozen_of_row w2 _ 1 _ _ hg12
      have HB2 := Lib.hid (then' HB.out hb2)
      obtain ⟨z0, z1, -⟩ := two_set hg12 (.int .i64 k) (.string ⟨c.toArray⟩)
      clear hb2 hg02 hg12 c00 c01
      go_wp2
      exact bodyPost_ret (v := .agg #[.int .i64 k, .string ⟨c.toArray⟩]) (by simp [results, Tryd.results27, go_sem, z0, z1]) rfl ⟨by rw [HD.out], (HB2.out.setCell (by simp) _).setCell (by simp) _⟩
    · have HD := Lib.hid (show renT l (k, c) = (k, q.2) by unfold renT; rw [if_pos hb, hlk])
      have HQ := Lib.hid hq
      clear HH hb hlk hq
      go_wp2_with fail
      refine (HHH.out _).mono ?_
      rintro e w2 ⟨rfl, hb2⟩
      have hg02 := (hb2.block _ (blk_lt HG0.out)).trans HG0.out
      have hg12 := (hb2.block _ (blk_lt HG1.out)).trans HG1.out
      have d00 : w2.cell? ⟨w.heap.size, 0, none⟩ = some (.int .i64 k) := cell_of_row _ _ _ _ _ _ hg02
      have d01 : w2.cell? ⟨w.heap.size, 1, none⟩ = some (.string ⟨c.toArray⟩) := cell_of_row _ _ _ _ _ _ hg02
      have d10 : w2.cell? ⟨w.heap.size + 1, 0, none⟩ = some (.int .i64 0) := cell_of_row _ _ _ _ _ _ hg12
      have d11 : w2.cell? ⟨w.heap.size + 1, 1, none⟩ = some (.string ⟨#[]⟩) := cell_of_row _ _ _ _ _ _ hg12
      have f10 := frozen_of_row w2 _ 0 _ _ hg12
      have f11 := frozen_of_row w2 _ 1 _ _ hg12
      have HB2 := Lib.hid (then' HB.out hb2)
      have f01 := frozen_of_row w2 _ 1 _ _ hg02
      obtain ⟨qo, qn⟩ := q
      obtain ⟨a, rfl, ha, p0, p1⟩ := pl_cell (HR1.out.below hb2) HQ.out
      dsimp only at p0 p1 HD
      have hg13 := but_ne ((But.refl w.heap.size w2).set 1 (.string ⟨qn.toArray⟩)) hg12 (by omega)
      obtain ⟨z0, z1, -⟩ := two_set hg13 (.int .i64 k) (.string ⟨qn.toArray⟩)
      have HZ0 := Lib.hid z0; have HZ1 := Lib.hid z1
      have hin : i < n := by
        rcases Nat.lt_or_ge i l.length with h | h
        · rw [HN.out]; exact h
        · have := HQ.out; rw [List.getElem?_eq_none h] at this; cases this
      have hiI : (i : Int) < (n : Int) := by omega
      clear hb2 hg02 hg12 hg13 c00 c01 ha z0 z1
      go_wp2
      exact bodyPost_ret (v := .agg #[.int .i64 k, .string ⟨qn.toArray⟩]) (by simp [results, Tryd.results27, go_sem, HZ0.out, HZ1.out]) rfl ⟨by rw [HD.out], ((HB2.out.setCell (by simp) _).setCell (by simp) _).setCell (by simp) _⟩
end Go.Proofs.YtchhibicbgimcaaDoor.kind

/-
  What Open of crc hands back: the bytes that were sealed, or the error.
-/
import Derived.Test.YtcpjllkfgoaamaaDoorSeal
import Derived.Deep.RegionHeld3
import Derived.ChangeKeysEq
namespace Go.Proofs.YtcpjllkfgoaamaaDoor.sealing
open Go.RowKit
open Go.Proofs.YtcpjllkfgoaamaaDoor.crcnum Go.Proofs.YtcpjllkfgoaamaaDoor.words

theorem four_of {l : List Nat} (h : l.length = 4) : ∃ a b c d, l = [a, b, c, d] := by
  match l, h with
  | [a, b, c, d], _ => exact ⟨a, b, c, d, rfl⟩

set_option maxRecDepth 100000 in
theorem info5 : ∃ i, Tryd.prog.info? 5 = some i := ⟨_, rfl⟩
set_option maxRecDepth 100000 in
theorem cells5 : Tryd.prog.cellsOf 5 = 1 := by kernel_rfl
set_option maxRecDepth 100000 in
/-- two arrays of four bytes, held against one another -/
theorem eq4 (a b c d x y z u : Int) (w : World) :
    (Op.equalIn 10000 93 (.agg #[.int .u8 a, .int .u8 b, .int .u8 c, .int .u8 d]) (.agg #[.int .u8 x, .int .u8 y, .int .u8 z, .int .u8 u])).run Tryd.prog w = .ok (a == x && (b == y && (c == z && d == u))) w := by
  obtain ⟨i, hi⟩ := info5
  have p0 : ∀ (v0 v1 v2 v3 : Value) (w : World), (part 5 #[v0, v1, v2, v3] 0).run Tryd.prog w = .ok v0 w := fun _ _ _ _ _ => by kernel_rfl
  have p1 : ∀ (v0 v1 v2 v3 : Value) (w : World), (part 5 #[v0, v1, v2, v3] 1).run Tryd.prog w = .ok v1 w := fun _ _ _ _ _ => by kernel_rfl
  have p2 : ∀ (v0 v1 v2 v3 : Value) (w : World), (part 5 #[v0, v1, v2, v3] 2).run Tryd.prog w = .ok v2 w := fun _ _ _ _ _ => by kernel_rfl
  have p3 : ∀ (v0 v1 v2 v3 : Value) (w : World), (part 5 #[v0, v1, v2, v3] 3).run Tryd.prog w = .ok v3 w := fun _ _ _ _ _ => by kernel_rfl
  have hq : ∀ (p q : Int) (w : World), (Op.equalIn 9999 5 (.int .u8 p) (.int .u8 q)).run Tryd.prog w = .ok (p == q) w := fun p q w => run_equalIn_int w 9998 5 .u8 .u8 p q Tryd.underlying5
  rw [run_equalIn_array w 9999 _ _ (show Tryd.prog.underlying 93 = some (.array 4 5) by kernel_rfl) hi, cells5]
  rw [show List.range 4 = [0, 1, 2, 3] from rfl]
  simp only [Op.eqItems, Sem.run_bind, Nat.mul_one, p0, hq, Result.andThen_ok]
  by_cases h0 : a = x
  · by_cases h1 : b = y
    · by_cases h2 : c = z
      · by_cases h3 : d = u <;> simp [h0, h1, h2, h3, p1, p2, p3, hq]
      · simp [h0, h1, h2, p1, p2, hq]
    · simp [h0, h1, p1, hq]
  · simp [h0]
/-- OPEN: the bytes that were sealed, or the error. -/
def NewO (w : World) (s : List Nat × Nat) (e : Ending) (w' : World) : Prop :=
  ∃ v, e = .returned (.tuple #[v, .int .i64 (s.2 : Int)]) ∧ w'.ownsRow w.heap.size 5 1 v s.1.length (B s.1) ∧ Below w.heap.size w w'
set_option maxRecDepth 100000 in
set_option maxHeartbeats 800000 in
theorem open_any (A : Option Addr) (n c : Nat) (l : List Nat) (w : World) (ht : crc.Tab w) (hr : Rd w A (B l)) (hl : l.length = n) (hc : n ≤ c) (hn : n ≤ 140737488355328) (hby : ∀ x ∈ l, x < 256) :
    Calls Tryd.prog 87 #[.slice A n c] w (NewO w (openL l)) := by
  by_cases h4 : n < 4
  · have hres : openL l = ([], 2) := by unfold openL; rw [if_pos (by omega)]
    rw [hres]
    clear hres hn hc hby
    go_enter Tryd.func87, Tryd.ntmps87
    go_wp2
    go_ret2
    exact ⟨_, rfl, World.ownsRow_nil _ _ _ _, Below.refl _ _⟩
  · obtain ⟨C, hC, hcut1⟩ := run_cut_h Tryd.underlying48 (by kernel_rfl) put.size5 A n c (n - 4) (by omega)
    obtain ⟨D, hD, hcut2⟩ := take.cut A n c (n - 4) (by omega)
    have hrC : Rd w C (B (l.take (n - 4))) := by rw [← B_take]; exact hC _ _ hr
    have hrD : Rd w D (B (l.drop (n - 4))) := by rw [hD, ← B_drop]; exact hr.cut (by rw [B_len, hl]; exact hc)
    have hdl : (l.drop (n - 4)).length = 4 := by rw [List.length_drop, hl]; omega
    obtain ⟨e0, e1, e2, e3, hE⟩ := four_of hdl
    rw [hE] at hrD
    obtain ⟨d, rfl, hdb, k0⟩ := hrD.at_ (j := 0) rfl
    obtain ⟨d', h', _, k1⟩ := hrD.at_ (j := 1) rfl; cases h'
    obtain ⟨d', h', _, k2⟩ := hrD.at_ (j := 2) rfl; cases h'
    obtain ⟨d', h', _, k3⟩ := hrD.at_ (j := 3) rfl; cases h'
    have hby4 : ∀ x ∈ [e0, e1, e2, e3], x < 256 := by rw [← hE]; intro x hx; exact hby x (List.mem_of_mem_drop hx)
    have b0 := hby4 e0 (by simp)
    have b1 := hby4 e1 (by simp)
    have b2 := hby4 e2 (by simp)
    have b3 := hby4 e3 (by simp)
    change w.cell? ⟨d.block, d.off + 1, none⟩ = _ at k1
    change w.cell? ⟨d.block, d.off + 2, none⟩ = _ at k2
    change w.cell? ⟨d.block, d.off + 3, none⟩ = _ at k3
    have k0' : w.cell? d = some (.int .u8 (e0 : Int)) := by have := k0; simpa [Addr.add] using this
    rw [show ((n - 4 : Nat) : Int) = (n : Int) - 4 by omega] at hcut1 hcut2
    rw [show n - (n - 4) = 4 by omega] at hcut2
    have h1 := fun wx (h : crc.Tab wx) hr => crc.sum_any C (n - 4) c (l.take (n - 4)) wx h hr (by rw [List.length_take]; omega) (by omega) (fun x hx => hby x (List.mem_of_mem_take hx))
    have hs := sumL_lt (l.take (n - 4))
    have hop : openL l = if [e0, e1, e2, e3] = fourL (sumL (l.take (n - 4))) then (l.take (n - 4), 0) else ([], 4) := by unfold openL; rw [hl, if_neg h4, hE]
    have H1 := Lib.hid h1
    have HO := Lib.hid hop
    have hnI : (n : Int) ≤ 140737488355328 := by omega
    have h4I : 4 ≤ (n : Int) := by omega
    have hcl : (l.take (n - 4)).length = n - 4 := by rw [List.length_take]; omega
    have HC := Lib.hid hcl
    have hsI : (sumL (l.take (n - 4)) : Int) ≤ 4294967295 := by omega
    clear hC hD hE hdl hby4 hby h1 hs hop hn hl hcl hr hrD
    generalize l.take (n - 4) = a at *
    have h2 := laid_any (sumL a)
    have H2 := Lib.hid h2
    clear h2
    generalize sumL a = s at *
    have heq := fun w => eq4 (e0 : Int) (e1 : Int) (e2 : Int) (e3 : Int) ((s : Int) % 256) ((s : Int) / 256 % 256) ((s : Int) / 65536 % 256) ((s : Int) / 16777216 % 256) w
    by_cases hq : [e0, e1, e2, e3] = fourL s
    · rw [HO.out, if_pos hq]
      simp only [fourL, List.cons.injEq, and_true] at hq
      have hb : ((e0 : Int) == (s : Int) % 256 && ((e1 : Int) == (s : Int) / 256 % 256 && ((e2 : Int) == (s : Int) / 65536 % 256 && (e3 : Int) == (s : Int) / 16777216 % 256))) = true := by
        simp only [Bool.and_eq_true, beq_iff_eq]; omega
      simp only [hb] at heq
      clear hb hq HO
      go_enter Tryd.func87, Tryd.ntmps87
      go_wp2_with fail
      go_quiet (fail)
      go_wp2_with fail
      go_region_held3 (fun w' => w'.cell? d = some (.int .u8 (e0 : Int)) ∧ w'.cell? ⟨d.block, d.off + 1, none⟩ = some (.int .u8 (e1 : Int)) ∧ w'.cell? ⟨d.block, d.off + 2, none⟩ = some (.int .u8 (e2 : Int)) ∧ w'.cell? ⟨d.block, d.off + 3, none⟩ = some (.int .u8 (e3 : Int))) (go_keep)
        (first
          | (go_at_call 82; refine (H1.out _ ?_ ?_).mono ?_; exact ht; exact hrC; rintro e w' ⟨rfl, rfl⟩)
          | (go_at_call 81; refine (H2.out _ hsI).mono ?_; rintro e w1 ⟨rfl, hb1⟩; unfold F; have q0 := (hb1.cell (p := d) hdb).trans k0'; have q1 := (hb1.cell (p := ⟨d.block, d.off + 1, none⟩) hdb).trans k1; have q2 := (hb1.cell (p := ⟨d.block, d.off + 2, none⟩) hdb).trans k2; have q3 := (hb1.cell (p := ⟨d.block, d.off + 3, none⟩) hdb).trans k3))
      have hbw : Below w.heap.size w w1 := under hb1
      have hrC1 := hrC.below hbw
      have HB := Lib.hid hbw
      have hn4 : n - 4 ≤ 140737488355328 := by omega
      have HN := Lib.hid hn4
      clear q0 q1 q2 q3 hb1 hbw hn4
      go_wp2_with (go_at_call 104; refine (put.clone_any C (n - 4) c a _ hrC1 HC.out HN.out).mono ?_; rintro e w2 ⟨v2, rfl, hown2, hb2⟩)
      go_ret2
      exact ⟨v2, rfl, own_base hown2 HB.out.size, then_ HB.out (Nat.le_refl _) hb2⟩
    · rw [HO.out, if_neg hq]
      have hb : ((e0 : Int) == (s : Int) % 256 && ((e1 : Int) == (s : Int) / 256 % 256 && ((e2 : Int) == (s : Int) / 65536 % 256 && (e3 : Int) == (s : Int) / 16777216 % 256))) = false := by
        rw [Bool.eq_false_iff]
        intro h
        simp only [Bool.and_eq_true, beq_iff_eq] at h
        exact hq (by simp only [fourL, List.cons.injEq, and_true]; omega)
      simp only [hb] at heq
      clear hb hq HO
      go_enter Tryd.func87, Tryd.ntmps87
      go_wp2_with fail
      go_quiet (fail)
      go_wp2_with fail
      go_region_held3 (fun w' => w'.cell? d = some (.int .u8 (e0 : Int)) ∧ w'.cell? ⟨d.block, d.off + 1, none⟩ = some (.int .u8 (e1 : Int)) ∧ w'.cell? ⟨d.block, d.off + 2, none⟩ = some (.int .u8 (e2 : Int)) ∧ w'.cell? ⟨d.block, d.off + 3, none⟩ = some (.int .u8 (e3 : Int))) (go_keep)
        (first
          | (go_at_call 82; refine (H1.out _ ?_ ?_).mono ?_; exact ht; exact hrC; rintro e w' ⟨rfl, rfl⟩)
          | (go_at_call 81; refine (H2.out _ hsI).mono ?_; rintro e w1 ⟨rfl, hb1⟩; unfold F; have q0 := (hb1.cell (p := d) hdb).trans k0'; have q1 := (hb1.cell (p := ⟨d.block, d.off + 1, none⟩) hdb).trans k1; have q2 := (hb1.cell (p := ⟨d.block, d.off + 2, none⟩) hdb).trans k2; have q3 := (hb1.cell (p := ⟨d.block, d.off + 3, none⟩) hdb).trans k3))
      all_goals go_wp2
      all_goals go_ret2
      all_goals exact ⟨_, rfl, World.ownsRow_nil _ _ _ _, under hb1⟩
end Go.Proofs.YtcpjllkfgoaamaaDoor.sealing

/-
  The walk of NormFewer: what is right, without any one class, is right.
-/
import Derived.Test.YtodnfahffkggiaaGreatDoorNormLv
import Derived.Test.YtodnfahffkggiaaGreatDoorStep
namespace Go.Proofs.YtodnfahffkggiaaGreatDoor.prg
open Go.RowKit
open Go.Proofs.YtodnfahffkggiaaGreatDoor.words Go.Proofs.YtodnfahffkggiaaGreatDoor.kindp Go.Proofs.YtodnfahffkggiaaGreatDoor.opp Go.Proofs.YtodnfahffkggiaaGreatDoor.op Go.Proofs.YtodnfahffkggiaaGreatDoor.kind Go.Proofs.YtodnfahffkggiaaGreatDoor.word

theorem lt_tr {a b c : Tx} (h : ltT a b = true) (k : ltT b c = true) : ltT a c = true := by
  unfold ltT at *
  exact decide_eq_true (List.lt_trans (of_decide_eq_true h) (of_decide_eq_true k))
theorem rises_erase {α : Type} {lt : α → α → Bool} (htr : ∀ a b c, lt a b = true → lt b c = true → lt a c = true) {l : List α} (h : risesB lt l = true) (k : Nat) : risesB lt (l.eraseIdx k) = true := by
  refine rises_yes fun j x y hx hy => ?_
  rw [List.getElem?_eraseIdx] at hx hy
  by_cases h1 : j + 1 < k
  · rw [if_pos (by omega)] at hx
    rw [if_pos h1] at hy
    exact rises_at h hx hy
  · rw [if_neg h1] at hy
    by_cases h2 : j < k
    · rw [if_pos h2] at hx
      have hl : j + 1 < l.length := by have := (List.getElem?_eq_some_iff.1 hy).1; omega
      have hm : l[j + 1]? = some l[j + 1] := List.getElem?_eq_getElem hl
      exact htr _ _ _ (rises_at h hx hm) (rises_at h hm hy)
    · rw [if_neg h2] at hx
      exact rises_at h hx hy
theorem all_erase {α : Type} {P : α → Bool} {l : List α} (h : l.all P = true) (k : Nat) : (l.eraseIdx k).all P = true :=
  List.all_eq_true.2 fun x hx => List.all_eq_true.1 h x (List.mem_of_mem_eraseIdx hx)
theorem erase_len {α : Type} (l : List α) (k : Nat) : (l.eraseIdx k).length ≤ l.length := by
  rw [List.length_eraseIdx]; split <;> omega
/-- what is right, without one class, is right -/
theorem fewer_right {p q : PrM} {k : Nat} (h : rightE p = 0) (h1 : q.cs = p.cs.eraseIdx k) (h2 : q.ns = p.ns) (h3 : q.ec = p.ec) (h4 : q.en = p.en) (h5 : q.ed = p.ed) : rightE q = 0 := by
  obtain ⟨g1, g2, g3, g4⟩ := right_zero h
  have a1 : longP q = false := by
    unfold longP at *
    rw [h1, h2]
    simp only [Bool.or_eq_false_iff, Bool.not_eq_false', decide_eq_false_iff_not] at g1 ⊢
    exact ⟨g1.1, by have := erase_len p.cs k; omega, all_erase g1.2.2 k⟩
  have a2 : q.cs.all classB = true := by rw [h1]; exact all_erase g2 k
  have a3 : entryB q = true := by unfold entryB at *; rw [h3, h4, h5]; exact g3
  have a4 : orderB q = true := by
    unfold orderB at *
    simp only [Bool.and_eq_true] at g4 ⊢
    rw [h1]
    exact ⟨rises_erase (lt := ltC) (fun a b c (ha : ltT a.nm b.nm = true) (hb : ltT b.nm c.nm = true) => lt_tr ha hb) g4.1 k, all_erase g4.2 k⟩
  unfold rightE
  rw [a1, a2, a3, a4]
  rfl
theorem er_here {α : Type} {l : List α} {k : Nat} {x : α} (h : l[k]? = some x) : (l.take (k + 1)).eraseIdx k = (l.take k).eraseIdx k := by
  have hl : (l.take k).length = k := by rw [List.length_take]; have := (List.getElem?_eq_some_iff.1 h).1; omega
  rw [List.take_add_one, h, List.eraseIdx_append_of_length_le (by omega), List.eraseIdx_of_length_le (by omega : (l.take k).length ≤ k), hl]
  simp
theorem er_other {α : Type} {l : List α} {i k : Nat} {x : α} (h : l[i]? = some x) (hne : i ≠ k) : (l.take (i + 1)).eraseIdx k = (l.take i).eraseIdx k ++ [x] := by
  have hl : (l.take i).length = i := by rw [List.length_take]; have := (List.getElem?_eq_some_iff.1 h).1; omega
  rw [List.take_add_one, h]
  by_cases hlt : k < i
  · rw [List.eraseIdx_append_of_lt_length (by omega)]; rfl
  · rw [List.eraseIdx_of_length_le (by simp; omega), List.eraseIdx_of_length_le (by omega : (l.take i).length ≤ k)]; rfl
theorem own_flat {w : World} {base : Nat} {v : Value} {a c : List ClM} {y : ClM} (hc : c = a ++ [y]) (h : w.ownsRow base 37 7 v (a.length + 1) (a.flatMap clC ++ clC y)) : w.ownsRow base 37 7 v c.length (c.flatMap clC) := by
  rw [hc, List.flatMap_append, List.length_append]
  simpa using h
theorem gb_none {w w' : World} {base : Nat} {g : Nat} (hg : base ≤ g) {c : World} (h : Below base c w) (k : w.grownBy w' (some g)) (hb : base ≤ w.heap.size) : Below base c w' := h.grown k hb (fun j hj => by cases hj; exact hg)
end Go.Proofs.YtodnfahffkggiaaGreatDoor.prg

namespace Go.Proofs.YtodnfahffkggiaaGreatDoor.normFewer
open Go.RowKit
open Go.Proofs.YtodnfahffkggiaaGreatDoor.words Go.Proofs.YtodnfahffkggiaaGreatDoor.kindp Go.Proofs.YtodnfahffkggiaaGreatDoor.opp Go.Proofs.YtodnfahffkggiaaGreatDoor.op Go.Proofs.YtodnfahffkggiaaGreatDoor.kind Go.Proofs.YtodnfahffkggiaaGreatDoor.word Go.Proofs.YtodnfahffkggiaaGreatDoor.prg

set_option maxRecDepth 100000 in
set_option maxHeartbeats 4000000 in
set_option linter.all false in
theorem walk (x : PrM) (z : Int) (w : World) (hk : PrOk w x) (hb : PrBd x) (z0 : 0 ≤ z) (z1 : z ≤ 255) (hs : Sh w) (hv : Vd w) (hm : Mx w) : Calls Tryz.prog 7 #[.agg (prC x).toArray, .int .u8 z] w fun e w' => e = .returned (.bool true) ∧ Below w.heap.size w w' := by
  have htw : Wd w := ⟨hs, hm, hv⟩
  obtain ⟨i1, hj0, hy0, hy1, hy2⟩ := info_parts info_cl
  obtain ⟨W, hW⟩ : ∃ W, W = w.alloc (.cells (prC x).toArray 27) := ⟨_, rfl⟩
  have hal : Below w.heap.size w W := by rw [hW]; exact (Below.refl _ w).alloc (Nat.le_refl _) _
  have HAL := Lib.hid hal
  have hblk : W.heap[w.heap.size]? = some (.cells (prC x).toArray 27 (0, 0)) := by rw [hW]; exact heap_alloc_new w _
  have HBK := Lib.hid hblk; have HLT := Lib.hid (blk_lt hblk)
  obtain ⟨x0_0, x0_1, x0_2, x0_3, x0_4⟩ := pr_cells hblk
  have K0 := Lib.hid (Below.refl W.heap.size W)
  have HTW := Lib.hid (htw.below hal)
  have HKW := Lib.hid (hk.below hal)
  have HBD := Lib.hid hb
  have HGR := Lib.hid (fun w hk => great_w x w hk hb)
  have HRT := Lib.hid (fun w ht hk hf => right_w x w ht hk hb hf)
  have HLV := Lib.hid (fun w ht => live_w w ht)
  obtain ⟨zn, rfl⟩ : ∃ n : Nat, z = (n : Int) := ⟨z.toNat, by omega⟩
  have hl1 : x.cs.length ≤ 281474976710656 := by have := hb.1.1; omega
  have hl1I : (x.cs.length : Int) ≤ 281474976710656 := by omega
  obtain ⟨A1, hA1⟩ : ∃ A, A = x.A1 := ⟨_, rfl⟩
  unfold prC at hW HGR HRT ⊢
  try dsimp only at hW HGR HRT ⊢
  have hcb := HKW.out.1.2
  rw [← hA1] at x0_0 hW HGR HRT hcb ⊢
  have HRC := Lib.hid hcb
  obtain ⟨n, hn⟩ : ∃ n, n = x.cs.length := ⟨_, rfl⟩
  rw [← hn] at x0_0 hW HGR HRT hl1 hl1I ⊢
  have HN := Lib.hid hn
  have HW := Lib.hid hW
  have HA1 := Lib.hid hA1
  clear hal hblk hW hk hb hs hv hm htw hcb hA1 hn
  go_enter Tryz.func7, Tryz.ntmps7
  go_wp2_with fail
  rw [← HW.out]
  (try go_wp2_with fail)
  clear x0_0 x0_1 x0_2 x0_3 x0_4
  refine (HGR.out _ HKW.out).mono ?_
  rintro e v3 ⟨g, rfl, hg, hb3⟩
  have K3 := Lib.hid hb3
  have HG := Lib.hid hg
  clear hb3 hg
  cases g with
  | true =>
    go_wp2_with fail
    refine (HLV.out _ (HTW.out.below K3.out)).mono ?_
    rintro e v4 ⟨rfl, hb4⟩
    have K4 := Lib.hid (then' K3.out hb4)
    clear hb4
    go_wp2
    go_ret
    exact ⟨rfl, HAL.out.trans (K4.out.mono HAL.out.size)⟩
  | false =>
    obtain ⟨x1_0, x1_1, x1_2, x1_3, x1_4⟩ := pr_cells ((K3.out.block _ HLT.out).trans HBK.out)
    rw [← HA1.out, ← HN.out] at x1_0
    go_wp2_with fail
    refine (HRT.out _ (HTW.out.below K3.out) (HKW.out.below K3.out) (HG.out (by trivial)).fit).mono ?_
    rintro e v4 ⟨rfl, hb4⟩
    have K4 := Lib.hid (then' K3.out hb4)
    clear hb4 x1_0 x1_1 x1_2 x1_3 x1_4
    by_cases hz : rightE x = 0
    · have gz : (rightE x != 0) = false := by rw [hz]; rfl
      have HZ := Lib.hid hz
      have HQZ := Lib.hid (fun (q : PrM) (k : Nat) h1 h2 h3 h4 h5 => fewer_right (p := x) (q := q) (k := k) hz h1 h2 h3 h4 h5)
      have HGP := Lib.hid (HG.out (by trivial))
      obtain ⟨x1_0, x1_1, x1_2, x1_3, x1_4⟩ := pr_cells ((K4.out.block _ HLT.out).trans HBK.out)
      rw [← HA1.out, ← HN.out] at x1_0
      clear hz
      generalize rightE x = rr at *
      by_cases hn0 : n = 0
      · have g0 : ((n : Int) == 0) = true := by rw [hn0]; rfl
        clear HZ
        go_wp2_with fail
        refine (HLV.out _ (HTW.out.below K4.out)).mono ?_
        rintro e v5 ⟨rfl, hb5⟩
        have K5 := Lib.hid (then' K4.out hb5)
        clear hb5
        go_wp2
        go_ret
        exact ⟨rfl, HAL.out.trans (K5.out.mono HAL.out.size)⟩
      · have g0 : ((n : Int) == 0) = false := by rw [beq_eq_false_iff_ne]; omega
        have hmod : (zn : Int).tmod (n : Int) = ((zn % n : Nat) : Int) := rfl
        have hw8 : IntKind.i64.wrap (zn : Int) = (zn : Int) := IntWalk.i64_in _ (by omega)
        have hwm : IntKind.i64.wrap ((zn % n : Nat) : Int) = ((zn % n : Nat) : Int) := IntWalk.i64_in _ (by have := Nat.mod_lt zn (show 0 < n by omega); omega)
        have hn0I : ¬ (n : Int) = 0 := by omega
        have hal5 : Below v4.heap.size v4 (v4.alloc (.cells #[.slice none 0 0, .slice x.A2 x.ns.length x.c2, .string ⟨x.ec.toArray⟩, .string ⟨x.en.toArray⟩, .string ⟨x.ed.toArray⟩] 27)) := (Below.refl _ _).alloc (Nat.le_refl _) _
        have HAL5 := Lib.hid hal5
        have hq5 := heap_alloc_new v4 (.cells #[.slice none 0 0, .slice x.A2 x.ns.length x.c2, .string ⟨x.ec.toArray⟩, .string ⟨x.en.toArray⟩, .string ⟨x.ed.toArray⟩] 27)
        have HQ5 := Lib.hid hq5
        have e0 : (v4.alloc (.cells #[.slice none 0 0, .slice x.A2 x.ns.length x.c2, .string ⟨x.ec.toArray⟩, .string ⟨x.en.toArray⟩, .string ⟨x.ed.toArray⟩] 27)).cell? ⟨w.heap.size, 0, none⟩ = some (.slice A1 n x.c1) := (hal5.cell (p := ⟨w.heap.size, 0, none⟩) (World.block_lt_of_cell? _ _ x1_0)).trans x1_0
        clear HZ hal5 hq5
        go_wp2
        clear e0 x1_0 x1_1 x1_2 x1_3 x1_4
        have hkn : zn % n < n := Nat.mod_lt _ (by omega)
        rw [show (zn : Int) % (n : Int) = ((zn % n : Nat) : Int) from rfl]
        generalize zn % n = k at *
        have hn70 : n ≤ 70 := by rw [HN.out]; exact HGP.out.1.1
        clear hmod hw8 hwm
        go_loopw [7] (fun i wr => ∃ (j : Nat) (v : Value), i = .int .i64 (j : Int) ∧ j ≤ n ∧ wr.ownsRow (v4.heap.size + 1) 37 7 v ((x.cs.take j).eraseIdx k).length (((x.cs.take j).eraseIdx k).flatMap clC) ∧ wr.heap[v4.heap.size]? = some (.cells #[v, .slice x.A2 x.ns.length x.c2, .string ⟨x.ec.toArray⟩, .string ⟨x.en.toArray⟩, .string ⟨x.ed.toArray⟩] 27 (0, 0)) ∧ Below v4.heap.size v4 wr) (fun i _ => n - (intOf i).toNat)
        case atStart => exact ⟨0, _, rfl, Nat.zero_le _, by simpa using World.ownsRow_nil _ _ _ _, HQ5.out, HAL5.out⟩
        case round =>
          obtain ⟨j, v, rfl, hj, hown, hqb, hbw⟩ := hrel
          obtain ⟨wa, hwa⟩ : ∃ u, u = wr := ⟨_, rfl⟩
          subst hwa
          have HO := Lib.hid hown; have HQB := Lib.hid hqb; have HB := Lib.hid hbw
          have hszw := hbw.size
          obtain ⟨p0, p1, p2, p3, p4⟩ := pr_cells (((K4.out.trans (hbw.mono K4.out.size)).block _ HLT.out).trans HBK.out)
          rw [← HA1.out, ← HN.out] at p0
          clear p1 p2 p3 p4
          by_cases hlt : j < n
          · have hltI : (j : Int) < (n : Int) := by omega
            obtain ⟨y, hy⟩ : ∃ y, x.cs[j]? = some y := ⟨x.cs[j]'(by rw [← HN.out]; exact hlt), List.getElem?_eq_getElem _⟩
            by_cases hjk : j = k
            · have gne : ((j : Int) != (k : Int)) = false := by rw [hjk]; simp
              have HE := Lib.hid (show (x.cs.take (j + 1)).eraseIdx k = (x.cs.take j).eraseIdx k from by subst hjk; exact er_here hy)
              clear hown hqb hbw hy hjk
              go_wp2
              go_roundw
              case rel => exact ⟨j + 1, v, by go_num, by omega, by rw [HE.out]; exact HO.out, HQB.out, HB.out⟩
              case measure => simp [intOf]; omega
            · have gne : ((j : Int) != (k : Int)) = true := by rw [bne_iff_ne]; omega
              have HE := Lib.hid (er_other (k := k) hy hjk)
              have hlen : ((x.cs.take j).eraseIdx k).length ≤ 70 := by
                have h1 := erase_len (x.cs.take j) k
                rw [List.length_take] at h1
                omega
              obtain ⟨acc, hacc⟩ : ∃ a, a = (x.cs.take j).eraseIdx k := ⟨_, rfl⟩
              rw [← hacc] at HO HE hlen hown
              obtain ⟨Av, cv, ev, hav, _, hrv⟩ := own_rd hown
              subst ev
              obtain ⟨a, rfl, ha, c0, c1, c2, c3, c4, c5, c6⟩ := cl_at (HRC.out.below K4.out) hy
              obtain ⟨b0, -, -, -, -⟩ := pr_cells ((K4.out.block _ HLT.out).trans HBK.out)
              rw [← HA1.out, ← HN.out] at b0
              have e0 : wa.cell? ⟨v4.heap.size, 0, none⟩ = some (.slice Av acc.length cv) := cell_of_row _ _ 0 _ _ _ hqb
              have hjI : (0 : Int) ≤ (j : Int) := by omega
              have HC := Lib.hid (show ∀ u : World, Below v4.heap.size v4 u → u.cell? ⟨w.heap.size, 0, none⟩ = some (.slice (some a) n x.c1) ∧ u.cell? (a.add (j * 7)) = some (.string ⟨y.nm.toArray⟩) ∧ u.cell? ⟨(a.add (j * 7)).block, (a.add (j * 7)).off + 1, none⟩ = some (.string ⟨y.su.toArray⟩) ∧ u.cell? ⟨(a.add (j * 7)).block, (a.add (j * 7)).off + 2, none⟩ = some (.bool y.fc) ∧ u.cell? ⟨(a.add (j * 7)).block, (a.add (j * 7)).off + 3, none⟩ = some (.bool y.ab) ∧ u.cell? ⟨(a.add (j * 7)).block, (a.add (j * 7)).off + 4, none⟩ = some (.slice y.A1 y.is.length y.c1) ∧ u.cell? ⟨(a.add (j * 7)).block, (a.add (j * 7)).off + 5, none⟩ = some (.slice y.A2 y.fs.length y.c2) ∧ u.cell? ⟨(a.add (j * 7)).block, (a.add (j * 7)).off + 6, none⟩ = some (.slice y.A3 y.ms.length y.c3) from fun u hu => ⟨(hu.cell (p := ⟨w.heap.size, 0, none⟩) (World.block_lt_of_cell? _ _ b0)).trans b0, (hu.cell (p := (a.add (j * 7))) (World.block_lt_of_cell? _ _ c0)).trans c0, (hu.cell (p := ⟨(a.add (j * 7)).block, (a.add (j * 7)).off + 1, none⟩) (World.block_lt_of_cell? _ _ c1)).trans c1, (hu.cell (p := ⟨(a.add (j * 7)).block, (a.add (j * 7)).off + 2, none⟩) (World.block_lt_of_cell? _ _ c2)).trans c2, (hu.cell (p := ⟨(a.add (j * 7)).block, (a.add (j * 7)).off + 3, none⟩) (World.block_lt_of_cell? _ _ c3)).trans c3, (hu.cell (p := ⟨(a.add (j * 7)).block, (a.add (j * 7)).off + 4, none⟩) (World.block_lt_of_cell? _ _ c4)).trans c4, (hu.cell (p := ⟨(a.add (j * 7)).block, (a.add (j * 7)).off + 5, none⟩) (World.block_lt_of_cell? _ _ c5)).trans c5, (hu.cell (p := ⟨(a.add (j * 7)).block, (a.add (j * 7)).off + 6, none⟩) (World.block_lt_of_cell? _ _ c6)).trans c6⟩)
              obtain ⟨c0, c1, c2, c3, c4, c5, c6, c7⟩ := HC.out wa HB.out
              clear hown hqb hbw hy hjk hacc hav hrv ha b0
              go_wp2_with fail
              refine wp_region_held_drew (S := (fun w' => w'.cell? ⟨w.heap.size, 0, none⟩ = some (.slice (some a) n x.c1) ∧ w'.cell? (a.add (j * 7)) = some (.string ⟨y.nm.toArray⟩) ∧ w'.cell? ⟨(a.add (j * 7)).block, (a.add (j * 7)).off + 1, none⟩ = some (.string ⟨y.su.toArray⟩) ∧ w'.cell? ⟨(a.add (j * 7)).block, (a.add (j * 7)).off + 2, none⟩ = some (.bool y.fc) ∧ w'.cell? ⟨(a.add (j * 7)).block, (a.add (j * 7)).off + 3, none⟩ = some (.bool y.ab) ∧ w'.cell? ⟨(a.add (j * 7)).block, (a.add (j * 7)).off + 4, none⟩ = some (.slice y.A1 y.is.length y.c1) ∧ w'.cell? ⟨(a.add (j * 7)).block, (a.add (j * 7)).off + 5, none⟩ = some (.slice y.A2 y.fs.length y.c2) ∧ w'.cell? ⟨(a.add (j * 7)).block, (a.add (j * 7)).off + 6, none⟩ = some (.slice y.A3 y.ms.length y.c3))) (by kernel_rfl) ?_ (fun hHeld => ?_)
              · exact HC.out wa HB.out
              refine wpAnyH_take (i := 0) (v := ?v1) rfl (by kernel_rfl) (by kernel_rfl) (by kernel_rfl) (fun _ _ _ h => h) (Or.inl ⟨by kernel_rfl, ?y1⟩) (by assumption) ?r1
              case y1 => (intro w hSw; (try dsimp only at hSw); go_simp; (try with_reducible rfl))
              try simp only [Act.put, List.getElem_toArray, List.getElem_cons_succ, List.getElem_cons_zero, List.setIfInBounds_toArray, List.set_cons_zero, List.set_cons_succ]
              refine wpAnyH_take (i := 2) (v := ?v2) rfl (by kernel_rfl) (by kernel_rfl) (by kernel_rfl) (fun _ _ _ h => h) (Or.inl ⟨by kernel_rfl, ?y2⟩) (by assumption) ?r2
              case y2 => (intro w hSw; (try dsimp only at hSw); go_simp; (try with_reducible rfl))
              try simp only [Act.put, List.getElem_toArray, List.getElem_cons_succ, List.getElem_cons_zero, List.setIfInBounds_toArray, List.set_cons_zero, List.set_cons_succ]
              refine wpAnyH_take (i := 3) (v := ?v3) rfl (by kernel_rfl) (by kernel_rfl) (by kernel_rfl) (fun _ _ _ h => h) (Or.inl ⟨by kernel_rfl, ?y3⟩) (by assumption) ?r3
              case y3 => (intro w hSw; (try dsimp only at hSw); go_simp; (try with_reducible rfl))
              try simp only [Act.put, List.getElem_toArray, List.getElem_cons_succ, List.getElem_cons_zero, List.setIfInBounds_toArray, List.set_cons_zero, List.set_cons_succ]
              refine wpAnyH_take (i := 4) (v := ?v4) rfl (by kernel_rfl) (by kernel_rfl) (by kernel_rfl) (fun _ _ _ h => h) (Or.inl ⟨by kernel_rfl, ?y4⟩) (by assumption) ?r4
              case y4 => (intro w hSw; (try dsimp only at hSw); go_simp; (try with_reducible rfl))
              try simp only [Act.put, List.getElem_toArray, List.getElem_cons_succ, List.getElem_cons_zero, List.setIfInBounds_toArray, List.set_cons_zero, List.set_cons_succ]
              refine wpAnyH_take (i := 5) (v := ?v5) rfl (by kernel_rfl) (by kernel_rfl) (by kernel_rfl) (fun _ _ _ h => h) (Or.inl ⟨by kernel_rfl, ?y5⟩) (by assumption) ?r5
              case y5 => (intro w hSw; (try dsimp only at hSw); go_simp; (try with_reducible rfl))
              try simp only [Act.put, List.getElem_toArray, List.getElem_cons_succ, List.getElem_cons_zero, List.setIfInBounds_toArray, List.set_cons_zero, List.set_cons_succ]
              refine wpAnyH_take (i := 6) (v := ?v6) rfl (by kernel_rfl) (by kernel_rfl) (by kernel_rfl) (fun _ _ _ h => h) (Or.inl ⟨by kernel_rfl, ?y6⟩) (by assumption) ?r6
              case y6 => (intro w hSw; (try dsimp only at hSw); go_simp; (try with_reducible rfl))
              try simp only [Act.put, List.getElem_toArray, List.getElem_cons_succ, List.getElem_cons_zero, List.setIfInBounds_toArray, List.set_cons_zero, List.set_cons_succ]
              refine wpAnyH_ready (rs := [1, 7]) (by kernel_rfl) (by simp) (AllReadyH.cons rfl (fun K hK => ?_) (AllReadyH.cons rfl (fun K hK => ?_) AllReadyH.nil))
              · skip
                go_simp
                skip
                refine hK.out _ _ (HC.out _ (overD HB.out)) (fun hHeld => ?_)
                clear hK K
                try simp only [Act.put, List.getElem_toArray, List.getElem_cons_succ, List.getElem_cons_zero, List.setIfInBounds_toArray, List.set_cons_zero, List.set_cons_succ]
                refine wpAnyH_ready (rs := [7]) (by kernel_rfl) (by simp) (AllReadyH.cons rfl (fun K hK => ?_) AllReadyH.nil)
                go_simp
                have k7 : Below wa.heap.size wa (wa.alloc (.cells #[.string ⟨y.nm.toArray⟩, .string ⟨y.su.toArray⟩, .bool y.fc, .bool y.ab, .slice y.A1 y.is.length y.c1, .slice y.A2 y.fs.length y.c2, .slice y.A3 y.ms.length y.c3] 37)).drew := overD ((Below.refl _ _).alloc (Nat.le_refl _) _); have hnw : (wa.alloc (.cells #[.string ⟨y.nm.toArray⟩, .string ⟨y.su.toArray⟩, .bool y.fc, .bool y.ab, .slice y.A1 y.is.length y.c1, .slice y.A2 y.fs.length y.c2, .slice y.A3 y.ms.length y.c3] 37)).drew.heap[wa.heap.size]? = some (.cells #[.string ⟨y.nm.toArray⟩, .string ⟨y.su.toArray⟩, .bool y.fc, .bool y.ab, .slice y.A1 y.is.length y.c1, .slice y.A2 y.fs.length y.c2, .slice y.A3 y.ms.length y.c3] 37 (0, 0)) := heap_alloc_new wa _; have K7 := Lib.hid k7; have B7 := Lib.hid (HB.out.trans (k7.mono HB.out.size)); have HNW := Lib.hid hnw; clear k7 hnw
                refine hK.out _ _ (HC.out _ B7.out) (fun hHeld => ?_)
                clear hK K
                try simp only [Act.put, List.getElem_toArray, List.getElem_cons_succ, List.getElem_cons_zero, List.setIfInBounds_toArray, List.set_cons_zero, List.set_cons_succ]
                refine wpAnyH_ready (rs := [8]) (by kernel_rfl) (by simp) (AllReadyH.cons rfl (fun K hK => ?_) AllReadyH.nil)
                have ho7 : (wa.alloc (.cells #[.string ⟨y.nm.toArray⟩, .string ⟨y.su.toArray⟩, .bool y.fc, .bool y.ab, .slice y.A1 y.is.length y.c1, .slice y.A2 y.fs.length y.c2, .slice y.A3 y.ms.length y.c3] 37)).drew.ownsRow (v4.heap.size + 1) 37 7 (.slice Av acc.length cv) acc.length (acc.flatMap clC) := own_below HO.out K7.out
                have hq7 := (K7.out.block _ (blk_lt HQB.out)).trans HQB.out
                refine step_app _ (by rfl) (.tmp 44) (.tmp 50) _ (by rfl) (v4.heap.size + 1) 37 i1 _ 7 112 Tryz.underlying22 hj0 hy0 hy1 hy2 rfl (by omega) _ acc.length (acc.flatMap clC) (by rfl) (by exact ho7) _ 1 1 (clC y) (by rfl) (by rfl) (rd_blk HNW.out (k := 7) rfl) (by simp [clC, Value.oneCell']) (by simp only [maxLen]; omega) (by omega) (by have h8 := blk_lt HQB.out; have h9 := K7.out.size; omega) ?_
                intro v5 w5 hown5 hg5 hb5 hat5
                clear hat5
                have hq5 := row_apart hq7 (by decide) ho7 hg5
                have hoo : w5.ownsRow (v4.heap.size + 1) 37 7 v5 (acc ++ [y]).length ((acc ++ [y]).flatMap clC) := own_flat rfl hown5
                obtain ⟨m5, hm5⟩ : ∃ m, m = (acc ++ [y]).length := ⟨_, rfl⟩
                rw [← hm5] at hoo
                have HM5 := Lib.hid hm5
                obtain ⟨A9, c9, e9, -, -, -⟩ := own_rd hoo
                subst e9
                have g0 : w5.cell? ⟨v4.heap.size, 0, none⟩ = some (.slice Av acc.length cv) := cell_of_row _ _ 0 _ _ _ hq5
                have gf0 := frozen_of_row _ _ 0 _ _ hq5
                have b5 : Below v4.heap.size v4 w5 := B7.out.grown hg5 B7.out.size (fun j hj => by have := (ho7.lt j hj).1; omega)
                have HB5 := Lib.hid b5
                have HO8 := Lib.hid (own_gb hoo (Nat.lt_succ_self v4.heap.size) (gb_set w5 v4.heap.size 0 (.slice A9 m5 c9)))
                have HQ8 := Lib.hid (show (w5.setCell ⟨v4.heap.size, 0, none⟩ (.slice A9 m5 c9)).heap[v4.heap.size]? = some (.cells #[.slice A9 m5 c9, .slice x.A2 x.ns.length x.c2, .string ⟨x.ec.toArray⟩, .string ⟨x.en.toArray⟩, .string ⟨x.ed.toArray⟩] 27 (0, 0)) from heap_setCell_same w5 v4.heap.size 0 _ _ (.slice A9 m5 c9) hq5)
                have HB8 := Lib.hid (b5.setCell (p := ⟨v4.heap.size, 0, none⟩) (Nat.le_refl _) (.slice A9 m5 c9))
                clear ho7 hq7 hown5 hg5 hb5 hq5 hoo b5 hm5
                refine hK.out _ _ (HC.out _ HB5.out) (fun hHeld => ?_)
                clear hK K
                try simp only [Act.put, List.getElem_toArray, List.getElem_cons_succ, List.getElem_cons_zero, List.setIfInBounds_toArray, List.set_cons_zero, List.set_cons_succ]
                refine wpAnyH_take (i := 9) (v := ?v7) rfl (by kernel_rfl) (by kernel_rfl) (by kernel_rfl) (fun _ _ _ h => h) (Or.inl ⟨by kernel_rfl, ?y7⟩) (by assumption) ?r7
                case y7 => (intro w hSw; (try dsimp only at hSw); go_simp; (try with_reducible rfl))
                try simp only [Act.put, List.getElem_toArray, List.getElem_cons_succ, List.getElem_cons_zero, List.setIfInBounds_toArray, List.set_cons_zero, List.set_cons_succ]
                refine wpAnyH_ready (rs := [10]) (by kernel_rfl) (by simp) (AllReadyH.cons rfl (fun K hK => ?_) AllReadyH.nil)
                go_simp
                skip
                refine hK.out _ _ (HC.out _ HB8.out) (fun hHeld => ?_)
                clear hK K
                try simp only [Act.put, List.getElem_toArray, List.getElem_cons_succ, List.getElem_cons_zero, List.setIfInBounds_toArray, List.set_cons_zero, List.set_cons_succ]
                refine wpAnyH_done (by kernel_rfl) ?_ _
                go_wp2
                go_roundw
                case rel => exact ⟨j + 1, _, by go_num, by omega, by rw [HE.out, ← HM5.out]; exact HO8.out, HQ8.out, HB8.out⟩
                case measure => simp [intOf]; omega
              · skip
                go_simp
                have k7 : Below wa.heap.size wa (wa.alloc (.cells #[.string ⟨y.nm.toArray⟩, .string ⟨y.su.toArray⟩, .bool y.fc, .bool y.ab, .slice y.A1 y.is.length y.c1, .slice y.A2 y.fs.length y.c2, .slice y.A3 y.ms.length y.c3] 37)).drew := overD ((Below.refl _ _).alloc (Nat.le_refl _) _); have hnw : (wa.alloc (.cells #[.string ⟨y.nm.toArray⟩, .string ⟨y.su.toArray⟩, .bool y.fc, .bool y.ab, .slice y.A1 y.is.length y.c1, .slice y.A2 y.fs.length y.c2, .slice y.A3 y.ms.length y.c3] 37)).drew.heap[wa.heap.size]? = some (.cells #[.string ⟨y.nm.toArray⟩, .string ⟨y.su.toArray⟩, .bool y.fc, .bool y.ab, .slice y.A1 y.is.length y.c1, .slice y.A2 y.fs.length y.c2, .slice y.A3 y.ms.length y.c3] 37 (0, 0)) := heap_alloc_new wa _; have K7 := Lib.hid k7; have B7 := Lib.hid (HB.out.trans (k7.mono HB.out.size)); have HNW := Lib.hid hnw; clear k7 hnw
                refine hK.out _ _ (HC.out _ B7.out) (fun hHeld => ?_)
                clear hK K
                try simp only [Act.put, List.getElem_toArray, List.getElem_cons_succ, List.getElem_cons_zero, List.setIfInBounds_toArray, List.set_cons_zero, List.set_cons_succ]
                have e7 : (wa.alloc (.cells #[.string ⟨y.nm.toArray⟩, .string ⟨y.su.toArray⟩, .bool y.fc, .bool y.ab, .slice y.A1 y.is.length y.c1, .slice y.A2 y.fs.length y.c2, .slice y.A3 y.ms.length y.c3] 37)).drew.cell? ⟨v4.heap.size, 0, none⟩ = some (.slice Av acc.length cv) := cell_of_row _ _ 0 _ _ _ ((K7.out.block _ (blk_lt HQB.out)).trans HQB.out)
                refine wpAnyH_ready (rs := [1]) (by kernel_rfl) (by simp) (AllReadyH.cons rfl (fun K hK => ?_) AllReadyH.nil)
                go_simp
                skip
                refine hK.out _ _ (HC.out _ B7.out) (fun hHeld => ?_)
                clear hK K
                try simp only [Act.put, List.getElem_toArray, List.getElem_cons_succ, List.getElem_cons_zero, List.setIfInBounds_toArray, List.set_cons_zero, List.set_cons_succ]
                refine wpAnyH_ready (rs := [8]) (by kernel_rfl) (by simp) (AllReadyH.cons rfl (fun K hK => ?_) AllReadyH.nil)
                have ho7 : (wa.alloc (.cells #[.string ⟨y.nm.toArray⟩, .string ⟨y.su.toArray⟩, .bool y.fc, .bool y.ab, .slice y.A1 y.is.length y.c1, .slice y.A2 y.fs.length y.c2, .slice y.A3 y.ms.length y.c3] 37)).drew.ownsRow (v4.heap.size + 1) 37 7 (.slice Av acc.length cv) acc.length (acc.flatMap clC) := own_below HO.out K7.out
                have hq7 := (K7.out.block _ (blk_lt HQB.out)).trans HQB.out
                refine step_app _ (by rfl) (.tmp 44) (.tmp 50) _ (by rfl) (v4.heap.size + 1) 37 i1 _ 7 112 Tryz.underlying22 hj0 hy0 hy1 hy2 rfl (by omega) _ acc.length (acc.flatMap clC) (by rfl) (by exact ho7) _ 1 1 (clC y) (by rfl) (by rfl) (rd_blk HNW.out (k := 7) rfl) (by simp [clC, Value.oneCell']) (by simp only [maxLen]; omega) (by omega) (by have h8 := blk_lt HQB.out; have h9 := K7.out.size; omega) ?_
                intro v5 w5 hown5 hg5 hb5 hat5
                clear hat5
                have hq5 := row_apart hq7 (by decide) ho7 hg5
                have hoo : w5.ownsRow (v4.heap.size + 1) 37 7 v5 (acc ++ [y]).length ((acc ++ [y]).flatMap clC) := own_flat rfl hown5
                obtain ⟨m5, hm5⟩ : ∃ m, m = (acc ++ [y]).length := ⟨_, rfl⟩
                rw [← hm5] at hoo
                have HM5 := Lib.hid hm5
                obtain ⟨A9, c9, e9, -, -, -⟩ := own_rd hoo
                subst e9
                have g0 : w5.cell? ⟨v4.heap.size, 0, none⟩ = some (.slice Av acc.length cv) := cell_of_row _ _ 0 _ _ _ hq5
                have gf0 := frozen_of_row _ _ 0 _ _ hq5
                have b5 : Below v4.heap.size v4 w5 := B7.out.grown hg5 B7.out.size (fun j hj => by have := (ho7.lt j hj).1; omega)
                have HB5 := Lib.hid b5
                have HO8 := Lib.hid (own_gb hoo (Nat.lt_succ_self v4.heap.size) (gb_set w5 v4.heap.size 0 (.slice A9 m5 c9)))
                have HQ8 := Lib.hid (show (w5.setCell ⟨v4.heap.size, 0, none⟩ (.slice A9 m5 c9)).heap[v4.heap.size]? = some (.cells #[.slice A9 m5 c9, .slice x.A2 x.ns.length x.c2, .string ⟨x.ec.toArray⟩, .string ⟨x.en.toArray⟩, .string ⟨x.ed.toArray⟩] 27 (0, 0)) from heap_setCell_same w5 v4.heap.size 0 _ _ (.slice A9 m5 c9) hq5)
                have HB8 := Lib.hid (b5.setCell (p := ⟨v4.heap.size, 0, none⟩) (Nat.le_refl _) (.slice A9 m5 c9))
                clear ho7 hq7 hown5 hg5 hb5 hq5 hoo b5 hm5
                refine hK.out _ _ (HC.out _ HB5.out) (fun hHeld => ?_)
                clear hK K
                try simp only [Act.put, List.getElem_toArray, List.getElem_cons_succ, List.getElem_cons_zero, List.setIfInBounds_toArray, List.set_cons_zero, List.set_cons_succ]
                refine wpAnyH_take (i := 9) (v := ?v8) rfl (by kernel_rfl) (by kernel_rfl) (by kernel_rfl) (fun _ _ _ h => h) (Or.inl ⟨by kernel_rfl, ?y8⟩) (by assumption) ?r8
                case y8 => (intro w hSw; (try dsimp only at hSw); go_simp; (try with_reducible rfl))
                try simp only [Act.put, List.getElem_toArray, List.getElem_cons_succ, List.getElem_cons_zero, List.setIfInBounds_toArray, List.set_cons_zero, List.set_cons_succ]
                refine wpAnyH_ready (rs := [10]) (by kernel_rfl) (by simp) (AllReadyH.cons rfl (fun K hK => ?_) AllReadyH.nil)
                go_simp
                skip
                refine hK.out _ _ (HC.out _ HB8.out) (fun hHeld => ?_)
                clear hK K
                try simp only [Act.put, List.getElem_toArray, List.getElem_cons_succ, List.getElem_cons_zero, List.setIfInBounds_toArray, List.set_cons_zero, List.set_cons_succ]
                refine wpAnyH_done (by kernel_rfl) ?_ _
                go_wp2
                go_roundw
                case rel => exact ⟨j + 1, _, by go_num, by omega, by rw [HE.out, ← HM5.out]; exact HO8.out, HQ8.out, HB8.out⟩
                case measure => simp [intOf]; omega
          · have hltI : ¬ (j : Int) < (n : Int) := by omega
            have ho := HO.out
            rw [List.take_of_length_le (by rw [← HN.out]; omega)] at ho
            obtain ⟨l, hl⟩ : ∃ l, l = x.cs.eraseIdx k := ⟨_, rfl⟩
            rw [← hl] at ho
            obtain ⟨Av, cv, ev, hav, _, hrv⟩ := own_rd ho
            subst ev
            have HL := Lib.hid hl
            have hmem : ∀ c ∈ l, c ∈ x.cs := fun c hc => by rw [hl] at hc; exact List.mem_of_mem_eraseIdx hc
            have K6 := Lib.hid (K4.out.trans (hbw.mono K4.out.size))
            have okq : PrOk wa ⟨l, Av, cv, x.ns, x.A2, x.c2, x.ec, x.en, x.ed⟩ := ⟨⟨hav, hrv⟩, (HKW.out.below K6.out).2.1, fun c hc => (HKW.out.below K6.out).2.2 c (hmem c hc)⟩
            have bdq : PrBd ⟨l, Av, cv, x.ns, x.A2, x.c2, x.ec, x.en, x.ed⟩ := ⟨⟨by have := erase_len x.cs k; rw [← hl] at this; exact Nat.le_trans this HBD.out.1.1, fun c hc => HBD.out.1.2 c (hmem c hc)⟩, HBD.out.2⟩
            have ftq : PrFit ⟨l, Av, cv, x.ns, x.A2, x.c2, x.ec, x.en, x.ed⟩ := fun c hc => HGP.out.fit c (hmem c hc)
            have HRQ := Lib.hid (fun u (hu : Below wa.heap.size wa u) => right_w ⟨l, Av, cv, x.ns, x.A2, x.c2, x.ec, x.en, x.ed⟩ u ((HTW.out.below K6.out).below hu) (okq.below hu) bdq ftq)
            rw [HQZ.out ⟨l, Av, cv, x.ns, x.A2, x.c2, x.ec, x.en, x.ed⟩ k hl rfl rfl rfl rfl] at HRQ
            unfold prC at HRQ
            dsimp only at HRQ
            clear hown hqb hbw ho hl hav hrv hmem okq bdq ftq
            go_wp2_with fail
            refine (HLV.out _ (HTW.out.below K6.out)).mono ?_
            rintro e v6 ⟨rfl, hb6⟩
            have hq6 := (hb6.block _ (blk_lt HQB.out)).trans HQB.out
            have f0 : v6.cell? ⟨v4.heap.size, 0, none⟩ = some (.slice Av l.length cv) := cell_of_row _ _ 0 _ _ _ hq6
            have f1 : v6.cell? ⟨v4.heap.size, 1, none⟩ = some (.slice x.A2 x.ns.length x.c2) := cell_of_row _ _ 1 _ _ _ hq6
            have f2 : v6.cell? ⟨v4.heap.size, 2, none⟩ = some (.string ⟨x.ec.toArray⟩) := cell_of_row _ _ 2 _ _ _ hq6
            have f3 : v6.cell? ⟨v4.heap.size, 3, none⟩ = some (.string ⟨x.en.toArray⟩) := cell_of_row _ _ 3 _ _ _ hq6
            have f4 : v6.cell? ⟨v4.heap.size, 4, none⟩ = some (.string ⟨x.ed.toArray⟩) := cell_of_row _ _ 4 _ _ _ hq6
            have HB6 := Lib.hid hb6
            clear hb6 hq6
            go_wp2_with fail
            refine (HRQ.out _ HB6.out).mono ?_
            rintro e v7 ⟨rfl, hb7⟩
            have K7 := Lib.hid (K6.out.trans ((HB6.out.trans (hb7.mono HB6.out.size)).mono K6.out.size))
            clear hb7
            go_wp2
            go_ret
            exact ⟨rfl, HAL.out.trans (K7.out.mono HAL.out.size)⟩
    · have gz : (rightE x != 0) = true := by rw [bne_iff_ne]; exact hz
      clear hz
      generalize rightE x = rr at *
      go_wp2_with fail
      refine (HLV.out _ (HTW.out.below K4.out)).mono ?_
      rintro e v5 ⟨rfl, hb5⟩
      have K5 := Lib.hid (then' K4.out hb5)
      clear hb5
      go_wp2
      go_ret
      exact ⟨rfl, HAL.out.trans (K5.out.mono HAL.out.size)⟩
end Go.Proofs.YtodnfahffkggiaaGreatDoor.normFewer

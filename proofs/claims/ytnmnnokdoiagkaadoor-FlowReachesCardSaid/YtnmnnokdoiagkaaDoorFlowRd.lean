/-
 Layer 14: by how few steps places are reached, which are not, where rows begin: the document's answers.
-/
import Derived.Test.YtnmnnokdoiagkaaDoorFlowR
namespace Go.Proofs.YtnmnnokdoiagkaaDoor.flow
open Go.RowKit Go.Shelf
open words kindp opp op prg flowp kind

theorem row_set {W : World} {g k t : Nat} {cs : List Value} {u : Value} (h : W.heap[g]? = some (.cells cs.toArray t (0, 0))) : (W.setCell ⟨g, k, none⟩ u).heap[g]? = some (.cells (cs.set k u).toArray t (0, 0)) := by
 rw [heap_setCell_same W g k _ _ _ h, List.setIfInBounds_toArray]
theorem below_set {b g k : Nat} {w W : World} {u : Value} (h : Below b w W) (hb : b ≤ w.heap.size) (hg : b ≤ g) : Below b w (W.setCell ⟨g, k, none⟩ u) := by
 have hgr : W.grownBy (W.setCell ⟨g, k, none⟩ u) (some g) := ⟨rfl, rfl, rfl, by simp, fun j _ hj => heap_setCell_other W ⟨g, k, none⟩ j u (fun e => hj (by simp [e]))⟩
 exact h.grown hgr (Nat.le_trans hb h.size) (fun j e => by cases e; exact hg)
theorem own_set {W : World} {base e size n g k : Nat} {v : Value} {xs : List Value} {u : Value} (h : W.ownsRow base e size v n xs) (hg : g < base) : (W.setCell ⟨g, k, none⟩ u).ownsRow base e size v n xs := by
 refine ⟨h.1, ?_⟩
 rcases h.2 with h0 | ⟨g', cap, cur, rfl, hb, hc, rest⟩
 ·exact .inl h0
 ·exact .inr ⟨g', cap, cur, rfl, hb, (heap_setCell_other W ⟨g, k, none⟩ g' u (fun e => by have : g' = g := e; omega)).trans hc, rest⟩
theorem rowM_set {n k : Nat} (h : k < n) : (rowM n k).set k (.int .i64 (-1)) = rowM n (k + 1) := by
 unfold rowM
 rw [List.set_append_right _ _ (by simp), List.length_replicate, Nat.sub_self, show n - k = (n - (k + 1)) + 1 by omega, List.replicate_succ, List.set_cons_zero, List.replicate_succ', List.append_assoc]
 rfl
theorem rowM_at0 {n k : Nat} (h : k < n) : (rowM n k)[k]? = some (.int .i64 0) := by
 unfold rowM
 rw [List.getElem?_append_right (by simp), List.length_replicate, Nat.sub_self, List.getElem?_replicate, if_pos (by omega)]
theorem make_ints (n : Nat) (hn : n ≤ 1000) (w : World) : (Instr.makeSlice 29 (.int .i64 (n : Int)) (.int .i64 (n : Int))).run Tryd.prog w = .ok (.slice (some ⟨w.heap.size, 0, none⟩) n n) (w.alloc (.cells (rowM n 0).toArray 3)) := by
 obtain ⟨i0, hi, hz0, hz1, hz2⟩ := info_parts infoI
 have h := run_make (P := Tryd.prog) w 29 3 i0 (.int .i64 0) Tryd.underlying29 hi hz0 .i64 .i64 (n : Int) (n : Int) (by omega) (Int.le_refl _) (by rw [hz2]; omega) (by omega)
 rw [Int.toNat_natCast, hz1, Nat.mul_one] at h
 rw [h]
 congr 3
 unfold madeCells rowM
 apply Array.ext'
 simp only [Value.cells, Array.toList_map, Array.toList_range, List.size_toArray, List.length_cons, List.length_nil, Nat.zero_add, Nat.mod_one, Nat.sub_zero, List.replicate_zero, List.nil_append]
 exact (List.map_const' (l := List.range n) (b := Value.int .i64 0)).trans (by rw [List.length_range])

/-- whether a row begins at i, as far as the first k places tell -/
def begU (l : List In) (i k : Nat) : Bool := decide (i = 0 ∨ ∃ j ∈ List.range k, ∃ x ∈ l[j]?, ((targetL x).2 = true ∧ (targetL x).1 = (i : Int)) ∨ (j + 1 = i ∧ ((targetL x).2 = true ∨ fallsB x.o = false)))
theorem begU_zero (l : List In) (i : Nat) : begU l i 0 = ((i : Int) == 0) := by
 unfold begU
 by_cases h : i = 0
 ·subst h; rfl
 ·rw [beq_eq_false_iff_ne.2 (by omega)]
  exact decide_eq_false (by rintro (h1 | ⟨j, hj, -⟩); exact h h1; simp at hj)
theorem begU_succ {l : List In} {i k : Nat} {x : In} (hx : l[k]? = some x) : begU l i (k + 1) = (begU l i k || decide (((targetL x).2 = true ∧ (targetL x).1 = (i : Int)) ∨ (k + 1 = i ∧ ((targetL x).2 = true ∨ fallsB x.o = false)))) := by
 unfold begU
 rw [Bool.eq_iff_iff, Bool.or_eq_true, decide_eq_true_iff, decide_eq_true_iff, decide_eq_true_iff]
 constructor
 ·rintro (h | ⟨j, hj, y, hy, h⟩)
  ·exact .inl (.inl h)
  ·rw [List.mem_range] at hj
   rcases Nat.lt_or_ge j k with hl | hl
   ·exact .inl (.inr ⟨j, List.mem_range.2 hl, y, hy, h⟩)
   ·obtain rfl : j = k := by omega
    rw [hx] at hy
    cases hy
    exact .inr h
 ·rintro ((h | ⟨j, hj, y, hy, h⟩) | h)
  ·exact .inl h
  ·exact .inr ⟨j, List.mem_range.2 (by rw [List.mem_range] at hj; omega), y, hy, h⟩
  ·exact .inr ⟨k, List.mem_range.2 (by omega), x, hx, h⟩

set_option maxRecDepth 100000 in
set_option maxHeartbeats 8000000 in
theorem dist_r (A : Option Addr) (c : Nat) (L : List InM) (w : World) (hz : L.length ≤ 1000) (hr : Rd w A (L.flatMap inC)) :
  Calls Tryd.prog 18 #[.slice A L.length c] w (DistP (L.map (·.i)) w) := by
 obtain ⟨n, hn⟩ : ∃ n, n = L.length := ⟨_, rfl⟩
 have hnI : (n : Int) ≤ 1000 := by omega
 have hmk := make_ints n (by omega)
 obtain ⟨l, hl⟩ : ∃ l, l = L.map (·.i) := ⟨_, rfl⟩
 have HLL := Lib.hid (show l.length = n from by rw [hl, List.length_map, ← hn])
 have HNX := Lib.hid (fun k w h => next_ro A c L k w hz h)
 unfold NwO at HNX
 rw [← hn, ← hl] at HNX ⊢
 have HR := Lib.hid hr
 have hb1 : Below w.heap.size w (w.alloc (.cells (rowM n 0).toArray 3)) := (Below.refl _ w).alloc (Nat.le_refl _) _
 have HB1 := Lib.hid hb1; have HG1 := Lib.hid (heap_alloc_new w (.cells (rowM n 0).toArray 3))
 clear hz hr hn hl hb1
 go_enter Tryd.func18, Tryd.ntmps18
 go_wp2
 obtain ⟨g, hg⟩ : ∃ g, g = w.heap.size := ⟨_, rfl⟩
 have HGG := Lib.hid hg
 rw [← hg] at HG1 HB1 ⊢
 clear hmk hg
 go_loopw [4] (fun i wr => ∃ k : Nat, k ≤ n ∧ i = .int .i64 (k : Int) ∧ wr.heap[g]? = some (.cells (rowM n k).toArray 3 (0, 0)) ∧ Below g w wr) (fun i _ => n - (intOf i).toNat)
 case atStart => exact ⟨0, Nat.zero_le _, rfl, HG1.out, HB1.out⟩
 case round =>
  obtain ⟨k, hk, rfl, hg, hb⟩ := hrel
  by_cases hlt : k < n
  ·have hltI : (k : Int) < (n : Int) := by omega
   have ck : wr.cell? ⟨g, k, none⟩ = some (.int .i64 0) := cell_of_row _ _ _ _ _ _ hg |>.trans (by rw [List.getElem?_toArray]; exact rowM_at0 hlt)
   have fk : wr.frozen? ⟨g, k, none⟩ = false := frozen_of_row _ g k _ _ hg
   have HS := Lib.hid (row_set (k := k) (u := .int .i64 (-1)) hg)
   rw [rowM_set hlt] at HS
   have HSB := Lib.hid (below_set (k := k) (u := .int .i64 (-1)) hb (by rw [HGG.out]; exact Nat.le_refl _) (Nat.le_refl g))
   clear hg hb
   go_wp2
   go_roundw
   case rel => exact ⟨k + 1, by omega, by go_num, HS.out, HSB.out⟩
   case measure => simp [intOf]; omega
  have hltI : ¬ (k : Int) < (n : Int) := by omega
  obtain rfl : n = k := by omega
  rw [rowM_full] at hg
  have HG2 := Lib.hid hg; have HB2 := Lib.hid hb
  clear hg hb
  by_cases h0 : 0 < n
  case neg =>
   have h0I : ¬ (0 : Int) < (n : Int) := by omega
   have h0d : decide ((0 : Int) < (n : Int)) = false := decide_eq_false h0I
   have h0e : decide (0 < n) = false := decide_eq_false h0
   obtain rfl : l = [] := List.eq_nil_of_length_eq_zero (by rw [HLL.out]; omega)
   have hn0 : n = 0 := by omega
   have HQ := Lib.hid (show wr.heap[g]? = some (.cells (IL []).toArray 3 (0, 0)) from by have := HG2.out; rw [hn0] at this; exact this)
   go_wp2
   go_loopw [5] (fun i W => i = .int .i64 0 ∧ W = wr) (fun _ _ => 0)
   case atStart => exact ⟨rfl, rfl⟩
   case round =>
    obtain ⟨rfl, rfl⟩ := hrel
    go_wp2
    go_ret
    exact ⟨[], some ⟨g, 0, none⟩, n, dist_nil, by rw [hn0]; rfl, .inl rfl, by rw [← HGG.out]; exact HB2.out⟩
  case pos =>
   have h0I : (0 : Int) < (n : Int) := by omega
   have h0d : decide ((0 : Int) < (n : Int)) = true := decide_eq_true h0I
   have h0e : decide (0 < n) = true := decide_eq_true h0
   have c0 : wr.cell? ⟨g, 0, none⟩ = some (.int .i64 (-1)) := cell_of_row _ _ _ _ _ _ HG2.out |>.trans (by rw [List.getElem?_toArray]; simp [IL, List.getElem?_replicate]; omega)
   have f0 : wr.frozen? ⟨g, 0, none⟩ = false := frozen_of_row _ g 0 _ _ HG2.out
   have HS := Lib.hid (row_set (k := 0) (u := .int .i64 0) HG2.out)
   rw [IL_set] at HS
   have HSB := Lib.hid (below_set (k := 0) (u := .int .i64 0) HB2.out (by rw [HGG.out]; exact Nat.le_refl _) (Nat.le_refl g))
   have HST := Lib.hid (LInv.start l)
   rw [HLL.out] at HST
   go_wp2
   go_loopw [5] (fun i W => ∃ (d : Nat) (D : List Int), d ≤ n ∧ i = .int .i64 (d : Int) ∧ LInv l D d 0 [] ∧ W.heap[g]? = some (.cells (IL D).toArray 3 (0, 0)) ∧ Below g w W) (fun i _ => n - (intOf i).toNat)
   case atStart => exact ⟨0, _, Nat.zero_le _, rfl, HST.out, HS.out, HSB.out⟩
   case round =>
    clear c0 f0 HS HSB HST HG2 HB2
    obtain ⟨d, D, hd, rfl, hI, hg, hb⟩ := hrel
    have HI := Lib.hid hI; have HG := Lib.hid hg; have HB := Lib.hid hb
    clear hI hg hb
    by_cases hltd : d < n
    case neg =>
     have hltdI : ¬ (d : Int) < (n : Int) := by omega
     obtain rfl : n = d := by omega
     have HOK := Lib.hid (LInv.end_ (l := l) (D := D) (by rw [HLL.out]; exact HI.out))
     go_wp2
     go_ret
     exact ⟨D, some ⟨g, 0, none⟩, n, HOK.out, by rw [HLL.out]; rfl, rd_blk (k := n) HG.out (List.take_of_length_le (by have := HOK.out.len; rw [HLL.out] at this; simp [IL]; omega)), by rw [← HGG.out]; exact HB.out⟩
    case pos =>
     have hltdI : (d : Int) < (n : Int) := by omega
     go_wp2
     go_loopw [6] (fun i W => ∃ (p : Nat) (D : List Int), p ≤ n ∧ i = .int .i64 (p : Int) ∧ LInv l D d p [] ∧ W.heap[g]? = some (.cells (IL D).toArray 3 (0, 0)) ∧ Below g w W) (fun i _ => n - (intOf i).toNat)
     case atStart => exact ⟨0, D, Nat.zero_le _, rfl, HI.out, HG.out, HB.out⟩
     case round =>
      clear HI HG HB D
      obtain ⟨p, D, hp, rfl, hI, hg, hb⟩ := hrel
      have HI := Lib.hid hI; have HG := Lib.hid hg; have HB := Lib.hid hb
      clear hI hg hb
      by_cases hltp : p < n
      case neg =>
       have hltpI : ¬ (p : Int) < (n : Int) := by omega
       have hpn : p = n := by omega
       have HU := Lib.hid (LInv.up (l := l) (D := D) (d := d) (by rw [HLL.out, ← hpn]; exact HI.out))
       go_wp2
       go_roundw
       case rel => exact ⟨d + 1, D, by omega, by go_num, HU.out, HG.out, HB.out⟩
       case measure => simp [intOf]; omega
      case pos =>
       have hltpI : (p : Int) < (n : Int) := by omega
       have hDl := HI.out.len
       rw [HLL.out] at hDl
       obtain ⟨e, he⟩ : ∃ e, e = dl D p := ⟨_, rfl⟩
       have cp : wr.cell? ⟨g, p, none⟩ = some (.int .i64 e) := cell_of_row _ _ _ _ _ _ HG.out |>.trans (by rw [List.getElem?_toArray, he]; exact IL_at (dl_get (by omega)))
       by_cases hed : e = (d : Int)
       case neg =>
        have heb : (e != (d : Int)) = true := by simpa using hed
        have HU := Lib.hid (HI.out.skip (by rw [← he]; exact hed))
        clear he
        go_wp2
        go_roundw
        case rel => exact ⟨p + 1, D, by omega, by go_num, HU.out, HG.out, HB.out⟩
        case measure => simp [intOf]; omega
       case pos =>
        have heb : (e != (d : Int)) = false := by rw [hed]; simp
        have HED := Lib.hid (show dl D p = (d : Int) from by rw [← he]; exact hed)
        have HN1 := Lib.hid (HNX.out (p : Int) wr (HR.out.below (by rw [← HGG.out]; exact HB.out)))
        obtain ⟨X, hX⟩ : ∃ X, X = nextL l (p : Int) := ⟨_, rfl⟩
        have hXl : (X.length : Int) ≤ 2 := by
         rw [hX]
         have h1 := onL_len l (p : Int)
         have h2 := ordL_len (onL l (p : Int))
         unfold nextL
         omega
        have HXX := Lib.hid hX
        have HON := Lib.hid (fun j x (h : X[j]? = some x) => show x ∈ onL l (p : Int) ∧ 0 ≤ x ∧ x < (n : Int) from by
         rw [hX] at h
         have hm := nextL_mem.1 (List.mem_of_getElem? h)
         have hi := onL_in hm
         rw [HLL.out] at hi
         exact ⟨hm, hi.1, hi.2.1⟩)
        rw [← hX] at HN1
        clear he hed hX
        go_wp2_with fail
        refine HN1.out.mono ?_
        rintro ev w1 ⟨A1, c1, rfl, o1, b1⟩
        have HO1 := Lib.hid o1
        obtain ⟨b0, hb0⟩ : ∃ b0, b0 = wr.heap.size := ⟨_, rfl⟩
        have HBG := Lib.hid (show g < b0 from by rw [hb0]; exact blk_lt HG.out)
        have HG1' := Lib.hid ((b1.block g (blk_lt HG.out)).trans HG.out)
        have HB1' := Lib.hid (HB.out.trans (b1.mono (Nat.le_of_lt (blk_lt HG.out))))
        rw [← hb0] at HO1
        clear o1 b1 HN1 cp hb0
        go_wp2
        go_loopw [8] (fun i W => ∃ (j : Nat) (D : List Int), j ≤ X.length ∧ i = .int .i64 (j : Int) ∧ LInv l D d p (X.take j) ∧ dl D p = (d : Int) ∧ W.heap[g]? = some (.cells (IL D).toArray 3 (0, 0)) ∧ Below g w W ∧ W.ownsRow b0 3 1 (.slice A1 X.length c1) X.length (IL X)) (fun i _ => X.length - (intOf i).toNat)
        case atStart => exact ⟨0, D, Nat.zero_le _, rfl, HI.out, HED.out, HG1'.out, HB1'.out, HO1.out⟩
        case round =>
         clear HI HG HB HG1' HB1' HO1 HED D hDl
         obtain ⟨j, D, hj, rfl, hI, hdp, hg, hb, ho⟩ := hrel
         have HI := Lib.hid hI; have HG := Lib.hid hg; have HB := Lib.hid hb; have HO := Lib.hid ho; have HED := Lib.hid hdp
         clear hI hg hb hdp
         by_cases hltj : j < X.length
         case neg =>
          have hltjI : ¬ (j : Int) < (X.length : Int) := by omega
          have HU := Lib.hid (LInv.step (l := l) (D := D) (d := d) (i := p) (by rw [← HXX.out]; have := HI.out; rw [List.take_of_length_le (by omega)] at this; exact this) HED.out)
          clear ho
          go_wp2
          go_roundw
          case rel => exact ⟨p + 1, D, by omega, by go_num, HU.out, HG.out, HB.out⟩
          case measure => simp [intOf]; omega
         case pos =>
          have hltjI : (j : Int) < (X.length : Int) := by omega
          obtain ⟨x, hx⟩ : ∃ x, X[j]? = some x := ⟨X[j], List.getElem?_eq_getElem hltj⟩
          obtain ⟨hon, x0, x1⟩ := HON.out j x hx
          have htk : X.take (j + 1) = X.take j ++ [x] := by rw [List.take_add_one, hx]; rfl
          obtain ⟨t, rfl⟩ : ∃ t : Nat, x = (t : Int) := ⟨x.toNat, by omega⟩
          obtain ⟨A9, c9, e9, -, -, hr9⟩ := own_rd ho
          cases e9
          obtain ⟨a4, rfl, -, cx⟩ := hr9.at_ (IL_at hx)
          have hDl := HI.out.len
          rw [HLL.out] at hDl
          obtain ⟨e, he⟩ : ∃ e, e = dl D t := ⟨_, rfl⟩
          have ct : wr.cell? ⟨g, t, none⟩ = some (.int .i64 e) := cell_of_row _ _ _ _ _ _ HG.out |>.trans (by rw [List.getElem?_toArray, he]; exact IL_at (dl_get (by omega)))
          have ft : wr.frozen? ⟨g, t, none⟩ = false := frozen_of_row _ g t _ _ HG.out
          by_cases he1 : e = -1
          case neg =>
           have heb : (e == -1) = false := beq_eq_false_iff_ne.2 he1
           have HU := Lib.hid (HI.out.old (t := (t : Int)) (by rw [Int.toNat_natCast, ← he]; exact he1))
           rw [← htk] at HU
           clear he hon hx hr9 ho
           go_wp2
           go_roundw
           case rel => exact ⟨j + 1, D, by omega, by go_num, HU.out, HED.out, HG.out, HB.out, HO.out⟩
           case measure => simp [intOf]; omega
          case pos =>
           have heb : (e == -1) = true := by rw [he1]; rfl
           have HU := Lib.hid (HI.out.new (t := (t : Int)) HED.out (by rw [Int.toNat_natCast, ← he]; exact he1) hon)
           rw [← htk, Int.toNat_natCast] at HU
           have HD2 := Lib.hid (show dl (D.set t ((d : Int) + 1)) p = (d : Int) from by
            rw [dl_set _ (by omega), if_neg (fun h => by subst h; rw [HED.out] at he; omega)]
            exact HED.out)
           have HS := Lib.hid (row_set (k := t) (u := .int .i64 ((d : Int) + 1)) HG.out)
           rw [IL_set] at HS
           have HSB := Lib.hid (below_set (k := t) (u := .int .i64 ((d : Int) + 1)) HB.out (by rw [HGG.out]; exact Nat.le_refl _) (Nat.le_refl g))
           have HSO := Lib.hid (own_set (k := t) (u := .int .i64 ((d : Int) + 1)) HO.out HBG.out)
           have hwr : IntKind.i64.wrap ((d : Int) + 1) = (d : Int) + 1 := by rw [IntKind.wrap_i64]; omega
           clear he hon hx hr9 ho
           go_wp2
           go_roundw
           case rel => exact ⟨j + 1, _, by omega, by go_num, HU.out, HD2.out, HS.out, HSB.out, HSO.out⟩
           case measure => simp [intOf]; omega

set_option maxRecDepth 100000 in
set_option maxHeartbeats 400000 in
theorem dead_r (A : Option Addr) (c : Nat) (L : List InM) (w : World) (hz : L.length ≤ 1000) (hr : Rd w A (L.flatMap inC)) :
  Calls Tryd.prog 20 #[.slice A L.length c] w (DeadP (L.map (·.i)) w) := by
 obtain ⟨i0, hi0, hz0, hz1, hz2⟩ := info_parts infoI
 have HD := Lib.hid (dist_r A c L w hz hr)
 obtain ⟨m, hm⟩ : ∃ m, m = L.length := ⟨_, rfl⟩
 have hml : (L.map (·.i)).length = m := by rw [List.length_map, ← hm]
 have hmI : (m : Int) ≤ 1000 := by omega
 unfold DistP at HD
 rw [hml] at HD
 rw [← hm] at HD ⊢
 generalize L.map (·.i) = l at *
 have HML := Lib.hid hml
 clear hr hz hm hml
 go_enter Tryd.func20, Tryd.ntmps20
 go_wp2_with fail
 refine HD.out.mono ?_
 rintro e w1 ⟨D, A', c', hD, rfl, hr, hb⟩
 have hlen := hD.len
 rw [HML.out] at hlen
 obtain ⟨p, hp⟩ : ∃ p : Nat → Bool, p = fun i => decide (dl D i = -1) := ⟨_, rfl⟩
 have HDL := Lib.hid (show deadL D = selL m p from by rw [hp, ← hlen]; rfl)
 have HP := Lib.hid (fun k => congrFun hp k)
 have HOK := Lib.hid hD; have HR := Lib.hid hr; have HB1 := Lib.hid hb; have HLD := Lib.hid hlen
 clear hD hr hb hp hlen HD
 go_wp2
 go_loopw [4, 5] (fun v i wr => ∃ k : Nat, k ≤ m ∧ i = .int .i64 (k : Int) ∧ wr.ownsRow w1.heap.size 3 1 v (selL k p).length (IL (selL k p)) ∧ Below w1.heap.size w1 wr) (fun _ i _ => m - (intOf i).toNat)
 case atStart => exact ⟨0, Nat.zero_le _, rfl, World.ownsRow_nil _ _ _ _, Below.refl _ _⟩
 case round =>
  obtain ⟨k, hk, rfl, ho, hb⟩ := hrel
  have HO := Lib.hid ho; have HB := Lib.hid hb
  have hsz := hb.size
  by_cases hlt : k < m
  ·have hltI : (k : Int) < (m : Int) := by omega
   obtain ⟨a, rfl, -, cx⟩ := (HR.out.below hb).at_ (IL_at (dl_get (D := D) (i := k) (by have := HLD.out; omega)))
   have hln := selL_len k p
   have hpk := HP.out k
   obtain ⟨d, hd⟩ : ∃ d, d = dl D k := ⟨_, rfl⟩
   rw [← hd] at cx hpk
   clear ho hb hd
   by_cases h1 : d = -1
   ·have hb1 : (d == -1) = true := by rw [h1]; rfl
    have HE := Lib.hid (show selL (k + 1) p = selL k p ++ [(k : Int)] from by rw [selL_succ, hpk, h1]; rfl)
    clear hpk h1
    go_wp2_with (at_builtin; refine wpList_app _ rfl (.tmp 19) (.tmp 21) _ rfl w1.heap.size 3 i0 _ 1 8 Tryd.underlying29 hi0 hz0 hz1 hz2 rfl (by omega) _ (selL k p).length (IL (selL k p)) rfl (HO.out.alloc _) _ 1 1 [.int .i64 (k : Int)] rfl rfl (rd_blk (heap_alloc_new wr _) (k := 1) rfl) (by simp [Value.oneCell']) (by simp only [maxLen]; omega) (by omega) (by simp; omega) ?_; intro v' w2 hown2 hg2 hb2 hat2; clear hg2 hat2)
    have hb3 := (HB.out.alloc hsz _).trans hb2
    go_roundw
    case rel => exact ⟨k + 1, by omega, by go_num, by rw [HE.out, List.length_append, IL_app]; exact hown2, hb3⟩
    case measure => simp [intOf]; omega
   ·have hb1 : (d == -1) = false := beq_eq_false_iff_ne.2 h1
    have HE := Lib.hid (show selL (k + 1) p = selL k p from by rw [selL_succ, hpk]; simp [h1])
    clear hpk h1
    go_wp2
    go_roundw
    case rel => exact ⟨k + 1, by omega, by go_num, by rw [HE.out]; exact HO.out, HB.out⟩
    case measure => simp [intOf]; omega
  ·have hkm : k = m := by omega
   subst hkm
   have hltI : ¬ (k : Int) < (k : Int) := by omega
   obtain ⟨A9, c9, rfl, -, -, hr9⟩ := own_rd ho
   have HR9 := Lib.hid hr9
   clear ho hb hr9 HO
   go_wp2
   go_ret
   exact ⟨D, HOK.out, A9, c9, by rw [HDL.out]; rfl, by rw [HDL.out]; exact HR9.out, HB1.out.trans (HB.out.mono HB1.out.size)⟩

set_option maxRecDepth 100000 in
set_option maxHeartbeats 8000000 in
theorem blocks_r (A : Option Addr) (c : Nat) (L : List InM) (w : World) (hz : L.length ≤ 1000) (hr : Rd w A (L.flatMap inC)) :
  Calls Tryd.prog 22 #[.slice A L.length c] w (BlP (L.map (·.i)) w) := by
 obtain ⟨i0, hi0, hz0, hz1, hz2⟩ := info_parts infoI
 obtain ⟨n, hn⟩ : ∃ n, n = L.length := ⟨_, rfl⟩
 have hnI : (n : Int) ≤ 1000 := by omega
 obtain ⟨l, hl⟩ : ∃ l, l = L.map (·.i) := ⟨_, rfl⟩
 have HLL := Lib.hid (show l.length = n from by rw [hl, List.length_map, ← hn])
 have HLX := Lib.hid (fun k (x : InM) (h : L[k]? = some x) => show l[k]? = some x.i from by rw [hl, List.getElem?_map, h]; rfl)
 have HBL := Lib.hid (show blocksL l = selL n (beginB l) from by rw [blocks_eq, HLL.out])
 rw [← hl, ← hn]
 obtain ⟨p, hp⟩ : ∃ p, p = beginB l := ⟨_, rfl⟩
 rw [← hp] at HBL
 have HP := Lib.hid (fun i => show begU l i n = p i from by rw [hp, ← HLL.out]; rfl)
 have HR := Lib.hid hr; have HN := Lib.hid hn
 clear hz hr hn hl hp
 go_enter Tryd.func22, Tryd.ntmps22
 go_wp2
 go_loopw [3, 4] (fun v i wr => ∃ k : Nat, k ≤ n ∧ i = .int .i64 (k : Int) ∧ wr.ownsRow w.heap.size 3 1 v (selL k p).length (IL (selL k p)) ∧ Below w.heap.size w wr) (fun _ i _ => n - (intOf i).toNat)
 case atStart => exact ⟨0, Nat.zero_le _, rfl, World.ownsRow_nil _ _ _ _, Below.refl _ _⟩
 case round =>
  obtain ⟨i, hk, rfl, ho, hb⟩ := hrel
  have HO := Lib.hid ho; have HB := Lib.hid hb
  by_cases hlt : i < n
  case neg =>
   have hltI : ¬ (i : Int) < (n : Int) := by omega
   obtain rfl : n = i := by omega
   obtain ⟨A9, c9, rfl, -, -, hr9⟩ := own_rd ho
   have HR9 := Lib.hid hr9
   clear ho hb hr9 HO
   go_wp2
   go_ret
   exact ⟨A9, c9, by rw [HBL.out]; rfl, by rw [HBL.out]; exact HR9.out, HB.out⟩
  case pos =>
   have hltI : (i : Int) < (n : Int) := by omega
   have hiI : 0 ≤ (i : Int) := by omega
   clear ho hb
   have HPI := Lib.hid (HP.out i)
   have hss := Lib.hid (selL_succ i p)
   have hln := selL_len i p
   have hsz := HB.out.size
   obtain ⟨wa, hwa⟩ : ∃ v, v = wr := ⟨_, rfl⟩
   subst hwa
   have HRA := Lib.hid (HR.out.below HB.out)
   go_wp2
   go_loopw [5, 6] (fun bv kv W => ∃ (k : Nat) (b : Bool), k ≤ n ∧ kv = .int .i64 (k : Int) ∧ bv = .bool b ∧ begU l i k = b ∧ Below wa.heap.size wa W) (fun _ kv _ => n - (intOf kv).toNat)
   case atStart => exact ⟨0, _, Nat.zero_le _, rfl, rfl, begU_zero _ _, Below.refl _ _⟩
   case round =>
    obtain ⟨k, b, hk2, rfl, rfl, hbg, hb2⟩ := hrel
    have HB2 := Lib.hid hb2
    by_cases hlt2 : k < n
    case neg =>
     have hltI2 : ¬ (k : Int) < (n : Int) := by omega
     have hkn : k = n := by omega
     rw [hkn, HPI.out] at hbg
     have hs2 := hss.out
     rw [hbg] at hs2
     have hb3 := HB.out.trans (hb2.mono HB.out.size)
     have HB3 := Lib.hid hb3
     have hsz3 := hb3.size
     have HO3 := Lib.hid (own_below HO.out hb2)
     clear hss hbg hb2 hb3 hkn
     cases b with
     | true =>
      have HE := Lib.hid (show selL (i + 1) p = selL i p ++ [(i : Int)] from hs2)
      clear hs2
      go_wp2_with (at_builtin; refine wpList_app _ rfl (.tmp 59) (.tmp 61) _ rfl w.heap.size 3 i0 _ 1 8 Tryd.underlying29 hi0 hz0 hz1 hz2 rfl (by omega) _ (selL i p).length (IL (selL i p)) rfl (HO3.out.alloc _) _ 1 1 [.int .i64 (i : Int)] rfl rfl (rd_blk (heap_alloc_new wr _) (k := 1) rfl) (by simp [Value.oneCell']) (by simp only [maxLen]; omega) (by omega) (by simp; omega) ?_; intro v' w2 hown2 hg2 hb5 hat2; clear hg2 hat2)
      have hb6 := (HB3.out.alloc hsz3 _).trans hb5
      go_roundw
      case rel => exact ⟨i + 1, by omega, by go_num, by rw [HE.out, List.length_append, IL_app]; exact hown2, hb6⟩
      case measure => simp [intOf]; omega
     | false =>
      have HE := Lib.hid (show selL (i + 1) p = selL i p from by rw [hs2]; simp)
      clear hs2
      go_wp2
      go_roundw
      case rel => exact ⟨i + 1, by omega, by go_num, by rw [HE.out]; exact HO3.out, HB3.out⟩
      case measure => simp [intOf]; omega
    case pos =>
     have hltI2 : (k : Int) < (n : Int) := by omega
     obtain ⟨x, hx⟩ : ∃ x, L[k]? = some x := ⟨L[k]'(by have := HN.out; omega), List.getElem?_eq_getElem _⟩
     have HRW := Lib.hid (HRA.out.below hb2)
     obtain ⟨a, rfl, -, f0, f1, f2, f3, f4, f5, f6, f7, f8⟩ := in_at HRW.out hx
     have hsu := begU_succ (i := i) (HLX.out k x hx)
     rw [hbg] at hsu
     have HT := Lib.hid (target_r x.i x.A x.c wr)
     have HF := Lib.hid (fun w => falls_r x.i.o w)
     obtain ⟨t, ht⟩ : ∃ t, t = (targetL x.i).1 := ⟨_, rfl⟩
     obtain ⟨j, hj⟩ : ∃ j, j = (targetL x.i).2 := ⟨_, rfl⟩
     obtain ⟨f, hf⟩ : ∃ f, f = fallsB x.i.o := ⟨_, rfl⟩
     rw [← ht, ← hj] at hsu HT
     rw [← hf] at hsu HF
     dsimp only [InV] at HT
     have HSU := Lib.hid hsu
     have HX := Lib.hid hx
     clear ht hj hf hx hsu hbg hb2
     go_wp2_with fail
     refine HT.out.mono ?_
     rintro ev w1 ⟨rfl, k1⟩
     obtain ⟨a', e', -, g0, -⟩ := in_at (HRW.out.below k1) HX.out
     obtain rfl := Option.some.inj e'
     have HB4 := Lib.hid (HB2.out.trans (k1.mono HB2.out.size))
     clear k1 e' f0 f1 f2 f3 f4 f5 f6 f7 f8 HT
     cases b with
     | true =>
      have HV := Lib.hid (show begU l i (k + 1) = true from by rw [HSU.out]; rfl)
      clear HSU
      go_wp2
      go_roundw
      case rel => exact ⟨k + 1, true, by omega, by go_num, rfl, HV.out, HB4.out⟩
      case measure => simp [intOf]; omega
     | false =>
      by_cases hq : k + 1 = i
      ·have hqb : ((k : Int) == (i : Int) - 1) = true := by rw [show (k : Int) = (i : Int) - 1 by omega]; exact beq_self_eq_true _
       cases j with
       | true =>
        by_cases hti : t = (i : Int)
        ·have htb : (t == (i : Int)) = true := by rw [hti]; exact beq_self_eq_true _
         have HV := Lib.hid (show begU l i (k + 1) = true from by rw [HSU.out]; exact decide_eq_true (.inl ⟨rfl, hti⟩))
         clear HSU
         go_wp2
         go_roundw
         case rel => exact ⟨k + 1, true, by omega, by go_num, rfl, HV.out, HB4.out⟩
         case measure => simp [intOf]; omega
        ·have htb : (t == (i : Int)) = false := beq_eq_false_iff_ne.2 hti
         have HV := Lib.hid (show begU l i (k + 1) = true from by rw [HSU.out]; exact decide_eq_true (.inr ⟨hq, .inl rfl⟩))
         clear HSU
         go_wp2
         go_roundw
         case rel => exact ⟨k + 1, true, by omega, by go_num, rfl, HV.out, HB4.out⟩
         case measure => simp [intOf]; omega
       | false =>
        cases f with
        | true =>
         have HV := Lib.hid (show begU l i (k + 1) = false from by rw [HSU.out]; exact decide_eq_false (by rintro (⟨h, -⟩ | ⟨-, h | h⟩) <;> cases h))
         clear HSU
         go_wp2_with fail
         refine (HF.out _).mono ?_
         rintro e w2 ⟨rfl, hw2⟩; subst w2
         go_wp2
         go_roundw
         case rel => exact ⟨k + 1, false, by omega, by go_num, rfl, HV.out, HB4.out⟩
         case measure => simp [intOf]; omega
        | false =>
         have HV := Lib.hid (show begU l i (k + 1) = true from by rw [HSU.out]; exact decide_eq_true (.inr ⟨hq, .inr rfl⟩))
         clear HSU
         go_wp2_with fail
         refine (HF.out _).mono ?_
         rintro e w2 ⟨rfl, hw2⟩; subst w2
         go_wp2
         go_roundw
         case rel => exact ⟨k + 1, true, by omega, by go_num, rfl, HV.out, HB4.out⟩
         case measure => simp [intOf]; omega
      ·have hqb : ((k : Int) == (i : Int) - 1) = false := beq_eq_false_iff_ne.2 (by omega)
       cases j with
       | true =>
        by_cases hti : t = (i : Int)
        ·have htb : (t == (i : Int)) = true := by rw [hti]; exact beq_self_eq_true _
         have HV := Lib.hid (show begU l i (k + 1) = true from by rw [HSU.out]; exact decide_eq_true (.inl ⟨rfl, hti⟩))
         clear HSU
         go_wp2
         go_roundw
         case rel => exact ⟨k + 1, true, by omega, by go_num, rfl, HV.out, HB4.out⟩
         case measure => simp [intOf]; omega
        ·have htb : (t == (i : Int)) = false := beq_eq_false_iff_ne.2 hti
         have HV := Lib.hid (show begU l i (k + 1) = false from by rw [HSU.out]; exact decide_eq_false (by rintro (⟨-, h⟩ | ⟨h, -⟩); exact hti h; exact hq h))
         clear HSU
         go_wp2
         go_roundw
         case rel => exact ⟨k + 1, false, by omega, by go_num, rfl, HV.out, HB4.out⟩
         case measure => simp [intOf]; omega
       | false =>
        have HV := Lib.hid (show begU l i (k + 1) = false from by rw [HSU.out]; exact decide_eq_false (by rintro (⟨h, -⟩ | ⟨h, -⟩); cases h; exact hq h))
        clear HSU
        go_wp2
        go_roundw
        case rel => exact ⟨k + 1, false, by omega, by go_num, rfl, HV.out, HB4.out⟩
        case measure => simp [intOf]; omega
end Go.Proofs.YtnmnnokdoiagkaaDoor.flow

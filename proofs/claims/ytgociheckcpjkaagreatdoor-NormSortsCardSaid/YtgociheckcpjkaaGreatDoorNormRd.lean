/- NormRd -/
import Derived.Test.YtgociheckcpjkaaGreatDoorNormRc
namespace Go.Proofs.YtgociheckcpjkaaGreatDoor.prg
open Go.RowKit
open words kindp opp op kind word keep sorts
set_option maxRecDepth 100000
set_option maxHeartbeats 8000000
set_option linter.all false
theorem sc_r (x : ClM) (v : World) (hk : ClOk v x) (hg : GrC x) : Calls Tryz.prog 30 #[.agg (clC x).toArray] v fun e w' => (∃ z, e = .returned (.agg (clC (sortC z)).toArray) ∧ pC z = pC x ∧ OwC v.heap.size w' (sortC z)) ∧ Below v.heap.size v w' := by
 have HCP := hh (fun w (h : Below v.heap.size v w) => rcloC x w (hk.below h) hg)
 have HFW := hh (fun z (h : pC z = pC x) => show z.is.length ≤ 40 ∧ z.fs.length ≤ 40 ∧ z.ms.length ≤ 40 from by
  have e1 : z.is = x.is := congrArg ClP.is h
  have e2 : z.fs.length = x.fs.length := by have := congrArg (fun p => (ClP.fs p).length) h; simpa [pC] using this
  have e3 : z.ms.length = x.ms.length := by have := congrArg (fun p => (ClP.ms p).length) h; simpa [pC] using this
  rw [e1, e2, e3]
  exact ⟨hg.1.1, hg.1.2.1, hg.1.2.2.1⟩)
 have HPX := hh (fun z (h : pC z = pC x) w' (ho : OwC v.heap.size w' (sortC z)) (k : Below v.heap.size v w') (cc : Array Value) (e : cc = (clC (sortC z)).toArray) => show (∃ z', Ending.returned (.agg cc) = .returned (.agg (clC (sortC z')).toArray) ∧ pC z' = pC x ∧ OwC v.heap.size w' (sortC z')) ∧ Below v.heap.size v w' from ⟨⟨z, by rw [e], h, ho⟩, k⟩)
 clear hk hg
 unfold clC
 try dsimp only
 obtain ⟨V, hV⟩ : ∃ V, V = (v.alloc (.cells #[.string ⟨x.nm.toArray⟩, .string ⟨x.su.toArray⟩, .bool x.fc, .bool x.ab, .slice x.A1 x.is.length x.c1, .slice x.A2 x.fs.length x.c2, .slice x.A3 x.ms.length x.c3] 35)).alloc (.cells #[.string ⟨#[]⟩, .string ⟨#[]⟩, .bool false, .bool false, .slice none 0 0, .slice none 0 0, .slice none 0 0] 35) := ⟨_, rfl⟩
 have hal : Below v.heap.size v V := by rw [hV]; exact ((Below.refl _ v).alloc (Nat.le_refl _) _).alloc (by simp) _
 have hbi : V.heap[v.heap.size]? = some (.cells #[.string ⟨x.nm.toArray⟩, .string ⟨x.su.toArray⟩, .bool x.fc, .bool x.ab, .slice x.A1 x.is.length x.c1, .slice x.A2 x.fs.length x.c2, .slice x.A3 x.ms.length x.c3] 35 (0, 0)) := by rw [hV]; exact (Below.heap_alloc _ _ _ (by simp)).trans (heap_alloc_new v _)
 have hbj : V.heap[v.heap.size + 1]? = some (.cells #[.string ⟨#[]⟩, .string ⟨#[]⟩, .bool false, .bool false, .slice none 0 0, .slice none 0 0, .slice none 0 0] 35 (0, 0)) := by
  rw [hV]
  have := heap_alloc_new (v.alloc (.cells #[.string ⟨x.nm.toArray⟩, .string ⟨x.su.toArray⟩, .bool x.fc, .bool x.ab, .slice x.A1 x.is.length x.c1, .slice x.A2 x.fs.length x.c2, .slice x.A3 x.ms.length x.c3] 35)) (.cells #[.string ⟨#[]⟩, .string ⟨#[]⟩, .bool false, .bool false, .slice none 0 0, .slice none 0 0, .slice none 0 0] 35)
  rwa [World.size_alloc] at this
 have HV := hh hV; have HAL := hh hal
 obtain ⟨d0, d1, d2, d3, d4, d5, d6⟩ := c7q hbi
 have HBI := hh hbi; have HBJ := hh hbj
 clear hV hal hbi hbj
 go_enter Tryz.func30, Tryz.ntmps30
 go_wp2_with fail
 try simp only [World.size_alloc]
 rw [← HV.out]
 (try go_wp2_with fail)
 refine (HCP.out V HAL.out).mono ?_
 rintro e v1 ⟨⟨z, rfl, hpz, hoz⟩, hb1⟩
 have hfz := HFW.out z hpz
 have HPZ := hh (HPX.out z hpz)
 obtain ⟨n1, hn1⟩ : ∃ n, n = z.is.length := ⟨_, rfl⟩
 obtain ⟨n2, hn2⟩ : ∃ n, n = z.fs.length := ⟨_, rfl⟩
 obtain ⟨n3, hn3⟩ : ∃ n, n = z.ms.length := ⟨_, rfl⟩
 have n1I : (n1 : Int) ≤ 40 := by omega
 have n2I : (n2 : Int) ≤ 40 := by omega
 have n3I : (n3 : Int) ≤ 40 := by omega
 have HN_is := hh hn1; have HN_fs := hh hn2; have HN_ms := hh hn3
 have g1 : v.heap.size < V.heap.size := blk_lt HBI.out
 have g2 : v.heap.size + 1 < V.heap.size := blk_lt HBJ.out
 have o1 := hoz.1; have o2 := hoz.2.1; have o3 := hoz.2.2.1
 rw [← hn1] at o1
 rw [← hn2] at o2
 rw [← hn3] at o3
 unfold clC
 rw [← hn1, ← hn2, ← hn3]
 try dsimp only
 have hbi1 := (hb1.block _ g1).trans HBI.out
 have hbj1 := (hb1.block _ g2).trans HBJ.out
 have q0 : v1.cell? ⟨v.heap.size, 0, none⟩ = some (.string ⟨x.nm.toArray⟩) := cell_of_row _ _ 0 _ _ _ hbi1
 have qf0 := frozen_of_row _ _ 0 _ _ hbi1
 have q1 : v1.cell? ⟨v.heap.size, 1, none⟩ = some (.string ⟨x.su.toArray⟩) := cell_of_row _ _ 1 _ _ _ hbi1
 have qf1 := frozen_of_row _ _ 1 _ _ hbi1
 have q2 : v1.cell? ⟨v.heap.size, 2, none⟩ = some (.bool x.fc) := cell_of_row _ _ 2 _ _ _ hbi1
 have qf2 := frozen_of_row _ _ 2 _ _ hbi1
 have q3 : v1.cell? ⟨v.heap.size, 3, none⟩ = some (.bool x.ab) := cell_of_row _ _ 3 _ _ _ hbi1
 have qf3 := frozen_of_row _ _ 3 _ _ hbi1
 have q4 : v1.cell? ⟨v.heap.size, 4, none⟩ = some (.slice x.A1 x.is.length x.c1) := cell_of_row _ _ 4 _ _ _ hbi1
 have qf4 := frozen_of_row _ _ 4 _ _ hbi1
 have q5 : v1.cell? ⟨v.heap.size, 5, none⟩ = some (.slice x.A2 x.fs.length x.c2) := cell_of_row _ _ 5 _ _ _ hbi1
 have qf5 := frozen_of_row _ _ 5 _ _ hbi1
 have q6 : v1.cell? ⟨v.heap.size, 6, none⟩ = some (.slice x.A3 x.ms.length x.c3) := cell_of_row _ _ 6 _ _ _ hbi1
 have qf6 := frozen_of_row _ _ 6 _ _ hbi1
 have s0 := heap_setCell_same _ v.heap.size 0 _ _ (.string ⟨z.nm.toArray⟩) hbi1
 have s1 := heap_setCell_same _ v.heap.size 1 _ _ (.string ⟨z.su.toArray⟩) s0
 have s2 := heap_setCell_same _ v.heap.size 2 _ _ (.bool z.fc) s1
 have s3 := heap_setCell_same _ v.heap.size 3 _ _ (.bool z.ab) s2
 have s4 := heap_setCell_same _ v.heap.size 4 _ _ (.slice z.A1 n1 z.c1) s3
 have s5 := heap_setCell_same _ v.heap.size 5 _ _ (.slice z.A2 n2 z.c2) s4
 have s6 := heap_setCell_same _ v.heap.size 6 _ _ (.slice z.A3 n3 z.c3) s5
 obtain ⟨W1, hW1⟩ : ∃ WF, WF = (((((((v1.setCell ⟨v.heap.size, 0, none⟩ (.string ⟨z.nm.toArray⟩)).setCell ⟨v.heap.size, 1, none⟩ (.string ⟨z.su.toArray⟩)).setCell ⟨v.heap.size, 2, none⟩ (.bool z.fc)).setCell ⟨v.heap.size, 3, none⟩ (.bool z.ab)).setCell ⟨v.heap.size, 4, none⟩ (.slice z.A1 n1 z.c1)).setCell ⟨v.heap.size, 5, none⟩ (.slice z.A2 n2 z.c2)).setCell ⟨v.heap.size, 6, none⟩ (.slice z.A3 n3 z.c3)) := ⟨_, rfl⟩
 rw [← hW1] at s6
 have sF : W1.heap[v.heap.size]? = some (.cells #[.string ⟨z.nm.toArray⟩, .string ⟨z.su.toArray⟩, .bool z.fc, .bool z.ab, .slice z.A1 n1 z.c1, .slice z.A2 n2 z.c2, .slice z.A3 n3 z.c3] 35 (0, 0)) := by rw [s6]; simp
 have gA : v1.grownBy W1 (some v.heap.size) := by rw [hW1]; exact (gb_trans (gb_trans (gb_trans (gb_trans (gb_trans (gb_trans (gb_set _ (v.heap.size) 0 _) (gb_set _ (v.heap.size) 1 _)) (gb_set _ (v.heap.size) 2 _)) (gb_set _ (v.heap.size) 3 _)) (gb_set _ (v.heap.size) 4 _)) (gb_set _ (v.heap.size) 5 _)) (gb_set _ (v.heap.size) 6 _))
 have tF : W1.heap[v.heap.size + 1]? = some (.cells #[.string ⟨#[]⟩, .string ⟨#[]⟩, .bool false, .bool false, .slice none 0 0, .slice none 0 0, .slice none 0 0] 35 (0, 0)) := gb_at gA hbj1 (by omega)
 have hbw1 : Below v.heap.size v W1 := by rw [hW1]; exact ((((((((HAL.out.trans (hb1.mono HAL.out.size)).setCell (p := ⟨v.heap.size, 0, none⟩) (Nat.le_refl _) _).setCell (p := ⟨v.heap.size, 1, none⟩) (Nat.le_refl _) _).setCell (p := ⟨v.heap.size, 2, none⟩) (Nat.le_refl _) _).setCell (p := ⟨v.heap.size, 3, none⟩) (Nat.le_refl _) _).setCell (p := ⟨v.heap.size, 4, none⟩) (Nat.le_refl _) _).setCell (p := ⟨v.heap.size, 5, none⟩) (Nat.le_refl _) _).setCell (p := ⟨v.heap.size, 6, none⟩) (Nat.le_refl _) _)
 obtain ⟨hv, hhv⟩ : ∃ h, h = V.heap.size := ⟨_, rfl⟩
 have HI0 := hh (show InvC v hv #[.string ⟨z.nm.toArray⟩, .string ⟨z.su.toArray⟩, .bool z.fc, .bool z.ab, .slice z.A1 n1 z.c1, .slice z.A2 n2 z.c2, .slice z.A3 n3 z.c3] #[.string ⟨#[]⟩, .string ⟨#[]⟩, .bool false, .bool false, .slice none 0 0, .slice none 0 0, .slice none 0 0] W1 z from ⟨sF, tF, by rw [hhv]; exact hoz.gb g1 gA, hbw1, by rw [hhv]; exact Nat.le_trans hb1.size gA.size⟩)
 have HHV := hh (show v.heap.size + 1 < hv from by rw [hhv]; exact g2)
 rw [← hhv] at o1 o2 o3
 have HOA_is := hh o1; have HOA_fs := hh o2; have HOA_ms := hh o3
 have HW1 := hh hW1
 have bx : W1.cell? ⟨v.heap.size, 4, none⟩ = some (.slice z.A1 n1 z.c1) := cell_of_row _ _ 4 _ _ _ sF
 clear hbi1 hbj1 hb1 gA hbw1 hW1 sF tF s0 s1 s2 s3 s4 s5 s6 d0 d1 d2 d3 d4 d5 d6 hoz hpz hfz hn1 hn2 hn3 hhv g1 g2 o1 o2 o3
 go_wp2_with fail
 rw [← HW1.out]
 clear q0 q1 q2 q3 q4 q5 q6 qf0 qf1 qf2 qf3 qf4 qf5 qf6
 (try go_wp2)
 clear bx
 go_loopw [3] (fun i wr => ∃ t : Nat, i = .int .i64 (t : Int) ∧ 0 < t ∧ (t ≤ n1 ∨ t = 1) ∧ InvC v hv #[.string ⟨z.nm.toArray⟩, .string ⟨z.su.toArray⟩, .bool z.fc, .bool z.ab, .slice z.A1 n1 z.c1, .slice z.A2 n2 z.c2, .slice z.A3 n3 z.c3] #[.string ⟨#[]⟩, .string ⟨#[]⟩, .bool false, .bool false, .slice none 0 0, .slice none 0 0, .slice none 0 0] wr { z with is := sortS ltT (z.is.take t) ++ z.is.drop t }) (fun i _ => n1 - (intOf i).toNat)
 case atStart => exact ⟨1, rfl, by omega, .inr rfl, by rw [one_sort]; exact HI0.out⟩
 case round =>
  obtain ⟨t, rfl, ht, htx, hinv⟩ := hrel
  obtain ⟨wa, hwa⟩ : ∃ u, u = wr := ⟨_, rfl⟩
  subst hwa
  have HV1 := hh hinv
  have bx : wa.cell? ⟨v.heap.size, 4, none⟩ = some (.slice z.A1 n1 z.c1) := cell_of_row _ _ 4 _ _ _ hinv.box
  by_cases hlt : t < n1
  ·have hltI : (t : Int) < (n1 : Int) := by omega
   have htl : t < z.is.length := by rw [← HN_is.out]; exact hlt
   obtain ⟨x, hx⟩ : ∃ x, z.is[t]? = some x := ⟨z.is[t]'htl, List.getElem?_eq_getElem _⟩
   obtain ⟨S, hS⟩ : ∃ S, S = sortS ltT (z.is.take t) := ⟨_, rfl⟩
   have hSl : S.length = t := by rw [hS, sortS_length, List.length_take]; omega
   have HSA := hh (show Asc ltT S from by rw [hS]; exact asc_sortS swo_text _)
   obtain ⟨R, hR⟩ : ∃ R, R = z.is.drop (t + 1) := ⟨_, rfl⟩
   have hd : z.is.drop t = x :: R := by rw [hR, List.drop_eq_getElem_cons htl]; congr 1; exact (List.getElem?_eq_some_iff.1 hx).2
   have HND := hh (show ∀ S1 S2, S = S1 ++ S2 → (∀ y ∈ S1, ltT x y = false) → (∀ y ∈ S2, ltT x y = true) → sortS ltT (z.is.take (t + 1)) ++ z.is.drop (t + 1) = S1 ++ x :: (S2 ++ R) from fun S1 S2 h1 h2 h3 => by
    rw [List.take_add_one, hx, Option.toList_some, sortS_snoc, ← hS, h1, ins_at S1 S2 x h2 h3, hR]; simp only [List.append_assoc, List.cons_append])
   have HLN := hh (show S.length + 1 + R.length = n1 from by rw [hSl, hR, List.length_drop, HN_is.out]; omega)
   have HSM := hh (show ∀ m, m ∈ S ∨ m = x ∨ m ∈ R → m ∈ z.is from fun m hm => by
    rcases hm with h | rfl | h
    ·rw [hS] at h; exact List.mem_of_mem_take ((mem_sortS _).1 h)
    ·exact List.mem_of_getElem? hx
    ·rw [hR] at h; exact List.mem_of_mem_drop h)
   have HT := hh (show t < n1 ∧ 0 < t ∧ t + 1 ≤ n1 from ⟨hlt, ht, hlt⟩)
   have HIN := hh (show InvC v hv #[.string ⟨z.nm.toArray⟩, .string ⟨z.su.toArray⟩, .bool z.fc, .bool z.ab, .slice z.A1 n1 z.c1, .slice z.A2 n2 z.c2, .slice z.A3 n3 z.c3] #[.string ⟨#[]⟩, .string ⟨#[]⟩, .bool false, .bool false, .slice none 0 0, .slice none 0 0, .slice none 0 0] wa { z with is := S ++ x :: ([] ++ R) } from by rw [List.nil_append, ← hd, hS]; exact hinv)
   have HST := hh hSl
   have hs1 : IntKind.i64.wrap ((t : Int) + 1) = ((t + 1 : Nat) : Int) := by rw [show (t : Int) + 1 = ((t + 1 : Nat) : Int) by omega]; exact IntWalk.i64_in _ (by omega)
   obtain ⟨g, hA, hgv, -⟩ := keep.own_some HOA_is.out (by omega)
   have HGA := hh hA; have HGV := hh hgv
   clear hx hS hSl hR hd htl hlt ht htx hinv hA hgv
   go_wp2
   clear bx
   go_loopw [4] (fun i wr => ∃ q : Nat, i = .int .i64 (q : Int) ∧ ∃ S1 S2, S = S1 ++ S2 ∧ q = S1.length ∧ (∀ y ∈ S2, ltT x y = true) ∧ InvC v hv #[.string ⟨z.nm.toArray⟩, .string ⟨z.su.toArray⟩, .bool z.fc, .bool z.ab, .slice z.A1 n1 z.c1, .slice z.A2 n2 z.c2, .slice z.A3 n3 z.c3] #[.string ⟨#[]⟩, .string ⟨#[]⟩, .bool false, .bool false, .slice none 0 0, .slice none 0 0, .slice none 0 0] wr { z with is := S1 ++ x :: (S2 ++ R) }) (fun i _ => (intOf i).toNat)
   case atStart => exact ⟨t, rfl, S, [], by simp, HST.out.symm, by simp, HIN.out⟩
   case round =>
    obtain ⟨q, rfl, S1, S2, hSS, hq, h2, hinv⟩ := hrel
    obtain ⟨wb, hwb⟩ : ∃ u, u = wr := ⟨_, rfl⟩
    subst hwb
    have HV2 := hh hinv
    have b0 : wb.cell? ⟨v.heap.size, 4, none⟩ = some (.slice (some ⟨g, 0, none⟩) n1 z.c1) := by rw [← HGA.out]; exact cell_of_row _ _ 4 _ _ _ hinv.box
    rcases List.eq_nil_or_concat S1 with h0 | ⟨S1', y, h0⟩
    ·have hqi : ¬ (0 : Int) < (q : Int) := by rw [h0] at hq; simp at hq; omega
     have hqd : decide ((0 : Int) < (q : Int)) = false := decide_eq_false hqi
     have hqn : decide (0 < q) = false := decide_eq_false (by omega)
     have HRE := hh (show InvC v hv #[.string ⟨z.nm.toArray⟩, .string ⟨z.su.toArray⟩, .bool z.fc, .bool z.ab, .slice z.A1 n1 z.c1, .slice z.A2 n2 z.c2, .slice z.A3 n3 z.c3] #[.string ⟨#[]⟩, .string ⟨#[]⟩, .bool false, .bool false, .slice none 0 0, .slice none 0 0, .slice none 0 0] wb { z with is := sortS ltT (z.is.take (t + 1)) ++ z.is.drop (t + 1) } from by rw [HND.out S1 S2 hSS (by rw [h0]; simp) h2]; exact hinv)
     clear hinv h0 hSS h2 hq
     go_wp2_with fail
     refine wp_region_held_drew (S := (fun _ => True)) (by kernel_rfl) ?_ (fun hHeld => ?_)
     ·exact trivial
     refine tkp 0 rfl ?_
     refine tkp 1 rfl ?_
     refine tkp 2 rfl ?_
     refine tup 3 rfl ?_
     refine tup 4 rfl ?_
     refine tup 5 rfl ?_
     refine tup 6 rfl ?_
     refine tup 7 rfl ?_
     refine tup 8 rfl ?_
     refine tup 9 rfl ?_
     refine tup 10 rfl ?_
     refine tup 11 rfl ?_
     refine tup 12 rfl ?_
     refine tup 13 rfl ?_
     refine tup 14 rfl ?_
     refine tkp 15 rfl ?_
     refine wpAnyH_done (by kernel_rfl) ?_ _
     clear b0
     go_wp2
     go_roundw
     case rel => exact ⟨t + 1, by go_num, by omega, .inl HT.out.2.2, HRE.out.drew⟩
     case measure => have := HT.out; simp [intOf]; omega
    ·rw [List.concat_eq_append] at h0
     subst h0
     obtain ⟨p, hp⟩ : ∃ p, p = S1'.length := ⟨_, rfl⟩
     have hpq : q = p + 1 := by rw [hp]; simp at hq; omega
     have hL : S1' ++ [y] ++ x :: (S2 ++ R) = S1' ++ y :: x :: (S2 ++ R) := by simp
     have hlen : (S1' ++ y :: x :: (S2 ++ R)).length = n1 := by have := HLN.out; rw [hSS] at this; simp at this ⊢; omega
     rw [hL] at hinv
     have hrow0 := hinv.own.1
     dsimp only at hrow0
     rw [HGA.out, hlen] at hrow0
     have hqn1 : q < n1 := by rw [← hlen, hpq, hp]; simp
     have hpn1 : p < n1 := by rw [← hlen, hp]; simp
     have c0 : wb.cell? ⟨g, q, none⟩ = some (.string ⟨x.toArray⟩) := by rw [hrow0.cellAt q (by omega), hpq, hp]; simp [SX]
     have c1 : wb.cell? ⟨g, p, none⟩ = some (.string ⟨y.toArray⟩) := by rw [hrow0.cellAt p (by omega), hp]; simp [SX]
     have hqi : (0 : Int) < (q : Int) := by omega
     have hqd : decide ((0 : Int) < (q : Int)) = true := decide_eq_true hqi
     have hqn : decide (0 < q) = true := decide_eq_true (by omega)
     have hpl : q < n1 := by rw [← hlen, hpq, hp]; simp
     have hpn : (p : Int) < (n1 : Int) := by omega
     have hqN : (q : Int) < (n1 : Int) := by omega
     have hp0 : (0 : Int) ≤ (p : Int) := by omega
     have hq0 : (0 : Int) ≤ (q : Int) := by omega
     have hsq : IntKind.i64.wrap ((q : Int) - 1) = (p : Int) := by rw [show (q : Int) - 1 = (p : Int) by omega]; exact IntWalk.i64_in _ (by omega)
     have ay : (S1' ++ y :: x :: (S2 ++ R))[p]? = some y := by rw [hp]; exact at_len _ _ _
     have ax : (S1' ++ y :: x :: (S2 ++ R))[q]? = some x := by rw [hpq, hp, List.getElem?_append_right (by omega), Nat.add_sub_cancel_left]; rfl
     have HRE := hh (show ∀ u, InvC v hv #[.string ⟨z.nm.toArray⟩, .string ⟨z.su.toArray⟩, .bool z.fc, .bool z.ab, .slice z.A1 n1 z.c1, .slice z.A2 n2 z.c2, .slice z.A3 n3 z.c3] #[.string ⟨#[]⟩, .string ⟨#[]⟩, .bool false, .bool false, .slice none 0 0, .slice none 0 0, .slice none 0 0] u { z with is := S1' ++ y :: x :: (S2 ++ R) } → ltT x y = false → InvC v hv #[.string ⟨z.nm.toArray⟩, .string ⟨z.su.toArray⟩, .bool z.fc, .bool z.ab, .slice z.A1 n1 z.c1, .slice z.A2 n2 z.c2, .slice z.A3 n3 z.c3] #[.string ⟨#[]⟩, .string ⟨#[]⟩, .bool false, .bool false, .slice none 0 0, .slice none 0 0, .slice none 0 0] u { z with is := sortS ltT (z.is.take (t + 1)) ++ z.is.drop (t + 1) } from fun u hu h => by
      have hA : Asc ltT (S1' ++ [y]) := by have := HSA.out; rw [hSS] at this; exact this.left
      rw [HND.out (S1' ++ [y]) S2 hSS (fun a ha => swo_text.le (asc_last swo_text hA a ha) h) h2, hL]
      exact hu)
     have HS2 := hh (show ltT x y = true → S = S1' ++ (y :: S2) ∧ p = S1'.length ∧ ∀ a ∈ y :: S2, ltT x a = true from fun h => ⟨by rw [hSS]; simp, hp, fun a ha => by
      rcases List.mem_cons.1 ha with rfl | ha
      ·exact h
      ·exact h2 a ha⟩)
     have HME := hh (show ∀ m ∈ S1' ++ x :: y :: (S2 ++ R), m ∈ z.is from fun m hm => HSM.out m (by
      rw [hSS]
      simp only [List.mem_append, List.mem_cons, List.not_mem_nil, or_false] at hm ⊢
      rcases hm with h | h | h | h | h <;> simp [h]))
     have HPQ := hh hpq
     have HIQ := hh hinv
     have HW := hh (show InvC v hv #[.string ⟨z.nm.toArray⟩, .string ⟨z.su.toArray⟩, .bool z.fc, .bool z.ab, .slice z.A1 n1 z.c1, .slice z.A2 n2 z.c2, .slice z.A3 n3 z.c3] #[.string ⟨#[]⟩, .string ⟨#[]⟩, .bool false, .bool false, .slice none 0 0, .slice none 0 0, .slice none 0 0] ((wb.setCell ⟨g, q, none⟩ (.string ⟨y.toArray⟩)).setCell ⟨g, p, none⟩ (.string ⟨x.toArray⟩)) { z with is := S1' ++ x :: y :: (S2 ++ R) } from by
      have hr : wb.ownsRow hv 9 1 (.slice (some ⟨g, 0, none⟩) n1 z.c1) n1 (SX (S1' ++ y :: x :: (S2 ++ R))) := hrow0
      obtain ⟨o1, g1⟩ := hr.stored q (.string ⟨y.toArray⟩)
      obtain ⟨o2, g2⟩ := o1.stored p (.string ⟨x.toArray⟩)
      rw [sx_set, sx_set, hpq, hp, set_back, ← hp, ← hpq] at o2
      have hi := hinv
      exact hi.gb HGV.out HHV.out (gt_trans g1 g2) (OwC.is1 hi.own (S1' ++ x :: y :: (S2 ++ R)) (by simp) HGA.out (gt_trans g1 g2) (by dsimp only; rw [HGA.out, hlen]; exact o2)))
     have H9 := hh (show (wb.setCell ⟨g, q, none⟩ (.string ⟨y.toArray⟩)).cell? ⟨g, p, none⟩ = some (.string ⟨y.toArray⟩) ∧ (wb.setCell ⟨g, q, none⟩ (.string ⟨y.toArray⟩)).frozen? ⟨g, p, none⟩ = false from by
      obtain ⟨o1, g1⟩ := hrow0.stored q (.string ⟨y.toArray⟩)
      exact ⟨by rw [o1.cellAt p (by omega), List.getElem?_set_ne (by omega), hp]; simp [SX], o1.frozenAt p⟩)
     have fz0 := hrow0.frozenAt q
     have fz1 := hrow0.frozenAt p
     have HB0 := hh b0; have C0 := hh c0; have C1 := hh c1
     clear hinv hrow0 hSS h2 hq hpq hp hlen hL ax ay
     have HSR := hh (show wb.drew.cell? ⟨v.heap.size, 4, none⟩ = some (.slice (some ⟨g, 0, none⟩) n1 z.c1) ∧ wb.drew.cell? ⟨g, q, none⟩ = some (.string ⟨x.toArray⟩) ∧ wb.drew.cell? ⟨g, p, none⟩ = some (.string ⟨y.toArray⟩) from ⟨b0, c0, c1⟩)
     cases hxy : ltT x y with
     | false =>
      have hb1 : Op.bytesLess x y = false := by rw [less_mk]; exact hxy
      have HRF := hh (HRE.out _ HIQ.out.drew hxy)
      clear HRE HS2 HW
      go_wp2_with fail
      refine wp_region_held_drew (S := (fun w' => w'.cell? ⟨v.heap.size, 4, none⟩ = some (.slice (some ⟨g, 0, none⟩) n1 z.c1) ∧ w'.cell? ⟨g, q, none⟩ = some (.string ⟨x.toArray⟩) ∧ w'.cell? ⟨g, p, none⟩ = some (.string ⟨y.toArray⟩))) (by kernel_rfl) ?_ (fun hHeld => ?_)
      ·exact HSR.out
      refine tkp 0 rfl ?_
      refine tkp 1 rfl ?_
      refine tkp 2 rfl ?_
      refine tkp 3 rfl ?_
      refine tkp 4 rfl ?_
      refine tkp 5 rfl ?_
      refine tkp 6 rfl ?_
      refine tkp 7 rfl ?_
      refine tkp 8 rfl ?_
      refine tkp 9 rfl ?_
      refine tkp 10 rfl ?_
      refine tkp 11 rfl ?_
      refine tkp 12 rfl ?_
      refine tkp 13 rfl ?_
      refine tkp 14 rfl ?_
      refine tkp 15 rfl ?_
      refine wpAnyH_done (by kernel_rfl) ?_ _
      clear b0 c0 c1 fz0 fz1
      go_wp2
      go_roundw
      case rel => exact ⟨t + 1, by go_num, by omega, .inl HT.out.2.2, HRF.out⟩
      case measure => have := HT.out; simp [intOf]; omega
     | true =>
      have hb1 : Op.bytesLess x y = true := by rw [less_mk]; exact hxy
      have HS3 := hh (HS2.out hxy)
      clear HRE HS2
      go_wp2_with fail
      refine wp_region_held_drew (S := (fun w' => w'.cell? ⟨v.heap.size, 4, none⟩ = some (.slice (some ⟨g, 0, none⟩) n1 z.c1) ∧ w'.cell? ⟨g, q, none⟩ = some (.string ⟨x.toArray⟩) ∧ w'.cell? ⟨g, p, none⟩ = some (.string ⟨y.toArray⟩))) (by kernel_rfl) ?_ (fun hHeld => ?_)
      ·exact HSR.out
      refine tkp 0 rfl ?_
      refine tkp 1 rfl ?_
      refine tkp 2 rfl ?_
      refine tkp 3 rfl ?_
      refine tkp 4 rfl ?_
      refine tkp 5 rfl ?_
      refine tkp 6 rfl ?_
      refine tkp 7 rfl ?_
      refine tkp 8 rfl ?_
      refine tkp 9 rfl ?_
      refine tkp 10 rfl ?_
      refine tkp 11 rfl ?_
      refine tkp 12 rfl ?_
      refine tkp 13 rfl ?_
      refine tkp 14 rfl ?_
      refine tkp 15 rfl ?_
      refine wpAnyH_done (by kernel_rfl) ?_ _
      go_wp2_with fail
      go_region
      clear b0 c0 c1 fz0 fz1
      have hne : v.heap.size ≠ g := by have := HGV.out; have := HHV.out; omega
      have b9 : (wb.setCell ⟨g, q, none⟩ (.string ⟨y.toArray⟩)).cell? ⟨v.heap.size, 4, none⟩ = some (.slice (some ⟨g, 0, none⟩) n1 z.c1) := (World.cell?_setCell_other _ _ _ _ (by simp [hne.symm])).trans HB0.out
      obtain ⟨c9, f9⟩ := H9.out
      go_wp2
      go_roundw
      case rel => exact ⟨p, rfl, S1', y :: S2, HS3.out.1, HS3.out.2.1, HS3.out.2.2, by first | exact HW.out | exact HW.out.drew | exact HW.out.drew.drew⟩
      case measure => have := HPQ.out; simp [intOf]; omega
  ·have hltI : ¬ (t : Int) < (n1 : Int) := by omega
   have HE_is := hh (show InvC v hv #[.string ⟨z.nm.toArray⟩, .string ⟨z.su.toArray⟩, .bool z.fc, .bool z.ab, .slice z.A1 n1 z.c1, .slice z.A2 n2 z.c2, .slice z.A3 n3 z.c3] #[.string ⟨#[]⟩, .string ⟨#[]⟩, .bool false, .bool false, .slice none 0 0, .slice none 0 0, .slice none 0 0] wa { z with is := sortS ltT z.is } from by
    have h := hinv
    rw [List.take_of_length_le (by rw [← HN_is.out]; omega), List.drop_eq_nil_of_le (by rw [← HN_is.out]; omega), List.append_nil] at h
    exact h)
   clear hinv htx ht hlt
   go_wp2
   clear bx
   go_loopw [6] (fun i wr => ∃ t : Nat, i = .int .i64 (t : Int) ∧ 0 < t ∧ (t ≤ n2 ∨ t = 1) ∧ InvC v hv #[.string ⟨z.nm.toArray⟩, .string ⟨z.su.toArray⟩, .bool z.fc, .bool z.ab, .slice z.A1 n1 z.c1, .slice z.A2 n2 z.c2, .slice z.A3 n3 z.c3] #[.string ⟨#[]⟩, .string ⟨#[]⟩, .bool false, .bool false, .slice none 0 0, .slice none 0 0, .slice none 0 0] wr { z with is := sortS ltT z.is, fs := sortS ltF (z.fs.take t) ++ z.fs.drop t }) (fun i _ => n2 - (intOf i).toNat)
   case atStart => exact ⟨1, rfl, by omega, .inr rfl, by rw [one_sort]; exact HE_is.out⟩
   case round =>
    obtain ⟨t, rfl, ht, htx, hinv⟩ := hrel
    obtain ⟨wa, hwa⟩ : ∃ u, u = wr := ⟨_, rfl⟩
    subst hwa
    have HV1 := hh hinv
    have bx : wa.cell? ⟨v.heap.size, 5, none⟩ = some (.slice z.A2 n2 z.c2) := cell_of_row _ _ 5 _ _ _ hinv.box
    by_cases hlt : t < n2
    ·have hltI : (t : Int) < (n2 : Int) := by omega
     have htl : t < z.fs.length := by rw [← HN_fs.out]; exact hlt
     obtain ⟨x, hx⟩ : ∃ x, z.fs[t]? = some x := ⟨z.fs[t]'htl, List.getElem?_eq_getElem _⟩
     obtain ⟨S, hS⟩ : ∃ S, S = sortS ltF (z.fs.take t) := ⟨_, rfl⟩
     have hSl : S.length = t := by rw [hS, sortS_length, List.length_take]; omega
     have HSA := hh (show Asc ltF S from by rw [hS]; exact asc_sortS swo_fi _)
     obtain ⟨R, hR⟩ : ∃ R, R = z.fs.drop (t + 1) := ⟨_, rfl⟩
     have hd : z.fs.drop t = x :: R := by rw [hR, List.drop_eq_getElem_cons htl]; congr 1; exact (List.getElem?_eq_some_iff.1 hx).2
     have HND := hh (show ∀ S1 S2, S = S1 ++ S2 → (∀ y ∈ S1, ltF x y = false) → (∀ y ∈ S2, ltF x y = true) → sortS ltF (z.fs.take (t + 1)) ++ z.fs.drop (t + 1) = S1 ++ x :: (S2 ++ R) from fun S1 S2 h1 h2 h3 => by
      rw [List.take_add_one, hx, Option.toList_some, sortS_snoc, ← hS, h1, ins_at S1 S2 x h2 h3, hR]; simp only [List.append_assoc, List.cons_append])
     have HLN := hh (show S.length + 1 + R.length = n2 from by rw [hSl, hR, List.length_drop, HN_fs.out]; omega)
     have HSM := hh (show ∀ m, m ∈ S ∨ m = x ∨ m ∈ R → m ∈ z.fs from fun m hm => by
      rcases hm with h | rfl | h
      ·rw [hS] at h; exact List.mem_of_mem_take ((mem_sortS _).1 h)
      ·exact List.mem_of_getElem? hx
      ·rw [hR] at h; exact List.mem_of_mem_drop h)
     have HT := hh (show t < n2 ∧ 0 < t ∧ t + 1 ≤ n2 from ⟨hlt, ht, hlt⟩)
     have HIN := hh (show InvC v hv #[.string ⟨z.nm.toArray⟩, .string ⟨z.su.toArray⟩, .bool z.fc, .bool z.ab, .slice z.A1 n1 z.c1, .slice z.A2 n2 z.c2, .slice z.A3 n3 z.c3] #[.string ⟨#[]⟩, .string ⟨#[]⟩, .bool false, .bool false, .slice none 0 0, .slice none 0 0, .slice none 0 0] wa { z with is := sortS ltT z.is, fs := S ++ x :: ([] ++ R) } from by rw [List.nil_append, ← hd, hS]; exact hinv)
     have HST := hh hSl
     have hs1 : IntKind.i64.wrap ((t : Int) + 1) = ((t + 1 : Nat) : Int) := by rw [show (t : Int) + 1 = ((t + 1 : Nat) : Int) by omega]; exact IntWalk.i64_in _ (by omega)
     obtain ⟨g, hA, hgv, -⟩ := keep.own_some HOA_fs.out (by omega)
     have HGA := hh hA; have HGV := hh hgv
     clear hx hS hSl hR hd htl hlt ht htx hinv hA hgv
     go_wp2
     clear bx
     go_loopw [7] (fun i wr => ∃ q : Nat, i = .int .i64 (q : Int) ∧ ∃ S1 S2, S = S1 ++ S2 ∧ q = S1.length ∧ (∀ y ∈ S2, ltF x y = true) ∧ InvC v hv #[.string ⟨z.nm.toArray⟩, .string ⟨z.su.toArray⟩, .bool z.fc, .bool z.ab, .slice z.A1 n1 z.c1, .slice z.A2 n2 z.c2, .slice z.A3 n3 z.c3] #[.string ⟨#[]⟩, .string ⟨#[]⟩, .bool false, .bool false, .slice none 0 0, .slice none 0 0, .slice none 0 0] wr { z with is := sortS ltT z.is, fs := S1 ++ x :: (S2 ++ R) }) (fun i _ => (intOf i).toNat)
     case atStart => exact ⟨t, rfl, S, [], by simp, HST.out.symm, by simp, HIN.out⟩
     case round =>
      obtain ⟨q, rfl, S1, S2, hSS, hq, h2, hinv⟩ := hrel
      obtain ⟨wb, hwb⟩ : ∃ u, u = wr := ⟨_, rfl⟩
      subst hwb
      have HV2 := hh hinv
      have b0 : wb.cell? ⟨v.heap.size, 5, none⟩ = some (.slice (some ⟨g, 0, none⟩) n2 z.c2) := by rw [← HGA.out]; exact cell_of_row _ _ 5 _ _ _ hinv.box
      rcases List.eq_nil_or_concat S1 with h0 | ⟨S1', y, h0⟩
      ·have hqi : ¬ (0 : Int) < (q : Int) := by rw [h0] at hq; simp at hq; omega
       have hqd : decide ((0 : Int) < (q : Int)) = false := decide_eq_false hqi
       have hqn : decide (0 < q) = false := decide_eq_false (by omega)
       have HRE := hh (show InvC v hv #[.string ⟨z.nm.toArray⟩, .string ⟨z.su.toArray⟩, .bool z.fc, .bool z.ab, .slice z.A1 n1 z.c1, .slice z.A2 n2 z.c2, .slice z.A3 n3 z.c3] #[.string ⟨#[]⟩, .string ⟨#[]⟩, .bool false, .bool false, .slice none 0 0, .slice none 0 0, .slice none 0 0] wb { z with is := sortS ltT z.is, fs := sortS ltF (z.fs.take (t + 1)) ++ z.fs.drop (t + 1) } from by rw [HND.out S1 S2 hSS (by rw [h0]; simp) h2]; exact hinv)
       clear hinv h0 hSS h2 hq
       go_wp2_with fail
       refine wp_region_held_drew (S := (fun _ => True)) (by kernel_rfl) ?_ (fun hHeld => ?_)
       ·exact trivial
       refine tkp 0 rfl ?_
       refine tkp 1 rfl ?_
       refine tkp 2 rfl ?_
       refine tup 3 rfl ?_
       refine tup 4 rfl ?_
       refine tup 5 rfl ?_
       refine tup 6 rfl ?_
       refine tup 7 rfl ?_
       refine tup 8 rfl ?_
       refine tup 9 rfl ?_
       refine tup 10 rfl ?_
       refine tup 11 rfl ?_
       refine tup 12 rfl ?_
       refine tup 13 rfl ?_
       refine tup 14 rfl ?_
       refine tup 15 rfl ?_
       refine tup 16 rfl ?_
       refine tkp 17 rfl ?_
       refine wpAnyH_done (by kernel_rfl) ?_ _
       clear b0
       go_wp2
       go_roundw
       case rel => exact ⟨t + 1, by go_num, by omega, .inl HT.out.2.2, HRE.out.drew⟩
       case measure => have := HT.out; simp [intOf]; omega
      ·rw [List.concat_eq_append] at h0
       subst h0
       obtain ⟨p, hp⟩ : ∃ p, p = S1'.length := ⟨_, rfl⟩
       have hpq : q = p + 1 := by rw [hp]; simp at hq; omega
       have hL : S1' ++ [y] ++ x :: (S2 ++ R) = S1' ++ y :: x :: (S2 ++ R) := by simp
       have hlen : (S1' ++ y :: x :: (S2 ++ R)).length = n2 := by have := HLN.out; rw [hSS] at this; simp at this ⊢; omega
       rw [hL] at hinv
       have hrow0 := hinv.own.2.1
       dsimp only at hrow0
       rw [HGA.out, hlen] at hrow0
       have hqn1 : q < n2 := by rw [← hlen, hpq, hp]; simp
       have hpn1 : p < n2 := by rw [← hlen, hp]; simp
       have hqi : (0 : Int) < (q : Int) := by omega
       have hqd : decide ((0 : Int) < (q : Int)) = true := decide_eq_true hqi
       have hqn : decide (0 < q) = true := decide_eq_true (by omega)
       have hpl : q < n2 := by rw [← hlen, hpq, hp]; simp
       have hpn : (p : Int) < (n2 : Int) := by omega
       have hqN : (q : Int) < (n2 : Int) := by omega
       have hp0 : (0 : Int) ≤ (p : Int) := by omega
       have hq0 : (0 : Int) ≤ (q : Int) := by omega
       have hsq : IntKind.i64.wrap ((q : Int) - 1) = (p : Int) := by rw [show (q : Int) - 1 = (p : Int) by omega]; exact IntWalk.i64_in _ (by omega)
       have ay : (S1' ++ y :: x :: (S2 ++ R))[p]? = some y := by rw [hp]; exact at_len _ _ _
       have ax : (S1' ++ y :: x :: (S2 ++ R))[q]? = some x := by rw [hpq, hp, List.getElem?_append_right (by omega), Nat.add_sub_cancel_left]; rfl
       have HRE := hh (show ∀ u, InvC v hv #[.string ⟨z.nm.toArray⟩, .string ⟨z.su.toArray⟩, .bool z.fc, .bool z.ab, .slice z.A1 n1 z.c1, .slice z.A2 n2 z.c2, .slice z.A3 n3 z.c3] #[.string ⟨#[]⟩, .string ⟨#[]⟩, .bool false, .bool false, .slice none 0 0, .slice none 0 0, .slice none 0 0] u { z with is := sortS ltT z.is, fs := S1' ++ y :: x :: (S2 ++ R) } → ltF x y = false → InvC v hv #[.string ⟨z.nm.toArray⟩, .string ⟨z.su.toArray⟩, .bool z.fc, .bool z.ab, .slice z.A1 n1 z.c1, .slice z.A2 n2 z.c2, .slice z.A3 n3 z.c3] #[.string ⟨#[]⟩, .string ⟨#[]⟩, .bool false, .bool false, .slice none 0 0, .slice none 0 0, .slice none 0 0] u { z with is := sortS ltT z.is, fs := sortS ltF (z.fs.take (t + 1)) ++ z.fs.drop (t + 1) } from fun u hu h => by
        have hA : Asc ltF (S1' ++ [y]) := by have := HSA.out; rw [hSS] at this; exact this.left
        rw [HND.out (S1' ++ [y]) S2 hSS (fun a ha => swo_fi.le (asc_last swo_fi hA a ha) h) h2, hL]
        exact hu)
       have HS2 := hh (show ltF x y = true → S = S1' ++ (y :: S2) ∧ p = S1'.length ∧ ∀ a ∈ y :: S2, ltF x a = true from fun h => ⟨by rw [hSS]; simp, hp, fun a ha => by
        rcases List.mem_cons.1 ha with rfl | ha
        ·exact h
        ·exact h2 a ha⟩)
       have HME := hh (show ∀ m ∈ S1' ++ x :: y :: (S2 ++ R), m ∈ z.fs from fun m hm => HSM.out m (by
        rw [hSS]
        simp only [List.mem_append, List.mem_cons, List.not_mem_nil, or_false] at hm ⊢
        rcases hm with h | h | h | h | h <;> simp [h]))
       have HPQ := hh hpq
       have HIQ := hh hinv
       have HSW := hh (fun u (hu : InvC v hv #[.string ⟨z.nm.toArray⟩, .string ⟨z.su.toArray⟩, .bool z.fc, .bool z.ab, .slice z.A1 n1 z.c1, .slice z.A2 n2 z.c2, .slice z.A3 n3 z.c3] #[.string ⟨#[]⟩, .string ⟨#[]⟩, .bool false, .bool false, .slice none 0 0, .slice none 0 0, .slice none 0 0] u { z with is := sortS ltT z.is, fs := S1' ++ y :: x :: (S2 ++ R) }) => sw_fs (x := x) (y := y) (p := p) (q := q) (c := { z with is := sortS ltT z.is }) hu HGA.out HGV.out HHV.out (by rw [hlen]; exact hpn1) (by rw [hlen]; exact hqn1))
       have HEQ := hh (show ((S1' ++ y :: x :: (S2 ++ R)).set q y).set p x = S1' ++ x :: y :: (S2 ++ R) from by rw [hpq, hp, set_back])
       have HAP := hh (show ((S1' ++ y :: x :: (S2 ++ R)).set q y)[p]? = some y from by rw [List.getElem?_set_ne (by omega)]; exact ay)
       have AX := hh ax; have AY := hh ay; have HLE := hh hlen
       have HB := hh (fun u (hu : InvC v hv #[.string ⟨z.nm.toArray⟩, .string ⟨z.su.toArray⟩, .bool z.fc, .bool z.ab, .slice z.A1 n1 z.c1, .slice z.A2 n2 z.c2, .slice z.A3 n3 z.c3] #[.string ⟨#[]⟩, .string ⟨#[]⟩, .bool false, .bool false, .slice none 0 0, .slice none 0 0, .slice none 0 0] u { z with is := sortS ltT z.is, fs := S1' ++ y :: x :: (S2 ++ R) }) => show u.cell? ⟨v.heap.size, 5, none⟩ = some (.slice (some ⟨g, 0, none⟩) n2 z.c2) from by rw [← HGA.out]; exact cell_of_row _ _ 5 _ _ _ hu.box)
       have HCX := hh (fun u (hu : InvC v hv #[.string ⟨z.nm.toArray⟩, .string ⟨z.su.toArray⟩, .bool z.fc, .bool z.ab, .slice z.A1 n1 z.c1, .slice z.A2 n2 z.c2, .slice z.A3 n3 z.c3] #[.string ⟨#[]⟩, .string ⟨#[]⟩, .bool false, .bool false, .slice none 0 0, .slice none 0 0, .slice none 0 0] u { z with is := sortS ltT z.is, fs := S1' ++ y :: x :: (S2 ++ R) }) => show u.cell? ⟨g, q * 4, none⟩ = some (.string ⟨x.nm.toArray⟩) ∧ u.cell? ⟨g, q * 4 + 1, none⟩ = some (.int .i64 x.k) ∧ u.cell? ⟨g, q * 4 + 2, none⟩ = some (.string ⟨x.cl.toArray⟩) ∧ u.cell? ⟨g, q * 4 + 3, none⟩ = some (.bool x.st) from by
        have r := (HSW.out u hu).1.range len_fi AX.out
        exact ⟨by simpa using r 0 _ rfl, r 1 _ rfl, r 2 _ rfl, r 3 _ rfl⟩)
       have HCY := hh (fun u (hu : InvC v hv #[.string ⟨z.nm.toArray⟩, .string ⟨z.su.toArray⟩, .bool z.fc, .bool z.ab, .slice z.A1 n1 z.c1, .slice z.A2 n2 z.c2, .slice z.A3 n3 z.c3] #[.string ⟨#[]⟩, .string ⟨#[]⟩, .bool false, .bool false, .slice none 0 0, .slice none 0 0, .slice none 0 0] u { z with is := sortS ltT z.is, fs := S1' ++ y :: x :: (S2 ++ R) }) => show u.cell? ⟨g, p * 4, none⟩ = some (.string ⟨y.nm.toArray⟩) ∧ u.cell? ⟨g, p * 4 + 1, none⟩ = some (.int .i64 y.k) ∧ u.cell? ⟨g, p * 4 + 2, none⟩ = some (.string ⟨y.cl.toArray⟩) ∧ u.cell? ⟨g, p * 4 + 3, none⟩ = some (.bool y.st) from by
        have r := (HSW.out u hu).1.range len_fi AY.out
        exact ⟨by simpa using r 0 _ rfl, r 1 _ rfl, r 2 _ rfl, r 3 _ rfl⟩)
       have HGL := hh (show g < wb.heap.size from by obtain ⟨-, cur, hc⟩ := own_blk hrow0; exact blk_lt hc)
       obtain ⟨cx, ecx⟩ : ∃ c, c = fiC x := ⟨_, rfl⟩
       obtain ⟨cy, ecy⟩ : ∃ c, c = fiC y := ⟨_, rfl⟩
       have ocy : ∀ v ∈ cy, v.oneCell' = true := by rw [ecy]; exact one_fi y
       have lcx : cx.length = 4 := by rw [ecx]; rfl
       have lcy : cy.length = 4 := by rw [ecy]; rfl
       have hcx : (Tryz.prog.info? 58).map (·.size) = some cx.length := by rw [size_fi, lcx]
       have hcy : (Tryz.prog.info? 58).map (·.size) = some cy.length := by rw [size_fi, lcy]
       have hu := Tryz.underlying58
       have ECX := hh ecx; have ECY := hh ecy; have HUT := hh hu
       clear hrow0 hSS h2 hq hpq hp hlen hL ax ay ecx ecy hinv hu
       cases hxy : ltF x y with
       | false =>
        have HRF := hh (fun u h => HRE.out u h hxy)
        clear HRE HS2
        have hb1 : Op.bytesLess x.nm y.nm = false := by rw [less_mk]; exact hxy
        go_wp2_with fail
        refine wp_region_held_drew (S := (fun w' => w'.cell? ⟨v.heap.size, 5, none⟩ = some (.slice (some ⟨g, 0, none⟩) n2 z.c2) ∧ w'.cell? ⟨g, q * 4, none⟩ = some (.string ⟨x.nm.toArray⟩) ∧ w'.cell? ⟨g, p * 4, none⟩ = some (.string ⟨y.nm.toArray⟩))) (by kernel_rfl) ?_ (fun hHeld => ?_)
        ·exact ⟨HB.out _ HIQ.out.drew, (HCX.out _ HIQ.out).1, (HCY.out _ HIQ.out).1⟩
        refine tkp 0 rfl ?_
        refine tkp 1 rfl ?_
        refine tkp 2 rfl ?_
        refine tkp 3 rfl ?_
        refine tkp 4 rfl ?_
        refine tkp 5 rfl ?_
        refine tkp 6 rfl ?_
        refine tkp 7 rfl ?_
        refine tkp 8 rfl ?_
        refine tkp 9 rfl ?_
        refine tkp 10 rfl ?_
        refine tkp 11 rfl ?_
        refine tkp 12 rfl ?_
        refine tkp 13 rfl ?_
        refine tkp 14 rfl ?_
        refine tkp 15 rfl ?_
        refine tkp 16 rfl ?_
        refine tkp 17 rfl ?_
        refine wpAnyH_done (by kernel_rfl) ?_ _
        clear b0
        go_wp2
        go_roundw
        case rel => exact ⟨t + 1, by go_num, by omega, .inl HT.out.2.2, HRF.out _ HIQ.out.drew⟩
        case measure => have := HT.out; simp [intOf]; omega
       | true =>
        have HS3 := hh (HS2.out hxy)
        clear HRE HS2
        have hb1 : Op.bytesLess x.nm y.nm = true := by rw [less_mk]; exact hxy
        go_wp2_with fail
        refine wp_region_held_drew (S := (fun w' => w'.cell? ⟨v.heap.size, 5, none⟩ = some (.slice (some ⟨g, 0, none⟩) n2 z.c2) ∧ w'.cell? ⟨g, q * 4, none⟩ = some (.string ⟨x.nm.toArray⟩) ∧ w'.cell? ⟨g, p * 4, none⟩ = some (.string ⟨y.nm.toArray⟩))) (by kernel_rfl) ?_ (fun hHeld => ?_)
        ·exact ⟨HB.out _ HIQ.out.drew, (HCX.out _ HIQ.out).1, (HCY.out _ HIQ.out).1⟩
        refine tkp 0 rfl ?_
        refine tkp 1 rfl ?_
        refine tkp 2 rfl ?_
        refine tkp 3 rfl ?_
        refine tkp 4 rfl ?_
        refine tkp 5 rfl ?_
        refine tkp 6 rfl ?_
        refine tkp 7 rfl ?_
        refine tkp 8 rfl ?_
        refine tkp 9 rfl ?_
        refine tkp 10 rfl ?_
        refine tkp 11 rfl ?_
        refine tkp 12 rfl ?_
        refine tkp 13 rfl ?_
        refine tkp 14 rfl ?_
        refine tkp 15 rfl ?_
        refine tkp 16 rfl ?_
        refine tkp 17 rfl ?_
        refine wpAnyH_done (by kernel_rfl) ?_ _
        have HI0x := hh HIQ.out
        obtain ⟨x0, x1, x2, x3⟩ := HCX.out _ HI0x.out
        have b1 := HB.out _ HI0x.out
        obtain ⟨wx, hwx⟩ : ∃ u, u = wb.alloc (.cells #[.string ⟨x.nm.toArray⟩, .int .i64 x.k, .string ⟨x.cl.toArray⟩, .bool x.st] 58) := ⟨_, rfl⟩
        have HIX := hh (show InvC v hv #[.string ⟨z.nm.toArray⟩, .string ⟨z.su.toArray⟩, .bool z.fc, .bool z.ab, .slice z.A1 n1 z.c1, .slice z.A2 n2 z.c2, .slice z.A3 n3 z.c3] #[.string ⟨#[]⟩, .string ⟨#[]⟩, .bool false, .bool false, .slice none 0 0, .slice none 0 0, .slice none 0 0] wx { z with is := sortS ltT z.is, fs := S1' ++ y :: x :: (S2 ++ R) } from by rw [hwx]; exact HI0x.out.below ((Below.refl _ _).alloc (Nat.le_refl _) _))
        have hxb0 : wx.heap[wb.heap.size]? = some (.cells #[.string ⟨x.nm.toArray⟩, .int .i64 x.k, .string ⟨x.cl.toArray⟩, .bool x.st] 58 (0, 0)) := by rw [hwx]; exact heap_alloc_new _ _
        have HXB := hh hxb0; have HWX := hh hwx
        have hne0 : wb.heap.size ≠ g := by have := HGL.out; omega
        have HNE := hh hne0
        clear hwx hxb0 hne0
        go_wp2_with fail
        rw [← HWX.out]
        clear x0 x1 x2 x3 b0 b1
        have ry : wx.rangeAt g (p * 4) cy := by rw [ECY.out]; exact (HSW.out _ HIX.out).1.range len_fi AY.out
        have hS9 := HSW.out _ HIX.out
        have tq : wx.there g (q * 4) 4 := hS9.1.there len_fi (by rw [HLE.out]; exact hqn1)
        refine wp_region_held_drew (S := (fun w' => w'.cell? ⟨v.heap.size, 5, none⟩ = some (.slice (some ⟨g, 0, none⟩) n2 z.c2) ∧ w'.rangeAt g (p * 4) cy)) (by kernel_rfl) ?_ (fun hHeld => ?_)
        ·exact ⟨HB.out _ HIX.out.drew.drew, ry⟩
        refine tkp 0 rfl ?_
        refine tkp 1 rfl ?_
        refine tkp 2 rfl ?_
        refine tkp 3 rfl ?_
        refine tkp 4 rfl ?_
        refine tkp 5 rfl ?_
        refine tkp 6 rfl ?_
        refine tkp 7 rfl ?_
        refine tld 8 g (p * 4) cy rfl rfl rfl (fun w hS => hS.2) HUT.out hcy ?_
        try simp only [puts]
        refine tkp 9 rfl ?_
        have hbox9 : (wx.drew.drew.setCells g (q * 4) cy).heap[v.heap.size]? = _ := gb_at (by rw [ECY.out]; exact (HSW.out _ HIX.out.drew.drew).2.1) HIX.out.drew.drew.box (by have := HGV.out; have := HHV.out; omega)
        have hcell9 : (wx.drew.drew.setCells g (q * 4) cy).cell? ⟨v.heap.size, 5, none⟩ = some (.slice (some ⟨g, 0, none⟩) n2 z.c2) := by rw [← HGA.out]; exact cell_of_row _ _ 5 _ _ _ hbox9
        have hrange9 : (wx.drew.drew.setCells g (q * 4) cy).rangeAt g (p * 4) cy := World.rangeAt_setCells_apart (w := wx.drew.drew) ry _ _ _ (.inr (.inl (by have := HPQ.out; rw [lcy]; omega)))
        refine tst 10 g (q * 4) cy rfl rfl rfl rfl (by rw [lcy]; exact tq) hcy ocy ⟨hcell9, hrange9⟩ (fun _ => ?_)
        try simp only [puts]
        refine wpAnyH_done (by kernel_rfl) ?_ _
        obtain ⟨w9, hw9⟩ : ∃ u, u = wx.drew.drew.setCells g (q * 4) cy := ⟨_, rfl⟩
        have hI := HIX.out.drew.drew
        have hS := HSW.out _ hI
        have hr9 : Row 58 4 fiC hv g (S1' ++ y :: x :: (S2 ++ R)).length z.c2 w9 ((S1' ++ y :: x :: (S2 ++ R)).set q y) := by rw [hw9, ECY.out]; exact hS.2.2.1
        have hxb : w9.heap[wb.heap.size]? = some (.cells #[.string ⟨x.nm.toArray⟩, .int .i64 x.k, .string ⟨x.cl.toArray⟩, .bool x.st] 58 (0, 0)) := by rw [hw9, ECY.out]; exact gb_at hS.2.1 HXB.out HNE.out
        have h9 : w9.cell? ⟨v.heap.size, 5, none⟩ = some (.slice (some ⟨g, 0, none⟩) n2 z.c2) := by rw [hw9]; exact hcell9
        have hend : InvC v hv #[.string ⟨z.nm.toArray⟩, .string ⟨z.su.toArray⟩, .bool z.fc, .bool z.ab, .slice z.A1 n1 z.c1, .slice z.A2 n2 z.c2, .slice z.A3 n3 z.c3] #[.string ⟨#[]⟩, .string ⟨#[]⟩, .bool false, .bool false, .slice none 0 0, .slice none 0 0, .slice none 0 0] (w9.setCells g (p * 4) (fiC x)) { z with is := sortS ltT z.is, fs := S1' ++ x :: y :: (S2 ++ R) } := by rw [hw9, ECY.out, ← HEQ.out]; exact hS.2.2.2
        have HEND := hh hend
        rw [← hw9]
        have e0 : w9.cell? ⟨wb.heap.size, 0, none⟩ = some (.string ⟨x.nm.toArray⟩) := cell_of_row _ _ 0 _ _ _ hxb
        have e1 : w9.cell? ⟨wb.heap.size, 1, none⟩ = some (.int .i64 x.k) := cell_of_row _ _ 1 _ _ _ hxb
        have e2 : w9.cell? ⟨wb.heap.size, 2, none⟩ = some (.string ⟨x.cl.toArray⟩) := cell_of_row _ _ 2 _ _ _ hxb
        have e3 : w9.cell? ⟨wb.heap.size, 3, none⟩ = some (.bool x.st) := cell_of_row _ _ 3 _ _ _ hxb
        have f0 := hr9.own.frozenAt (p * 4)
        have f1 := hr9.own.frozenAt (p * 4 + 1)
        have f2 := hr9.own.frozenAt (p * 4 + 2)
        have f3 := hr9.own.frozenAt (p * 4 + 3)
        obtain ⟨y0, y1, y2, y3⟩ : w9.cell? ⟨g, p * 4, none⟩ = some (.string ⟨y.nm.toArray⟩) ∧ w9.cell? ⟨g, p * 4 + 1, none⟩ = some (.int .i64 y.k) ∧ w9.cell? ⟨g, p * 4 + 2, none⟩ = some (.string ⟨y.cl.toArray⟩) ∧ w9.cell? ⟨g, p * 4 + 3, none⟩ = some (.bool y.st) := by
         have r := hr9.range len_fi HAP.out
         exact ⟨by simpa using r 0 _ rfl, r 1 _ rfl, r 2 _ rfl, r 3 _ rfl⟩
        clear hend hS hI hS9 hHeld hbox9 hcell9 hrange9 tq ry hxb hr9 hw9
        go_wp2
        go_roundw
        case rel => exact ⟨p, rfl, S1', y :: S2, HS3.out.1, HS3.out.2.1, HS3.out.2.2, by first | exact HEND.out | simpa [World.setCells, fiC] using HEND.out⟩
        case measure => have := HPQ.out; simp [intOf]; omega
    ·have hltI : ¬ (t : Int) < (n2 : Int) := by omega
     have HE_fs := hh (show InvC v hv #[.string ⟨z.nm.toArray⟩, .string ⟨z.su.toArray⟩, .bool z.fc, .bool z.ab, .slice z.A1 n1 z.c1, .slice z.A2 n2 z.c2, .slice z.A3 n3 z.c3] #[.string ⟨#[]⟩, .string ⟨#[]⟩, .bool false, .bool false, .slice none 0 0, .slice none 0 0, .slice none 0 0] wa { z with is := sortS ltT z.is, fs := sortS ltF z.fs } from by
      have h := hinv
      rw [List.take_of_length_le (by rw [← HN_fs.out]; omega), List.drop_eq_nil_of_le (by rw [← HN_fs.out]; omega), List.append_nil] at h
      exact h)
     clear hinv htx ht hlt
     go_wp2
     clear bx
     go_loopw [9] (fun i wr => ∃ t : Nat, i = .int .i64 (t : Int) ∧ 0 < t ∧ (t ≤ n3 ∨ t = 1) ∧ InvC v hv #[.string ⟨z.nm.toArray⟩, .string ⟨z.su.toArray⟩, .bool z.fc, .bool z.ab, .slice z.A1 n1 z.c1, .slice z.A2 n2 z.c2, .slice z.A3 n3 z.c3] #[.string ⟨#[]⟩, .string ⟨#[]⟩, .bool false, .bool false, .slice none 0 0, .slice none 0 0, .slice none 0 0] wr { z with is := sortS ltT z.is, fs := sortS ltF z.fs, ms := sortS ltM (z.ms.take t) ++ z.ms.drop t }) (fun i _ => n3 - (intOf i).toNat)
     case atStart => exact ⟨1, rfl, by omega, .inr rfl, by rw [one_sort]; exact HE_fs.out⟩
     case round =>
      obtain ⟨t, rfl, ht, htx, hinv⟩ := hrel
      obtain ⟨wa, hwa⟩ : ∃ u, u = wr := ⟨_, rfl⟩
      subst hwa
      have HV1 := hh hinv
      have bx : wa.cell? ⟨v.heap.size, 6, none⟩ = some (.slice z.A3 n3 z.c3) := cell_of_row _ _ 6 _ _ _ hinv.box
      by_cases hlt : t < n3
      ·have hltI : (t : Int) < (n3 : Int) := by omega
       have htl : t < z.ms.length := by rw [← HN_ms.out]; exact hlt
       obtain ⟨x, hx⟩ : ∃ x, z.ms[t]? = some x := ⟨z.ms[t]'htl, List.getElem?_eq_getElem _⟩
       obtain ⟨S, hS⟩ : ∃ S, S = sortS ltM (z.ms.take t) := ⟨_, rfl⟩
       have hSl : S.length = t := by rw [hS, sortS_length, List.length_take]; omega
       have HSA := hh (show Asc ltM S from by rw [hS]; exact asc_sortS swo_me _)
       obtain ⟨R, hR⟩ : ∃ R, R = z.ms.drop (t + 1) := ⟨_, rfl⟩
       have hd : z.ms.drop t = x :: R := by rw [hR, List.drop_eq_getElem_cons htl]; congr 1; exact (List.getElem?_eq_some_iff.1 hx).2
       have HND := hh (show ∀ S1 S2, S = S1 ++ S2 → (∀ y ∈ S1, ltM x y = false) → (∀ y ∈ S2, ltM x y = true) → sortS ltM (z.ms.take (t + 1)) ++ z.ms.drop (t + 1) = S1 ++ x :: (S2 ++ R) from fun S1 S2 h1 h2 h3 => by
        rw [List.take_add_one, hx, Option.toList_some, sortS_snoc, ← hS, h1, ins_at S1 S2 x h2 h3, hR]; simp only [List.append_assoc, List.cons_append])
       have HLN := hh (show S.length + 1 + R.length = n3 from by rw [hSl, hR, List.length_drop, HN_ms.out]; omega)
       have HSM := hh (show ∀ m, m ∈ S ∨ m = x ∨ m ∈ R → m ∈ z.ms from fun m hm => by
        rcases hm with h | rfl | h
        ·rw [hS] at h; exact List.mem_of_mem_take ((mem_sortS _).1 h)
        ·exact List.mem_of_getElem? hx
        ·rw [hR] at h; exact List.mem_of_mem_drop h)
       have HT := hh (show t < n3 ∧ 0 < t ∧ t + 1 ≤ n3 from ⟨hlt, ht, hlt⟩)
       have HIN := hh (show InvC v hv #[.string ⟨z.nm.toArray⟩, .string ⟨z.su.toArray⟩, .bool z.fc, .bool z.ab, .slice z.A1 n1 z.c1, .slice z.A2 n2 z.c2, .slice z.A3 n3 z.c3] #[.string ⟨#[]⟩, .string ⟨#[]⟩, .bool false, .bool false, .slice none 0 0, .slice none 0 0, .slice none 0 0] wa { z with is := sortS ltT z.is, fs := sortS ltF z.fs, ms := S ++ x :: ([] ++ R) } from by rw [List.nil_append, ← hd, hS]; exact hinv)
       have HST := hh hSl
       have hs1 : IntKind.i64.wrap ((t : Int) + 1) = ((t + 1 : Nat) : Int) := by rw [show (t : Int) + 1 = ((t + 1 : Nat) : Int) by omega]; exact IntWalk.i64_in _ (by omega)
       obtain ⟨g, hA, hgv, -⟩ := keep.own_some HOA_ms.out (by omega)
       have HGA := hh hA; have HGV := hh hgv
       clear hx hS hSl hR hd htl hlt ht htx hinv hA hgv
       go_wp2
       clear bx
       go_loopw [10] (fun i wr => ∃ q : Nat, i = .int .i64 (q : Int) ∧ ∃ S1 S2, S = S1 ++ S2 ∧ q = S1.length ∧ (∀ y ∈ S2, ltM x y = true) ∧ InvC v hv #[.string ⟨z.nm.toArray⟩, .string ⟨z.su.toArray⟩, .bool z.fc, .bool z.ab, .slice z.A1 n1 z.c1, .slice z.A2 n2 z.c2, .slice z.A3 n3 z.c3] #[.string ⟨#[]⟩, .string ⟨#[]⟩, .bool false, .bool false, .slice none 0 0, .slice none 0 0, .slice none 0 0] wr { z with is := sortS ltT z.is, fs := sortS ltF z.fs, ms := S1 ++ x :: (S2 ++ R) }) (fun i _ => (intOf i).toNat)
       case atStart => exact ⟨t, rfl, S, [], by simp, HST.out.symm, by simp, HIN.out⟩
       case round =>
        obtain ⟨q, rfl, S1, S2, hSS, hq, h2, hinv⟩ := hrel
        obtain ⟨wb, hwb⟩ : ∃ u, u = wr := ⟨_, rfl⟩
        subst hwb
        have HV2 := hh hinv
        have b0 : wb.cell? ⟨v.heap.size, 6, none⟩ = some (.slice (some ⟨g, 0, none⟩) n3 z.c3) := by rw [← HGA.out]; exact cell_of_row _ _ 6 _ _ _ hinv.box
        rcases List.eq_nil_or_concat S1 with h0 | ⟨S1', y, h0⟩
        ·have hqi : ¬ (0 : Int) < (q : Int) := by rw [h0] at hq; simp at hq; omega
         have hqd : decide ((0 : Int) < (q : Int)) = false := decide_eq_false hqi
         have hqn : decide (0 < q) = false := decide_eq_false (by omega)
         have HRE := hh (show InvC v hv #[.string ⟨z.nm.toArray⟩, .string ⟨z.su.toArray⟩, .bool z.fc, .bool z.ab, .slice z.A1 n1 z.c1, .slice z.A2 n2 z.c2, .slice z.A3 n3 z.c3] #[.string ⟨#[]⟩, .string ⟨#[]⟩, .bool false, .bool false, .slice none 0 0, .slice none 0 0, .slice none 0 0] wb { z with is := sortS ltT z.is, fs := sortS ltF z.fs, ms := sortS ltM (z.ms.take (t + 1)) ++ z.ms.drop (t + 1) } from by rw [HND.out S1 S2 hSS (by rw [h0]; simp) h2]; exact hinv)
         clear hinv h0 hSS h2 hq
         go_wp2_with fail
         refine wp_region_held_drew (S := (fun _ => True)) (by kernel_rfl) ?_ (fun hHeld => ?_)
         ·exact trivial
         refine tkp 0 rfl ?_
         refine tkp 1 rfl ?_
         refine tkp 2 rfl ?_
         refine tup 3 rfl ?_
         refine tup 4 rfl ?_
         refine tup 5 rfl ?_
         refine tup 6 rfl ?_
         refine tup 7 rfl ?_
         refine tup 8 rfl ?_
         refine tup 9 rfl ?_
         refine tup 10 rfl ?_
         refine tup 11 rfl ?_
         refine tup 12 rfl ?_
         refine tup 13 rfl ?_
         refine tup 14 rfl ?_
         refine tkp 15 rfl ?_
         refine wpAnyH_done (by kernel_rfl) ?_ _
         clear b0
         go_wp2
         go_roundw
         case rel => exact ⟨t + 1, by go_num, by omega, .inl HT.out.2.2, HRE.out.drew⟩
         case measure => have := HT.out; simp [intOf]; omega
        ·rw [List.concat_eq_append] at h0
         subst h0
         obtain ⟨p, hp⟩ : ∃ p, p = S1'.length := ⟨_, rfl⟩
         have hpq : q = p + 1 := by rw [hp]; simp at hq; omega
         have hL : S1' ++ [y] ++ x :: (S2 ++ R) = S1' ++ y :: x :: (S2 ++ R) := by simp
         have hlen : (S1' ++ y :: x :: (S2 ++ R)).length = n3 := by have := HLN.out; rw [hSS] at this; simp at this ⊢; omega
         rw [hL] at hinv
         have hrow0 := hinv.own.2.2.1
         dsimp only at hrow0
         rw [HGA.out, hlen] at hrow0
         have hqn1 : q < n3 := by rw [← hlen, hpq, hp]; simp
         have hpn1 : p < n3 := by rw [← hlen, hp]; simp
         have hqi : (0 : Int) < (q : Int) := by omega
         have hqd : decide ((0 : Int) < (q : Int)) = true := decide_eq_true hqi
         have hqn : decide (0 < q) = true := decide_eq_true (by omega)
         have hpl : q < n3 := by rw [← hlen, hpq, hp]; simp
         have hpn : (p : Int) < (n3 : Int) := by omega
         have hqN : (q : Int) < (n3 : Int) := by omega
         have hp0 : (0 : Int) ≤ (p : Int) := by omega
         have hq0 : (0 : Int) ≤ (q : Int) := by omega
         have hsq : IntKind.i64.wrap ((q : Int) - 1) = (p : Int) := by rw [show (q : Int) - 1 = (p : Int) by omega]; exact IntWalk.i64_in _ (by omega)
         have ay : (S1' ++ y :: x :: (S2 ++ R))[p]? = some y := by rw [hp]; exact at_len _ _ _
         have ax : (S1' ++ y :: x :: (S2 ++ R))[q]? = some x := by rw [hpq, hp, List.getElem?_append_right (by omega), Nat.add_sub_cancel_left]; rfl
         have HRE := hh (show ∀ u, InvC v hv #[.string ⟨z.nm.toArray⟩, .string ⟨z.su.toArray⟩, .bool z.fc, .bool z.ab, .slice z.A1 n1 z.c1, .slice z.A2 n2 z.c2, .slice z.A3 n3 z.c3] #[.string ⟨#[]⟩, .string ⟨#[]⟩, .bool false, .bool false, .slice none 0 0, .slice none 0 0, .slice none 0 0] u { z with is := sortS ltT z.is, fs := sortS ltF z.fs, ms := S1' ++ y :: x :: (S2 ++ R) } → ltM x y = false → InvC v hv #[.string ⟨z.nm.toArray⟩, .string ⟨z.su.toArray⟩, .bool z.fc, .bool z.ab, .slice z.A1 n1 z.c1, .slice z.A2 n2 z.c2, .slice z.A3 n3 z.c3] #[.string ⟨#[]⟩, .string ⟨#[]⟩, .bool false, .bool false, .slice none 0 0, .slice none 0 0, .slice none 0 0] u { z with is := sortS ltT z.is, fs := sortS ltF z.fs, ms := sortS ltM (z.ms.take (t + 1)) ++ z.ms.drop (t + 1) } from fun u hu h => by
          have hA : Asc ltM (S1' ++ [y]) := by have := HSA.out; rw [hSS] at this; exact this.left
          rw [HND.out (S1' ++ [y]) S2 hSS (fun a ha => swo_me.le (asc_last swo_me hA a ha) h) h2, hL]
          exact hu)
         have HS2 := hh (show ltM x y = true → S = S1' ++ (y :: S2) ∧ p = S1'.length ∧ ∀ a ∈ y :: S2, ltM x a = true from fun h => ⟨by rw [hSS]; simp, hp, fun a ha => by
          rcases List.mem_cons.1 ha with rfl | ha
          ·exact h
          ·exact h2 a ha⟩)
         have HME := hh (show ∀ m ∈ S1' ++ x :: y :: (S2 ++ R), m ∈ z.ms from fun m hm => HSM.out m (by
          rw [hSS]
          simp only [List.mem_append, List.mem_cons, List.not_mem_nil, or_false] at hm ⊢
          rcases hm with h | h | h | h | h <;> simp [h]))
         have HPQ := hh hpq
         have HIQ := hh hinv
         have HSW := hh (fun u (hu : InvC v hv #[.string ⟨z.nm.toArray⟩, .string ⟨z.su.toArray⟩, .bool z.fc, .bool z.ab, .slice z.A1 n1 z.c1, .slice z.A2 n2 z.c2, .slice z.A3 n3 z.c3] #[.string ⟨#[]⟩, .string ⟨#[]⟩, .bool false, .bool false, .slice none 0 0, .slice none 0 0, .slice none 0 0] u { z with is := sortS ltT z.is, fs := sortS ltF z.fs, ms := S1' ++ y :: x :: (S2 ++ R) }) => sw_ms (x := x) (y := y) (p := p) (q := q) (c := { z with is := sortS ltT z.is, fs := sortS ltF z.fs }) hu HGA.out HGV.out HHV.out (by rw [hlen]; exact hpn1) (by rw [hlen]; exact hqn1) (by simp) (by simp))
         have HEQ := hh (show ((S1' ++ y :: x :: (S2 ++ R)).set q y).set p x = S1' ++ x :: y :: (S2 ++ R) from by rw [hpq, hp, set_back])
         have HAP := hh (show ((S1' ++ y :: x :: (S2 ++ R)).set q y)[p]? = some y from by rw [List.getElem?_set_ne (by omega)]; exact ay)
         have AX := hh ax; have AY := hh ay; have HLE := hh hlen
         have HB := hh (fun u (hu : InvC v hv #[.string ⟨z.nm.toArray⟩, .string ⟨z.su.toArray⟩, .bool z.fc, .bool z.ab, .slice z.A1 n1 z.c1, .slice z.A2 n2 z.c2, .slice z.A3 n3 z.c3] #[.string ⟨#[]⟩, .string ⟨#[]⟩, .bool false, .bool false, .slice none 0 0, .slice none 0 0, .slice none 0 0] u { z with is := sortS ltT z.is, fs := sortS ltF z.fs, ms := S1' ++ y :: x :: (S2 ++ R) }) => show u.cell? ⟨v.heap.size, 6, none⟩ = some (.slice (some ⟨g, 0, none⟩) n3 z.c3) from by rw [← HGA.out]; exact cell_of_row _ _ 6 _ _ _ hu.box)
         have HCX := hh (fun u (hu : InvC v hv #[.string ⟨z.nm.toArray⟩, .string ⟨z.su.toArray⟩, .bool z.fc, .bool z.ab, .slice z.A1 n1 z.c1, .slice z.A2 n2 z.c2, .slice z.A3 n3 z.c3] #[.string ⟨#[]⟩, .string ⟨#[]⟩, .bool false, .bool false, .slice none 0 0, .slice none 0 0, .slice none 0 0] u { z with is := sortS ltT z.is, fs := sortS ltF z.fs, ms := S1' ++ y :: x :: (S2 ++ R) }) => show u.cell? ⟨g, q * 6, none⟩ = some (.string ⟨x.nm.toArray⟩) ∧ u.cell? ⟨g, q * 6 + 1, none⟩ = some (.string ⟨x.ds.toArray⟩) ∧ u.cell? ⟨g, q * 6 + 2, none⟩ = some (.bool x.st) ∧ u.cell? ⟨g, q * 6 + 3, none⟩ = some (.bool x.ab) ∧ u.cell? ⟨g, q * 6 + 4, none⟩ = some (.int .i64 x.rg) ∧ u.cell? ⟨g, q * 6 + 5, none⟩ = some (.slice x.A x.co.length x.c) from by
          have r := (HSW.out u hu).1.range len_me AX.out
          exact ⟨by simpa using r 0 _ rfl, r 1 _ rfl, r 2 _ rfl, r 3 _ rfl, r 4 _ rfl, r 5 _ rfl⟩)
         have HCY := hh (fun u (hu : InvC v hv #[.string ⟨z.nm.toArray⟩, .string ⟨z.su.toArray⟩, .bool z.fc, .bool z.ab, .slice z.A1 n1 z.c1, .slice z.A2 n2 z.c2, .slice z.A3 n3 z.c3] #[.string ⟨#[]⟩, .string ⟨#[]⟩, .bool false, .bool false, .slice none 0 0, .slice none 0 0, .slice none 0 0] u { z with is := sortS ltT z.is, fs := sortS ltF z.fs, ms := S1' ++ y :: x :: (S2 ++ R) }) => show u.cell? ⟨g, p * 6, none⟩ = some (.string ⟨y.nm.toArray⟩) ∧ u.cell? ⟨g, p * 6 + 1, none⟩ = some (.string ⟨y.ds.toArray⟩) ∧ u.cell? ⟨g, p * 6 + 2, none⟩ = some (.bool y.st) ∧ u.cell? ⟨g, p * 6 + 3, none⟩ = some (.bool y.ab) ∧ u.cell? ⟨g, p * 6 + 4, none⟩ = some (.int .i64 y.rg) ∧ u.cell? ⟨g, p * 6 + 5, none⟩ = some (.slice y.A y.co.length y.c) from by
          have r := (HSW.out u hu).1.range len_me AY.out
          exact ⟨by simpa using r 0 _ rfl, r 1 _ rfl, r 2 _ rfl, r 3 _ rfl, r 4 _ rfl, r 5 _ rfl⟩)
         have HGL := hh (show g < wb.heap.size from by obtain ⟨-, cur, hc⟩ := own_blk hrow0; exact blk_lt hc)
         obtain ⟨cx, ecx⟩ : ∃ c, c = meC x := ⟨_, rfl⟩
         obtain ⟨cy, ecy⟩ : ∃ c, c = meC y := ⟨_, rfl⟩
         have ocy : ∀ v ∈ cy, v.oneCell' = true := by rw [ecy]; exact one_me y
         have lcx : cx.length = 6 := by rw [ecx]; rfl
         have lcy : cy.length = 6 := by rw [ecy]; rfl
         have hcx : (Tryz.prog.info? 38).map (·.size) = some cx.length := by rw [size_me, lcx]
         have hcy : (Tryz.prog.info? 38).map (·.size) = some cy.length := by rw [size_me, lcy]
         have hu := Tryz.underlying38
         have ECX := hh ecx; have ECY := hh ecy; have HUT := hh hu
         clear hrow0 hSS h2 hq hpq hp hlen hL ax ay ecx ecy hinv hu
         cases hxy : ltM x y with
         | false =>
          have HRF := hh (fun u h => HRE.out u h hxy)
          clear HRE HS2
          have HCL := hh (show ∀ w, Calls Tryz.prog 70 #[.agg cx.toArray, .agg cy.toArray] w fun e w' => e = .returned (.bool false) ∧ Below w.heap.size w w' from fun w => by rw [ECX.out, ECY.out, ← hxy]; exact below_r x y w)
          have rx0 : wb.rangeAt g (q * 6) cx := by rw [ECX.out]; exact (HSW.out _ HIQ.out).1.range len_me AX.out
          have ry0 : wb.rangeAt g (p * 6) cy := by rw [ECY.out]; exact (HSW.out _ HIQ.out).1.range len_me AY.out
          go_wp2_with fail
          refine wp_region_held_drew (S := (fun w' => w'.cell? ⟨v.heap.size, 6, none⟩ = some (.slice (some ⟨g, 0, none⟩) n3 z.c3) ∧ w'.rangeAt g (q * 6) cx ∧ w'.rangeAt g (p * 6) cy)) (by kernel_rfl) ?_ (fun hHeld => ?_)
          ·exact ⟨HB.out _ HIQ.out.drew, rx0, ry0⟩
          clear rx0 ry0
          refine tkp 0 rfl ?_
          refine tkp 1 rfl ?_
          refine tkp 2 rfl ?_
          refine tkp 3 rfl ?_
          refine tkp 4 rfl ?_
          refine tkp 5 rfl ?_
          refine tkp 6 rfl ?_
          refine tld 7 g (q * 6) cx rfl rfl rfl (fun w hS => hS.2.1) HUT.out hcx ?_
          try simp only [puts]
          refine tkp 8 rfl ?_
          refine tkp 9 rfl ?_
          refine tkp 10 rfl ?_
          refine tkp 11 rfl ?_
          refine tkp 12 rfl ?_
          refine tld 13 g (p * 6) cy rfl rfl rfl (fun w hS => hS.2.2) HUT.out hcy ?_
          try simp only [puts]
          refine rdy 14 rfl (fun K hK => ?_)
          go_simp
          refine (HCL.out _).mono ?_
          rintro e v1 ⟨rfl, hb⟩
          have hbq : Below wb.heap.size wb v1 := (by first | exact hb | exact ⟨hb.os, hb.tape, hb.output, hb.size, hb.block⟩)
          have HI1 := hh (HIQ.out.below hbq)
          have HGL1 := hh (Nat.lt_of_lt_of_le HGL.out hbq.size)
          clear hb hbq HCL
          go_wp2_with fail
          have rx1 : v1.rangeAt g (q * 6) cx := by rw [ECX.out]; exact (HSW.out _ HI1.out).1.range len_me AX.out
          have ry1 : v1.rangeAt g (p * 6) cy := by rw [ECY.out]; exact (HSW.out _ HI1.out).1.range len_me AY.out
          refine hK.out _ _ ⟨HB.out _ HI1.out, rx1, ry1⟩ (fun hHeld => ?_)
          clear hK K rx1 ry1
          try simp only [puts]
          refine tkp 15 rfl ?_
          refine wpAnyH_done (by kernel_rfl) ?_ _
          clear b0
          go_wp2
          go_roundw
          case rel => exact ⟨t + 1, by go_num, by omega, .inl HT.out.2.2, HRF.out _ HI1.out⟩
          case measure => have := HT.out; simp [intOf]; omega
         | true =>
          have HS3 := hh (HS2.out hxy)
          clear HRE HS2
          have HCL := hh (show ∀ w, Calls Tryz.prog 70 #[.agg cx.toArray, .agg cy.toArray] w fun e w' => e = .returned (.bool true) ∧ Below w.heap.size w w' from fun w => by rw [ECX.out, ECY.out, ← hxy]; exact below_r x y w)
          have rx0 : wb.rangeAt g (q * 6) cx := by rw [ECX.out]; exact (HSW.out _ HIQ.out).1.range len_me AX.out
          have ry0 : wb.rangeAt g (p * 6) cy := by rw [ECY.out]; exact (HSW.out _ HIQ.out).1.range len_me AY.out
          go_wp2_with fail
          refine wp_region_held_drew (S := (fun w' => w'.cell? ⟨v.heap.size, 6, none⟩ = some (.slice (some ⟨g, 0, none⟩) n3 z.c3) ∧ w'.rangeAt g (q * 6) cx ∧ w'.rangeAt g (p * 6) cy)) (by kernel_rfl) ?_ (fun hHeld => ?_)
          ·exact ⟨HB.out _ HIQ.out.drew, rx0, ry0⟩
          clear rx0 ry0
          refine tkp 0 rfl ?_
          refine tkp 1 rfl ?_
          refine tkp 2 rfl ?_
          refine tkp 3 rfl ?_
          refine tkp 4 rfl ?_
          refine tkp 5 rfl ?_
          refine tkp 6 rfl ?_
          refine tld 7 g (q * 6) cx rfl rfl rfl (fun w hS => hS.2.1) HUT.out hcx ?_
          try simp only [puts]
          refine tkp 8 rfl ?_
          refine tkp 9 rfl ?_
          refine tkp 10 rfl ?_
          refine tkp 11 rfl ?_
          refine tkp 12 rfl ?_
          refine tld 13 g (p * 6) cy rfl rfl rfl (fun w hS => hS.2.2) HUT.out hcy ?_
          try simp only [puts]
          refine rdy 14 rfl (fun K hK => ?_)
          go_simp
          refine (HCL.out _).mono ?_
          rintro e v1 ⟨rfl, hb⟩
          have hbq : Below wb.heap.size wb v1 := (by first | exact hb | exact ⟨hb.os, hb.tape, hb.output, hb.size, hb.block⟩)
          have HI1 := hh (HIQ.out.below hbq)
          have HGL1 := hh (Nat.lt_of_lt_of_le HGL.out hbq.size)
          clear hb hbq HCL
          go_wp2_with fail
          have rx1 : v1.rangeAt g (q * 6) cx := by rw [ECX.out]; exact (HSW.out _ HI1.out).1.range len_me AX.out
          have ry1 : v1.rangeAt g (p * 6) cy := by rw [ECY.out]; exact (HSW.out _ HI1.out).1.range len_me AY.out
          refine hK.out _ _ ⟨HB.out _ HI1.out, rx1, ry1⟩ (fun hHeld => ?_)
          clear hK K rx1 ry1
          try simp only [puts]
          refine tkp 15 rfl ?_
          refine wpAnyH_done (by kernel_rfl) ?_ _
          have HI0x := hh HI1.out
          obtain ⟨x0, x1, x2, x3, x4, x5⟩ := HCX.out _ HI0x.out
          have b1 := HB.out _ HI0x.out
          obtain ⟨wx, hwx⟩ : ∃ u, u = v1.alloc (.cells #[.string ⟨x.nm.toArray⟩, .string ⟨x.ds.toArray⟩, .bool x.st, .bool x.ab, .int .i64 x.rg, .slice x.A x.co.length x.c] 38) := ⟨_, rfl⟩
          have HIX := hh (show InvC v hv #[.string ⟨z.nm.toArray⟩, .string ⟨z.su.toArray⟩, .bool z.fc, .bool z.ab, .slice z.A1 n1 z.c1, .slice z.A2 n2 z.c2, .slice z.A3 n3 z.c3] #[.string ⟨#[]⟩, .string ⟨#[]⟩, .bool false, .bool false, .slice none 0 0, .slice none 0 0, .slice none 0 0] wx { z with is := sortS ltT z.is, fs := sortS ltF z.fs, ms := S1' ++ y :: x :: (S2 ++ R) } from by rw [hwx]; exact HI0x.out.below ((Below.refl _ _).alloc (Nat.le_refl _) _))
          have hxb0 : wx.heap[v1.heap.size]? = some (.cells #[.string ⟨x.nm.toArray⟩, .string ⟨x.ds.toArray⟩, .bool x.st, .bool x.ab, .int .i64 x.rg, .slice x.A x.co.length x.c] 38 (0, 0)) := by rw [hwx]; exact heap_alloc_new _ _
          have HXB := hh hxb0; have HWX := hh hwx
          have hne0 : v1.heap.size ≠ g := by have := HGL1.out; omega
          have HNE := hh hne0
          clear hwx hxb0 hne0
          go_wp2_with fail
          rw [← HWX.out]
          clear x0 x1 x2 x3 x4 x5 b0 b1
          have ry : wx.rangeAt g (p * 6) cy := by rw [ECY.out]; exact (HSW.out _ HIX.out).1.range len_me AY.out
          have hS9 := HSW.out _ HIX.out
          have tq : wx.there g (q * 6) 6 := hS9.1.there len_me (by rw [HLE.out]; exact hqn1)
          refine wp_region_held_drew (S := (fun w' => w'.cell? ⟨v.heap.size, 6, none⟩ = some (.slice (some ⟨g, 0, none⟩) n3 z.c3) ∧ w'.rangeAt g (p * 6) cy)) (by kernel_rfl) ?_ (fun hHeld => ?_)
          ·exact ⟨HB.out _ HIX.out.drew, ry⟩
          refine tkp 0 rfl ?_
          refine tkp 1 rfl ?_
          refine tkp 2 rfl ?_
          refine tkp 3 rfl ?_
          refine tkp 4 rfl ?_
          refine tkp 5 rfl ?_
          refine tkp 6 rfl ?_
          refine tkp 7 rfl ?_
          refine tld 8 g (p * 6) cy rfl rfl rfl (fun w hS => hS.2) HUT.out hcy ?_
          try simp only [puts]
          refine tkp 9 rfl ?_
          have hbox9 : (wx.drew.setCells g (q * 6) cy).heap[v.heap.size]? = _ := gb_at (by rw [ECY.out]; exact (HSW.out _ HIX.out.drew).2.1) HIX.out.drew.box (by have := HGV.out; have := HHV.out; omega)
          have hcell9 : (wx.drew.setCells g (q * 6) cy).cell? ⟨v.heap.size, 6, none⟩ = some (.slice (some ⟨g, 0, none⟩) n3 z.c3) := by rw [← HGA.out]; exact cell_of_row _ _ 6 _ _ _ hbox9
          have hrange9 : (wx.drew.setCells g (q * 6) cy).rangeAt g (p * 6) cy := World.rangeAt_setCells_apart (w := wx.drew) ry _ _ _ (.inr (.inl (by have := HPQ.out; rw [lcy]; omega)))
          refine tst 10 g (q * 6) cy rfl rfl rfl rfl (by rw [lcy]; exact tq) hcy ocy ⟨hcell9, hrange9⟩ (fun _ => ?_)
          try simp only [puts]
          refine wpAnyH_done (by kernel_rfl) ?_ _
          obtain ⟨w9, hw9⟩ : ∃ u, u = wx.drew.setCells g (q * 6) cy := ⟨_, rfl⟩
          have hI := HIX.out.drew
          have hS := HSW.out _ hI
          have hr9 : Row 38 6 meC hv g (S1' ++ y :: x :: (S2 ++ R)).length z.c3 w9 ((S1' ++ y :: x :: (S2 ++ R)).set q y) := by rw [hw9, ECY.out]; exact hS.2.2.1
          have hxb : w9.heap[v1.heap.size]? = some (.cells #[.string ⟨x.nm.toArray⟩, .string ⟨x.ds.toArray⟩, .bool x.st, .bool x.ab, .int .i64 x.rg, .slice x.A x.co.length x.c] 38 (0, 0)) := by rw [hw9, ECY.out]; exact gb_at hS.2.1 HXB.out HNE.out
          have h9 : w9.cell? ⟨v.heap.size, 6, none⟩ = some (.slice (some ⟨g, 0, none⟩) n3 z.c3) := by rw [hw9]; exact hcell9
          have hend : InvC v hv #[.string ⟨z.nm.toArray⟩, .string ⟨z.su.toArray⟩, .bool z.fc, .bool z.ab, .slice z.A1 n1 z.c1, .slice z.A2 n2 z.c2, .slice z.A3 n3 z.c3] #[.string ⟨#[]⟩, .string ⟨#[]⟩, .bool false, .bool false, .slice none 0 0, .slice none 0 0, .slice none 0 0] (w9.setCells g (p * 6) (meC x)) { z with is := sortS ltT z.is, fs := sortS ltF z.fs, ms := S1' ++ x :: y :: (S2 ++ R) } := by rw [hw9, ECY.out, ← HEQ.out]; exact hS.2.2.2
          have HEND := hh hend
          rw [← hw9]
          obtain ⟨e0, e1, e2, e3, e4, e5⟩ := c6q hxb
          have f0 := hr9.own.frozenAt (p * 6)
          have f1 := hr9.own.frozenAt (p * 6 + 1)
          have f2 := hr9.own.frozenAt (p * 6 + 2)
          have f3 := hr9.own.frozenAt (p * 6 + 3)
          have f4 := hr9.own.frozenAt (p * 6 + 4)
          have f5 := hr9.own.frozenAt (p * 6 + 5)
          obtain ⟨y0, y1, y2, y3, y4, y5⟩ : w9.cell? ⟨g, p * 6, none⟩ = some (.string ⟨y.nm.toArray⟩) ∧ w9.cell? ⟨g, p * 6 + 1, none⟩ = some (.string ⟨y.ds.toArray⟩) ∧ w9.cell? ⟨g, p * 6 + 2, none⟩ = some (.bool y.st) ∧ w9.cell? ⟨g, p * 6 + 3, none⟩ = some (.bool y.ab) ∧ w9.cell? ⟨g, p * 6 + 4, none⟩ = some (.int .i64 y.rg) ∧ w9.cell? ⟨g, p * 6 + 5, none⟩ = some (.slice y.A y.co.length y.c) := by
           have r := hr9.range len_me HAP.out
           exact ⟨by simpa using r 0 _ rfl, r 1 _ rfl, r 2 _ rfl, r 3 _ rfl, r 4 _ rfl, r 5 _ rfl⟩
          clear hend hS hI hS9 hHeld hbox9 hcell9 hrange9 tq ry hxb hr9 hw9
          go_wp2
          go_roundw
          case rel => exact ⟨p, rfl, S1', y :: S2, HS3.out.1, HS3.out.2.1, HS3.out.2.2, by first | exact HEND.out | simpa [World.setCells, meC] using HEND.out⟩
          case measure => have := HPQ.out; simp [intOf]; omega
      ·have hltI : ¬ (t : Int) < (n3 : Int) := by omega
       have HE_ms := hh (show InvC v hv #[.string ⟨z.nm.toArray⟩, .string ⟨z.su.toArray⟩, .bool z.fc, .bool z.ab, .slice z.A1 n1 z.c1, .slice z.A2 n2 z.c2, .slice z.A3 n3 z.c3] #[.string ⟨#[]⟩, .string ⟨#[]⟩, .bool false, .bool false, .slice none 0 0, .slice none 0 0, .slice none 0 0] wa { z with is := sortS ltT z.is, fs := sortS ltF z.fs, ms := sortS ltM z.ms } from by
        have h := hinv
        rw [List.take_of_length_le (by rw [← HN_ms.out]; omega), List.drop_eq_nil_of_le (by rw [← HN_ms.out]; omega), List.append_nil] at h
        exact h)
       clear hinv htx ht hlt
       clear bx
       have hx9 := HE_ms.out.box
       have hy9 := HE_ms.out.ans
       obtain ⟨e0, e1, e2, e3, e4, e5, e6⟩ := c7q hx9
       have z0 : wa.cell? ⟨v.heap.size + 1, 0, none⟩ = some (.string ⟨#[]⟩) := cell_of_row _ _ 0 _ _ _ hy9
       have zf0 := frozen_of_row _ _ 0 _ _ hy9
       have z1 : wa.cell? ⟨v.heap.size + 1, 1, none⟩ = some (.string ⟨#[]⟩) := cell_of_row _ _ 1 _ _ _ hy9
       have zf1 := frozen_of_row _ _ 1 _ _ hy9
       have z2 : wa.cell? ⟨v.heap.size + 1, 2, none⟩ = some (.bool false) := cell_of_row _ _ 2 _ _ _ hy9
       have zf2 := frozen_of_row _ _ 2 _ _ hy9
       have z3 : wa.cell? ⟨v.heap.size + 1, 3, none⟩ = some (.bool false) := cell_of_row _ _ 3 _ _ _ hy9
       have zf3 := frozen_of_row _ _ 3 _ _ hy9
       have z4 : wa.cell? ⟨v.heap.size + 1, 4, none⟩ = some (.slice none 0 0) := cell_of_row _ _ 4 _ _ _ hy9
       have zf4 := frozen_of_row _ _ 4 _ _ hy9
       have z5 : wa.cell? ⟨v.heap.size + 1, 5, none⟩ = some (.slice none 0 0) := cell_of_row _ _ 5 _ _ _ hy9
       have zf5 := frozen_of_row _ _ 5 _ _ hy9
       have z6 : wa.cell? ⟨v.heap.size + 1, 6, none⟩ = some (.slice none 0 0) := cell_of_row _ _ 6 _ _ _ hy9
       have zf6 := frozen_of_row _ _ 6 _ _ hy9
       have s0 := heap_setCell_same _ (v.heap.size + 1) 0 _ _ (.string ⟨z.nm.toArray⟩) hy9
       have s1 := heap_setCell_same _ (v.heap.size + 1) 1 _ _ (.string ⟨z.su.toArray⟩) s0
       have s2 := heap_setCell_same _ (v.heap.size + 1) 2 _ _ (.bool z.fc) s1
       have s3 := heap_setCell_same _ (v.heap.size + 1) 3 _ _ (.bool z.ab) s2
       have s4 := heap_setCell_same _ (v.heap.size + 1) 4 _ _ (.slice z.A1 n1 z.c1) s3
       have s5 := heap_setCell_same _ (v.heap.size + 1) 5 _ _ (.slice z.A2 n2 z.c2) s4
       have s6 := heap_setCell_same _ (v.heap.size + 1) 6 _ _ (.slice z.A3 n3 z.c3) s5
       obtain ⟨WF, hWF⟩ : ∃ WF, WF = (((((((wa.setCell ⟨v.heap.size + 1, 0, none⟩ (.string ⟨z.nm.toArray⟩)).setCell ⟨v.heap.size + 1, 1, none⟩ (.string ⟨z.su.toArray⟩)).setCell ⟨v.heap.size + 1, 2, none⟩ (.bool z.fc)).setCell ⟨v.heap.size + 1, 3, none⟩ (.bool z.ab)).setCell ⟨v.heap.size + 1, 4, none⟩ (.slice z.A1 n1 z.c1)).setCell ⟨v.heap.size + 1, 5, none⟩ (.slice z.A2 n2 z.c2)).setCell ⟨v.heap.size + 1, 6, none⟩ (.slice z.A3 n3 z.c3)) := ⟨_, rfl⟩
       rw [← hWF] at s6
       have sF : WF.heap[v.heap.size + 1]? = some (.cells #[.string ⟨z.nm.toArray⟩, .string ⟨z.su.toArray⟩, .bool z.fc, .bool z.ab, .slice z.A1 n1 z.c1, .slice z.A2 n2 z.c2, .slice z.A3 n3 z.c3] 35 (0, 0)) := by rw [s6]; simp
       obtain ⟨r0, r1, r2, r3, r4, r5, r6⟩ := c7q sF
       have gB : wa.grownBy WF (some (v.heap.size + 1)) := by rw [hWF]; exact (gb_trans (gb_trans (gb_trans (gb_trans (gb_trans (gb_trans (gb_set _ ((v.heap.size + 1)) 0 _) (gb_set _ ((v.heap.size + 1)) 1 _)) (gb_set _ ((v.heap.size + 1)) 2 _)) (gb_set _ ((v.heap.size + 1)) 3 _)) (gb_set _ ((v.heap.size + 1)) 4 _)) (gb_set _ ((v.heap.size + 1)) 5 _)) (gb_set _ ((v.heap.size + 1)) 6 _))
       have hBF : Below v.heap.size v WF := by rw [hWF]; exact (((((((HE_ms.out.bel.setCell (p := ⟨v.heap.size + 1, 0, none⟩) (by simp) _).setCell (p := ⟨v.heap.size + 1, 1, none⟩) (by simp) _).setCell (p := ⟨v.heap.size + 1, 2, none⟩) (by simp) _).setCell (p := ⟨v.heap.size + 1, 3, none⟩) (by simp) _).setCell (p := ⟨v.heap.size + 1, 4, none⟩) (by simp) _).setCell (p := ⟨v.heap.size + 1, 5, none⟩) (by simp) _).setCell (p := ⟨v.heap.size + 1, 6, none⟩) (by simp) _)
       have HRS := hh (HPZ.out WF ((HE_ms.out.own.gb HHV.out gB).mono (by have := HHV.out; omega)) hBF)
       have HWF := hh hWF
       have R0 := hh r0
       have R1 := hh r1
       have R2 := hh r2
       have R3 := hh r3
       have R4 := hh r4
       have R5 := hh r5
       have R6 := hh r6
       have HEQ := hh (show #[.string ⟨z.nm.toArray⟩, .string ⟨z.su.toArray⟩, .bool z.fc, .bool z.ab, .slice z.A1 n1 z.c1, .slice z.A2 n2 z.c2, .slice z.A3 n3 z.c3] = (clC (sortC z)).toArray from by unfold clC sortC; rw [HN_is.out, HN_fs.out, HN_ms.out]; simp [sortS_length])
       clear hx9 hy9 hWF gB sF hBF s0 r0 s1 r1 s2 r2 s3 r3 s4 r4 s5 r5 s6 r6
       go_wp2
       rw [← HWF.out]
       refine bodyPost_ret (v := .agg #[.string ⟨z.nm.toArray⟩, .string ⟨z.su.toArray⟩, .bool z.fc, .bool z.ab, .slice z.A1 n1 z.c1, .slice z.A2 n2 z.c2, .slice z.A3 n3 z.c3]) ?_ rfl (HRS.out _ HEQ.out)
       simp [results, Tryz.results30, go_sem, R0.out, R1.out, R2.out, R3.out, R4.out, R5.out, R6.out]
end Go.Proofs.YtgociheckcpjkaaGreatDoor.prg

/-
  Layer 8: all strings of a program: the document's answer.
-/
import Derived.Test.YtjahilfapcljiaaGreatDoorNormN
import Derived.Test.YtjahilfapcljiaaGreatDoorRef
namespace Go.Proofs.YtjahilfapcljiaaGreatDoor.prg
open Go.RowKit
open Go.Proofs.YtjahilfapcljiaaGreatDoor.words Go.Proofs.YtjahilfapcljiaaGreatDoor.kindp Go.Proofs.YtjahilfapcljiaaGreatDoor.opp Go.Proofs.YtjahilfapcljiaaGreatDoor.op Go.Proofs.YtjahilfapcljiaaGreatDoor.kind Go.Proofs.YtjahilfapcljiaaGreatDoor.word

/-- what some answers: the row, with the text behind it if it is not empty; blocks of other sorts stay -/
def SomW (base : Nat) (a : List Tx) (w : World) (e : Ending) (w' : World) : Prop := ∃ v, e = .returned v ∧ w'.ownsRow base 9 1 v a.length (SX a) ∧ Below base w w' ∧ ∀ (B : Nat) (cs : Array Value) (t : TypeId) (fz : Nat × Nat), t ≠ 9 → w.heap[B]? = some (.cells cs t fz) → w'.heap[B]? = some (.cells cs t fz)
theorem fil_yes {s : Tx} (h : (s == []) = true) : filledL [s] = [] := by have := eq_of_beq h; subst this; rfl
theorem fil_no {s : Tx} (h : (s == []) = false) : filledL [s] = [s] := by unfold filledL; rw [List.filter_cons_of_pos (by rw [h]; rfl), List.filter_nil]

set_option maxRecDepth 100000 in
set_option maxHeartbeats 16000000 in
set_option linter.all false in
theorem some_r (base : Nat) (v : Value) (a b : List Tx) (s : Tx) (w : World) (hbase : base ≤ w.heap.size) (ho : w.ownsRow base 9 1 v a.length (SX a)) (hl : a.length + 1 ≤ 4194305) (hq : b = a ++ filledL [s]) : Calls Tryz.prog 64 #[v, .string ⟨s.toArray⟩] w (SomW base b w) := by
  obtain ⟨i1, hj0, hy0, hy1, hy2⟩ := info_parts infoX
  have HO := Lib.hid ho
  have HQ := Lib.hid hq
  cases h0 : (s == []) with
  | true =>
    have g1 := e_empty h0
    have HE := Lib.hid (show b = a from by rw [hq, fil_yes h0, List.append_nil])
    clear h0 ho hq
    go_enter Tryz.func64, Tryz.ntmps64
    go_wp2
    go_ret
    exact ⟨v, rfl, by rw [HE.out]; exact HO.out, Below.refl _ _, fun _ _ _ _ _ h => h⟩
  | false =>
    have g1 := e_empty h0
    have HE := Lib.hid (show b = a ++ [s] from by rw [hq, fil_no h0])
    clear h0 ho hq
    go_enter Tryz.func64, Tryz.ntmps64
    go_wp2_with (at_builtin; refine wpList_app _ rfl (.tmp 8) (.tmp 10) _ rfl base 9 i1 _ 1 16 Tryz.underlying23 hj0 hy0 hy1 hy2 rfl (by omega) _ a.length (SX a) rfl (HO.out.alloc _) _ 1 _ ([.string ⟨s.toArray⟩]) rfl (rfl) (rd_blk (heap_alloc_new w _) (k := 1) rfl) (by simp [Value.oneCell']) (by simp only [maxLen]; omega) (by omega) (by first | omega | (simp; omega)) ?_; intro v5 w5 hown5 hg5 hb5 hat5; clear hat5; have HO6 := Lib.hid (own_more (b := [s]) rfl HE.out hown5); have HB6 := Lib.hid (((Below.refl base w).alloc hbase (.cells #[.string ⟨s.toArray⟩] 9)).trans hb5); have HS6 := Lib.hid (show ∀ (B : Nat) (cs : Array Value) (t : TypeId) (fz : Nat × Nat), t ≠ 9 → w.heap[B]? = some (.cells cs t fz) → w5.heap[B]? = some (.cells cs t fz) from fun B cs t fz ht h => row_apart ((Below.heap_alloc w (.cells #[.string ⟨s.toArray⟩] 9) B (blk_lt h)).trans h) ht (HO.out.alloc (.cells #[.string ⟨s.toArray⟩] 9)) hg5); clear hown5 hg5 hb5)
    go_ret
    exact ⟨_, rfl, HO6.out, HB6.out, HS6.out⟩

set_option maxRecDepth 100000 in
set_option maxHeartbeats 16000000 in
set_option linter.all false in
theorem rstrings_w (x : PrM) (w : World) (hk : PrOk w x) (hb : PrBd x) (hz : (stringsL x).length ≤ 4194304) : Calls Tryz.prog 25 #[.agg (prC x).toArray] w (StrW (stringsL x) w) := by
  obtain ⟨W, hW⟩ : ∃ W, W = w.alloc (.cells (prC x).toArray 27) := ⟨_, rfl⟩
  have hal : Below w.heap.size w W := by rw [hW]; exact (Below.refl _ w).alloc (Nat.le_refl _) _
  have HAL := Lib.hid hal
  have hblk : W.heap[w.heap.size]? = some (.cells (prC x).toArray 27 (0, 0)) := by rw [hW]; exact heap_alloc_new w _
  have HBK := Lib.hid hblk; have HLT := Lib.hid (blk_lt hblk)
  obtain ⟨x0_0, x0_1, x0_2, x0_3, x0_4⟩ := pr_cells hblk
  have K0 := Lib.hid (Below.refl W.heap.size W)
  obtain ⟨i1, hj0, hy0, hy1, hy2⟩ := info_parts infoX
  have HKW := Lib.hid (hk.below hal)
  have HBD := Lib.hid hb
  have l1 : x.cs.length ≤ 281474976710656 := by have := hb.1.1; omega
  have hsl : stringsL x = x.cs.flatMap classL ++ x.ns ++ entryL x := rfl
  have hsm : (x.cs.flatMap classL).length + x.ns.length + (entryL x).length ≤ 4194304 := by rw [hsl, List.length_append, List.length_append] at hz; omega
  obtain ⟨R, hR⟩ : ∃ R, R = stringsL x := ⟨_, rfl⟩
  rw [← hR] at hsl ⊢
  have HSL := Lib.hid hsl
  have hrc := HKW.out.1.2
  obtain ⟨A1, hA1⟩ : ∃ A, A = x.A1 := ⟨_, rfl⟩
  obtain ⟨n, hn⟩ : ∃ n, n = x.cs.length := ⟨_, rfl⟩
  have HP0 := Lib.hid (show ∀ v : World, Below W.heap.size W v → v.cell? ⟨w.heap.size, 0, none⟩ = some (.slice A1 n x.c1) from fun v hv => by
    have h := (pr_cells ((hv.block _ HLT.out).trans HBK.out)).1
    rw [hA1, hn]; exact h)
  rw [← hn, ← hA1] at x0_0
  rw [← hn] at l1
  rw [← hA1] at hrc
  have HRC := Lib.hid hrc
  have nI : (n : Int) ≤ 281474976710656 := by omega
  unfold prC at hW ⊢
  try dsimp only at hW ⊢
  rw [← hn, ← hA1] at hW ⊢
  have HW := Lib.hid hW
  have HN := Lib.hid hn
  clear hal hblk hW hk hb l1 hn hz hsl hR hrc hA1
  go_enter Tryz.func25, Tryz.ntmps25
  go_wp2_with fail
  rw [← HW.out]
  (try go_wp2)
  clear x0_0 x0_1 x0_2 x0_3 x0_4
  go_loopw [3, 4] (fun v i wr => ∃ k : Nat, i = .int .i64 (k : Int) ∧ k ≤ n ∧ wr.ownsRow W.heap.size 9 1 v ((x.cs.take k).flatMap classL).length (SX ((x.cs.take k).flatMap classL)) ∧ Below W.heap.size W wr) (fun _ i _ => n - (intOf i).toNat)
  case atStart => exact ⟨0, rfl, Nat.zero_le _, World.ownsRow_nil _ _ _ _, Below.refl _ _⟩
  case round =>
    obtain ⟨k, rfl, hk, hown, hbw⟩ := hrel
    obtain ⟨wa, hwa⟩ : ∃ v, v = wr := ⟨_, rfl⟩
    subst hwa
    have HO := Lib.hid hown; have HB := Lib.hid hbw
    have hsz := hbw.size
    have gp0 := HP0.out _ hbw
    by_cases hlt : k < n
    · have hltI : (k : Int) < (n : Int) := by omega
      obtain ⟨y, hy⟩ : ∃ y, x.cs[k]? = some y := ⟨x.cs[k]'(by rw [← HN.out]; exact hlt), List.getElem?_eq_getElem _⟩
      have hmem := List.mem_of_getElem? hy
      have HOK := Lib.hid (HKW.out.2.2 y hmem)
      have HBY := Lib.hid (HBD.out.1.2 y hmem)
      obtain ⟨a, rfl, ha, c0, c1, c2, c3, c4, c5, c6⟩ := cl_at (HRC.out.below hbw) hy
      obtain ⟨B2, hB2⟩ : ∃ A, A = y.A2 := ⟨_, rfl⟩
      obtain ⟨B3, hB3⟩ : ∃ A, A = y.A3 := ⟨_, rfl⟩
      have hr2 := HOK.out.2.1.2
      have hr3 := HOK.out.2.2.1.2
      rw [← hB2] at c5 hr2
      rw [← hB3] at c6 hr3
      have HR2 := Lib.hid hr2; have HR3 := Lib.hid hr3
      have hsn := flat_snoc_at (f := classL) hy
      have htl := flat_take_len (f := classL) hy
      obtain ⟨a0, ha0⟩ : ∃ a, a = (x.cs.take k).flatMap classL := ⟨_, rfl⟩
      rw [← ha0] at HO hsn htl
      have HSN := Lib.hid hsn
      have hcl : (classL y).length = 1 + (filledL [y.su]).length + y.is.length + (y.fs.flatMap fieldL).length + (y.ms.flatMap methL).length := by unfold classL; simp only [List.length_append, List.length_cons, List.length_nil]
      have hfl := filled_len [y.su]
      obtain ⟨lf, hlf⟩ : ∃ l, l = (filledL [y.su]).length := ⟨_, rfl⟩
      obtain ⟨LF, hLF⟩ : ∃ l, l = (y.fs.flatMap fieldL).length := ⟨_, rfl⟩
      obtain ⟨LM, hLM⟩ : ∃ l, l = (y.ms.flatMap methL).length := ⟨_, rfl⟩
      have hroom : a0.length + 1 + lf + y.is.length + LF + LM ≤ 4194304 := by rw [hlf, hLF, hLM]; omega
      have H1 := Lib.hid hlf; have H2 := Lib.hid hLF; have H3 := Lib.hid hLM
      have q2 : y.fs.length ≤ 281474976710656 := by have := HBY.out.2.2.2.1.1; omega
      have q3 : y.ms.length ≤ 281474976710656 := by have := HBY.out.2.2.2.2.1; omega
      have q2I : (y.fs.length : Int) ≤ 281474976710656 := by omega
      have q3I : (y.ms.length : Int) ≤ 281474976710656 := by omega
      obtain ⟨a1, ha1⟩ : ∃ a, a = a0 ++ [y.nm] := ⟨_, rfl⟩
      obtain ⟨a2, ha2⟩ : ∃ a, a = a1 ++ filledL [y.su] := ⟨_, rfl⟩
      obtain ⟨a3, ha3⟩ : ∃ a, a = a2 ++ y.is := ⟨_, rfl⟩
      have n1 : a1.length = a0.length + 1 := by rw [ha1]; simp
      have n2 : a2.length = a1.length + lf := by rw [ha2, List.length_append, hlf]
      have n3 : a3.length = a2.length + y.is.length := by rw [ha3, List.length_append]
      have HA1 := Lib.hid ha1; have HA2 := Lib.hid ha2; have HA3 := Lib.hid ha3
      have HX0 := Lib.hid (heap_alloc_new wa (.cells #[.string ⟨y.nm.toArray⟩, .string ⟨y.su.toArray⟩, .bool y.fc, .bool y.ab, .slice y.A1 y.is.length y.c1, .slice B2 y.fs.length y.c2, .slice B3 y.ms.length y.c3] 37))
      have HX1 := Lib.hid ((Below.heap_alloc (wa.alloc (.cells #[.string ⟨y.nm.toArray⟩, .string ⟨y.su.toArray⟩, .bool y.fc, .bool y.ab, .slice y.A1 y.is.length y.c1, .slice B2 y.fs.length y.c2, .slice B3 y.ms.length y.c3] 37)) (.cells #[.string ⟨y.nm.toArray⟩] 9) wa.heap.size (by simp)).trans HX0.out)
      have HY := Lib.hid hy
      clear hown hbw hy hmem hsn htl ha0 hcl hfl hlf hLF hLM ha1 ha2 ha3 ha hB2 hB3 hr2 hr3
      go_wp2_with (at_builtin; refine wpList_app _ rfl (.tmp 22) (.tmp 25) _ rfl W.heap.size 9 i1 _ 1 16 Tryz.underlying23 hj0 hy0 hy1 hy2 rfl (by omega) _ a0.length (SX a0) rfl ((HO.out.alloc _).alloc _) _ 1 _ ([.string ⟨y.nm.toArray⟩]) rfl (rfl) (new_rdg (W := wa.alloc (.cells #[.string ⟨y.nm.toArray⟩, .string ⟨y.su.toArray⟩, .bool y.fc, .bool y.ab, .slice y.A1 y.is.length y.c1, .slice B2 y.fs.length y.c2, .slice B3 y.ms.length y.c3] 37)) (wa.heap.size + 1) #[.string ⟨y.nm.toArray⟩] 9 1 (by simp) [.string ⟨y.nm.toArray⟩] rfl) (by simp [Value.oneCell']) (by simp only [maxLen]; omega) (by omega) (by first | omega | (simp; omega)) ?_; intro v5 w5 hown5 hg5 hb5 hat5; clear hat5; have hx5 := row_apart HX1.out (by decide) ((HO.out.alloc (.cells #[.string ⟨y.nm.toArray⟩, .string ⟨y.su.toArray⟩, .bool y.fc, .bool y.ab, .slice y.A1 y.is.length y.c1, .slice B2 y.fs.length y.c2, .slice B3 y.ms.length y.c3] 37)).alloc (.cells #[.string ⟨y.nm.toArray⟩] 9)) hg5; have z1 : w5.cell? ⟨wa.heap.size, 1, none⟩ = some (.string ⟨y.su.toArray⟩) := cell_of_row _ _ 1 _ _ _ hx5)
      obtain ⟨wb, hwb⟩ : ∃ v, v = w5 := ⟨_, rfl⟩
      subst hwb
      have HO1 := Lib.hid (own_more (b := [y.nm]) rfl HA1.out hown5)
      have HB1 := Lib.hid (((HB.out.alloc hsz (.cells #[.string ⟨y.nm.toArray⟩, .string ⟨y.su.toArray⟩, .bool y.fc, .bool y.ab, .slice y.A1 y.is.length y.c1, .slice B2 y.fs.length y.c2, .slice B3 y.ms.length y.c3] 37)).alloc (by simp; omega) (.cells #[.string ⟨y.nm.toArray⟩] 9)).trans hb5)
      have HXB := Lib.hid hx5
      have hsm5 := some_r W.heap.size v5 a1 a2 y.su wb HB1.out.size HO1.out (by omega) HA2.out
      clear hown5 hg5 hb5 hx5 c0 c1 c2 c3 c4 c5 c6 z1 gp0
      refine hsm5.mono ?_
      clear hsm5
      rintro e w6 ⟨v6, rfl, ho6, hb6, hk6⟩
      have HB7 := Lib.hid (HB1.out.trans hb6)
      have HO7 := Lib.hid ho6
      have HX7 := Lib.hid (hk6 _ _ _ _ (by decide) HXB.out)
      have hsz7 := HB7.out.size
      have HR7 := Lib.hid (HOK.out.1.2.below HB7.out)
      have z4x : w6.cell? ⟨wa.heap.size, 4, none⟩ = some (.slice y.A1 y.is.length y.c1) := cell_of_row _ _ 4 _ _ _ HX7.out
      clear hb6 ho6 hk6
      go_wp2_with (at_builtin; refine wpList_app _ rfl (.tmp 31) (.tmp 33) _ rfl W.heap.size 9 i1 _ 1 16 Tryz.underlying23 hj0 hy0 hy1 hy2 rfl (by omega) _ a2.length (SX a2) rfl (HO7.out) _ y.is.length _ (SX y.is) rfl (by rw [SX_len]; simp) (HR7.out) (SX_one _) (by simp only [maxLen]; omega) (by omega) (by first | omega | (simp; omega)) ?_; intro v5 w5 hown5 hg5 hb5 hat5; clear hat5; have hx5 := row_apart HX7.out (by decide) HO7.out hg5; have z5 : w5.cell? ⟨wa.heap.size, 5, none⟩ = some (.slice B2 y.fs.length y.c2) := cell_of_row _ _ 5 _ _ _ hx5; have HO8 := Lib.hid (own_more (b := y.is) rfl HA3.out hown5); have HB8 := Lib.hid (HB7.out.trans hb5); have HX8 := Lib.hid hx5; clear hown5 hg5 hb5 hx5 z4x hsz7)
      clear z5
      go_loopw [3, 6] (fun v i wr => ∃ j : Nat, i = .int .i64 (j : Int) ∧ j ≤ y.fs.length ∧ wr.ownsRow W.heap.size 9 1 v (a3 ++ (y.fs.take j).flatMap fieldL).length (SX (a3 ++ (y.fs.take j).flatMap fieldL)) ∧ Below W.heap.size W wr ∧ wr.heap[wa.heap.size]? = some (.cells #[.string ⟨y.nm.toArray⟩, .string ⟨y.su.toArray⟩, .bool y.fc, .bool y.ab, .slice y.A1 y.is.length y.c1, .slice B2 y.fs.length y.c2, .slice B3 y.ms.length y.c3] 37 (0, 0))) (fun _ i _ => y.fs.length - (intOf i).toNat)
      case atStart => exact ⟨0, rfl, Nat.zero_le _, by rw [List.take_zero, List.flatMap_nil, List.append_nil]; exact HO8.out, HB8.out, HX8.out⟩
      case round =>
        obtain ⟨j, rfl, hj, hown, hbw, hbx⟩ := hrel
        obtain ⟨wf, hwf⟩ : ∃ v, v = wr := ⟨_, rfl⟩
        subst hwf
        have HOF := Lib.hid hown; have HBF := Lib.hid hbw; have HXF := Lib.hid hbx
        have hszf := hbw.size
        have e0 : wf.cell? ⟨wa.heap.size, 5, none⟩ = some (.slice B2 y.fs.length y.c2) := cell_of_row _ _ 5 _ _ _ hbx
        by_cases hlt2 : j < y.fs.length
        · have hltI2 : (j : Int) < (y.fs.length : Int) := by omega
          obtain ⟨z, hz⟩ : ∃ z, y.fs[j]? = some z := ⟨y.fs[j]'hlt2, List.getElem?_eq_getElem _⟩
          have hzb := HBY.out.2.2.2.1.2 z (List.mem_of_getElem? hz)
          obtain ⟨b, rfl, hbl, d0, d1, d2, d3⟩ := fi_at (HR2.out.below hbw) hz
          have HFI := Lib.hid (show ∀ v : World, Below W.heap.size W v → v.heap[wa.heap.size]? = some (.cells #[.string ⟨y.nm.toArray⟩, .string ⟨y.su.toArray⟩, .bool y.fc, .bool y.ab, .slice y.A1 y.is.length y.c1, .slice (some b) y.fs.length y.c2, .slice B3 y.ms.length y.c3] 37 (0, 0)) → v.cell? ⟨wa.heap.size, 5, none⟩ = some (.slice (some b) y.fs.length y.c2) ∧ v.cell? (b.add (j * 4)) = some (.string ⟨z.nm.toArray⟩) ∧ v.cell? ⟨(b.add (j * 4)).block, (b.add (j * 4)).off + 1, none⟩ = some (.int .i64 z.k) ∧ v.cell? ⟨(b.add (j * 4)).block, (b.add (j * 4)).off + 2, none⟩ = some (.string ⟨z.cl.toArray⟩) from fun v hv hh => by
            obtain ⟨_, e, _, t0, t1, t2, _⟩ := fi_at (HR2.out.below hv) hz
            cases e
            exact ⟨cell_of_row _ _ 5 _ _ _ hh, t0, t1, t2⟩)
          have hsn := flat_snoc_at (f := fieldL) hz
          have htl := flat_take_len (f := fieldL) hz
          have hfl : (fieldL z).length = 2 := rfl
          obtain ⟨b0, hb0⟩ : ∃ a, a = a3 ++ (y.fs.take j).flatMap fieldL := ⟨_, rfl⟩
          have hb0l : b0.length = a3.length + ((y.fs.take j).flatMap fieldL).length := by rw [hb0, List.length_append]
          have hnext : a3 ++ (y.fs.take (j + 1)).flatMap fieldL = b0 ++ [z.nm, textT (z.k, z.cl)] := by rw [hsn, hb0, List.append_assoc]; rfl
          rw [← H2.out] at htl
          rw [← hb0] at HOF
          have hrm : b0.length + 2 ≤ 4194304 := by omega
          have HNX := Lib.hid hnext
          have HTX := Lib.hid (fun w => text_rr z.k z.cl w (by have := hzb.2; omega))
          generalize textT (z.k, z.cl) = tx at HTX HNX
          obtain ⟨s0, s1, s2, s3⟩ := HFI.out _ HBF.out HXF.out
          clear hown hbw hbx hz hzb hsn htl hfl hb0 hb0l hnext hbl e0 d0 d1 d2 d3
          go_wp2_with fail
          refine wp_region_held_drew (S := (fun w' => w'.cell? ⟨wa.heap.size, 5, none⟩ = some (.slice (some b) y.fs.length y.c2) ∧ w'.cell? (b.add (j * 4)) = some (.string ⟨z.nm.toArray⟩) ∧ w'.cell? ⟨(b.add (j * 4)).block, (b.add (j * 4)).off + 1, none⟩ = some (.int .i64 z.k) ∧ w'.cell? ⟨(b.add (j * 4)).block, (b.add (j * 4)).off + 2, none⟩ = some (.string ⟨z.cl.toArray⟩))) (by kernel_rfl) ?_ (fun hHeld => ?_)
          · exact ⟨s0, s1, s2, s3⟩
          refine wpAnyH_take (i := 0) (v := ?v1) rfl (by kernel_rfl) (by kernel_rfl) (by kernel_rfl) (fun _ _ _ h => h) (Or.inl ⟨by kernel_rfl, ?y1⟩) (by assumption) ?r1
          case y1 => (intro w hSw; (try dsimp only at hSw); go_simp; (try with_reducible rfl))
          try simp only [Act.put, List.getElem_toArray, List.getElem_cons_succ, List.getElem_cons_zero, List.setIfInBounds_toArray, List.set_cons_zero, List.set_cons_succ]
          refine wpAnyH_take (i := 1) (v := ?v2) rfl (by kernel_rfl) (by kernel_rfl) (by kernel_rfl) (fun _ _ _ h => h) (Or.inl ⟨by kernel_rfl, ?y2⟩) (by assumption) ?r2
          case y2 => (intro w hSw; (try dsimp only at hSw); go_simp; (try with_reducible rfl))
          try simp only [Act.put, List.getElem_toArray, List.getElem_cons_succ, List.getElem_cons_zero, List.setIfInBounds_toArray, List.set_cons_zero, List.set_cons_succ]
          refine wpAnyH_take (i := 2) (v := ?v3) rfl (by kernel_rfl) (by kernel_rfl) (by kernel_rfl) (fun _ _ _ h => h) (Or.inl ⟨by kernel_rfl, ?y3⟩) (by assumption) ?r3
          case y3 => (intro w hSw; (try dsimp only at hSw); go_simp; (try with_reducible rfl))
          try simp only [Act.put, List.getElem_toArray, List.getElem_cons_succ, List.getElem_cons_zero, List.setIfInBounds_toArray, List.set_cons_zero, List.set_cons_succ]
          refine wpAnyH_take (i := 3) (v := ?v4) rfl (by kernel_rfl) (by kernel_rfl) (by kernel_rfl) (fun _ _ _ h => h) (Or.inl ⟨by kernel_rfl, ?y4⟩) (by assumption) ?r4
          case y4 => (intro w hSw; (try dsimp only at hSw); go_simp; (try with_reducible rfl))
          try simp only [Act.put, List.getElem_toArray, List.getElem_cons_succ, List.getElem_cons_zero, List.setIfInBounds_toArray, List.set_cons_zero, List.set_cons_succ]
          refine wpAnyH_take (i := 4) (v := ?v5) rfl (by kernel_rfl) (by kernel_rfl) (by kernel_rfl) (fun _ _ _ h => h) (Or.inl ⟨by kernel_rfl, ?y5⟩) (by assumption) ?r5
          case y5 => (intro w hSw; (try dsimp only at hSw); go_simp; (try with_reducible rfl))
          try simp only [Act.put, List.getElem_toArray, List.getElem_cons_succ, List.getElem_cons_zero, List.setIfInBounds_toArray, List.set_cons_zero, List.set_cons_succ]
          refine wpAnyH_take (i := 5) (v := ?v6) rfl (by kernel_rfl) (by kernel_rfl) (by kernel_rfl) (fun _ _ _ h => h) (Or.inl ⟨by kernel_rfl, ?y6⟩) (by assumption) ?r6
          case y6 => (intro w hSw; (try dsimp only at hSw); go_simp; (try with_reducible rfl))
          try simp only [Act.put, List.getElem_toArray, List.getElem_cons_succ, List.getElem_cons_zero, List.setIfInBounds_toArray, List.set_cons_zero, List.set_cons_succ]
          refine wpAnyH_take (i := 6) (v := ?v7) rfl (by kernel_rfl) (by kernel_rfl) (by kernel_rfl) (fun _ _ _ h => h) (Or.inl ⟨by kernel_rfl, ?y7⟩) (by assumption) ?r7
          case y7 => (intro w hSw; (try dsimp only at hSw); go_simp; (try with_reducible rfl))
          try simp only [Act.put, List.getElem_toArray, List.getElem_cons_succ, List.getElem_cons_zero, List.setIfInBounds_toArray, List.set_cons_zero, List.set_cons_succ]
          refine wpAnyH_take (i := 7) (v := ?v8) rfl (by kernel_rfl) (by kernel_rfl) (by kernel_rfl) (fun _ _ _ h => h) (Or.inl ⟨by kernel_rfl, ?y8⟩) (by assumption) ?r8
          case y8 => (intro w hSw; (try dsimp only at hSw); go_simp; (try with_reducible rfl))
          try simp only [Act.put, List.getElem_toArray, List.getElem_cons_succ, List.getElem_cons_zero, List.setIfInBounds_toArray, List.set_cons_zero, List.set_cons_succ]
          refine wpAnyH_take (i := 8) (v := ?v9) rfl (by kernel_rfl) (by kernel_rfl) (by kernel_rfl) (fun _ _ _ h => h) (Or.inl ⟨by kernel_rfl, ?y9⟩) (by assumption) ?r9
          case y9 => (intro w hSw; (try dsimp only at hSw); go_simp; (try with_reducible rfl))
          try simp only [Act.put, List.getElem_toArray, List.getElem_cons_succ, List.getElem_cons_zero, List.setIfInBounds_toArray, List.set_cons_zero, List.set_cons_succ]
          refine wpAnyH_take (i := 9) (v := ?v10) rfl (by kernel_rfl) (by kernel_rfl) (by kernel_rfl) (fun _ _ _ h => h) (Or.inl ⟨by kernel_rfl, ?y10⟩) (by assumption) ?r10
          case y10 => (intro w hSw; (try dsimp only at hSw); go_simp; (try with_reducible rfl))
          try simp only [Act.put, List.getElem_toArray, List.getElem_cons_succ, List.getElem_cons_zero, List.setIfInBounds_toArray, List.set_cons_zero, List.set_cons_succ]
          refine wpAnyH_take (i := 10) (v := ?v11) rfl (by kernel_rfl) (by kernel_rfl) (by kernel_rfl) (fun _ _ _ h => h) (Or.inl ⟨by kernel_rfl, ?y11⟩) (by assumption) ?r11
          case y11 => (intro w hSw; (try dsimp only at hSw); go_simp; (try with_reducible rfl))
          try simp only [Act.put, List.getElem_toArray, List.getElem_cons_succ, List.getElem_cons_zero, List.setIfInBounds_toArray, List.set_cons_zero, List.set_cons_succ]
          refine wpAnyH_take (i := 11) (v := ?v12) rfl (by kernel_rfl) (by kernel_rfl) (by kernel_rfl) (fun _ _ _ h => h) (Or.inl ⟨by kernel_rfl, ?y12⟩) (by assumption) ?r12
          case y12 => (intro w hSw; (try dsimp only at hSw); go_simp; (try with_reducible rfl))
          try simp only [Act.put, List.getElem_toArray, List.getElem_cons_succ, List.getElem_cons_zero, List.setIfInBounds_toArray, List.set_cons_zero, List.set_cons_succ]
          refine wpAnyH_take (i := 12) (v := ?v13) rfl (by kernel_rfl) (by kernel_rfl) (by kernel_rfl) (fun _ _ _ h => h) (Or.inl ⟨by kernel_rfl, ?y13⟩) (by assumption) ?r13
          case y13 => (intro w hSw; (try dsimp only at hSw); go_simp; (try with_reducible rfl))
          try simp only [Act.put, List.getElem_toArray, List.getElem_cons_succ, List.getElem_cons_zero, List.setIfInBounds_toArray, List.set_cons_zero, List.set_cons_succ]
          refine wpAnyH_ready (rs := [13]) (by kernel_rfl) (by simp) (AllReadyH.cons rfl (fun K hK => ?_) AllReadyH.nil)
          go_simp
          refine (HTX.out _).mono ?_; rintro e v1 ⟨rfl, hb1⟩; have hbv : Below wf.heap.size wf v1 := (by first | exact hb1 | exact under hb1 | exact ⟨hb1.os, hb1.tape, hb1.output, hb1.size, hb1.block⟩); have HB2 := Lib.hid (show Below W.heap.size W v1 from HBF.out.trans (Below.mono hbv HBF.out.size)); have HO2 := Lib.hid (own_below HOF.out hbv); have HX2 := Lib.hid ((hbv.block _ (blk_lt HXF.out)).trans HXF.out); clear hb1 hbv s0 s1 s2 s3; obtain ⟨f0, f1, f2, f3⟩ := HFI.out _ HB2.out HX2.out; go_wp2_with fail
          refine hK.out _ _ ⟨f0, f1, f2, f3⟩ (fun hHeld => ?_)
          clear hK K
          try simp only [Act.put, List.getElem_toArray, List.getElem_cons_succ, List.getElem_cons_zero, List.setIfInBounds_toArray, List.set_cons_zero, List.set_cons_succ]
          refine wpAnyH_ready (rs := [14]) (by kernel_rfl) (by simp) (AllReadyH.cons rfl (fun K hK => ?_) AllReadyH.nil)
          go_simp
          have HB3 := Lib.hid (HB2.out.alloc HB2.out.size (.cells #[.string ⟨z.nm.toArray⟩, .string ⟨tx.toArray⟩] 9)); have HO3 := Lib.hid (HO2.out.alloc (.cells #[.string ⟨z.nm.toArray⟩, .string ⟨tx.toArray⟩] 9)); have HX3 := Lib.hid ((Below.heap_alloc v1 (.cells #[.string ⟨z.nm.toArray⟩, .string ⟨tx.toArray⟩] 9) wa.heap.size (blk_lt HX2.out)).trans HX2.out); have HT3 := Lib.hid (heap_alloc_new v1 (.cells #[.string ⟨z.nm.toArray⟩, .string ⟨tx.toArray⟩] 9)); clear f0 f1 f2 f3; obtain ⟨g0, g1, g2, g3⟩ := HFI.out _ HB3.out HX3.out
          refine hK.out _ _ ⟨g0, g1, g2, g3⟩ (fun hHeld => ?_)
          clear hK K
          try simp only [Act.put, List.getElem_toArray, List.getElem_cons_succ, List.getElem_cons_zero, List.setIfInBounds_toArray, List.set_cons_zero, List.set_cons_succ]
          refine wpAnyH_ready (rs := [15]) (by kernel_rfl) (by simp) (AllReadyH.cons rfl (fun K hK => ?_) AllReadyH.nil)
          refine step_app _ (by rfl) (.tmp 42) (.tmp 56) _ (by rfl) W.heap.size 9 i1 _ 1 16 Tryz.underlying23 hj0 hy0 hy1 hy2 rfl (by omega) _ b0.length (SX b0) (by rfl) (by exact HO3.out) _ 2 2 [_, _] (by rfl) (by rfl) (rd_blk HT3.out (k := 2) rfl) (by simp [Value.oneCell']) (by simp only [maxLen]; omega) (by omega) HB3.out.size ?_
          intro v5 w5 hown5 hg5 hb5 hat5
          clear hat5
          have hx5 := row_apart HX3.out (by decide) HO3.out hg5
          have HO5 := Lib.hid (own_more (b := [z.nm, tx]) rfl HNX.out hown5)
          have HB5 := Lib.hid (HB3.out.trans hb5)
          have HX5 := Lib.hid hx5
          clear hown5 hg5 hb5 hx5 g0 g1 g2 g3
          refine hK.out _ _ (HFI.out _ HB5.out HX5.out) (fun hHeld => ?_)
          clear hK K
          try simp only [Act.put, List.getElem_toArray, List.getElem_cons_succ, List.getElem_cons_zero, List.setIfInBounds_toArray, List.set_cons_zero, List.set_cons_succ]
          refine wpAnyH_take (i := 16) (v := ?v14) rfl (by kernel_rfl) (by kernel_rfl) (by kernel_rfl) (fun _ _ _ h => h) (Or.inl ⟨by kernel_rfl, ?y14⟩) (by assumption) ?r14
          case y14 => (intro w hSw; (try dsimp only at hSw); go_simp; (try with_reducible rfl))
          try simp only [Act.put, List.getElem_toArray, List.getElem_cons_succ, List.getElem_cons_zero, List.setIfInBounds_toArray, List.set_cons_zero, List.set_cons_succ]
          refine wpAnyH_done (by kernel_rfl) ?_ _
          go_wp2
          go_roundw
          case rel => exact ⟨j + 1, by go_num, by omega, HO5.out, HB5.out, HX5.out⟩
          case measure => simp [intOf]; omega
        · have hltI2 : ¬ (j : Int) < (y.fs.length : Int) := by omega
          have ho := HOF.out
          rw [List.take_of_length_le (by omega)] at ho
          obtain ⟨a4, ha4⟩ : ∃ a, a = a3 ++ y.fs.flatMap fieldL := ⟨_, rfl⟩
          rw [← ha4] at ho
          have n4 : a4.length = a3.length + LF := by rw [ha4, List.length_append, H2.out]
          have HA4 := Lib.hid ha4
          have HO9 := Lib.hid ho
          clear hown hbw hbx ho ha4
          go_wp2
          clear e0
          go_loopw [3, 7] (fun v i wr => ∃ j : Nat, i = .int .i64 (j : Int) ∧ j ≤ y.ms.length ∧ wr.ownsRow W.heap.size 9 1 v (a4 ++ (y.ms.take j).flatMap methL).length (SX (a4 ++ (y.ms.take j).flatMap methL)) ∧ Below W.heap.size W wr ∧ wr.heap[wa.heap.size]? = some (.cells #[.string ⟨y.nm.toArray⟩, .string ⟨y.su.toArray⟩, .bool y.fc, .bool y.ab, .slice y.A1 y.is.length y.c1, .slice B2 y.fs.length y.c2, .slice B3 y.ms.length y.c3] 37 (0, 0))) (fun _ i _ => y.ms.length - (intOf i).toNat)
          case atStart => exact ⟨0, rfl, Nat.zero_le _, by rw [List.take_zero, List.flatMap_nil, List.append_nil]; exact HO9.out, HBF.out, HXF.out⟩
          case round =>
            obtain ⟨j2, rfl, hj2, hown, hbw, hbx⟩ := hrel
            obtain ⟨wm, hwm⟩ : ∃ v, v = wr := ⟨_, rfl⟩
            subst hwm
            have HOM := Lib.hid hown; have HBM := Lib.hid hbw; have HXM := Lib.hid hbx
            have hszm := hbw.size
            have e0 : wm.cell? ⟨wa.heap.size, 6, none⟩ = some (.slice B3 y.ms.length y.c3) := cell_of_row _ _ 6 _ _ _ hbx
            by_cases hlt3 : j2 < y.ms.length
            · have hltI3 : (j2 : Int) < (y.ms.length : Int) := by omega
              obtain ⟨z, hz⟩ : ∃ z, y.ms[j2]? = some z := ⟨y.ms[j2]'hlt3, List.getElem?_eq_getElem _⟩
              have hmem := List.mem_of_getElem? hz
              have hzk := HOK.out.2.2.2 z hmem
              have hzb := HBY.out.2.2.2.2.2 z hmem
              obtain ⟨b, rfl, hbl, d0, d1, d2, d3, d4, d5⟩ := me_at (HR3.out.below hbw) hz
              obtain ⟨Bz, hBz⟩ : ∃ A, A = z.A := ⟨_, rfl⟩
              have hrz := hzk.2.1
              rw [← hBz] at d5 hrz
              have HRZ := Lib.hid hrz
              have qz : z.co.length ≤ 281474976710656 := by have := hzb.2.2.1; omega
              have qzI : (z.co.length : Int) ≤ 281474976710656 := by omega
              have hsn := flat_snoc_at (f := methL) hz
              have htl := flat_take_len (f := methL) hz
              have hml : (methL z).length = 2 + (z.co.flatMap instrL).length := by unfold methL; rw [List.length_append]; rfl
              obtain ⟨b0, hb0⟩ : ∃ a, a = a4 ++ (y.ms.take j2).flatMap methL := ⟨_, rfl⟩
              obtain ⟨b1, hb1⟩ : ∃ a, a = b0 ++ [z.nm, z.ds] := ⟨_, rfl⟩
              obtain ⟨LI, hLI⟩ : ∃ l, l = (z.co.flatMap instrL).length := ⟨_, rfl⟩
              have hb0l : b0.length = a4.length + ((y.ms.take j2).flatMap methL).length := by rw [hb0, List.length_append]
              have hb1l : b1.length = b0.length + 2 := by rw [hb1, List.length_append]; rfl
              have hnext : a4 ++ (y.ms.take (j2 + 1)).flatMap methL = b1 ++ z.co.flatMap instrL := by rw [hsn, hb1, hb0]; unfold methL; simp only [List.append_assoc]
              rw [← H3.out] at htl
              rw [← hLI] at hml
              rw [← hb0] at HOM
              have hrm : b1.length + LI ≤ 4194304 := by omega
              have HNX := Lib.hid hnext; have HB1E := Lib.hid hb1; have HLI := Lib.hid hLI
              clear hown hbw hz hmem hzk hzb hsn htl hml hb0 hb0l hb1 hnext hbl hBz hrz hLI hbx
              have HM0 := Lib.hid (heap_alloc_new wm (.cells #[.string ⟨z.nm.toArray⟩, .string ⟨z.ds.toArray⟩, .bool z.st, .bool z.ab, .int .i64 z.rg, .slice Bz z.co.length z.c] 46))
              have HM1 := Lib.hid ((Below.heap_alloc (wm.alloc (.cells #[.string ⟨z.nm.toArray⟩, .string ⟨z.ds.toArray⟩, .bool z.st, .bool z.ab, .int .i64 z.rg, .slice Bz z.co.length z.c] 46)) (.cells #[.string ⟨z.nm.toArray⟩, .string ⟨z.ds.toArray⟩] 9) wm.heap.size (by simp)).trans HM0.out)
              have HXM1 := Lib.hid ((Below.heap_alloc (wm.alloc (.cells #[.string ⟨z.nm.toArray⟩, .string ⟨z.ds.toArray⟩, .bool z.st, .bool z.ab, .int .i64 z.rg, .slice Bz z.co.length z.c] 46)) (.cells #[.string ⟨z.nm.toArray⟩, .string ⟨z.ds.toArray⟩] 9) wa.heap.size (by have := blk_lt HXM.out; simp; omega)).trans ((Below.heap_alloc wm (.cells #[.string ⟨z.nm.toArray⟩, .string ⟨z.ds.toArray⟩, .bool z.st, .bool z.ab, .int .i64 z.rg, .slice Bz z.co.length z.c] 46) wa.heap.size (blk_lt HXM.out)).trans HXM.out))
              go_wp2_with (at_builtin; refine wpList_app _ rfl (.tmp 70) (.tmp 75) _ rfl W.heap.size 9 i1 _ 1 16 Tryz.underlying23 hj0 hy0 hy1 hy2 rfl (by omega) _ b0.length (SX b0) rfl ((HOM.out.alloc _).alloc _) _ 2 _ ([.string ⟨z.nm.toArray⟩, .string ⟨z.ds.toArray⟩]) rfl (rfl) (new_rdg (W := wm.alloc (.cells #[.string ⟨z.nm.toArray⟩, .string ⟨z.ds.toArray⟩, .bool z.st, .bool z.ab, .int .i64 z.rg, .slice Bz z.co.length z.c] 46)) (wm.heap.size + 1) #[.string ⟨z.nm.toArray⟩, .string ⟨z.ds.toArray⟩] 9 2 (by simp) [.string ⟨z.nm.toArray⟩, .string ⟨z.ds.toArray⟩] rfl) (by simp [Value.oneCell']) (by simp only [maxLen]; omega) (by omega) (by first | omega | (simp; omega)) ?_; intro v5 w5 hown5 hg5 hb5 hat5; clear hat5; have hx5 := row_apart HM1.out (by decide) ((HOM.out.alloc (.cells #[.string ⟨z.nm.toArray⟩, .string ⟨z.ds.toArray⟩, .bool z.st, .bool z.ab, .int .i64 z.rg, .slice Bz z.co.length z.c] 46)).alloc (.cells #[.string ⟨z.nm.toArray⟩, .string ⟨z.ds.toArray⟩] 9)) hg5; have hxc5 := row_apart HXM1.out (by decide) ((HOM.out.alloc (.cells #[.string ⟨z.nm.toArray⟩, .string ⟨z.ds.toArray⟩, .bool z.st, .bool z.ab, .int .i64 z.rg, .slice Bz z.co.length z.c] 46)).alloc (.cells #[.string ⟨z.nm.toArray⟩, .string ⟨z.ds.toArray⟩] 9)) hg5; have z5 : w5.cell? ⟨wm.heap.size, 5, none⟩ = some (.slice Bz z.co.length z.c) := cell_of_row _ _ 5 _ _ _ hx5)
              have HO10 := Lib.hid (own_more (b := [z.nm, z.ds]) rfl HB1E.out hown5)
              have HB10 := Lib.hid (((HBM.out.alloc hszm (.cells #[.string ⟨z.nm.toArray⟩, .string ⟨z.ds.toArray⟩, .bool z.st, .bool z.ab, .int .i64 z.rg, .slice Bz z.co.length z.c] 46)).alloc (by simp; omega) (.cells #[.string ⟨z.nm.toArray⟩, .string ⟨z.ds.toArray⟩] 9)).trans hb5)
              have HX10 := Lib.hid hx5; have HXC10 := Lib.hid hxc5
              clear hown5 hg5 hb5 hx5 hxc5 d0 d1 d2 d3 d4 d5 z5 e0
              go_loopw [3, 9] (fun v i wr => ∃ j : Nat, i = .int .i64 (j : Int) ∧ j ≤ z.co.length ∧ wr.ownsRow W.heap.size 9 1 v (b1 ++ (z.co.take j).flatMap instrL).length (SX (b1 ++ (z.co.take j).flatMap instrL)) ∧ Below W.heap.size W wr ∧ wr.heap[wa.heap.size]? = some (.cells #[.string ⟨y.nm.toArray⟩, .string ⟨y.su.toArray⟩, .bool y.fc, .bool y.ab, .slice y.A1 y.is.length y.c1, .slice B2 y.fs.length y.c2, .slice (some b) y.ms.length y.c3] 37 (0, 0)) ∧ wr.heap[wm.heap.size]? = some (.cells #[.string ⟨z.nm.toArray⟩, .string ⟨z.ds.toArray⟩, .bool z.st, .bool z.ab, .int .i64 z.rg, .slice Bz z.co.length z.c] 46 (0, 0))) (fun _ i _ => z.co.length - (intOf i).toNat)
              case atStart => exact ⟨0, rfl, Nat.zero_le _, by rw [List.take_zero, List.flatMap_nil, List.append_nil]; exact HO10.out, HB10.out, HXC10.out, HX10.out⟩
              case round =>
                obtain ⟨j3, rfl, hj3, hown, hbw, hxc, hxm⟩ := hrel
                obtain ⟨wt, hwt⟩ : ∃ v, v = wr := ⟨_, rfl⟩
                subst hwt
                have HOT := Lib.hid hown; have HBT := Lib.hid hbw; have HXC := Lib.hid hxc; have HXT := Lib.hid hxm
                have hszt := hbw.size
                have z5 : wt.cell? ⟨wm.heap.size, 5, none⟩ = some (.slice Bz z.co.length z.c) := cell_of_row _ _ 5 _ _ _ hxm
                by_cases hlt4 : j3 < z.co.length
                · have hltI4 : (j3 : Int) < (z.co.length : Int) := by omega
                  obtain ⟨t, ht⟩ : ∃ t, z.co[j3]? = some t := ⟨z.co[j3]'hlt4, List.getElem?_eq_getElem _⟩
                  obtain ⟨c, rfl, hcl, e0, e1, e2, e3, e4, e5, e6, e7, e8⟩ := in_at (HRZ.out.below hbw) ht
                  have HIN := Lib.hid (show ∀ v : World, Below W.heap.size W v → v.heap[wm.heap.size]? = some (.cells #[.string ⟨z.nm.toArray⟩, .string ⟨z.ds.toArray⟩, .bool z.st, .bool z.ab, .int .i64 z.rg, .slice (some c) z.co.length z.c] 46 (0, 0)) → v.cell? ⟨wm.heap.size, 5, none⟩ = some (.slice (some c) z.co.length z.c) ∧ v.cell? ⟨(c.add (j3 * 9)).block, (c.add (j3 * 9)).off + 5, none⟩ = some (.string ⟨t.i.cl.toArray⟩) ∧ v.cell? ⟨(c.add (j3 * 9)).block, (c.add (j3 * 9)).off + 6, none⟩ = some (.string ⟨t.i.nm.toArray⟩) ∧ v.cell? ⟨(c.add (j3 * 9)).block, (c.add (j3 * 9)).off + 7, none⟩ = some (.string ⟨t.i.ds.toArray⟩) from fun v hv hh => by
                    obtain ⟨_, e, _, t0, t1, t2, t3, t4, t5, t6, t7, t8⟩ := in_at (HRZ.out.below hv) ht
                    cases e
                    exact ⟨cell_of_row _ _ 5 _ _ _ hh, t5, t6, t7⟩)
                  have hsn := flat_snoc_at (f := instrL) ht
                  have htl := flat_take_len (f := instrL) ht
                  have hil : (instrL t).length = (filledL [t.i.cl]).length + (filledL [t.i.nm]).length + (filledL [t.i.ds]).length := by
                    rw [← List.length_append, ← List.length_append]
                    unfold instrL filledL
                    rw [← List.filter_append, ← List.filter_append]; rfl
                  have hie : instrL t = filledL [t.i.cl] ++ filledL [t.i.nm] ++ filledL [t.i.ds] := by
                    unfold instrL filledL
                    rw [← List.filter_append, ← List.filter_append]; rfl
                  obtain ⟨g0, hg0⟩ : ∃ a, a = b1 ++ (z.co.take j3).flatMap instrL := ⟨_, rfl⟩
                  obtain ⟨g1, hg1⟩ : ∃ a, a = g0 ++ filledL [t.i.cl] := ⟨_, rfl⟩
                  obtain ⟨g2, hg2⟩ : ∃ a, a = g1 ++ filledL [t.i.nm] := ⟨_, rfl⟩
                  obtain ⟨g3, hg3⟩ : ∃ a, a = g2 ++ filledL [t.i.ds] := ⟨_, rfl⟩
                  have hg0l : g0.length = b1.length + ((z.co.take j3).flatMap instrL).length := by rw [hg0, List.length_append]
                  have hg1l : g1.length = g0.length + (filledL [t.i.cl]).length := by rw [hg1, List.length_append]
                  have hg2l : g2.length = g1.length + (filledL [t.i.nm]).length := by rw [hg2, List.length_append]
                  have hnext : b1 ++ (z.co.take (j3 + 1)).flatMap instrL = g3 := by rw [hsn, hg3, hg2, hg1, hg0, hie]; simp only [List.append_assoc]
                  rw [← HLI.out, hil] at htl
                  rw [← hg0] at HOT
                  have q0 : g0.length + 1 ≤ 4194305 := by omega
                  have q1 : g1.length + 1 ≤ 4194305 := by omega
                  have q2' : g2.length + 1 ≤ 4194305 := by omega
                  have HNX4 := Lib.hid hnext
                  have HG1 := Lib.hid hg1; have HG2 := Lib.hid hg2; have HG3 := Lib.hid hg3
                  obtain ⟨s0, s1, s2, s3⟩ := HIN.out _ HBT.out HXT.out
                  have HS1 := Lib.hid (some_r W.heap.size _ g0 g1 t.i.cl wt HBT.out.size HOT.out q0 HG1.out)
                  clear hown hbw hxc hxm ht hsn htl hg0 hg0l hg1 hg2 hg3 hg1l hg2l hnext hcl hil hie z5 e0 e1 e2 e3 e4 e5 e6 e7 e8
                  go_wp2_with fail
                  refine HS1.out.mono ?_
                  rintro e u1 ⟨v1, rfl, ho1, hb1', hk1⟩
                  have HB1' := Lib.hid (HBT.out.trans hb1'); have HO1' := Lib.hid ho1; have HX1' := Lib.hid (hk1 _ _ _ _ (by decide) HXT.out); have HC1' := Lib.hid (hk1 _ _ _ _ (by decide) HXC.out)
                  have HS2 := Lib.hid (some_r W.heap.size _ g1 g2 t.i.nm u1 HB1'.out.size HO1'.out q1 HG2.out)
                  clear hb1' ho1 hk1 s0 s1 s2 s3
                  obtain ⟨s0, s1, s2, s3⟩ := HIN.out _ HB1'.out HX1'.out
                  go_wp2_with fail
                  refine HS2.out.mono ?_
                  rintro e u2 ⟨v2, rfl, ho2, hb2', hk2⟩
                  have HB2' := Lib.hid (HB1'.out.trans hb2'); have HO2' := Lib.hid ho2; have HX2' := Lib.hid (hk2 _ _ _ _ (by decide) HX1'.out); have HC2' := Lib.hid (hk2 _ _ _ _ (by decide) HC1'.out)
                  have HS3 := Lib.hid (some_r W.heap.size _ g2 g3 t.i.ds u2 HB2'.out.size HO2'.out q2' HG3.out)
                  clear hb2' ho2 hk2 s0 s1 s2 s3
                  obtain ⟨s0, s1, s2, s3⟩ := HIN.out _ HB2'.out HX2'.out
                  go_wp2_with fail
                  refine HS3.out.mono ?_
                  rintro e u3 ⟨v3, rfl, ho3, hb3', hk3⟩
                  have HB3' := Lib.hid (HB2'.out.trans hb3'); have HO3' := Lib.hid ho3; have HX3' := Lib.hid (hk3 _ _ _ _ (by decide) HX2'.out); have HC3' := Lib.hid (hk3 _ _ _ _ (by decide) HC2'.out)
                  clear hb3' ho3 hk3 s0 s1 s2 s3
                  go_wp2
                  go_roundw
                  case rel => exact ⟨j3 + 1, by go_num, by omega, by rw [HNX4.out]; exact HO3'.out, HB3'.out, HC3'.out, HX3'.out⟩
                  case measure => simp [intOf]; omega
                · have hltI4 : ¬ (j3 : Int) < (z.co.length : Int) := by omega
                  have ho := HOT.out
                  rw [List.take_of_length_le (by omega), ← HNX.out] at ho
                  have HO12 := Lib.hid ho
                  clear hown hbw ho hxc hxm
                  go_wp2
                  go_roundw
                  case rel => exact ⟨j2 + 1, by go_num, by omega, HO12.out, HBT.out, HXC.out⟩
                  case measure => simp [intOf]; omega
            · have hltI3 : ¬ (j2 : Int) < (y.ms.length : Int) := by omega
              have ho := HOM.out
              rw [List.take_of_length_le (by omega)] at ho
              have hcl : a4 ++ y.ms.flatMap methL = (x.cs.take (k + 1)).flatMap classL := by
                rw [HSN.out, HA4.out, HA3.out, HA2.out, HA1.out]; unfold classL; simp only [List.append_assoc]
              rw [hcl] at ho
              have HO13 := Lib.hid ho
              clear hown hbw ho hcl hbx
              go_wp2
              go_roundw
              case rel => exact ⟨k + 1, by go_num, by omega, HO13.out, HBM.out⟩
              case measure => simp [intOf]; omega
    · have hltI : ¬ (k : Int) < (n : Int) := by omega
      have ho := HO.out
      rw [List.take_of_length_le (by rw [← HN.out]; omega)] at ho
      obtain ⟨e0, he0⟩ : ∃ a, a = x.cs.flatMap classL := ⟨_, rfl⟩
      rw [← he0] at ho hsm HSL
      have HOE := Lib.hid ho
      obtain ⟨x1_0, x1_1, x1_2, x1_3, x1_4⟩ := pr_cells ((hbw.block _ HLT.out).trans HBK.out)
      obtain ⟨ec, hec⟩ : ∃ a, a = x.ec := ⟨_, rfl⟩
      obtain ⟨en, hen⟩ : ∃ a, a = x.en := ⟨_, rfl⟩
      obtain ⟨ed, hed⟩ : ∃ a, a = x.ed := ⟨_, rfl⟩
      have hel : entryL x = if ((ec == []) && ((en == []) && (ed == []))) = true then [] else [ec, en, ed] := by rw [hec, hen, hed]; rfl
      have hem := entry_most x
      rw [← hec] at x1_2
      rw [← hen] at x1_3
      rw [← hed] at x1_4
      have HRN := Lib.hid (HKW.out.2.1.2.below hbw)
      obtain ⟨e1, he1⟩ : ∃ a, a = e0 ++ x.ns := ⟨_, rfl⟩
      have hl1 : e1.length = e0.length + x.ns.length := by rw [he1, List.length_append]
      have HE1 := Lib.hid he1
      have hs1 := HSL.out
      rw [← he1] at hs1
      have HS1 := Lib.hid hs1; have HEL := Lib.hid hel
      have hbx := (hbw.block _ HLT.out).trans HBK.out
      have HBX := Lib.hid hbx
      have HEC := Lib.hid hec.symm; have HEN := Lib.hid hen.symm; have HED := Lib.hid hed.symm
      clear hown hbw ho he0 hec hen hed hel he1 hs1 hbx x1_0
      have hlt2 : w.heap.size < W.heap.size := HLT.out
      have HLT2 := Lib.hid hlt2
      clear hlt2
      by_cases h1 : ec = []
      · subst h1
        by_cases h2 : en = []
        · subst h2
          by_cases h3 : ed = []
          · subst h3
            have hR : R = e1 := by rw [HS1.out, HEL.out]; simp
            have HRR := Lib.hid hR
            clear hR
            go_wp2_with (at_builtin; refine wpList_app _ rfl (.tmp 108) (.tmp 110) _ rfl W.heap.size 9 i1 _ 1 16 Tryz.underlying23 hj0 hy0 hy1 hy2 rfl (by omega) _ e0.length (SX e0) rfl (HOE.out) _ x.ns.length _ (SX x.ns) rfl (by rw [SX_len]; simp) (HRN.out) (SX_one _) (by simp only [maxLen]; omega) (by omega) (by first | omega | (simp; omega)) ?_; intro v5 w5 hown5 hg5 hb5 hat5; clear hat5; have hx5 := (hb5.block _ HLT2.out).trans HBX.out; have p2 : w5.cell? ⟨w.heap.size, 2, none⟩ = some (.string ⟨#[]⟩) := (pr_cells hx5).2.2.1.trans (by rw [HEC.out]); have p3 : w5.cell? ⟨w.heap.size, 3, none⟩ = some (.string ⟨#[]⟩) := (pr_cells hx5).2.2.2.1.trans (by rw [HEN.out]); have p4 : w5.cell? ⟨w.heap.size, 4, none⟩ = some (.string ⟨#[]⟩) := (pr_cells hx5).2.2.2.2.trans (by rw [HED.out]); have HO14 := Lib.hid (own_more (b := x.ns) rfl HE1.out hown5); have HB14 := Lib.hid (HB.out.trans hb5); have hsz14 := HB14.out.size; clear hown5 hg5 hb5 hx5)
            obtain ⟨A9, c9, rfl, _, _, hrd9⟩ := own_rd HO14.out
            have HRD9 := Lib.hid hrd9
            clear hrd9
            (try go_wp2)
            go_ret
            rw [HRR.out]
            exact ⟨⟨A9, c9, rfl, HRD9.out⟩, HAL.out.trans (HB14.out.mono HAL.out.size)⟩
          · skip
            have hd3 : List.isEmpty ed = false := by cases ed with | nil => exact absurd rfl h3 | cons _ _ => rfl
            obtain ⟨e2, he2⟩ : ∃ a, a = e1 ++ ([[], [], ed] : List Tx) := ⟨_, rfl⟩
            have hR : R = e2 := by rw [HS1.out, HEL.out, he2]; simp [h3]
            have HRR := Lib.hid hR; have HE2 := Lib.hid he2
            clear hR he2
            go_wp2_with (first
              | (at_builtin; refine wpList_app _ rfl (.tmp 108) (.tmp 110) _ rfl W.heap.size 9 i1 _ 1 16 Tryz.underlying23 hj0 hy0 hy1 hy2 rfl (by omega) _ e0.length (SX e0) rfl (HOE.out) _ x.ns.length _ (SX x.ns) rfl (by rw [SX_len]; simp) (HRN.out) (SX_one _) (by simp only [maxLen]; omega) (by omega) (by first | omega | (simp; omega)) ?_; intro v5 w5 hown5 hg5 hb5 hat5; clear hat5; have hx5 := (hb5.block _ HLT2.out).trans HBX.out; have p2 : w5.cell? ⟨w.heap.size, 2, none⟩ = some (.string ⟨#[]⟩) := (pr_cells hx5).2.2.1.trans (by rw [HEC.out]); have p3 : w5.cell? ⟨w.heap.size, 3, none⟩ = some (.string ⟨#[]⟩) := (pr_cells hx5).2.2.2.1.trans (by rw [HEN.out]); have p4 : w5.cell? ⟨w.heap.size, 4, none⟩ = some (.string ⟨ed.toArray⟩) := (pr_cells hx5).2.2.2.2.trans (by rw [HED.out]); have HO14 := Lib.hid (own_more (b := x.ns) rfl HE1.out hown5); have HB14 := Lib.hid (HB.out.trans hb5); have hsz14 := HB14.out.size; clear hown5 hg5 hb5 hx5)
              | (at_builtin; refine wpList_app _ rfl (.tmp 129) (.tmp 139) _ rfl W.heap.size 9 i1 _ 1 16 Tryz.underlying23 hj0 hy0 hy1 hy2 rfl (by omega) _ e1.length (SX e1) rfl (HO14.out.alloc (.cells #[.string ⟨#[]⟩, .string ⟨#[]⟩, .string ⟨ed.toArray⟩] 9)) _ 3 _ ([.string ⟨#[]⟩, .string ⟨#[]⟩, .string ⟨ed.toArray⟩]) rfl (rfl) (rd_blk (heap_alloc_new w5 _) (k := 3) rfl) (by simp [Value.oneCell']) (by simp only [maxLen]; omega) (by omega) (by first | omega | (simp; omega)) ?_; intro v7 w7 hown7 hg7 hb7 hat7; clear hat7; have HO16 := Lib.hid (own_more (b := [[], [], ed]) rfl HE2.out hown7); have HB16 := Lib.hid ((HB14.out.alloc hsz14 (.cells #[.string ⟨#[]⟩, .string ⟨#[]⟩, .string ⟨ed.toArray⟩] 9)).trans hb7); clear hown7 hg7 hb7))
            obtain ⟨A9, c9, rfl, _, _, hrd9⟩ := own_rd HO16.out
            have HRD9 := Lib.hid hrd9
            clear hrd9
            (try go_wp2)
            go_ret
            rw [HRR.out]
            exact ⟨⟨A9, c9, rfl, HRD9.out⟩, HAL.out.trans (HB16.out.mono HAL.out.size)⟩
        · skip
          have hd2 : List.isEmpty en = false := by cases en with | nil => exact absurd rfl h2 | cons _ _ => rfl
          obtain ⟨e2, he2⟩ : ∃ a, a = e1 ++ ([[], en, ed] : List Tx) := ⟨_, rfl⟩
          have hR : R = e2 := by rw [HS1.out, HEL.out, he2]; simp [h2]
          have HRR := Lib.hid hR; have HE2 := Lib.hid he2
          clear hR he2
          go_wp2_with (first
            | (at_builtin; refine wpList_app _ rfl (.tmp 108) (.tmp 110) _ rfl W.heap.size 9 i1 _ 1 16 Tryz.underlying23 hj0 hy0 hy1 hy2 rfl (by omega) _ e0.length (SX e0) rfl (HOE.out) _ x.ns.length _ (SX x.ns) rfl (by rw [SX_len]; simp) (HRN.out) (SX_one _) (by simp only [maxLen]; omega) (by omega) (by first | omega | (simp; omega)) ?_; intro v5 w5 hown5 hg5 hb5 hat5; clear hat5; have hx5 := (hb5.block _ HLT2.out).trans HBX.out; have p2 : w5.cell? ⟨w.heap.size, 2, none⟩ = some (.string ⟨#[]⟩) := (pr_cells hx5).2.2.1.trans (by rw [HEC.out]); have p3 : w5.cell? ⟨w.heap.size, 3, none⟩ = some (.string ⟨en.toArray⟩) := (pr_cells hx5).2.2.2.1.trans (by rw [HEN.out]); have p4 : w5.cell? ⟨w.heap.size, 4, none⟩ = some (.string ⟨ed.toArray⟩) := (pr_cells hx5).2.2.2.2.trans (by rw [HED.out]); have HO14 := Lib.hid (own_more (b := x.ns) rfl HE1.out hown5); have HB14 := Lib.hid (HB.out.trans hb5); have hsz14 := HB14.out.size; clear hown5 hg5 hb5 hx5)
            | (at_builtin; refine wpList_app _ rfl (.tmp 129) (.tmp 139) _ rfl W.heap.size 9 i1 _ 1 16 Tryz.underlying23 hj0 hy0 hy1 hy2 rfl (by omega) _ e1.length (SX e1) rfl (HO14.out.alloc (.cells #[.string ⟨#[]⟩, .string ⟨en.toArray⟩, .string ⟨ed.toArray⟩] 9)) _ 3 _ ([.string ⟨#[]⟩, .string ⟨en.toArray⟩, .string ⟨ed.toArray⟩]) rfl (rfl) (rd_blk (heap_alloc_new w5 _) (k := 3) rfl) (by simp [Value.oneCell']) (by simp only [maxLen]; omega) (by omega) (by first | omega | (simp; omega)) ?_; intro v7 w7 hown7 hg7 hb7 hat7; clear hat7; have HO16 := Lib.hid (own_more (b := [[], en, ed]) rfl HE2.out hown7); have HB16 := Lib.hid ((HB14.out.alloc hsz14 (.cells #[.string ⟨#[]⟩, .string ⟨en.toArray⟩, .string ⟨ed.toArray⟩] 9)).trans hb7); clear hown7 hg7 hb7))
          obtain ⟨A9, c9, rfl, _, _, hrd9⟩ := own_rd HO16.out
          have HRD9 := Lib.hid hrd9
          clear hrd9
          (try go_wp2)
          go_ret
          rw [HRR.out]
          exact ⟨⟨A9, c9, rfl, HRD9.out⟩, HAL.out.trans (HB16.out.mono HAL.out.size)⟩
      · skip
        have hd1 : List.isEmpty ec = false := by cases ec with | nil => exact absurd rfl h1 | cons _ _ => rfl
        obtain ⟨e2, he2⟩ : ∃ a, a = e1 ++ ([ec, en, ed] : List Tx) := ⟨_, rfl⟩
        have hR : R = e2 := by rw [HS1.out, HEL.out, he2]; simp [h1]
        have HRR := Lib.hid hR; have HE2 := Lib.hid he2
        clear hR he2
        go_wp2_with (first
          | (at_builtin; refine wpList_app _ rfl (.tmp 108) (.tmp 110) _ rfl W.heap.size 9 i1 _ 1 16 Tryz.underlying23 hj0 hy0 hy1 hy2 rfl (by omega) _ e0.length (SX e0) rfl (HOE.out) _ x.ns.length _ (SX x.ns) rfl (by rw [SX_len]; simp) (HRN.out) (SX_one _) (by simp only [maxLen]; omega) (by omega) (by first | omega | (simp; omega)) ?_; intro v5 w5 hown5 hg5 hb5 hat5; clear hat5; have hx5 := (hb5.block _ HLT2.out).trans HBX.out; have p2 : w5.cell? ⟨w.heap.size, 2, none⟩ = some (.string ⟨ec.toArray⟩) := (pr_cells hx5).2.2.1.trans (by rw [HEC.out]); have p3 : w5.cell? ⟨w.heap.size, 3, none⟩ = some (.string ⟨en.toArray⟩) := (pr_cells hx5).2.2.2.1.trans (by rw [HEN.out]); have p4 : w5.cell? ⟨w.heap.size, 4, none⟩ = some (.string ⟨ed.toArray⟩) := (pr_cells hx5).2.2.2.2.trans (by rw [HED.out]); have HO14 := Lib.hid (own_more (b := x.ns) rfl HE1.out hown5); have HB14 := Lib.hid (HB.out.trans hb5); have hsz14 := HB14.out.size; clear hown5 hg5 hb5 hx5)
          | (at_builtin; refine wpList_app _ rfl (.tmp 129) (.tmp 139) _ rfl W.heap.size 9 i1 _ 1 16 Tryz.underlying23 hj0 hy0 hy1 hy2 rfl (by omega) _ e1.length (SX e1) rfl (HO14.out.alloc (.cells #[.string ⟨ec.toArray⟩, .string ⟨en.toArray⟩, .string ⟨ed.toArray⟩] 9)) _ 3 _ ([.string ⟨ec.toArray⟩, .string ⟨en.toArray⟩, .string ⟨ed.toArray⟩]) rfl (rfl) (rd_blk (heap_alloc_new w5 _) (k := 3) rfl) (by simp [Value.oneCell']) (by simp only [maxLen]; omega) (by omega) (by first | omega | (simp; omega)) ?_; intro v7 w7 hown7 hg7 hb7 hat7; clear hat7; have HO16 := Lib.hid (own_more (b := [ec, en, ed]) rfl HE2.out hown7); have HB16 := Lib.hid ((HB14.out.alloc hsz14 (.cells #[.string ⟨ec.toArray⟩, .string ⟨en.toArray⟩, .string ⟨ed.toArray⟩] 9)).trans hb7); clear hown7 hg7 hb7))
        obtain ⟨A9, c9, rfl, _, _, hrd9⟩ := own_rd HO16.out
        have HRD9 := Lib.hid hrd9
        clear hrd9
        (try go_wp2)
        go_ret
        rw [HRR.out]
        exact ⟨⟨A9, c9, rfl, HRD9.out⟩, HAL.out.trans (HB16.out.mono HAL.out.size)⟩
end Go.Proofs.YtjahilfapcljiaaGreatDoor.prg

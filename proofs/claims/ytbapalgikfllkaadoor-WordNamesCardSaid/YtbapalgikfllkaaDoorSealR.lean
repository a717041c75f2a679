/-
  What the reference's Seal and Open hand back: what sealL and openL say, as crc's.
-/
import Derived.Test.YtbapalgikfllkaaDoorOpen
namespace Go.Proofs.YtbapalgikfllkaaDoor.sealing
open Go.RowKit
open Go.Proofs.YtbapalgikfllkaaDoor.crcnum Go.Proofs.YtbapalgikfllkaaDoor.words

theorem four_at (s j : Nat) (hj : j < 4) : (fourL s)[j]? = some (s / 2 ^ (8 * j) % 256) := by
  match j, hj with
  | 0, _ => simp [fourL]
  | 1, _ => simp [fourL]
  | 2, _ => simp [fourL]
  | 3, _ => simp [fourL]
set_option maxRecDepth 100000 in
set_option maxHeartbeats 800000 in
theorem rseal_any (A : Option Addr) (n c : Nat) (l : List Nat) (w : World) (hr : Rd w A (B l)) (hl : l.length = n) (hn : n ≤ 140737488351232) (hby : ∀ x ∈ l, x < 256) :
    Calls Tryd.prog 85 #[.slice A n c] w (put.New w (sealL l)) := by
  obtain ⟨i0, hi0, hz0, hz1, hz2⟩ := info_parts put.info5
  have h1 := fun wx h => crc.rsum_any A n c l wx h hl (by omega) hby
  have hs := sumL_lt l
  have hsI : (sumL l : Int) ≤ 4294967295 := by omega
  have H1 := Lib.hid h1; have HS := Lib.hid hs
  have HN := Lib.hid hn; have HL := Lib.hid hl
  have hq : sealL l = l ++ fourL (sumL l) := rfl
  have HQ := Lib.hid hq
  clear h1 hs hn hl hby hq
  generalize sumL l = s at *
  go_enter Tryd.func85, Tryd.ntmps85
  go_wp2_with (at_builtin; refine wpList_app _ rfl (.tmp 6) (.tmp 7) _ rfl w.heap.size 5 i0 _ 1 1 Tryd.underlying22 hi0 hz0 hz1 hz2 rfl (by omega) _ 0 [] rfl (World.ownsRow_nil _ _ _ _) A n c (B l) rfl (by rw [B_len, HL.out]; omega) hr (B_one l) (by have := HN.out; simp only [maxLen]; omega) (by have := HN.out; omega) (by omega) ?_; intro v1 w1 hown1 hg1 hb1 hat1; clear hg1 hat1)
  rw [List.nil_append, Nat.zero_add] at hown1
  refine (H1.out _ (hr.keep hb1.size fun _ hp => hb1.cell hp)).mono ?_
  rintro e w' ⟨rfl, rfl⟩
  go_wp2_with fail
  go_loopw [3, 5] (fun v x wr => ∃ j : Nat, j ≤ 4 ∧ x = .int .i64 (j : Int) ∧ wr.ownsRow w.heap.size 5 1 v (n + j) (B (l ++ (fourL s).take j)) ∧ Below w.heap.size w wr) (fun _ x _ => 4 - (intOf x).toNat)
  case atStart => exact ⟨0, by omega, rfl, by simpa using hown1, hb1⟩
  case round =>
    obtain ⟨j, hj, rfl, hown, hb⟩ := hrel
    have hsz := hb.size
    by_cases hlt : j < 4
    · have HO := Lib.hid hown
      clear hown
      go_wp2_with (at_builtin; refine wpList_app _ rfl (.tmp 15) (.tmp 22) _ rfl w.heap.size 5 i0 _ 1 1 Tryd.underlying22 hi0 hz0 hz1 hz2 rfl (by omega) _ (n + j) _ rfl (HO.out.alloc _) _ 1 1 [_] rfl rfl (rd_blk (heap_alloc_new wr _) (k := 1) rfl) (by simp [Value.oneCell']) (by have := HN.out; simp only [maxLen]; omega) (by have := HN.out; omega) (by simp; omega) ?_; intro v' w2 hown2 hg2 hb2 hat2; clear hg2 hat2)
      have hown3 : w2.ownsRow w.heap.size 5 1 v' (n + (j + 1)) (B (l ++ (fourL s).take (j + 1))) := by
        rw [List.take_add_one, four_at s j hlt, Option.toList_some, ← List.append_assoc, B_app (l ++ (fourL s).take j)]
        rw [← Nat.add_assoc, show B [s / 2 ^ (8 * j) % 256] = [Value.int .u8 ((s : Int) / 2 ^ (8 * j) % 256)] by simp [B]]
        exact hown2
      have hb3 := (hb.alloc hsz (Obj.cells #[Value.int IntKind.u8 ((s : Int) / 2 ^ (8 * j) % 256)] 5)).trans hb2
      go_roundw
      case rel => exact ⟨j + 1, by omega, by go_num, hown3, hb3⟩
      case measure => simp [intOf]; omega
    · have hj4 : j = 4 := by omega
      have hfin : wr.ownsRow w.heap.size 5 1 u3 (sealL l).length (B (sealL l)) := by
        rw [sealL_len, HL.out, HQ.out]
        subst hj4
        exact hown
      have HF := Lib.hid hfin
      clear hown hfin hj4
      go_wp2
      go_ret
      exact ⟨_, rfl, HF.out, hb⟩

set_option maxRecDepth 100000 in
set_option maxHeartbeats 800000 in
theorem ropen_any (A : Option Addr) (n c : Nat) (l : List Nat) (w : World) (hr : Rd w A (B l)) (hl : l.length = n) (hc : n ≤ c) (hn : n ≤ 140737488355328) (hby : ∀ x ∈ l, x < 256) :
    Calls Tryd.prog 107 #[.slice A n c] w (NewO w (openL l)) := by
  obtain ⟨i0, hi0, hz0, hz1, hz2⟩ := info_parts put.info5
  by_cases h4 : n < 4
  · have hres : openL l = ([], 2) := by unfold openL; rw [if_pos (by omega)]
    have h4I : (n : Int) < 4 := by omega
    rw [hres]
    clear hres hn hc hby hl h4
    go_enter Tryd.func107, Tryd.ntmps107
    go_wp2
    go_ret2
    exact ⟨_, rfl, World.ownsRow_nil _ _ _ _, Below.refl _ _⟩
  · obtain ⟨C, hC, hcut1⟩ := run_cut_h Tryd.underlying22 (by kernel_rfl) put.size5 A n c (n - 4) (by omega)
    have hrC : Rd w C (B (l.take (n - 4))) := by rw [← B_take]; exact hC _ _ hr
    rw [show ((n - 4 : Nat) : Int) = (n : Int) - 4 by omega] at hcut1
    have h1 := crc.rsum_any C (n - 4) c (l.take (n - 4)) w hrC (by rw [List.length_take]; omega) (by omega) (fun x hx => hby x (List.mem_of_mem_take hx))
    have hs := sumL_lt (l.take (n - 4))
    have hop : openL l = if l.drop (n - 4) = fourL (sumL (l.take (n - 4))) then (l.take (n - 4), 0) else ([], 4) := by unfold openL; rw [hl, if_neg h4]
    have H1 := Lib.hid h1
    have HO := Lib.hid hop
    have hnI : (n : Int) ≤ 140737488355328 := by omega
    have h4I : 4 ≤ (n : Int) := by omega
    have hcl : (l.take (n - 4)).length = n - 4 := by rw [List.length_take]; omega
    have HC := Lib.hid hcl
    have hsI : (sumL (l.take (n - 4)) : Int) ≤ 4294967295 := by omega
    have HL := Lib.hid hl; have HN := Lib.hid hn; have HB := Lib.hid hby
    clear hC h1 hs hop hn hl hcl hby
    generalize l.take (n - 4) = a at *
    generalize sumL a = s at *
    go_enter Tryd.func107, Tryd.ntmps107
    go_wp2_with (go_at_call 121; refine H1.out.mono ?_; rintro e w' ⟨rfl, rfl⟩)
    go_loop [6] (fun x => ∃ j : Nat, j ≤ 4 ∧ x = .int .i64 (j : Int) ∧ (l.drop (n - 4)).take j = (fourL s).take j) (fun x => 4 - (intOf x).toNat)
    case atStart => exact ⟨0, by omega, rfl, by simp⟩
    case round =>
      obtain ⟨j, hj, rfl, hm⟩ := hrel
      have HM := Lib.hid hm
      clear hm
      by_cases hlt : j < 4
      · obtain ⟨x, hx⟩ : ∃ x, l[n - 4 + j]? = some x := ⟨l[n - 4 + j]'(by rw [HL.out]; omega), List.getElem?_eq_getElem _⟩
        obtain ⟨b, rfl, _, hcell⟩ := hr.at_ (B_at hx)
        have hxb := HB.out x (List.mem_of_getElem? hx)
        by_cases he : x = s / 2 ^ (8 * j) % 256
        · have hbb : ((x : Int) != (s : Int) / 2 ^ (8 * j) % 256) = false := by rw [he]; simp
          have hnext : (l.drop (n - 4)).take (j + 1) = (fourL s).take (j + 1) := by
            rw [List.take_add_one, List.take_add_one, HM.out, four_at s j hlt, List.getElem?_drop, hx, he]
          have HX := Lib.hid hnext
          clear hnext hx he
          go_wp2
          go_round
          case rel => exact ⟨j + 1, by omega, by go_num, HX.out⟩
          case measure => simp [intOf]; omega
        · have hbb : ((x : Int) != (s : Int) / 2 ^ (8 * j) % 256) = true := by
            rw [bne_iff_ne]; intro h; apply he
            have : ((s / 2 ^ (8 * j) % 256 : Nat) : Int) = (s : Int) / 2 ^ (8 * j) % 256 := by simp
            omega
          have hne : ¬ l.drop (n - 4) = fourL s := by
            intro h
            have h2 := congrArg (fun z : List Nat => z[j]?) h
            simp only [List.getElem?_drop, hx, four_at s j hlt, Option.some.injEq] at h2
            exact he h2
          have HE := Lib.hid hne
          clear hne hx he
          go_wp2
          go_ret2
          rw [HO.out, if_neg HE.out]
          exact ⟨_, rfl, World.ownsRow_nil _ _ _ _, Below.refl _ _⟩
      · have heq : l.drop (n - 4) = fourL s := by
          have h1 := HM.out
          rw [List.take_of_length_le (by rw [List.length_drop, HL.out]; omega), List.take_of_length_le (by simp [fourL]; omega)] at h1
          exact h1
        have HE := Lib.hid heq
        clear heq
        go_wp2_with (at_builtin; refine wpList_app _ rfl (.tmp 34) (.tmp 37) _ rfl w.heap.size 5 i0 _ 1 1 Tryd.underlying22 hi0 hz0 hz1 hz2 rfl (by omega) _ 0 [] rfl (World.ownsRow_nil _ _ _ _) C (n - 4) c (B a) rfl (by rw [B_len, HC.out]; omega) hrC (B_one a) (by have := HN.out; simp only [maxLen]; omega) (by have := HN.out; omega) (by omega) ?_; intro v1 w1 hown1 hg1 hb1 hat1; clear hg1 hat1)
        go_ret2
        rw [HO.out, if_pos HE.out]
        refine ⟨_, rfl, ?_, hb1⟩
        rw [HC.out]
        simpa using hown1
end Go.Proofs.YtbapalgikfllkaaDoor.sealing

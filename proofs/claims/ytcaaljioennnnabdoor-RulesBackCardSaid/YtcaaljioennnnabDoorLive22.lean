/-
 Layer 22: what must be whatever is asked.
-/
import Derived.Test.YtcaaljioennnnabDoorRulK
namespace Go.Proofs.YtcaaljioennnnabDoor.rul
open Go.RowKit
open Go.Proofs.YtcaaljioennnnabDoor.words Go.Proofs.YtcaaljioennnnabDoor.glob Go.Proofs.YtcaaljioennnnabDoor.texts Go.Proofs.YtcaaljioennnnabDoor.piece Go.Proofs.YtcaaljioennnnabDoor.word Go.Proofs.YtcaaljioennnnabDoor.backL
set_option linter.all false
def r1 : Ru := ⟨true, true, [65], [42], [40, 41, 73]⟩
def r2 : Ru := ⟨false, false, [66, 63], [], []⟩
theorem r12 : [r1, r2].all rightR = true := by decide +kernel
theorem t12 : textL ([r1, r2].map lineR) = [107, 101, 101, 112, 110, 97, 109, 101, 32, 109, 101, 109, 98, 101, 114, 32, 65, 32, 42, 32, 40, 41, 73, 10, 107, 101, 101, 112, 32, 99, 108, 97, 115, 115, 32, 66, 63, 10] := by decide +kernel
theorem p12 : parseS ⟨#[107, 101, 101, 112, 110, 97, 109, 101, 32, 109, 101, 109, 98, 101, 114, 32, 65, 32, 42, 32, 40, 41, 73, 10, 107, 101, 101, 112, 32, 99, 108, 97, 115, 115, 32, 66, 63, 10]⟩ = ([r1, r2], 0, 0) := by
 have h := parse_print r12 (by decide)
 rw [t12] at h
 exact h
theorem q12 : printR [r1, r2] = ([107, 101, 101, 112, 110, 97, 109, 101, 32, 109, 101, 109, 98, 101, 114, 32, 65, 32, 42, 32, 40, 41, 73, 10, 107, 101, 101, 112, 32, 99, 108, 97, 115, 115, 32, 66, 63, 10], 0) := by
 unfold printR
 rw [if_neg (by decide), if_pos r12, t12]
theorem F_all : F 32 [107, 101, 101, 112, 32, 97, 108, 108] = [[107, 101, 101, 112], [97, 108, 108]] := F_of_join 32 [107, 101, 101, 112] [[97, 108, 108]] (by decide)
theorem no_all : ruleR [107, 101, 101, 112, 32, 97, 108, 108] = none := by
 rw [read_rule, F_all]
 exact if_neg (by decide +kernel)
theorem p_all : parseS ⟨#[107, 101, 101, 112, 32, 97, 108, 108, 10]⟩ = ([], 10, 1) := by
 obtain ⟨h1, h2⟩ := lines_back (xs := [⟨#[107, 101, 101, 112, 32, 97, 108, 108]⟩]) (by decide +kernel) (by decide +kernel)
 have e : (⟨(piece.textL (D [⟨#[107, 101, 101, 112, 32, 97, 108, 108]⟩])).toArray⟩ : ByteArray) = ⟨#[107, 101, 101, 112, 32, 97, 108, 108, 10]⟩ := rfl
 rw [e] at h1 h2
 unfold parseS
 rw [if_pos h1, h2]
 show parseG 0 [[107, 101, 101, 112, 32, 97, 108, 108]] = _
 simp only [parseG, no_all]
theorem ten {w : World} {A : Option Addr} {l : List Value} (h : Rd w A l) (hl : l.length = 10) : ∃ a, A = some a ∧ (∀ u, l[0]? = some u → w.cell? a = some u) ∧ ∀ j u, 0 < j → l[j]? = some u → w.cell? ⟨a.block, a.off + j, none⟩ = some u := by
 obtain ⟨y, hy⟩ : ∃ y, l[0]? = some y := ⟨_, List.getElem?_eq_getElem (by omega)⟩
 obtain ⟨a, rfl, hb, h0⟩ := h.at_ hy
 refine ⟨a, rfl, fun u hu => ?_, fun j u hj hu => ?_⟩
 ·obtain ⟨a', e, -, hc⟩ := h.at_ hu
  cases e
  rw [Addr.add, if_pos rfl] at hc
  exact hc
 ·obtain ⟨a', e, -, hc⟩ := h.at_ hu
  cases e
  rw [Addr.add, if_neg (by omega)] at hc
  exact hc
set_option maxRecDepth 100000 in
set_option maxHeartbeats 8000000 in
theorem live_w (w : World) (hm : Mc w) : Calls Tryd.prog 9 #[] w fun e w' => e = .returned (.bool true) ∧ Below w.heap.size w w' := by
 have P1 := Lib.hid (fun w h => parse_w ⟨#[107, 101, 101, 112, 110, 97, 109, 101, 32, 109, 101, 109, 98, 101, 114, 32, 65, 32, 42, 32, 40, 41, 73, 10, 107, 101, 101, 112, 32, 99, 108, 97, 115, 115, 32, 66, 63, 10]⟩ w h)
 have P2 := Lib.hid (fun w h => parse_w ⟨#[107, 101, 101, 112, 32, 97, 108, 108, 10]⟩ w h)
 unfold ParseP at P1 P2
 rw [p12] at P1
 rw [p_all] at P2
 have HP := Lib.hid (fun A c w hr => print_w A c [r1, r2] w (by decide) (by intro r hr; simp only [List.mem_cons, List.not_mem_nil, or_false] at hr; rcases hr with rfl | rfl <;> exact ⟨by decide, by decide, by decide⟩) hr)
 unfold PrintP at HP
 rw [q12] at HP
 have ok1 : RuOk r1 := ⟨by decide, by decide, by decide⟩
 have ok2 : RuOk r2 := ⟨by decide, by decide, by decide⟩
 have M1 := Lib.hid (fun w => (show Calls Tryd.prog 12 #[.agg #[.bool true, .bool true, .string ⟨#[65]⟩, .string ⟨#[42]⟩, .string ⟨#[40, 41, 73]⟩], .string ⟨#[65]⟩, .string ⟨#[109]⟩, .string ⟨#[40, 41, 73]⟩] w fun e w' => e = .returned (.bool true) ∧ Below w.heap.size w w' from by
  have h := member_w r1 ⟨#[65]⟩ ⟨#[109]⟩ ⟨#[40, 41, 73]⟩ w ok1 (by decide) (by decide) (by decide)
  rw [show (r1.me && (rightR r1 && (!(lb ⟨#[109]⟩ == initL) && (mat r1.cl (lb ⟨#[65]⟩) && (mat r1.nm (lb ⟨#[109]⟩) && mat r1.ds (lb ⟨#[40, 41, 73]⟩)))))) = true by decide +kernel] at h
  exact h))
 have M2 := Lib.hid (fun w => (show Calls Tryd.prog 12 #[.agg #[.bool true, .bool true, .string ⟨#[65]⟩, .string ⟨#[42]⟩, .string ⟨#[40, 41, 73]⟩], .string ⟨#[65]⟩, .string ⟨#[60, 99, 108, 105, 110, 105, 116, 62]⟩, .string ⟨#[40, 41, 73]⟩] w fun e w' => e = .returned (.bool false) ∧ Below w.heap.size w w' from by
  have h := member_w r1 ⟨#[65]⟩ ⟨#[60, 99, 108, 105, 110, 105, 116, 62]⟩ ⟨#[40, 41, 73]⟩ w ok1 (by decide) (by decide) (by decide)
  rw [show (r1.me && (rightR r1 && (!(lb ⟨#[60, 99, 108, 105, 110, 105, 116, 62]⟩ == initL) && (mat r1.cl (lb ⟨#[65]⟩) && (mat r1.nm (lb ⟨#[60, 99, 108, 105, 110, 105, 116, 62]⟩) && mat r1.ds (lb ⟨#[40, 41, 73]⟩)))))) = false by decide +kernel] at h
  exact h))
 have C1 := Lib.hid (fun w => (show Calls Tryd.prog 10 #[.agg #[.bool false, .bool false, .string ⟨#[66, 63]⟩, .string ⟨#[]⟩, .string ⟨#[]⟩], .string ⟨#[66, 120]⟩] w fun e w' => e = .returned (.bool true) ∧ Below w.heap.size w w' from by
  have h := class_w r2 ⟨#[66, 120]⟩ w ok2 (by decide)
  rw [show (!r2.me && (rightR r2 && mat r2.cl (lb ⟨#[66, 120]⟩))) = true by decide +kernel] at h
  exact h))
 have C2 := Lib.hid (fun w => (show Calls Tryd.prog 10 #[.agg #[.bool true, .bool true, .string ⟨#[65]⟩, .string ⟨#[42]⟩, .string ⟨#[40, 41, 73]⟩], .string ⟨#[65]⟩] w fun e w' => e = .returned (.bool false) ∧ Below w.heap.size w w' from by
  have h := class_w r1 ⟨#[65]⟩ w ok1 (by decide)
  rw [show (!r1.me && (rightR r1 && mat r1.cl (lb ⟨#[65]⟩))) = false by decide +kernel] at h
  exact h))
 have R1 := Lib.hid (fun w => (show Calls Tryd.prog 23 #[.agg #[.bool true, .bool true, .string ⟨#[65]⟩, .string ⟨#[42]⟩, .string ⟨#[40, 41, 73]⟩]] w fun e w' => e = .returned (.bool true) ∧ Below w.heap.size w w' from by
  have h := rightu_w r1 w ok1
  rw [show rightR r1 = true by decide +kernel] at h
  exact h))
 have X1 := Lib.hid (fun w => (show Calls Tryd.prog 20 #[.string ⟨#[65]⟩, .bool true] w fun e w' => e = .returned (.agg #[.bool true, .bool false, .string ⟨#[65]⟩, .string ⟨#[]⟩, .string ⟨#[]⟩]) ∧ Below w.heap.size w w' from exact_w [65] true w))
 dsimp only [List.length_cons, List.length_nil, Nat.zero_add, Nat.reduceAdd] at P1 P2 HP
 rw [show ((0 : Nat) : Int) = 0 from rfl] at P1 HP
 rw [show ((10 : Nat) : Int) = 10 from rfl, show ((1 : Nat) : Int) = 1 from rfl] at P2
 have HM := Lib.hid hm
 clear ok1 ok2 hm
 go_enter Tryd.func9, Tryd.ntmps9
 go_wp2_with fail
 refine (P1.out _ HM.out).mono ?_
 rintro e x1 ⟨⟨A, c, rfl, -, hrd⟩, hb⟩
 have g2 := heap_alloc_new x1 (.cells #[.int .i64 0, .int .i64 0] 37)
 have B1 := Lib.hid (hb.alloc hb.size (.cells #[.int .i64 0, .int .i64 0] 37))
 have RD1 := Lib.hid (hrd.below ((Below.refl _ x1).alloc (Nat.le_refl _) (.cells #[.int .i64 0, .int .i64 0] 37)))
 obtain ⟨b2, hb2⟩ : ∃ b2, b2 = x1.heap.size := ⟨_, rfl⟩
 rw [← hb2] at g2
 obtain ⟨W1, hW1⟩ : ∃ W1, W1 = x1.alloc (.cells #[.int .i64 0, .int .i64 0] 37) := ⟨_, rfl⟩
 rw [← hW1] at g2 B1 RD1
 have G2 := Lib.hid g2
 have HB2 := Lib.hid hb2; have HW1 := Lib.hid hW1
 clear hb hrd hb2 hW1 g2 P1
 go_wp2_with fail
 rw [← HW1.out, ← HB2.out]
 (try go_wp2_with fail)
 refine (P2.out _ (HM.out.below B1.out HM.out.lt)).mono ?_
 rintro e x2 ⟨⟨A2, c2, rfl, -, -⟩, hb⟩
 have g2 := (hb.block _ (blk_lt G2.out)).trans G2.out
 have hlt := blk_lt g2
 have RDa := RD1.out.below hb
 have Ba := then' B1.out hb
 have g4 := heap_alloc_new x2 (.cells #[.int .i64 10, .int .i64 1] 37)
 have g2b := (heap_alloc_old x2 (.cells #[.int .i64 10, .int .i64 1] 37) hlt).trans g2
 obtain ⟨b4, hb4⟩ : ∃ b4, b4 = x2.heap.size := ⟨_, rfl⟩
 rw [← hb4] at g4
 obtain ⟨W2, hW2⟩ : ∃ W2, W2 = x2.alloc (.cells #[.int .i64 10, .int .i64 1] 37) := ⟨_, rfl⟩
 have F2 := Lib.hid (show W2.heap[b2]? = some (.cells #[.int .i64 0, .int .i64 0] 37 (0, 0)) from by rw [hW2]; exact g2b)
 have F4 := Lib.hid (show W2.heap[b4]? = some (.cells #[.int .i64 10, .int .i64 1] 37 (0, 0)) from by rw [hW2]; exact g4)
 have B2 := Lib.hid (show Below w.heap.size w W2 from by rw [hW2]; exact Ba.alloc Ba.size _)
 have RD2 := Lib.hid (show Rd W2 A ([r1, r2].flatMap ruC) from by rw [hW2]; exact RDa.below ((Below.refl _ x2).alloc (Nat.le_refl _) _))
 have HB4 := Lib.hid hb4; have HW2 := Lib.hid hW2
 clear hb hlt RDa Ba g2 g2b g4 hb4 hW2 G2 B1 RD1 P2 HM
 go_wp2_with fail
 rw [← HW2.out, ← HB4.out]
 (try go_wp2_with fail)
 refine (HP.out _ _ _ RD2.out).mono ?_
 rintro e x3 ⟨rfl, hb⟩
 have g2 := (hb.block _ (blk_lt F2.out)).trans F2.out
 have g4 := (hb.block _ (blk_lt F4.out)).trans F4.out
 have RD3 := Lib.hid (RD2.out.below hb)
 have B3 := Lib.hid (then' B2.out hb)
 have p0 := cell_of_row x3 b2 0 _ _ _ g2; have p1 := cell_of_row x3 b2 1 _ _ _ g2
 have p2 := cell_of_row x3 b4 0 _ _ _ g4; have p3 := cell_of_row x3 b4 1 _ _ _ g4
 clear hb HP RD2 B2 F2 F4 g2 g4
 obtain ⟨a, ha, h0, h1⟩ := ten RD3.out rfl
 subst ha
 have HC := Lib.hid (show ∀ v : World, Rd v (some a) ([r1, r2].flatMap ruC) → v.cell? a = some (.bool true) ∧ v.cell? ⟨a.block, a.off + 1, none⟩ = some (.bool true) ∧ v.cell? ⟨a.block, a.off + 2, none⟩ = some (.string ⟨#[65]⟩) ∧ v.cell? ⟨a.block, a.off + 3, none⟩ = some (.string ⟨#[42]⟩) ∧ v.cell? ⟨a.block, a.off + 4, none⟩ = some (.string ⟨#[40, 41, 73]⟩) ∧
  v.cell? ⟨a.block, a.off + 5, none⟩ = some (.bool false) ∧ v.cell? ⟨a.block, a.off + 6, none⟩ = some (.bool false) ∧ v.cell? ⟨a.block, a.off + 7, none⟩ = some (.string ⟨#[66, 63]⟩) ∧ v.cell? ⟨a.block, a.off + 8, none⟩ = some (.string ⟨#[]⟩) ∧ v.cell? ⟨a.block, a.off + 9, none⟩ = some (.string ⟨#[]⟩) from fun v hv => by
  obtain ⟨a', e, h0, h1⟩ := ten hv rfl
  cases e
  exact ⟨h0 _ rfl, h1 1 _ (by omega) rfl, h1 2 _ (by omega) rfl, h1 3 _ (by omega) rfl, h1 4 _ (by omega) rfl, h1 5 _ (by omega) rfl, h1 6 _ (by omega) rfl, h1 7 _ (by omega) rfl, h1 8 _ (by omega) rfl, h1 9 _ (by omega) rfl⟩)
 clear h0 h1
 obtain ⟨k0, k1, k2, k3, k4, k5, k6, k7, k8, k9⟩ := HC.out _ RD3.out
 go_wp2_with fail
 refine (M1.out _).mono ?_
 rintro e x4 ⟨rfl, hb⟩
 have RD4 := Lib.hid (RD3.out.below hb)
 have B4 := Lib.hid (then' B3.out hb)
 clear hb M1 RD3 B3 k0 k1 k2 k3 k4 k5 k6 k7 k8 k9 p0 p1 p2 p3
 obtain ⟨k0, k1, k2, k3, k4, k5, k6, k7, k8, k9⟩ := HC.out _ RD4.out
 go_wp2_with fail
 refine (M2.out _).mono ?_
 rintro e x5 ⟨rfl, hb⟩
 have RD5 := Lib.hid (RD4.out.below hb)
 have B5 := Lib.hid (then' B4.out hb)
 clear hb M2 RD4 B4 k0 k1 k2 k3 k4 k5 k6 k7 k8 k9
 obtain ⟨k0, k1, k2, k3, k4, k5, k6, k7, k8, k9⟩ := HC.out _ RD5.out
 go_wp2_with fail
 refine (C1.out _).mono ?_
 rintro e x6 ⟨rfl, hb⟩
 have RD6 := Lib.hid (RD5.out.below hb)
 have B6 := Lib.hid (then' B5.out hb)
 clear hb C1 RD5 B5 k0 k1 k2 k3 k4 k5 k6 k7 k8 k9
 obtain ⟨k0, k1, k2, k3, k4, k5, k6, k7, k8, k9⟩ := HC.out _ RD6.out
 go_wp2_with fail
 refine (C2.out _).mono ?_
 rintro e x7 ⟨rfl, hb⟩
 have RD7 := Lib.hid (RD6.out.below hb)
 have B7 := Lib.hid (then' B6.out hb)
 clear hb C2 RD6 B6 k0 k1 k2 k3 k4 k5 k6 k7 k8 k9
 obtain ⟨k0, k1, k2, k3, k4, k5, k6, k7, k8, k9⟩ := HC.out _ RD7.out
 go_wp2_with fail
 refine (R1.out _).mono ?_
 rintro e x8 ⟨rfl, hb⟩
 have RD8 := Lib.hid (RD7.out.below hb)
 have B8 := Lib.hid (then' B7.out hb)
 clear hb R1 RD7 B7 k0 k1 k2 k3 k4 k5 k6 k7 k8 k9
 obtain ⟨k0, k1, k2, k3, k4, k5, k6, k7, k8, k9⟩ := HC.out _ RD8.out
 go_wp2_with fail
 refine (X1.out _).mono ?_
 rintro e x9 ⟨rfl, hb⟩
 have RD9 := Lib.hid (RD8.out.below hb)
 have B9 := Lib.hid (then' B8.out hb)
 clear hb X1 RD8 B8 k0 k1 k2 k3 k4 k5 k6 k7 k8 k9
 go_wp2
 go_ret
 exact ⟨rfl, B9.out⟩
end Go.Proofs.YtcaaljioennnnabDoor.rul

/-
 Layer 22: rules as a text: the program's answer.
-/
import Derived.Test.YtcaaljioennnnabDoorRulC
import Derived.RangeFuncBox
namespace Go.Proofs.YtcaaljioennnnabDoor.rul
open Go.RowKit
open Go.Proofs.YtcaaljioennnnabDoor.words Go.Proofs.YtcaaljioennnnabDoor.glob Go.Proofs.YtcaaljioennnnabDoor.texts Go.Proofs.YtcaaljioennnnabDoor.piece Go.Proofs.YtcaaljioennnnabDoor.word
set_option linter.all false
/-- lines, as texts -/
def LB (l : List Ru) : List ByteArray := (l.map lineR).map fun x => (⟨x.toArray⟩ : ByteArray)
theorem LB_len (l) : (LB l).length = l.length := by simp [LB]
theorem LB_take {l : List Ru} {k : Nat} {r : Ru} (h : l[k]? = some r) : LB (l.take (k + 1)) = LB (l.take k) ++ [⟨(lineR r).toArray⟩] := by
 unfold LB; rw [List.take_add_one, h]; simp
theorem LB_D (l) : D (LB l) = l.map lineR := D_mk _
theorem text_cons (x : List UInt8) (l : List (List UInt8)) : textL (x :: l) = x ++ [10] ++ textL l := by simp [textL]
theorem print_len : ∀ l : List Ru, l.all rightR = true → (textL (l.map lineR)).length ≤ l.length * 301
 | [], _ => by simp [textL]
 | r :: l, h => by
  simp only [List.all_cons, Bool.and_eq_true] at h
  have := print_len l h.2
  have h2 := line_len r h.1
  rw [List.map_cons, text_cons]
  simp only [List.length_append, List.length_cons, List.length_nil]
  omega
theorem take_allR {l : List Ru} {k : Nat} {r : Ru} (h : l[k]? = some r) (ha : (l.take k).all rightR = true) (hr : rightR r = true) : (l.take (k + 1)).all rightR = true := by
 rw [List.take_add_one, h, List.all_append, ha]; simp [hr]
theorem infoT : (Tryd.prog.info? 9).map (fun i => (i.zero, i.size, i.bytes)) = some (some (.string ByteArray.empty), 1, 16) := by kernel_rfl
def PrintP (L : List Ru) (w : World) (e : Ending) (w' : World) : Prop := e = .returned (.tuple #[.string ⟨(printR L).1.toArray⟩, .int .i64 ((printR L).2 : Int)]) ∧ Below w.heap.size w w'
set_option maxRecDepth 100000 in
set_option maxHeartbeats 8000000 in
theorem print_w (A : Option Addr) (c : Nat) (L : List Ru) (w : World) (hl : L.length ≤ 1000) (hok : ∀ r ∈ L, RuOk r) (hr : Rd w A (L.flatMap ruC)) :
  Calls Tryd.prog 15 #[.slice A L.length c] w (PrintP L w) := by
 obtain ⟨i0, hi, hz0, hz1, hz2⟩ := info_parts' infoT
 obtain ⟨n, hn⟩ : ∃ n, n = L.length := ⟨_, rfl⟩
 have hnI : (n : Int) ≤ 1000 := by omega
 rw [← hn]
 unfold PrintP
 obtain ⟨P, hP⟩ : ∃ P, P = printR L := ⟨_, rfl⟩
 rw [← hP]
 unfold printR at hP
 rw [← hn] at hP
 have HN := Lib.hid hn; have HR := Lib.hid hr; have HOK := Lib.hid hok
 by_cases h64 : 64 < n
 ·have h64I : (64 : Int) < (n : Int) := by omega
  rw [if_pos h64] at hP
  subst hP
  clear hn h64 hr hok hl
  go_enter Tryd.func15, Tryd.ntmps15
  go_wp2
  go_ret2
  exact ⟨rfl, Below.refl _ _⟩
 ·have h64I : ¬ (64 : Int) < (n : Int) := by omega
  rw [if_neg h64] at hP
  have HP := Lib.hid hP
  clear hP hn hr hok hl
  go_enter Tryd.func15, Tryd.ntmps15
  go_wp2
  go_loopw [4, 12] (fun v i wr => ∃ k : Nat, i = .int .i64 (k : Int) ∧ k ≤ n ∧ (L.take k).all rightR = true ∧ wr.ownsRow w.heap.size 9 1 v k (S (LB (L.take k))) ∧ Below w.heap.size w wr) (fun _ i _ => n - (intOf i).toNat)
  case atStart => exact ⟨0, rfl, Nat.zero_le _, rfl, World.ownsRow_nil _ _ _ _, Below.refl _ _⟩
  case round =>
   obtain ⟨k, rfl, hk, hall, hown, hb⟩ := hrel
   have HO := Lib.hid hown; have HB := Lib.hid hb; have HALL := Lib.hid hall
   by_cases hlt : k < n
   ·have hltI : (k : Int) < (n : Int) := by omega
    obtain ⟨r, hx⟩ : ∃ r, L[k]? = some r := ⟨L[k]'(by have := HN.out; omega), List.getElem?_eq_getElem _⟩
    have hro := HOK.out r (List.mem_of_getElem? hx)
    obtain ⟨a, ha, -, f0, f1, f2, f3, f4⟩ := ru_at (HR.out.below hb) hx
    subst ha
    have HX := Lib.hid hx
    obtain ⟨W, hW⟩ : ∃ W, W = wr.alloc (.cells #[.bool r.nb, .bool r.me, .string ⟨r.cl.toArray⟩, .string ⟨r.nm.toArray⟩, .string ⟨r.ds.toArray⟩] 23) := ⟨_, rfl⟩
    obtain ⟨b, hbb⟩ : ∃ b, b = wr.heap.size := ⟨_, rfl⟩
    have HG := Lib.hid (show W.heap[b]? = some (.cells #[.bool r.nb, .bool r.me, .string ⟨r.cl.toArray⟩, .string ⟨r.nm.toArray⟩, .string ⟨r.ds.toArray⟩] 23 (0, 0)) from by rw [hW, hbb]; exact heap_alloc_new wr _)
    have B0 := Lib.hid (show Below w.heap.size w W from by rw [hW]; exact hb.alloc hb.size _)
    have O0 := Lib.hid (show W.ownsRow w.heap.size 9 1 _ k (S (LB (L.take k))) from by rw [hW]; exact hown.alloc _)
    have HW := Lib.hid hW; have HBB := Lib.hid hbb
    have HRT := Lib.hid (fun w => rightu_w r w hro)
    unfold RuV at HRT
    clear hb hown hall hx hro hW hbb
    cases hrr : rightR r with
    | false =>
     rw [hrr] at HRT
     have HE := Lib.hid (show P = ([], 10) from by
      rw [HP.out, if_neg]
      intro h
      rw [List.all_eq_true] at h
      have := h r (List.mem_of_getElem? HX.out)
      rw [hrr] at this; cases this)
     clear hrr
     go_wp2_with fail
     rw [← HW.out, ← HBB.out]
     (try go_wp2_with fail)
     refine (HRT.out _).mono ?_
     rintro e v1 ⟨rfl, hb⟩
     have B1 := Lib.hid (B0.out.trans (hb.mono B0.out.size))
     clear hb HRT
     go_wp2
     go_ret2
     rw [HE.out]
     exact ⟨rfl, B1.out⟩
    | true =>
     rw [hrr] at HRT
     have HLN := Lib.hid (fun w => line_u r w hrr)
     unfold RuV at HLN
     have HA2 := Lib.hid (take_allR HX.out HALL.out hrr)
     have HT2 := Lib.hid (LB_take HX.out)
     clear hrr
     go_wp2_with fail
     rw [← HW.out, ← HBB.out]
     (try go_wp2_with fail)
     refine (HRT.out _).mono ?_
     rintro e v1 ⟨rfl, hb⟩
     have G1 := Lib.hid ((hb.block b (blk_lt HG.out)).trans HG.out)
     have B1 := Lib.hid (B0.out.trans (hb.mono B0.out.size))
     have O1 := Lib.hid (own_below O0.out hb)
     clear hb HRT
     have c0 := cell_of_row v1 b 0 _ _ _ G1.out; have c1 := cell_of_row v1 b 1 _ _ _ G1.out; have c2 := cell_of_row v1 b 2 _ _ _ G1.out; have c3 := cell_of_row v1 b 3 _ _ _ G1.out; have c4 := cell_of_row v1 b 4 _ _ _ G1.out
     go_wp2_with fail
     refine (HLN.out _).mono ?_
     rintro e v2 ⟨rfl, hb⟩
     have B2 := Lib.hid (B1.out.trans (hb.mono B1.out.size))
     have O2 := Lib.hid (own_below O1.out hb)
     clear hb HLN c0 c1 c2 c3 c4
     go_wp2_with (at_builtin; refine wpList_app _ rfl (.tmp 19) (.tmp 22) _ rfl w.heap.size 9 i0 _ 1 16 Tryd.underlying48 hi hz0 hz1 hz2 rfl (by decide) _ k (S (LB (L.take k))) rfl (O2.out.alloc _) _ 1 1 [.string ⟨(lineR r).toArray⟩] rfl rfl (rd_blk (heap_alloc_new v2 _) (k := 1) rfl) (by simp [Value.oneCell']) (by unfold maxLen; omega) (by omega) (by have := B2.out.size; simp; omega) ?_; intro v' v3 hown' hgrow hB1 hob)
     have O3 := Lib.hid hown'
     have B3 := Lib.hid (B2.out.trans (below_alloc' B2.out.size hB1))
     clear hown' hgrow hB1 hob
     go_wp2
     go_roundw
     case rel => exact ⟨k + 1, by go_num, hlt, HA2.out, by rw [HT2.out, S_app]; exact O3.out, B3.out⟩
     case measure => simp [intOf]; omega
   ·have hltI : ¬ (k : Int) < (n : Int) := by omega
    have ht : L.take k = L := List.take_of_length_le (by rw [← HN.out]; omega)
    rw [ht] at hown hall
    have HE := Lib.hid (show P = (textL (L.map lineR), 0) from by rw [HP.out, if_pos hall])
    obtain ⟨A9, c9, rfl, -, -, hrd⟩ := own_rd hown
    have hll : (LB L).length = k := by rw [LB_len, ← HN.out]; omega
    have HT := Lib.hid (fun w hr => feeds_w A9 c9 (LB L) w hr (by rw [LB_D]; have := print_len L hall; have := HN.out; omega) (by rw [hll]; omega))
    rw [LB_D, hll] at HT
    have RD := Lib.hid hrd
    clear hb hown hall ht hll hrd
    go_wp2_with fail
    refine (HT.out _ RD.out).mono ?_
    rintro e v1 ⟨rfl, hb⟩
    have B1 := Lib.hid (HB.out.trans (hb.mono HB.out.size))
    clear hb HT
    go_wp2
    go_ret2
    rw [HE.out]
    exact ⟨rfl, B1.out⟩
end Go.Proofs.YtcaaljioennnnabDoor.rul

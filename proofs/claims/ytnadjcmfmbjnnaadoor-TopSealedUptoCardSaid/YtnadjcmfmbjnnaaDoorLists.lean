/-
  What Split and Join of leb hand back: the numbers of any bytes, or the error that comes first; the bytes of any numbers: what splitL and joinL say.
-/
import Derived.Test.YtnadjcmfmbjnnaaDoorProg
import Derived.Test.YtnadjcmfmbjnnaaDoorNum
import Derived.Test.YtnadjcmfmbjnnaaDoorWords
import Derived.Test.YtnadjcmfmbjnnaaDoorPut
import Derived.Test.YtnadjcmfmbjnnaaDoorTake
import Derived.Lib.Hide
namespace Go.Proofs.YtnadjcmfmbjnnaaDoor.lists
open Go.RowKit
open Go.Proofs.YtnadjcmfmbjnnaaDoor.num Go.Proofs.YtnadjcmfmbjnnaaDoor.words

theorem info22 : (Tryd.prog.info? 43).map (fun i => (i.zero, i.size, i.bytes)) = some (some (.int .u64 0), 1, 8) := by kernel_rfl

/-- new numbers, and an error: what they are, and that nothing which was there has changed -/
def NewS (w : World) (s : List Nat × Nat) (e : Ending) (w' : World) : Prop :=
  ∃ v, e = .returned (.tuple #[v, .int .i64 (s.2 : Int)]) ∧ w'.ownsRow w.heap.size 43 1 v s.1.length (U s.1) ∧ Below w.heap.size w w'

theorem takeAt_in {l : List Nat} {k : Nat} (hk : k ≤ l.length) {x q e : Nat} (h : takeGo 0 0 (l.drop k) = (x, q, e)) : takeAt l (k : Int) = (x, if e = 0 then k + q else 0, e) := by
  unfold takeAt
  rw [if_neg (by omega)]
  simp only [Int.toNat_natCast, h]
theorem U_snoc (xs : List Nat) (x : Nat) : U xs ++ [.int .u64 (x : Int)] = U (xs ++ [x]) := by simp [U]
theorem drop_ne {l : List Nat} {k : Nat} (h : k < l.length) : l.drop k ≠ [] := by
  intro h0
  have := congrArg List.length h0
  rw [List.length_drop] at this
  simp at this; omega
theorem joinL_len (l : List Nat) (h : ∀ n ∈ l, n < 18446744073709551616) : (joinL l).length ≤ 10 * l.length := by
  induction l with
  | nil => simp [joinL]
  | cons n l ih =>
    have h1 := putL_len10 n (h n (by simp))
    have h2 := ih (fun m hm => h m (by simp [hm]))
    simp only [joinL, List.flatMap_cons, List.length_append, List.length_cons] at *
    omega
theorem joinL_take {l : List Nat} {k x : Nat} (h : l[k]? = some x) : joinL (l.take (k + 1)) = joinL (l.take k) ++ putL x := by
  rw [List.take_add_one, h]
  simp [joinL]
theorem joinL_byte (l : List Nat) : ∀ x ∈ joinL l, x < 256 := by
  intro c hc
  obtain ⟨m, _, hm⟩ := List.mem_flatMap.1 hc
  exact putL_byte m c hm

set_option maxRecDepth 20000 in
set_option maxHeartbeats 800000 in
theorem split_any (A : Option Addr) (n c : Nat) (l : List Nat) (w : World) (hr : Rd w A (B l)) (hl : l.length = n) (hc : n ≤ c) (hn : n ≤ 16777216) (hby : ∀ x ∈ l, x < 256) :
    Calls Tryd.prog 27 #[.slice A n c] w (NewS w (splitL l)) := by
  obtain ⟨i0, hi0, hz0, hz1, hz2⟩ := info_parts info22
  have K1 : Hid (∀ (k : Nat) (wr : World), Rd wr A (B l) → Calls Tryd.prog 31 #[.slice A n c, .int .i64 (k : Int)] wr fun e w' => take.OutI l k e ∧ wr = w') := fun k wr h => take.take_any A n c l k wr h hl hc (by omega) hby
  have HL := Lib.hid hl; clear hl
  have HB := Lib.hid hby; clear hby
  go_enter Tryd.func27, Tryd.ntmps27
  go_wp2
  go_loopw [4, 5] (fun v x wr => ∃ (k : Nat) (acc : List Nat), x = .int .i64 (k : Int) ∧ k ≤ n ∧ acc.length ≤ k ∧ more acc (splitL (l.drop k)) = splitL l ∧ wr.ownsRow w.heap.size 43 1 v acc.length (U acc) ∧ Below w.heap.size w wr) (fun _ x _ => n - (intOf x).toNat)
  case atStart => exact ⟨0, [], rfl, Nat.zero_le _, Nat.le_refl _, by rw [List.drop_zero, more_nil], World.ownsRow_nil _ _ _ _, Below.refl _ _⟩
  case round =>
    obtain ⟨k, acc, rfl, hk, hacc, hm, hown, hb⟩ := hrel
    have HM := Lib.hid hm; clear hm
    have HO := Lib.hid hown; clear hown
    have hsz := hb.size
    by_cases hlt : k < n
    · obtain ⟨x, q, e, ht⟩ : ∃ x q e, takeGo 0 0 (l.drop k) = (x, q, e) := ⟨_, _, _, rfl⟩
      have hat := takeAt_in (l := l) (k := k) (by rw [HL.out]; exact hk) ht
      have KC := K1.out k wr (hr.below hb)
      unfold take.OutI at KC
      rw [hat] at KC
      simp only at KC
      have HK := Lib.hid KC; clear KC hat
      have HT := Lib.hid ht; clear ht
      by_cases he : e = 0
      · subst he
        obtain ⟨hp, hx, hq, hql⟩ := put_take0 (fun y hy => HB.out y (List.mem_of_mem_drop hy)) HT.out
        rw [List.length_drop, HL.out] at hql
        have HP := Lib.hid hp; have HX := Lib.hid hx; clear hp hx
        rw [if_pos rfl] at HK
        go_wp2_with (first
          | (go_at_call 31; refine HK.out.mono ?_; rintro e w' ⟨rfl, rfl⟩)
          | (at_builtin; refine wpList_app _ rfl (.tmp 23) (.tmp 25) _ rfl w.heap.size 43 i0 _ 1 8 Tryd.underlying41 hi0 hz0 hz1 hz2 rfl (by omega) _ acc.length (U acc) rfl (HO.out.alloc _) _ 1 1 [_] rfl rfl (rd_blk (heap_alloc_new wr _) (k := 1) rfl) (by simp [Value.oneCell']) (by simp only [maxLen]; omega) (by omega) (by simp; omega) ?_; intro v' w1 hown1 hg1 hb1 hat1; clear hg1 hat1))
        have hown2 : w1.ownsRow w.heap.size 43 1 v' (acc ++ [x]).length (U (acc ++ [x])) := by
          rw [← U_snoc]
          simpa using hown1
        have hb2 := (hb.alloc hsz (Obj.cells #[Value.int IntKind.u64 (x : Int)] 43)).trans hb1
        go_roundw
        case rel => exact ⟨k + q, acc ++ [x], by go_num, by omega, by simp; omega, by rw [← HM.out, more_ok (fun y hy => HB.out y (List.mem_of_mem_drop hy)) HT.out, List.drop_drop], hown2, hb2⟩
        case measure => simp [intOf]; omega
      · have hez : ((e : Int) != 0) = true := by simp; omega
        have hres : splitL l = ([], e) := by
          rw [← HM.out, splitL_err (drop_ne (by rw [HL.out]; exact hlt)) (by rw [HT.out]; exact he), HT.out]
          unfold more
          rw [if_pos he]
        have HR := Lib.hid hres; clear hres
        rw [if_neg he] at HK
        go_wp2_with (go_at_call 31; refine HK.out.mono ?_; rintro e w' ⟨rfl, rfl⟩)
        go_ret2
        rw [HR.out]
        exact ⟨.slice none 0 0, rfl, World.ownsRow_nil _ _ _ _, hb⟩
    · have hkn : k = n := by omega
      have hres : splitL l = (acc, 0) := by
        rw [← HM.out, List.drop_eq_nil_of_le (by rw [HL.out]; omega), splitL_nil]
        unfold more
        simp
      have HR := Lib.hid hres; clear hres hkn
      go_wp2
      go_ret2
      rw [HR.out]
      exact ⟨_, rfl, HO.out, hb⟩

set_option maxRecDepth 20000 in
set_option maxHeartbeats 800000 in
theorem join_any (A : Option Addr) (n c : Nat) (l : List Nat) (w : World) (hr : Rd w A (U l)) (hl : l.length = n) (hn : n ≤ 1048576) (hnum : ∀ x ∈ l, x < 18446744073709551616) :
    Calls Tryd.prog 26 #[.slice A n c] w (put.New w (joinL l)) := by
  obtain ⟨i0, hi0, hz0, hz1, hz2⟩ := info_parts put.info5
  have HL := Lib.hid hl; clear hl
  have HN := Lib.hid hnum; clear hnum
  go_enter Tryd.func26, Tryd.ntmps26
  go_wp2
  go_loopw [3, 8] (fun v x wr => ∃ (k : Nat) (acc : List Nat), x = .int .i64 (k : Int) ∧ k ≤ n ∧ acc = joinL (l.take k) ∧ acc.length ≤ 10 * k ∧ wr.ownsRow w.heap.size 5 1 v acc.length (B acc) ∧ Below w.heap.size w wr) (fun _ x _ => n - (intOf x).toNat)
  case atStart => exact ⟨0, [], rfl, Nat.zero_le _, by simp [joinL], Nat.le_refl _, World.ownsRow_nil _ _ _ _, Below.refl _ _⟩
  case round =>
    obtain ⟨k, acc, rfl, hk, hacc, hlen, hown, hb⟩ := hrel
    have HA := Lib.hid hacc; clear hacc
    have HO := Lib.hid hown; clear hown
    have hsz := hb.size
    by_cases hlt : k < n
    · obtain ⟨x, hx⟩ : ∃ x, l[k]? = some x := ⟨l[k]'(by rw [HL.out]; exact hlt), List.getElem?_eq_getElem _⟩
      obtain ⟨a, rfl, _, hcell⟩ := (hr.below hb).at_ (U_at hx)
      have hxb := HN.out x (List.mem_of_getElem? hx)
      have h10 := putL_len10 x hxb
      have HX := Lib.hid hx; have HXB := Lib.hid hxb; clear hx hxb
      go_wp2_with (first
        | (go_at_call 30; refine (put.put_any x _ HXB.out).mono ?_; rintro e w2 ⟨v2, rfl, hown2, hb2⟩; obtain ⟨A2, c2, rfl, _, _, hrd2⟩ := own_rd hown2; have hown3 := own_below HO.out hb2; have hb3 := then_ hb (Nat.le_refl _) hb2; have hsz3 := hb3.size; clear hown2)
        | (at_builtin; refine wpList_app _ rfl (.tmp 12) (.tmp 14) _ rfl w.heap.size 5 i0 _ 1 1 Tryd.underlying23 hi0 hz0 hz1 hz2 rfl (by omega) _ acc.length (B acc) rfl hown3 A2 _ c2 (B (putL x)) rfl (by rw [B_len]; omega) hrd2 (B_one _) (by simp only [maxLen]; omega) (by omega) hsz3 ?_; intro v4 w4 hown4 hg4 hb4 hat4; clear hg4 hat4))
      have hown5 : w4.ownsRow w.heap.size 5 1 v4 (acc ++ putL x).length (B (acc ++ putL x)) := by
        rw [List.length_append, B_app]; exact hown4
      have hb5 := hb3.trans hb4
      clear hown3 hown4 hrd2 hb2 hb3 hb4
      go_roundw
      case rel => exact ⟨k + 1, acc ++ putL x, by go_num, by omega, by rw [joinL_take HX.out, HA.out], by rw [List.length_append]; omega, hown5, hb5⟩
      case measure => simp [intOf]; omega
    · have hres : joinL l = acc := by rw [HA.out, List.take_of_length_le (by rw [HL.out]; omega)]
      have HR := Lib.hid hres; clear hres
      go_wp2
      go_ret
      rw [HR.out]
      exact ⟨_, rfl, HO.out, hb⟩
end Go.Proofs.YtnadjcmfmbjnnaaDoor.lists

/-
  Layer 5: a pool's bytes: the program's answer.
-/
import Derived.Test.YtdenpefihplnoaaPoolF
import Derived.Test.YtdenpefihplnoaaWrite
namespace Go.Proofs.Ytdenpefihplnoaa.pool
open Go.RowKit Go.Maps
open Go.Proofs.Ytdenpefihplnoaa.num Go.Proofs.Ytdenpefihplnoaa.words Go.Proofs.Ytdenpefihplnoaa.poolp Go.Proofs.Ytdenpefihplnoaa.give Go.Proofs.Ytdenpefihplnoaa.write

/-- a string's bytes, as numbers -/
def NL (x : Str) : List Nat := x.map (·.toNat)
theorem N_mk (x : Str) : N (⟨x.toArray⟩ : ByteArray) = NL x := rfl
theorem NL_len (x : Str) : (NL x).length = x.length := by simp [NL]
/-- strings, one behind the other -/
def bodyL (p : List Str) : List Nat := (p.map fun x => textL (NL x)).flatten
/-- a pool's bytes -/
def bytesL (p : List Str) : List Nat := putL p.length ++ bodyL p
theorem bodyL_take {p : List Str} {k : Nat} {x : Str} (h : p[k]? = some x) : bodyL (p.take (k + 1)) = bodyL (p.take k) ++ textL (NL x) := by
  unfold bodyL; rw [List.take_add_one, h]; simp
theorem textL_le {x : Str} (h : x.length ≤ 64) : (textL (NL x)).length ≤ 74 := by
  unfold textL
  rw [List.length_append, NL_len]
  have := putL_len10 x.length (by omega)
  omega
theorem bodyL_le : ∀ (p : List Str), (∀ x ∈ p, x.length ≤ 64) → (bodyL p).length ≤ 74 * p.length
  | [], _ => Nat.le_refl _
  | x :: r, h => by
    have ih := bodyL_le r (fun y hy => h y (List.mem_cons_of_mem _ hy))
    show (textL (NL x) ++ bodyL r).length ≤ _
    rw [List.length_append, List.length_cons]
    have := textL_le (h x List.mem_cons_self)
    omega
def putB (p : List Str) : List Nat := if rightB p = true then bytesL p else []
def putE (p : List Str) : Nat := if rightB p = true then 0 else 5
/-- what Put answers -/
def Putted (p : List Str) (w : World) (e : Ending) (w' : World) : Prop :=
  (∃ v, e = .returned (.tuple #[v, .int .i64 (putE p : Int)]) ∧ w'.ownsRow w.heap.size 5 1 v (putB p).length (B (putB p))) ∧ Below w.heap.size w w'

set_option maxRecDepth 100000 in
theorem infoB : (Try.prog.info? 5).map (fun i => (i.zero, i.size, i.bytes)) = some (some (.int .u8 0), 1, 1) := by kernel_rfl

set_option maxRecDepth 100000 in
set_option maxHeartbeats 2000000 in
theorem pput_w (A : Option Addr) (c : Nat) (p : List Str) (w : World) (hr : Rd w A (SL p)) (hl : p.length ≤ 1048576) (hsz : ∀ x ∈ p, x.length ≤ 140737488355328) :
    Calls Try.prog 8 #[.slice A p.length c] w (Putted p w) := by
  obtain ⟨i0, hi0, hz0, hz1, hz2⟩ := info_parts infoB
  have HRT := Lib.hid (right_w A c p w hr hl hsz)
  obtain ⟨n, hn⟩ : ∃ n, n = p.length := ⟨_, rfl⟩
  rw [← hn] at HRT ⊢
  have HN := Lib.hid hn
  have HR := Lib.hid hr
  cases hb : rightB p with
  | false =>
    rw [hb] at HRT
    have HE := Lib.hid hb
    clear hn hb hr hl hsz
    go_enter Try.func8, Try.ntmps8
    go_wp2_with fail
    refine HRT.out.mono ?_
    rintro e w' ⟨rfl, q, rfl⟩
    clear HRT
    go_wp2
    go_ret2
    unfold Putted putE putB
    rw [if_neg (by rw [HE.out]; simp), if_neg (by rw [HE.out]; simp)]
    exact ⟨⟨_, rfl, World.ownsRow_nil _ _ _ _⟩, over (Below.refl _ _)⟩
  | true =>
    rw [hb] at HRT
    have hpool := right_pool hb
    have hn1 : n ≤ 1024 := by rw [hn]; exact hpool.2.1
    have hnI : (n : Int) ≤ 1024 := by omega
    have H64 := Lib.hid hpool.2.2
    have HE := Lib.hid hb
    have hwr : IntKind.u64.wrap (n : Int) = n := by rw [IntKind.wrap_u64]; omega
    have HPU := Lib.hid (fun w1 => put.put_any n w1 (by omega))
    have HTX := Lib.hid (fun (x : Str) (h : x.length ≤ 64) w1 => write.text_w ⟨x.toArray⟩ w1 (by rw [mk_size]; omega))
    have hp10 := putL_len10 n (by omega)
    have HP10 := Lib.hid hp10
    clear hn hb hr hl hsz hpool hp10
    go_enter Try.func8, Try.ntmps8
    go_wp2_with fail
    refine HRT.out.mono ?_
    rintro e w' ⟨rfl, q, rfl⟩
    clear HRT
    go_wp2_with fail
    refine (HPU.out _).mono ?_
    rintro e w1 ⟨v1, rfl, hown1, hb1⟩
    have HO1 := Lib.hid hown1
    have HB1 := Lib.hid (under hb1)
    clear hown1 hb1 HPU
    go_wp2
    go_loopw [4, 16] (fun v i wr => ∃ k : Nat, i = .int .i64 (k : Int) ∧ k ≤ n ∧ wr.ownsRow w.heap.size 5 1 v (putL n ++ bodyL (p.take k)).length (B (putL n ++ bodyL (p.take k))) ∧ Below w.heap.size w wr) (fun _ i _ => n - (intOf i).toNat)
    case atStart => exact ⟨0, rfl, Nat.zero_le _, by simpa [bodyL] using HO1.out, HB1.out⟩
    case round =>
      obtain ⟨k, rfl, hk, hown, hbw⟩ := hrel
      have HO := Lib.hid hown; have HB := Lib.hid hbw
      have hsz := hbw.size
      clear hown
      by_cases hlt : k < n
      · have hltI : (k : Int) < (n : Int) := by omega
        obtain ⟨x, hx⟩ : ∃ x, p[k]? = some x := ⟨p[k]'(by rw [← HN.out]; exact hlt), List.getElem?_eq_getElem _⟩
        obtain ⟨a, rfl, _, hcell⟩ := sl_cell (HR.out.below hbw) hx
        have hx64 := H64.out x (List.mem_of_getElem? hx)
        have HT := Lib.hid (bodyL_take hx)
        have h74 := textL_le hx64
        have hbl := bodyL_le (p.take k) (fun y hy => H64.out y (List.mem_of_mem_take hy))
        have hk2 : (p.take k).length ≤ 1024 := by rw [List.length_take]; omega
        have HLE := Lib.hid (show (putL n ++ bodyL (p.take k)).length + (textL (NL x)).length ≤ 1000000 by rw [List.length_append]; have := HP10.out; omega)
        have HTX2 := Lib.hid (fun w1 => HTX.out x hx64 w1)
        clear hx hbw h74 hbl hk2
        go_wp2_with fail
        refine (HTX2.out _).mono ?_
        rintro e w3 ⟨v3, rfl, hown3, hb3⟩
        rw [N_mk] at hown3
        obtain ⟨A3, c3, rfl, _, _, hrd3⟩ := own_rd hown3
        have hown1 := own_below HO.out hb3
        have hb4 := HB.out.trans (hb3.mono hsz)
        have HB4 := Lib.hid hb4
        have hsz3 := hb4.size
        clear hown3 hb3 hb4 HTX2
        go_wp2_with (at_builtin; refine wpList_app _ rfl (.tmp 20) (.tmp 22) _ rfl w.heap.size 5 i0 _ 1 1 Try.underlying33 hi0 hz0 hz1 hz2 rfl (by omega) _ _ _ rfl hown1 A3 (textL (NL x)).length c3 (B (textL (NL x))) rfl (by rw [B_len]; omega) hrd3 (B_one _) (by have := HLE.out; simp only [maxLen]; omega) (by have := HLE.out; omega) hsz3 ?_; intro v4 w4 hown4 hg4 hb4 hat4; clear hg4 hat4)
        have hown5 : w4.ownsRow w.heap.size 5 1 v4 (putL n ++ bodyL (p.take (k + 1))).length (B (putL n ++ bodyL (p.take (k + 1)))) := by
          rw [HT.out, ← List.append_assoc]
          generalize putL n ++ bodyL (p.take k) = Z at hown4 ⊢
          rw [List.length_append, B_app]; exact hown4
        have HB5 := Lib.hid (HB4.out.trans hb4)
        clear hown4 hb4 hrd3 hown1
        go_roundw
        case rel => exact ⟨k + 1, by go_num, by omega, hown5, HB5.out⟩
        case measure => simp [intOf]; omega
      · have hltI : ¬ (k : Int) < (n : Int) := by omega
        have htk : p.take k = p := List.take_of_length_le (by rw [← HN.out]; omega)
        have hown := HO.out
        rw [htk] at hown
        have HOX := Lib.hid hown
        clear hown htk hbw
        go_wp2
        go_ret2
        unfold Putted putE putB
        rw [if_pos HE.out, if_pos HE.out]
        unfold bytesL
        rw [← HN.out]
        exact ⟨⟨_, rfl, HOX.out⟩, HB.out⟩
end Go.Proofs.Ytdenpefihplnoaa.pool

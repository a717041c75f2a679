/-
  What the reference writes: a text's bytes, and a section's.
-/
import Derived.Test.YtbapalgikfllkaaDoorWrite
namespace Go.Proofs.YtbapalgikfllkaaDoor.write
open Go.RowKit
open Go.Proofs.YtbapalgikfllkaaDoor.num Go.Proofs.YtbapalgikfllkaaDoor.words Go.Proofs.YtbapalgikfllkaaDoor.rdnum Go.Proofs.YtbapalgikfllkaaDoor.rdr Go.Proofs.YtbapalgikfllkaaDoor.give Go.Proofs.YtbapalgikfllkaaDoor.reading Go.Proofs.YtbapalgikfllkaaDoor.meth Go.Proofs.YtbapalgikfllkaaDoor.sealing Go.Proofs.YtbapalgikfllkaaDoor.crcnum

set_option maxRecDepth 100000 in
set_option maxHeartbeats 400000 in
theorem text_r (s : ByteArray) (w : World) (hn : s.size ≤ 140737488351232) : Calls Tryd.prog 28 #[.string s] w (put.New w (textL (N s))) := by
  obtain ⟨i0, hi0, hz0, hz1, hz2⟩ := info_parts put.info5
  have hk := small.rput_any s.size w (by omega)
  have h10 := putL_len10 s.size (by omega)
  have hw : IntKind.u64.wrap (s.size : Int) = s.size := by rw [IntKind.wrap_u64]; omega
  have hnI : (s.size : Int) ≤ 140737488351232 := by omega
  have hL : (textL (N s)).length = (putL s.size).length + s.size := by unfold textL; rw [List.length_append, N_len]
  have hC : B (textL (N s)) = B (putL s.size) ++ Lib.strCells s := by unfold textL; rw [B_app, N_len, N_cells]
  have HK := Lib.hid hk; have HN := Lib.hid hn; have H10 := Lib.hid h10; have HL := Lib.hid hL; have HC := Lib.hid hC
  clear hk hn h10 hL hC
  go_enter Tryd.func28, Tryd.ntmps28
  go_wp2_with fail
  refine HK.out.mono ?_
  rintro e w1 ⟨v, rfl, hown, hb⟩
  have hbs := hb.size
  have HB := Lib.hid hb
  go_wp2_with (at_builtin; refine Lib.wpList_append_own_string _ rfl (.tmp 8) (.tmp 9) _ _ rfl w.heap.size 5 i0 Tryd.underlying22 Tryd.underlying9 hi0 hz0 hz1 hz2 v _ _ rfl hown s rfl (by have := HN.out; have := H10.out; simp only [maxLen]; omega) (by have := HN.out; have := H10.out; omega) hbs ?_; intro v' w2 hown2 hg2 hat2; clear hat2)
  have hb2 : Below w.heap.size w w2 := HB.out.grown hg2 hbs (fun k hk => (hown.lt k hk).1)
  have H2 := Lib.hid hb2; have HO := Lib.hid hown2
  clear hb2 hown2 hg2 hown hb
  go_wp2
  go_ret
  refine ⟨v', rfl, ?_, H2.out⟩
  rw [HL.out, HC.out]
  exact HO.out

set_option maxRecDepth 100000 in
set_option maxHeartbeats 800000 in
theorem sect_r (id : Nat) (A : Option Addr) (n c : Nat) (l : List Nat) (w : World) (hr : Rd w A (B l)) (hl : l.length = n) (hn : n ≤ 140737488351232) (hby : ∀ x ∈ l, x < 256) :
    Calls Tryd.prog 29 #[.int .u8 (id : Int), .slice A n c] w (put.New w (sectL id l)) := by
  obtain ⟨i0, hi0, hz0, hz1, hz2⟩ := info_parts put.info5
  have h1 := fun w1 => small.rput_any n w1 (by omega)
  have h2 := fun w1 r => rseal_any A n c l w1 r hl hn hby
  have h10 := putL_len10 n (by omega)
  have hnI : (n : Int) ≤ 140737488355328 := by omega
  have hw : IntKind.u64.wrap (n : Int) = n := by rw [IntKind.wrap_u64]; omega
  have hsl : (sealL l).length = n + 4 := by rw [sealL_len, hl]
  have H1 := Lib.hid h1; have H2 := Lib.hid h2; have H10 := Lib.hid h10; have HN := Lib.hid hn; have HL := Lib.hid hl; have HSL := Lib.hid hsl
  have hb0 : Below w.heap.size w (w.alloc (Obj.cells #[Value.int .u8 (id : Int)] 5)) := (Below.refl _ _).alloc (Nat.le_refl _) _
  have HB0 := Lib.hid hb0
  have hown0 : (w.alloc (Obj.cells #[Value.int .u8 (id : Int)] 5)).ownsRow w.heap.size 5 1 (.slice (some ⟨w.heap.size, 0, none⟩) 1 1) 1 (B [id]) := by
    have := World.ownsRow_lit (base := w.heap.size) (e := 5) (size := 1) w #[.int .u8 (id : Int)] 1 (Nat.le_refl _) (by simp [maxLen]) rfl
    exact this
  clear h1 h2 h10 hn hl hby hb0 hsl
  go_enter Tryd.func29, Tryd.ntmps29
  go_wp2_with fail
  refine (H1.out _).mono ?_
  rintro e w1 ⟨v1, rfl, hown1, hb1⟩
  have hb01 := then_ HB0.out (Nat.le_refl _) hb1
  have hown01 := own_below hown0 hb1
  obtain ⟨A1, c1, rfl, hc1, _, hrd1⟩ := own_rd hown1
  have hsz1 := hb01.size
  clear hown1 hb1 hown0
  go_wp2_with (at_builtin; refine wpList_app _ rfl (.tmp 8) (.tmp 12) _ rfl w.heap.size 5 i0 _ 1 1 Tryd.underlying22 hi0 hz0 hz1 hz2 rfl (by omega) _ 1 (B [id]) rfl hown01 A1 (putL n).length c1 (B (putL n)) rfl (by rw [B_len]; omega) hrd1 (B_one _) (by have := H10.out; simp only [maxLen]; omega) (by have := H10.out; omega) hsz1 ?_; intro v2 w2 hown2 hg2 hb2 hat2; clear hg2 hat2)
  have hb02 := hb01.trans hb2
  have HB02 := Lib.hid hb02
  clear hb01 hb2 hown01 hrd1 hsz1
  refine (H2.out _ (hr.below HB02.out)).mono ?_
  rintro e w3 ⟨v3, rfl, hown3, hb3⟩
  have hb03 := then_ HB02.out (Nat.le_refl _) hb3
  have hown02 := own_below hown2 hb3
  obtain ⟨A3, c3, rfl, hc3, _, hrd3⟩ := own_rd hown3
  have hsz3 := hb03.size
  have HB03 := Lib.hid hb03
  clear hown3 hb3 hown2 hb03
  go_wp2_with (at_builtin; refine wpList_app _ rfl (.tmp 14) (.tmp 16) _ rfl w.heap.size 5 i0 _ 1 1 Tryd.underlying22 hi0 hz0 hz1 hz2 rfl (by omega) _ (1 + (putL n).length) (B [id] ++ B (putL n)) rfl hown02 A3 (sealL l).length c3 (B (sealL l)) rfl (by rw [B_len]; omega) hrd3 (B_one _) (by have := H10.out; have := HSL.out; have := HN.out; simp only [maxLen]; omega) (by have := H10.out; have := HSL.out; have := HN.out; omega) hsz3 ?_; intro v4 w4 hown4 hg4 hb4 hat4; clear hg4 hat4)
  have hb04 := HB03.out.trans hb4
  have HB04 := Lib.hid hb04
  have HO4 := Lib.hid hown4
  clear hown4 hb04 hb4 hown02 hrd3
  go_wp2
  go_ret
  refine ⟨v4, rfl, ?_, HB04.out⟩
  have he : sectL id l = [id] ++ putL n ++ sealL l := by unfold sectL; rw [HL.out]; simp
  rw [he, List.length_append, List.length_append, B_app, B_app]
  exact HO4.out
end Go.Proofs.YtbapalgikfllkaaDoor.write

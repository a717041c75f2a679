/-
  What the reference writes: a text's bytes, and a section's.
-/
import Derived.Test.YtchhibicbgimcaaWrite
namespace Go.Proofs.Ytchhibicbgimcaa.write
open Go.RowKit
open Go.Proofs.Ytchhibicbgimcaa.num Go.Proofs.Ytchhibicbgimcaa.words Go.Proofs.Ytchhibicbgimcaa.rdnum Go.Proofs.Ytchhibicbgimcaa.rdr Go.Proofs.Ytchhibicbgimcaa.give Go.Proofs.Ytchhibicbgimcaa.reading Go.Proofs.Ytchhibicbgimcaa.meth Go.Proofs.Ytchhibicbgimcaa.sealing Go.Proofs.Ytchhibicbgimcaa.crcnum

set_option maxRecDepth 100000 in
set_option maxHeartbeats 400000 in
theorem text_r (s : ByteArray) (w : World) (hn : s.size ≤ 140737488351232) : Calls Try.prog 25 #[.string s] w (put.New w (textL (N s))) := by
  obtain ⟨i0, hi0, hz0, hz1, hz2⟩ := info_parts put.info5
  have hk := small.rput_any s.size w (by omega)
  have h10 := putL_len10 s.size (by omega)
  have hw : IntKind.u64.wrap (s.size : Int) = s.size := by rw [IntKind.wrap_u64]; omega
  have hnI : (s.size : Int) ≤ 140737488351232 := by omega
  have hL : (textL (N s)).length = (putL s.size).length + s.size := by unfold textL; rw [List.length_append, N_len]
  have hC : B (textL (N s)) = B (putL s.size) ++ Lib.strCells s := by unfold textL; rw [B_app, N_len, N_cells]
  have HK := Lib.hid hk; have HN := Lib.hid hn; have H10 := Lib.hid h10; have HL := Lib.hid hL; have HC := Lib.hid hC
  clear hk hn h10 hL hC
  go_enter Try.func25, Try.ntmps25
  go_wp2_with fail
  refine HK.out.mono ?_
  rintro e w1 ⟨v, rfl, hown, hb⟩
  have hbs := hb.size
  have HB := Lib.hid hb
  go_wp2_with (at_builtin; refine Lib.wpList_append_own_string _ rfl (.tmp 8) (.tmp 9) _ _ rfl w.heap.size 5 i0 Try.underlying23 Try.underlying9 hi0 hz0 hz1 hz2 v _ _ rfl hown s rfl (by have := HN.out; have := H10.out; simp only [maxLen]; omega) (by have := HN.out; have := H10.out; omega) hbs ?_; intro v' w2 hown2 hg2 hat2; clear hat2)
  have hb2 : Below w.heap.size w w2 := HB.out.grown hg2 hbs (fun k hk => (hown.lt k hk).1)
  have H2 := Lib.hid hb2; have HO := Lib.hid hown2
  clear hb2 hown2 hg2 hown hb
  go_wp2
  go_ret
  refine ⟨v', rfl, ?_, H2.out⟩
  rw [HL.out, HC.out]
  exact HO.out

end Go.Proofs.Ytchhibicbgimcaa.write

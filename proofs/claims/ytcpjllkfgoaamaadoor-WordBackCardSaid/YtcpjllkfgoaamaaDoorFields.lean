/-
  Layer 4: a line's fields: the program's answer, and the reference's.
-/
import Derived.Test.YtcpjllkfgoaamaaDoorLinesP
import Derived.Test.YtcpjllkfgoaamaaDoorTexts
import Derived.Test.YtcpjllkfgoaamaaDoorDigits
namespace Go.Proofs.YtcpjllkfgoaamaaDoor.word
open Go.RowKit Go.Shelf
open Go.Proofs.YtcpjllkfgoaamaaDoor.num Go.Proofs.YtcpjllkfgoaamaaDoor.words Go.Proofs.YtcpjllkfgoaamaaDoor.give Go.Proofs.YtcpjllkfgoaamaaDoor.write Go.Proofs.YtcpjllkfgoaamaaDoor.piece Go.Proofs.YtcpjllkfgoaamaaDoor.texts

/-- texts that are new, in a slice -/
def NewS (w : World) (xs : List ByteArray) (e : Ending) (w' : World) : Prop :=
  (∃ a c, e = .returned (.slice (some ⟨a, 0, none⟩) xs.length c) ∧ xs.length ≤ c ∧ Rd w' (some ⟨a, 0, none⟩) (S xs)) ∧ Below w.heap.size w w'

set_option maxRecDepth 100000 in
set_option maxHeartbeats 400000 in
theorem fields_w (s : ByteArray) (hs : s.size ≤ 1048576) (w : World) (m : Int) (hm : w.cell? ⟨0, 0, none⟩ = some (.int .i64 m)) :
    Calls Tryd.prog 12 #[.string s] w (NewS w (fieldsB s)) := by
  have HS := Lib.hid (Tryd.strings_Split s ⟨#[32]⟩ m w (by omega) hm (by decide))
  rw [← fieldsB_len s] at HS
  clear hm hs
  go_enter Tryd.func12, Tryd.ntmps12
  go_wp2_with fail
  refine HS.out.mono ?_
  rintro e w1 ⟨rfl, rfl⟩
  clear HS
  go_wp2
  go_ret
  refine ⟨⟨_, _, rfl, Nat.le_refl _, ?_⟩, (Below.refl _ _).alloc (Nat.le_refl _) _⟩
  exact rd_blk (k := (fieldsB s).length) (heap_alloc_new w _) (by
    show (((fieldsB s).map Value.string).toArray.toList).take (fieldsB s).length = S (fieldsB s)
    rw [List.take_of_length_le (by simp)]
    rfl)

set_option maxRecDepth 100000 in
set_option maxHeartbeats 800000 in
theorem fields_r (s : ByteArray) (hs : s.size ≤ 1048576) (w : World) :
    Calls Tryd.prog 13 #[.string s] w (NewS w (fieldsB s)) := by
  obtain ⟨i0, hi0, hz0, hz1, hz2⟩ := info_parts infoS
  have hsI : (s.size : Int) ≤ 1048576 := by omega
  have HS := Lib.hid hs
  have HF := Lib.hid (fieldsB_data s)
  have HLs := Lib.hid (size_list s)
  clear hs
  go_enter Tryd.func13, Tryd.ntmps13
  go_wp2
  go_loopw [3, 4, 5] (fun v fr i wr => ∃ (k f : Nat) (xs : List ByteArray), i = .int .i64 (k : Int) ∧ fr = .int .i64 (f : Int) ∧ f ≤ k ∧ k ≤ s.size ∧ (32 : UInt8) ∉ (s.data.toList.drop f).take (k - f) ∧ F 32 s.data.toList = D xs ++ F 32 (s.data.toList.drop f) ∧ xs.length ≤ f ∧
      wr.ownsRow w.heap.size 9 1 v xs.length (S xs) ∧ Below w.heap.size w wr) (fun _ _ i _ => s.size - (intOf i).toNat)
  case atStart => exact ⟨0, 0, [], rfl, rfl, Nat.le_refl _, Nat.zero_le _, by simp, by simp [D], Nat.le_refl _, World.ownsRow_nil _ _ _ _, Below.refl _ _⟩
  case round =>
    obtain ⟨k, f, xs, rfl, rfl, hfk, hk, hno, hF, hxf, hown, hb⟩ := hrel
    have HN := Lib.hid hno; have HE := Lib.hid hF; have HO := Lib.hid hown; have HB := Lib.hid hb
    have hsz := hb.size
    clear hno hF hown hb
    have hfI : (f : Int) ≤ (k : Int) := by omega
    have hf0 : (0 : Int) ≤ (f : Int) := by omega
    by_cases hlt : k < s.size
    · have hltI : (k : Int) < (s.size : Int) := by omega
      have hleI : (k : Int) ≤ (s.size : Int) := by omega
      have hat : s.data.toList[k]? = some (s[k]'hlt) := by rw [Array.getElem?_toList, Array.getElem?_eq_getElem (by exact hlt)]; rfl
      by_cases hc : (s[k]'hlt).toNat = 32
      · have hcI : ((s[k]'hlt).toNat : Int) = 32 := by omega
        have hc8 : s[k]'hlt = 32 := UInt8.toNat_inj.1 (by rw [hc]; rfl)
        rw [hc8] at hat
        have hcut := cutAt hat hfk
        have HE2 := Lib.hid (show F 32 s.data.toList = D (xs ++ [s.extract f k]) ++ F 32 (s.data.toList.drop (k + 1)) by
          rw [HE.out, hcut, F_hit HN.out, D_app]
          simp only [D, List.map_cons, List.map_nil, ext_data]
          simp)
        clear hat hcut hc hc8 HN HE
        go_wp2_with (at_builtin; refine wpList_app _ rfl (.tmp 16) (.tmp 21) _ rfl w.heap.size 9 i0 _ 1 16 Tryd.underlying24 hi0 hz0 hz1 hz2 rfl (by omega) _ xs.length (S xs) rfl (HO.out.alloc _) _ 1 1 [_] rfl rfl (rd_blk (heap_alloc_new wr _) (k := 1) rfl) (by simp [Value.oneCell']) (by simp only [maxLen]; omega) (by omega) (by simp; omega) ?_; intro v' w1 hown1 hg1 hb1 hat1; clear hg1 hat1)
        have hb2 : Below w.heap.size w w1 := (HB.out.alloc hsz _).trans hb1
        have hown2 : w1.ownsRow w.heap.size 9 1 v' (xs ++ [s.extract f k]).length (S (xs ++ [s.extract f k])) := by
          rw [List.length_append, S_app]; exact hown1
        clear hb1 hown1
        go_roundw
        case rel => exact ⟨k + 1, k + 1, _, by go_num, by go_num, Nat.le_refl _, by omega, by simp, HE2.out, by rw [List.length_append]; simp; omega, hown2, hb2⟩
        case measure => simp [intOf]; omega
      · have hcI : ¬ ((s[k]'hlt).toNat : Int) = 32 := by omega
        have hcB : (((s[k]'hlt).toNat : Int) == 32) = false := by simpa using hcI
        have hne : (32 : UInt8) ≠ s[k]'hlt := fun e => hc (by rw [← e]; rfl)
        have HN2 := Lib.hid (notNext hat hfk hne HN.out)
        clear hat hc hne HN
        go_wp2
        go_roundw
        case rel => exact ⟨k + 1, f, xs, by go_num, rfl, by omega, by omega, HN2.out, HE.out, hxf, HO.out, HB.out⟩
        case measure => simp [intOf]; omega
    · have hltI : ¬ (k : Int) < (s.size : Int) := by omega
      have hks : k = s.size := by omega
      subst hks
      have hdl : (s.data.toList.drop f).take (s.size - f) = s.data.toList.drop f := List.take_of_length_le (by rw [List.length_drop, HLs.out]; omega)
      have hno := HN.out
      rw [hdl] at hno
      have HX := Lib.hid (show xs ++ [s.extract f s.size] = fieldsB s by
        apply D_inj
        rw [HF.out, HE.out, F_miss hno, D_app]
        simp only [D, List.map_cons, List.map_nil, ext_data]
        rw [hdl])
      clear hdl hno HN HE HF
      go_wp2_with (at_builtin; refine wpList_app _ rfl (.tmp 25) (.tmp 29) _ rfl w.heap.size 9 i0 _ 1 16 Tryd.underlying24 hi0 hz0 hz1 hz2 rfl (by omega) _ xs.length (S xs) rfl (HO.out.alloc _) _ 1 1 [_] rfl rfl (rd_blk (heap_alloc_new wr _) (k := 1) rfl) (by simp [Value.oneCell']) (by simp only [maxLen]; omega) (by omega) (by simp; omega) ?_; intro v' w1 hown1 hg1 hb1 hat1; clear hg1 hat1)
      have hb2 : Below w.heap.size w w1 := (HB.out.alloc hsz _).trans hb1
      have hown2 : w1.ownsRow w.heap.size 9 1 v' (fieldsB s).length (S (fieldsB s)) := by
        rw [← HX.out, List.length_append, S_app]; exact hown1
      clear hb1 hown1
      go_wp2
      go_ret
      have hpos : 0 < (fieldsB s).length := by rw [← HX.out, List.length_append]; simp
      rcases hown2.2 with ⟨rfl, h0⟩ | ⟨g, cap, cur, rfl, _, hg, hnc, hcm, _, _⟩
      · omega
      · exact ⟨⟨g, cap, rfl, hnc, .inr ⟨_, rfl, blk_lt hg, hown2.cells (g := g) rfl⟩⟩, hb2⟩
end Go.Proofs.YtcpjllkfgoaamaaDoor.word

/-
  Layer 4: a text's lines, or the first one that is none: the reference's answer is the program's.
-/
import Derived.Test.YtcpjllkfgoaamaaDoorLinesP
import Derived.Test.YtcpjllkfgoaamaaDoorTexts
namespace Go.Proofs.YtcpjllkfgoaamaaDoor.word
open Go.RowKit Go.Shelf
open Go.Proofs.YtcpjllkfgoaamaaDoor.num Go.Proofs.YtcpjllkfgoaamaaDoor.words Go.Proofs.YtcpjllkfgoaamaaDoor.give Go.Proofs.YtcpjllkfgoaamaaDoor.write Go.Proofs.YtcpjllkfgoaamaaDoor.piece Go.Proofs.YtcpjllkfgoaamaaDoor.texts

theorem ext_le {s : ByteArray} (h : s.size ≤ 65536) (f k : Nat) : (s.extract f k).size ≤ 65536 := by
  rw [ByteArray.size_extract]; omega
def linesFrom (s : ByteArray) (h : s.size ≤ 65536) (f : Nat) : List Ln := linesOf (s.extract f s.size) (ext_le h f s.size)
theorem from_data (s : ByteArray) (f : Nat) : (s.extract f s.size).data.toList = s.data.toList.drop f := by
  rw [ext_data]; exact List.take_of_length_le (by rw [List.length_drop, size_list]; omega)
theorem from_zero (s : ByteArray) (h : s.size ≤ 65536) : linesFrom s h 0 = linesOf s h := by
  have e : s.extract 0 s.size = s := by
    apply ByteArray.ext; rw [← Array.toList_inj, from_data]; rfl
  unfold linesFrom
  exact linesOf_congr e _
theorem mk_data {s : ByteArray} {f k : Nat} : (⟨((s.data.toList.drop f).take (k - f)).toArray⟩ : ByteArray) = s.extract f k := by
  apply ByteArray.ext; rw [← Array.toList_inj, ext_data]
theorem mk_from {s : ByteArray} {f : Nat} : (⟨(s.data.toList.drop f).toArray⟩ : ByteArray) = s.extract f s.size := by
  apply ByteArray.ext; rw [← Array.toList_inj, from_data]
section
variable {s : ByteArray} {h : s.size ≤ 65536} {f k : Nat}
theorem from_hit (hat : s.data.toList[k]? = some 10) (hf : f ≤ k) (hn : (10 : UInt8) ∉ (s.data.toList.drop f).take (k - f)) :
    linesFrom s h f = ⟨(s.extract f k, true), ext_le h f k⟩ :: linesFrom s h (k + 1) := by
  have hcut := cutAt hat hf
  rw [← from_data] at hcut
  unfold linesFrom
  have e1 : (⟨((s.data.toList.drop f).take (k - f)).toArray⟩ : ByteArray).size ≤ 65536 := by rw [mk_data]; exact ext_le h f k
  have e2 : (⟨(s.data.toList.drop (k + 1)).toArray⟩ : ByteArray).size ≤ 65536 := by rw [mk_from]; exact ext_le h _ _
  rw [linesOf_hit (ext_le h f s.size) (a := (s.data.toList.drop f).take (k - f)) (b := s.data.toList.drop (k + 1)) (by rw [hcut, from_data]) hn e1 e2]
  refine List.cons_eq_cons.2 ⟨Subtype.ext ?_, linesOf_congr mk_from _⟩
  show ((⟨((s.data.toList.drop f).take (k - f)).toArray⟩ : ByteArray), true) = _
  rw [mk_data]
theorem good_hit (hok : okL ((s.data.toList.drop f).take (k - f)) = true) : goodB ⟨(s.extract f k, true), ext_le h f k⟩ = true := by
  have e1 : (⟨((s.data.toList.drop f).take (k - f)).toArray⟩ : ByteArray).size ≤ 65536 := by rw [mk_data]; exact ext_le h f k
  have e : (⟨(s.extract f k, true), ext_le h f k⟩ : Ln) = ⟨(⟨((s.data.toList.drop f).take (k - f)).toArray⟩, true), e1⟩ :=
    Subtype.ext (by show (s.extract f k, true) = ((⟨((s.data.toList.drop f).take (k - f)).toArray⟩ : ByteArray), true); rw [mk_data])
  rw [e, okL_good]
  exact hok
theorem from_bad {c : UInt8} (hat : s.data.toList[k]? = some c) (hf : f ≤ k) (hn : (10 : UInt8) ∉ (s.data.toList.drop f).take (k - f)) (hc : c ≠ 10) (hbad : ¬ (32 ≤ c.toNat ∧ c.toNat ≤ 126)) :
    ∃ x t, linesFrom s h f = x :: t ∧ goodB x = false := by
  have hcut := cutAt hat hf
  have hd := from_data s f
  have hne : ¬ (s.extract f s.size).size = 0 := by
    rw [← size_list, hd, hcut]; simp
  unfold linesFrom
  rcases piece.parts 10 (s.extract f s.size).data.toList with hm | ⟨a, b, e, hm⟩
  · rw [linesOf_miss _ hne hm]
    exact ⟨_, _, rfl, rfl⟩
  · have hl : (s.extract f s.size).data.toList.length = a.length + (b.length + 1) := by rw [e]; simp
    rw [size_list] at hl
    have h0 := ext_le h f s.size
    have h1 : (⟨a.toArray⟩ : ByteArray).size ≤ 65536 := by rw [size_of]; omega
    have h2 : (⟨b.toArray⟩ : ByteArray).size ≤ 65536 := by rw [size_of]; omega
    rw [linesOf_hit _ e hm h1 h2]
    refine ⟨_, _, rfl, ?_⟩
    rw [okL_good]
    have hmem : c ∈ a := by
      rw [hd, hcut] at e
      -- the first byte that is 10 stands behind c
      rcases Nat.lt_or_ge ((s.data.toList.drop f).take (k - f)).length a.length with hlt | hge
      · have h3 : (((s.data.toList.drop f).take (k - f)) ++ c :: s.data.toList.drop (k + 1))[((s.data.toList.drop f).take (k - f)).length]? = some c := by
          rw [List.getElem?_append_right (Nat.le_refl _)]; simp
        rw [e, List.getElem?_append_left hlt] at h3
        exact List.mem_of_getElem? h3
      · exfalso
        have h3 : (a ++ 10 :: b)[a.length]? = some 10 := by
          rw [List.getElem?_append_right (Nat.le_refl _)]; simp
        rw [← e] at h3
        rcases Nat.lt_or_ge a.length ((s.data.toList.drop f).take (k - f)).length with h4 | h4
        · rw [List.getElem?_append_left h4] at h3
          exact hn (List.mem_of_getElem? h3)
        · have h5 : a.length = ((s.data.toList.drop f).take (k - f)).length := by omega
          rw [h5, List.getElem?_append_right (Nat.le_refl _)] at h3
          simp at h3
          exact hc h3
    unfold okL
    rw [List.all_eq_false]
    exact ⟨c, hmem, by simp only [decide_eq_true_eq]; exact hbad⟩
theorem from_end (hf : f < s.size) (hn : (10 : UInt8) ∉ s.data.toList.drop f) : ∃ x t, linesFrom s h f = x :: t ∧ goodB x = false := by
  unfold linesFrom
  rw [linesOf_miss (ext_le h f s.size) (by rw [ByteArray.size_extract]; omega) (by rw [from_data]; exact hn)]
  exact ⟨_, _, rfl, rfl⟩
theorem from_done (hf : f = s.size) : linesFrom s h f = [] := by
  unfold linesFrom
  exact linesOf_nil (by rw [ByteArray.size_extract]; omega)
theorem okL_next {c : UInt8} (hat : s.data.toList[k]? = some c) (hf : f ≤ k) (hok : okL ((s.data.toList.drop f).take (k - f)) = true) (h0 : 32 ≤ c.toNat) (h1 : c.toNat ≤ 126) : okL ((s.data.toList.drop f).take (k + 1 - f)) = true := by
  rw [takeNext hat hf]
  unfold okL at hok ⊢
  rw [List.all_append, hok]; simp [h0, h1]
end
theorem bad_post {s : ByteArray} {h : s.size ≤ 65536} {w W' : World} {ls : List Ln} {f : Nat} (hE : linesOf s h = ls ++ linesFrom s h f) (hg : ∀ y ∈ ls, goodB y = true) (hx : ∃ x t, linesFrom s h f = x :: t ∧ goodB x = false) (hb : Below w.heap.size w W') :
    LinesPost s h w (.returned (.tuple #[.slice none 0 0, .agg #[.int .i64 1, .int .i64 ((ls.length : Int) + 1)]])) W' := by
  obtain ⟨x, t, e, hx⟩ := hx
  exact ⟨.inr ⟨ls, x, rfl, ⟨t, by rw [hE, e]; simp⟩, hg, hx⟩, hb⟩

set_option maxRecDepth 100000 in
set_option maxHeartbeats 2000000 in
theorem lines_r (s : ByteArray) (hs : s.size ≤ 65536) (w : World) : Calls Tryd.prog 10 #[.string s] w (LinesPost s hs w) := by
  obtain ⟨i0, hi0, hz0, hz1, hz2⟩ := info_parts infoS
  have hsI : ¬ (65536 : Int) < (s.size : Int) := by omega
  have hsJ : (s.size : Int) ≤ 65536 := by omega
  have HLs := Lib.hid (size_list s)
  have HZ := Lib.hid (from_zero s hs)
  go_enter Tryd.func10, Tryd.ntmps10
  go_wp2
  go_loopw [4, 5, 6] (fun v fr i wr => ∃ (k f : Nat) (ls : List Ln), i = .int .i64 (k : Int) ∧ fr = .int .i64 (f : Int) ∧ f ≤ k ∧ k ≤ s.size ∧ (10 : UInt8) ∉ (s.data.toList.drop f).take (k - f) ∧ okL ((s.data.toList.drop f).take (k - f)) = true ∧ linesOf s hs = ls ++ linesFrom s hs f ∧ ls.length ≤ f ∧
      (∀ y ∈ ls, goodB y = true) ∧ wr.ownsRow (w.heap.size + 1) 9 1 v ls.length (ls.map strV) ∧ (v = .slice none 0 0 ↔ ls = []) ∧ wr.heap[w.heap.size]? = some (.cells #[.int .i64 0, .int .i64 0] 27 (0, 0)) ∧ Below w.heap.size w wr) (fun _ _ i _ => s.size - (intOf i).toNat)
  case atStart => exact ⟨0, 0, [], rfl, rfl, Nat.le_refl _, Nat.zero_le _, by simp, by simp [okL], by rw [HZ.out]; rfl, Nat.le_refl _, by simp, World.ownsRow_nil _ _ _ _, by simp, heap_alloc_new w _, (Below.refl _ _).alloc (Nat.le_refl _) _⟩
  case round =>
    obtain ⟨k, f, ls, rfl, rfl, hfk, hk, hno, hok, hE, hlf, hgood, hown, hnil, hblk, hb⟩ := hrel
    have HN := Lib.hid hno; have HE := Lib.hid hE; have HO := Lib.hid hown; have HB := Lib.hid hb; have HOK := Lib.hid hok; have HG := Lib.hid hgood; have HNIL := Lib.hid hnil; have HK := Lib.hid hblk
    have hsz := hb.size
    have hblt := blk_lt hblk
    clear hno hE hown hb hok hgood hnil
    have c0 := cell_of_row _ _ 0 _ _ _ hblk
    have c1 := cell_of_row _ _ 1 _ _ _ hblk
    have z0 := frozen_of_row _ _ 0 _ _ hblk
    have z1 := frozen_of_row _ _ 1 _ _ hblk
    dsimp at c0 c1
    clear hblk
    have hfI : (f : Int) ≤ (k : Int) := by omega
    have hf0 : (0 : Int) ≤ (f : Int) := by omega
    have hlI : (ls.length : Int) ≤ 65536 := by omega
    by_cases hlt : k < s.size
    · have hltI : (k : Int) < (s.size : Int) := by omega
      have hleI : (k : Int) ≤ (s.size : Int) := by omega
      have hat : s.data.toList[k]? = some (s[k]'hlt) := by rw [Array.getElem?_toList, Array.getElem?_eq_getElem (by exact hlt)]; rfl
      by_cases hc : (s[k]'hlt).toNat = 10
      · have hcI : ((s[k]'hlt).toNat : Int) = 10 := by omega
        have hc8 : s[k]'hlt = 10 := UInt8.toNat_inj.1 (by rw [hc]; rfl)
        rw [hc8] at hat
        have HE2 := Lib.hid (HE.out.trans (congrArg (ls ++ ·) (from_hit (h := hs) hat hfk HN.out)))
        have HG2 := Lib.hid (good_hit (h := hs) HOK.out)
        clear hat hc hc8 HN HE HOK c0 c1 z0 z1
        go_wp2_with (at_builtin; refine wpList_app _ rfl (.tmp 21) (.tmp 26) _ rfl (w.heap.size + 1) 9 i0 _ 1 16 Tryd.underlying24 hi0 hz0 hz1 hz2 rfl (by omega) _ ls.length (ls.map strV) rfl (HO.out.alloc _) _ 1 1 [_] rfl rfl (rd_blk (heap_alloc_new wr _) (k := 1) rfl) (by simp [Value.oneCell']) (by simp only [maxLen]; omega) (by omega) (by simp; omega) ?_; intro v' w1 hown1 hg1 hb1 hat1; clear hg1 hat1)
        have hb2 : Below w.heap.size w w1 := (HB.out.alloc hsz _).trans (hb1.mono (by omega))
        have hbk : w1.heap[w.heap.size]? = some (.cells #[.int .i64 0, .int .i64 0] 27 (0, 0)) := (hb1.block _ (Nat.lt_succ_self _)).trans ((Below.heap_alloc _ _ _ hblt).trans HK.out)
        obtain ⟨g', cap', rfl⟩ := ownsRow_succ hown1
        clear hb1
        go_roundw
        case rel => exact ⟨k + 1, k + 1, ls ++ [⟨(s.extract f k, true), ext_le hs f k⟩], by go_num, by go_num, Nat.le_refl _, by omega, by simp, by simp [okL], by rw [HE2.out]; simp, by simp; omega, fun y hy => (List.mem_append.1 hy).elim (HG.out y) (fun h => by rw [List.mem_singleton.1 h]; exact HG2.out), by simpa [strV] using hown1, by simp, hbk, hb2⟩
        case measure => simp [intOf]; omega
      · have hcI : ¬ ((s[k]'hlt).toNat : Int) = 10 := by omega
        have hcB : (((s[k]'hlt).toNat : Int) == 10) = false := by simpa using hcI
        have hne : s[k]'hlt ≠ 10 := fun e => hc (by rw [e]; rfl)
        by_cases hp : 32 ≤ (s[k]'hlt).toNat ∧ (s[k]'hlt).toNat ≤ 126
        · have hp0 : ¬ ((s[k]'hlt).toNat : Int) < 32 := by omega
          have hp1 : ¬ (126 : Int) < ((s[k]'hlt).toNat : Int) := by omega
          have HN2 := Lib.hid (notNext hat hfk hne.symm HN.out)
          have HOK2 := Lib.hid (okL_next hat hfk HOK.out hp.1 hp.2)
          clear hat hc hne HN HOK hp c0 c1 z0 z1
          go_wp2
          go_roundw
          case rel => exact ⟨k + 1, f, ls, by go_num, rfl, by omega, by omega, HN2.out, HOK2.out, HE.out, hlf, HG.out, HO.out, HNIL.out, HK.out, HB.out⟩
          case measure => simp [intOf]; omega
        · have HX := Lib.hid (from_bad (h := hs) hat hfk HN.out hne hp)
          obtain ⟨A, cc, rfl, -, -, -⟩ := own_rd HO.out
          have hpp : ((s[k]'hlt).toNat : Int) < 32 ∨ (¬ ((s[k]'hlt).toNat : Int) < 32 ∧ (126 : Int) < ((s[k]'hlt).toNat : Int)) := by omega
          clear hat hc hne HN HOK hp HNIL HO
          rcases hpp with hp0 | ⟨hp0, hp1⟩
          all_goals
            go_wp2
            have r2 := heap_setCell_same _ _ 1 _ _ (.int .i64 ((ls.length : Int) + 1)) (heap_setCell_same _ _ 0 _ _ (.int .i64 1) HK.out)
            have e0 := cell_of_row _ _ 0 _ _ _ r2
            have e1 := cell_of_row _ _ 1 _ _ _ r2
            exact bodyPost_ret (v := .tuple #[.slice none 0 0, .agg #[.int .i64 1, .int .i64 ((ls.length : Int) + 1)]]) (by simp [results, Tryd.results10, go_sem, e0, e1]) rfl (bad_post HE.out HG.out HX.out ((((HB.out.setCell (p := ⟨w.heap.size, 0, none⟩) (Nat.le_refl _) _).setCell (p := ⟨w.heap.size, 1, none⟩) (Nat.le_refl _) _))))
    · have hltI : ¬ (k : Int) < (s.size : Int) := by omega
      have hks : k = s.size := by omega
      subst hks
      have hdl : (s.data.toList.drop f).take (s.size - f) = s.data.toList.drop f := List.take_of_length_le (by rw [List.length_drop, HLs.out]; omega)
      obtain ⟨A, cc, rfl, -, -, -⟩ := own_rd HO.out
      by_cases hfs : f < s.size
      · have hfsI : (f : Int) < (s.size : Int) := by omega
        have hno := HN.out
        rw [hdl] at hno
        have HX := Lib.hid (from_end (h := hs) hfs hno)
        clear hdl hno HN HOK HNIL HO hfs
        go_wp2
        have r2 := heap_setCell_same _ _ 1 _ _ (.int .i64 ((ls.length : Int) + 1)) (heap_setCell_same _ _ 0 _ _ (.int .i64 1) HK.out)
        have e0 := cell_of_row _ _ 0 _ _ _ r2
        have e1 := cell_of_row _ _ 1 _ _ _ r2
        exact bodyPost_ret (v := .tuple #[.slice none 0 0, .agg #[.int .i64 1, .int .i64 ((ls.length : Int) + 1)]]) (by simp [results, Tryd.results10, go_sem, e0, e1]) rfl (bad_post HE.out HG.out HX.out ((((HB.out.setCell (p := ⟨w.heap.size, 0, none⟩) (Nat.le_refl _) _).setCell (p := ⟨w.heap.size, 1, none⟩) (Nat.le_refl _) _))))
      · have hfsI : ¬ (f : Int) < (s.size : Int) := by omega
        have hE2 := HE.out
        rw [from_done (h := hs) (by omega), List.append_nil] at hE2
        have HE2 := Lib.hid hE2
        clear hdl HN HOK hfs hE2 HE
        go_wp2
        have r2 := heap_setCell_same _ _ 1 _ _ (.int .i64 0) (heap_setCell_same _ _ 0 _ _ (.int .i64 0) HK.out)
        have e0 := cell_of_row _ _ 0 _ _ _ r2
        have e1 := cell_of_row _ _ 1 _ _ _ r2
        refine bodyPost_ret (v := .tuple #[.slice A ls.length cc, .agg #[.int .i64 0, .int .i64 0]]) (by simp [results, Tryd.results10, go_sem, e0, e1]) rfl ?_
        refine ⟨.inl ⟨_, rfl, ?_, ?_, ?_⟩, (HB.out.setCell (p := ⟨w.heap.size, 0, none⟩) (Nat.le_refl _) _).setCell (p := ⟨w.heap.size, 1, none⟩) (Nat.le_refl _) _⟩
        · rw [HE2.out]
          exact own_base (own_set (heap_setCell_same _ _ 0 _ _ (.int .i64 0) HK.out) (by decide) (own_set HK.out (by decide) HO.out _) _) (Nat.le_succ _)
        · rw [HE2.out]; exact HNIL.out
        · rw [HE2.out]; exact HG.out
end Go.Proofs.YtcpjllkfgoaamaaDoor.word

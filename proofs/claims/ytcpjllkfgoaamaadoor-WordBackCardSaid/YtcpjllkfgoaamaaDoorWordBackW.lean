/-
  The walk of WordBack: lines that are written are read as they were, and a text that is read is written so; so are fields.
-/
import Derived.Test.YtcpjllkfgoaamaaDoorBackL
import Derived.Test.YtcpjllkfgoaamaaDoorWordLinesW
namespace Go.Proofs.YtcpjllkfgoaamaaDoor.wordBack
open Go.RowKit
open Go.Proofs.YtcpjllkfgoaamaaDoor.num Go.Proofs.YtcpjllkfgoaamaaDoor.words Go.Proofs.YtcpjllkfgoaamaaDoor.give Go.Proofs.YtcpjllkfgoaamaaDoor.write Go.Proofs.YtcpjllkfgoaamaaDoor.word Go.Proofs.YtcpjllkfgoaamaaDoor.live4 Go.Proofs.YtcpjllkfgoaamaaDoor.texts Go.Proofs.YtcpjllkfgoaamaaDoor.piece Go.Proofs.YtcpjllkfgoaamaaDoor.backL Go.Proofs.YtcpjllkfgoaamaaDoor.wordLines

/-- what holds between two rounds of the outer loop -/
def Out (xs : List ByteArray) (i : Nat) (f b : Bool) (n : Nat) : Prop := i ≤ xs.length ∧ f = okAll (xs.take i) ∧ b = blankAny (xs.take i) ∧ n = tot (xs.take i) ∧ n ≤ 20000
/-- what holds between two rounds of the inner loop -/
def Inn (xs : List ByteArray) (i k : Nat) (x : ByteArray) (f b : Bool) : Prop := k ≤ x.size ∧ f = (okAll (xs.take i) && okL (x.data.toList.take k)) ∧ b = (blankAny (xs.take i) || blankIn (x.data.toList.take k))
theorem Inn.zero {xs : List ByteArray} {i : Nat} {x : ByteArray} {f b : Bool} {n : Nat} (h : Out xs i f b n) : Inn xs i 0 x f b := by
  refine ⟨Nat.zero_le _, ?_, ?_⟩
  · rw [h.2.1]; simp [okL]
  · rw [h.2.2.1]; simp [blankIn]
theorem Inn.next {xs : List ByteArray} {i k : Nat} {x : ByteArray} {f b : Bool} (h : Inn xs i k x f b) (hk : k < x.size) :
    Inn xs i (k + 1) x (f && decide (32 ≤ (x[k]'hk).toNat ∧ (x[k]'hk).toNat ≤ 126)) (b || (x[k]'hk).toNat == 32) := by
  have hat : x.data.toList[k]? = some (x[k]'hk) := by rw [Array.getElem?_toList, Array.getElem?_eq_getElem (by exact hk)]; rfl
  refine ⟨hk, ?_, ?_⟩
  · rw [okL_take hat, h.2.1, Bool.and_assoc]
  · rw [blankIn_take hat, h.2.2, Bool.or_assoc]
    congr 2
    rw [Bool.eq_iff_iff, beq_iff_eq, beq_iff_eq]
    exact ⟨fun e => UInt8.toNat_inj.1 (by rw [e]; rfl), fun e => by rw [e]; rfl⟩
theorem Inn.done {xs : List ByteArray} {i : Nat} {x : ByteArray} {f b f0 b0 : Bool} {n : Nat} (h : Inn xs i x.size x f b) (ho : Out xs i f0 b0 n) (hx : xs[i]? = some x) (hn : n + x.size ≤ 20000) (hi : i < xs.length) : Out xs (i + 1) f b (n + x.size) := by
  have hl : x.data.toList.take x.size = x.data.toList := List.take_of_length_le (by rw [size_list]; exact Nat.le_refl _)
  obtain ⟨_, h1, h2⟩ := h
  rw [hl] at h1 h2
  exact ⟨hi, by rw [ok_take hx, h1], by rw [blank_take hx, h2], by rw [tot_take hx, ho.2.2.2.1], hn⟩
theorem Out.end_ {xs : List ByteArray} {f b : Bool} {n : Nat} (h : Out xs xs.length f b n) : f = okAll xs ∧ b = blankAny xs ∧ tot xs ≤ 20000 := by
  obtain ⟨_, h1, h2, h3, h4⟩ := h
  rw [List.take_length] at h1 h2 h3
  exact ⟨h1, h2, by omega⟩

set_option maxRecDepth 100000 in
set_option maxHeartbeats 8000000 in
theorem walk (A : Option Addr) (c : Nat) (xs : List ByteArray) (s : ByteArray) (w : World) (hr : Rd w A (texts.S xs)) (hc : xs.length ≤ c) (_hn : xs.length * 16 ≤ 140737488351232) (hxs : ∀ x ∈ xs, x.size ≤ 140737488351232) (_hs : s.size ≤ 140737488351232) (tab : Tabs w) :
    Calls Tryd.prog 4 #[.slice A xs.length c, .string s] w fun e w' => e = .returned (.bool true) ∧ Below w.heap.size w w' := by
  have HT := Lib.hid tab
  have HLV := Lib.hid (fun w (t : Tabs w) => live_any w t)
  have HR := Lib.hid hr
  have HPL := Lib.hid (rd_plain hr)
  have HXS := Lib.hid hxs
  clear hxs
  by_cases hg : (65544 : Int) < (s.size : Int)
  · have HG := Lib.hid (great_w s w true (decide_eq_true hg))
    clear tab hg hr hc HPL
    go_enter Tryd.func4, Tryd.ntmps4
    go_wp2_with fail
    refine HG.out.mono ?_
    rintro e w' ⟨rfl, rfl⟩
    go_wp2_with fail
    refine (HLV.out _ HT.out).mono ?_
    rintro e w1 ⟨rfl, hb⟩
    have HB := Lib.hid hb
    clear hb HLV HG
    go_wp2
    go_ret
    exact ⟨rfl, HB.out⟩
  have HG := Lib.hid (great_w s w false (decide_eq_false hg))
  by_cases hn : 100 < xs.length
  · have hnI : (100 : Int) < (xs.length : Int) := by omega
    clear tab hg hr hc HPL hn
    go_enter Tryd.func4, Tryd.ntmps4
    go_wp2_with fail
    refine HG.out.mono ?_
    rintro e w' ⟨rfl, rfl⟩
    go_wp2_with fail
    refine (HLV.out _ HT.out).mono ?_
    rintro e w1 ⟨rfl, hb⟩
    have HB := Lib.hid hb
    clear hb HLV HG
    go_wp2
    go_ret
    exact ⟨rfl, HB.out⟩
  have hnI : ¬ (100 : Int) < (xs.length : Int) := by omega
  have hnJ : (xs.length : Int) ≤ 100 := by omega
  have HN := Lib.hid (show xs.length ≤ 100 by omega)
  have HC := Lib.hid hc
  have HP := Lib.hid (fun w (t : Tabs w) => lines_wa s w t)
  have HF := Lib.hid (fun w (t : Tabs w) => fields_w s (by omega) w _ t.len.choose_spec)
  have HTX := Lib.hid (fun A c w hr => feeds_w A c (lineTx s) w hr (by have := text_tx_le s; omega) (by have := lineTx_le s; omega))
  have HTB := Lib.hid (fun h => text_back (s := s) h)
  have HLB := Lib.hid (line_back s)
  have HLF := Lib.hid (fun A c w hr hA hc => line_w A c (fieldsB s) w hr hA hc (by rw [line_f_le]; omega) (by have := fieldsB_le s; omega))
  rw [HLB.out] at HLF
  unfold LA at HP
  clear tab hg hr hc HLB
  generalize lineErr s = er at *
  generalize lineAt s = la at *
  generalize lineTx s = ts at *
  generalize fieldsB s = fs at *
  obtain ⟨n, hnn⟩ : ∃ n, n = xs.length := ⟨_, rfl⟩
  rw [← hnn] at hnI hnJ ⊢
  have HNN := Lib.hid hnn
  clear hnn hn
  go_enter Tryd.func4, Tryd.ntmps4
  go_wp2_with fail
  refine HG.out.mono ?_
  rintro e w ⟨rfl, rfl⟩
  clear HG
  go_wp2_with fail
  refine (HP.out _ HT.out).mono ?_
  rintro e w1 ⟨⟨B, d, rfl, hBd, hrB⟩, hb1⟩
  have HRB := Lib.hid hrB; have HB1 := Lib.hid hb1
  have HB1a := Lib.hid (HB1.out.alloc HB1.out.size (Obj.cells #[.int .i64 (er : Int), .int .i64 (la : Int)] 27))
  have kb := (Below.refl w1.heap.size w1).alloc (Nat.le_refl _) (Obj.cells #[.int .i64 (er : Int), .int .i64 (la : Int)] 27)
  have HRB1 := Lib.hid (HRB.out.below kb)
  have HR1 := Lib.hid ((HR.out.below HB1.out).below kb)
  have r1 : (w1.alloc (Obj.cells #[.int .i64 (er : Int), .int .i64 (la : Int)] 27)).heap[w1.heap.size]? = some (.cells #[.int .i64 (er : Int), .int .i64 (la : Int)] 27 (0, 0)) := heap_alloc_new w1 _
  clear hrB hb1 HP kb HRB hBd
  go_wp2_with fail
  generalize w1.alloc (Obj.cells #[.int .i64 (er : Int), .int .i64 (la : Int)] 27) = w2 at *
  refine (HLV.out _ (Tabs.below HT.out HB1a.out)).mono ?_
  rintro e w3 ⟨rfl, hb3⟩
  have HB3 := Lib.hid (then' HB1a.out hb3)
  have HRB3 := Lib.hid (HRB1.out.below hb3)
  have HR3 := Lib.hid (HR1.out.below hb3)
  have r3 := (hb3.block _ (blk_lt r1)).trans r1
  have c30 := cell_of_row _ _ 0 _ _ _ r3
  dsimp at c30
  have l3 := blk_lt r3
  have HR3' := Lib.hid r3
  clear hb3 r1 r3 HRB1 HR1 HB1a HLV
  -- the text that is read is written so
  have he : er = 0 ∨ ¬ er = 0 := by omega
  have e0 : (s.toList != s.toList) = false := by simp
  rcases he with he | he
  case' inl =>
    subst he
    have heq := HTB.out rfl
    have HTX2 := Lib.hid (HTX.out B d w3 HRB3.out)
    rw [heq] at HTX2
    have e00 : ((0 : Nat) : Int) = 0 := rfl
    rw [e00] at c30
    clear HTX HTB heq HRB3 e00
    go_wp2_with fail
    refine HTX2.out.mono ?_
    rintro e w4 ⟨rfl, hb4⟩
    have HB4 := Lib.hid (then' HB3.out hb4)
    have HR4 := Lib.hid (HR3.out.below hb4)
    clear hb4 HTX2 HB3 HR3 c30 HR3' l3
    go_wp2_with fail
  case' inr =>
    have heI : ¬ (er : Int) = 0 := by omega
    have heB : ((er : Int) == 0) = false := by simpa using heI
    obtain ⟨w4, hw4⟩ : ∃ w4, w4 = w3 := ⟨_, rfl⟩
    have HB4 := Lib.hid HB3.out
    have HR4 := Lib.hid HR3.out
    rw [← hw4] at HB4 HR4
    clear HTX HTB HRB3 he HB3 HR3 HR3' l3
    go_wp2_with fail
    rw [← hw4]
    clear hw4 c30 heI heB
  all_goals
    refine (HF.out _ (Tabs.below HT.out HB4.out)).mono ?_
    rintro e w5 ⟨⟨a5, c5, rfl, hc5, hr5⟩, hb5⟩
    have HB5 := Lib.hid (then' HB4.out hb5)
    have HR5 := Lib.hid (HR4.out.below hb5)
    have HL5 := Lib.hid (HLF.out (some ⟨a5, 0, none⟩) c5 w5 hr5 (.inr ⟨_, _, rfl⟩) hc5)
    clear hb5 hr5 hc5 HF HB4 HR4 HLF
    go_wp2_with fail
    refine HL5.out.mono ?_
    rintro e w6 ⟨rfl, hb6⟩
    have HB6 := Lib.hid (then' HB5.out hb6)
    have hr6 := HR5.out.below hb6
    clear hb6 HB5 HR5 HL5
    go_wp2
    go_loopw [7, 8, 9, 10] (fun f b t i wr => ∃ (j : Nat) (fv bv : Bool) (tv : Nat), i = .int .i64 (j : Int) ∧ f = .bool fv ∧ b = .bool bv ∧ t = .int .i64 (tv : Int) ∧ wr = w6 ∧ Out xs j fv bv tv) (fun _ _ _ i _ => n - (intOf i).toNat)
    case atStart => exact ⟨0, true, false, 0, rfl, rfl, rfl, rfl, rfl, ⟨Nat.zero_le _, rfl, rfl, rfl, by omega⟩⟩
    case round =>
      obtain ⟨j, fv, bv, tv, rfl, rfl, rfl, rfl, rfl, ho⟩ := hrel
      have HO := Lib.hid ho
      have htv := ho.2.2.2.2
      have htI : (tv : Int) ≤ 20000 := by omega
      clear ho
      by_cases hlt : j < n
      · have hltI : (j : Int) < (n : Int) := by omega
        obtain ⟨x, hx⟩ : ∃ x, xs[j]? = some x := ⟨xs[j]'(by rw [← HNN.out]; exact hlt), List.getElem?_eq_getElem _⟩
        obtain ⟨a, rfl, _, hcell⟩ := rd_cell hr6 hx
        have HX := Lib.hid hx
        clear hx
        have hxz := HXS.out x (List.mem_of_getElem? HX.out)
        by_cases hbig : 1000 < x.size ∨ 20000 < tv + x.size
        · have hbb : (1000 : Int) < (x.size : Int) ∨ (¬ (1000 : Int) < (x.size : Int) ∧ (20000 : Int) < (tv : Int) + (x.size : Int)) := by omega
          have hxzI : (x.size : Int) ≤ 140737488351232 := by omega
          clear hbig htv hxz
          rcases hbb with hb1 | ⟨hb1, hb2⟩
          all_goals
            go_wp2
            go_ret
            exact ⟨rfl, HB6.out⟩
        · have hb1 : ¬ (1000 : Int) < (x.size : Int) := by omega
          have hb2 : ¬ (20000 : Int) < (tv : Int) + (x.size : Int) := by omega
          have hb3 : (x.size : Int) ≤ 1000 := by omega
          have HSUM := Lib.hid (show tv + x.size ≤ 20000 by omega)
          clear hbig
          go_wp2
          obtain ⟨wo, rfl⟩ : ∃ wo : World, wo = wr := ⟨_, rfl⟩
          go_loopw [7, 8, 11] (fun f b i wr => ∃ (k : Nat) (fv bv : Bool), i = .int .i64 (k : Int) ∧ f = .bool fv ∧ b = .bool bv ∧ wr = wo ∧ Inn xs j k x fv bv) (fun _ _ i _ => x.size - (intOf i).toNat)
          case atStart => exact ⟨0, fv, bv, rfl, rfl, rfl, rfl, Inn.zero HO.out⟩
          case round =>
            obtain ⟨k, f2, b2, rfl, rfl, rfl, rfl, hin⟩ := hrel
            have HI := Lib.hid hin
            have hkle := hin.1
            clear hin
            by_cases hk : k < x.size
            · have hkI : (k : Int) < (x.size : Int) := by omega
              have hin2 := HI.out.next hk
              have hc0 : (0 : Int) ≤ ((x[k]'hk).toNat : Int) := by omega
              have hcc : (x[k]'hk).toNat < 32 ∨ (x[k]'hk).toNat = 32 ∨ (32 < (x[k]'hk).toNat ∧ (x[k]'hk).toNat ≤ 126) ∨ 126 < (x[k]'hk).toNat := by omega
              rcases hcc with h1 | h1 | h1 | h1
              case' inl =>
                rw [show decide (32 ≤ (x[k]'hk).toNat ∧ (x[k]'hk).toNat ≤ 126) = false from decide_eq_false (by omega), show ((x[k]'hk).toNat == 32) = false by simp; omega] at hin2
                have g1 : ¬ (32 : Int) ≤ ((x[k]'hk).toNat : Int) := by omega
                have g3 : ¬ ((x[k]'hk).toNat : Int) = 32 := by omega
                have g4 : (((x[k]'hk).toNat : Int) == 32) = false := by simpa using g3
              case' inr.inl =>
                rw [show decide (32 ≤ (x[k]'hk).toNat ∧ (x[k]'hk).toNat ≤ 126) = true from decide_eq_true (by omega), show ((x[k]'hk).toNat == 32) = true by simp; omega] at hin2
                have g1 : (32 : Int) ≤ ((x[k]'hk).toNat : Int) := by omega
                have g2 : ((x[k]'hk).toNat : Int) ≤ 126 := by omega
                have g3 : ((x[k]'hk).toNat : Int) = 32 := by omega
                have g4 : (((x[k]'hk).toNat : Int) == 32) = true := by simpa using g3
              case' inr.inr.inl =>
                rw [show decide (32 ≤ (x[k]'hk).toNat ∧ (x[k]'hk).toNat ≤ 126) = true from decide_eq_true (by omega), show ((x[k]'hk).toNat == 32) = false by simp; omega] at hin2
                have g1 : (32 : Int) ≤ ((x[k]'hk).toNat : Int) := by omega
                have g2 : ((x[k]'hk).toNat : Int) ≤ 126 := by omega
                have g3 : ¬ ((x[k]'hk).toNat : Int) = 32 := by omega
                have g4 : (((x[k]'hk).toNat : Int) == 32) = false := by simpa using g3
              case' inr.inr.inr =>
                rw [show decide (32 ≤ (x[k]'hk).toNat ∧ (x[k]'hk).toNat ≤ 126) = false from decide_eq_false (by omega), show ((x[k]'hk).toNat == 32) = false by simp; omega] at hin2
                have g1 : (32 : Int) ≤ ((x[k]'hk).toNat : Int) := by omega
                have g2 : ¬ ((x[k]'hk).toNat : Int) ≤ 126 := by omega
                have g3 : ¬ ((x[k]'hk).toNat : Int) = 32 := by omega
                have g4 : (((x[k]'hk).toNat : Int) == 32) = false := by simpa using g3
              all_goals
                cases f2 <;> cases b2
              all_goals
                have HI2 := Lib.hid hin2
                clear hin2 h1
                go_wp2
                go_roundw
                case rel => exact ⟨k + 1, _, _, by go_num, rfl, rfl, by first | rfl | trivial, HI2.out⟩
                case measure => simp [intOf]; omega
            · have hkI : ¬ (k : Int) < (x.size : Int) := by omega
              obtain rfl : k = x.size := by omega
              have HO2 := Lib.hid (Inn.done HI.out HO.out HX.out HSUM.out (by rw [← HNN.out]; exact hlt))
              clear hk hkle
              go_wp2
              go_roundw
              case rel => exact ⟨j + 1, f2, b2, tv + x.size, by go_num, rfl, rfl, by go_num, by first | rfl | trivial, HO2.out⟩
              case measure => simp [intOf]; omega
      · have hltI : ¬ (j : Int) < (n : Int) := by omega
        have hjn : j = n := by have := HO.out.1; rw [← HNN.out] at this; omega
        subst hjn
        have hO := HO.out
        rw [HNN.out] at hO
        obtain ⟨hfa, hba, htot⟩ := Out.end_ hO
        have h100 := HN.out
        have hjl := join_le xs
        have HTW := Lib.hid (fun w hr => feeds_w A c xs w hr (by rw [text_len]; omega) (by omega))
        have HTR := Lib.hid (fun w hr => feeds_r A c xs w hr (by rw [text_len]; omega) (by omega))
        have HLW := Lib.hid (fun w hr => line_w A c xs w hr HPL.out HC.out (by omega) (by omega))
        have HLR := Lib.hid (fun w hr => line_r A c xs w hr (by omega) (by omega))
        obtain ⟨T, hT⟩ : ∃ T : ByteArray, T = ⟨(piece.textL (D xs)).toArray⟩ := ⟨_, rfl⟩
        obtain ⟨J, hJ⟩ : ∃ J : ByteArray, J = ⟨(joinB xs).toArray⟩ := ⟨_, rfl⟩
        rw [← HNN.out, ← hT] at HTW HTR
        rw [← HNN.out, ← hJ] at HLW HLR
        have HLN := Lib.hid (fun w (t : Tabs w) => lines_wa T w t)
        unfold LA at HLN
        have HLB := Lib.hid (fun (h : fv = true) => (show lineErr T = 0 ∧ lineTx T = xs by rw [hT]; exact lines_back (hfa ▸ h) (by omega)))
        have HFB := Lib.hid (fun (h : bv = false) (hne : xs ≠ []) => (show fieldsB J = xs by rw [hJ]; exact fields_back (hba ▸ h) hne))
        have HFJ := Lib.hid (fun w (t : Tabs w) => fields_w J (by rw [hJ, size_of]; omega) w _ t.len.choose_spec)
        have eT : (T.toList != T.toList) = false := by simp
        have eJ : (J.toList != J.toList) = false := by simp
        clear hO hfa hba htot hT hJ hjl h100 HO HXS htv hlt
        go_wp2_with fail
        refine (HTW.out wr hr6).mono ?_
        rintro e w7 ⟨rfl, hb7⟩
        have HB7 := Lib.hid (then' HB6.out hb7)
        have HR7 := Lib.hid (hr6.below hb7)
        clear hb7 hr6 HB6 HTW
        go_wp2_with fail
        refine (HLN.out _ (Tabs.below HT.out HB7.out)).mono ?_
        generalize lineErr T = er2 at *
        generalize lineAt T = la2 at *
        generalize lineTx T = ts2 at *
        rintro e w8 ⟨⟨B8, d8, rfl, -, hr8⟩, hb8⟩
        have HB8 := Lib.hid (then' HB7.out hb8)
        have HB8a := Lib.hid (HB8.out.alloc HB8.out.size (Obj.cells #[.int .i64 (er2 : Int), .int .i64 (la2 : Int)] 27))
        have kb8 := (Below.refl w8.heap.size w8).alloc (Nat.le_refl _) (Obj.cells #[.int .i64 (er2 : Int), .int .i64 (la2 : Int)] 27)
        have HR8 := Lib.hid ((HR7.out.below hb8).below kb8)
        have HX8 := Lib.hid (hr8.below kb8)
        have r8 : (w8.alloc (Obj.cells #[.int .i64 (er2 : Int), .int .i64 (la2 : Int)] 27)).heap[w8.heap.size]? = some (.cells #[.int .i64 (er2 : Int), .int .i64 (la2 : Int)] 27 (0, 0)) := heap_alloc_new w8 _
        clear hb8 hr8 kb8 HB7 HR7 HB8 HLN
        go_wp2_with fail
        generalize w8.alloc (Obj.cells #[.int .i64 (er2 : Int), .int .i64 (la2 : Int)] 27) = w8a at *
        refine (HTR.out _ HR8.out).mono ?_
        rintro e w9 ⟨rfl, q9, rfl⟩
        clear HTR
        go_wp2_with fail
        refine (HLW.out (w8a.drewN q9) (HR8.out.drewN q9)).mono ?_
        rintro e w10 ⟨rfl, hb10⟩
        have HB10 := Lib.hid (then' (over HB8a.out) hb10)
        have HR10 := Lib.hid ((HR8.out.drewN q9).below hb10)
        have HX10 := Lib.hid ((HX8.out.drewN q9).below hb10)
        have r10 := (hb10.block _ (blk_lt r8)).trans r8
        have c10 := cell_of_row _ _ 0 _ _ _ r10
        dsimp at c10
        have l10 := blk_lt r10
        clear hb10 r8 HR8 HX8 HB8a
        have R10 := Lib.hid r10
        clear r10
        go_wp2_with fail
        refine (HLR.out _ HR10.out).mono ?_
        rintro e w11 ⟨rfl, q11, rfl⟩
        clear HLR
        have hfv : fv = true ∨ fv = false := by cases fv <;> simp
        rcases hfv with hfv | hfv
        case' inl =>
          subst hfv
          obtain ⟨rfl, hx2⟩ := HLB.out rfl
          have hx3 := hx2.symm
          subst hx3
          clear hx2
          have ec : ((0 : Nat) : Int) = 0 := rfl
          rw [ec] at c10
          clear HLB ec
          go_wp2_with fail
          rw [HNN.out]
          refine (texts_same B8 A xs.length d8 c xs (w10.drewN q11) (HX10.out.drewN q11) (HR10.out.drewN q11) rfl (by have := HN.out; omega)).mono ?_
          rintro e w12 ⟨rfl, q12, rfl⟩
          rw [← HNN.out]
        case' inr =>
          subst hfv
          clear HLB
        all_goals
          clear c10 HX10
          have hbv : bv = true ∨ (bv = false ∧ xs = []) ∨ (bv = false ∧ xs ≠ []) := by
            cases bv
            · by_cases hx0 : xs = []
              · exact .inr (.inl ⟨rfl, hx0⟩)
              · exact .inr (.inr ⟨rfl, hx0⟩)
            · exact .inl rfl
          rcases hbv with rfl | ⟨rfl, hx0⟩ | ⟨rfl, hx0⟩
          · clear HFB HFJ HLW
            go_wp2
            go_ret
            exact ⟨rfl, over HB10.out⟩
          · have hj0 : (j : Int) = 0 := by have := HNN.out; rw [hx0] at this; simp at this; omega
            have hj1 : ((j : Int) == 0) = true := by simpa using hj0
            clear HFB HFJ HLW hx0
            go_wp2
            go_ret
            exact ⟨rfl, over HB10.out⟩
          · have hj0 : ¬ (j : Int) = 0 := by
              intro e
              have := HNN.out
              exact hx0 (List.eq_nil_of_length_eq_zero (by omega))
            have hj1 : ((j : Int) == 0) = false := by simpa using hj0
            have hfj := HFB.out rfl hx0
            rw [hfj] at HFJ
            clear HFB hx0 hfj
            go_wp2_with fail
            refine (HLW.out _ (HR10.out.drewN _)).mono ?_
            rintro e w13 ⟨rfl, hb13⟩
            have HB13 := Lib.hid (then' (over HB10.out) hb13)
            have HR13 := Lib.hid ((HR10.out.drewN _).below hb13)
            clear hb13 HLW
            go_wp2_with fail
            refine (HFJ.out _ (Tabs.below HT.out HB13.out)).mono ?_
            rintro e w14 ⟨⟨a14, c14, rfl, -, hr14⟩, hb14⟩
            have HB14 := Lib.hid (then' HB13.out hb14)
            have HR14 := Lib.hid (HR13.out.below hb14)
            have HX14 := Lib.hid hr14
            clear hb14 hr14 HFJ HB13 HR13
            go_wp2_with fail
            rw [HNN.out]
            refine (texts_same _ A xs.length c14 c xs w14 HX14.out HR14.out rfl (by have := HN.out; omega)).mono ?_
            rintro e w15 ⟨rfl, q15, rfl⟩
            go_wp2
            go_ret
            exact ⟨rfl, over HB14.out⟩
end Go.Proofs.YtcpjllkfgoaamaaDoor.wordBack

/-
  Layer 4: the number whose text it is: the program's answer, and the reference's.
-/
import Derived.Test.YtcpjllkfgoaamaaDoorDigits
import Derived.Test.YtcpjllkfgoaamaaDoorDec
namespace Go.Proofs.YtcpjllkfgoaamaaDoor.word
open Go.RowKit Go.Shelf
open Go.Proofs.YtcpjllkfgoaamaaDoor.num Go.Proofs.YtcpjllkfgoaamaaDoor.words Go.Proofs.YtcpjllkfgoaamaaDoor.give Go.Proofs.YtcpjllkfgoaamaaDoor.write Go.Proofs.YtcpjllkfgoaamaaDoor.dec

theorem all_isD (s : ByteArray) : (N s).all digitB = s.data.toList.all isD := by
  unfold N
  rw [List.all_map]
  rfl
/-- what Parse answers of a text -/
def parseB (s : ByteArray) : Nat × Nat := parseD s.data.toList
theorem okD_eq (s : ByteArray) : okD s.data.toList = (!s.data.toList.isEmpty && (N s).all digitB && !(decide (1 < s.size) && decide (s.data.toList.head?.map (·.toNat) = some 48))) := by
  rw [all_isD]
  unfold okD
  rw [show s.data.toList.length = s.size by rw [Array.length_toList]; rfl]
theorem no_parse {s : ByteArray} (h : okD s.data.toList = false) : parseB s = (0, 1) := by
  unfold parseB parseD; rw [h]; rfl
theorem a_parse {s : ByteArray} (h : okD s.data.toList = true) : parseB s = if 65536 < val s.data.toList then (0, 12) else (val s.data.toList, 0) := by
  unfold parseB parseD; rw [h]; rfl
def parseV (s : ByteArray) : Value := .tuple #[.int .i64 ((parseB s).1 : Int), .int .i64 ((parseB s).2 : Int)]
theorem head_of {s : ByteArray} (h : 0 < s.size) : s.data.toList.head?.map (·.toNat) = some (s[0]'h).toNat := by
  have h1 : 0 < s.data.toList.length := by rw [Array.length_toList]; exact h
  rw [List.head?_eq_getElem?, List.getElem?_eq_getElem h1]
  rfl
theorem zero_text {s : ByteArray} (h : 0 < s.size) (h1 : ¬ 1 < s.size) (h48 : (s[0]'h).toNat = 48) : s.toList = [48] := by
  have h2 := head_of h
  rw [Lib.toList_data]
  have hl : s.data.toList.length = 1 := by rw [Array.length_toList]; show s.size = 1; omega
  obtain ⟨c, e⟩ := List.length_eq_one_iff.1 hl
  rw [e] at h2 ⊢
  rw [h48] at h2
  simp at h2
  rw [show c = 48 from UInt8.toNat_inj.1 (by rw [h2]; rfl)]
theorem not_zero_text {s : ByteArray} (h1 : 1 < s.size) : ¬ s.toList = [48] := by
  intro e
  have := congrArg List.length e
  rw [Lib.toList_data, Array.length_toList] at this
  change s.size = 1 at this
  omega
structure Errs (w : World) : Prop where
  ev : ∃ ev, w.cell? ⟨2, 0, none⟩ = some ev ∧ (ev = .nilIface ∨ ∃ te pe, ev = .iface te pe)
theorem bytes_below (w : World) (e : TypeId) (t : ByteArray) : Below w.heap.size w (Lib.bytesWorld w e t) :=
  ⟨rfl, rfl, rfl, by rw [Lib.bytesWorld_size]; omega, fun j hj => Lib.bytesWorld_at_old w e t j hj⟩
theorem atoi_ok (s : ByteArray) (hs : s.size ≤ 65536) (v : Int) (h : Lib.atoiAll s.data.toList = .ok v) (w : World) :
    Calls Tryd.prog 34 #[.string s] w fun e w' => e = .returned (.tuple #[.int .i64 v, .nilIface]) ∧ Below w.heap.size w w' := by
  refine (Tryd.strconv_Atoi_ok s (by omega) v h w).mono ?_
  rintro e w' ⟨rfl, rfl | ⟨t, rfl⟩⟩
  · exact ⟨rfl, Below.refl _ _⟩
  · exact ⟨rfl, bytes_below _ _ _⟩
theorem atoi_range (s : ByteArray) (hs : s.size ≤ 65536) (h : Lib.atoiAll s.data.toList = .range) (w : World) (he : Errs w) :
    Calls Tryd.prog 34 #[.string s] w fun e w' => (∃ z N, e = .returned (.tuple #[.int .i64 z, .iface 85 (.pointer (some ⟨N, 0, none⟩))])) ∧ Below w.heap.size w w' := by
  obtain ⟨ev, hv, hev⟩ := he.ev
  refine (Tryd.strconv_Atoi_range s (by omega) h _ w hv hev).mono ?_
  rintro e w' ⟨N, rfl, _, _, hb⟩
  exact ⟨⟨_, N, rfl⟩, hb⟩
theorem Errs.below {w w' : World} (h : Errs w) (hb : Below w.heap.size w w') : Errs w' := by
  obtain ⟨ev, hv, hev⟩ := h.ev
  exact ⟨ev, (hb.cell (p := ⟨2, 0, none⟩) (Lib.lt_of_cell hv)).trans hv, hev⟩
theorem val_zero {s : ByteArray} (h : s.toList = [48]) : val s.data.toList = 0 := by
  rw [← Lib.toList_data, h]; rfl

set_option maxRecDepth 100000 in
set_option maxHeartbeats 2000000 in
theorem parse_w (s : ByteArray) (hs : s.size ≤ 65536) (w : World) (ht : w.var? Tryd.prog "internal/strconv.uint64pow10" = some (Lib.pow10Tab.map fun z => Value.int .u64 z).toArray) (he : Errs w) :
    Calls Tryd.prog 18 #[.string s] w fun e w' => e = .returned (parseV s) ∧ Below w.heap.size w w' := by
  have HE := Lib.hid (okD_eq s)
  have HV := Lib.hid (show parseV s = .tuple #[.int .i64 ((parseB s).1 : Int), .int .i64 ((parseB s).2 : Int)] from rfl)
  have HN := Lib.hid (no_parse (s := s)); have HP := Lib.hid (a_parse (s := s))
  have HD := Lib.hid (digits_w 0 (by omega) (by omega) w ht)
  rw [itoa0] at HD
  have HA := Lib.hid (all_w s digitB 33 w (by omega) (fun c w _ => digit_w c w) (fun _ _ => rfl))
  have HO := Lib.hid (atoi_ok s hs)
  have HR := Lib.hid (atoi_range s hs)
  have HAT := Lib.hid (fun h1 h2 => atoiAll_digits s.data.toList h1 h2)
  have HERR := Lib.hid he
  have HAL := Lib.hid (all_isD s)
  have hs8 : s.data.toList.length = s.size := by rw [Array.length_toList]; rfl
  have HS8 := Lib.hid hs8
  clear ht he hs8
  by_cases h0 : s.size = 0
  · obtain rfl : s = ⟨#[]⟩ := ByteArray.ext (Array.size_eq_zero_iff.1 h0)
    rw [HV.out, HN.out (by rw [HE.out]; rfl)]
    clear h0 HD HA HO HR HE HV HN HP HAT HERR HAL HS8
    go_enter Tryd.func18, Tryd.ntmps18
    go_wp2
    go_ret2
    exact ⟨rfl, Below.refl _ _⟩
  have hne := not_empty h0
  have hne3 : ¬ s.toList = [] := by intro e; rw [e] at hne; cases hne
  have hpos : 0 < s.size := by omega
  have hposI : (0 : Int) < (s.size : Int) := by omega
  have HL0 := Lib.hid (show s.data.toList.isEmpty = false by rw [← Lib.toList_data]; exact hne)
  cases hall : (N s).all digitB with
  | false =>
    rw [HV.out, HN.out (by rw [HE.out, hall]; simp)]
    rw [hall] at HA
    clear hall HD HO HR HE HV HN HP HAT HERR HAL HS8 HL0
    go_enter Tryd.func18, Tryd.ntmps18
    go_wp2_with fail
    refine HA.out.mono ?_
    rintro e w' ⟨rfl, rfl⟩
    clear HA
    go_wp2
    go_ret2
    exact ⟨rfl, Below.refl _ _⟩
  | true =>
    rw [hall] at HA
    have HH := Lib.hid (head_of hpos)
    by_cases h48 : (s[0]'hpos).toNat = 48 ∧ 1 < s.size
    · rw [HV.out, HN.out (by rw [HE.out, HH.out, h48.1, decide_eq_true h48.2]; simp)]
      have hz := not_zero_text h48.2
      have hzb : (s.toList == [48]) = false := by simpa using hz
      have hcI : ((s[0]'hpos).toNat : Int) = 48 := by omega
      clear hall HO HR HE HV HN HP HAT HERR HAL HS8 HL0 HH h48
      go_enter Tryd.func18, Tryd.ntmps18
      go_wp2_with fail
      refine HA.out.mono ?_
      rintro e w' ⟨rfl, rfl⟩
      clear HA
      go_wp2_with fail
      refine HD.out.mono ?_
      rintro e w' ⟨rfl, hb⟩
      have HB := Lib.hid hb
      clear hb HD
      go_wp2
      go_ret2
      exact ⟨rfl, HB.out⟩
    · have hok : okD s.data.toList = true := by
        rw [HE.out, hall, HL0.out, HH.out]
        by_cases h1 : 1 < s.size
        · have : ¬ (s[0]'hpos).toNat = 48 := fun e => h48 ⟨e, h1⟩
          simp [this]
        · simp [h1]
      have hat := HAT.out (by intro e; have := HS8.out; rw [e] at this; simp at this; omega) (HAL.out ▸ hall)
      have hpp := HP.out hok
      by_cases hz : (s[0]'hpos).toNat = 48
      · have hzt := zero_text hpos (fun h1 => h48 ⟨hz, h1⟩) hz
        have hv := val_zero hzt
        rw [hv] at hat hpp
        have HO2 := Lib.hid (fun w => HO.out 0 (by rw [hat]; rfl) w)
        rw [HV.out, hpp]
        have hzb : (s.toList == [48]) = true := by rw [hzt]; rfl
        have hcI : ((s[0]'hpos).toNat : Int) = 48 := by omega
        clear hall HO HR HE HV HN HP HAT HERR HAL HS8 HL0 HH h48 hat hpp hv hok hz
        go_enter Tryd.func18, Tryd.ntmps18
        go_wp2_with fail
        refine HA.out.mono ?_
        rintro e w' ⟨rfl, rfl⟩
        clear HA
        go_wp2_with fail
        refine HD.out.mono ?_
        rintro e w1 ⟨rfl, hb⟩
        have HB := Lib.hid hb
        clear hb HD
        go_wp2_with fail
        refine (HO2.out _).mono ?_
        rintro e w2 ⟨rfl, hb2⟩
        have HB2 := Lib.hid (then' HB.out hb2)
        clear hb2 HO2
        go_wp2
        go_ret2
        exact ⟨rfl, HB2.out⟩
      · have hcI : ¬ ((s[0]'hpos).toNat : Int) = 48 := by omega
        have hcB : (((s[0]'hpos).toNat : Int) == 48) = false := by simpa using hcI
        by_cases hbig : val s.data.toList < 9223372036854775808
        · rw [if_pos hbig] at hat
          have HO2 := Lib.hid (fun w => HO.out _ hat w)
          generalize hvv : val s.data.toList = v at *
          by_cases hmax : 65536 < v
          · rw [if_pos hmax] at hpp
            rw [HV.out, hpp]
            have hmI : (65536 : Int) < (v : Int) := by omega
            clear hall HO HR HE HV HN HP HAT HERR HAL HS8 HL0 HH h48 hat hpp hok hz hvv hbig hmax HD
            go_enter Tryd.func18, Tryd.ntmps18
            go_wp2_with fail
            refine HA.out.mono ?_
            rintro e w' ⟨rfl, rfl⟩
            clear HA
            go_wp2_with fail
            refine (HO2.out _).mono ?_
            rintro e w2 ⟨rfl, hb2⟩
            have HB2 := Lib.hid hb2
            clear hb2 HO2
            go_wp2
            go_ret2
            exact ⟨rfl, HB2.out⟩
          · rw [if_neg hmax] at hpp
            rw [HV.out, hpp]
            have hmI : ¬ (65536 : Int) < (v : Int) := by omega
            clear hall HO HR HE HV HN HP HAT HERR HAL HS8 HL0 HH h48 hat hpp hok hz hvv hbig hmax HD
            go_enter Tryd.func18, Tryd.ntmps18
            go_wp2_with fail
            refine HA.out.mono ?_
            rintro e w' ⟨rfl, rfl⟩
            clear HA
            go_wp2_with fail
            refine (HO2.out _).mono ?_
            rintro e w2 ⟨rfl, hb2⟩
            have HB2 := Lib.hid hb2
            clear hb2 HO2
            go_wp2
            go_ret2
            exact ⟨rfl, HB2.out⟩
        · rw [if_neg hbig] at hat
          have HO2 := Lib.hid (fun w he => HR.out hat w he)
          rw [if_pos (by omega)] at hpp
          rw [HV.out, hpp]
          have hnn : ∀ (N : Nat) (w : World), (binOp .neq 52 (.iface 85 (.pointer (some ⟨N, 0, none⟩))) .nilIface).run Tryd.prog w = .ok (.bool true) w := fun _ _ => by kernel_rfl
          clear hall HO HR HE HV HN HP HAT HAL HS8 HL0 HH h48 hat hpp hok hz hbig HD
          go_enter Tryd.func18, Tryd.ntmps18
          go_wp2_with fail
          refine HA.out.mono ?_
          rintro e w' ⟨rfl, rfl⟩
          clear HA
          go_wp2_with fail
          refine (HO2.out _ HERR.out).mono ?_
          rintro e w2 ⟨⟨z, N, rfl⟩, hb2⟩
          have HB2 := Lib.hid hb2
          clear hb2 HO2
          go_wp2
          go_ret2
          exact ⟨rfl, HB2.out⟩
end Go.Proofs.YtcpjllkfgoaamaaDoor.word

/-
  The walk of TopLines: a text's lines, written into a section, are read from it, and come to the text again.
-/
import Derived.Test.YtcpjllkfgoaamaaDoorTopLinesN
namespace Go.Proofs.YtcpjllkfgoaamaaDoor.topLines
open Go.RowKit Go.Shelf
open Go.Proofs.YtcpjllkfgoaamaaDoor.num Go.Proofs.YtcpjllkfgoaamaaDoor.words Go.Proofs.YtcpjllkfgoaamaaDoor.rdnum Go.Proofs.YtcpjllkfgoaamaaDoor.rdr Go.Proofs.YtcpjllkfgoaamaaDoor.give Go.Proofs.YtcpjllkfgoaamaaDoor.meth Go.Proofs.YtcpjllkfgoaamaaDoor.sealing Go.Proofs.YtcpjllkfgoaamaaDoor.write Go.Proofs.YtcpjllkfgoaamaaDoor.word Go.Proofs.YtcpjllkfgoaamaaDoor.backL Go.Proofs.YtcpjllkfgoaamaaDoor.piece

structure Have (w : World) : Prop where
  tab : crc.Tab w
  room : 0 < w.heap.size
  len : ∃ m, w.cell? ⟨0, 0, none⟩ = some (.int .i64 m)
theorem Have.below {w w' : World} (h : Have w) (hb : Below w.heap.size w w') : Have w' := by
  obtain ⟨m, hm⟩ := h.len
  exact ⟨h.tab.below hb, Nat.lt_of_lt_of_le h.room hb.size, m, (hb.cell (p := ⟨0, 0, none⟩) h.room).trans hm⟩
theorem lines_wm (s : ByteArray) (hs : s.size ≤ 65536) (w : World) (h : Have w) : Calls Tryd.prog 9 #[.string s] w (LA s w) := by
  obtain ⟨m, hm⟩ := h.len
  exact ((callsIn_wide (n := 3)).1 (linesW_in s hs m w h.room hm)).mono fun _ _ hp => la_of hp
theorem all_take {xs : List ByteArray} {i : Nat} {x : ByteArray} (h : ∀ y ∈ xs.take i, y.size ≤ 64) (hx : xs[i]? = some x) (h64 : x.size ≤ 64) : ∀ y ∈ xs.take (i + 1), y.size ≤ 64 := by
  intro y hy
  rw [List.take_add_one, hx] at hy
  rcases List.mem_append.1 hy with hy | hy
  · exact h y hy
  · simp at hy; rw [hy]; exact h64
theorem wireL_le {xs : List ByteArray} {n : Nat} (h : ∀ y ∈ xs.take n, y.size ≤ 64) : (wireL (xs.take n)).length ≤ tot xs + xs.length := by
  rw [wireL_len _ h]
  have h1 : tot (xs.take n) ≤ tot xs := by
    unfold tot
    conv => rhs; rw [← List.take_append_drop n xs, List.map_append, List.sum_append]
    omega
  have h2 : (xs.take n).length ≤ xs.length := by rw [List.length_take]; omega
  omega
set_option maxRecDepth 100000 in
theorem infoB : (Tryd.prog.info? 5).map (fun i => (i.zero, i.size, i.bytes)) = some (some (.int .u8 0), 1, 1) := by kernel_rfl

set_option maxRecDepth 100000 in
set_option maxHeartbeats 8000000 in
theorem lines_any (s : ByteArray) (hs : s.size ≤ 9000) (w : World) (hv : Have w) :
    Calls Tryd.prog 22 #[.string s] w fun e w' => e = .returned (.bool true) ∧ Below w.heap.size w w' := by
  obtain ⟨i0, hi0, hz0, hz1, hz2⟩ := info_parts infoB
  obtain ⟨j0, hj0, hy0, hy1, hy2⟩ := info_parts infoS
  have HV := Lib.hid hv
  have HP := Lib.hid (fun w (h : Have w) => lines_wm s (by omega) w h)
  have HBY := Lib.hid (fun h => bytes_of (s := s) h)
  have HTB := Lib.hid (fun h => text_back (s := s) h)
  have HS := Lib.hid hs
  unfold LA at HP
  clear hv hs
  generalize lineErr s = er at *
  generalize lineAt s = la at *
  generalize lineTx s = xs at *
  go_enter Tryd.func22, Tryd.ntmps22
  go_wp2_with fail
  refine (HP.out _ HV.out).mono ?_
  rintro e w1 ⟨⟨A, c, rfl, -, hrA⟩, hb1⟩
  have HB1 := Lib.hid hb1
  have HB2 := Lib.hid (HB1.out.alloc HB1.out.size (Obj.cells #[.int .i64 (er : Int), .int .i64 (la : Int)] 27))
  have kb := (Below.refl w1.heap.size w1).alloc (Nat.le_refl _) (Obj.cells #[.int .i64 (er : Int), .int .i64 (la : Int)] 27)
  have HRA := Lib.hid (hrA.below kb)
  have hsz2 := HB2.out.size
  clear hrA hb1 HP kb HB1
  obtain ⟨n, hn⟩ : ∃ n, n = xs.length := ⟨_, rfl⟩
  rw [← hn]
  have HN := Lib.hid hn
  clear hn
  by_cases he : er = 0
  · subst he
    have HSUM := Lib.hid (HBY.out rfl)
    have HTX := Lib.hid (HTB.out rfl)
    have hnI : (n : Int) ≤ 9000 := by have := HSUM.out; have := HS.out; have := HN.out; omega
    have e00 : ((0 : Nat) : Int) = 0 := rfl
    rw [e00] at HB2 HRA hsz2
    rw [e00]
    clear HBY HTB e00
    go_wp2
    generalize w1.alloc (Obj.cells #[.int .i64 0, .int .i64 (la : Int)] 27) = w2 at *
    go_loopw [5, 6] (fun v i wr => ∃ j : Nat, i = .int .i64 (j : Int) ∧ j ≤ n ∧ (∀ y ∈ xs.take j, y.size ≤ 64) ∧ wr.ownsRow w2.heap.size 5 1 v (wireL (xs.take j)).length (B (wireL (xs.take j))) ∧ Below w2.heap.size w2 wr) (fun _ i _ => n - (intOf i).toNat)
    case atStart => exact ⟨0, rfl, Nat.zero_le _, by simp, World.ownsRow_nil _ _ _ _, Below.refl _ _⟩
    case round =>
      obtain ⟨j, rfl, hj, h64, hown, hb⟩ := hrel
      have H64 := Lib.hid h64; have HO := Lib.hid hown; have HB := Lib.hid hb
      have hsz := hb.size
      clear h64 hown
      by_cases hlt : j < n
      · have hltI : (j : Int) < (n : Int) := by omega
        obtain ⟨x, hx⟩ : ∃ x, xs[j]? = some x := ⟨xs[j]'(by rw [← HN.out]; exact hlt), List.getElem?_eq_getElem _⟩
        obtain ⟨a, rfl, _, hcell⟩ := rd_cell (HRA.out.below hb) hx
        have HX := Lib.hid hx
        clear hx hb
        by_cases hbig : 64 < x.size
        · have hbI : (64 : Int) < (x.size : Int) := by omega
          clear hbig
          go_wp2
          go_ret
          exact ⟨rfl, HB2.out.trans (HB.out.mono hsz2)⟩
        · have hbI : ¬ (64 : Int) < (x.size : Int) := by omega
          have H64n := Lib.hid (all_take H64.out HX.out (by omega))
          have hle := wireL_le H64n.out
          have hle0 := wireL_le H64.out
          have hwt := wireL_take HX.out
          rw [hwt, List.length_append] at hle
          have HLE := Lib.hid hle; have HWT := Lib.hid hwt
          have hsum : tot xs + xs.length ≤ 9000 := by have := HSUM.out; have := HS.out; omega
          have HT := Lib.hid (fun w1 => text_w x w1 (by omega))
          clear hle hwt hbig
          go_wp2_with fail
          refine (HT.out _).mono ?_
          rintro e w3 ⟨v3, rfl, hown3, hb3⟩
          obtain ⟨A3, c3, rfl, _, _, hrd3⟩ := own_rd hown3
          have hown1 := own_below HO.out hb3
          have hb4 := HB.out.trans (hb3.mono hsz)
          have HB4 := Lib.hid hb4
          have hsz3 := hb4.size
          clear hown3 hb3 hb4 HT
          go_wp2_with (at_builtin; refine wpList_app _ rfl (.tmp 30) (.tmp 35) _ rfl w2.heap.size 5 i0 _ 1 1 Tryd.underlying48 hi0 hz0 hz1 hz2 rfl (by omega) _ _ _ rfl hown1 A3 (write.textL (N x)).length c3 (B (write.textL (N x))) rfl (by rw [B_len]; omega) hrd3 (B_one _) (by have := HLE.out; simp only [maxLen]; omega) (by have := HLE.out; omega) hsz3 ?_; intro v4 w4 hown4 hg4 hb4 hat4; clear hg4 hat4)
          have hown5 : w4.ownsRow w2.heap.size 5 1 v4 (wireL (xs.take (j + 1))).length (B (wireL (xs.take (j + 1)))) := by
            rw [HWT.out, List.length_append, B_app]; exact hown4
          have HB5 := Lib.hid (HB4.out.trans hb4)
          clear hown4 hb4 hrd3 hown1 hsum
          go_roundw
          case rel => exact ⟨j + 1, by go_num, by omega, H64n.out, hown5, HB5.out⟩
          case measure => simp [intOf]; omega
      · have hltI : ¬ (j : Int) < (n : Int) := by omega
        obtain rfl : j = n := by omega
        have htk : xs.take j = xs := List.take_of_length_le (by rw [← HN.out]; exact Nat.le_refl _)
        have hown := HO.out
        have h64 := H64.out
        rw [htk] at hown h64
        have HT64 := Lib.hid h64
        have hwl := wireL_len xs h64
        have hle : (wireL xs).length ≤ 9000 := by rw [hwl]; have := HSUM.out; have := HS.out; omega
        obtain ⟨b, hbb⟩ : ∃ b, b = wireL xs := ⟨_, rfl⟩
        have hby := wireL_byte xs
        rw [← hbb] at hown hle hby
        have HBB := Lib.hid hbb
        have HLE := Lib.hid hle
        obtain ⟨A7, c7, rfl, _, _, hrd7⟩ := own_rd hown
        have HB7 := Lib.hid (HB2.out.trans (HB.out.mono hsz2))
        obtain ⟨p0, m, t, e1, e2, e3⟩ := sect_at b (by omega)
        have HSW := Lib.hid (sect_w 3 A7 b.length c7 b wr (HV.out.tab.below HB7.out) hrd7 rfl (by omega) hby)
        have HSL := Lib.hid (sect_len b (by omega)); have HSB := Lib.hid (sect_byte hby)
        have E1 := Lib.hid e1; have E2 := Lib.hid e2; have E3 := Lib.hid e3
        have hblI : ¬ (65536 : Int) < (b.length : Int) := by omega
        clear htk hown h64 hwl hle hby hbb e1 e2 e3 hrd7 HO H64 HB hb HRA
        go_wp2_with fail
        refine HSW.out.mono ?_
        rintro e w8 ⟨v8, rfl, hown8, hb8⟩
        obtain ⟨A8, c8, rfl, _, _, hrd8⟩ := own_rd hown8
        have HB8 := Lib.hid (then' HB7.out hb8)
        have HR8 := Lib.hid hrd8
        clear hown8 hb8 hrd8 HB7 HSW
        go_wp2_with fail
        refine (open_w A8 _ c8 (sectL 3 b) w8 HR8.out rfl HSL.out HSB.out).mono ?_
        rintro e w9 ⟨g, rfl, hg, hr9, hb9⟩
        have HB9 := Lib.hid (then' HB8.out hb9)
        have hgw : w.heap.size ≤ g := Nat.le_trans HB8.out.size hg
        have HR9 := Lib.hid hr9
        clear hr9 hb9 HB8 HR8 hg
        go_wp2_with fail
        have k1 := sect_m g _ 3 w9 (HV.out.tab.below HB9.out) HR9.out
        dsimp only at k1
        rw [E1.out] at k1
        refine k1.mono ?_
        rintro e w10 ⟨hx, hr10, hb10⟩
        rcases hx with ⟨_, _, q, rfl, hq, hrq⟩ | ⟨hx, _⟩
        rotate_left
        · rcases hx with hx | hx
          · exact absurd rfl hx
          · exact absurd rfl hx
        dsimp only at hrq
        rw [E2.out, E3.out] at hrq
        have hqw : w.heap.size ≤ q := Nat.le_trans HB9.out.size hq
        have HB10 := Lib.hid (HB9.out.trans (hb10.below hgw HB9.out.size))
        have hposs := posP_zero xs
        rw [← HBB.out] at hposs
        rw [← hposs, HBB.out] at hrq
        have HQ := Lib.hid hrq
        have hnpos : ∀ i, posP xs i ≤ 9223372036854775807 → True := fun _ _ => trivial
        clear k1 hrq hr10 hb10 hq HB9 HR9 hposs E1 E2 E3 HSL HSB hnpos
        have e0 : (s.toList == s.toList) = true := by simp
        go_wp2
        go_loopw [8, 9] (fun v i wr => ∃ k : Nat, i = .int .i64 (k : Int) ∧ k ≤ j ∧ wr.ownsRow w10.heap.size 9 1 v (xs.take k).length (texts.S (xs.take k)) ∧ RW wr q ⟨inner (wireL xs), posP xs k, 0, 0⟩ ∧ Below w.heap.size w wr ∧ w10.heap.size ≤ wr.heap.size) (fun _ i _ => j - (intOf i).toNat)
        case atStart => exact ⟨0, rfl, Nat.zero_le _, World.ownsRow_nil _ _ _ _, HQ.out, HB10.out, Nat.le_refl _⟩
        case round =>
          obtain ⟨k, rfl, hk, hown, hrw, hb, hsz⟩ := hrel
          have HO := Lib.hid hown; have HR := Lib.hid hrw; have HB := Lib.hid hb
          have hbs := hb.size
          clear hown hrw hb
          by_cases hlt2 : k < j
          · have hltI2 : (k : Int) < (j : Int) := by omega
            obtain ⟨x, hx⟩ : ∃ x, xs[k]? = some x := ⟨xs[k]'(by rw [← HN.out]; exact hlt2), List.getElem?_eq_getElem _⟩
            have htx := text_at hx (HT64.out x (List.mem_of_getElem? hx))
            have HX := Lib.hid (show xs.take (k + 1) = xs.take k ++ [x] by rw [List.take_add_one, hx]; rfl)
            have k2 := text_m q _ wr HR.out
            dsimp only at k2
            rw [htx] at k2
            have K2 := Lib.hid k2
            clear htx hx k2
            go_wp2_with fail
            refine K2.out.mono ?_
            rintro e w12 ⟨rfl, hq12, hb12⟩
            rw [show give.S ((Rs.mk (inner (wireL xs)) (posP xs k) 0 0).ans (Rr.mk (N x) (posP xs (k + 1)) 0 0) []) = .string x from S_N x]
            rw [show (Rs.mk (inner (wireL xs)) (posP xs k) 0 0).go (Rr.mk (N x) (posP xs (k + 1)) 0 0) = ⟨inner (wireL xs), posP xs (k + 1), 0, 0⟩ from rfl] at hq12
            have hown12 := own_but HO.out HR.out hb12
            have HB12 := Lib.hid (HB.out.trans (hb12.below hqw hbs))
            have hsz12 : w10.heap.size ≤ w12.heap.size := Nat.le_trans hsz hb12.size
            have HQ12 := Lib.hid hq12
            have HO12 := Lib.hid hown12
            have hlk : (xs.take k).length = k := by rw [List.length_take, ← HN.out]; omega
            clear hq12 hb12 K2 hown12
            go_wp2_with (at_builtin; refine wpList_app _ rfl (.tmp 52) (.tmp 55) _ rfl w10.heap.size 9 j0 _ 1 16 Tryd.underlying24 hj0 hy0 hy1 hy2 rfl (by omega) _ _ _ rfl (HO12.out.alloc _) _ 1 1 [_] rfl rfl (rd_blk (heap_alloc_new w12 _) (k := 1) rfl) (by simp [Value.oneCell']) (by simp only [maxLen]; omega) (by omega) (by simp; omega) ?_; intro v4 w4 hown4 hg4 hb4 hat4; clear hat4)
            have hr4 := RW.app HQ12.out HO12.out hg4
            have hown5 : w4.ownsRow w10.heap.size 9 1 v4 (xs.take (k + 1)).length (texts.S (xs.take (k + 1))) := by
              rw [HX.out, List.length_append, texts.S_app]; exact hown4
            have hs12 := HB12.out.size
            have hb5 : Below w.heap.size w w4 := (HB12.out.alloc hs12 _).trans (hb4.mono (Nat.le_trans HB10.out.size (Nat.le_refl _)))
            have hsz4 : w10.heap.size ≤ w4.heap.size := by have := hb4.size; simp at this; omega
            clear hown4 hb4 hg4
            go_roundw
            case rel => exact ⟨k + 1, by go_num, by omega, hown5, hr4, hb5, hsz4⟩
            case measure => simp [intOf]; omega
          · have hltI2 : ¬ (k : Int) < (j : Int) := by omega
            obtain rfl : k = j := by omega
            have htk2 : xs.take k = xs := List.take_of_length_le (by rw [← HN.out]; exact Nat.le_refl _)
            have hown := HO.out
            rw [htk2] at hown
            have k5 := end_m q _ wr HR.out
            dsimp only at k5
            rw [HN.out, end_at xs] at k5
            have K5 := Lib.hid k5
            have HOX := Lib.hid hown
            obtain ⟨A9, c9, rfl, hc9, _, _⟩ := own_rd hown
            clear hown htk2 k5 HO hc9
            go_wp2_with fail
            refine K5.out.mono ?_
            rintro e w15 ⟨rfl, hq15, hb15⟩
            rw [show (fun x : Nat => Value.bool (x == 1)) ((Rs.mk (inner (wireL xs)) (posP xs xs.length) 0 0).ans (Rr.mk 1 (posP xs xs.length) 0 0) 0) = .bool true from rfl]
            have hown15 := own_but HOX.out HR.out hb15
            obtain ⟨A10, c10, hv10, _, _, hrd10⟩ := own_rd hown15
            cases hv10
            have HB15 := Lib.hid (HB.out.trans (hb15.below hqw hbs))
            have HTT := Lib.hid (feeds_w A9 c9 xs w15 hrd10 (by rw [text_len]; have := HSUM.out; have := HS.out; omega) (by have := HSUM.out; have := HS.out; omega))
            rw [HTX.out] at HTT
            clear hq15 hb15 hown15 hrd10 K5 HOX HB
            go_wp2_with fail
            refine HTT.out.mono ?_
            rintro e w16 ⟨rfl, hb16⟩
            have HB16 := Lib.hid (then' HB15.out hb16)
            clear hb16 HTT HB15
            go_wp2
            go_ret
            exact ⟨rfl, HB16.out⟩
  · have heI : ¬ (er : Int) = 0 := by omega
    have heB : ((er : Int) != 0) = true := by simpa using heI
    clear HBY HTB HRA
    go_wp2
    go_ret
    exact ⟨rfl, HB2.out⟩

set_option maxRecDepth 100000 in
set_option maxHeartbeats 2000000 in
theorem walk (s : ByteArray) (w : World) (_hs : s.size ≤ 140737488351232) (hv : Have w) :
    Calls Tryd.prog 6 #[.string s] w fun e w' => e = .returned (.bool true) ∧ Below w.heap.size w w' := by
  have HV := Lib.hid hv
  have HL1 := Lib.hid (lines_any ⟨#[97, 32, 98, 10, 10]⟩ (by decide) w hv)
  have HL2 := Lib.hid (fun (h : s.size ≤ 9000) w (hv : Have w) => lines_any s h w hv)
  have hd : piece.textL (D [⟨#[97]⟩]) = [97, 10] := by decide +kernel
  have HT := Lib.hid (fun A c w hr => feeds_w A c [⟨#[97]⟩] w hr (by rw [hd]; decide) (by decide))
  rw [hd] at HT
  clear hv hd _hs
  go_enter Tryd.func6, Tryd.ntmps6
  go_wp2_with fail
  refine HL1.out.mono ?_
  rintro e w1 ⟨rfl, hb1⟩
  have HB1 := Lib.hid hb1
  have HB2 := Lib.hid (HB1.out.alloc HB1.out.size (Obj.cells #[.string ⟨#[97]⟩] 9))
  have HRD := Lib.hid (rd_blk (xs := texts.S [⟨#[97]⟩]) (heap_alloc_new w1 (.cells #[.string ⟨#[97]⟩] 9)) (k := 1) rfl)
  clear hb1 HL1
  go_wp2_with fail
  refine (HT.out _ 1 _ HRD.out).mono ?_
  rintro e w2 ⟨rfl, hb2⟩
  have HB3 := Lib.hid (then' HB2.out hb2)
  clear hb2 HT HRD
  by_cases hg : (9000 : Int) < (s.size : Int)
  · go_wp2
    go_ret
    exact ⟨rfl, HB3.out⟩
  · have HL3 := Lib.hid (HL2.out (by omega))
    go_wp2_with fail
    refine (HL3.out _ (HV.out.below HB3.out)).mono ?_
    rintro e w3 ⟨rfl, hb3⟩
    have HB4 := Lib.hid (then' HB3.out hb3)
    clear hb3
    go_wp2
    go_ret
    exact ⟨rfl, HB4.out⟩
end Go.Proofs.YtcpjllkfgoaamaaDoor.topLines

/-
  The walk of TopTypes: a type's text, found in a pool that was written and read, is the type's.
-/
import Derived.Test.YtdenpefihplnoaaPoolTB
import Derived.Test.YtdenpefihplnoaaPoolF
import Derived.Test.YtdenpefihplnoaaKindB
import Derived.Deep.QuietTactic
import Derived.BigQuiet
namespace Go.Proofs.Ytdenpefihplnoaa.topTypes
open Go.RowKit Go.Maps
open Go.Proofs.Ytdenpefihplnoaa.num Go.Proofs.Ytdenpefihplnoaa.words Go.Proofs.Ytdenpefihplnoaa.poolp Go.Proofs.Ytdenpefihplnoaa.pool Go.Proofs.Ytdenpefihplnoaa.poolt Go.Proofs.Ytdenpefihplnoaa.rdnum Go.Proofs.Ytdenpefihplnoaa.rdr Go.Proofs.Ytdenpefihplnoaa.give Go.Proofs.Ytdenpefihplnoaa.meth Go.Proofs.Ytdenpefihplnoaa.write Go.Proofs.Ytdenpefihplnoaa.kindp Go.Proofs.Ytdenpefihplnoaa.kind

def good (t : Ty) : Bool := decide (t.2.length < 100) && rightT t
def gx (l : List Ty) : List Str := (l.filter good).map textT
theorem gx_in {l : List Ty} {k : Nat} {t : Ty} (h : l[k]? = some t) (hg : good t = true) : gx (l.take (k + 1)) = gx (l.take k) ++ [textT t] := by
  unfold gx; rw [List.take_add_one, h, List.filter_append]; simp [hg]
theorem gx_out {l : List Ty} {k : Nat} {t : Ty} (h : l[k]? = some t) (hg : good t = false) : gx (l.take (k + 1)) = gx (l.take k) := by
  unfold gx; rw [List.take_add_one, h, List.filter_append]; simp [hg]
theorem gx_len (l : List Ty) (k : Nat) : (gx (l.take k)).length ≤ k := by
  unfold gx; rw [List.length_map]
  have := List.length_filter_le good (l.take k)
  have h2 := List.length_take_le k l
  omega
theorem gx_mem {l : List Ty} {k : Nat} {t : Ty} (h : l[k]? = some t) (hg : good t = true) : textT t ∈ gx l :=
  List.mem_map.2 ⟨t, List.mem_filter.2 ⟨List.mem_of_getElem? h, hg⟩, rfl⟩
theorem text_small {t : Ty} (h : rightT t = true) : (textT t).length ≤ 64 := by
  rcases right_cases h with rfl | rfl | rfl | ⟨c, rfl, hc⟩ | ⟨c, rfl, hc⟩
  · decide
  · decide
  · decide
  · have := (cls_no hc).2.2
    rw [text3 hc]; simp; omega
  · have := (cls_no hc).2.2
    rw [text5 hc]; simp; omega
theorem bytes_small (p : List Str) (h : IsPool p) : (bytesL p).length ≤ 80000 ∧ ∀ c ∈ bytesL p, c < 256 := by
  have h1 := putL_len10 p.length (by have := h.2.1; omega)
  have h2 := bodyL_le p h.2.2
  have h3 := h.2.1
  refine ⟨by unfold bytesL; rw [List.length_append]; omega, fun c hc => ?_⟩
  unfold bytesL bodyL at hc
  rcases List.mem_append.1 hc with hc | hc
  · exact putL_byte _ c hc
  · obtain ⟨x, hx, hc⟩ := List.mem_flatten.1 hc
    obtain ⟨y, _, rfl⟩ := List.mem_map.1 hx
    unfold textL at hc
    rcases List.mem_append.1 hc with hc | hc
    · exact putL_byte _ c hc
    · unfold NL at hc
      obtain ⟨z, _, rfl⟩ := List.mem_map.1 hc
      exact z.toNat_lt
/-- Put of a pool -/
theorem put_p (A : Option Addr) (c : Nat) (p : List Str) (w : World) (hr : Rd w A (SL p)) (h : IsPool p) :
    Calls Try.prog 8 #[.slice A p.length c] w fun e w' => (∃ A' c', e = .returned (.tuple #[.slice A' (bytesL p).length c', .int .i64 0]) ∧ Rd w' A' (B (bytesL p))) ∧ Below w.heap.size w w' := by
  have hrb : rightB p = true := decide_eq_true h
  refine (pput_w A c p w hr (by have := h.2.1; omega) (fun x hx => by have := h.2.2 x hx; omega)).mono ?_
  rintro e w' ⟨⟨v, rfl, hown⟩, hb⟩
  unfold putB at hown
  unfold putE
  rw [if_pos hrb] at hown ⊢
  obtain ⟨A', c', rfl, _, _, hr'⟩ := own_rd hown
  exact ⟨⟨A', c', rfl, hr'⟩, hb⟩
theorem pool_right {p : List Str} (h : IsPool p) : rightB p = true := decide_eq_true h
theorem here {L : List Str} (hb : bad L = false) {x : Str} (hx : x ∈ L) : ∃ k, k < (makeL L).length ∧ (makeL L)[k]? = some x ∧ findI (makeL L) x = (k : Int) := by
  have hm : x ∈ makeL L := (mem_make hb).2 hx
  obtain ⟨k, hk⟩ := List.getElem?_of_mem hm
  refine ⟨k, ?_, hk, find_at (pool_right (make_pool L)) hk⟩
  rcases Nat.lt_or_ge k (makeL L).length with h | h
  · exact h
  · rw [List.getElem?_eq_none h] at hk; cases hk

theorem SL_one' (l : List Str) : ∀ u ∈ SL l, u.oneCell' = true := by
  intro u hu
  obtain ⟨x, _, rfl⟩ := List.mem_map.1 hu
  rfl
theorem lv1 : textT (5, [65]) = [91, 76, 65, 59] := by decide +kernel
theorem lv2 : rightB [[97], [98]] = true := by decide +kernel
set_option maxRecDepth 100000 in
set_option maxHeartbeats 1000000 in
theorem live03_w (w : World) : Calls Try.prog 4 #[] w fun e w' => e = .returned (.bool true) ∧ Below w.heap.size w w' := by
  have HT := Lib.hid (fun w => kind.text_w 5 [65] w (by decide))
  rw [lv1] at HT
  have HR := Lib.hid (fun A c w hr => pool.right_w A c [[97], [98]] w hr (by decide) (by decide))
  rw [lv2] at HR
  dsimp only [List.length_cons, List.length_nil] at HR
  go_enter Try.func4, Try.ntmps4
  go_wp2_with fail
  refine (HT.out _).mono ?_
  rintro e w1 ⟨rfl, hb1⟩
  have HB := Lib.hid (hb1.alloc hb1.size (.cells #[.string ⟨#[97]⟩, .string ⟨#[98]⟩] 9))
  have HN := Lib.hid (rd_blk (xs := SL [[97], [98]]) (heap_alloc_new w1 (.cells #[.string ⟨#[97]⟩, .string ⟨#[98]⟩] 9)) (k := 2) rfl)
  clear hb1
  go_wp2_with fail
  refine (HR.out _ _ _ HN.out).mono ?_
  rintro e w2 ⟨rfl, q, rfl⟩
  go_wp2
  go_ret
  exact ⟨rfl, over HB.out⟩

set_option maxRecDepth 100000 in
set_option maxHeartbeats 8000000 in
theorem walk (A : Option Addr) (cp : Nat) (l : List Ty) (C : Option Addr) (dp : Nat) (ss : List ByteArray) (w : World) (hr : Rd w A (TL l)) (_ : l.length ≤ cp) (hl : l.length * 24 ≤ 140737488351232) (hz : ∀ x ∈ l, x.2.length ≤ 140737488351232)
    (kr : Rd w C (texts.S ss)) (_ : ss.length ≤ dp) (kl : ss.length * 16 ≤ 140737488351232) (kz : ∀ x ∈ ss, x.size ≤ 140737488351232) (hm : Mx w) :
    Calls Try.prog 3 #[.slice A l.length cp, .slice C ss.length dp] w fun e w' => e = .returned (.bool true) ∧ Below w.heap.size w w' := by
  rw [S_SL] at kr
  obtain ⟨M, hM⟩ : ∃ M : List Str, M = ss.map (·.data.toList) := ⟨_, rfl⟩
  have hMl : ss.length = M.length := by rw [hM, List.length_map]
  rw [← hM] at kr
  have hMz : ∀ x ∈ M, x.length ≤ 140737488355328 := by
    intro x hx
    rw [hM] at hx
    obtain ⟨y, hy, rfl⟩ := List.mem_map.1 hx
    have := kz y hy
    rw [Array.length_toList]; show y.size ≤ _; omega
  rw [hMl] at kl ⊢
  clear hM hMl kz
  obtain ⟨n, hn⟩ : ∃ n, n = l.length := ⟨_, rfl⟩
  obtain ⟨m, hmm⟩ : ∃ m, m = M.length := ⟨_, rfl⟩
  have HLV := Lib.hid (fun w => live03_w w)
  have HN := Lib.hid hn; have HMM := Lib.hid hmm
  rw [← hn] at hl
  rw [← hmm] at kl
  rw [← hn, ← hmm]
  have HRD := Lib.hid hr; have HKR := Lib.hid kr; have HMX := Lib.hid hm
  have hnI : (n : Int) ≤ 140737488351232 := by omega
  have hmI : (m : Int) ≤ 140737488351232 := by omega
  by_cases h60 : 60 < n
  · have hI : (60 : Int) < (n : Int) := by omega
    clear hr kr hm hn hmm hz hMz hl kl
    go_enter Try.func3, Try.ntmps3
    go_wp2_with fail
    refine (HLV.out _).mono ?_
    rintro e w1 ⟨rfl, hb⟩
    have HB := Lib.hid hb
    clear hb
    go_wp2
    go_ret
    exact ⟨rfl, HB.out⟩
  have hI : ¬ (60 : Int) < (n : Int) := by omega
  by_cases h61 : 60 < m
  · have hI2 : (60 : Int) < (m : Int) := by omega
    clear hr kr hm hn hmm hz hMz hl kl
    go_enter Try.func3, Try.ntmps3
    go_wp2_with fail
    refine (HLV.out _).mono ?_
    rintro e w1 ⟨rfl, hb⟩
    have HB := Lib.hid hb
    clear hb
    go_wp2
    go_ret
    exact ⟨rfl, HB.out⟩
  have hI2 : ¬ (60 : Int) < (m : Int) := by omega
  obtain ⟨i0, hi0, hz0, hz1, hz2⟩ := info_parts infoS
  have HTY := Lib.hid hz
  have HMZ := Lib.hid hMz
  clear hr kr hm hn hmm hz hMz
  go_enter Try.func3, Try.ntmps3
  go_wp2_with (at_builtin; refine wpList_app _ rfl (.tmp 25) (.tmp 26) _ rfl w.heap.size 9 i0 _ 1 16 Try.underlying23 hi0 hz0 hz1 hz2 rfl (by omega) _ 0 [] rfl (World.ownsRow_nil _ _ _ _) C m dp (SL M) rfl (by rw [SL_len, HMM.out]; omega) HKR.out (SL_one' M) (by simp only [maxLen]; omega) (by omega) (by omega) ?_; intro v1 w1 hown1 hg1 hb1 hat1; clear hg1 hat1)
  obtain ⟨m0, hm0⟩ : ∃ m0, m0 = m := ⟨_, rfl⟩
  have hown2 : w1.ownsRow w.heap.size 9 1 v1 (M ++ gx (l.take 0)).length (SL (M ++ gx (l.take 0))) := by
    have e : M ++ gx (l.take 0) = M := by simp [gx]
    rw [e, ← HMM.out]
    rw [Nat.zero_add, List.nil_append] at hown1
    exact hown1
  have HO1 := Lib.hid hown2; have HB1 := Lib.hid hb1
  clear hown1 hown2 hb1 hm0
  go_loopw [5, 6] (fun v i wr => ∃ k : Nat, i = .int .i64 (k : Int) ∧ k ≤ n ∧ wr.ownsRow w.heap.size 9 1 v (M ++ gx (l.take k)).length (SL (M ++ gx (l.take k))) ∧ Below w.heap.size w wr) (fun _ i _ => n - (intOf i).toNat)
  case atStart => exact ⟨0, rfl, Nat.zero_le _, HO1.out, HB1.out⟩
  case round =>
    obtain ⟨k, rfl, hk, hown, hbw⟩ := hrel
    have hgl := gx_len l k
    have hLl : (M ++ gx (l.take k)).length ≤ 120 := by rw [List.length_append, ← HMM.out]; omega
    have HO := Lib.hid hown; have HB := Lib.hid hbw
    clear hown hgl
    by_cases hlt : k < n
    · have hltI : (k : Int) < (n : Int) := by omega
      obtain ⟨t, ht⟩ : ∃ t, l[k]? = some t := ⟨l[k]'(by rw [← HN.out]; exact hlt), List.getElem?_eq_getElem _⟩
      have htz := HTY.out t (List.mem_of_getElem? ht)
      obtain ⟨a, rfl, hab, ha0, ha1⟩ := tl_cell (HRD.out.below hbw) ht
      have HT := Lib.hid ht
      by_cases h100 : t.2.length < 100
      · have hI100 : (t.2.length : Int) < 100 := by omega
        have HRT := Lib.hid (fun w => kind.right_w t.1 t.2 w (by omega))
        have HTX := Lib.hid (fun w => kind.text_w t.1 t.2 w (by omega))
        have HGD := Lib.hid (show good t = rightT t from by unfold good; rw [decide_eq_true h100, Bool.true_and])
        clear ht htz hbw hab
        cases hrt : rightT (t.1, t.2) with
        | true =>
          rw [hrt] at HRT
          have HG := Lib.hid (gx_in HT.out (HGD.out.trans hrt))
          have hts := text_small (t := t) hrt
          rw [show textT (t.1, t.2) = textT t from rfl] at HTX
          generalize textT t = T at *
          clear hrt
          go_wp2_with fail
          refine (HRT.out _).mono ?_
          rintro e w2 ⟨rfl, hb2⟩
          have HB2 := Lib.hid (HB.out.trans (hb2.mono HB.out.size)); have HO2 := Lib.hid (own_below (own_base HO.out (Nat.le_refl _)) hb2)
          obtain ⟨a', e', hab2, hc0, hc1⟩ := tl_cell (HRD.out.below HB2.out) HT.out
          cases e'
          clear hb2 ha0 ha1 hab2
          go_wp2_with fail
          refine (HTX.out _).mono ?_
          rintro e w3 ⟨rfl, hb3⟩
          have HB3 := Lib.hid (HB2.out.trans (hb3.mono HB2.out.size)); have HO3 := Lib.hid (own_below HO2.out hb3)
          have hsz := HB3.out.size
          clear hb3 hc0 hc1
          go_wp2_with (at_builtin; refine wpList_app _ rfl (.tmp 48) (.tmp 54) _ rfl w.heap.size 9 i0 _ 1 16 Try.underlying23 hi0 hz0 hz1 hz2 rfl (by omega) _ (M ++ gx (l.take k)).length (SL (M ++ gx (l.take k))) rfl (HO3.out.alloc _) _ 1 1 [_] rfl rfl (rd_blk (heap_alloc_new w3 _) (k := 1) rfl) (by simp [Value.oneCell']) (by simp only [maxLen]; omega) (by omega) (by simp; omega) ?_; intro v4 w4 hown4 hg4 hb4 hat4; clear hg4 hat4)
          have HO4 : Hid (w4.ownsRow w.heap.size 9 1 v4 (M ++ gx (l.take (k + 1))).length (SL (M ++ gx (l.take (k + 1))))) := Lib.hid (by rw [HG.out, ← List.append_assoc, List.length_append, SL_app]; exact hown4)
          have HB4 := Lib.hid ((HB3.out.alloc hsz _).trans hb4)
          clear hown4 hb4
          go_roundw
          case rel => exact ⟨k + 1, by go_num, by omega, HO4.out, HB4.out⟩
          case measure => simp [intOf]; omega
        | false =>
          rw [hrt] at HRT
          have HG := Lib.hid (gx_out HT.out (HGD.out.trans hrt))
          clear hrt
          go_wp2_with fail
          refine (HRT.out _).mono ?_
          rintro e w2 ⟨rfl, hb2⟩
          have HB2 := Lib.hid (HB.out.trans (hb2.mono HB.out.size)); have HO2 := Lib.hid (own_below HO.out hb2)
          clear hb2 ha0 ha1
          go_wp2
          go_roundw
          case rel => exact ⟨k + 1, by go_num, by omega, by rw [HG.out]; exact HO2.out, HB2.out⟩
          case measure => simp [intOf]; omega
      · have hI100 : ¬ (t.2.length : Int) < 100 := by omega
        have HG := Lib.hid (gx_out HT.out (by unfold good; rw [decide_eq_false h100, Bool.false_and]))
        clear ht htz hab
        go_wp2
        go_roundw
        case rel => exact ⟨k + 1, by go_num, by omega, by rw [HG.out]; exact HO.out, HB.out⟩
        case measure => simp [intOf]; omega
    · have hltI : ¬ (k : Int) < (n : Int) := by omega
      have hkn : l.take k = l := List.take_of_length_le (by have := HN.out; omega)
      rw [hkn] at HO hLl
      clear hkn hbw
      obtain ⟨Q, hQ⟩ : ∃ Q, Q = M ++ gx l := ⟨_, rfl⟩
      have HQ := Lib.hid hQ
      rw [← hQ] at HO hLl
      obtain ⟨A1, c1, rfl, _, _, hr1⟩ := own_rd HO.out
      have HR1 := Lib.hid hr1
      have hQz : ∀ x ∈ Q, x.length ≤ 140737488355328 := by
        intro x hx
        rw [hQ] at hx
        rcases List.mem_append.1 hx with h | h
        · exact HMZ.out x h
        · obtain ⟨t, ht, rfl⟩ := List.mem_map.1 h
          have hg := (List.mem_filter.1 ht).2
          unfold good at hg
          rw [Bool.and_eq_true] at hg
          have := text_small hg.2
          omega
      have hMK := (fun A c w hr => make_w A c Q w hr (by omega) hQz)
      unfold Made at hMK
      have hIP := make_pool Q
      have HHERE := Lib.hid (fun (hb : bad Q = false) (x : Str) (hx : x ∈ Q) => here hb hx)
      obtain ⟨P, hP⟩ : ∃ P, P = makeL Q := ⟨_, rfl⟩
      rw [← hP] at hMK hIP HHERE
      have hpl := hIP.2.1
      have hpz : ∀ x ∈ P, x.length ≤ 140737488355328 := fun x hx => by have := hIP.2.2 x hx; omega
      have HPT := Lib.hid (fun A c w hr => put_p A c P w hr hIP)
      obtain ⟨hX1, hX2⟩ := bytes_small P hIP
      have hread := pool_read hIP
      have HFD := Lib.hid (fun A c x w hr => find_w A c P x w hr (by omega) hpz)
      have HPZ := Lib.hid hIP.2.2
      obtain ⟨X, hX⟩ : ∃ X, X = bytesL P := ⟨_, rfl⟩
      rw [← hX] at hX1 hX2 HPT hread
      obtain ⟨x, hx⟩ : ∃ x, x = X.length := ⟨_, rfl⟩
      have hOP := (fun A c w hr => open_w A x c X w hr hx.symm (by omega) hX2)
      unfold Opened at hOP
      have HOP := Lib.hid hOP
      have hTK := (fun g w h => take_w g ⟨X, 0, 0, 0⟩ w h)
      rw [hread] at hTK
      dsimp only at hTK
      have HTK := Lib.hid hTK
      obtain ⟨p, hp⟩ : ∃ p, p = P.length := ⟨_, rfl⟩
      have HP := Lib.hid hp
      rw [← hp] at hMK HPT HFD HHERE hpl
      rw [← hx] at HPT
      have HTK2 : Hid (∀ g w, RW w g ⟨X, 0, 0, 0⟩ → Calls Try.prog 9 #[.pointer (some ⟨g, 0, none⟩)] w fun e w' => (∃ A c, e = .returned (.slice A p c) ∧ Rd w' A (SL P)) ∧ But g w w') := Lib.hid (fun g w h => (HTK.out g w h).mono (by
        rintro e w' ⟨⟨A', c', rfl, h1, _⟩, _, h3⟩
        exact ⟨⟨A', c', by rw [hp], h1⟩, h3⟩))
      have hpI : (p : Int) ≤ 1024 := by omega
      clear hQ hQz hIP hP hpz hX1 hX2 hread hX hx hOP hTK hp HTK
      cases hbd : bad Q with
      | true =>
        rw [if_pos hbd] at hMK
        have HMK := Lib.hid hMK
        clear hMK hbd HHERE
        go_wp2_with fail
        refine (HMK.out A1 c1 _ HR1.out).mono ?_
        rintro e w2 ⟨⟨A2, c2, rfl, _, hr2⟩, hb2⟩
        have HB2 := Lib.hid (HB.out.trans (hb2.mono HB.out.size)); have HP2 := Lib.hid hr2
        clear hb2 hr2
        go_wp2_with fail
        refine (HPT.out A2 c2 _ HP2.out).mono ?_
        rintro e w3 ⟨⟨A3, c3, rfl, hr3⟩, hb3⟩
        have HB3 := Lib.hid (HB2.out.trans (hb3.mono HB2.out.size)); have HX3 := Lib.hid hr3
        clear hb3 hr3
        go_wp2_with fail
        refine (HLV.out _).mono ?_
        rintro e w4 ⟨rfl, hb4⟩
        have HB4 := Lib.hid (HB3.out.trans (hb4.mono HB3.out.size))
        clear hb4
        go_wp2
        go_ret
        exact ⟨rfl, HB4.out⟩
      | false =>
        rw [if_neg (by rw [hbd]; simp)] at hMK
        have HMK := Lib.hid hMK
        have HHR := Lib.hid (HHERE.out hbd)
        clear hMK hbd HHERE
        go_wp2_with fail
        refine (HMK.out A1 c1 _ HR1.out).mono ?_
        rintro e w2 ⟨⟨A2, c2, rfl, _, hr2⟩, hb2⟩
        have HB2 := Lib.hid (HB.out.trans (hb2.mono HB.out.size)); have HP2 := Lib.hid hr2
        clear hb2 hr2
        go_wp2_with fail
        refine (HPT.out A2 c2 _ HP2.out).mono ?_
        rintro e w3 ⟨⟨A3, c3, rfl, hr3⟩, hb3⟩
        have HB3 := Lib.hid (HB2.out.trans (hb3.mono HB2.out.size)); have HX3 := Lib.hid hr3
        clear hb3 hr3
        go_wp2_with fail
        refine (HOP.out A3 c3 _ HX3.out).mono ?_
        rintro e w4 ⟨g, rfl, hg, hrw, hb4⟩
        have HB4 := Lib.hid (HB3.out.trans (hb4.mono HB3.out.size)); have HRW := Lib.hid hrw
        have hg2 : w.heap.size ≤ g := Nat.le_trans HB3.out.size hg
        clear hb4 hrw hg
        go_wp2_with fail
        refine (HTK2.out g _ HRW.out).mono ?_
        rintro e w5 ⟨⟨A5, c5, rfl, hr5⟩, hbt⟩
        have HB5 := Lib.hid (HB4.out.trans (hbt.below hg2 HB4.out.size)); have HP5 := Lib.hid hr5
        clear hr5 hbt hg2 HB
        go_wp2
        go_loopw [12] (fun i wr => ∃ k : Nat, i = .int .i64 (k : Int) ∧ k ≤ n ∧ Below w5.heap.size w5 wr) (fun i _ => n - (intOf i).toNat)
        case atStart => exact ⟨0, rfl, Nat.zero_le _, Below.refl _ _⟩
        case round =>
          obtain ⟨k, rfl, hk, hbw⟩ := hrel
          have HB := Lib.hid hbw
          by_cases hlt : k < n
          · have hltI : (k : Int) < (n : Int) := by omega
            obtain ⟨t, ht⟩ : ∃ t, l[k]? = some t := ⟨l[k]'(by rw [← HN.out]; exact hlt), List.getElem?_eq_getElem _⟩
            have htz := HTY.out t (List.mem_of_getElem? ht)
            obtain ⟨a, rfl, hab, ha0, ha1⟩ := tl_cell (HRD.out.below (HB5.out.trans (hbw.mono HB5.out.size))) ht
            have HT := Lib.hid ht
            by_cases h100 : t.2.length < 100
            · have hI100 : ¬ (100 : Int) ≤ (t.2.length : Int) := by omega
              have HRT := Lib.hid (fun w => kind.right_w t.1 t.2 w (by omega))
              have HTX := Lib.hid (fun w => kind.text_w t.1 t.2 w (by omega))
              have HGD := Lib.hid (show good t = rightT t from by unfold good; rw [decide_eq_true h100, Bool.true_and])
              clear ht htz hbw hab
              cases hrt : rightT (t.1, t.2) with
              | true =>
                rw [hrt] at HRT
                have hrt2 : rightT t = true := hrt
                have hmem : textT t ∈ Q := by rw [HQ.out]; exact List.mem_append_right _ (gx_mem HT.out (HGD.out.trans hrt))
                obtain ⟨j, hj, hpj, hfj⟩ := HHR.out _ hmem
                have hjp : j < p := by rw [HP.out]; rw [HP.out] at hj; exact hj
                have hPS := parse_text hrt2
                have hts := text_small hrt2
                rw [show textT (t.1, t.2) = textT t from rfl] at HTX
                have HPS := Lib.hid (fun w hm => parse_w (textT t) w (by omega) hm)
                unfold parseV twoV tyV at HPS
                rw [hPS] at HPS
                have HFX := Lib.hid (fun A c w hr => HFD.out A c (textT t) w hr)
                rw [hfj] at HFX
                have HPJ := Lib.hid hpj
                generalize textT t = T at *
                have hjI : (j : Int) < (p : Int) := by omega
                have hjn : ¬ (j : Int) < 0 := by omega
                have hjm : ¬ (p : Int) ≤ (j : Int) := by omega
                have hj0 : (0 : Int) ≤ (j : Int) := by omega
                clear hrt hrt2 hmem hj hpj hfj hPS hjp
                go_wp2_with fail
                refine (HRT.out _).mono ?_
                rintro e w6 ⟨rfl, hb6⟩
                have HB6 := Lib.hid (then' HB.out hb6)
                obtain ⟨a', e', hab2, hc0, hc1⟩ := tl_cell (HRD.out.below (HB5.out.trans (HB6.out.mono HB5.out.size))) HT.out
                cases e'
                clear hb6 ha0 ha1 hab2
                go_wp2_with fail
                refine (HTX.out _).mono ?_
                rintro e w7 ⟨rfl, hb7⟩
                have HB7 := Lib.hid (then' HB6.out hb7)
                clear hb7 hc0 hc1
                go_wp2_with fail
                refine (HFX.out A5 c5 _ (HP5.out.below HB7.out)).mono ?_
                rintro e w8 ⟨rfl, q8, rfl⟩
                obtain ⟨a5, e5, _, hcj⟩ := sl_cell (HP5.out.below HB7.out) HPJ.out
                cases e5
                go_wp2_with fail
                refine (HPS.out _ (HMX.out.below (HB5.out.trans ((over HB7.out).mono HB5.out.size)))).mono ?_
                rintro e w9 ⟨rfl, hb9⟩
                have HB9 := Lib.hid (then' HB7.out (under hb9))
                have HBA := Lib.hid (HB9.out.alloc HB9.out.size (.cells #[.int .i64 t.1, .string ⟨t.2.toArray⟩] 27))
                obtain ⟨a'', e'', _, hd0, hd1⟩ := tl_cell (HRD.out.below (HB5.out.trans (HBA.out.mono HB5.out.size))) HT.out
                cases e''
                have hz0 := cell_of_row _ _ 0 _ _ _ (heap_alloc_new w9 (.cells #[.int .i64 t.1, .string ⟨t.2.toArray⟩] 27))
                have hz1 := cell_of_row _ _ 1 _ _ _ (heap_alloc_new w9 (.cells #[.int .i64 t.1, .string ⟨t.2.toArray⟩] 27))
                have e1 : (t.1 == t.1) = true := by simp
                have e2 : (t.2 == t.2) = true := by simp
                clear hb9 hcj
                go_wp2
                generalize w9.alloc (.cells #[.int .i64 t.1, .string ⟨t.2.toArray⟩] 27) = wA at *
                go_quiet (fail)
                go_wp2
                go_roundw
                case rel => exact ⟨k + 1, by go_num, by omega, over HBA.out⟩
                case measure => simp [intOf]; omega
              | false =>
                rw [hrt] at HRT
                clear hrt
                go_wp2_with fail
                refine (HRT.out _).mono ?_
                rintro e w6 ⟨rfl, hb6⟩
                have HB6 := Lib.hid (then' HB.out hb6)
                clear hb6 ha0 ha1
                go_wp2
                go_roundw
                case rel => exact ⟨k + 1, by go_num, by omega, HB6.out⟩
                case measure => simp [intOf]; omega
            · have hI100 : (100 : Int) ≤ (t.2.length : Int) := by omega
              clear ht htz hab
              go_wp2
              go_roundw
              case rel => exact ⟨k + 1, by go_num, by omega, HB.out⟩
              case measure => simp [intOf]; omega
          · have hltI : ¬ (k : Int) < (n : Int) := by omega
            clear hbw
            go_wp2_with fail
            refine (HLV.out _).mono ?_
            rintro e w6 ⟨rfl, hb6⟩
            have HB6 := Lib.hid (HB5.out.trans ((then' HB.out hb6).mono HB5.out.size))
            clear hb6
            go_wp2
            go_ret
            exact ⟨rfl, HB6.out⟩
end Go.Proofs.Ytdenpefihplnoaa.topTypes

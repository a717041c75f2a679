/-
 Layer 22: a text's rules: the program's answer.
-/
import Derived.Test.YtcaaljioennnnabDoorRulF
import Derived.Test.YtcaaljioennnnabDoorRulH
import Derived.Test.YtcaaljioennnnabDoorLinesA
import Derived.Test.YtcaaljioennnnabDoorBackL
namespace Go.Proofs.YtcaaljioennnnabDoor.rul
open Go.RowKit
open Go.Proofs.YtcaaljioennnnabDoor.words Go.Proofs.YtcaaljioennnnabDoor.glob Go.Proofs.YtcaaljioennnnabDoor.texts Go.Proofs.YtcaaljioennnnabDoor.piece Go.Proofs.YtcaaljioennnnabDoor.word
set_option linter.all false
/-- the library's bound on short texts lies where it lies -/
def Mc (w : World) : Prop := ∃ m : Int, w.cell? ⟨0, 0, none⟩ = some (.int .i64 m)
theorem Mc.lt {w : World} (h : Mc w) : 0 < w.heap.size := by obtain ⟨m, hm⟩ := h; exact World.block_lt_of_cell? _ _ hm
theorem Mc.below {w w' : World} {b : Nat} (h : Mc w) (hb : Below b w w') (hg : 0 < b) : Mc w' := by
 obtain ⟨m, hm⟩ := h
 exact ⟨m, (hb.cell (p := ⟨0, 0, none⟩) hg).trans hm⟩
theorem lines_c (s : ByteArray) (w : World) (h : Mc w) : Calls Tryd.prog 28 #[.string s] w (LA s w) := by
 obtain ⟨m, hm⟩ := h
 exact lines_m s w m (World.block_lt_of_cell? _ _ hm) hm
theorem S_D (xs : List ByteArray) : S xs = SL (D xs) := by simp [texts.S, SL, D, Function.comp_def]
theorem fields_c (x : ByteArray) (w : World) (h : Mc w) (hx : x.size ≤ 65536) : Calls Tryd.prog 30 #[.string x] w fun e w' => (∃ A c, e = .returned (.slice A (F 32 (lb x)).length c) ∧ (F 32 (lb x)).length ≤ c ∧ Rd w' A (SL (F 32 (lb x)))) ∧ Below w.heap.size w w' := by
 obtain ⟨m, hm⟩ := h
 refine (fields_w x (by omega) w m hm).mono ?_
 rintro e w' ⟨⟨a, c, rfl, hc, hr⟩, hb⟩
 have e1 : (fieldsB x).length = (F 32 (lb x)).length := by
  have h1 := congrArg List.length (fieldsB_data x)
  have h2 : (D (fieldsB x)).length = (fieldsB x).length := by simp [D]
  rw [h2] at h1; exact h1
 rw [S_D, fieldsB_data] at hr
 rw [e1] at hc ⊢
 exact ⟨⟨_, c, rfl, hc, hr⟩, hb⟩
theorem F_le (x : ByteArray) : (F 32 (lb x)).length ≤ x.size + 1 := by have := (F_len 32 _ (lb x) (Nat.le_refl _)).2; rw [lb_len] at this; exact this
theorem lineTx_size (s x : ByteArray) (h : x ∈ lineTx s) : x.size ≤ 65536 := by
 unfold lineTx at h
 split at h
 ·split at h
  ·unfold txs at h
   obtain ⟨y, -, rfl⟩ := List.mem_map.1 h
   exact y.2
  ·cases h
 ·cases h
theorem lineAt_zero {s : ByteArray} (h : lineErr s = 0) : lineAt s = 0 := by
 unfold lineErr at h
 unfold lineAt
 split at h
 ·rename_i h1
  rw [dif_pos h1]
  split at h
  ·rename_i h2; rw [if_pos h2]
  ·cases h
 ·cases h
theorem readR_ok {x : ByteArray} (hx : x.size ≤ 65536) : RuOk (readR (F 32 (lb x))) := by
 have hp : ∀ y ∈ F 32 (lb x), y.length ≤ 65536 := fun y hy => by
  have := F_join 32 _ (lb x) (Nat.le_refl _)
  have h2 : y.length ≤ (Lib.join (F 32 (lb x)) [32]).length := by
   obtain ⟨a, b, e⟩ := List.append_of_mem hy
   rw [e]
   cases a with
   | nil => rw [List.nil_append, Lib.join_cons, List.length_append]; omega
   | cons z a =>
    rw [List.cons_append, Lib.join_cons, List.length_append, tail_len]
    simp [List.map_append, List.sum_append]
    omega
  rw [this, lb_len] at h2
  omega
 have hw : ∀ (nb : Bool) (t : List (List UInt8)), (∀ y ∈ t, y ∈ F 32 (lb x)) → RuOk (readW nb t) := fun nb t ht => by
  have z : RuOk ⟨nb, false, [], [], []⟩ := ⟨Nat.zero_le _, Nat.zero_le _, Nat.zero_le _⟩
  unfold readW
  split
  ·rename_i m c
   split
   ·exact ⟨Nat.le_trans (hp c (ht c (by simp))) (by decide), Nat.zero_le _, Nat.zero_le _⟩
   ·exact z
  ·rename_i m c n d
   split
   ·exact ⟨Nat.le_trans (hp c (ht c (by simp))) (by decide), Nat.le_trans (hp n (ht n (by simp))) (by decide), Nat.le_trans (hp d (ht d (by simp))) (by decide)⟩
   ·exact z
  ·exact z
 cases hF : F 32 (lb x) with
 | nil => exact absurd hF (F_ne 32 _)
 | cons a t =>
  have ht : ∀ y ∈ t, y ∈ F 32 (lb x) := fun y hy => by rw [hF]; exact List.mem_cons_of_mem _ hy
  simp only [readR]
  split
  ·exact hw true t ht
  ·split
   ·exact hw false t ht
   ·exact ⟨Nat.zero_le _, Nat.zero_le _, Nat.zero_le _⟩
theorem own_keep {W : World} {base f : Nat} {e : TypeId} {size : Nat} {v : Value} {n : Nat} {xs : List Value} (h : W.ownsRow base e size v n xs) (hf : f < base) (o : Nat) (u : Value) : (W.setCell ⟨f, o, none⟩ u).ownsRow base e size v n xs := by
 refine ⟨h.1, ?_⟩
 rcases h.2 with h0 | ⟨g, cap, cur, rfl, hbg, hg, rest⟩
 ·exact .inl h0
 ·exact .inr ⟨g, cap, cur, rfl, hbg, (heap_setCell_other W ⟨f, o, none⟩ g u (by show g ≠ f; omega)).trans hg, rest⟩
/-- what a text's rules are, or what is wrong, and where -/
def parseS (s : ByteArray) : List Ru × Nat × Nat := if lineErr s = 0 then parseG 0 ((lineTx s).map lb) else ([], lineErr s, lineAt s)
def ParseP (s : ByteArray) (w : World) (e : Ending) (w' : World) : Prop :=
 (∃ A c, e = .returned (.tuple #[.slice A (parseS s).1.length c, .agg #[.int .i64 ((parseS s).2.1 : Int), .int .i64 ((parseS s).2.2 : Int)]]) ∧ (parseS s).1.length ≤ c ∧ Rd w' A ((parseS s).1.flatMap ruC)) ∧ Below w.heap.size w w'
theorem infoR : (Tryd.prog.info? 23).map (fun i => (i.zero, i.size, i.bytes)) = some (some (.agg #[.bool false, .bool false, .string ByteArray.empty, .string ByteArray.empty, .string ByteArray.empty]), 5, 56) := by kernel_rfl
set_option maxRecDepth 100000 in
set_option maxHeartbeats 8000000 in
theorem parse_bad (s : ByteArray) (w : World) (h : Mc w) (he : ¬ lineErr s = 0) : Calls Tryd.prog 16 #[.string s] w (ParseP s w) := by
 have HL := Lib.hid (fun w h => lines_c s w h)
 have hE : parseS s = ([], lineErr s, lineAt s) := if_neg he
 unfold ParseP
 rw [hE]
 have hne : ((lineErr s : Int) == 0) = false := by rw [beq_eq_false_iff_ne]; omega
 obtain ⟨e, hee⟩ : ∃ e, e = lineErr s := ⟨_, rfl⟩
 obtain ⟨t, htt⟩ : ∃ t, t = lineAt s := ⟨_, rfl⟩
 unfold LA at HL
 rw [← hee] at HL hne ⊢
 rw [← htt] at HL ⊢
 have HM := Lib.hid (fun (o : Obj) => h.below ((Below.refl w.heap.size w).alloc (Nat.le_refl _) o) h.lt)
 clear hE he hee htt h
 go_enter Tryd.func16, Tryd.ntmps16
 go_wp2_with fail
 refine (HL.out _ (HM.out _)).mono ?_
 rintro e1 w1 ⟨⟨A, c, rfl, hc, hr⟩, hb⟩
 have g0 := heap_alloc_new w (.cells #[.int .i64 0, .int .i64 0] 37)
 have g1 := (hb.block _ (blk_lt g0)).trans g0
 have B1 := ((Below.refl w.heap.size w).alloc (Nat.le_refl _) (.cells #[.int .i64 0, .int .i64 0] 37)).trans (hb.mono (by simp))
 obtain ⟨f, hf⟩ : ∃ f, f = w.heap.size := ⟨_, rfl⟩
 have hfw : w.heap.size ≤ f := by omega
 rw [← hf] at g1
 simp only [← hf]
 have g2 := (heap_alloc_old w1 (.cells #[.int .i64 (e : Int), .int .i64 (t : Int)] 37) (blk_lt g1)).trans g1
 have hne2 : ¬ f = w1.heap.size := by have := blk_lt g1; omega
 have f0 := cell_of_row (w1.alloc (.cells #[.int .i64 (e : Int), .int .i64 (t : Int)] 37)) f 0 _ _ _ g2
 have f1 := cell_of_row (w1.alloc (.cells #[.int .i64 (e : Int), .int .i64 (t : Int)] 37)) f 1 _ _ _ g2
 have z0 := frozen_of_row (w1.alloc (.cells #[.int .i64 (e : Int), .int .i64 (t : Int)] 37)) f 0 _ _ g2
 have z1 := frozen_of_row (w1.alloc (.cells #[.int .i64 (e : Int), .int .i64 (t : Int)] 37)) f 1 _ _ g2
 have HB1 := Lib.hid (B1.alloc B1.size (.cells #[.int .i64 (e : Int), .int .i64 (t : Int)] 37))
 have HFW := Lib.hid hfw; have HG2 := Lib.hid g2
 clear hb hr hc g0 g1 hf hfw B1 HL HM
 go_wp2
 go_region
 obtain ⟨Z, hZ⟩ : ∃ Z, Z = ((w1.alloc (.cells #[.int .i64 (e : Int), .int .i64 (t : Int)] 37)).setCell ⟨f, 0, none⟩ (.int .i64 (e : Int))).setCell ⟨f, 1, none⟩ (.int .i64 (t : Int)) := ⟨_, rfl⟩
 have ZB := Lib.hid (show Below w.heap.size w Z.drew from by rw [hZ]; exact over (q := 1) (below_setCell' (below_setCell' HB1.out HFW.out) HFW.out))
 have ZG : Z.drew.heap[f]? = some (.cells #[.int .i64 (e : Int), .int .i64 (t : Int)] 37 (0, 0)) := by
  rw [hZ]
  have q1 := heap_setCell_same _ f 0 _ _ (.int .i64 (e : Int)) HG2.out
  exact heap_setCell_same _ f 1 _ _ (.int .i64 (t : Int)) q1
 have p0 := cell_of_row _ f 0 _ _ _ ZG
 have p1 := cell_of_row _ f 1 _ _ _ ZG
 simp only [List.getElem?_toArray, List.getElem?_cons_zero, List.getElem?_cons_succ] at p0 p1
 rw [← hZ]
 clear hZ ZG f0 f1 z0 z1 g2
 go_wp2
 exact bodyPost_ret (v := .tuple #[.slice none 0 0, .agg #[.int .i64 (e : Int), .int .i64 (t : Int)]]) (by simp [results, Tryd.results16, go_sem, p0, p1]) rfl ⟨⟨none, 0, rfl, Nat.le_refl _, Rd.nil _ _⟩, ZB.out⟩
set_option maxRecDepth 100000 in
set_option maxHeartbeats 8000000 in
theorem parse_good (s : ByteArray) (w : World) (h : Mc w) (he : lineErr s = 0) : Calls Tryd.prog 16 #[.string s] w (ParseP s w) := by
 obtain ⟨i0, hi, hz0, hz1, hz2⟩ := info_parts' infoR
 have HL := Lib.hid (fun w h => lines_c s w h)
 have hE : parseS s = parseG 0 ((lineTx s).map lb) := if_pos he
 unfold ParseP
 obtain ⟨P, hP⟩ : ∃ P, P = parseS s := ⟨_, rfl⟩
 rw [← hP] at hE ⊢
 have HE := Lib.hid hE
 have HSZ := Lib.hid (fun x hx => lineTx_size s x hx)
 have hle := lineTx_le s
 unfold LA at HL
 rw [he, lineAt_zero he, show ((0 : Nat) : Int) = 0 from rfl] at HL
 have HM := Lib.hid (fun (o : Obj) => h.below ((Below.refl w.heap.size w).alloc (Nat.le_refl _) o) h.lt)
 have HM0 := Lib.hid h
 obtain ⟨T, hT⟩ : ∃ T, T = lineTx s := ⟨_, rfl⟩
 obtain ⟨n, hn⟩ : ∃ n, n = T.length := ⟨_, rfl⟩
 rw [← hT] at HL HE HSZ hle
 rw [← hn] at HL hle
 have hnI : (n : Int) ≤ 65536 := by omega
 have HN := Lib.hid hn
 clear hE he hP h hT hn hle
 go_enter Tryd.func16, Tryd.ntmps16
 go_wp2_with fail
 refine (HL.out _ (HM.out _)).mono ?_
 rintro e1 w1 ⟨⟨A, c, rfl, hc, hr⟩, hb⟩
 have g0 := heap_alloc_new w (.cells #[.int .i64 0, .int .i64 0] 37)
 have g1 := (hb.block _ (blk_lt g0)).trans g0
 have B1 := ((Below.refl w.heap.size w).alloc (Nat.le_refl _) (.cells #[.int .i64 0, .int .i64 0] 37)).trans (hb.mono (by simp))
 obtain ⟨f, hf⟩ : ∃ f, f = w.heap.size := ⟨_, rfl⟩
 have hfw : w.heap.size ≤ f := by omega
 rw [← hf] at g1
 simp only [← hf]
 have HG1 := Lib.hid g1; have HR := Lib.hid hr; have HBW := Lib.hid B1; have HFW := Lib.hid hfw
 have HM1 := Lib.hid (HM0.out.below B1 HM0.out.lt)
 clear hb hr hc g0 g1 hf hfw B1 HL HM
 go_wp2
 go_loopw [6, 21] (fun v i wr => ∃ (k : Nat) (rs : List Ru), i = .int .i64 (k : Int) ∧ k ≤ n ∧ k ≤ 64 ∧ rs.length = k ∧ P = contG rs (parseG k ((T.map lb).drop k)) ∧ wr.ownsRow w1.heap.size 23 5 v k (rs.flatMap ruC) ∧ Below w1.heap.size w1 wr) (fun _ i _ => n - (intOf i).toNat)
 case atStart => exact ⟨0, [], rfl, Nat.zero_le _, by omega, rfl, by rw [List.drop_zero, contG_start]; exact HE.out, World.ownsRow_nil _ _ _ _, (Below.refl _ w1).alloc (Nat.le_refl _) _⟩
 case round =>
  obtain ⟨k, rs, rfl, hk, hk64, hrs, hP, hown, hb⟩ := hrel
  have HO := Lib.hid hown; have HB := Lib.hid hb; have HP := Lib.hid hP; have HRS := Lib.hid hrs
  clear hP hrs HE
  by_cases hlt : k < n
  ·have hltI : (k : Int) < (n : Int) := by omega
   obtain ⟨x, hx⟩ : ∃ x, T[k]? = some x := ⟨T[k]'(by rw [← HN.out]; exact hlt), List.getElem?_eq_getElem _⟩
   have hxs := HSZ.out x (List.mem_of_getElem? hx)
   obtain ⟨a, ha, -, hcell⟩ := (HR.out.below hb).at_ (S_at hx)
   subst ha
   have hd : (T.map lb).drop k = lb x :: (T.map lb).drop (k + 1) := by
    rw [List.drop_eq_getElem_cons (by rw [List.length_map, ← HN.out]; exact hlt)]
    congr 1
    rw [List.getElem_map]
    obtain ⟨h1, rfl⟩ := List.getElem?_eq_some_iff.1 hx
    rfl
   have hP := HP.out
   rw [hd] at hP
   have HP2 := Lib.hid hP
   have HF := Lib.hid (fun w h => fields_c x w h hxs)
   have HFL := Lib.hid (show (F 32 (lb x)).length ≤ 100000 from by have := F_le x; omega)
   have HFN := Lib.hid (F_ne 32 (lb x))
   have HRD := Lib.hid (fun A c w hc hr => read_w A c (F 32 (lb x)) w HFN.out HFL.out hc hr)
   have hrok := readR_ok hxs
   have hrr := read_rule (lb x)
   obtain ⟨r, hrd⟩ : ∃ r, r = readR (F 32 (lb x)) := ⟨_, rfl⟩
   rw [← hrd] at hrok hrr HRD
   have HRT := Lib.hid (fun w => rightu_w r w hrok)
   have HMR := Lib.hid (HM1.out.below hb HM1.out.lt)
   have HRR := Lib.hid hrr
   unfold RuV at HRD HRT
   clear hx hxs hd hP hrok hrr hrd hown hb
   go_wp2_with fail
   refine (HF.out _ HMR.out).mono ?_
   rintro e2 v1 ⟨⟨A2, c2, rfl, hc2, hr2⟩, hb⟩
   have B1 := Lib.hid (HB.out.trans (hb.mono HB.out.size)); have O1 := Lib.hid (own_below HO.out hb); have R2 := Lib.hid hr2; have C2 := Lib.hid hc2
   clear hb hr2 hc2 hcell HF
   go_wp2_with fail
   refine (HRD.out _ _ _ C2.out R2.out).mono ?_
   rintro e3 v2 ⟨rfl, hb⟩
   have B2 := B1.out.trans (hb.mono B1.out.size); have O2 := own_below O1.out hb
   clear hb HRD R2 C2 B1 O1
   obtain ⟨W, hW⟩ : ∃ W, W = v2.alloc (.cells #[.bool r.nb, .bool r.me, .string ⟨r.cl.toArray⟩, .string ⟨r.nm.toArray⟩, .string ⟨r.ds.toArray⟩] 23) := ⟨_, rfl⟩
   obtain ⟨b, hbb⟩ : ∃ b, b = v2.heap.size := ⟨_, rfl⟩
   have HG := Lib.hid (show W.heap[b]? = some (.cells #[.bool r.nb, .bool r.me, .string ⟨r.cl.toArray⟩, .string ⟨r.nm.toArray⟩, .string ⟨r.ds.toArray⟩] 23 (0, 0)) from by rw [hW, hbb]; exact heap_alloc_new v2 _)
   have BW := Lib.hid (show Below w1.heap.size w1 W from by rw [hW]; exact B2.alloc B2.size _)
   have OW := Lib.hid (show W.ownsRow w1.heap.size 23 5 _ k (rs.flatMap ruC) from by rw [hW]; exact O2.alloc _)
   have HW := Lib.hid hW; have HBB := Lib.hid hbb
   clear B2 O2 hW hbb
   cases hq : rightR r with
   | false =>
    rw [hq] at HRT
    have hP3 := HP2.out
    rw [contG_none (by have := HRR.out; rw [hq] at this; exact this)] at hP3
    have HP3 := Lib.hid hP3
    clear hP3 hq
    go_wp2_with fail
    rw [← HW.out, ← HBB.out]
    (try go_wp2_with fail)
    refine (HRT.out _).mono ?_
    rintro e4 v3 ⟨rfl, hb⟩
    have B3 := Lib.hid (BW.out.trans (hb.mono BW.out.size))
    clear hb HRT
    have g1 := (B3.out.block _ (blk_lt HG1.out)).trans HG1.out
    have p0 := cell_of_row _ f 0 _ _ _ g1
    have p1 := cell_of_row _ f 1 _ _ _ g1
    have z0 := frozen_of_row _ f 0 _ _ g1
    have z1 := frozen_of_row _ f 1 _ _ g1
    have GG := Lib.hid g1
    clear g1
    go_wp2
    obtain ⟨Z, hZ⟩ : ∃ Z, Z = (v3.setCell ⟨f, 0, none⟩ (.int .i64 10)).setCell ⟨f, 1, none⟩ (.int .i64 ((k : Int) + 1)) := ⟨_, rfl⟩
    have ZB := Lib.hid (show Below w.heap.size w Z from by rw [hZ]; exact below_setCell' (below_setCell' (HBW.out.trans (B3.out.mono HBW.out.size)) HFW.out) HFW.out)
    have ZG : Z.heap[f]? = some (.cells #[.int .i64 10, .int .i64 ((k : Int) + 1)] 37 (0, 0)) := by
     rw [hZ]
     have q1 := heap_setCell_same _ f 0 _ _ (.int .i64 10) GG.out
     exact heap_setCell_same _ f 1 _ _ (.int .i64 ((k : Int) + 1)) q1
    have y0 := cell_of_row _ f 0 _ _ _ ZG
    have y1 := cell_of_row _ f 1 _ _ _ ZG
    simp only [List.getElem?_toArray, List.getElem?_cons_zero, List.getElem?_cons_succ] at y0 y1
    rw [← hZ, HP3.out]
    clear hZ ZG
    exact bodyPost_ret (v := .tuple #[.slice none 0 0, .agg #[.int .i64 10, .int .i64 ((k : Int) + 1)]]) (by simp [results, Tryd.results16, go_sem, y0, y1]) rfl ⟨⟨none, 0, by simp, Nat.le_refl _, Rd.nil _ _⟩, ZB.out⟩
   | true =>
    rw [hq] at HRT
    have hru : ruleR (lb x) = some r := by have := HRR.out; rw [hq] at this; exact this
    by_cases h64 : 64 ≤ k
    ·have h64I : (64 : Int) ≤ (k : Int) := by omega
     have hP3 := HP2.out
     rw [contG_long hru h64] at hP3
     have HP3 := Lib.hid hP3
     clear hP3 hq hru h64
     go_wp2_with fail
     rw [← HW.out, ← HBB.out]
     (try go_wp2_with fail)
     refine (HRT.out _).mono ?_
     rintro e4 v3 ⟨rfl, hb⟩
     have B3 := Lib.hid (BW.out.trans (hb.mono BW.out.size))
     clear hb HRT
     have g1 := (B3.out.block _ (blk_lt HG1.out)).trans HG1.out
     have p0 := cell_of_row _ f 0 _ _ _ g1
     have p1 := cell_of_row _ f 1 _ _ _ g1
     have z0 := frozen_of_row _ f 0 _ _ g1
     have z1 := frozen_of_row _ f 1 _ _ g1
     have GG := Lib.hid g1
     clear g1
     go_wp2
     obtain ⟨Z, hZ⟩ : ∃ Z, Z = (v3.setCell ⟨f, 0, none⟩ (.int .i64 3)).setCell ⟨f, 1, none⟩ (.int .i64 ((k : Int) + 1)) := ⟨_, rfl⟩
     have ZB := Lib.hid (show Below w.heap.size w Z from by rw [hZ]; exact below_setCell' (below_setCell' (HBW.out.trans (B3.out.mono HBW.out.size)) HFW.out) HFW.out)
     have ZG : Z.heap[f]? = some (.cells #[.int .i64 3, .int .i64 ((k : Int) + 1)] 37 (0, 0)) := by
      rw [hZ]
      have q1 := heap_setCell_same _ f 0 _ _ (.int .i64 3) GG.out
      exact heap_setCell_same _ f 1 _ _ (.int .i64 ((k : Int) + 1)) q1
     have y0 := cell_of_row _ f 0 _ _ _ ZG
     have y1 := cell_of_row _ f 1 _ _ _ ZG
     simp only [List.getElem?_toArray, List.getElem?_cons_zero, List.getElem?_cons_succ] at y0 y1
     rw [← hZ, HP3.out]
     clear hZ ZG
     exact bodyPost_ret (v := .tuple #[.slice none 0 0, .agg #[.int .i64 3, .int .i64 ((k : Int) + 1)]]) (by simp [results, Tryd.results16, go_sem, y0, y1]) rfl ⟨⟨none, 0, by simp, Nat.le_refl _, Rd.nil _ _⟩, ZB.out⟩
    ·have h64I : ¬ (64 : Int) ≤ (k : Int) := by omega
     have hP3 := HP2.out
     rw [contG_next hru h64] at hP3
     have HP3 := Lib.hid hP3
     have hk65 : k + 1 ≤ 64 := by omega
     clear hP3 hq hru h64
     go_wp2_with fail
     rw [← HW.out, ← HBB.out]
     (try go_wp2_with fail)
     refine (HRT.out _).mono ?_
     rintro e4 v3 ⟨rfl, hb⟩
     have B3 := Lib.hid (BW.out.trans (hb.mono BW.out.size))
     have O3 := Lib.hid (own_below OW.out hb)
     have G3 := (hb.block _ (blk_lt HG.out)).trans HG.out
     have c0 := cell_of_row v3 b 0 _ _ _ G3; have c1 := cell_of_row v3 b 1 _ _ _ G3; have c2' := cell_of_row v3 b 2 _ _ _ G3; have c3 := cell_of_row v3 b 3 _ _ _ G3; have c4 := cell_of_row v3 b 4 _ _ _ G3
     clear hb HRT G3
     go_wp2_with (at_builtin; refine wpList_app _ rfl (.tmp 42) (.tmp 44) _ rfl w1.heap.size 23 i0 _ 5 56 Tryd.underlying32 hi hz0 hz1 hz2 rfl (by decide) _ k (rs.flatMap ruC) rfl (O3.out.alloc _) _ 1 1 (ruC r) rfl rfl (rd_blk (heap_alloc_new v3 _) (k := 5) rfl) (by intro u hu; simp only [ruC, List.mem_cons, List.not_mem_nil, or_false] at hu; rcases hu with rfl | rfl | rfl | rfl | rfl <;> rfl) (by unfold maxLen; omega) (by omega) (by have := B3.out.size; simp; omega) ?_; intro v' v4 hown' hgrow hB1 hob)
     have O4 := Lib.hid hown'
     have B4 := Lib.hid (B3.out.trans (below_alloc' B3.out.size hB1))
     clear hown' hgrow hB1 hob c0 c1 c2' c3 c4
     go_wp2
     go_roundw
     case rel => exact ⟨k + 1, rs ++ [r], by go_num, hlt, hk65, by rw [List.length_append, HRS.out]; rfl, HP3.out, by rw [List.flatMap_append]; simpa using O4.out, B4.out⟩
     case measure => simp [intOf]; omega
  ·have hltI : ¬ (k : Int) < (n : Int) := by omega
   have hd : (T.map lb).drop k = [] := List.drop_of_length_le (by rw [List.length_map, ← HN.out]; omega)
   have hP := HP.out
   rw [hd, contG_end] at hP
   have HP3 := Lib.hid hP
   obtain ⟨A9, c9, rfl, hc9, -, hrd⟩ := own_rd hown
   have HR9 := Lib.hid hrd; have HC9 := Lib.hid hc9
   have g1 := (hb.block _ (blk_lt HG1.out)).trans HG1.out
   have p0 := cell_of_row _ f 0 _ _ _ g1
   have p1 := cell_of_row _ f 1 _ _ _ g1
   have z0 := frozen_of_row _ f 0 _ _ g1
   have z1 := frozen_of_row _ f 1 _ _ g1
   clear hown hb hd hP hrd hc9
   go_wp2
   rw [HP3.out]
   refine bodyPost_ret (v := .tuple #[.slice A9 k c9, .agg #[.int .i64 0, .int .i64 0]]) (by simp [results, Tryd.results16, go_sem, p0, p1]) rfl ⟨⟨A9, c9, ?_, ?_, ?_⟩, ?_⟩
   ·show _ = Ending.returned (.tuple #[.slice A9 rs.length c9, .agg #[.int .i64 0, .int .i64 0]])
    rw [HRS.out]
   ·show rs.length ≤ c9
    rw [HRS.out]; exact HC9.out
   ·have hfl : f < w1.heap.size := blk_lt HG1.out
    obtain ⟨A8, c8, e8, -, -, h8⟩ := own_rd (own_keep (own_keep HO.out hfl 0 (.int .i64 0)) hfl 1 (.int .i64 0))
    cases e8
    exact h8
   ·exact below_setCell' (below_setCell' (HBW.out.trans (HB.out.mono HBW.out.size)) HFW.out) HFW.out
theorem parse_w (s : ByteArray) (w : World) (h : Mc w) : Calls Tryd.prog 16 #[.string s] w (ParseP s w) := by
 by_cases he : lineErr s = 0
 ·exact parse_good s w h he
 ·exact parse_bad s w h he
end Go.Proofs.YtcaaljioennnnabDoor.rul

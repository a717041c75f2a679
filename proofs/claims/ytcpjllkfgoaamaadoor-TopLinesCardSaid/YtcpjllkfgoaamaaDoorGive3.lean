/-
  What the program's inner read of a section does.
-/
import Derived.Test.YtcpjllkfgoaamaaDoorGive2
namespace Go.Proofs.YtcpjllkfgoaamaaDoor.give
open Go.RowKit
open Go.Proofs.YtcpjllkfgoaamaaDoor.num Go.Proofs.YtcpjllkfgoaamaaDoor.words Go.Proofs.YtcpjllkfgoaamaaDoor.rdnum Go.Proofs.YtcpjllkfgoaamaaDoor.rdr Go.Proofs.YtcpjllkfgoaamaaDoor.sealing

theorem tab_but {w w1 : World} {b : Nat} {s : Rs} (ht : crc.Tab w) (h : RW w b s) (hb : But b w w1) : crc.Tab w1 := by
  have hne : 4 ≠ b := by
    intro e
    obtain ⟨_, A, c, hh, _⟩ := h
    have := ht.2 0 (by omega)
    rw [e, cell_of_row w b 0 _ _ _ hh] at this
    simp at this
  exact ⟨Nat.lt_of_lt_of_le ht.1 hb.size, fun k hk => (World.cell?_of_block (a := ⟨_, k, none⟩) (hb.block _ ht.1 (fun e => hne (by cases e; rfl)))).trans (ht.2 k hk)⟩

/-- A SECTION: a reader of its own, or what fails. -/
def Sect (b : Nat) (s : Rs) (r : Rr (Nat × Nat)) (w : World) (e : Ending) (w' : World) : Prop :=
  (r.e = 0 ∧ (∃ g, e = .returned (.pointer (some ⟨g, 0, none⟩)) ∧ w.heap.size ≤ g ∧ RW w' g ⟨s.l.take (r.v.1 + r.v.2), r.v.1, 0, 0⟩) ∧ RW w' b { s with p := r.q } ∧ But b w w') ∨
  (r.e ≠ 0 ∧ e = .panicked [{ v := bang r.e r.f, recovered := false }] ∧ (∃ q, RW w' b { s with p := q }) ∧ But b w w')

theorem new_rw {w : World} {A : Option Addr} {n c p : Nat} {l : List Nat} (hl : l.length = n) (hc : n ≤ c) (hb : Bs w A l) (hp : p ≤ n) (hn : n ≤ 140737488355328) (hby : ∀ x ∈ l, x < 256) :
    RW (w.alloc (.cells #[.slice A n c, .int .i64 (p : Int), .int .i64 0, .int .i64 0] 72)) w.heap.size ⟨l, p, 0, 0⟩ := by
  subst hl
  exact ⟨⟨hp, hn, hby, fun _ => rfl⟩, A, c, heap_alloc_new w _, hc, hb.below ((Below.refl _ _).alloc (Nat.le_refl _) _)⟩

theorem openL_e (l : List Nat) : (openL l).2 ≤ 4 := by
  unfold openL
  split
  · simp
  · split <;> simp

set_option maxRecDepth 100000 in
set_option maxHeartbeats 400000 in
/-- no byte, or another one -/
theorem sect_first (b : Nat) (s : Rs) (id : Nat) (w : World) (h : RW w b s) (he : (byteT s.l s.p).e ≠ 0 ∨ (byteT s.l s.p).v ≠ id) :
    Calls Tryd.prog 60 #[.pointer (some ⟨b, 0, none⟩), .int .u8 (id : Int)] w (Sect b s (sectT s.l s.p id) w) := by
  obtain ⟨A, c, c0, c1, c2, c3, fz, hh, hc, hb, hp, hl⟩ := parts h
  have hk := byte_any b s w h
  obtain ⟨l, p, e0, f⟩ := s
  dsimp only at *
  clear h fz hh hc hb c0 c2 c3
  by_cases h0 : (byteT l p).e = 0
  · have hv : (byteT l p).v ≠ id := by rcases he with he | he; exact absurd h0 he; exact he
    have ht : sectT l p id = ⟨(0, 0), 0, 1, p⟩ := by unfold sectT; rw [if_neg (by simpa using h0), if_pos hv]
    rw [ht]
    generalize byteT l p = r at *
    obtain ⟨v, q, e, g⟩ := r
    dsimp only at *
    subst h0
    have hb1 : ((v : Int) != (id : Int)) = true := by simp; omega
    have HK := Lib.hid hk
    clear hk ht he hv
    go_enter Tryd.func60, Tryd.ntmps60
    go_wp2_with (first | (go_at_call 84; refine HK.out.mono ?_; rintro e w' (⟨_, rfl, hr, hbt⟩ | ⟨hx, _⟩); rotate_left; exact absurd rfl hx; have HR := Lib.hid hr; clear hr; have HT := Lib.hid hbt; clear hbt) | (go_at_call 85; refine (give_any _ _ _).mono ?_; rintro e w' ⟨rfl, rfl⟩))
    exact ⟨rfl, .inr ⟨by simp, rfl, ⟨_, HR.out⟩, HT.out⟩⟩
  · have ht : sectT l p id = ⟨(0, 0), 0, (byteT l p).e, (byteT l p).f⟩ := by unfold sectT; rw [if_pos h0]
    rw [ht]
    generalize byteT l p = r at *
    obtain ⟨v, q, e, g⟩ := r
    dsimp only at *
    have HE := Lib.hid h0
    have HK := Lib.hid hk
    clear hk ht h0 he
    go_enter Tryd.func60, Tryd.ntmps60
    go_wp2_with (go_at_call 84; refine HK.out.mono ?_; rintro e w' (⟨hx, _⟩ | ⟨_, rfl, hr, hbt⟩); exact absurd hx HE.out; have HR := Lib.hid hr; clear hr; have HT := Lib.hid hbt; clear hbt)
    exact ⟨rfl, .inr ⟨HE.out, rfl, HR.out, HT.out⟩⟩

theorem byteT_q {l : List Nat} {p : Nat} (h : (byteT l p).e = 0) : (byteT l p).q = p + 1 ∧ p < l.length := by
  unfold byteT at h ⊢
  split
  · exact ⟨rfl, by assumption⟩
  · rename_i hx; rw [if_neg hx] at h; cases h

set_option maxRecDepth 100000 in
set_option maxHeartbeats 400000 in
/-- no number behind the id -/
theorem sect_num (b : Nat) (s : Rs) (id : Nat) (w : World) (h : RW w b s) (h0 : (byteT s.l s.p).e = 0) (hv : (byteT s.l s.p).v = id) (he : (numT s.l (s.p + 1) 65536).e ≠ 0) :
    Calls Tryd.prog 60 #[.pointer (some ⟨b, 0, none⟩), .int .u8 (id : Int)] w (Sect b s (sectT s.l s.p id) w) := by
  obtain ⟨A, c, c0, c1, c2, c3, fz, hh, hc, hb, hp, hl⟩ := parts h
  have hk := byte_any b s w h
  obtain ⟨l, p, e0, f⟩ := s
  dsimp only at *
  clear h fz hh hc hb c0 c2 c3
  have ht : sectT l p id = ⟨(0, 0), 0, (numT l (p + 1) 65536).e, (numT l (p + 1) 65536).f⟩ := by unfold sectT; rw [if_neg (by simpa using h0), if_neg (by simpa using hv), if_pos he]
  rw [ht]
  have hq := byteT_q h0
  have hk2 : ∀ w1, RW w1 b ⟨l, p + 1, e0, f⟩ → _ := fun w1 h1 => num_any b ⟨l, p + 1, e0, f⟩ 65536 w1 h1 (by omega) (by omega)
  dsimp only at hk2
  generalize numT l (p + 1) 65536 = rn at *
  obtain ⟨nv, nq, ne, nf⟩ := rn
  generalize byteT l p = r at *
  obtain ⟨v, q, e, g⟩ := r
  dsimp only at *
  subst h0
  obtain ⟨rfl, hlt⟩ := hq
  have hb1 : ((v : Int) != (id : Int)) = false := by simp; omega
  have HE := Lib.hid he
  have HK := Lib.hid hk
  have HK2 := Lib.hid hk2
  clear hk ht he hv hk2
  go_enter Tryd.func60, Tryd.ntmps60
  go_wp2_with (first | (go_at_call 84; refine HK.out.mono ?_; rintro e w' (⟨_, rfl, hr, hbt⟩ | ⟨hx, _⟩); rotate_left; exact absurd rfl hx; have HR := Lib.hid hr; clear hr; have HT := Lib.hid hbt; clear hbt) |
    (go_at_call 86; refine (HK2.out _ HR.out).mono ?_; rintro e w' (⟨hx, _⟩ | ⟨_, rfl, hr2, hbt2⟩); exact absurd hx HE.out; have HR2 := Lib.hid hr2; clear hr2; have HT2 := Lib.hid hbt2; clear hbt2))
  exact ⟨rfl, .inr ⟨HE.out, rfl, HR2.out, HT.out.trans HT2.out⟩⟩

set_option maxRecDepth 100000 in
set_option maxHeartbeats 800000 in
/-- a number behind the id: too few bytes behind it, or another sum, or a section -/
theorem sect_rest (b : Nat) (s : Rs) (id : Nat) (w : World) (tab : crc.Tab w) (h : RW w b s) (h0 : (byteT s.l s.p).e = 0) (hv : (byteT s.l s.p).v = id) (he : (numT s.l (s.p + 1) 65536).e = 0) :
    Calls Tryd.prog 60 #[.pointer (some ⟨b, 0, none⟩), .int .u8 (id : Int)] w (Sect b s (sectT s.l s.p id) w) := by
  obtain ⟨A, c, c0, c1, c2, c3, fz, hh, hc, hb, hp, hl⟩ := parts h
  have hby := h.1.byte
  have hk := byte_any b s w h
  have hta : ∀ w1, But b w w1 → crc.Tab w1 := fun w1 hx => tab_but tab h hx
  have HTa := Lib.hid hta
  have hlt := h.lt
  obtain ⟨l, p, e0, f⟩ := s
  dsimp only at *
  clear h fz hh hc hb c0 c2 c3 hta
  have hq := byteT_q h0
  have hno := numT_ok (m := 65536) (show p + 1 ≤ l.length by omega) hby he
  have hnv : (numT l (p + 1) 65536).v ≤ 65536 := by rw [hno.2.1]; have := hno.2.2.1; omega
  have hnq := hno.2.2.2.2.1
  have ht : sectT l p id = if l.length - (numT l (p + 1) 65536).q < (numT l (p + 1) 65536).v + 4 then ⟨(0, 0), 0, 2, (numT l (p + 1) 65536).q⟩
      else if (openL ((l.drop (numT l (p + 1) 65536).q).take ((numT l (p + 1) 65536).v + 4))).2 ≠ 0 then ⟨(0, 0), 0, (openL ((l.drop (numT l (p + 1) 65536).q).take ((numT l (p + 1) 65536).v + 4))).2, (numT l (p + 1) 65536).q⟩
      else ⟨((numT l (p + 1) 65536).q, (numT l (p + 1) 65536).v), (numT l (p + 1) 65536).q + (numT l (p + 1) 65536).v + 4, 0, 0⟩ := by
    unfold sectT; rw [if_neg (by simpa using h0), if_neg (by simpa using hv), if_neg (by simpa using he)]
  rw [ht]
  have hk2 : ∀ w1, RW w1 b ⟨l, p + 1, e0, f⟩ → _ := fun w1 h1 => num_any b ⟨l, p + 1, e0, f⟩ 65536 w1 h1 (by omega) (by omega)
  dsimp only at hk2
  generalize numT l (p + 1) 65536 = rn at *
  obtain ⟨nv, nq, ne, nf⟩ := rn
  generalize byteT l p = r at *
  obtain ⟨v, q, e, g⟩ := r
  dsimp only at *
  subst h0 he
  obtain ⟨rfl, hlt2⟩ := hq
  have hb1 : ((v : Int) != (id : Int)) = false := by simp; omega
  have hk3 : ∀ w1, RW w1 b ⟨l, nq, e0, f⟩ → _ := fun w1 h1 => bytes_any b ⟨l, nq, e0, f⟩ (nv + 4) w1 h1 (by omega)
  dsimp only at hk3
  rw [show ((nv + 4 : Nat) : Int) = (nv : Int) + 4 from rfl] at hk3
  have hvI : (nv : Int) ≤ 65536 := by omega
  have HK := Lib.hid hk
  have HK2 := Lib.hid hk2
  clear hk ht hv hk2 hno
  by_cases hsh : l.length - nq < nv + 4
  · rw [if_pos hsh]
    have hbt : bytesT l nq (nv + 4) = ⟨[], 0, 2, nq⟩ := by unfold bytesT; rw [if_pos hsh]
    rw [hbt] at hk3
    have HK3 := Lib.hid hk3
    clear hk3 hbt hby
    go_enter Tryd.func60, Tryd.ntmps60
    go_wp2_with fail
    refine HK.out.mono ?_
    rintro e w1 (⟨_, rfl, hr, hbt⟩ | ⟨hx, _⟩)
    rotate_left
    · exact absurd rfl hx
    have HR := Lib.hid hr; clear hr; have HT := Lib.hid hbt; clear hbt
    go_wp2_with fail
    refine (HK2.out _ HR.out).mono ?_
    rintro e w2 (⟨_, rfl, hr2, hbt2⟩ | ⟨hx, _⟩)
    rotate_left
    · exact absurd rfl hx
    have HR2 := Lib.hid hr2; have HT2 := Lib.hid hbt2; clear hbt2
    obtain ⟨A2, d2, _, k1, _, _, _, _, _, _, _, _⟩ := parts hr2
    dsimp only at k1
    clear hr2
    go_wp2_with fail
    refine (HK3.out _ HR2.out).mono ?_
    rintro e w3 (⟨hx, _⟩ | ⟨_, rfl, hr3, hbt3⟩)
    · cases hx
    exact ⟨rfl, .inr ⟨by simp, rfl, ⟨_, hr3⟩, (HT.out.trans HT2.out).trans hbt3⟩⟩
  · rw [if_neg hsh]
    have hbt : bytesT l nq (nv + 4) = ⟨(l.drop nq).take (nv + 4), nq + (nv + 4), 0, 0⟩ := by unfold bytesT; rw [if_neg hsh]
    rw [hbt] at hk3
    have hbl : ∀ x ∈ (l.drop nq).take (nv + 4), x < 256 := fun x hx => hby x (List.mem_of_mem_drop (List.mem_of_mem_take hx))
    generalize (l.drop nq).take (nv + 4) = X at *
    have hoe := openL_e X
    have HK3 := Lib.hid hk3
    have HBL := Lib.hid hbl
    clear hk3 hbt hbl
    by_cases hop : (openL X).2 = 0
    · rw [if_neg (by simpa using hop)]
      have HOP := Lib.hid hop
      clear hop hoe
      have hbyt := Lib.hid hby
      clear hby
      have hwI : IntKind.i64.wrap ((nq : Int) + nv) = (nq : Int) + nv := IntWalk.i64_in _ (by omega)
      go_enter Tryd.func60, Tryd.ntmps60
      go_wp2_with fail
      refine HK.out.mono ?_
      rintro e w1 (⟨_, rfl, hr, hbt⟩ | ⟨hx, _⟩)
      rotate_left
      · exact absurd rfl hx
      have HR := Lib.hid hr; clear hr; have HT := Lib.hid hbt; clear hbt
      go_wp2_with fail
      refine (HK2.out _ HR.out).mono ?_
      rintro e w2 (⟨_, rfl, hr2, hbt2⟩ | ⟨hx, _⟩)
      rotate_left
      · exact absurd rfl hx
      have HR2 := Lib.hid hr2; have HT2 := Lib.hid hbt2; clear hbt2
      obtain ⟨A2, d2, _, k1, _, _, _, _, _, _, _, _⟩ := parts hr2
      dsimp only at k1
      clear hr2
      go_wp2_with fail
      refine (HK3.out _ HR2.out).mono ?_
      rintro e w3 (⟨_, ⟨A3, d3, rfl, hd3, hl3, hb3⟩, hr3, hbt3⟩ | ⟨hx, _⟩)
      rotate_left
      · exact absurd rfl hx
      dsimp only at *
      have hW3 := (HT.out.trans HT2.out).trans hbt3
      have HW3 := Lib.hid hW3
      have htb := HTa.out _ hW3
      have hopn : Calls Tryd.prog 87 #[.slice A3 (nv + 4) d3] w3 fun e w' => ∃ v, e = .returned (.tuple #[v, .int .i64 ((openL X).2 : Int)]) ∧ Below w3.heap.size w3 w' :=
        (open_any A3 (nv + 4) d3 X w3 htb hb3.rd hl3 hd3 (by omega) HBL.out).mono fun e w' ⟨v, h1, _, h2⟩ => ⟨v, h1, h2⟩
      rw [HOP.out] at hopn
      have HOPN := Lib.hid hopn
      have HR3 := Lib.hid hr3
      clear hbt3 hl3 hb3 hW3 htb hopn k1 hr3
      go_wp2_with fail
      refine HOPN.out.mono ?_
      rintro e w4 ⟨v4, rfl, hb4⟩
      have hr4 := HR3.out.below hb4
      have HR4 := Lib.hid hr4
      obtain ⟨A4, d4, q0, _, _, _, _, q1, hle4, hbs4, _, _⟩ := parts hr4
      dsimp only at q0 hle4 hbs4
      obtain ⟨A5, hcut, hrun⟩ := cutH A4 l.length d4 (nq + nv) (by omega)
      rw [show ((nq + nv : Nat) : Int) = (nq : Int) + nv from rfl] at hrun
      have hbs5 := hcut _ _ hbs4
      have HB5 := Lib.hid hbs5
      have hlen5 : (l.take (nq + nv)).length = nq + nv := by rw [List.length_take]; omega
      have HL5 := Lib.hid hlen5
      have HB4 := Lib.hid hb4
      clear hb4 hr4 q1 hbs4 hcut hbs5 hlen5
      go_wp2
      go_ret
      have hB4 := HB4.out
      have hbut : But b w w4 := HW3.out.trans (But.of hB4)
      refine .inl ⟨rfl, ⟨_, rfl, hbut.size, ?_⟩, ?_, hbut.alloc _⟩
      · exact new_rw HL5.out (by omega) HB5.out (by omega) (by omega) (fun x hx => hbyt.out x (List.mem_of_mem_take hx))
      · have := HR4.out.below ((Below.refl _ _).alloc (Nat.le_refl _) (Obj.cells #[Value.slice A5 (nq + nv) d4, Value.int IntKind.i64 ↑nq, Value.int IntKind.i64 0, Value.int IntKind.i64 0] 72))
        simpa [Nat.add_assoc] using this
    · rw [if_pos hop]
      have HOP := Lib.hid hop
      have hne2 : (((openL X).2 : Int) != 0) = true := by simp; omega
      generalize hY : (openL X).2 = Y at *
      have HY := Lib.hid hY
      clear hop hoe hby hY
      go_enter Tryd.func60, Tryd.ntmps60
      go_wp2_with fail
      refine HK.out.mono ?_
      rintro e w1 (⟨_, rfl, hr, hbt⟩ | ⟨hx, _⟩)
      rotate_left
      · exact absurd rfl hx
      have HR := Lib.hid hr; clear hr; have HT := Lib.hid hbt; clear hbt
      go_wp2_with fail
      refine (HK2.out _ HR.out).mono ?_
      rintro e w2 (⟨_, rfl, hr2, hbt2⟩ | ⟨hx, _⟩)
      rotate_left
      · exact absurd rfl hx
      have HR2 := Lib.hid hr2; have HT2 := Lib.hid hbt2; clear hbt2
      obtain ⟨A2, d2, _, k1, _, _, _, _, _, _, _, _⟩ := parts hr2
      dsimp only at k1
      clear hr2
      go_wp2_with fail
      refine (HK3.out _ HR2.out).mono ?_
      rintro e w3 (⟨_, ⟨A3, d3, rfl, hd3, hl3, hb3⟩, hr3, hbt3⟩ | ⟨hx, _⟩)
      rotate_left
      · exact absurd rfl hx
      dsimp only at *
      have hW3 := (HT.out.trans HT2.out).trans hbt3
      have HW3 := Lib.hid hW3
      have htb := HTa.out _ hW3
      have hopn : Calls Tryd.prog 87 #[.slice A3 (nv + 4) d3] w3 fun e w' => ∃ v, e = .returned (.tuple #[v, .int .i64 ((openL X).2 : Int)]) ∧ Below w3.heap.size w3 w' :=
        (open_any A3 (nv + 4) d3 X w3 htb hb3.rd hl3 hd3 (by omega) HBL.out).mono fun e w' ⟨v, h1, _, h2⟩ => ⟨v, h1, h2⟩
      rw [HY.out] at hopn
      have HOPN := Lib.hid hopn
      have HR3 := Lib.hid hr3
      clear hbt3 hl3 hb3 hW3 htb hopn k1 hr3
      go_wp2_with fail
      refine HOPN.out.mono ?_
      rintro e w4 ⟨v4, rfl, hb4⟩
      have HB4 := Lib.hid hb4
      clear hb4
      go_wp2_with (go_at_call 85; refine (give_any _ _ _).mono ?_; rintro e w' ⟨rfl, rfl⟩)
      exact ⟨rfl, .inr ⟨HOP.out, rfl, ⟨_, HR3.out.below HB4.out⟩, HW3.out.trans (But.of HB4.out)⟩⟩

/-- A SECTION, whatever stands there. -/
theorem sect_any (b : Nat) (s : Rs) (id : Nat) (w : World) (tab : crc.Tab w) (h : RW w b s) :
    Calls Tryd.prog 60 #[.pointer (some ⟨b, 0, none⟩), .int .u8 (id : Int)] w (Sect b s (sectT s.l s.p id) w) := by
  by_cases h0 : (byteT s.l s.p).e = 0
  · by_cases hv : (byteT s.l s.p).v = id
    · by_cases he : (numT s.l (s.p + 1) 65536).e = 0
      · exact sect_rest b s id w tab h h0 hv he
      · exact sect_num b s id w h h0 hv he
    · exact sect_first b s id w h (.inr hv)
  · exact sect_first b s id w h (.inl h0)
end Go.Proofs.YtcpjllkfgoaamaaDoor.give

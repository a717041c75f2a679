/-
 Layer 11: a class and those above it: the program's answer.
-/
import Derived.Test.YtgpfohpmgbnimaaNormO
import Derived.Test.YtgpfohpmgbnimaaNormN
namespace Go.Proofs.Ytgpfohpmgbnimaa.prg
open Go.RowKit
open words kindp opp op kind word

/-- the first class of a name -/
def findC (cs : List ClM) (s : Tx) : Option ClM := cs.find? fun y => y.nm == s
theorem idx_at {α : Type} {P : α → Bool} : ∀ {l : List α} {k : Nat} {x : α}, l[k]? = some x → P x = true → (∀ t ∈ l.take k, P t = false) → l.findIdx? P = some k ∧ l.find? P = some x
  | [], _, _, h, _, _ => by simp at h
  | y :: l, 0, x, h, hp, _ => by
    simp at h; subst h
    exact ⟨by simp [List.findIdx?_cons, hp], by simp [hp]⟩
  | y :: l, k + 1, x, h, hp, ha => by
    have hy : P y = false := ha y (by simp)
    obtain ⟨h1, h2⟩ := idx_at (l := l) (k := k) (x := x) (by simpa using h) hp (fun t ht => ha t (by simp [ht]))
    exact ⟨by simp [List.findIdx?_cons, hy, h1], by simp [hy, h2]⟩
theorem idx_no {α : Type} {P : α → Bool} {l : List α} (h : ∀ t ∈ l, P t = false) : l.findIdx? P = none ∧ l.find? P = none := by
  induction l with
  | nil => exact ⟨rfl, rfl⟩
  | cons y l ih =>
    have hy : P y = false := h y (by simp)
    obtain ⟨h1, h2⟩ := ih fun t ht => h t (by simp [ht])
    exact ⟨by simp [List.findIdx?_cons, hy, h1], by simp [hy, h2]⟩
theorem idx_two {α : Type} {P : α → Bool} {l : List α} {r : Int} (h : Idx P l r) : (r = -1 ∧ l.findIdx? P = none ∧ l.find? P = none) ∨ ∃ k x, r = ((k : Nat) : Int) ∧ l[k]? = some x ∧ P x = true ∧ l.findIdx? P = some k ∧ l.find? P = some x := by
  rcases h with ⟨rfl, h⟩ | ⟨k, x, rfl, hx, hp, ha⟩
  · exact .inl ⟨rfl, idx_no h⟩
  · exact .inr ⟨k, x, rfl, hx, hp, idx_at hx hp ha⟩

/-- a class and those above it, of so many more -/
def supS (cs : List ClM) : Nat → Tx → List Tx → List Tx
  | 0, _, l => l
  | f + 1, s, l => match findC cs s with
    | none => l
    | some c => if l.contains s then l else supS cs f c.su (l ++ [s])
def supersL (cs : List ClM) (s : Tx) : List Tx := supS cs (cs.length + 1) s []
theorem len_sub {α : Type} [BEq α] [LawfulBEq α] : ∀ {l m : List α}, l.Nodup → (∀ x ∈ l, x ∈ m) → l.length ≤ m.length
  | [], _, _, _ => Nat.zero_le _
  | x :: l, m, hn, hs => by
    rw [List.nodup_cons] at hn
    have hx : x ∈ m := hs x (by simp)
    have h1 := len_sub (l := l) (m := m.erase x) hn.2 fun y hy => (List.mem_erase_of_ne (fun e => hn.1 (by rw [← e]; exact hy))).2 (hs y (by simp [hy]))
    rw [List.length_erase_of_mem hx] at h1
    have := List.length_pos_of_mem hx
    simp only [List.length_cons]; omega
theorem findC_nm {cs : List ClM} {s : Tx} {c : ClM} (h : findC cs s = some c) : c.nm = s ∧ c ∈ cs := by
  have h1 := List.find?_some h
  exact ⟨by simpa using h1, List.mem_of_find?_eq_some h⟩
def SupI (cs : List ClM) (L : List Tx) (s : Tx) (out : List Tx) (f : Nat) : Prop := supS cs f s out = L ∧ out.length + f = cs.length + 1 ∧ out.Nodup ∧ ∀ o ∈ out, (findC cs o).isSome = true
theorem SupI.start (cs : List ClM) (s : Tx) : SupI cs (supersL cs s) s [] (cs.length + 1) := ⟨rfl, by simp, List.nodup_nil, by simp⟩
theorem SupI.len {cs : List ClM} {L : List Tx} {s : Tx} {out : List Tx} {f : Nat} (h : SupI cs L s out f) : out.length ≤ cs.length := by
  have := len_sub (m := cs.map (·.nm)) h.2.2.1 fun o ho => by
    obtain ⟨c, hc⟩ := Option.isSome_iff_exists.1 (h.2.2.2 o ho)
    obtain ⟨e, hm⟩ := findC_nm hc
    exact List.mem_map.2 ⟨c, hm, e⟩
  simpa using this
theorem SupI.pos {cs : List ClM} {L : List Tx} {s : Tx} {out : List Tx} {f : Nat} (h : SupI cs L s out f) : ∃ g, f = g + 1 := by
  have := h.len; have := h.2.1
  exact ⟨f - 1, by omega⟩
theorem SupI.none {cs : List ClM} {L : List Tx} {s : Tx} {out : List Tx} {f : Nat} (h : SupI cs L s out f) (hn : findC cs s = none) : out = L := by
  obtain ⟨g, rfl⟩ := h.pos
  have := h.1; unfold supS at this; rw [hn] at this; exact this
theorem SupI.had {cs : List ClM} {L : List Tx} {s : Tx} {out : List Tx} {f : Nat} (h : SupI cs L s out f) (hn : out.contains s = true) : out = L := by
  obtain ⟨g, rfl⟩ := h.pos
  have := h.1; unfold supS at this; rw [hn] at this
  cases hf : findC cs s with
  | none => rw [hf] at this; exact this
  | some c => rw [hf] at this; simpa using this
theorem SupI.next {cs : List ClM} {L : List Tx} {s : Tx} {out : List Tx} {f : Nat} {c : ClM} (h : SupI cs L s out f) (hc : findC cs s = some c) (hn : out.contains s = false) : SupI cs L c.su (out ++ [s]) (f - 1) := by
  obtain ⟨g, rfl⟩ := h.pos
  have h1 := h.1; unfold supS at h1; rw [hc, hn] at h1
  have hm : s ∉ out := fun hm => by rw [List.contains_iff_mem.2 hm] at hn; cases hn
  refine ⟨by simpa using h1, by have := h.2.1; simp; omega, ?_, fun o ho => ?_⟩
  · rw [List.nodup_append]; exact ⟨h.2.2.1, by simp, fun a ha b hb e => by simp at hb; subst hb; subst e; exact hm ha⟩
  · rcases List.mem_append.1 ho with h2 | h2
    · exact h.2.2.2 o h2
    · simp at h2; subst h2; rw [hc]; rfl

set_option maxRecDepth 100000 in
set_option maxHeartbeats 4000000 in
set_option linter.all false in
theorem index_s (A : Option Addr) (c : Nat) (l : List Tx) (s : Tx) (w : World) (hr : Rd w A (SX l)) (hl : l.length ≤ 281474976710656) :
    Calls Try.prog 58 #[.slice A l.length c, .string ⟨s.toArray⟩] w fun e w' => ∃ r, e = .returned (.int .i64 r) ∧ Idx (fun y : Tx => s == y) l r ∧ Below w.heap.size w w' := by
  obtain ⟨n, hn⟩ : ∃ n, n = l.length := ⟨_, rfl⟩
  rw [← hn] at hl ⊢
  have hnI : (n : Int) ≤ 281474976710656 := by omega
  have HN := Lib.hid hn; have HRD := Lib.hid hr
  clear hr hn hl
  go_enter Try.func58, Try.ntmps58
  go_wp2
  go_loopw [8] (fun i wr => ∃ k : Nat, i = .int .i64 (k : Int) ∧ k ≤ n ∧ (∀ t ∈ l.take k, (fun y : Tx => s == y) t = false) ∧ Below w.heap.size w wr) (fun i _ => n - (intOf i).toNat)
  case atStart => exact ⟨0, rfl, Nat.zero_le _, by simp, Below.refl _ _⟩
  case round =>
    obtain ⟨k, rfl, hk, hall, hbw⟩ := hrel
    have HA := Lib.hid hall; have HB := Lib.hid hbw
    clear hall
    by_cases hlt : k < n
    · have hltI : (k : Int) < (n : Int) := by omega
      obtain ⟨y, hy⟩ : ∃ y, l[k]? = some y := ⟨l[k]'(by rw [← HN.out]; exact hlt), List.getElem?_eq_getElem _⟩
      obtain ⟨a, rfl, _, hcell⟩ := (HRD.out.below hbw).at_ (sx_get hy)
      have hmt := take_more (P := (fun y : Tx => s == y)) HA.out hy
      cases hsy : (s == y) with
      | true =>
        have HI := Lib.hid (show Idx (fun y : Tx => s == y) l (k : Int) from .inr ⟨k, _, rfl, hy, hsy, HA.out⟩)
        clear hy hmt hbw
        go_wp2
        go_ret
        exact ⟨_, rfl, HI.out, HB.out⟩
      | false =>
        have HM := Lib.hid (hmt hsy)
        clear hy hmt hbw
        go_wp2
        go_roundw
        case rel => exact ⟨k + 1, by go_num, by omega, HM.out, HB.out⟩
        case measure => simp [intOf]; omega
    · have hltI : ¬ (k : Int) < (n : Int) := by omega
      have hall := HA.out
      rw [List.take_of_length_le (by rw [← HN.out]; omega)] at hall
      have HI := Lib.hid (show Idx (fun y : Tx => s == y) l (-1) from .inl ⟨rfl, hall⟩)
      clear hall hbw
      go_wp2
      go_ret
      exact ⟨_, rfl, HI.out, HB.out⟩

theorem has_two {l : List Tx} {s : Tx} {r : Int} (h : Idx (fun y : Tx => s == y) l r) : (r = -1 ∧ l.contains s = false) ∨ ∃ k : Nat, r = (k : Int) ∧ l.contains s = true := by
  rcases h with ⟨rfl, h⟩ | ⟨k, x, rfl, hx, hp, -⟩
  · refine .inl ⟨rfl, ?_⟩
    cases hc : l.contains s with
    | false => rfl
    | true => have := h s (List.contains_iff_mem.1 hc); simp at this
  · refine .inr ⟨k, rfl, List.contains_iff_mem.2 ?_⟩
    have e : s = x := by simpa using hp
    rw [e]; exact List.mem_of_getElem? hx

set_option maxRecDepth 100000 in
set_option maxHeartbeats 4000000 in
set_option linter.all false in
theorem has_s (A : Option Addr) (c : Nat) (l : List Tx) (s : Tx) (w : World) (hr : Rd w A (SX l)) (hl : l.length ≤ 281474976710656) :
    Calls Try.prog 31 #[.slice A l.length c, .string ⟨s.toArray⟩] w fun e w' => e = .returned (.bool (l.contains s)) ∧ Below w.heap.size w w' := by
  have HIX := Lib.hid (index_s A c l s w hr hl)
  clear hr hl
  go_enter Try.func31, Try.ntmps31
  go_wp2_with fail
  refine HIX.out.mono ?_
  rintro e w' ⟨r, rfl, hi, hb⟩
  have HB := Lib.hid hb
  clear hb
  rcases has_two hi with ⟨rfl, h⟩ | ⟨k, rfl, h⟩
  · clear hi
    go_wp2
    go_ret
    exact ⟨by rw [h]; first | rfl | simp, HB.out⟩
  · have hk : (0 : Int) ≤ (k : Int) := by omega
    clear hi
    go_wp2
    go_ret
    exact ⟨by rw [h]; first | rfl | simp, HB.out⟩

def lenV : Value → Nat
  | .slice _ n _ => n
  | _ => 0
set_option maxRecDepth 100000 in
theorem infoSt : (Try.prog.info? 9).map (fun i => (i.zero, i.size, i.bytes)) = some (some (.string ⟨#[]⟩), 1, 16) := by kernel_rfl
/-- what Supers answers -/
def SupP (cs : List ClM) (s : Tx) (w : World) (e : Ending) (w' : World) : Prop := (∃ A c, e = .returned (.slice A (supersL cs s).length c) ∧ (supersL cs s).length ≤ c ∧ Rd w' A (SX (supersL cs s))) ∧ Below w.heap.size w w'

set_option maxRecDepth 100000 in
set_option maxHeartbeats 8000000 in
set_option linter.all false in
theorem supers_w (x : PrM) (s0 : Tx) (w : World) (hk : PrOk w x) (hg : GrP x) : Calls Try.prog 20 #[.agg (prC x).toArray, .string ⟨s0.toArray⟩] w (SupP x.cs s0 w) := by
  obtain ⟨i0, hi0, hz0, hz1, hz2⟩ := info_parts infoSt
  obtain ⟨cs, A1, c1, ns, A2, c2, ec, en, ed⟩ := x
  obtain ⟨L, hL⟩ : ∃ L, L = supersL cs s0 := ⟨_, rfl⟩
  have HS0 := Lib.hid (show SupI cs L s0 [] (cs.length + 1) from by rw [hL]; exact SupI.start _ _)
  unfold SupP
  dsimp only
  rw [← hL]
  clear hL
  obtain ⟨W, hW⟩ : ∃ W, W = w.alloc (.cells (prC ⟨cs, A1, c1, ns, A2, c2, ec, en, ed⟩).toArray 27) := ⟨_, rfl⟩
  have hal : Below w.heap.size w W := by rw [hW]; exact (Below.refl _ w).alloc (Nat.le_refl _) _
  have hblk : W.heap[w.heap.size]? = some (.cells (prC ⟨cs, A1, c1, ns, A2, c2, ec, en, ed⟩).toArray 27 (0, 0)) := by rw [hW]; exact heap_alloc_new w _
  have HAL := Lib.hid hal; have HBK := Lib.hid hblk; have HLT := Lib.hid (blk_lt hblk)
  have HPL := Lib.hid (fun (s : Tx) (v : World) (hv : Below W.heap.size W v) => place_cl ⟨cs, A1, c1, ns, A2, c2, ec, en, ed⟩ s v ((hk.1.2.below hal).below hv) (by have := hg.1.1; omega))
  have HRD := Lib.hid (fun (v : World) (hv : Below W.heap.size W v) => show Rd v A1 (cs.flatMap clC) from (hk.1.2.below hal).below hv)
  obtain ⟨n, hn⟩ : ∃ n, n = cs.length := ⟨_, rfl⟩
  have HN := Lib.hid hn
  have nI : (n : Int) ≤ 70 := by have : cs.length ≤ 70 := hg.1.1; omega
  have HCE := Lib.hid (show ∀ v : World, Below W.heap.size W v → v.cell? ⟨w.heap.size, 0, none⟩ = some (.slice A1 n c1) ∧ v.cell? ⟨w.heap.size, 1, none⟩ = some (.slice A2 ns.length c2) ∧ v.cell? ⟨w.heap.size, 2, none⟩ = some (.string ⟨ec.toArray⟩) ∧ v.cell? ⟨w.heap.size, 3, none⟩ = some (.string ⟨en.toArray⟩) ∧ v.cell? ⟨w.heap.size, 4, none⟩ = some (.string ⟨ed.toArray⟩) from fun v hv => by rw [hn]; exact pr_cells ((hv.block _ HLT.out).trans HBK.out))
  have HLE := Lib.hid (fun s out f (h : SupI cs L s out f) => show out.length ≤ n from by rw [hn]; exact h.len)
  unfold prC at hW HPL ⊢
  try dsimp only at hW HPL ⊢
  rw [← hn] at hW HPL ⊢
  have HW := Lib.hid hW
  obtain ⟨x0, x1, x2, x3, x4⟩ := HCE.out _ (Below.refl _ _)
  clear hal hblk hW hk hg hn
  go_enter Try.func20, Try.ntmps20
  go_wp2_with fail
  rw [← HW.out]
  (try go_wp2_with fail)
  clear x0 x1 x2 x3 x4
  refine (HPL.out s0 W (Below.refl _ _)).mono ?_
  rintro e w1 ⟨r, rfl, hix, hb1⟩
  have HX1 := Lib.hid hix; have HB1 := Lib.hid hb1
  clear hix hb1
  go_wp2_with fail
  go_loopw [1, 5, 6] (fun nm v a wr => ∃ (s : Tx) (out : List Tx) (f : Nat) (r : Int), nm = .string ⟨s.toArray⟩ ∧ a = .int .i64 r ∧ Idx (fun y : ClM => y.nm == s) cs r ∧ SupI cs L s out f ∧ wr.ownsRow W.heap.size 9 1 v out.length (SX out) ∧ Below W.heap.size W wr) (fun _ v _ _ => n + 1 - lenV v)
  case atStart => exact ⟨s0, [], _, r, rfl, rfl, HX1.out, HS0.out, World.ownsRow_nil _ _ _ _, HB1.out⟩
  case round =>
    obtain ⟨s, out, f, r, rfl, rfl, hix, hsi, hown, hbw⟩ := hrel
    obtain ⟨wa, hwa⟩ : ∃ u, u = wr := ⟨_, rfl⟩
    subst hwa
    obtain ⟨B, d, rfl, hnd, -, hrd⟩ := own_rd hown
    have HO := Lib.hid hown; have HB := Lib.hid hbw; have HSI := Lib.hid hsi
    have hol := HLE.out _ _ _ hsi
    have hsz := hbw.size
    have hoI : (out.length : Int) ≤ 70 := by omega
    have HHS := Lib.hid (has_s B d out s wa hrd (by omega))
    obtain ⟨m, hm⟩ : ∃ m, m = out.length := ⟨_, rfl⟩
    rw [← hm] at HO HHS hol hoI hnd ⊢
    have HM := Lib.hid hm
    have HRT := Lib.hid (fun (u : World) (hu : Below wa.heap.size wa u) (e : out = L) => show (∃ A c, Ending.returned (.slice B m d) = .returned (.slice A L.length c) ∧ L.length ≤ c ∧ Rd u A (SX L)) ∧ Below w.heap.size w u from ⟨⟨B, d, by rw [← e, hm], by rw [← e, ← hm]; exact hnd, by rw [← e]; exact hrd.below hu⟩, HAL.out.trans ((hbw.mono HAL.out.size).trans (hu.mono (Nat.le_trans HAL.out.size hsz)))⟩)
    rcases idx_two hix with ⟨rfl, -, hf⟩ | ⟨k, y, rfl, hy, -, -, hf⟩
    · have HRE := Lib.hid (HRT.out wa (Below.refl _ _) (hsi.none hf))
      clear hix hsi hown hbw hrd hm hf
      go_wp2
      go_ret
      exact HRE.out
    · cases hh : out.contains s with
      | true =>
        rw [hh] at HHS
        have HRE := Lib.hid (fun u hu => HRT.out u hu (hsi.had hh))
        have hkI : ((k : Int) != -1) = true := by simp
        clear hix hsi hown hbw hrd hm hf hh hy
        go_wp2_with fail
        refine HHS.out.mono ?_
        rintro e w2 ⟨rfl, hb2⟩
        have HB2 := Lib.hid hb2
        clear hb2
        go_wp2
        go_ret
        exact HRE.out _ HB2.out
      | false =>
        rw [hh] at HHS
        have HNX := Lib.hid (hsi.next hf hh)
        have hkI : ((k : Int) != -1) = true := by simp
        have hkn : k < n := by rw [HN.out]; exact (List.getElem?_eq_some_iff.1 hy).1
        have hknI : (k : Int) < (n : Int) := by omega
        have HY := Lib.hid hy
        obtain ⟨a, rfl, -⟩ := cl_at (HRD.out _ hbw) hy
        clear hix hsi hown hbw hrd hm hf hh hy HRT
        go_wp2_with fail
        refine HHS.out.mono ?_
        rintro e w2 ⟨rfl, hb2⟩
        have HB2 := Lib.hid (HB.out.trans (hb2.mono hsz))
        have HO2 := Lib.hid (own_below HO.out hb2)
        have hs2 := HB2.out.size
        clear hb2
        go_wp2_with (at_builtin; refine wpList_app _ rfl (.tmp 21) (.tmp 23) _ rfl W.heap.size 9 i0 _ 1 16 Try.underlying23 hi0 hz0 hz1 hz2 rfl (by omega) _ m (SX out) rfl (HO2.out.alloc _) _ 1 1 [_] rfl rfl (rd_blk (heap_alloc_new w2 _) (k := 1) rfl) (by simp [Value.oneCell']) (by simp only [maxLen]; omega) (by omega) (by first | (simp; omega) | omega) ?_; intro v3 w3 hown3 hg3 hb3 hat3; clear hg3 hat3; have HB3 := Lib.hid ((HB2.out.alloc hs2 _).trans hb3); obtain ⟨y0, y1, y2, y3, y4⟩ := HCE.out _ HB3.out; obtain ⟨a', ea, ha, q0, q1, q2, q3, q4, q5, q6⟩ := cl_at (HRD.out _ HB3.out) HY.out; cases ea)
        have hown4 : w3.ownsRow W.heap.size 9 1 v3 (out ++ [s]).length (SX (out ++ [s])) := by rw [SX_app, List.length_append, ← HM.out]; exact hown3
        have HO4 := Lib.hid hown4
        have hl3 : lenV v3 = m + 1 := by
          obtain ⟨B', d', rfl, -, -, -⟩ := own_rd hown3
          rfl
        have HL3 := Lib.hid hl3
        obtain ⟨z0, z1, z2, z3, z4⟩ := HCE.out _ HB3.out
        clear y0 y1 y2 y3 y4 q0 q1 q2 q3 q4 q5 q6 hown3 hown4 hb3 hl3
        try go_wp2_with fail
        refine (HPL.out y.su w3 HB3.out).mono ?_
        rintro e w4 ⟨r4, rfl, hix4, hb4⟩
        have HX4 := Lib.hid hix4
        have HB4 := Lib.hid (HB3.out.trans (hb4.mono HB3.out.size))
        have HO5 := Lib.hid (own_below HO4.out hb4)
        clear hb4 hix4 z0 z1 z2 z3 z4
        go_wp2
        go_roundw
        case rel => exact ⟨y.su, out ++ [s], _, r4, rfl, rfl, HX4.out, HNX.out, HO5.out, HB4.out⟩
        case measure => first | (rw [HL3.out]; simp only [lenV]; omega) | (simp [lenV] at HL3 ⊢; omega)
end Go.Proofs.Ytgpfohpmgbnimaa.prg

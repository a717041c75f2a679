/-
  Layer 11: the nearest class that two are below; whether names are unlike.
-/
import Derived.Test.YtgpfohpmgbnimaaHierB
import Derived.Test.YtgpfohpmgbnimaaHierL
import Derived.Test.YtgpfohpmgbnimaaNormRp
/- Layer 11, of no program: the classes above one, one behind the other; the nearest class that two are below, where nothing is wrong and names are unlike. -/
namespace Go.Proofs.Ytgpfohpmgbnimaa.prg
open Go.RowKit
open words kindp opp op kind word
set_option linter.all false

/-- a class and those above it -/
inductive Chn (cs : List ClM) : Tx → List Tx → Prop where
 | none {s : Tx} (h : findC cs s = none) : Chn cs s []
 | more {s : Tx} {c : ClM} {L : List Tx} (h : findC cs s = some c) (k : Chn cs c.su L) : Chn cs s (s :: L)
theorem has_of {cs : List ClM} {s : Tx} {c : ClM} (h : findC cs s = some c) : hasC cs s = true := by unfold hasC; rw [h]; rfl
theorem su_abv {cs : List ClM} {s : Tx} {c : ClM} (h : findC cs s = some c) : c.su ∈ abvN cs s := by unfold abvN; rw [h]; simp [abv]
theorem chn_sup {cs : List ClM} (hc : ∀ c ∈ cs, cycB cs c = false) : ∀ (f : Nat) (s : Tx) (l : List Tx), l.length + f = cs.length + 1 → l.Nodup → (∀ o ∈ l, (findC cs o).isSome = true) →
  (∀ x ∈ l, ∀ c, findC cs s = some c → Reach cs (abvN cs x) s) → ∃ r, supS cs f s l = l ++ r ∧ Chn cs s r
 | 0, s, l, hl, hn, hs, _ => by
  exfalso
  have := len_sub (m := cs.map (·.nm)) hn fun o ho => by
   obtain ⟨c, hc⟩ := Option.isSome_iff_exists.1 (hs o ho)
   obtain ⟨e, hm⟩ := findC_nm hc
   exact List.mem_map.2 ⟨c, hm, e⟩
  rw [List.length_map] at this
  omega
 | f + 1, s, l, hl, hn, hs, hr => by
  unfold supS
  cases hf : findC cs s with
  | none => exact ⟨[], by simp, .none hf⟩
  | some c =>
   dsimp only
   have hno : s ∉ l := fun hm => by
    have h1 := hr s hm c hf
    have h2 := hc c (findC_nm hf).2
    unfold cycB at h2
    have h3 : (upL cs (abv c)).contains c.nm = true := List.contains_iff_mem.2 (mem_up.2 (by rw [(findC_nm hf).1]; unfold abvN at h1; rw [hf] at h1; exact h1))
    rw [h3] at h2; cases h2
   rw [if_neg (by rw [List.contains_iff_mem]; exact hno)]
   obtain ⟨r, h1, h2⟩ := chn_sup hc f c.su (l ++ [s]) (by simp; omega) (by
    rw [List.nodup_append]; exact ⟨hn, by simp, fun a ha b hb e => by simp at hb; subst hb; subst e; exact hno ha⟩) (fun o ho => by
    rcases List.mem_append.1 ho with h | h
    ·exact hs o h
    ·simp at h; subst h; rw [hf]; rfl) (fun x hx c' hc' => by
    rcases List.mem_append.1 hx with h | h
    ·exact .step (hr x h c hf) (su_abv hf) (has_of hc')
    ·simp at h; subst h; exact .base (su_abv hf) (has_of hc'))
   exact ⟨s :: r, by rw [h1, List.append_assoc]; rfl, .more hf h2⟩
theorem sup_chn {cs : List ClM} (hc : ∀ c ∈ cs, cycB cs c = false) (s : Tx) : Chn cs s (supersL cs s) := by
 obtain ⟨r, h1, h2⟩ := chn_sup hc (cs.length + 1) s [] (by simp) List.nodup_nil (by simp) (by simp)
 unfold supersL
 rw [h1]; exact h2
/-- from one of them on -/
theorem Chn.from_ {cs : List ClM} {s x : Tx} {L : List Tx} (h : Chn cs s L) (hx : x ∈ L) : ∃ P R, L = P ++ R ∧ Chn cs x R ∧ x ∈ R ∧ ∀ y ∈ P, y ≠ x := by
 induction h with
 | none _ => cases hx
 | more hf k ih =>
  rename_i s c L
  by_cases e : s = x
  ·subst e; exact ⟨[], s :: L, rfl, .more hf k, by simp, by simp⟩
  ·obtain ⟨P, R, h1, h2, h3, h4⟩ := ih (by rcases List.mem_cons.1 hx with h | h; exact absurd h.symm e; exact h)
   exact ⟨s :: P, R, by rw [h1]; rfl, h2, h3, fun y hy => by rcases List.mem_cons.1 hy with rfl | hy; exact e; exact h4 y hy⟩
theorem Chn.reach {cs : List ClM} {s x : Tx} {L : List Tx} (h : Chn cs s L) (hx : x ∈ L) : subB cs s x = true := by
 rw [sub_reach]
 induction h with
 | none _ => cases hx
 | more hf k ih =>
  rename_i s c L
  rcases List.mem_cons.1 hx with rfl | hx
  ·exact .base (by simp) (has_of hf)
  ·have h1 := ih hx
   have h2 : hasC cs c.su = true := by
    cases k with
    | none _ => cases hx
    | more h _ => exact has_of h
   exact (Reach.step (.base (by simp) (has_of hf)) (su_abv hf) h2).trans h1
theorem Chn.has {cs : List ClM} {s x : Tx} {L : List Tx} (h : Chn cs s L) (hx : x ∈ L) : ∃ c, findC cs x = some c := by
 obtain ⟨P, R, -, h2, h3, -⟩ := h.from_ hx
 cases h2 with
 | none _ => cases h3
 | more h _ => exact ⟨_, h⟩
theorem Chn.next {cs : List ClM} {s x : Tx} {L : List Tx} {c d : ClM} (h : Chn cs s L) (hx : x ∈ L) (hc : findC cs x = some c) (hd : findC cs c.su = some d) : c.su ∈ L := by
 obtain ⟨P, R, h1, h2, h3, -⟩ := h.from_ hx
 cases h2 with
 | none _ => cases h3
 | more h k =>
  rw [hc] at h; cases h
  cases k with
  | none h' => rw [hd] at h'; cases h'
  | more _ _ => rw [h1]; simp
/-- the first of one list that is in another -/
theorem near_two {cs : List ClM} {a : Tx} {L M : List Tx} (h : Chn cs a L) : (nearL L M = [] ∧ ∀ x ∈ L, x ∉ M) ∨ (nearL L M ∈ L ∧ nearL L M ∈ M ∧ ∀ x ∈ L, x ∈ M → subB cs (nearL L M) x = true) := by
 cases hf : L.find? (fun s => M.contains s) with
 | none =>
  refine .inl ⟨by unfold nearL; rw [hf], fun x hx hm => ?_⟩
  have := List.find?_eq_none.1 hf x hx
  exact this (List.contains_iff_mem.2 hm)
 | some s =>
  have hs : nearL L M = s := by unfold nearL; rw [hf]
  rw [hs]
  have hm : s ∈ M := List.contains_iff_mem.1 (by simpa using List.find?_some hf)
  have hl : s ∈ L := List.mem_of_find?_eq_some hf
  refine .inr ⟨hl, hm, fun x hx hxm => ?_⟩
  obtain ⟨P, R, h1, h2, h3, h4⟩ := h.from_ hl
  rw [h1] at hx
  rcases List.mem_append.1 hx with hp | hr
  ·exfalso
   obtain ⟨k, hk, e⟩ := List.getElem_of_mem hp
   rw [List.find?_eq_some_iff_append] at hf
   obtain ⟨-, qs, bs, e2, hall⟩ := hf
   have e3 : qs = P ∨ ∃ t, qs = P ++ t ∨ P = qs ++ t := by
    rcases Nat.le_total qs.length P.length with hle | hle
    ·have hp1 : qs <+: P := by
      have q1 : qs <+: L := ⟨s :: bs, e2.symm⟩
      have q2 : P <+: L := ⟨R, h1.symm⟩
      exact List.prefix_of_prefix_length_le q1 q2 hle
     obtain ⟨t, ht⟩ := hp1
     exact .inr ⟨t, .inr ht.symm⟩
    ·have hp1 : P <+: qs := by
      have q1 : qs <+: L := ⟨s :: bs, e2.symm⟩
      have q2 : P <+: L := ⟨R, h1.symm⟩
      exact List.prefix_of_prefix_length_le q2 q1 hle
     obtain ⟨t, ht⟩ := hp1
     exact .inr ⟨t, .inl ht.symm⟩
   have hxa : x ∈ qs := by
    rcases e3 with e3 | ⟨t, e3 | e3⟩
    ·rw [e3]; exact hp
    ·rw [e3]; exact List.mem_append_left _ hp
    ·-- s stands in P then
     cases t with
     | nil => rw [List.append_nil] at e3; rw [← e3]; exact hp
     | cons y t =>
      exfalso
      have : L = qs ++ (y :: (t ++ R)) := by rw [h1, e3]; simp
      rw [e2] at this
      have h5 := List.append_cancel_left this
      injection h5 with h6 h7
      exact h4 s (by rw [e3, h6]; simp) rfl
   have := hall x hxa
   rw [List.contains_iff_mem.2 hxm] at this
   simp at this
  ·exact h2.reach hr
/-- where nothing is wrong, and names are unlike -/
structure Fine (cs : List ClM) : Prop where
 cyc : ∀ c ∈ cs, cycB cs c = false
 ifs : ∀ c ∈ cs, ∀ s ∈ c.is, ifB cs s = true
 emp : ∀ c ∈ cs, c.nm ≠ []
 sup : ∀ c ∈ cs, c.fc = true → c.su = []
theorem fits_ifs {cs : List ClM} {c : ClM} (h : fitsE cs c = 0) : ∀ s ∈ c.is, ifB cs s = true := by
 intro s hs
 unfold fitsE fitsN at h
 cases hb : ifB cs s with
 | true => rfl
 | false =>
  exfalso
  have : (c.is.any fun s => !ifB cs s) = true := List.any_eq_true.2 ⟨s, hs, by rw [hb]; rfl⟩
  rw [this] at h
  split at h
  ·cases h
  ·simp at h
theorem fine_of {cs : List ClM} (h : (chkP cs).1 = 0) (hu : ∀ c ∈ cs, c.nm ≠ [] ∧ (c.fc = true → c.su = [])) : Fine cs := by
 refine ⟨chk_none h, fun c hc => fits_ifs ?_, fun c hc => (hu c hc).1, fun c hc => (hu c hc).2⟩
 unfold chkP at h
 cases h1 : cs.find? (fun c => fitsE cs c != 0) with
 | some c =>
  rw [h1] at h
  have := List.find?_some h1
  simp [show fitsE cs c = 0 from h] at this
 | none =>
  have := List.find?_eq_none.1 h1 c hc
  simpa using this
theorem Fine.no {cs : List ClM} (h : Fine cs) : findC cs [] = none := by
 cases hf : findC cs [] with
 | none => rfl
 | some c => exact absurd (findC_nm hf).1 (h.emp c (findC_nm hf).2)
/-- a class that one is below stands among those above it -/
theorem Fine.chain {cs : List ClM} (h : Fine cs) {a x : Tx} {L : List Tx} (hL : Chn cs a L) (hr : Reach cs [a] x) : ifB cs x = false → ifB cs a = false ∧ x ∈ L := by
 induction hr with
 | base hm k =>
  rw [List.mem_singleton] at hm
  subst hm
  intro hi
  cases hL with
  | none hf => unfold hasC at k; rw [hf] at k; cases k
  | more _ _ => exact ⟨hi, by simp⟩
 | step hy hm k ih =>
  rename_i x y
  intro hi
  obtain ⟨c, hc⟩ := Option.isSome_iff_exists.1 hy.has
  unfold abvN at hm
  rw [hc] at hm
  simp only [abv, List.mem_cons] at hm
  rcases hm with rfl | hm
  ·have hyi : ifB cs y = false := by
    unfold ifB; rw [hc]
    cases hfc : c.fc with
    | false => exact hfc
    | true =>
     have := h.sup c (findC_nm hc).2 hfc
     rw [this] at k
     unfold hasC at k; rw [h.no] at k; cases k
   obtain ⟨h1, h2⟩ := ih hyi
   obtain ⟨d, hd⟩ := Option.isSome_iff_exists.1 k
   exact ⟨h1, hL.next h2 hc hd⟩
  ·rw [h.ifs c (findC_nm hc).2 x hm] at hi; cases hi
theorem common_same {cs : List ClM} (h : Fine cs) (a b : Tx) : commonE cs a b = commonE cs b a := by
 unfold commonE
 have e : nearL (supersL cs a) (supersL cs b) = nearL (supersL cs b) (supersL cs a) := by
  have ha := sup_chn h.cyc a
  have hb := sup_chn h.cyc b
  rcases near_two (M := supersL cs b) ha with ⟨h1, h2⟩ | ⟨h1, h2, h3⟩
  ·rcases near_two (M := supersL cs a) hb with ⟨k1, k2⟩ | ⟨k1, k2, -⟩
   ·rw [h1, k1]
   ·exact absurd k1 (h2 _ k2)
  ·rcases near_two (M := supersL cs a) hb with ⟨k1, k2⟩ | ⟨k1, k2, k3⟩
   ·exact absurd h1 (k2 _ h2)
   ·exact sub_anti h.cyc (h3 _ k2 k1) (k3 _ h2 h1)
 rw [e]
 have e2 : (a == b) = (b == a) := by
  by_cases hab : a = b
  ·subst hab; rfl
  ·rw [beq_eq_false_iff_ne.2 hab, beq_eq_false_iff_ne.2 (fun x => hab x.symm)]
 rw [e2]
 unfold commonN
 rw [Bool.or_comm (ifB cs a)]
theorem common_sub {cs : List ClM} (h : Fine cs) {a b : Tx} (hs : commonE cs a b ≠ []) : subB cs a (commonE cs a b) = true ∧ subB cs b (commonE cs a b) = true := by
 unfold commonE commonN at hs ⊢
 split at hs
 ·exact absurd rfl hs
 ·rename_i hn
  rw [if_neg hn]
  rcases near_two (M := supersL cs b) (sup_chn h.cyc a) with ⟨h1, -⟩ | ⟨h1, h2, -⟩
  ·exact absurd h1 hs
  ·exact ⟨(sup_chn h.cyc a).reach h1, (sup_chn h.cyc b).reach h2⟩
theorem common_near {cs : List ClM} (h : Fine cs) {a b c : Tx} (hi : ifB cs c = false) (ha : subB cs a c = true) (hb : subB cs b c = true) : commonE cs a b ≠ [] ∧ subB cs (commonE cs a b) c = true := by
 obtain ⟨a1, a2⟩ := h.chain (sup_chn h.cyc a) (sub_reach.1 ha) hi
 obtain ⟨b1, b2⟩ := h.chain (sup_chn h.cyc b) (sub_reach.1 hb) hi
 unfold commonE commonN
 rw [a1, b1, if_neg (by simp)]
 rcases near_two (M := supersL cs b) (sup_chn h.cyc a) with ⟨-, h2⟩ | ⟨h1, -, h3⟩
 ·exact absurd b2 (h2 c a2)
 ·refine ⟨fun e => ?_, h3 c a2 b2⟩
  obtain ⟨d, hd⟩ := (sup_chn h.cyc a).has h1
  rw [e, h.no] at hd; cases hd
end Go.Proofs.Ytgpfohpmgbnimaa.prg

/- Layer 11: whether names are unlike: the law's own answer. -/
namespace Go.Proofs.Ytgpfohpmgbnimaa.prg
open Go.RowKit Go.Maps Go.Shelf
open words kindp opp op kind word
set_option linter.all false

/-- what is known where names are unlike -/
def UnF (cs : List ClM) : Prop := ∀ c ∈ cs, c.nm ≠ [] ∧ (c.fc = true → c.su = [])
def UnP (cs : List ClM) (w : World) (e : Ending) (w' : World) : Prop := ∃ u, e = .returned (.bool u) ∧ (u = true → UnF cs) ∧ Below w.heap.size w w'
theorem un_more {cs : List ClM} {k : Nat} {c : ClM} (h : UnF (cs.take k)) (hc : cs[k]? = some c) (h1 : c.nm ≠ []) (h2 : c.fc = true → c.su = []) : UnF (cs.take (k + 1)) := by
 intro y hy
 rw [List.take_add_one, hc, Option.toList_some, List.mem_append, List.mem_singleton] at hy
 rcases hy with hy | rfl
 ·exact h y hy
 ·exact ⟨h1, h2⟩
theorem overQ {b : Nat} {a c : World} (h : Below b a c) : Below b a c.drew := ⟨h.os, h.tape, h.output, h.size, h.block⟩

set_option maxRecDepth 100000 in
set_option maxHeartbeats 16000000 in
theorem unlike_w (x : PrM) (w : World) (hk : PrOk w x) (h70 : x.cs.length ≤ 70) : Calls Try.prog 12 #[.agg (prC x).toArray] w (UnP x.cs w) := by
 obtain ⟨cs, A1, c1, ns, A2, c2, ec, en, ed⟩ := x
 obtain ⟨W, hW⟩ : ∃ W, W = w.alloc (.cells (prC ⟨cs, A1, c1, ns, A2, c2, ec, en, ed⟩).toArray 27) := ⟨_, rfl⟩
 have hal : Below w.heap.size w W := by rw [hW]; exact (Below.refl _ w).alloc (Nat.le_refl _) _
 have hblk : W.heap[w.heap.size]? = some (.cells (prC ⟨cs, A1, c1, ns, A2, c2, ec, en, ed⟩).toArray 27 (0, 0)) := by rw [hW]; exact heap_alloc_new w _
 have h70' : cs.length ≤ 70 := h70
 have HAL := Lib.hid hal; have HBK := Lib.hid hblk
 have HRD := Lib.hid (show ∀ v, Below W.heap.size W v → Rd v A1 (cs.flatMap clC) from fun v hv => (hk.1.2.below hal).below hv)
 obtain ⟨n, hn⟩ : ∃ n, n = cs.length := ⟨_, rfl⟩
 have HN := Lib.hid hn
 have hnI : (n : Int) ≤ 70 := by omega
 have HCE := Lib.hid (show ∀ v : World, Below W.heap.size W v → v.cell? ⟨w.heap.size, 0, none⟩ = some (.slice A1 n c1) ∧ v.cell? ⟨w.heap.size, 1, none⟩ = some (.slice A2 ns.length c2) ∧ v.cell? ⟨w.heap.size, 2, none⟩ = some (.string ⟨ec.toArray⟩) ∧ v.cell? ⟨w.heap.size, 3, none⟩ = some (.string ⟨en.toArray⟩) ∧ v.cell? ⟨w.heap.size, 4, none⟩ = some (.string ⟨ed.toArray⟩) from fun v hv => by
  rw [hn]; exact pr_cells ((hv.block _ (blk_lt HBK.out)).trans HBK.out))
 have HPL := fun (s : Tx) (v : World) (hv : Below W.heap.size W v) => rplace_cl ⟨cs, A1, c1, ns, A2, c2, ec, en, ed⟩ s v ((hk.1.2.below hal).below hv) (by show cs.length ≤ _; omega)
 unfold prC at hW HPL ⊢
 try dsimp only [List.cons_append, List.nil_append] at hW HPL ⊢
 rw [← hn] at hW ⊢
 simp only [← hn] at HPL
 have HPL := Lib.hid HPL
 have HW := Lib.hid hW
 have hmx : Try.prog.follows .mixedOrders = true := by kernel_rfl
 clear hal hblk hW hk h70 hn h70'
 go_enter Try.func12, Try.ntmps12
 go_wp2_with fail
 rw [← HW.out]
 go_loopw [3] (fun i wr => ∃ k : Nat, i = .int .i64 (k : Int) ∧ k ≤ n ∧ UnF (cs.take k) ∧ Below W.heap.size W wr) (fun i _ => n - (intOf i).toNat)
 case atStart => exact ⟨0, rfl, Nat.zero_le _, fun c hc => by simp at hc, Below.refl _ _⟩
 case round =>
  obtain ⟨k, rfl, hk, hall, hbw⟩ := hrel
  have HA := Lib.hid hall; have HB := Lib.hid hbw
  clear hall
  obtain ⟨x0, x1, x2, x3, x4⟩ := HCE.out _ hbw
  by_cases hlt : k < n
  ·have hltI : (k : Int) < (n : Int) := by omega
   obtain ⟨y, hy⟩ : ∃ x, cs[k]? = some x := ⟨cs[k]'(by rw [← HN.out]; exact hlt), List.getElem?_eq_getElem _⟩
   have HMO := Lib.hid (fun h1 h2 => un_more HA.out hy h1 h2)
   have HY := Lib.hid hy
   obtain ⟨a, rfl, -, q0, q1, q2, q3, q4, q5, q6⟩ := cl_at (HRD.out _ hbw) hy
   have HEND := Lib.hid (fun v (hv : Below W.heap.size W v) => show UnP cs w (.returned (.bool false)) v from ⟨false, rfl, fun h => (by cases h), HAL.out.trans (hv.mono HAL.out.size)⟩)
   clear hy hbw
   cases h0 : y.fc with
   | true =>
    rw [h0] at q2
    cases h1 : (y.su == []) with
    | false =>
     have g1 := e_empty h1
     (try go_wp2_with fail)
     go_ret
     exact HEND.out _ HB.out
    | true =>
     have g1 := e_empty h1
     have HFS := Lib.hid (show y.fc = true → y.su = [] from fun _ => by simpa using h1)
     (try go_wp2_with fail)
     cases h2 : (y.nm == []) with
     | true =>
      have g2 := e_empty h2
      (try go_wp2_with fail)
      (try go_quiet (fail))
      (try go_wp2_with fail)
      go_ret
      exact HEND.out _ (show Below W.heap.size W _ from ⟨HB.out.os, HB.out.tape, HB.out.output, HB.out.size, HB.out.block⟩)
     | false =>
      have g2 := e_empty h2
      have HNE := Lib.hid (show y.nm ≠ [] from by intro e; rw [e] at h2; cases h2)
      have HQ := Lib.hid (fun v hv => HPL.out y.nm v hv)
      have hB := HB.out
      have HCY := Lib.hid (fun v (hv : Below W.heap.size W v) => (cl_at (HRD.out v hv) HY.out))
      (try go_wp2_with fail)
      go_region_held3 (fun w' => (w'.cell? ⟨w.heap.size, 0, none⟩ = some (.slice (some a) n c1) ∧ w'.cell? ⟨w.heap.size, 1, none⟩ = some (.slice A2 ns.length c2) ∧ w'.cell? ⟨w.heap.size, 2, none⟩ = some (.string ⟨ec.toArray⟩) ∧ w'.cell? ⟨w.heap.size, 3, none⟩ = some (.string ⟨en.toArray⟩) ∧ w'.cell? ⟨w.heap.size, 4, none⟩ = some (.string ⟨ed.toArray⟩)) ∧ w'.cell? (a.add (k * 7)) = some (.string ⟨y.nm.toArray⟩)) (go_keep)
       ((go_at_call 14; refine (HQ.out _ ?_).mono ?_; (first | exact hB | exact overQ hB); rintro e v ⟨r, rfl, hix, hbq⟩; have hB := (show Below W.heap.size W v from ⟨hbq.os.trans hB.os, hbq.tape.trans hB.tape, hbq.output.trans hB.output, Nat.le_trans hB.size hbq.size, fun k hk => (hbq.block k (Nat.lt_of_lt_of_le hk hB.size)).trans (hB.block k hk)⟩); clear hbq x0 x1 x2 x3 x4 q0 q1 q2 q3 q4 q5 q6; obtain ⟨x0, x1, x2, x3, x4⟩ := HCE.out _ hB; obtain ⟨a', ea, -, q0, q1, q2, q3, q4, q5, q6⟩ := HCY.out _ hB; cases ea))
      have HB2 := Lib.hid hB
      clear hB hix x0 x1 x2 x3 x4 q0 q1 q2 q3 q4 q5 q6
      cases hr : (r != (k : Int)) with
      | true =>
       (try go_wp2_with fail)
       go_ret
       exact HEND.out _ HB2.out
      | false =>
       have HM := Lib.hid (HMO.out HNE.out HFS.out)
       (try go_wp2)
       go_roundw
       case rel => exact ⟨k + 1, by go_num, by omega, HM.out, HB2.out⟩
       case measure => simp [intOf]; omega
   | false =>
    rw [h0] at q2
    have HFS := Lib.hid (show y.fc = true → y.su = [] from fun h => by rw [h0] at h; cases h)
    (try go_wp2_with fail)
    cases h2 : (y.nm == []) with
    | true =>
     have g2 := e_empty h2
     (try go_wp2_with fail)
     (try go_quiet (fail))
     (try go_wp2_with fail)
     go_ret
     exact HEND.out _ (show Below W.heap.size W _ from ⟨HB.out.os, HB.out.tape, HB.out.output, HB.out.size, HB.out.block⟩)
    | false =>
     have g2 := e_empty h2
     have HNE := Lib.hid (show y.nm ≠ [] from by intro e; rw [e] at h2; cases h2)
     have HQ := Lib.hid (fun v hv => HPL.out y.nm v hv)
     have hB := HB.out
     have HCY := Lib.hid (fun v (hv : Below W.heap.size W v) => (cl_at (HRD.out v hv) HY.out))
     (try go_wp2_with fail)
     go_region_held3 (fun w' => (w'.cell? ⟨w.heap.size, 0, none⟩ = some (.slice (some a) n c1) ∧ w'.cell? ⟨w.heap.size, 1, none⟩ = some (.slice A2 ns.length c2) ∧ w'.cell? ⟨w.heap.size, 2, none⟩ = some (.string ⟨ec.toArray⟩) ∧ w'.cell? ⟨w.heap.size, 3, none⟩ = some (.string ⟨en.toArray⟩) ∧ w'.cell? ⟨w.heap.size, 4, none⟩ = some (.string ⟨ed.toArray⟩)) ∧ w'.cell? (a.add (k * 7)) = some (.string ⟨y.nm.toArray⟩)) (go_keep)
      ((go_at_call 14; refine (HQ.out _ ?_).mono ?_; (first | exact hB | exact overQ hB); rintro e v ⟨r, rfl, hix, hbq⟩; have hB := (show Below W.heap.size W v from ⟨hbq.os.trans hB.os, hbq.tape.trans hB.tape, hbq.output.trans hB.output, Nat.le_trans hB.size hbq.size, fun k hk => (hbq.block k (Nat.lt_of_lt_of_le hk hB.size)).trans (hB.block k hk)⟩); clear hbq x0 x1 x2 x3 x4 q0 q1 q2 q3 q4 q5 q6; obtain ⟨x0, x1, x2, x3, x4⟩ := HCE.out _ hB; obtain ⟨a', ea, -, q0, q1, q2, q3, q4, q5, q6⟩ := HCY.out _ hB; cases ea))
     have HB2 := Lib.hid hB
     clear hB hix x0 x1 x2 x3 x4 q0 q1 q2 q3 q4 q5 q6
     cases hr : (r != (k : Int)) with
     | true =>
      (try go_wp2_with fail)
      go_ret
      exact HEND.out _ HB2.out
     | false =>
      have HM := Lib.hid (HMO.out HNE.out HFS.out)
      (try go_wp2)
      go_roundw
      case rel => exact ⟨k + 1, by go_num, by omega, HM.out, HB2.out⟩
      case measure => simp [intOf]; omega
  ·have hltI : ¬ (k : Int) < (n : Int) := by omega
   have hall := HA.out
   rw [List.take_of_length_le (by rw [← HN.out]; omega)] at hall
   have HET := Lib.hid (show UnP cs w (.returned (.bool true)) wr from ⟨true, rfl, fun _ => hall, HAL.out.trans (HB.out.mono HAL.out.size)⟩)
   clear hall hbw
   go_wp2_with fail
   go_ret
   exact HET.out
end Go.Proofs.Ytgpfohpmgbnimaa.prg

/- NormXg -/
import Derived.Test.YtjejmlpjifhmmaaGreatDoorKeep
namespace Go.Proofs.YtjejmlpjifhmmaaGreatDoor.prg
open Go.RowKit
open words kindp opp op kind word
set_option maxRecDepth 100000
set_option maxHeartbeats 8000000
set_option linter.all false
def OwI (b : Nat) (w : World) (y : InM) : Prop := w.ownsRow b 3 1 (.slice y.A y.i.ar.length y.c) y.i.ar.length (IL y.i.ar)
def OwM (b : Nat) (w : World) (m : MeM) : Prop := w.ownsRow b 153 9 (.slice m.A m.co.length m.c) m.co.length (m.co.flatMap inC) ∧ ∀ y ∈ m.co, OwI b w y
def OwC (b : Nat) (w : World) (c : ClM) : Prop := w.ownsRow b 9 1 (.slice c.A1 c.is.length c.c1) c.is.length (SX c.is) ∧ w.ownsRow b 167 4 (.slice c.A2 c.fs.length c.c2) c.fs.length (c.fs.flatMap fiC) ∧ w.ownsRow b 155 6 (.slice c.A3 c.ms.length c.c3) c.ms.length (c.ms.flatMap meC) ∧ ∀ m ∈ c.ms, OwM b w m
def OwP (b : Nat) (w : World) (p : PrM) : Prop := w.ownsRow b 159 7 (.slice p.A1 p.cs.length p.c1) p.cs.length (p.cs.flatMap clC) ∧ w.ownsRow b 9 1 (.slice p.A2 p.ns.length p.c2) p.ns.length (SX p.ns) ∧ ∀ c ∈ p.cs, OwC b w c
section
variable {b c g : Nat} {w w' : World}
theorem OwI.gb {y : InM} (h : OwI b w y) (hg : g < b) (k : w.grownBy w' (some g)) : OwI b w' y := own_gb h hg k
theorem OwI.below {y : InM} (h : OwI b w y) (k : Below w.heap.size w w') : OwI b w' y := own_below h k
theorem OwI.mono {y : InM} (h : OwI b w y) (hc : c ≤ b) : OwI c w y := own_base h hc
theorem OwM.gb {y : MeM} (h : OwM b w y) (hg : g < b) (k : w.grownBy w' (some g)) : OwM b w' y := ⟨own_gb h.1 hg k, fun z hz => (h.2 z hz).gb hg k⟩
theorem OwM.below {y : MeM} (h : OwM b w y) (k : Below w.heap.size w w') : OwM b w' y := ⟨own_below h.1 k, fun z hz => (h.2 z hz).below k⟩
theorem OwM.mono {y : MeM} (h : OwM b w y) (hc : c ≤ b) : OwM c w y := ⟨own_base h.1 hc, fun z hz => (h.2 z hz).mono hc⟩
theorem OwC.gb {y : ClM} (h : OwC b w y) (hg : g < b) (k : w.grownBy w' (some g)) : OwC b w' y := ⟨own_gb h.1 hg k, own_gb h.2.1 hg k, own_gb h.2.2.1 hg k, fun z hz => (h.2.2.2 z hz).gb hg k⟩
theorem OwC.below {y : ClM} (h : OwC b w y) (k : Below w.heap.size w w') : OwC b w' y := ⟨own_below h.1 k, own_below h.2.1 k, own_below h.2.2.1 k, fun z hz => (h.2.2.2 z hz).below k⟩
theorem OwC.mono {y : ClM} (h : OwC b w y) (hc : c ≤ b) : OwC c w y := ⟨own_base h.1 hc, own_base h.2.1 hc, own_base h.2.2.1 hc, fun z hz => (h.2.2.2 z hz).mono hc⟩
theorem OwP.below {y : PrM} (h : OwP b w y) (k : Below w.heap.size w w') : OwP b w' y := ⟨own_below h.1 k, own_below h.2.1 k, fun z hz => (h.2.2 z hz).below k⟩
theorem rd_ow {base : Nat} {e : TypeId} {size : Nat} {B : Option Addr} {n d : Nat} {xs : List Value} (h : w.ownsRow base e size (.slice B n d) n xs) : n ≤ d ∧ Rd w B xs := by
 obtain ⟨A', c', e1, hn, _, hrd⟩ := own_rd h
 cases e1
 exact ⟨hn, hrd⟩
theorem OwI.ok {y : InM} (h : OwI b w y) : InOk w y := rd_ow h
theorem OwM.ok {y : MeM} (h : OwM b w y) : MeOk w y := ⟨(rd_ow h.1).1, (rd_ow h.1).2, fun z hz => (h.2 z hz).ok⟩
theorem OwC.ok {y : ClM} (h : OwC b w y) : ClOk w y := ⟨rd_ow h.1, rd_ow h.2.1, rd_ow h.2.2.1, fun z hz => (h.2.2.2 z hz).ok⟩
theorem OwP.ok {y : PrM} (h : OwP b w y) : PrOk w y := ⟨rd_ow h.1, rd_ow h.2.1, fun z hz => (h.2.2 z hz).ok⟩
end
def Cln (e : TypeId) (size n : Nat) (xs : List Value) (w : World) (E : Ending) (w' : World) : Prop := (∃ (B : Option Addr) (d : Nat), E = .returned (.slice B n d) ∧ w'.ownsRow w.heap.size e size (.slice B n d) n xs) ∧ Below w.heap.size w w'
theorem il_one (l : List Int) : ∀ u ∈ IL l, u.oneCell' = true := by
 intro u hu
 simp only [IL, List.mem_map] at hu
 obtain ⟨x, _, rfl⟩ := hu
 rfl
theorem fi_one (l : List FiM) : ∀ u ∈ l.flatMap fiC, u.oneCell' = true := by
 intro u hu
 simp only [List.mem_flatMap, fiC, List.mem_cons, List.not_mem_nil, or_false] at hu
 obtain ⟨x, _, rfl | rfl | rfl | rfl⟩ := hu <;> rfl
theorem info_io : (Tryz.prog.info? 3).map (fun i => (i.zero, i.size, i.bytes)) = some (some (.int .i64 0), 1, 8) := by kernel_rfl
theorem info_fo : (Tryz.prog.info? 167).map (fun i => (i.zero, i.size, i.bytes)) = some (some (.agg #[.string ⟨#[]⟩, .int .i64 0, .string ⟨#[]⟩, .bool false]), 4, 48) := by kernel_rfl
theorem cln_int (A : Option Addr) (n c : Nat) (xs : List Value) (w : World) (hr : Rd w A xs) (hl : xs.length = n * 1) (hn : n ≤ 100000) (h1 : ∀ u ∈ xs, u.oneCell' = true) :
  Calls Tryz.prog 64 #[.slice A n c] w (Cln 3 1 n xs w) := by
 obtain ⟨i0, hi0, hz0, hz1, hz2⟩ := info_parts info_io
 have hlit := World.ownsRow_lit (base := w.heap.size) (e := 3) (size := 1) w #[] 0 (Nat.le_refl _) (by simp [maxLen]) rfl
 have heq := Lib.run_eql_slice_nil w 78 3 A n c 0 0 Tryz.underlying78
 have hL := zh hl; have hN := zh hn; have hO := zh h1
 clear hl hn h1
 rcases A with _ | a
 ·have hnil : xs = [] := by
   rcases hr with h | ⟨a, h, _⟩
   ·exact h
   ·cases h
  subst hnil
  have h0 : n = 0 := by have := hL.out; simp at this; omega
  subst h0
  have HR := zh (show Cln 3 1 0 [] w (.returned (.slice none 0 0)) w from ⟨⟨none, 0, rfl, World.ownsRow_nil _ _ _ _⟩, Below.refl _ _⟩)
  go_enter Tryz.func64, Tryz.ntmps64
  go_wp2
  go_ret
  exact HR.out
 ·go_enter Tryz.func64, Tryz.ntmps64
  go_wp2_with (at_builtin; refine wpList_app _ rfl (.tmp 5) (.tmp 6) _ rfl w.heap.size 3 i0 _ 1 8 Tryz.underlying78 hi0 hz0 hz1 hz2 rfl (by omega) _ 0 [] rfl hlit (some a) n c xs rfl hL.out (hr.below ((Below.refl _ _).alloc (Nat.le_refl _) _)) hO.out (by have := hN.out; simp only [maxLen]; omega) (by have := hN.out; omega) (by simp) ?_; intro v' w1 hown1 hg1 hb1 hat1)
  rw [Nat.zero_add, List.nil_append] at hown1
  obtain ⟨B, d, rfl, -, -, -⟩ := own_rd hown1
  have HB := zh (((Below.refl w.heap.size w).alloc (Nat.le_refl _) (.cells #[] 3)).trans hb1)
  have HO := zh hown1
  clear hown1 hg1 hb1 hat1
  go_ret
  exact ⟨⟨B, d, rfl, HO.out⟩, HB.out⟩
theorem cln_str (A : Option Addr) (n c : Nat) (xs : List Value) (w : World) (hr : Rd w A xs) (hl : xs.length = n * 1) (hn : n ≤ 100000) (h1 : ∀ u ∈ xs, u.oneCell' = true) :
  Calls Tryz.prog 56 #[.slice A n c] w (Cln 9 1 n xs w) := by
 obtain ⟨i0, hi0, hz0, hz1, hz2⟩ := info_parts infoX
 have hlit := World.ownsRow_lit (base := w.heap.size) (e := 9) (size := 1) w #[] 0 (Nat.le_refl _) (by simp [maxLen]) rfl
 have heq := Lib.run_eql_slice_nil w 32 9 A n c 0 0 Tryz.underlying32
 have hL := zh hl; have hN := zh hn; have hO := zh h1
 clear hl hn h1
 rcases A with _ | a
 ·have hnil : xs = [] := by
   rcases hr with h | ⟨a, h, _⟩
   ·exact h
   ·cases h
  subst hnil
  have h0 : n = 0 := by have := hL.out; simp at this; omega
  subst h0
  have HR := zh (show Cln 9 1 0 [] w (.returned (.slice none 0 0)) w from ⟨⟨none, 0, rfl, World.ownsRow_nil _ _ _ _⟩, Below.refl _ _⟩)
  go_enter Tryz.func56, Tryz.ntmps56
  go_wp2
  go_ret
  exact HR.out
 ·go_enter Tryz.func56, Tryz.ntmps56
  go_wp2_with (at_builtin; refine wpList_app _ rfl (.tmp 5) (.tmp 6) _ rfl w.heap.size 9 i0 _ 1 16 Tryz.underlying32 hi0 hz0 hz1 hz2 rfl (by omega) _ 0 [] rfl hlit (some a) n c xs rfl hL.out (hr.below ((Below.refl _ _).alloc (Nat.le_refl _) _)) hO.out (by have := hN.out; simp only [maxLen]; omega) (by have := hN.out; omega) (by simp) ?_; intro v' w1 hown1 hg1 hb1 hat1)
  rw [Nat.zero_add, List.nil_append] at hown1
  obtain ⟨B, d, rfl, -, -, -⟩ := own_rd hown1
  have HB := zh (((Below.refl w.heap.size w).alloc (Nat.le_refl _) (.cells #[] 9)).trans hb1)
  have HO := zh hown1
  clear hown1 hg1 hb1 hat1
  go_ret
  exact ⟨⟨B, d, rfl, HO.out⟩, HB.out⟩
theorem cln_fi (A : Option Addr) (n c : Nat) (xs : List Value) (w : World) (hr : Rd w A xs) (hl : xs.length = n * 4) (hn : n ≤ 100000) (h1 : ∀ u ∈ xs, u.oneCell' = true) :
  Calls Tryz.prog 59 #[.slice A n c] w (Cln 167 4 n xs w) := by
 obtain ⟨i0, hi0, hz0, hz1, hz2⟩ := info_parts info_fo
 have hlit := World.ownsRow_lit (base := w.heap.size) (e := 167) (size := 4) w #[] 0 (Nat.le_refl _) (by simp [maxLen]) rfl
 have heq := Lib.run_eql_slice_nil w 157 167 A n c 0 0 Tryz.underlying157
 have hL := zh hl; have hN := zh hn; have hO := zh h1
 clear hl hn h1
 rcases A with _ | a
 ·have hnil : xs = [] := by
   rcases hr with h | ⟨a, h, _⟩
   ·exact h
   ·cases h
  subst hnil
  have h0 : n = 0 := by have := hL.out; simp at this; omega
  subst h0
  have HR := zh (show Cln 167 4 0 [] w (.returned (.slice none 0 0)) w from ⟨⟨none, 0, rfl, World.ownsRow_nil _ _ _ _⟩, Below.refl _ _⟩)
  go_enter Tryz.func59, Tryz.ntmps59
  go_wp2
  go_ret
  exact HR.out
 ·go_enter Tryz.func59, Tryz.ntmps59
  go_wp2_with (at_builtin; refine wpList_app _ rfl (.tmp 5) (.tmp 6) _ rfl w.heap.size 167 i0 _ 4 48 Tryz.underlying157 hi0 hz0 hz1 hz2 rfl (by omega) _ 0 [] rfl hlit (some a) n c xs rfl hL.out (hr.below ((Below.refl _ _).alloc (Nat.le_refl _) _)) hO.out (by have := hN.out; simp only [maxLen]; omega) (by have := hN.out; omega) (by simp) ?_; intro v' w1 hown1 hg1 hb1 hat1)
  rw [Nat.zero_add, List.nil_append] at hown1
  obtain ⟨B, d, rfl, -, -, -⟩ := own_rd hown1
  have HB := zh (((Below.refl w.heap.size w).alloc (Nat.le_refl _) (.cells #[] 167)).trans hb1)
  have HO := zh hown1
  clear hown1 hg1 hb1 hat1
  go_ret
  exact ⟨⟨B, d, rfl, HO.out⟩, HB.out⟩
def CloIno (x : InM) (v : World) (e : Ending) (w' : World) : Prop := (∃ y, e = .returned (.agg (inC y).toArray) ∧ pI y = pI x ∧ OwI v.heap.size w' y) ∧ Below v.heap.size v w'
def CopIno (l : List InM) (w : World) (e : Ending) (w' : World) : Prop := (∃ (B : Option Addr) (d : Nat) (l' : List InM), e = .returned (.slice B l'.length d) ∧ l'.map pI = l.map pI ∧ l'.length ≤ d ∧ (∀ a, B = some a → a = ⟨w.heap.size, 0, none⟩) ∧ w'.ownsRow w.heap.size 153 9 (.slice B l'.length d) l'.length (l'.flatMap inC) ∧ ∀ y ∈ l', OwI (w.heap.size + 1) w' y) ∧ Below w.heap.size w w'
theorem info_ino : (Tryz.prog.info? 153).map (fun i => (i.zero, i.size, i.bytes)) = some (some (.agg (inC zI).toArray), 9, 112) := by kernel_rfl
theorem copied_ino (A : Option Addr) (c : Nat) (l : List InM) (w : World) (hr : Rd w A (l.flatMap inC)) (hl : l.length ≤ 100000)
  (HO : ∀ x ∈ l, ∀ v : World, Below w.heap.size w v → Calls Tryz.prog 63 #[.agg (inC x).toArray] v (CloIno x v)) :
  Calls Tryz.prog 62 #[.slice A l.length c, .func (.func 63) #[] #[]] w (CopIno l w) := by
 have heq := Lib.run_eql_slice_nil w 113 153 A l.length c 0 0 Tryz.underlying113
 rcases A with _ | a
 ·have hnil : l = [] := by
   rcases hr with h | ⟨a, h, _⟩
   ·have := congrArg List.length h
    rw [flat_len (f := inC) (k := 9) (fun _ => rfl)] at this
    exact List.length_eq_zero_iff.1 (by simp at this; omega)
   ·cases h
  subst hnil
  have HR := zh (show CopIno [] w (.returned (.slice none 0 0)) w from ⟨⟨none, 0, [], rfl, rfl, Nat.le_refl _, (fun _ h => by cases h), World.ownsRow_nil _ _ _ _, by simp⟩, Below.refl _ _⟩)
  clear HO hl hr
  simp only [List.length_nil] at heq ⊢
  go_enter Tryz.func62, Tryz.ntmps62
  go_wp2
  go_ret
  exact HR.out
 ·obtain ⟨i0, hi0, hz0, hz1, hz2⟩ := info_parts info_ino
  obtain ⟨n, hn⟩ : ∃ n, n = l.length := ⟨_, rfl⟩
  rw [← hn] at hl heq ⊢
  obtain ⟨wm, hmk, hown0, hgr0⟩ := run_makeSlice_full (P := Tryz.prog) w w.heap.size 113 153 i0 _ 9 Tryz.underlying113 hi0 hz0 hz1 .i64 .i64 n (by omega) (by rw [hz2]; omega) (by simp only [maxLen]; omega) (Nat.le_refl _)
  rw [show (Value.agg (inC zI).toArray).cells = (inC zI).toArray from rfl, made_flat (C := inC) (K := 9) (fun _ => rfl) (by omega)] at hown0
  have hbm : Below w.heap.size w wm := (Below.refl _ _).grown hgr0 (Nat.le_refl _) (fun k hk => by cases hk)
  have hszm : w.heap.size < wm.heap.size := (hown0.lt w.heap.size rfl).2
  have hnI : (n : Int) ≤ 100000 := by omega
  have HN := zh hn; have HRD := zh hr; have HOO := zh HO; have HO0 := zh hown0; have HBM := zh hbm
  clear hr hn HO hown0 hgr0 hz0 hz1 hz2 hi0
  go_enter Tryz.func62, Tryz.ntmps62
  go_wp2
  go_loopw [15] (fun i wr => ∃ (k : Nat) (done : List InM), i = .int .i64 (k : Int) ∧ k ≤ n ∧ done.length = k ∧ done.map pI = (l.take k).map pI ∧ (∀ y ∈ done, OwI (w.heap.size + 1) wr y) ∧ wr.ownsRow w.heap.size 153 9 (.slice (some ⟨w.heap.size, 0, none⟩) n n) n ((done ++ List.replicate (n - k) zI).flatMap inC) ∧ Below w.heap.size w wr) (fun i _ => n - (intOf i).toNat)
  case atStart => exact ⟨0, [], rfl, Nat.zero_le _, rfl, by simp, by simp, by simpa using HO0.out, HBM.out⟩
  case round =>
   obtain ⟨k, done, rfl, hk, hdl, hdp, hdn, hown, hbw⟩ := hrel
   have HB := zh hbw; have HDP := zh hdp; have HDN := zh hdn; have HOW := zh hown; have HDL := zh hdl
   have hgs : w.heap.size < wr.heap.size := (hown.lt w.heap.size rfl).2
   by_cases hlt : k < n
   ·have hltI : (k : Int) < (n : Int) := by omega
    obtain ⟨x, hx⟩ : ∃ x, l[k]? = some x := ⟨l[k]'(by rw [← HN.out]; exact hlt), List.getElem?_eq_getElem _⟩
    obtain ⟨a', ea, _, c0, c1, c2, c3, c4, c5, c6, c7, c8⟩ := in_at (HRD.out.below hbw) hx
    cases ea
    have HX := zh hx
    have hal := hbw.alloc hbw.size (.cells (inC x).toArray 153)
    have hal1 : Below wr.heap.size wr (wr.alloc (.cells (inC x).toArray 153)) := (Below.refl _ _).alloc (Nat.le_refl _) _
    have HAL := zh hal; have HAL1 := zh hal1
    have HCL := zh (HOO.out x (List.mem_of_getElem? hx) _ hal)
    dsimp only [inC] at HCL HAL HAL1
    clear hx hal hal1 hdp hdn hown hbw
    go_wp2_with fail
    refine HCL.out.mono ?_
    rintro e w4 ⟨⟨y, rfl, hyp, hyn⟩, hb4⟩
    have hb5 := HAL1.out.trans (hb4.mono HAL1.out.size)
    have hyn' := hyn.mono (c := w.heap.size + 1) (by have := HAL1.out.size; omega)
    have o0 := own_below HOW.out hb5
    have HD4 := zh (fun z hz => (HDN.out z hz).below hb5)
    have hml : k < (done ++ List.replicate (n - k) zI).length := by rw [List.length_append, List.length_replicate, HDL.out]; omega
    obtain ⟨q, hq⟩ : ∃ q, (done ++ List.replicate (n - k) zI)[k]? = some q := ⟨_, List.getElem?_eq_getElem hml⟩
    have y0 := flat_at (f := inC) (k := 9) (fun _ => rfl) hq (t := 0) (u := (inC q)[0]'(by simp [inC])) (by simp [inC])
    rw [Nat.add_zero] at y0
    have d0 : w4.cell? ⟨w.heap.size, k * 9, none⟩ = some _ := (o0.cellAt (k * 9) (by omega)).trans y0
    have f0 := o0.frozenAt (k * 9)
    have y1 := flat_at (f := inC) (k := 9) (fun _ => rfl) hq (t := 1) (u := (inC q)[1]'(by simp [inC])) (by simp [inC])
    have d1 : w4.cell? ⟨w.heap.size, k * 9 + 1, none⟩ = some _ := (o0.cellAt (k * 9 + 1) (by omega)).trans y1
    have f1 := o0.frozenAt (k * 9 + 1)
    have y2 := flat_at (f := inC) (k := 9) (fun _ => rfl) hq (t := 2) (u := (inC q)[2]'(by simp [inC])) (by simp [inC])
    have d2 : w4.cell? ⟨w.heap.size, k * 9 + 2, none⟩ = some _ := (o0.cellAt (k * 9 + 2) (by omega)).trans y2
    have f2 := o0.frozenAt (k * 9 + 2)
    have y3 := flat_at (f := inC) (k := 9) (fun _ => rfl) hq (t := 3) (u := (inC q)[3]'(by simp [inC])) (by simp [inC])
    have d3 : w4.cell? ⟨w.heap.size, k * 9 + 3, none⟩ = some _ := (o0.cellAt (k * 9 + 3) (by omega)).trans y3
    have f3 := o0.frozenAt (k * 9 + 3)
    have y4 := flat_at (f := inC) (k := 9) (fun _ => rfl) hq (t := 4) (u := (inC q)[4]'(by simp [inC])) (by simp [inC])
    have d4 : w4.cell? ⟨w.heap.size, k * 9 + 4, none⟩ = some _ := (o0.cellAt (k * 9 + 4) (by omega)).trans y4
    have f4 := o0.frozenAt (k * 9 + 4)
    have y5 := flat_at (f := inC) (k := 9) (fun _ => rfl) hq (t := 5) (u := (inC q)[5]'(by simp [inC])) (by simp [inC])
    have d5 : w4.cell? ⟨w.heap.size, k * 9 + 5, none⟩ = some _ := (o0.cellAt (k * 9 + 5) (by omega)).trans y5
    have f5 := o0.frozenAt (k * 9 + 5)
    have y6 := flat_at (f := inC) (k := 9) (fun _ => rfl) hq (t := 6) (u := (inC q)[6]'(by simp [inC])) (by simp [inC])
    have d6 : w4.cell? ⟨w.heap.size, k * 9 + 6, none⟩ = some _ := (o0.cellAt (k * 9 + 6) (by omega)).trans y6
    have f6 := o0.frozenAt (k * 9 + 6)
    have y7 := flat_at (f := inC) (k := 9) (fun _ => rfl) hq (t := 7) (u := (inC q)[7]'(by simp [inC])) (by simp [inC])
    have d7 : w4.cell? ⟨w.heap.size, k * 9 + 7, none⟩ = some _ := (o0.cellAt (k * 9 + 7) (by omega)).trans y7
    have f7 := o0.frozenAt (k * 9 + 7)
    have y8 := flat_at (f := inC) (k := 9) (fun _ => rfl) hq (t := 8) (u := (inC q)[8]'(by simp [inC])) (by simp [inC])
    have d8 : w4.cell? ⟨w.heap.size, k * 9 + 8, none⟩ = some _ := (o0.cellAt (k * 9 + 8) (by omega)).trans y8
    have f8 := o0.frozenAt (k * 9 + 8)
    obtain ⟨o1, g1⟩ := o0.stored (k * 9) (.int .i64 y.i.o)
    obtain ⟨o2, g2⟩ := o1.stored (k * 9 + 1) (.int .i64 y.i.a)
    obtain ⟨o3, g3⟩ := o2.stored (k * 9 + 2) (.int .i64 y.i.b)
    obtain ⟨o4, g4⟩ := o3.stored (k * 9 + 3) (.int .i64 y.i.c)
    obtain ⟨o5, g5⟩ := o4.stored (k * 9 + 4) (.int .i64 y.i.k)
    obtain ⟨o6, g6⟩ := o5.stored (k * 9 + 5) (.string ⟨y.i.cl.toArray⟩)
    obtain ⟨o7, g7⟩ := o6.stored (k * 9 + 6) (.string ⟨y.i.nm.toArray⟩)
    obtain ⟨o8, g8⟩ := o7.stored (k * 9 + 7) (.string ⟨y.i.ds.toArray⟩)
    obtain ⟨o9, g9⟩ := o8.stored (k * 9 + 8) (.slice y.A y.i.ar.length y.c)
    have hset := setL_flat (C := inC) (K := 9) (fun _ => rfl) hml y
    have hmx : (done ++ List.replicate (n - k) zI).set k y = (done ++ [y]) ++ List.replicate (n - (k + 1)) zI := by have := mix_set (Z := zI) (y := y) (show done.length < n by rw [HDL.out]; exact hlt); rwa [HDL.out] at this
    rw [hmx] at hset
    rw [show (((((((((((done ++ List.replicate (n - k) zI).flatMap inC).set (k * 9) (.int .i64 y.i.o)).set (k * 9 + 1) (.int .i64 y.i.a)).set (k * 9 + 2) (.int .i64 y.i.b)).set (k * 9 + 3) (.int .i64 y.i.c)).set (k * 9 + 4) (.int .i64 y.i.k)).set (k * 9 + 5) (.string ⟨y.i.cl.toArray⟩)).set (k * 9 + 6) (.string ⟨y.i.nm.toArray⟩)).set (k * 9 + 7) (.string ⟨y.i.ds.toArray⟩)).set (k * 9 + 8) (.slice y.A y.i.ar.length y.c)) = ((done ++ [y]) ++ List.replicate (n - (k + 1)) zI).flatMap inC from hset] at o9
    have HOX := zh o9
    have hgall := (gb_trans (gb_trans (gb_trans (gb_trans (gb_trans (gb_trans (gb_trans (gb_trans g1 g2) g3) g4) g5) g6) g7) g8) g9)
    have HDX := zh (show ∀ z ∈ done ++ [y], OwI (w.heap.size + 1) _ z from fun z hz => by
     rcases List.mem_append.1 hz with h | h
     ·exact (HD4.out z h).gb (Nat.lt_succ_self _) hgall
     ·simp at h; subst h; exact hyn'.gb (Nat.lt_succ_self _) hgall)
    have HBX := zh ((((((((((HB.out.trans (hb5.mono HB.out.size)).setCell (p := ⟨w.heap.size, k * 9, none⟩) (Nat.le_refl _) (.int .i64 y.i.o)).setCell (p := ⟨w.heap.size, k * 9 + 1, none⟩) (Nat.le_refl _) (.int .i64 y.i.a)).setCell (p := ⟨w.heap.size, k * 9 + 2, none⟩) (Nat.le_refl _) (.int .i64 y.i.b)).setCell (p := ⟨w.heap.size, k * 9 + 3, none⟩) (Nat.le_refl _) (.int .i64 y.i.c)).setCell (p := ⟨w.heap.size, k * 9 + 4, none⟩) (Nat.le_refl _) (.int .i64 y.i.k)).setCell (p := ⟨w.heap.size, k * 9 + 5, none⟩) (Nat.le_refl _) (.string ⟨y.i.cl.toArray⟩)).setCell (p := ⟨w.heap.size, k * 9 + 6, none⟩) (Nat.le_refl _) (.string ⟨y.i.nm.toArray⟩)).setCell (p := ⟨w.heap.size, k * 9 + 7, none⟩) (Nat.le_refl _) (.string ⟨y.i.ds.toArray⟩)).setCell (p := ⟨w.heap.size, k * 9 + 8, none⟩) (Nat.le_refl _) (.slice y.A y.i.ar.length y.c))
    have HYP := zh hyp
    clear hb4 hb5 o0 o1 o2 o3 o4 o5 o6 o7 o8 o9 g1 g2 g3 g4 g5 g6 g7 g8 g9 hyn hyn' hyp hset hmx hgall hml hq c0 c1 c2 c3 c4 c5 c6 c7 c8 y0 y1 y2 y3 y4 y5 y6 y7 y8
    dsimp only [inC]
    go_wp2
    go_roundw
    case rel => exact ⟨k + 1, done ++ [y], by go_num, by omega, by rw [List.length_append, HDL.out]; rfl, by rw [List.take_add_one, HX.out, List.map_append, List.map_append, HDP.out]; simp [HYP.out], HDX.out, HOX.out, HBX.out⟩
    case measure => simp [intOf]; omega
   ·have hltI : ¬ (k : Int) < (n : Int) := by omega
    have hkn : k = n := by omega
    have ho := HOW.out
    rw [show n - k = 0 by omega, List.replicate_zero, List.append_nil] at ho
    have hln : done.length = n := by rw [HDL.out]; exact hkn
    have HR := zh (show CopIno l w (.returned (.slice (some ⟨w.heap.size, 0, none⟩) n n)) wr from
     ⟨⟨some ⟨w.heap.size, 0, none⟩, n, done, by rw [hln], by rw [HDP.out, List.take_of_length_le (by rw [← HN.out]; omega)], by omega, fun a ha => by cases ha; rfl, by rw [hln]; exact ho, fun y hy => HDN.out y hy⟩, HB.out⟩)
    clear ho hown hbw hdn hdp hln
    go_wp2
    go_ret
    exact HR.out
def CloMeo (x : MeM) (v : World) (e : Ending) (w' : World) : Prop := (∃ y, e = .returned (.agg (meC y).toArray) ∧ pM y = pM x ∧ OwM v.heap.size w' y) ∧ Below v.heap.size v w'
def CopMeo (l : List MeM) (w : World) (e : Ending) (w' : World) : Prop := (∃ (B : Option Addr) (d : Nat) (l' : List MeM), e = .returned (.slice B l'.length d) ∧ l'.map pM = l.map pM ∧ l'.length ≤ d ∧ (∀ a, B = some a → a = ⟨w.heap.size, 0, none⟩) ∧ w'.ownsRow w.heap.size 155 6 (.slice B l'.length d) l'.length (l'.flatMap meC) ∧ ∀ y ∈ l', OwM (w.heap.size + 1) w' y) ∧ Below w.heap.size w w'
theorem info_meo : (Tryz.prog.info? 155).map (fun i => (i.zero, i.size, i.bytes)) = some (some (.agg (meC zM).toArray), 6, 72) := by kernel_rfl
theorem copied_meo (A : Option Addr) (c : Nat) (l : List MeM) (w : World) (hr : Rd w A (l.flatMap meC)) (hl : l.length ≤ 100000)
  (HO : ∀ x ∈ l, ∀ v : World, Below w.heap.size w v → Calls Tryz.prog 61 #[.agg (meC x).toArray] v (CloMeo x v)) :
  Calls Tryz.prog 60 #[.slice A l.length c, .func (.func 61) #[] #[]] w (CopMeo l w) := by
 have heq := Lib.run_eql_slice_nil w 156 155 A l.length c 0 0 Tryz.underlying156
 rcases A with _ | a
 ·have hnil : l = [] := by
   rcases hr with h | ⟨a, h, _⟩
   ·have := congrArg List.length h
    rw [flat_len (f := meC) (k := 6) (fun _ => rfl)] at this
    exact List.length_eq_zero_iff.1 (by simp at this; omega)
   ·cases h
  subst hnil
  have HR := zh (show CopMeo [] w (.returned (.slice none 0 0)) w from ⟨⟨none, 0, [], rfl, rfl, Nat.le_refl _, (fun _ h => by cases h), World.ownsRow_nil _ _ _ _, by simp⟩, Below.refl _ _⟩)
  clear HO hl hr
  simp only [List.length_nil] at heq ⊢
  go_enter Tryz.func60, Tryz.ntmps60
  go_wp2
  go_ret
  exact HR.out
 ·obtain ⟨i0, hi0, hz0, hz1, hz2⟩ := info_parts info_meo
  obtain ⟨n, hn⟩ : ∃ n, n = l.length := ⟨_, rfl⟩
  rw [← hn] at hl heq ⊢
  obtain ⟨wm, hmk, hown0, hgr0⟩ := run_makeSlice_full (P := Tryz.prog) w w.heap.size 156 155 i0 _ 6 Tryz.underlying156 hi0 hz0 hz1 .i64 .i64 n (by omega) (by rw [hz2]; omega) (by simp only [maxLen]; omega) (Nat.le_refl _)
  rw [show (Value.agg (meC zM).toArray).cells = (meC zM).toArray from rfl, made_flat (C := meC) (K := 6) (fun _ => rfl) (by omega)] at hown0
  have hbm : Below w.heap.size w wm := (Below.refl _ _).grown hgr0 (Nat.le_refl _) (fun k hk => by cases hk)
  have hszm : w.heap.size < wm.heap.size := (hown0.lt w.heap.size rfl).2
  have hnI : (n : Int) ≤ 100000 := by omega
  have HN := zh hn; have HRD := zh hr; have HOO := zh HO; have HO0 := zh hown0; have HBM := zh hbm
  clear hr hn HO hown0 hgr0 hz0 hz1 hz2 hi0
  go_enter Tryz.func60, Tryz.ntmps60
  go_wp2
  go_loopw [15] (fun i wr => ∃ (k : Nat) (done : List MeM), i = .int .i64 (k : Int) ∧ k ≤ n ∧ done.length = k ∧ done.map pM = (l.take k).map pM ∧ (∀ y ∈ done, OwM (w.heap.size + 1) wr y) ∧ wr.ownsRow w.heap.size 155 6 (.slice (some ⟨w.heap.size, 0, none⟩) n n) n ((done ++ List.replicate (n - k) zM).flatMap meC) ∧ Below w.heap.size w wr) (fun i _ => n - (intOf i).toNat)
  case atStart => exact ⟨0, [], rfl, Nat.zero_le _, rfl, by simp, by simp, by simpa using HO0.out, HBM.out⟩
  case round =>
   obtain ⟨k, done, rfl, hk, hdl, hdp, hdn, hown, hbw⟩ := hrel
   have HB := zh hbw; have HDP := zh hdp; have HDN := zh hdn; have HOW := zh hown; have HDL := zh hdl
   have hgs : w.heap.size < wr.heap.size := (hown.lt w.heap.size rfl).2
   by_cases hlt : k < n
   ·have hltI : (k : Int) < (n : Int) := by omega
    obtain ⟨x, hx⟩ : ∃ x, l[k]? = some x := ⟨l[k]'(by rw [← HN.out]; exact hlt), List.getElem?_eq_getElem _⟩
    obtain ⟨a', ea, _, c0, c1, c2, c3, c4, c5⟩ := me_at (HRD.out.below hbw) hx
    cases ea
    have HX := zh hx
    have hal := hbw.alloc hbw.size (.cells (meC x).toArray 155)
    have hal1 : Below wr.heap.size wr (wr.alloc (.cells (meC x).toArray 155)) := (Below.refl _ _).alloc (Nat.le_refl _) _
    have HAL := zh hal; have HAL1 := zh hal1
    have HCL := zh (HOO.out x (List.mem_of_getElem? hx) _ hal)
    dsimp only [meC] at HCL HAL HAL1
    clear hx hal hal1 hdp hdn hown hbw
    go_wp2_with fail
    refine HCL.out.mono ?_
    rintro e w4 ⟨⟨y, rfl, hyp, hyn⟩, hb4⟩
    have hb5 := HAL1.out.trans (hb4.mono HAL1.out.size)
    have hyn' := hyn.mono (c := w.heap.size + 1) (by have := HAL1.out.size; omega)
    have o0 := own_below HOW.out hb5
    have HD4 := zh (fun z hz => (HDN.out z hz).below hb5)
    have hml : k < (done ++ List.replicate (n - k) zM).length := by rw [List.length_append, List.length_replicate, HDL.out]; omega
    obtain ⟨q, hq⟩ : ∃ q, (done ++ List.replicate (n - k) zM)[k]? = some q := ⟨_, List.getElem?_eq_getElem hml⟩
    have y0 := flat_at (f := meC) (k := 6) (fun _ => rfl) hq (t := 0) (u := (meC q)[0]'(by simp [meC])) (by simp [meC])
    rw [Nat.add_zero] at y0
    have d0 : w4.cell? ⟨w.heap.size, k * 6, none⟩ = some _ := (o0.cellAt (k * 6) (by omega)).trans y0
    have f0 := o0.frozenAt (k * 6)
    have y1 := flat_at (f := meC) (k := 6) (fun _ => rfl) hq (t := 1) (u := (meC q)[1]'(by simp [meC])) (by simp [meC])
    have d1 : w4.cell? ⟨w.heap.size, k * 6 + 1, none⟩ = some _ := (o0.cellAt (k * 6 + 1) (by omega)).trans y1
    have f1 := o0.frozenAt (k * 6 + 1)
    have y2 := flat_at (f := meC) (k := 6) (fun _ => rfl) hq (t := 2) (u := (meC q)[2]'(by simp [meC])) (by simp [meC])
    have d2 : w4.cell? ⟨w.heap.size, k * 6 + 2, none⟩ = some _ := (o0.cellAt (k * 6 + 2) (by omega)).trans y2
    have f2 := o0.frozenAt (k * 6 + 2)
    have y3 := flat_at (f := meC) (k := 6) (fun _ => rfl) hq (t := 3) (u := (meC q)[3]'(by simp [meC])) (by simp [meC])
    have d3 : w4.cell? ⟨w.heap.size, k * 6 + 3, none⟩ = some _ := (o0.cellAt (k * 6 + 3) (by omega)).trans y3
    have f3 := o0.frozenAt (k * 6 + 3)
    have y4 := flat_at (f := meC) (k := 6) (fun _ => rfl) hq (t := 4) (u := (meC q)[4]'(by simp [meC])) (by simp [meC])
    have d4 : w4.cell? ⟨w.heap.size, k * 6 + 4, none⟩ = some _ := (o0.cellAt (k * 6 + 4) (by omega)).trans y4
    have f4 := o0.frozenAt (k * 6 + 4)
    have y5 := flat_at (f := meC) (k := 6) (fun _ => rfl) hq (t := 5) (u := (meC q)[5]'(by simp [meC])) (by simp [meC])
    have d5 : w4.cell? ⟨w.heap.size, k * 6 + 5, none⟩ = some _ := (o0.cellAt (k * 6 + 5) (by omega)).trans y5
    have f5 := o0.frozenAt (k * 6 + 5)
    obtain ⟨o1, g1⟩ := o0.stored (k * 6) (.string ⟨y.nm.toArray⟩)
    obtain ⟨o2, g2⟩ := o1.stored (k * 6 + 1) (.string ⟨y.ds.toArray⟩)
    obtain ⟨o3, g3⟩ := o2.stored (k * 6 + 2) (.bool y.st)
    obtain ⟨o4, g4⟩ := o3.stored (k * 6 + 3) (.bool y.ab)
    obtain ⟨o5, g5⟩ := o4.stored (k * 6 + 4) (.int .i64 y.rg)
    obtain ⟨o6, g6⟩ := o5.stored (k * 6 + 5) (.slice y.A y.co.length y.c)
    have hset := setL_flat (C := meC) (K := 6) (fun _ => rfl) hml y
    have hmx : (done ++ List.replicate (n - k) zM).set k y = (done ++ [y]) ++ List.replicate (n - (k + 1)) zM := by have := mix_set (Z := zM) (y := y) (show done.length < n by rw [HDL.out]; exact hlt); rwa [HDL.out] at this
    rw [hmx] at hset
    rw [show ((((((((done ++ List.replicate (n - k) zM).flatMap meC).set (k * 6) (.string ⟨y.nm.toArray⟩)).set (k * 6 + 1) (.string ⟨y.ds.toArray⟩)).set (k * 6 + 2) (.bool y.st)).set (k * 6 + 3) (.bool y.ab)).set (k * 6 + 4) (.int .i64 y.rg)).set (k * 6 + 5) (.slice y.A y.co.length y.c)) = ((done ++ [y]) ++ List.replicate (n - (k + 1)) zM).flatMap meC from hset] at o6
    have HOX := zh o6
    have hgall := (gb_trans (gb_trans (gb_trans (gb_trans (gb_trans g1 g2) g3) g4) g5) g6)
    have HDX := zh (show ∀ z ∈ done ++ [y], OwM (w.heap.size + 1) _ z from fun z hz => by
     rcases List.mem_append.1 hz with h | h
     ·exact (HD4.out z h).gb (Nat.lt_succ_self _) hgall
     ·simp at h; subst h; exact hyn'.gb (Nat.lt_succ_self _) hgall)
    have HBX := zh (((((((HB.out.trans (hb5.mono HB.out.size)).setCell (p := ⟨w.heap.size, k * 6, none⟩) (Nat.le_refl _) (.string ⟨y.nm.toArray⟩)).setCell (p := ⟨w.heap.size, k * 6 + 1, none⟩) (Nat.le_refl _) (.string ⟨y.ds.toArray⟩)).setCell (p := ⟨w.heap.size, k * 6 + 2, none⟩) (Nat.le_refl _) (.bool y.st)).setCell (p := ⟨w.heap.size, k * 6 + 3, none⟩) (Nat.le_refl _) (.bool y.ab)).setCell (p := ⟨w.heap.size, k * 6 + 4, none⟩) (Nat.le_refl _) (.int .i64 y.rg)).setCell (p := ⟨w.heap.size, k * 6 + 5, none⟩) (Nat.le_refl _) (.slice y.A y.co.length y.c))
    have HYP := zh hyp
    clear hb4 hb5 o0 o1 o2 o3 o4 o5 o6 g1 g2 g3 g4 g5 g6 hyn hyn' hyp hset hmx hgall hml hq c0 c1 c2 c3 c4 c5 y0 y1 y2 y3 y4 y5
    dsimp only [meC]
    go_wp2
    go_roundw
    case rel => exact ⟨k + 1, done ++ [y], by go_num, by omega, by rw [List.length_append, HDL.out]; rfl, by rw [List.take_add_one, HX.out, List.map_append, List.map_append, HDP.out]; simp [HYP.out], HDX.out, HOX.out, HBX.out⟩
    case measure => simp [intOf]; omega
   ·have hltI : ¬ (k : Int) < (n : Int) := by omega
    have hkn : k = n := by omega
    have ho := HOW.out
    rw [show n - k = 0 by omega, List.replicate_zero, List.append_nil] at ho
    have hln : done.length = n := by rw [HDL.out]; exact hkn
    have HR := zh (show CopMeo l w (.returned (.slice (some ⟨w.heap.size, 0, none⟩) n n)) wr from
     ⟨⟨some ⟨w.heap.size, 0, none⟩, n, done, by rw [hln], by rw [HDP.out, List.take_of_length_le (by rw [← HN.out]; omega)], by omega, fun a ha => by cases ha; rfl, by rw [hln]; exact ho, fun y hy => HDN.out y hy⟩, HB.out⟩)
    clear ho hown hbw hdn hdp hln
    go_wp2
    go_ret
    exact HR.out
def CloClo (x : ClM) (v : World) (e : Ending) (w' : World) : Prop := (∃ y, e = .returned (.agg (clC y).toArray) ∧ pC y = pC x ∧ OwC v.heap.size w' y) ∧ Below v.heap.size v w'
def CopClo (l : List ClM) (w : World) (e : Ending) (w' : World) : Prop := (∃ (B : Option Addr) (d : Nat) (l' : List ClM), e = .returned (.slice B l'.length d) ∧ l'.map pC = l.map pC ∧ l'.length ≤ d ∧ (∀ a, B = some a → a = ⟨w.heap.size, 0, none⟩) ∧ w'.ownsRow w.heap.size 159 7 (.slice B l'.length d) l'.length (l'.flatMap clC) ∧ ∀ y ∈ l', OwC (w.heap.size + 1) w' y) ∧ Below w.heap.size w w'
theorem info_clo : (Tryz.prog.info? 159).map (fun i => (i.zero, i.size, i.bytes)) = some (some (.agg (clC zC).toArray), 7, 112) := by kernel_rfl
theorem copied_clo (A : Option Addr) (c : Nat) (l : List ClM) (w : World) (hr : Rd w A (l.flatMap clC)) (hl : l.length ≤ 100000)
  (HO : ∀ x ∈ l, ∀ v : World, Below w.heap.size w v → Calls Tryz.prog 58 #[.agg (clC x).toArray] v (CloClo x v)) :
  Calls Tryz.prog 57 #[.slice A l.length c, .func (.func 58) #[] #[]] w (CopClo l w) := by
 have heq := Lib.run_eql_slice_nil w 31 159 A l.length c 0 0 Tryz.underlying31
 rcases A with _ | a
 ·have hnil : l = [] := by
   rcases hr with h | ⟨a, h, _⟩
   ·have := congrArg List.length h
    rw [flat_len (f := clC) (k := 7) (fun _ => rfl)] at this
    exact List.length_eq_zero_iff.1 (by simp at this; omega)
   ·cases h
  subst hnil
  have HR := zh (show CopClo [] w (.returned (.slice none 0 0)) w from ⟨⟨none, 0, [], rfl, rfl, Nat.le_refl _, (fun _ h => by cases h), World.ownsRow_nil _ _ _ _, by simp⟩, Below.refl _ _⟩)
  clear HO hl hr
  simp only [List.length_nil] at heq ⊢
  go_enter Tryz.func57, Tryz.ntmps57
  go_wp2
  go_ret
  exact HR.out
 ·obtain ⟨i0, hi0, hz0, hz1, hz2⟩ := info_parts info_clo
  obtain ⟨n, hn⟩ : ∃ n, n = l.length := ⟨_, rfl⟩
  rw [← hn] at hl heq ⊢
  obtain ⟨wm, hmk, hown0, hgr0⟩ := run_makeSlice_full (P := Tryz.prog) w w.heap.size 31 159 i0 _ 7 Tryz.underlying31 hi0 hz0 hz1 .i64 .i64 n (by omega) (by rw [hz2]; omega) (by simp only [maxLen]; omega) (Nat.le_refl _)
  rw [show (Value.agg (clC zC).toArray).cells = (clC zC).toArray from rfl, made_flat (C := clC) (K := 7) (fun _ => rfl) (by omega)] at hown0
  have hbm : Below w.heap.size w wm := (Below.refl _ _).grown hgr0 (Nat.le_refl _) (fun k hk => by cases hk)
  have hszm : w.heap.size < wm.heap.size := (hown0.lt w.heap.size rfl).2
  have hnI : (n : Int) ≤ 100000 := by omega
  have HN := zh hn; have HRD := zh hr; have HOO := zh HO; have HO0 := zh hown0; have HBM := zh hbm
  clear hr hn HO hown0 hgr0 hz0 hz1 hz2 hi0
  go_enter Tryz.func57, Tryz.ntmps57
  go_wp2
  go_loopw [15] (fun i wr => ∃ (k : Nat) (done : List ClM), i = .int .i64 (k : Int) ∧ k ≤ n ∧ done.length = k ∧ done.map pC = (l.take k).map pC ∧ (∀ y ∈ done, OwC (w.heap.size + 1) wr y) ∧ wr.ownsRow w.heap.size 159 7 (.slice (some ⟨w.heap.size, 0, none⟩) n n) n ((done ++ List.replicate (n - k) zC).flatMap clC) ∧ Below w.heap.size w wr) (fun i _ => n - (intOf i).toNat)
  case atStart => exact ⟨0, [], rfl, Nat.zero_le _, rfl, by simp, by simp, by simpa using HO0.out, HBM.out⟩
  case round =>
   obtain ⟨k, done, rfl, hk, hdl, hdp, hdn, hown, hbw⟩ := hrel
   have HB := zh hbw; have HDP := zh hdp; have HDN := zh hdn; have HOW := zh hown; have HDL := zh hdl
   have hgs : w.heap.size < wr.heap.size := (hown.lt w.heap.size rfl).2
   by_cases hlt : k < n
   ·have hltI : (k : Int) < (n : Int) := by omega
    obtain ⟨x, hx⟩ : ∃ x, l[k]? = some x := ⟨l[k]'(by rw [← HN.out]; exact hlt), List.getElem?_eq_getElem _⟩
    obtain ⟨a', ea, _, c0, c1, c2, c3, c4, c5, c6⟩ := cl_at (HRD.out.below hbw) hx
    cases ea
    have HX := zh hx
    have hal := hbw.alloc hbw.size (.cells (clC x).toArray 159)
    have hal1 : Below wr.heap.size wr (wr.alloc (.cells (clC x).toArray 159)) := (Below.refl _ _).alloc (Nat.le_refl _) _
    have HAL := zh hal; have HAL1 := zh hal1
    have HCL := zh (HOO.out x (List.mem_of_getElem? hx) _ hal)
    dsimp only [clC] at HCL HAL HAL1
    clear hx hal hal1 hdp hdn hown hbw
    go_wp2_with fail
    refine HCL.out.mono ?_
    rintro e w4 ⟨⟨y, rfl, hyp, hyn⟩, hb4⟩
    have hb5 := HAL1.out.trans (hb4.mono HAL1.out.size)
    have hyn' := hyn.mono (c := w.heap.size + 1) (by have := HAL1.out.size; omega)
    have o0 := own_below HOW.out hb5
    have HD4 := zh (fun z hz => (HDN.out z hz).below hb5)
    have hml : k < (done ++ List.replicate (n - k) zC).length := by rw [List.length_append, List.length_replicate, HDL.out]; omega
    obtain ⟨q, hq⟩ : ∃ q, (done ++ List.replicate (n - k) zC)[k]? = some q := ⟨_, List.getElem?_eq_getElem hml⟩
    have y0 := flat_at (f := clC) (k := 7) (fun _ => rfl) hq (t := 0) (u := (clC q)[0]'(by simp [clC])) (by simp [clC])
    rw [Nat.add_zero] at y0
    have d0 : w4.cell? ⟨w.heap.size, k * 7, none⟩ = some _ := (o0.cellAt (k * 7) (by omega)).trans y0
    have f0 := o0.frozenAt (k * 7)
    have y1 := flat_at (f := clC) (k := 7) (fun _ => rfl) hq (t := 1) (u := (clC q)[1]'(by simp [clC])) (by simp [clC])
    have d1 : w4.cell? ⟨w.heap.size, k * 7 + 1, none⟩ = some _ := (o0.cellAt (k * 7 + 1) (by omega)).trans y1
    have f1 := o0.frozenAt (k * 7 + 1)
    have y2 := flat_at (f := clC) (k := 7) (fun _ => rfl) hq (t := 2) (u := (clC q)[2]'(by simp [clC])) (by simp [clC])
    have d2 : w4.cell? ⟨w.heap.size, k * 7 + 2, none⟩ = some _ := (o0.cellAt (k * 7 + 2) (by omega)).trans y2
    have f2 := o0.frozenAt (k * 7 + 2)
    have y3 := flat_at (f := clC) (k := 7) (fun _ => rfl) hq (t := 3) (u := (clC q)[3]'(by simp [clC])) (by simp [clC])
    have d3 : w4.cell? ⟨w.heap.size, k * 7 + 3, none⟩ = some _ := (o0.cellAt (k * 7 + 3) (by omega)).trans y3
    have f3 := o0.frozenAt (k * 7 + 3)
    have y4 := flat_at (f := clC) (k := 7) (fun _ => rfl) hq (t := 4) (u := (clC q)[4]'(by simp [clC])) (by simp [clC])
    have d4 : w4.cell? ⟨w.heap.size, k * 7 + 4, none⟩ = some _ := (o0.cellAt (k * 7 + 4) (by omega)).trans y4
    have f4 := o0.frozenAt (k * 7 + 4)
    have y5 := flat_at (f := clC) (k := 7) (fun _ => rfl) hq (t := 5) (u := (clC q)[5]'(by simp [clC])) (by simp [clC])
    have d5 : w4.cell? ⟨w.heap.size, k * 7 + 5, none⟩ = some _ := (o0.cellAt (k * 7 + 5) (by omega)).trans y5
    have f5 := o0.frozenAt (k * 7 + 5)
    have y6 := flat_at (f := clC) (k := 7) (fun _ => rfl) hq (t := 6) (u := (clC q)[6]'(by simp [clC])) (by simp [clC])
    have d6 : w4.cell? ⟨w.heap.size, k * 7 + 6, none⟩ = some _ := (o0.cellAt (k * 7 + 6) (by omega)).trans y6
    have f6 := o0.frozenAt (k * 7 + 6)
    obtain ⟨o1, g1⟩ := o0.stored (k * 7) (.string ⟨y.nm.toArray⟩)
    obtain ⟨o2, g2⟩ := o1.stored (k * 7 + 1) (.string ⟨y.su.toArray⟩)
    obtain ⟨o3, g3⟩ := o2.stored (k * 7 + 2) (.bool y.fc)
    obtain ⟨o4, g4⟩ := o3.stored (k * 7 + 3) (.bool y.ab)
    obtain ⟨o5, g5⟩ := o4.stored (k * 7 + 4) (.slice y.A1 y.is.length y.c1)
    obtain ⟨o6, g6⟩ := o5.stored (k * 7 + 5) (.slice y.A2 y.fs.length y.c2)
    obtain ⟨o7, g7⟩ := o6.stored (k * 7 + 6) (.slice y.A3 y.ms.length y.c3)
    have hset := setL_flat (C := clC) (K := 7) (fun _ => rfl) hml y
    have hmx : (done ++ List.replicate (n - k) zC).set k y = (done ++ [y]) ++ List.replicate (n - (k + 1)) zC := by have := mix_set (Z := zC) (y := y) (show done.length < n by rw [HDL.out]; exact hlt); rwa [HDL.out] at this
    rw [hmx] at hset
    rw [show (((((((((done ++ List.replicate (n - k) zC).flatMap clC).set (k * 7) (.string ⟨y.nm.toArray⟩)).set (k * 7 + 1) (.string ⟨y.su.toArray⟩)).set (k * 7 + 2) (.bool y.fc)).set (k * 7 + 3) (.bool y.ab)).set (k * 7 + 4) (.slice y.A1 y.is.length y.c1)).set (k * 7 + 5) (.slice y.A2 y.fs.length y.c2)).set (k * 7 + 6) (.slice y.A3 y.ms.length y.c3)) = ((done ++ [y]) ++ List.replicate (n - (k + 1)) zC).flatMap clC from hset] at o7
    have HOX := zh o7
    have hgall := (gb_trans (gb_trans (gb_trans (gb_trans (gb_trans (gb_trans g1 g2) g3) g4) g5) g6) g7)
    have HDX := zh (show ∀ z ∈ done ++ [y], OwC (w.heap.size + 1) _ z from fun z hz => by
     rcases List.mem_append.1 hz with h | h
     ·exact (HD4.out z h).gb (Nat.lt_succ_self _) hgall
     ·simp at h; subst h; exact hyn'.gb (Nat.lt_succ_self _) hgall)
    have HBX := zh ((((((((HB.out.trans (hb5.mono HB.out.size)).setCell (p := ⟨w.heap.size, k * 7, none⟩) (Nat.le_refl _) (.string ⟨y.nm.toArray⟩)).setCell (p := ⟨w.heap.size, k * 7 + 1, none⟩) (Nat.le_refl _) (.string ⟨y.su.toArray⟩)).setCell (p := ⟨w.heap.size, k * 7 + 2, none⟩) (Nat.le_refl _) (.bool y.fc)).setCell (p := ⟨w.heap.size, k * 7 + 3, none⟩) (Nat.le_refl _) (.bool y.ab)).setCell (p := ⟨w.heap.size, k * 7 + 4, none⟩) (Nat.le_refl _) (.slice y.A1 y.is.length y.c1)).setCell (p := ⟨w.heap.size, k * 7 + 5, none⟩) (Nat.le_refl _) (.slice y.A2 y.fs.length y.c2)).setCell (p := ⟨w.heap.size, k * 7 + 6, none⟩) (Nat.le_refl _) (.slice y.A3 y.ms.length y.c3))
    have HYP := zh hyp
    clear hb4 hb5 o0 o1 o2 o3 o4 o5 o6 o7 g1 g2 g3 g4 g5 g6 g7 hyn hyn' hyp hset hmx hgall hml hq c0 c1 c2 c3 c4 c5 c6 y0 y1 y2 y3 y4 y5 y6
    dsimp only [clC]
    go_wp2
    go_roundw
    case rel => exact ⟨k + 1, done ++ [y], by go_num, by omega, by rw [List.length_append, HDL.out]; rfl, by rw [List.take_add_one, HX.out, List.map_append, List.map_append, HDP.out]; simp [HYP.out], HDX.out, HOX.out, HBX.out⟩
    case measure => simp [intOf]; omega
   ·have hltI : ¬ (k : Int) < (n : Int) := by omega
    have hkn : k = n := by omega
    have ho := HOW.out
    rw [show n - k = 0 by omega, List.replicate_zero, List.append_nil] at ho
    have hln : done.length = n := by rw [HDL.out]; exact hkn
    have HR := zh (show CopClo l w (.returned (.slice (some ⟨w.heap.size, 0, none⟩) n n)) wr from
     ⟨⟨some ⟨w.heap.size, 0, none⟩, n, done, by rw [hln], by rw [HDP.out, List.take_of_length_le (by rw [← HN.out]; omega)], by omega, fun a ha => by cases ha; rfl, by rw [hln]; exact ho, fun y hy => HDN.out y hy⟩, HB.out⟩)
    clear ho hown hbw hdn hdp hln
    go_wp2
    go_ret
    exact HR.out
theorem cloI_g (x : InM) (v : World) (hk : InOk v x) (hg : GrI x) : Calls Tryz.prog 63 #[.agg (inC x).toArray] v (CloIno x v) := by
 have HCP := zh (fun w (h : Below v.heap.size v w) => cln_int x.A x.i.ar.length x.c (IL x.i.ar) w (hk.2.below h) (by simp [IL]) (by have := hg.1; omega) (il_one _))
 have HPO := zh (fun (B : Option Addr) (d : Nat) (w' : World) (h : w'.ownsRow v.heap.size 3 1 (.slice B x.i.ar.length d) x.i.ar.length (IL x.i.ar)) (k : Below v.heap.size v w') => show CloIno x v (.returned (.agg (inC ⟨x.i, B, d⟩).toArray)) w' from ⟨⟨⟨x.i, B, d⟩, rfl, rfl, h⟩, k⟩)
 clear hk hg
 obtain ⟨⟨o, a, b, cc, k, cl, nm, ds, ar⟩, A, c⟩ := x
 unfold inC at HPO ⊢
 dsimp only at HPO HCP ⊢
 obtain ⟨V, hV⟩ : ∃ V, V = (v.alloc (.cells #[.int .i64 o, .int .i64 a, .int .i64 b, .int .i64 cc, .int .i64 k, .string ⟨cl.toArray⟩, .string ⟨nm.toArray⟩, .string ⟨ds.toArray⟩, .slice A ar.length c] 153)).alloc (.cells #[.int .i64 0, .int .i64 0, .int .i64 0, .int .i64 0, .int .i64 0, .string ⟨#[]⟩, .string ⟨#[]⟩, .string ⟨#[]⟩, .slice none 0 0] 153) := ⟨_, rfl⟩
 have hal : Below v.heap.size v V := by rw [hV]; exact ((Below.refl _ v).alloc (Nat.le_refl _) _).alloc (by simp) _
 have hbi : V.heap[v.heap.size]? = some (.cells #[.int .i64 o, .int .i64 a, .int .i64 b, .int .i64 cc, .int .i64 k, .string ⟨cl.toArray⟩, .string ⟨nm.toArray⟩, .string ⟨ds.toArray⟩, .slice A ar.length c] 153 (0, 0)) := by rw [hV]; exact (Below.heap_alloc _ _ _ (by simp)).trans (heap_alloc_new v _)
 have hbj : V.heap[v.heap.size + 1]? = some (.cells #[.int .i64 0, .int .i64 0, .int .i64 0, .int .i64 0, .int .i64 0, .string ⟨#[]⟩, .string ⟨#[]⟩, .string ⟨#[]⟩, .slice none 0 0] 153 (0, 0)) := by
  rw [hV]
  have := heap_alloc_new (v.alloc (.cells #[.int .i64 o, .int .i64 a, .int .i64 b, .int .i64 cc, .int .i64 k, .string ⟨cl.toArray⟩, .string ⟨nm.toArray⟩, .string ⟨ds.toArray⟩, .slice A ar.length c] 153)) (.cells #[.int .i64 0, .int .i64 0, .int .i64 0, .int .i64 0, .int .i64 0, .string ⟨#[]⟩, .string ⟨#[]⟩, .string ⟨#[]⟩, .slice none 0 0] 153)
  rwa [World.size_alloc] at this
 have HV := zh hV; have HAL := zh hal
 obtain ⟨d0, d1, d2, d3, d4, d5, d6, d7, d8⟩ := c9q hbi
 have HBI := zh hbi; have HBJ := zh hbj
 clear hV hal hbi hbj
 go_enter Tryz.func63, Tryz.ntmps63
 go_wp2_with fail
 try simp only [World.size_alloc]
 rw [← HV.out]
 (try go_wp2_with fail)
 refine (HCP.out V HAL.out).mono ?_
 rintro e v1 ⟨⟨B, d, rfl, h1⟩, hb1⟩
 have g1 : v.heap.size < V.heap.size := blk_lt HBI.out
 have g2 : v.heap.size + 1 < V.heap.size := blk_lt HBJ.out
 have hbi1 := (hb1.block _ g1).trans HBI.out
 have hbj1 := (hb1.block _ g2).trans HBJ.out
 have q8 : v1.cell? ⟨v.heap.size, 8, none⟩ = some (.slice A ar.length c) := cell_of_row _ _ 8 _ _ _ hbi1
 have qf8 := frozen_of_row _ _ 8 _ _ hbi1
 have hb8 : (v1.setCell ⟨v.heap.size, 8, none⟩ (.slice B ar.length d)).heap[v.heap.size]? = some (.cells #[.int .i64 o, .int .i64 a, .int .i64 b, .int .i64 cc, .int .i64 k, .string ⟨cl.toArray⟩, .string ⟨nm.toArray⟩, .string ⟨ds.toArray⟩, .slice B ar.length d] 153 (0, 0)) := heap_setCell_same v1 v.heap.size 8 _ _ (.slice B ar.length d) hbi1
 have hj8 : (v1.setCell ⟨v.heap.size, 8, none⟩ (.slice B ar.length d)).heap[v.heap.size + 1]? = some (.cells #[.int .i64 0, .int .i64 0, .int .i64 0, .int .i64 0, .int .i64 0, .string ⟨#[]⟩, .string ⟨#[]⟩, .string ⟨#[]⟩, .slice none 0 0] 153 (0, 0)) := (Below.heap_setCell _ _ _ _ (by simp)).trans hbj1
 obtain ⟨e0, e1, e2, e3, e4, e5, e6, e7, e8⟩ := c9q hb8
 have z0 : (v1.setCell ⟨v.heap.size, 8, none⟩ (.slice B ar.length d)).cell? ⟨v.heap.size + 1, 0, none⟩ = some (.int .i64 0) := cell_of_row _ _ 0 _ _ _ hj8
 have zf0 := frozen_of_row _ _ 0 _ _ hj8
 have z1 : (v1.setCell ⟨v.heap.size, 8, none⟩ (.slice B ar.length d)).cell? ⟨v.heap.size + 1, 1, none⟩ = some (.int .i64 0) := cell_of_row _ _ 1 _ _ _ hj8
 have zf1 := frozen_of_row _ _ 1 _ _ hj8
 have z2 : (v1.setCell ⟨v.heap.size, 8, none⟩ (.slice B ar.length d)).cell? ⟨v.heap.size + 1, 2, none⟩ = some (.int .i64 0) := cell_of_row _ _ 2 _ _ _ hj8
 have zf2 := frozen_of_row _ _ 2 _ _ hj8
 have z3 : (v1.setCell ⟨v.heap.size, 8, none⟩ (.slice B ar.length d)).cell? ⟨v.heap.size + 1, 3, none⟩ = some (.int .i64 0) := cell_of_row _ _ 3 _ _ _ hj8
 have zf3 := frozen_of_row _ _ 3 _ _ hj8
 have z4 : (v1.setCell ⟨v.heap.size, 8, none⟩ (.slice B ar.length d)).cell? ⟨v.heap.size + 1, 4, none⟩ = some (.int .i64 0) := cell_of_row _ _ 4 _ _ _ hj8
 have zf4 := frozen_of_row _ _ 4 _ _ hj8
 have z5 : (v1.setCell ⟨v.heap.size, 8, none⟩ (.slice B ar.length d)).cell? ⟨v.heap.size + 1, 5, none⟩ = some (.string ⟨#[]⟩) := cell_of_row _ _ 5 _ _ _ hj8
 have zf5 := frozen_of_row _ _ 5 _ _ hj8
 have z6 : (v1.setCell ⟨v.heap.size, 8, none⟩ (.slice B ar.length d)).cell? ⟨v.heap.size + 1, 6, none⟩ = some (.string ⟨#[]⟩) := cell_of_row _ _ 6 _ _ _ hj8
 have zf6 := frozen_of_row _ _ 6 _ _ hj8
 have z7 : (v1.setCell ⟨v.heap.size, 8, none⟩ (.slice B ar.length d)).cell? ⟨v.heap.size + 1, 7, none⟩ = some (.string ⟨#[]⟩) := cell_of_row _ _ 7 _ _ _ hj8
 have zf7 := frozen_of_row _ _ 7 _ _ hj8
 have z8 : (v1.setCell ⟨v.heap.size, 8, none⟩ (.slice B ar.length d)).cell? ⟨v.heap.size + 1, 8, none⟩ = some (.slice none 0 0) := cell_of_row _ _ 8 _ _ _ hj8
 have zf8 := frozen_of_row _ _ 8 _ _ hj8
 have HB1 := zh (HAL.out.trans (hb1.mono HAL.out.size))
 have s0 := heap_setCell_same _ (v.heap.size + 1) 0 _ _ (.int .i64 o) hj8
 have s1 := heap_setCell_same _ (v.heap.size + 1) 1 _ _ (.int .i64 a) s0
 have s2 := heap_setCell_same _ (v.heap.size + 1) 2 _ _ (.int .i64 b) s1
 have s3 := heap_setCell_same _ (v.heap.size + 1) 3 _ _ (.int .i64 cc) s2
 have s4 := heap_setCell_same _ (v.heap.size + 1) 4 _ _ (.int .i64 k) s3
 have s5 := heap_setCell_same _ (v.heap.size + 1) 5 _ _ (.string ⟨cl.toArray⟩) s4
 have s6 := heap_setCell_same _ (v.heap.size + 1) 6 _ _ (.string ⟨nm.toArray⟩) s5
 have s7 := heap_setCell_same _ (v.heap.size + 1) 7 _ _ (.string ⟨ds.toArray⟩) s6
 have s8 := heap_setCell_same _ (v.heap.size + 1) 8 _ _ (.slice B ar.length d) s7
 obtain ⟨WF, hWF⟩ : ∃ WF, WF = ((((((((((v1.setCell ⟨v.heap.size, 8, none⟩ (.slice B ar.length d)).setCell ⟨v.heap.size + 1, 0, none⟩ (.int .i64 o)).setCell ⟨v.heap.size + 1, 1, none⟩ (.int .i64 a)).setCell ⟨v.heap.size + 1, 2, none⟩ (.int .i64 b)).setCell ⟨v.heap.size + 1, 3, none⟩ (.int .i64 cc)).setCell ⟨v.heap.size + 1, 4, none⟩ (.int .i64 k)).setCell ⟨v.heap.size + 1, 5, none⟩ (.string ⟨cl.toArray⟩)).setCell ⟨v.heap.size + 1, 6, none⟩ (.string ⟨nm.toArray⟩)).setCell ⟨v.heap.size + 1, 7, none⟩ (.string ⟨ds.toArray⟩)).setCell ⟨v.heap.size + 1, 8, none⟩ (.slice B ar.length d)) := ⟨_, rfl⟩
 rw [← hWF] at s8
 have sF : WF.heap[v.heap.size + 1]? = some (.cells #[.int .i64 o, .int .i64 a, .int .i64 b, .int .i64 cc, .int .i64 k, .string ⟨cl.toArray⟩, .string ⟨nm.toArray⟩, .string ⟨ds.toArray⟩, .slice B ar.length d] 153 (0, 0)) := by rw [s8]; simp
 obtain ⟨r0, r1, r2, r3, r4, r5, r6, r7, r8⟩ := c9q sF
 have HBF := zh (show Below v.heap.size v WF from by rw [hWF]; exact ((((((((((HB1.out.setCell (p := ⟨v.heap.size, 8, none⟩) (Nat.le_refl _) (.slice B ar.length d)).setCell (p := ⟨v.heap.size + 1, 0, none⟩) (by simp) (.int .i64 o)).setCell (p := ⟨v.heap.size + 1, 1, none⟩) (by simp) (.int .i64 a)).setCell (p := ⟨v.heap.size + 1, 2, none⟩) (by simp) (.int .i64 b)).setCell (p := ⟨v.heap.size + 1, 3, none⟩) (by simp) (.int .i64 cc)).setCell (p := ⟨v.heap.size + 1, 4, none⟩) (by simp) (.int .i64 k)).setCell (p := ⟨v.heap.size + 1, 5, none⟩) (by simp) (.string ⟨cl.toArray⟩)).setCell (p := ⟨v.heap.size + 1, 6, none⟩) (by simp) (.string ⟨nm.toArray⟩)).setCell (p := ⟨v.heap.size + 1, 7, none⟩) (by simp) (.string ⟨ds.toArray⟩)).setCell (p := ⟨v.heap.size + 1, 8, none⟩) (by simp) (.slice B ar.length d)))
 have HWF := zh hWF
 have R0 := zh r0
 have R1 := zh r1
 have R2 := zh r2
 have R3 := zh r3
 have R4 := zh r4
 have R5 := zh r5
 have R6 := zh r6
 have R7 := zh r7
 have R8 := zh r8
 have gA := gb_set v1 v.heap.size 8 (.slice B ar.length d)
 have gB : (v1.setCell ⟨v.heap.size, 8, none⟩ (.slice B ar.length d)).grownBy WF (some (v.heap.size + 1)) := by rw [hWF]; exact (gb_trans (gb_trans (gb_trans (gb_trans (gb_trans (gb_trans (gb_trans (gb_trans (gb_set _ (v.heap.size + 1) 0 (.int .i64 o)) (gb_set _ (v.heap.size + 1) 1 (.int .i64 a))) (gb_set _ (v.heap.size + 1) 2 (.int .i64 b))) (gb_set _ (v.heap.size + 1) 3 (.int .i64 cc))) (gb_set _ (v.heap.size + 1) 4 (.int .i64 k))) (gb_set _ (v.heap.size + 1) 5 (.string ⟨cl.toArray⟩))) (gb_set _ (v.heap.size + 1) 6 (.string ⟨nm.toArray⟩))) (gb_set _ (v.heap.size + 1) 7 (.string ⟨ds.toArray⟩))) (gb_set _ (v.heap.size + 1) 8 (.slice B ar.length d)))
 have HRS := zh (HPO.out B d WF (own_base (own_gb (own_gb h1 g1 gA) g2 gB) (Nat.le_of_lt g1)) HBF.out)
 clear hbi1 hbj1 hb8 hj8 hWF gA gB hb1 g1 g2 sF h1 d0 d1 d2 d3 d4 d5 d6 d7 d8 s0 r0 s1 r1 s2 r2 s3 r3 s4 r4 s5 r5 s6 r6 s7 r7 s8 r8
 go_wp2
 rw [← HWF.out]
 refine bodyPost_ret (v := .agg #[.int .i64 o, .int .i64 a, .int .i64 b, .int .i64 cc, .int .i64 k, .string ⟨cl.toArray⟩, .string ⟨nm.toArray⟩, .string ⟨ds.toArray⟩, .slice B ar.length d]) ?_ rfl HRS.out
 simp [results, Tryz.results63, go_sem, R0.out, R1.out, R2.out, R3.out, R4.out, R5.out, R6.out, R7.out, R8.out]
theorem cloM_g (x : MeM) (v : World) (hk : MeOk v x) (hg : GrM x) : Calls Tryz.prog 61 #[.agg (meC x).toArray] v (CloMeo x v) := by
 have HCP := zh (fun w (h : Below v.heap.size v w) => copied_ino x.A x.c x.co w (hk.2.1.below h) (by have := hg.1.1; omega) (fun y hy u hu => cloI_g y u (((hk.2.2 y hy).below h).below hu) (hg.2 y hy)))
 have HPO := zh (fun (B : Option Addr) (d : Nat) (l' : List InM) (w' : World) (h1 : l'.map pI = x.co.map pI) (h4 : w'.ownsRow v.heap.size 153 9 (.slice B l'.length d) l'.length (l'.flatMap inC)) (h5 : ∀ y ∈ l', OwI v.heap.size w' y) (k : Below v.heap.size v w') =>
  show CloMeo x v (.returned (.agg (meC ⟨x.nm, x.ds, x.st, x.ab, x.rg, l', B, d⟩).toArray)) w' from ⟨⟨_, rfl, me_eq rfl rfl rfl rfl rfl h1, h4, h5⟩, k⟩)
 clear hk hg
 obtain ⟨nm, ds, st, ab, rg, co, A, c⟩ := x
 unfold meC at HPO ⊢
 dsimp only at HPO HCP ⊢
 obtain ⟨V, hV⟩ : ∃ V, V = (v.alloc (.cells #[.string ⟨nm.toArray⟩, .string ⟨ds.toArray⟩, .bool st, .bool ab, .int .i64 rg, .slice A co.length c] 155)).alloc (.cells #[.string ⟨#[]⟩, .string ⟨#[]⟩, .bool false, .bool false, .int .i64 0, .slice none 0 0] 155) := ⟨_, rfl⟩
 have hal : Below v.heap.size v V := by rw [hV]; exact ((Below.refl _ v).alloc (Nat.le_refl _) _).alloc (by simp) _
 have hbi : V.heap[v.heap.size]? = some (.cells #[.string ⟨nm.toArray⟩, .string ⟨ds.toArray⟩, .bool st, .bool ab, .int .i64 rg, .slice A co.length c] 155 (0, 0)) := by rw [hV]; exact (Below.heap_alloc _ _ _ (by simp)).trans (heap_alloc_new v _)
 have hbj : V.heap[v.heap.size + 1]? = some (.cells #[.string ⟨#[]⟩, .string ⟨#[]⟩, .bool false, .bool false, .int .i64 0, .slice none 0 0] 155 (0, 0)) := by
  rw [hV]
  have := heap_alloc_new (v.alloc (.cells #[.string ⟨nm.toArray⟩, .string ⟨ds.toArray⟩, .bool st, .bool ab, .int .i64 rg, .slice A co.length c] 155)) (.cells #[.string ⟨#[]⟩, .string ⟨#[]⟩, .bool false, .bool false, .int .i64 0, .slice none 0 0] 155)
  rwa [World.size_alloc] at this
 have HV := zh hV; have HAL := zh hal
 obtain ⟨d0, d1, d2, d3, d4, d5⟩ := c6q hbi
 have HBI := zh hbi; have HBJ := zh hbj
 clear hV hal hbi hbj
 go_enter Tryz.func61, Tryz.ntmps61
 go_wp2_with fail
 try simp only [World.size_alloc]
 rw [← HV.out]
 (try go_wp2_with fail)
 refine (HCP.out V HAL.out).mono ?_
 rintro e v1 ⟨⟨B, d, l, rfl, h1, h2, h3, h4, h5⟩, hb1⟩
 have g1 : v.heap.size < V.heap.size := blk_lt HBI.out
 have g2 : v.heap.size + 1 < V.heap.size := blk_lt HBJ.out
 have hbi1 := (hb1.block _ g1).trans HBI.out
 have hbj1 := (hb1.block _ g2).trans HBJ.out
 have q5 : v1.cell? ⟨v.heap.size, 5, none⟩ = some (.slice A co.length c) := cell_of_row _ _ 5 _ _ _ hbi1
 have qf5 := frozen_of_row _ _ 5 _ _ hbi1
 have hb8 : (v1.setCell ⟨v.heap.size, 5, none⟩ (.slice B l.length d)).heap[v.heap.size]? = some (.cells #[.string ⟨nm.toArray⟩, .string ⟨ds.toArray⟩, .bool st, .bool ab, .int .i64 rg, .slice B l.length d] 155 (0, 0)) := heap_setCell_same v1 v.heap.size 5 _ _ (.slice B l.length d) hbi1
 have hj8 : (v1.setCell ⟨v.heap.size, 5, none⟩ (.slice B l.length d)).heap[v.heap.size + 1]? = some (.cells #[.string ⟨#[]⟩, .string ⟨#[]⟩, .bool false, .bool false, .int .i64 0, .slice none 0 0] 155 (0, 0)) := (Below.heap_setCell _ _ _ _ (by simp)).trans hbj1
 obtain ⟨e0, e1, e2, e3, e4, e5⟩ := c6q hb8
 have z0 : (v1.setCell ⟨v.heap.size, 5, none⟩ (.slice B l.length d)).cell? ⟨v.heap.size + 1, 0, none⟩ = some (.string ⟨#[]⟩) := cell_of_row _ _ 0 _ _ _ hj8
 have zf0 := frozen_of_row _ _ 0 _ _ hj8
 have z1 : (v1.setCell ⟨v.heap.size, 5, none⟩ (.slice B l.length d)).cell? ⟨v.heap.size + 1, 1, none⟩ = some (.string ⟨#[]⟩) := cell_of_row _ _ 1 _ _ _ hj8
 have zf1 := frozen_of_row _ _ 1 _ _ hj8
 have z2 : (v1.setCell ⟨v.heap.size, 5, none⟩ (.slice B l.length d)).cell? ⟨v.heap.size + 1, 2, none⟩ = some (.bool false) := cell_of_row _ _ 2 _ _ _ hj8
 have zf2 := frozen_of_row _ _ 2 _ _ hj8
 have z3 : (v1.setCell ⟨v.heap.size, 5, none⟩ (.slice B l.length d)).cell? ⟨v.heap.size + 1, 3, none⟩ = some (.bool false) := cell_of_row _ _ 3 _ _ _ hj8
 have zf3 := frozen_of_row _ _ 3 _ _ hj8
 have z4 : (v1.setCell ⟨v.heap.size, 5, none⟩ (.slice B l.length d)).cell? ⟨v.heap.size + 1, 4, none⟩ = some (.int .i64 0) := cell_of_row _ _ 4 _ _ _ hj8
 have zf4 := frozen_of_row _ _ 4 _ _ hj8
 have z5 : (v1.setCell ⟨v.heap.size, 5, none⟩ (.slice B l.length d)).cell? ⟨v.heap.size + 1, 5, none⟩ = some (.slice none 0 0) := cell_of_row _ _ 5 _ _ _ hj8
 have zf5 := frozen_of_row _ _ 5 _ _ hj8
 have HB1 := zh (HAL.out.trans (hb1.mono HAL.out.size))
 have s0 := heap_setCell_same _ (v.heap.size + 1) 0 _ _ (.string ⟨nm.toArray⟩) hj8
 have s1 := heap_setCell_same _ (v.heap.size + 1) 1 _ _ (.string ⟨ds.toArray⟩) s0
 have s2 := heap_setCell_same _ (v.heap.size + 1) 2 _ _ (.bool st) s1
 have s3 := heap_setCell_same _ (v.heap.size + 1) 3 _ _ (.bool ab) s2
 have s4 := heap_setCell_same _ (v.heap.size + 1) 4 _ _ (.int .i64 rg) s3
 have s5 := heap_setCell_same _ (v.heap.size + 1) 5 _ _ (.slice B l.length d) s4
 obtain ⟨WF, hWF⟩ : ∃ WF, WF = (((((((v1.setCell ⟨v.heap.size, 5, none⟩ (.slice B l.length d)).setCell ⟨v.heap.size + 1, 0, none⟩ (.string ⟨nm.toArray⟩)).setCell ⟨v.heap.size + 1, 1, none⟩ (.string ⟨ds.toArray⟩)).setCell ⟨v.heap.size + 1, 2, none⟩ (.bool st)).setCell ⟨v.heap.size + 1, 3, none⟩ (.bool ab)).setCell ⟨v.heap.size + 1, 4, none⟩ (.int .i64 rg)).setCell ⟨v.heap.size + 1, 5, none⟩ (.slice B l.length d)) := ⟨_, rfl⟩
 rw [← hWF] at s5
 have sF : WF.heap[v.heap.size + 1]? = some (.cells #[.string ⟨nm.toArray⟩, .string ⟨ds.toArray⟩, .bool st, .bool ab, .int .i64 rg, .slice B l.length d] 155 (0, 0)) := by rw [s5]; simp
 obtain ⟨r0, r1, r2, r3, r4, r5⟩ := c6q sF
 have HBF := zh (show Below v.heap.size v WF from by rw [hWF]; exact (((((((HB1.out.setCell (p := ⟨v.heap.size, 5, none⟩) (Nat.le_refl _) (.slice B l.length d)).setCell (p := ⟨v.heap.size + 1, 0, none⟩) (by simp) (.string ⟨nm.toArray⟩)).setCell (p := ⟨v.heap.size + 1, 1, none⟩) (by simp) (.string ⟨ds.toArray⟩)).setCell (p := ⟨v.heap.size + 1, 2, none⟩) (by simp) (.bool st)).setCell (p := ⟨v.heap.size + 1, 3, none⟩) (by simp) (.bool ab)).setCell (p := ⟨v.heap.size + 1, 4, none⟩) (by simp) (.int .i64 rg)).setCell (p := ⟨v.heap.size + 1, 5, none⟩) (by simp) (.slice B l.length d)))
 have HWF := zh hWF
 have R0 := zh r0
 have R1 := zh r1
 have R2 := zh r2
 have R3 := zh r3
 have R4 := zh r4
 have R5 := zh r5
 have gA := gb_set v1 v.heap.size 5 (.slice B l.length d)
 have gB : (v1.setCell ⟨v.heap.size, 5, none⟩ (.slice B l.length d)).grownBy WF (some (v.heap.size + 1)) := by rw [hWF]; exact (gb_trans (gb_trans (gb_trans (gb_trans (gb_trans (gb_set _ (v.heap.size + 1) 0 (.string ⟨nm.toArray⟩)) (gb_set _ (v.heap.size + 1) 1 (.string ⟨ds.toArray⟩))) (gb_set _ (v.heap.size + 1) 2 (.bool st))) (gb_set _ (v.heap.size + 1) 3 (.bool ab))) (gb_set _ (v.heap.size + 1) 4 (.int .i64 rg))) (gb_set _ (v.heap.size + 1) 5 (.slice B l.length d)))
 have HRS := zh (HPO.out B d l WF h1 (own_base (own_gb (own_gb h4 g1 gA) g2 gB) (Nat.le_of_lt g1)) (fun y hy => (((h5 y hy).gb (Nat.lt_succ_of_lt g1) gA).gb (Nat.lt_succ_of_lt g2) gB).mono (Nat.le_succ_of_le (Nat.le_of_lt g1))) HBF.out)
 clear hbi1 hbj1 hb8 hj8 hWF gA gB hb1 g1 g2 sF h1 h2 h3 h4 h5 d0 d1 d2 d3 d4 d5 s0 r0 s1 r1 s2 r2 s3 r3 s4 r4 s5 r5
 go_wp2
 rw [← HWF.out]
 refine bodyPost_ret (v := .agg #[.string ⟨nm.toArray⟩, .string ⟨ds.toArray⟩, .bool st, .bool ab, .int .i64 rg, .slice B l.length d]) ?_ rfl HRS.out
 simp [results, Tryz.results61, go_sem, R0.out, R1.out, R2.out, R3.out, R4.out, R5.out]
theorem cloC_g (x : ClM) (v : World) (hk : ClOk v x) (hg : GrC x) : Calls Tryz.prog 58 #[.agg (clC x).toArray] v (CloClo x v) := by
 have HC1 := zh (fun w (h : Below v.heap.size v w) => cln_str x.A1 x.is.length x.c1 (SX x.is) w (hk.1.2.below h) (by simp [SX]) (by have := hg.1.1; omega) (SX_one _))
 have HC2 := zh (fun w (h : Below v.heap.size v w) => cln_fi x.A2 x.fs.length x.c2 (x.fs.flatMap fiC) w (hk.2.1.2.below h) (flat_len (f := fiC) (k := 4) (fun _ => rfl) _) (by have := hg.1.2.1; omega) (fi_one _))
 have HCP := zh (fun w (h : Below v.heap.size v w) => copied_meo x.A3 x.c3 x.ms w (hk.2.2.1.2.below h) (by have := hg.1.2.2.1; omega) (fun y hy u hu => cloM_g y u (((hk.2.2.2 y hy).below h).below hu) (hg.2 y hy)))
 have HPO := zh (fun (B1 : Option Addr) (d1 : Nat) (B2 : Option Addr) (d2 : Nat) (B : Option Addr) (d : Nat) (l' : List MeM) (w' : World) (k1 : w'.ownsRow v.heap.size 9 1 (.slice B1 x.is.length d1) x.is.length (SX x.is)) (k2 : w'.ownsRow v.heap.size 167 4 (.slice B2 x.fs.length d2) x.fs.length (x.fs.flatMap fiC)) (h1 : l'.map pM = x.ms.map pM) (h4 : w'.ownsRow v.heap.size 155 6 (.slice B l'.length d) l'.length (l'.flatMap meC)) (h5 : ∀ y ∈ l', OwM v.heap.size w' y) (k : Below v.heap.size v w') =>
  show CloClo x v (.returned (.agg (clC ⟨x.nm, x.su, x.fc, x.ab, x.is, B1, d1, x.fs, B2, d2, l', B, d⟩).toArray)) w' from ⟨⟨_, rfl, cl_eq rfl rfl rfl rfl rfl rfl h1, k1, k2, h4, h5⟩, k⟩)
 clear hk hg
 obtain ⟨nm, su, fc, ab, is, A1, c1, fs, A2, c2, ms, A, c⟩ := x
 unfold clC at HPO ⊢
 dsimp only at HPO HCP HC1 HC2 ⊢
 obtain ⟨V, hV⟩ : ∃ V, V = (v.alloc (.cells #[.string ⟨nm.toArray⟩, .string ⟨su.toArray⟩, .bool fc, .bool ab, .slice A1 is.length c1, .slice A2 fs.length c2, .slice A ms.length c] 159)).alloc (.cells #[.string ⟨#[]⟩, .string ⟨#[]⟩, .bool false, .bool false, .slice none 0 0, .slice none 0 0, .slice none 0 0] 159) := ⟨_, rfl⟩
 have hal : Below v.heap.size v V := by rw [hV]; exact ((Below.refl _ v).alloc (Nat.le_refl _) _).alloc (by simp) _
 have hbi : V.heap[v.heap.size]? = some (.cells #[.string ⟨nm.toArray⟩, .string ⟨su.toArray⟩, .bool fc, .bool ab, .slice A1 is.length c1, .slice A2 fs.length c2, .slice A ms.length c] 159 (0, 0)) := by rw [hV]; exact (Below.heap_alloc _ _ _ (by simp)).trans (heap_alloc_new v _)
 have hbj : V.heap[v.heap.size + 1]? = some (.cells #[.string ⟨#[]⟩, .string ⟨#[]⟩, .bool false, .bool false, .slice none 0 0, .slice none 0 0, .slice none 0 0] 159 (0, 0)) := by
  rw [hV]
  have := heap_alloc_new (v.alloc (.cells #[.string ⟨nm.toArray⟩, .string ⟨su.toArray⟩, .bool fc, .bool ab, .slice A1 is.length c1, .slice A2 fs.length c2, .slice A ms.length c] 159)) (.cells #[.string ⟨#[]⟩, .string ⟨#[]⟩, .bool false, .bool false, .slice none 0 0, .slice none 0 0, .slice none 0 0] 159)
  rwa [World.size_alloc] at this
 have HV := zh hV; have HAL := zh hal
 obtain ⟨d0, d1, d2, d3, d4, d5, d6⟩ := c7q hbi
 have HBI := zh hbi; have HBJ := zh hbj
 have g1 : v.heap.size < V.heap.size := blk_lt hbi
 have g2 : v.heap.size + 1 < V.heap.size := blk_lt hbj
 have D4 := zh d4; have D5 := zh d5; have G1 := zh g1; have G2 := zh g2
 clear hV hal hbi hbj d0 d1 d2 d3 d6 g1 g2
 go_enter Tryz.func58, Tryz.ntmps58
 go_wp2_with fail
 try simp only [World.size_alloc]
 rw [← HV.out]
 (try go_wp2_with fail)
 refine wp_region_held_drew (S := (fun _ => True)) (by kernel_rfl) ?_ (fun hHeld => ?_)
 ·exact trivial
 refine tkp 0 rfl ?_
 refine tkp 3 rfl ?_
 refine wpAnyH_ready (rs := [1, 4]) (by kernel_rfl) (by simp) (AllReadyH.cons rfl (fun K hK => ?_) (AllReadyH.cons rfl (fun K hK => ?_) (AllReadyH.nil)))
 ·skip
  go_simp
  skip
  refine hK.out _ _ trivial (fun hHeld => ?_)
  clear hK K
  try simp only [puts]
  refine wpAnyH_ready (rs := [2, 4]) (by kernel_rfl) (by simp) (AllReadyH.cons rfl (fun K hK => ?_) (AllReadyH.cons rfl (fun K hK => ?_) (AllReadyH.nil)))
  ·skip
   go_simp
   refine (HC1.out _ (by first | exact HAL.out | exact overD HAL.out)).mono ?_; rintro e v1 ⟨⟨B1, d1, rfl, o1⟩, hb⟩; have k1 : Below V.heap.size V v1 := (by first | exact hb | exact under hb | exact ⟨hb.os, hb.tape, hb.output, hb.size, hb.block⟩); have O1 := zh o1; have K1 := zh k1; have e5 : v1.cell? ⟨v.heap.size, 5, none⟩ = some (.slice A2 fs.length c2) := cell_of_row _ _ 5 _ _ _ ((k1.block _ G1.out).trans HBI.out); clear hb o1 k1
   refine hK.out _ _ trivial (fun hHeld => ?_)
   clear hK K
   try simp only [puts]
   refine rdy 4 rfl (fun K hK => ?_)
   go_simp
   skip
   refine hK.out _ _ trivial (fun hHeld => ?_)
   clear hK K
   try simp only [puts]
   clear e5 d4 d5
   refine tkp 6 rfl ?_
   refine rdy 5 rfl (fun K hK => ?_)
   go_simp
   refine (HC2.out _ (HAL.out.trans (K1.out.mono HAL.out.size))).mono ?_; rintro e v2 ⟨⟨B2, d2, rfl, o2⟩, hb⟩; have K2 := zh (K1.out.trans (Below.mono hb K1.out.size)); have O2 := zh o2; have P1 := zh (own_below O1.out hb); have S1 := zh (Nat.le_trans K1.out.size (Nat.le_refl _)); clear hb o2
   refine hK.out _ _ trivial (fun hHeld => ?_)
   clear hK K
   try simp only [puts]
   have hq := (K2.out.block _ G1.out).trans HBI.out; have q4 : v2.cell? ⟨v.heap.size, 4, none⟩ = some (.slice A1 is.length c1) := cell_of_row _ _ 4 _ _ _ hq; have qf4 := frozen_of_row _ _ 4 _ _ hq; have hq4 : (v2.setCell ⟨v.heap.size, 4, none⟩ (.slice B1 is.length d1)).heap[v.heap.size]? = some (.cells #[.string ⟨nm.toArray⟩, .string ⟨su.toArray⟩, .bool fc, .bool ab, .slice B1 is.length d1, .slice A2 fs.length c2, .slice A ms.length c] 159 (0, 0)) := heap_setCell_same v2 v.heap.size 4 _ _ (.slice B1 is.length d1) hq; have q5 : (v2.setCell ⟨v.heap.size, 4, none⟩ (.slice B1 is.length d1)).cell? ⟨v.heap.size, 5, none⟩ = some (.slice A2 fs.length c2) := cell_of_row _ _ 5 _ _ _ hq4; have qf5 := frozen_of_row _ _ 5 _ _ hq4; have HQ5 := zh (show ((v2.setCell ⟨v.heap.size, 4, none⟩ (.slice B1 is.length d1)).setCell ⟨v.heap.size, 5, none⟩ (.slice B2 fs.length d2)).heap[v.heap.size]? = some (.cells #[.string ⟨nm.toArray⟩, .string ⟨su.toArray⟩, .bool fc, .bool ab, .slice B1 is.length d1, .slice B2 fs.length d2, .slice A ms.length c] 159 (0, 0)) from heap_setCell_same _ v.heap.size 5 _ _ (.slice B2 fs.length d2) hq4); clear hq hq4
   refine rdy 7 rfl (fun K hK => ?_)
   go_simp
   skip
   refine hK.out _ _ trivial (fun hHeld => ?_)
   clear hK K
   try simp only [puts]
   refine tkp 8 rfl ?_
   refine rdy 9 rfl (fun K hK => ?_)
   go_simp
   skip
   refine hK.out _ _ trivial (fun hHeld => ?_)
   clear hK K
   try simp only [puts]
   refine wpAnyH_done (by kernel_rfl) ?_ _
   clear q4 qf4 q5 qf5
   have hb5 : Below v.heap.size v ((v2.setCell ⟨v.heap.size, 4, none⟩ (.slice B1 is.length d1)).setCell ⟨v.heap.size, 5, none⟩ (.slice B2 fs.length d2)) := ((HAL.out.trans (K2.out.mono HAL.out.size)).setCell (p := ⟨v.heap.size, 4, none⟩) (Nat.le_refl _) _).setCell (p := ⟨v.heap.size, 5, none⟩) (Nat.le_refl _) _
   have hj5 : ((v2.setCell ⟨v.heap.size, 4, none⟩ (.slice B1 is.length d1)).setCell ⟨v.heap.size, 5, none⟩ (.slice B2 fs.length d2)).heap[v.heap.size + 1]? = some (.cells #[.string ⟨#[]⟩, .string ⟨#[]⟩, .bool false, .bool false, .slice none 0 0, .slice none 0 0, .slice none 0 0] 159 (0, 0)) := (Below.heap_setCell _ _ _ _ (by simp)).trans ((Below.heap_setCell _ _ _ _ (by simp)).trans ((K2.out.block _ G2.out).trans HBJ.out))
   have u1 : ((v2.setCell ⟨v.heap.size, 4, none⟩ (.slice B1 is.length d1)).setCell ⟨v.heap.size, 5, none⟩ (.slice B2 fs.length d2)).ownsRow V.heap.size 9 1 (.slice B1 is.length d1) is.length (SX is) := own_gb (own_gb P1.out G1.out (gb_set _ _ _ _)) G1.out (gb_set _ _ _ _)
   have u2 : ((v2.setCell ⟨v.heap.size, 4, none⟩ (.slice B1 is.length d1)).setCell ⟨v.heap.size, 5, none⟩ (.slice B2 fs.length d2)).ownsRow V.heap.size 167 4 (.slice B2 fs.length d2) fs.length (fs.flatMap fiC) := own_gb (own_gb (own_base O2.out K1.out.size) G1.out (gb_set _ _ _ _)) G1.out (gb_set _ _ _ _)
   have k5 : ((v2.setCell ⟨v.heap.size, 4, none⟩ (.slice B1 is.length d1)).setCell ⟨v.heap.size, 5, none⟩ (.slice B2 fs.length d2)).heap.size = v2.heap.size := by simp
   have g5 : V.heap.size ≤ ((v2.setCell ⟨v.heap.size, 4, none⟩ (.slice B1 is.length d1)).setCell ⟨v.heap.size, 5, none⟩ (.slice B2 fs.length d2)).heap.size := by rw [k5]; exact K2.out.size
   obtain ⟨W5, hW5⟩ : ∃ W, W = ((v2.setCell ⟨v.heap.size, 4, none⟩ (.slice B1 is.length d1)).setCell ⟨v.heap.size, 5, none⟩ (.slice B2 fs.length d2)) := ⟨_, rfl⟩
   rw [← hW5] at hb5 hj5 u1 u2 g5 HQ5 ⊢
   have hbi := HQ5.out
   have n6 : W5.cell? ⟨v.heap.size, 6, none⟩ = some (.slice A ms.length c) := cell_of_row _ _ 6 _ _ _ hbi
   have HB5 := zh hb5; have HJ5 := zh hj5; have U1 := zh u1; have U2 := zh u2; have G5 := zh g5; have GA := zh (blk_lt hbi); have GB := zh (blk_lt hj5)
   clear hb5 hj5 u1 u2 g5 k5 hbi hW5
   go_wp2_with fail
   refine (HCP.out _ HB5.out).mono ?_
   rintro e v9 ⟨⟨B, d, l, rfl, h1, h2, h3, h4, h5⟩, hb1⟩
   obtain ⟨v1, hv1⟩ : ∃ x, x = v9 := ⟨_, rfl⟩
   subst hv1
   have g1 : v.heap.size < W5.heap.size := GA.out
   have g2 : v.heap.size + 1 < W5.heap.size := GB.out
   have hbi1 := (hb1.block _ g1).trans HQ5.out
   have hbj1 := (hb1.block _ g2).trans HJ5.out
   have q6 : v1.cell? ⟨v.heap.size, 6, none⟩ = some (.slice A ms.length c) := cell_of_row _ _ 6 _ _ _ hbi1
   have qf6 := frozen_of_row _ _ 6 _ _ hbi1
   have hb8 : (v1.setCell ⟨v.heap.size, 6, none⟩ (.slice B l.length d)).heap[v.heap.size]? = some (.cells #[.string ⟨nm.toArray⟩, .string ⟨su.toArray⟩, .bool fc, .bool ab, .slice B1 is.length d1, .slice B2 fs.length d2, .slice B l.length d] 159 (0, 0)) := heap_setCell_same v1 v.heap.size 6 _ _ (.slice B l.length d) hbi1
   have hj8 : (v1.setCell ⟨v.heap.size, 6, none⟩ (.slice B l.length d)).heap[v.heap.size + 1]? = some (.cells #[.string ⟨#[]⟩, .string ⟨#[]⟩, .bool false, .bool false, .slice none 0 0, .slice none 0 0, .slice none 0 0] 159 (0, 0)) := (Below.heap_setCell _ _ _ _ (by simp)).trans hbj1
   obtain ⟨e0, e1, e2, e3, e4, e5, e6⟩ := c7q hb8
   have z0 : (v1.setCell ⟨v.heap.size, 6, none⟩ (.slice B l.length d)).cell? ⟨v.heap.size + 1, 0, none⟩ = some (.string ⟨#[]⟩) := cell_of_row _ _ 0 _ _ _ hj8
   have zf0 := frozen_of_row _ _ 0 _ _ hj8
   have z1 : (v1.setCell ⟨v.heap.size, 6, none⟩ (.slice B l.length d)).cell? ⟨v.heap.size + 1, 1, none⟩ = some (.string ⟨#[]⟩) := cell_of_row _ _ 1 _ _ _ hj8
   have zf1 := frozen_of_row _ _ 1 _ _ hj8
   have z2 : (v1.setCell ⟨v.heap.size, 6, none⟩ (.slice B l.length d)).cell? ⟨v.heap.size + 1, 2, none⟩ = some (.bool false) := cell_of_row _ _ 2 _ _ _ hj8
   have zf2 := frozen_of_row _ _ 2 _ _ hj8
   have z3 : (v1.setCell ⟨v.heap.size, 6, none⟩ (.slice B l.length d)).cell? ⟨v.heap.size + 1, 3, none⟩ = some (.bool false) := cell_of_row _ _ 3 _ _ _ hj8
   have zf3 := frozen_of_row _ _ 3 _ _ hj8
   have z4 : (v1.setCell ⟨v.heap.size, 6, none⟩ (.slice B l.length d)).cell? ⟨v.heap.size + 1, 4, none⟩ = some (.slice none 0 0) := cell_of_row _ _ 4 _ _ _ hj8
   have zf4 := frozen_of_row _ _ 4 _ _ hj8
   have z5 : (v1.setCell ⟨v.heap.size, 6, none⟩ (.slice B l.length d)).cell? ⟨v.heap.size + 1, 5, none⟩ = some (.slice none 0 0) := cell_of_row _ _ 5 _ _ _ hj8
   have zf5 := frozen_of_row _ _ 5 _ _ hj8
   have z6 : (v1.setCell ⟨v.heap.size, 6, none⟩ (.slice B l.length d)).cell? ⟨v.heap.size + 1, 6, none⟩ = some (.slice none 0 0) := cell_of_row _ _ 6 _ _ _ hj8
   have zf6 := frozen_of_row _ _ 6 _ _ hj8
   have HB1 := zh (HB5.out.trans (hb1.mono HB5.out.size))
   have s0 := heap_setCell_same _ (v.heap.size + 1) 0 _ _ (.string ⟨nm.toArray⟩) hj8
   have s1 := heap_setCell_same _ (v.heap.size + 1) 1 _ _ (.string ⟨su.toArray⟩) s0
   have s2 := heap_setCell_same _ (v.heap.size + 1) 2 _ _ (.bool fc) s1
   have s3 := heap_setCell_same _ (v.heap.size + 1) 3 _ _ (.bool ab) s2
   have s4 := heap_setCell_same _ (v.heap.size + 1) 4 _ _ (.slice B1 is.length d1) s3
   have s5 := heap_setCell_same _ (v.heap.size + 1) 5 _ _ (.slice B2 fs.length d2) s4
   have s6 := heap_setCell_same _ (v.heap.size + 1) 6 _ _ (.slice B l.length d) s5
   obtain ⟨WF, hWF⟩ : ∃ WF, WF = ((((((((v1.setCell ⟨v.heap.size, 6, none⟩ (.slice B l.length d)).setCell ⟨v.heap.size + 1, 0, none⟩ (.string ⟨nm.toArray⟩)).setCell ⟨v.heap.size + 1, 1, none⟩ (.string ⟨su.toArray⟩)).setCell ⟨v.heap.size + 1, 2, none⟩ (.bool fc)).setCell ⟨v.heap.size + 1, 3, none⟩ (.bool ab)).setCell ⟨v.heap.size + 1, 4, none⟩ (.slice B1 is.length d1)).setCell ⟨v.heap.size + 1, 5, none⟩ (.slice B2 fs.length d2)).setCell ⟨v.heap.size + 1, 6, none⟩ (.slice B l.length d)) := ⟨_, rfl⟩
   rw [← hWF] at s6
   have sF : WF.heap[v.heap.size + 1]? = some (.cells #[.string ⟨nm.toArray⟩, .string ⟨su.toArray⟩, .bool fc, .bool ab, .slice B1 is.length d1, .slice B2 fs.length d2, .slice B l.length d] 159 (0, 0)) := by rw [s6]; simp
   obtain ⟨r0, r1, r2, r3, r4, r5, r6⟩ := c7q sF
   have HBF := zh (show Below v.heap.size v WF from by rw [hWF]; exact ((((((((HB1.out.setCell (p := ⟨v.heap.size, 6, none⟩) (Nat.le_refl _) (.slice B l.length d)).setCell (p := ⟨v.heap.size + 1, 0, none⟩) (by simp) (.string ⟨nm.toArray⟩)).setCell (p := ⟨v.heap.size + 1, 1, none⟩) (by simp) (.string ⟨su.toArray⟩)).setCell (p := ⟨v.heap.size + 1, 2, none⟩) (by simp) (.bool fc)).setCell (p := ⟨v.heap.size + 1, 3, none⟩) (by simp) (.bool ab)).setCell (p := ⟨v.heap.size + 1, 4, none⟩) (by simp) (.slice B1 is.length d1)).setCell (p := ⟨v.heap.size + 1, 5, none⟩) (by simp) (.slice B2 fs.length d2)).setCell (p := ⟨v.heap.size + 1, 6, none⟩) (by simp) (.slice B l.length d)))
   have HWF := zh hWF
   have R0 := zh r0
   have R1 := zh r1
   have R2 := zh r2
   have R3 := zh r3
   have R4 := zh r4
   have R5 := zh r5
   have R6 := zh r6
   have gA := gb_set v1 v.heap.size 6 (.slice B l.length d)
   have gB : (v1.setCell ⟨v.heap.size, 6, none⟩ (.slice B l.length d)).grownBy WF (some (v.heap.size + 1)) := by rw [hWF]; exact (gb_trans (gb_trans (gb_trans (gb_trans (gb_trans (gb_trans (gb_set _ (v.heap.size + 1) 0 (.string ⟨nm.toArray⟩)) (gb_set _ (v.heap.size + 1) 1 (.string ⟨su.toArray⟩))) (gb_set _ (v.heap.size + 1) 2 (.bool fc))) (gb_set _ (v.heap.size + 1) 3 (.bool ab))) (gb_set _ (v.heap.size + 1) 4 (.slice B1 is.length d1))) (gb_set _ (v.heap.size + 1) 5 (.slice B2 fs.length d2))) (gb_set _ (v.heap.size + 1) 6 (.slice B l.length d)))
   have p1 := own_below U1.out hb1
   have p2 := own_below U2.out hb1
   have f1 : v.heap.size < V.heap.size := G1.out
   have f2 : v.heap.size + 1 < V.heap.size := G2.out
   have HRS := zh (HPO.out B1 d1 B2 d2 B d l WF (own_base (own_gb (own_gb p1 f1 gA) f2 gB) (Nat.le_of_lt f1)) (own_base (own_gb (own_gb p2 f1 gA) f2 gB) (Nat.le_of_lt f1)) h1 (own_base (own_gb (own_gb h4 g1 gA) g2 gB) (Nat.le_of_lt g1)) (fun y hy => (((h5 y hy).gb (Nat.lt_succ_of_lt g1) gA).gb (Nat.lt_succ_of_lt g2) gB).mono (Nat.le_succ_of_le (Nat.le_of_lt g1))) HBF.out)
   clear hbi1 hbj1 hb8 hj8 hWF gA gB hb1 g1 g2 sF h1 h2 h3 h4 h5 p1 p2 f1 f2 n6 s0 r0 s1 r1 s2 r2 s3 r3 s4 r4 s5 r5 s6 r6
   go_wp2
   rw [← HWF.out]
   refine bodyPost_ret (v := .agg #[.string ⟨nm.toArray⟩, .string ⟨su.toArray⟩, .bool fc, .bool ab, .slice B1 is.length d1, .slice B2 fs.length d2, .slice B l.length d]) ?_ rfl HRS.out
   simp [results, Tryz.results58, go_sem, R0.out, R1.out, R2.out, R3.out, R4.out, R5.out, R6.out]
  ·skip
   go_simp
   skip
   refine hK.out _ _ trivial (fun hHeld => ?_)
   clear hK K
   try simp only [puts]
   refine rdy 2 rfl (fun K hK => ?_)
   go_simp
   refine (HC1.out _ (by first | exact HAL.out | exact overD HAL.out)).mono ?_; rintro e v1 ⟨⟨B1, d1, rfl, o1⟩, hb⟩; have k1 : Below V.heap.size V v1 := (by first | exact hb | exact under hb | exact ⟨hb.os, hb.tape, hb.output, hb.size, hb.block⟩); have O1 := zh o1; have K1 := zh k1; have e5 : v1.cell? ⟨v.heap.size, 5, none⟩ = some (.slice A2 fs.length c2) := cell_of_row _ _ 5 _ _ _ ((k1.block _ G1.out).trans HBI.out); clear hb o1 k1
   refine hK.out _ _ trivial (fun hHeld => ?_)
   clear hK K
   try simp only [puts]
   clear e5 d4 d5
   refine tkp 6 rfl ?_
   refine rdy 5 rfl (fun K hK => ?_)
   go_simp
   refine (HC2.out _ (HAL.out.trans (K1.out.mono HAL.out.size))).mono ?_; rintro e v2 ⟨⟨B2, d2, rfl, o2⟩, hb⟩; have K2 := zh (K1.out.trans (Below.mono hb K1.out.size)); have O2 := zh o2; have P1 := zh (own_below O1.out hb); have S1 := zh (Nat.le_trans K1.out.size (Nat.le_refl _)); clear hb o2
   refine hK.out _ _ trivial (fun hHeld => ?_)
   clear hK K
   try simp only [puts]
   have hq := (K2.out.block _ G1.out).trans HBI.out; have q4 : v2.cell? ⟨v.heap.size, 4, none⟩ = some (.slice A1 is.length c1) := cell_of_row _ _ 4 _ _ _ hq; have qf4 := frozen_of_row _ _ 4 _ _ hq; have hq4 : (v2.setCell ⟨v.heap.size, 4, none⟩ (.slice B1 is.length d1)).heap[v.heap.size]? = some (.cells #[.string ⟨nm.toArray⟩, .string ⟨su.toArray⟩, .bool fc, .bool ab, .slice B1 is.length d1, .slice A2 fs.length c2, .slice A ms.length c] 159 (0, 0)) := heap_setCell_same v2 v.heap.size 4 _ _ (.slice B1 is.length d1) hq; have q5 : (v2.setCell ⟨v.heap.size, 4, none⟩ (.slice B1 is.length d1)).cell? ⟨v.heap.size, 5, none⟩ = some (.slice A2 fs.length c2) := cell_of_row _ _ 5 _ _ _ hq4; have qf5 := frozen_of_row _ _ 5 _ _ hq4; have HQ5 := zh (show ((v2.setCell ⟨v.heap.size, 4, none⟩ (.slice B1 is.length d1)).setCell ⟨v.heap.size, 5, none⟩ (.slice B2 fs.length d2)).heap[v.heap.size]? = some (.cells #[.string ⟨nm.toArray⟩, .string ⟨su.toArray⟩, .bool fc, .bool ab, .slice B1 is.length d1, .slice B2 fs.length d2, .slice A ms.length c] 159 (0, 0)) from heap_setCell_same _ v.heap.size 5 _ _ (.slice B2 fs.length d2) hq4); clear hq hq4
   refine rdy 7 rfl (fun K hK => ?_)
   go_simp
   skip
   refine hK.out _ _ trivial (fun hHeld => ?_)
   clear hK K
   try simp only [puts]
   refine tkp 8 rfl ?_
   refine rdy 9 rfl (fun K hK => ?_)
   go_simp
   skip
   refine hK.out _ _ trivial (fun hHeld => ?_)
   clear hK K
   try simp only [puts]
   refine wpAnyH_done (by kernel_rfl) ?_ _
   clear q4 qf4 q5 qf5
   have hb5 : Below v.heap.size v ((v2.setCell ⟨v.heap.size, 4, none⟩ (.slice B1 is.length d1)).setCell ⟨v.heap.size, 5, none⟩ (.slice B2 fs.length d2)) := ((HAL.out.trans (K2.out.mono HAL.out.size)).setCell (p := ⟨v.heap.size, 4, none⟩) (Nat.le_refl _) _).setCell (p := ⟨v.heap.size, 5, none⟩) (Nat.le_refl _) _
   have hj5 : ((v2.setCell ⟨v.heap.size, 4, none⟩ (.slice B1 is.length d1)).setCell ⟨v.heap.size, 5, none⟩ (.slice B2 fs.length d2)).heap[v.heap.size + 1]? = some (.cells #[.string ⟨#[]⟩, .string ⟨#[]⟩, .bool false, .bool false, .slice none 0 0, .slice none 0 0, .slice none 0 0] 159 (0, 0)) := (Below.heap_setCell _ _ _ _ (by simp)).trans ((Below.heap_setCell _ _ _ _ (by simp)).trans ((K2.out.block _ G2.out).trans HBJ.out))
   have u1 : ((v2.setCell ⟨v.heap.size, 4, none⟩ (.slice B1 is.length d1)).setCell ⟨v.heap.size, 5, none⟩ (.slice B2 fs.length d2)).ownsRow V.heap.size 9 1 (.slice B1 is.length d1) is.length (SX is) := own_gb (own_gb P1.out G1.out (gb_set _ _ _ _)) G1.out (gb_set _ _ _ _)
   have u2 : ((v2.setCell ⟨v.heap.size, 4, none⟩ (.slice B1 is.length d1)).setCell ⟨v.heap.size, 5, none⟩ (.slice B2 fs.length d2)).ownsRow V.heap.size 167 4 (.slice B2 fs.length d2) fs.length (fs.flatMap fiC) := own_gb (own_gb (own_base O2.out K1.out.size) G1.out (gb_set _ _ _ _)) G1.out (gb_set _ _ _ _)
   have k5 : ((v2.setCell ⟨v.heap.size, 4, none⟩ (.slice B1 is.length d1)).setCell ⟨v.heap.size, 5, none⟩ (.slice B2 fs.length d2)).heap.size = v2.heap.size := by simp
   have g5 : V.heap.size ≤ ((v2.setCell ⟨v.heap.size, 4, none⟩ (.slice B1 is.length d1)).setCell ⟨v.heap.size, 5, none⟩ (.slice B2 fs.length d2)).heap.size := by rw [k5]; exact K2.out.size
   obtain ⟨W5, hW5⟩ : ∃ W, W = ((v2.setCell ⟨v.heap.size, 4, none⟩ (.slice B1 is.length d1)).setCell ⟨v.heap.size, 5, none⟩ (.slice B2 fs.length d2)) := ⟨_, rfl⟩
   rw [← hW5] at hb5 hj5 u1 u2 g5 HQ5 ⊢
   have hbi := HQ5.out
   have n6 : W5.cell? ⟨v.heap.size, 6, none⟩ = some (.slice A ms.length c) := cell_of_row _ _ 6 _ _ _ hbi
   have HB5 := zh hb5; have HJ5 := zh hj5; have U1 := zh u1; have U2 := zh u2; have G5 := zh g5; have GA := zh (blk_lt hbi); have GB := zh (blk_lt hj5)
   clear hb5 hj5 u1 u2 g5 k5 hbi hW5
   go_wp2_with fail
   refine (HCP.out _ HB5.out).mono ?_
   rintro e v9 ⟨⟨B, d, l, rfl, h1, h2, h3, h4, h5⟩, hb1⟩
   obtain ⟨v1, hv1⟩ : ∃ x, x = v9 := ⟨_, rfl⟩
   subst hv1
   have g1 : v.heap.size < W5.heap.size := GA.out
   have g2 : v.heap.size + 1 < W5.heap.size := GB.out
   have hbi1 := (hb1.block _ g1).trans HQ5.out
   have hbj1 := (hb1.block _ g2).trans HJ5.out
   have q6 : v1.cell? ⟨v.heap.size, 6, none⟩ = some (.slice A ms.length c) := cell_of_row _ _ 6 _ _ _ hbi1
   have qf6 := frozen_of_row _ _ 6 _ _ hbi1
   have hb8 : (v1.setCell ⟨v.heap.size, 6, none⟩ (.slice B l.length d)).heap[v.heap.size]? = some (.cells #[.string ⟨nm.toArray⟩, .string ⟨su.toArray⟩, .bool fc, .bool ab, .slice B1 is.length d1, .slice B2 fs.length d2, .slice B l.length d] 159 (0, 0)) := heap_setCell_same v1 v.heap.size 6 _ _ (.slice B l.length d) hbi1
   have hj8 : (v1.setCell ⟨v.heap.size, 6, none⟩ (.slice B l.length d)).heap[v.heap.size + 1]? = some (.cells #[.string ⟨#[]⟩, .string ⟨#[]⟩, .bool false, .bool false, .slice none 0 0, .slice none 0 0, .slice none 0 0] 159 (0, 0)) := (Below.heap_setCell _ _ _ _ (by simp)).trans hbj1
   obtain ⟨e0, e1, e2, e3, e4, e5, e6⟩ := c7q hb8
   have z0 : (v1.setCell ⟨v.heap.size, 6, none⟩ (.slice B l.length d)).cell? ⟨v.heap.size + 1, 0, none⟩ = some (.string ⟨#[]⟩) := cell_of_row _ _ 0 _ _ _ hj8
   have zf0 := frozen_of_row _ _ 0 _ _ hj8
   have z1 : (v1.setCell ⟨v.heap.size, 6, none⟩ (.slice B l.length d)).cell? ⟨v.heap.size + 1, 1, none⟩ = some (.string ⟨#[]⟩) := cell_of_row _ _ 1 _ _ _ hj8
   have zf1 := frozen_of_row _ _ 1 _ _ hj8
   have z2 : (v1.setCell ⟨v.heap.size, 6, none⟩ (.slice B l.length d)).cell? ⟨v.heap.size + 1, 2, none⟩ = some (.bool false) := cell_of_row _ _ 2 _ _ _ hj8
   have zf2 := frozen_of_row _ _ 2 _ _ hj8
   have z3 : (v1.setCell ⟨v.heap.size, 6, none⟩ (.slice B l.length d)).cell? ⟨v.heap.size + 1, 3, none⟩ = some (.bool false) := cell_of_row _ _ 3 _ _ _ hj8
   have zf3 := frozen_of_row _ _ 3 _ _ hj8
   have z4 : (v1.setCell ⟨v.heap.size, 6, none⟩ (.slice B l.length d)).cell? ⟨v.heap.size + 1, 4, none⟩ = some (.slice none 0 0) := cell_of_row _ _ 4 _ _ _ hj8
   have zf4 := frozen_of_row _ _ 4 _ _ hj8
   have z5 : (v1.setCell ⟨v.heap.size, 6, none⟩ (.slice B l.length d)).cell? ⟨v.heap.size + 1, 5, none⟩ = some (.slice none 0 0) := cell_of_row _ _ 5 _ _ _ hj8
   have zf5 := frozen_of_row _ _ 5 _ _ hj8
   have z6 : (v1.setCell ⟨v.heap.size, 6, none⟩ (.slice B l.length d)).cell? ⟨v.heap.size + 1, 6, none⟩ = some (.slice none 0 0) := cell_of_row _ _ 6 _ _ _ hj8
   have zf6 := frozen_of_row _ _ 6 _ _ hj8
   have HB1 := zh (HB5.out.trans (hb1.mono HB5.out.size))
   have s0 := heap_setCell_same _ (v.heap.size + 1) 0 _ _ (.string ⟨nm.toArray⟩) hj8
   have s1 := heap_setCell_same _ (v.heap.size + 1) 1 _ _ (.string ⟨su.toArray⟩) s0
   have s2 := heap_setCell_same _ (v.heap.size + 1) 2 _ _ (.bool fc) s1
   have s3 := heap_setCell_same _ (v.heap.size + 1) 3 _ _ (.bool ab) s2
   have s4 := heap_setCell_same _ (v.heap.size + 1) 4 _ _ (.slice B1 is.length d1) s3
   have s5 := heap_setCell_same _ (v.heap.size + 1) 5 _ _ (.slice B2 fs.length d2) s4
   have s6 := heap_setCell_same _ (v.heap.size + 1) 6 _ _ (.slice B l.length d) s5
   obtain ⟨WF, hWF⟩ : ∃ WF, WF = ((((((((v1.setCell ⟨v.heap.size, 6, none⟩ (.slice B l.length d)).setCell ⟨v.heap.size + 1, 0, none⟩ (.string ⟨nm.toArray⟩)).setCell ⟨v.heap.size + 1, 1, none⟩ (.string ⟨su.toArray⟩)).setCell ⟨v.heap.size + 1, 2, none⟩ (.bool fc)).setCell ⟨v.heap.size + 1, 3, none⟩ (.bool ab)).setCell ⟨v.heap.size + 1, 4, none⟩ (.slice B1 is.length d1)).setCell ⟨v.heap.size + 1, 5, none⟩ (.slice B2 fs.length d2)).setCell ⟨v.heap.size + 1, 6, none⟩ (.slice B l.length d)) := ⟨_, rfl⟩
   rw [← hWF] at s6
   have sF : WF.heap[v.heap.size + 1]? = some (.cells #[.string ⟨nm.toArray⟩, .string ⟨su.toArray⟩, .bool fc, .bool ab, .slice B1 is.length d1, .slice B2 fs.length d2, .slice B l.length d] 159 (0, 0)) := by rw [s6]; simp
   obtain ⟨r0, r1, r2, r3, r4, r5, r6⟩ := c7q sF
   have HBF := zh (show Below v.heap.size v WF from by rw [hWF]; exact ((((((((HB1.out.setCell (p := ⟨v.heap.size, 6, none⟩) (Nat.le_refl _) (.slice B l.length d)).setCell (p := ⟨v.heap.size + 1, 0, none⟩) (by simp) (.string ⟨nm.toArray⟩)).setCell (p := ⟨v.heap.size + 1, 1, none⟩) (by simp) (.string ⟨su.toArray⟩)).setCell (p := ⟨v.heap.size + 1, 2, none⟩) (by simp) (.bool fc)).setCell (p := ⟨v.heap.size + 1, 3, none⟩) (by simp) (.bool ab)).setCell (p := ⟨v.heap.size + 1, 4, none⟩) (by simp) (.slice B1 is.length d1)).setCell (p := ⟨v.heap.size + 1, 5, none⟩) (by simp) (.slice B2 fs.length d2)).setCell (p := ⟨v.heap.size + 1, 6, none⟩) (by simp) (.slice B l.length d)))
   have HWF := zh hWF
   have R0 := zh r0
   have R1 := zh r1
   have R2 := zh r2
   have R3 := zh r3
   have R4 := zh r4
   have R5 := zh r5
   have R6 := zh r6
   have gA := gb_set v1 v.heap.size 6 (.slice B l.length d)
   have gB : (v1.setCell ⟨v.heap.size, 6, none⟩ (.slice B l.length d)).grownBy WF (some (v.heap.size + 1)) := by rw [hWF]; exact (gb_trans (gb_trans (gb_trans (gb_trans (gb_trans (gb_trans (gb_set _ (v.heap.size + 1) 0 (.string ⟨nm.toArray⟩)) (gb_set _ (v.heap.size + 1) 1 (.string ⟨su.toArray⟩))) (gb_set _ (v.heap.size + 1) 2 (.bool fc))) (gb_set _ (v.heap.size + 1) 3 (.bool ab))) (gb_set _ (v.heap.size + 1) 4 (.slice B1 is.length d1))) (gb_set _ (v.heap.size + 1) 5 (.slice B2 fs.length d2))) (gb_set _ (v.heap.size + 1) 6 (.slice B l.length d)))
   have p1 := own_below U1.out hb1
   have p2 := own_below U2.out hb1
   have f1 : v.heap.size < V.heap.size := G1.out
   have f2 : v.heap.size + 1 < V.heap.size := G2.out
   have HRS := zh (HPO.out B1 d1 B2 d2 B d l WF (own_base (own_gb (own_gb p1 f1 gA) f2 gB) (Nat.le_of_lt f1)) (own_base (own_gb (own_gb p2 f1 gA) f2 gB) (Nat.le_of_lt f1)) h1 (own_base (own_gb (own_gb h4 g1 gA) g2 gB) (Nat.le_of_lt g1)) (fun y hy => (((h5 y hy).gb (Nat.lt_succ_of_lt g1) gA).gb (Nat.lt_succ_of_lt g2) gB).mono (Nat.le_succ_of_le (Nat.le_of_lt g1))) HBF.out)
   clear hbi1 hbj1 hb8 hj8 hWF gA gB hb1 g1 g2 sF h1 h2 h3 h4 h5 p1 p2 f1 f2 n6 s0 r0 s1 r1 s2 r2 s3 r3 s4 r4 s5 r5 s6 r6
   go_wp2
   rw [← HWF.out]
   refine bodyPost_ret (v := .agg #[.string ⟨nm.toArray⟩, .string ⟨su.toArray⟩, .bool fc, .bool ab, .slice B1 is.length d1, .slice B2 fs.length d2, .slice B l.length d]) ?_ rfl HRS.out
   simp [results, Tryz.results58, go_sem, R0.out, R1.out, R2.out, R3.out, R4.out, R5.out, R6.out]
 ·skip
  go_simp
  skip
  refine hK.out _ _ trivial (fun hHeld => ?_)
  clear hK K
  try simp only [puts]
  refine rdy 1 rfl (fun K hK => ?_)
  go_simp
  skip
  refine hK.out _ _ trivial (fun hHeld => ?_)
  clear hK K
  try simp only [puts]
  refine rdy 2 rfl (fun K hK => ?_)
  go_simp
  refine (HC1.out _ (by first | exact HAL.out | exact overD HAL.out)).mono ?_; rintro e v1 ⟨⟨B1, d1, rfl, o1⟩, hb⟩; have k1 : Below V.heap.size V v1 := (by first | exact hb | exact under hb | exact ⟨hb.os, hb.tape, hb.output, hb.size, hb.block⟩); have O1 := zh o1; have K1 := zh k1; have e5 : v1.cell? ⟨v.heap.size, 5, none⟩ = some (.slice A2 fs.length c2) := cell_of_row _ _ 5 _ _ _ ((k1.block _ G1.out).trans HBI.out); clear hb o1 k1
  refine hK.out _ _ trivial (fun hHeld => ?_)
  clear hK K
  try simp only [puts]
  clear e5 d4 d5
  refine tkp 6 rfl ?_
  refine rdy 5 rfl (fun K hK => ?_)
  go_simp
  refine (HC2.out _ (HAL.out.trans (K1.out.mono HAL.out.size))).mono ?_; rintro e v2 ⟨⟨B2, d2, rfl, o2⟩, hb⟩; have K2 := zh (K1.out.trans (Below.mono hb K1.out.size)); have O2 := zh o2; have P1 := zh (own_below O1.out hb); have S1 := zh (Nat.le_trans K1.out.size (Nat.le_refl _)); clear hb o2
  refine hK.out _ _ trivial (fun hHeld => ?_)
  clear hK K
  try simp only [puts]
  have hq := (K2.out.block _ G1.out).trans HBI.out; have q4 : v2.cell? ⟨v.heap.size, 4, none⟩ = some (.slice A1 is.length c1) := cell_of_row _ _ 4 _ _ _ hq; have qf4 := frozen_of_row _ _ 4 _ _ hq; have hq4 : (v2.setCell ⟨v.heap.size, 4, none⟩ (.slice B1 is.length d1)).heap[v.heap.size]? = some (.cells #[.string ⟨nm.toArray⟩, .string ⟨su.toArray⟩, .bool fc, .bool ab, .slice B1 is.length d1, .slice A2 fs.length c2, .slice A ms.length c] 159 (0, 0)) := heap_setCell_same v2 v.heap.size 4 _ _ (.slice B1 is.length d1) hq; have q5 : (v2.setCell ⟨v.heap.size, 4, none⟩ (.slice B1 is.length d1)).cell? ⟨v.heap.size, 5, none⟩ = some (.slice A2 fs.length c2) := cell_of_row _ _ 5 _ _ _ hq4; have qf5 := frozen_of_row _ _ 5 _ _ hq4; have HQ5 := zh (show ((v2.setCell ⟨v.heap.size, 4, none⟩ (.slice B1 is.length d1)).setCell ⟨v.heap.size, 5, none⟩ (.slice B2 fs.length d2)).heap[v.heap.size]? = some (.cells #[.string ⟨nm.toArray⟩, .string ⟨su.toArray⟩, .bool fc, .bool ab, .slice B1 is.length d1, .slice B2 fs.length d2, .slice A ms.length c] 159 (0, 0)) from heap_setCell_same _ v.heap.size 5 _ _ (.slice B2 fs.length d2) hq4); clear hq hq4
  refine rdy 7 rfl (fun K hK => ?_)
  go_simp
  skip
  refine hK.out _ _ trivial (fun hHeld => ?_)
  clear hK K
  try simp only [puts]
  refine tkp 8 rfl ?_
  refine rdy 9 rfl (fun K hK => ?_)
  go_simp
  skip
  refine hK.out _ _ trivial (fun hHeld => ?_)
  clear hK K
  try simp only [puts]
  refine wpAnyH_done (by kernel_rfl) ?_ _
  clear q4 qf4 q5 qf5
  have hb5 : Below v.heap.size v ((v2.setCell ⟨v.heap.size, 4, none⟩ (.slice B1 is.length d1)).setCell ⟨v.heap.size, 5, none⟩ (.slice B2 fs.length d2)) := ((HAL.out.trans (K2.out.mono HAL.out.size)).setCell (p := ⟨v.heap.size, 4, none⟩) (Nat.le_refl _) _).setCell (p := ⟨v.heap.size, 5, none⟩) (Nat.le_refl _) _
  have hj5 : ((v2.setCell ⟨v.heap.size, 4, none⟩ (.slice B1 is.length d1)).setCell ⟨v.heap.size, 5, none⟩ (.slice B2 fs.length d2)).heap[v.heap.size + 1]? = some (.cells #[.string ⟨#[]⟩, .string ⟨#[]⟩, .bool false, .bool false, .slice none 0 0, .slice none 0 0, .slice none 0 0] 159 (0, 0)) := (Below.heap_setCell _ _ _ _ (by simp)).trans ((Below.heap_setCell _ _ _ _ (by simp)).trans ((K2.out.block _ G2.out).trans HBJ.out))
  have u1 : ((v2.setCell ⟨v.heap.size, 4, none⟩ (.slice B1 is.length d1)).setCell ⟨v.heap.size, 5, none⟩ (.slice B2 fs.length d2)).ownsRow V.heap.size 9 1 (.slice B1 is.length d1) is.length (SX is) := own_gb (own_gb P1.out G1.out (gb_set _ _ _ _)) G1.out (gb_set _ _ _ _)
  have u2 : ((v2.setCell ⟨v.heap.size, 4, none⟩ (.slice B1 is.length d1)).setCell ⟨v.heap.size, 5, none⟩ (.slice B2 fs.length d2)).ownsRow V.heap.size 167 4 (.slice B2 fs.length d2) fs.length (fs.flatMap fiC) := own_gb (own_gb (own_base O2.out K1.out.size) G1.out (gb_set _ _ _ _)) G1.out (gb_set _ _ _ _)
  have k5 : ((v2.setCell ⟨v.heap.size, 4, none⟩ (.slice B1 is.length d1)).setCell ⟨v.heap.size, 5, none⟩ (.slice B2 fs.length d2)).heap.size = v2.heap.size := by simp
  have g5 : V.heap.size ≤ ((v2.setCell ⟨v.heap.size, 4, none⟩ (.slice B1 is.length d1)).setCell ⟨v.heap.size, 5, none⟩ (.slice B2 fs.length d2)).heap.size := by rw [k5]; exact K2.out.size
  obtain ⟨W5, hW5⟩ : ∃ W, W = ((v2.setCell ⟨v.heap.size, 4, none⟩ (.slice B1 is.length d1)).setCell ⟨v.heap.size, 5, none⟩ (.slice B2 fs.length d2)) := ⟨_, rfl⟩
  rw [← hW5] at hb5 hj5 u1 u2 g5 HQ5 ⊢
  have hbi := HQ5.out
  have n6 : W5.cell? ⟨v.heap.size, 6, none⟩ = some (.slice A ms.length c) := cell_of_row _ _ 6 _ _ _ hbi
  have HB5 := zh hb5; have HJ5 := zh hj5; have U1 := zh u1; have U2 := zh u2; have G5 := zh g5; have GA := zh (blk_lt hbi); have GB := zh (blk_lt hj5)
  clear hb5 hj5 u1 u2 g5 k5 hbi hW5
  go_wp2_with fail
  refine (HCP.out _ HB5.out).mono ?_
  rintro e v9 ⟨⟨B, d, l, rfl, h1, h2, h3, h4, h5⟩, hb1⟩
  obtain ⟨v1, hv1⟩ : ∃ x, x = v9 := ⟨_, rfl⟩
  subst hv1
  have g1 : v.heap.size < W5.heap.size := GA.out
  have g2 : v.heap.size + 1 < W5.heap.size := GB.out
  have hbi1 := (hb1.block _ g1).trans HQ5.out
  have hbj1 := (hb1.block _ g2).trans HJ5.out
  have q6 : v1.cell? ⟨v.heap.size, 6, none⟩ = some (.slice A ms.length c) := cell_of_row _ _ 6 _ _ _ hbi1
  have qf6 := frozen_of_row _ _ 6 _ _ hbi1
  have hb8 : (v1.setCell ⟨v.heap.size, 6, none⟩ (.slice B l.length d)).heap[v.heap.size]? = some (.cells #[.string ⟨nm.toArray⟩, .string ⟨su.toArray⟩, .bool fc, .bool ab, .slice B1 is.length d1, .slice B2 fs.length d2, .slice B l.length d] 159 (0, 0)) := heap_setCell_same v1 v.heap.size 6 _ _ (.slice B l.length d) hbi1
  have hj8 : (v1.setCell ⟨v.heap.size, 6, none⟩ (.slice B l.length d)).heap[v.heap.size + 1]? = some (.cells #[.string ⟨#[]⟩, .string ⟨#[]⟩, .bool false, .bool false, .slice none 0 0, .slice none 0 0, .slice none 0 0] 159 (0, 0)) := (Below.heap_setCell _ _ _ _ (by simp)).trans hbj1
  obtain ⟨e0, e1, e2, e3, e4, e5, e6⟩ := c7q hb8
  have z0 : (v1.setCell ⟨v.heap.size, 6, none⟩ (.slice B l.length d)).cell? ⟨v.heap.size + 1, 0, none⟩ = some (.string ⟨#[]⟩) := cell_of_row _ _ 0 _ _ _ hj8
  have zf0 := frozen_of_row _ _ 0 _ _ hj8
  have z1 : (v1.setCell ⟨v.heap.size, 6, none⟩ (.slice B l.length d)).cell? ⟨v.heap.size + 1, 1, none⟩ = some (.string ⟨#[]⟩) := cell_of_row _ _ 1 _ _ _ hj8
  have zf1 := frozen_of_row _ _ 1 _ _ hj8
  have z2 : (v1.setCell ⟨v.heap.size, 6, none⟩ (.slice B l.length d)).cell? ⟨v.heap.size + 1, 2, none⟩ = some (.bool false) := cell_of_row _ _ 2 _ _ _ hj8
  have zf2 := frozen_of_row _ _ 2 _ _ hj8
  have z3 : (v1.setCell ⟨v.heap.size, 6, none⟩ (.slice B l.length d)).cell? ⟨v.heap.size + 1, 3, none⟩ = some (.bool false) := cell_of_row _ _ 3 _ _ _ hj8
  have zf3 := frozen_of_row _ _ 3 _ _ hj8
  have z4 : (v1.setCell ⟨v.heap.size, 6, none⟩ (.slice B l.length d)).cell? ⟨v.heap.size + 1, 4, none⟩ = some (.slice none 0 0) := cell_of_row _ _ 4 _ _ _ hj8
  have zf4 := frozen_of_row _ _ 4 _ _ hj8
  have z5 : (v1.setCell ⟨v.heap.size, 6, none⟩ (.slice B l.length d)).cell? ⟨v.heap.size + 1, 5, none⟩ = some (.slice none 0 0) := cell_of_row _ _ 5 _ _ _ hj8
  have zf5 := frozen_of_row _ _ 5 _ _ hj8
  have z6 : (v1.setCell ⟨v.heap.size, 6, none⟩ (.slice B l.length d)).cell? ⟨v.heap.size + 1, 6, none⟩ = some (.slice none 0 0) := cell_of_row _ _ 6 _ _ _ hj8
  have zf6 := frozen_of_row _ _ 6 _ _ hj8
  have HB1 := zh (HB5.out.trans (hb1.mono HB5.out.size))
  have s0 := heap_setCell_same _ (v.heap.size + 1) 0 _ _ (.string ⟨nm.toArray⟩) hj8
  have s1 := heap_setCell_same _ (v.heap.size + 1) 1 _ _ (.string ⟨su.toArray⟩) s0
  have s2 := heap_setCell_same _ (v.heap.size + 1) 2 _ _ (.bool fc) s1
  have s3 := heap_setCell_same _ (v.heap.size + 1) 3 _ _ (.bool ab) s2
  have s4 := heap_setCell_same _ (v.heap.size + 1) 4 _ _ (.slice B1 is.length d1) s3
  have s5 := heap_setCell_same _ (v.heap.size + 1) 5 _ _ (.slice B2 fs.length d2) s4
  have s6 := heap_setCell_same _ (v.heap.size + 1) 6 _ _ (.slice B l.length d) s5
  obtain ⟨WF, hWF⟩ : ∃ WF, WF = ((((((((v1.setCell ⟨v.heap.size, 6, none⟩ (.slice B l.length d)).setCell ⟨v.heap.size + 1, 0, none⟩ (.string ⟨nm.toArray⟩)).setCell ⟨v.heap.size + 1, 1, none⟩ (.string ⟨su.toArray⟩)).setCell ⟨v.heap.size + 1, 2, none⟩ (.bool fc)).setCell ⟨v.heap.size + 1, 3, none⟩ (.bool ab)).setCell ⟨v.heap.size + 1, 4, none⟩ (.slice B1 is.length d1)).setCell ⟨v.heap.size + 1, 5, none⟩ (.slice B2 fs.length d2)).setCell ⟨v.heap.size + 1, 6, none⟩ (.slice B l.length d)) := ⟨_, rfl⟩
  rw [← hWF] at s6
  have sF : WF.heap[v.heap.size + 1]? = some (.cells #[.string ⟨nm.toArray⟩, .string ⟨su.toArray⟩, .bool fc, .bool ab, .slice B1 is.length d1, .slice B2 fs.length d2, .slice B l.length d] 159 (0, 0)) := by rw [s6]; simp
  obtain ⟨r0, r1, r2, r3, r4, r5, r6⟩ := c7q sF
  have HBF := zh (show Below v.heap.size v WF from by rw [hWF]; exact ((((((((HB1.out.setCell (p := ⟨v.heap.size, 6, none⟩) (Nat.le_refl _) (.slice B l.length d)).setCell (p := ⟨v.heap.size + 1, 0, none⟩) (by simp) (.string ⟨nm.toArray⟩)).setCell (p := ⟨v.heap.size + 1, 1, none⟩) (by simp) (.string ⟨su.toArray⟩)).setCell (p := ⟨v.heap.size + 1, 2, none⟩) (by simp) (.bool fc)).setCell (p := ⟨v.heap.size + 1, 3, none⟩) (by simp) (.bool ab)).setCell (p := ⟨v.heap.size + 1, 4, none⟩) (by simp) (.slice B1 is.length d1)).setCell (p := ⟨v.heap.size + 1, 5, none⟩) (by simp) (.slice B2 fs.length d2)).setCell (p := ⟨v.heap.size + 1, 6, none⟩) (by simp) (.slice B l.length d)))
  have HWF := zh hWF
  have R0 := zh r0
  have R1 := zh r1
  have R2 := zh r2
  have R3 := zh r3
  have R4 := zh r4
  have R5 := zh r5
  have R6 := zh r6
  have gA := gb_set v1 v.heap.size 6 (.slice B l.length d)
  have gB : (v1.setCell ⟨v.heap.size, 6, none⟩ (.slice B l.length d)).grownBy WF (some (v.heap.size + 1)) := by rw [hWF]; exact (gb_trans (gb_trans (gb_trans (gb_trans (gb_trans (gb_trans (gb_set _ (v.heap.size + 1) 0 (.string ⟨nm.toArray⟩)) (gb_set _ (v.heap.size + 1) 1 (.string ⟨su.toArray⟩))) (gb_set _ (v.heap.size + 1) 2 (.bool fc))) (gb_set _ (v.heap.size + 1) 3 (.bool ab))) (gb_set _ (v.heap.size + 1) 4 (.slice B1 is.length d1))) (gb_set _ (v.heap.size + 1) 5 (.slice B2 fs.length d2))) (gb_set _ (v.heap.size + 1) 6 (.slice B l.length d)))
  have p1 := own_below U1.out hb1
  have p2 := own_below U2.out hb1
  have f1 : v.heap.size < V.heap.size := G1.out
  have f2 : v.heap.size + 1 < V.heap.size := G2.out
  have HRS := zh (HPO.out B1 d1 B2 d2 B d l WF (own_base (own_gb (own_gb p1 f1 gA) f2 gB) (Nat.le_of_lt f1)) (own_base (own_gb (own_gb p2 f1 gA) f2 gB) (Nat.le_of_lt f1)) h1 (own_base (own_gb (own_gb h4 g1 gA) g2 gB) (Nat.le_of_lt g1)) (fun y hy => (((h5 y hy).gb (Nat.lt_succ_of_lt g1) gA).gb (Nat.lt_succ_of_lt g2) gB).mono (Nat.le_succ_of_le (Nat.le_of_lt g1))) HBF.out)
  clear hbi1 hbj1 hb8 hj8 hWF gA gB hb1 g1 g2 sF h1 h2 h3 h4 h5 p1 p2 f1 f2 n6 s0 r0 s1 r1 s2 r2 s3 r3 s4 r4 s5 r5 s6 r6
  go_wp2
  rw [← HWF.out]
  refine bodyPost_ret (v := .agg #[.string ⟨nm.toArray⟩, .string ⟨su.toArray⟩, .bool fc, .bool ab, .slice B1 is.length d1, .slice B2 fs.length d2, .slice B l.length d]) ?_ rfl HRS.out
  simp [results, Tryz.results58, go_sem, R0.out, R1.out, R2.out, R3.out, R4.out, R5.out, R6.out]
def CloPo (x : PrM) (v : World) (e : Ending) (w' : World) : Prop := (∃ y, e = .returned (.agg (prC y).toArray) ∧ pP y = pP x ∧ OwP v.heap.size w' y) ∧ Below v.heap.size v w'
theorem pr_eq {m k : PrM} (h1 : m.cs.map pC = k.cs.map pC) (h2 : m.ns = k.ns) (h3 : m.ec = k.ec) (h4 : m.en = k.en) (h5 : m.ed = k.ed) : pP m = pP k := by unfold pP; rw [h1, h2, h3, h4, h5]
theorem clone_g (x : PrM) (v : World) (hk : PrOk v x) (hg : GrP x) : Calls Tryz.prog 28 #[.agg (prC x).toArray] v (CloPo x v) := by
 have HC1 := zh (fun w (h : Below v.heap.size v w) => cln_str x.A2 x.ns.length x.c2 (SX x.ns) w (hk.2.1.2.below h) (by simp [SX]) (by have := hg.1.2; omega) (SX_one _))
 have HCP := zh (fun w (h : Below v.heap.size v w) => copied_clo x.A1 x.c1 x.cs w (hk.1.2.below h) (by have := hg.1.1; omega) (fun y hy u hu => cloC_g y u (((hk.2.2 y hy).below h).below hu) (hg.2 y hy)))
 have HPO := zh (fun (B1 : Option Addr) (d1 : Nat) (B : Option Addr) (d : Nat) (l' : List ClM) (w' : World) (k1 : w'.ownsRow v.heap.size 9 1 (.slice B1 x.ns.length d1) x.ns.length (SX x.ns)) (h1 : l'.map pC = x.cs.map pC) (h4 : w'.ownsRow v.heap.size 159 7 (.slice B l'.length d) l'.length (l'.flatMap clC)) (h5 : ∀ y ∈ l', OwC v.heap.size w' y) (k : Below v.heap.size v w') =>
  show CloPo x v (.returned (.agg (prC ⟨l', B, d, x.ns, B1, d1, x.ec, x.en, x.ed⟩).toArray)) w' from ⟨⟨_, rfl, pr_eq h1 rfl rfl rfl rfl, h4, k1, h5⟩, k⟩)
 clear hk hg
 obtain ⟨cs, A, c, ns, A2, c2, ec, en, ed⟩ := x
 unfold prC at HPO ⊢
 dsimp only at HPO HCP HC1 ⊢
 obtain ⟨V, hV⟩ : ∃ V, V = (v.alloc (.cells #[.slice A cs.length c, .slice A2 ns.length c2, .string ⟨ec.toArray⟩, .string ⟨en.toArray⟩, .string ⟨ed.toArray⟩] 36)).alloc (.cells #[.slice none 0 0, .slice none 0 0, .string ⟨#[]⟩, .string ⟨#[]⟩, .string ⟨#[]⟩] 36) := ⟨_, rfl⟩
 have hal : Below v.heap.size v V := by rw [hV]; exact ((Below.refl _ v).alloc (Nat.le_refl _) _).alloc (by simp) _
 have hbi : V.heap[v.heap.size]? = some (.cells #[.slice A cs.length c, .slice A2 ns.length c2, .string ⟨ec.toArray⟩, .string ⟨en.toArray⟩, .string ⟨ed.toArray⟩] 36 (0, 0)) := by rw [hV]; exact (Below.heap_alloc _ _ _ (by simp)).trans (heap_alloc_new v _)
 have hbj : V.heap[v.heap.size + 1]? = some (.cells #[.slice none 0 0, .slice none 0 0, .string ⟨#[]⟩, .string ⟨#[]⟩, .string ⟨#[]⟩] 36 (0, 0)) := by
  rw [hV]
  have := heap_alloc_new (v.alloc (.cells #[.slice A cs.length c, .slice A2 ns.length c2, .string ⟨ec.toArray⟩, .string ⟨en.toArray⟩, .string ⟨ed.toArray⟩] 36)) (.cells #[.slice none 0 0, .slice none 0 0, .string ⟨#[]⟩, .string ⟨#[]⟩, .string ⟨#[]⟩] 36)
  rwa [World.size_alloc] at this
 have HV := zh hV; have HAL := zh hal
 obtain ⟨d0, d1, d2, d3, d4⟩ := c5q hbi
 have HBI := zh hbi; have HBJ := zh hbj
 have G1 := zh (blk_lt hbi); have G2 := zh (blk_lt hbj)
 clear hV hal hbi hbj
 go_enter Tryz.func28, Tryz.ntmps28
 go_wp2_with fail
 try simp only [World.size_alloc]
 rw [← HV.out]
 (try go_wp2_with fail)
 refine (HC1.out V HAL.out).mono ?_
 rintro e v0 ⟨⟨B1, d1, rfl, o1⟩, hb⟩
 have hq := (hb.block _ G1.out).trans HBI.out
 have hqj := (hb.block _ G2.out).trans HBJ.out
 have q1 : v0.cell? ⟨v.heap.size, 1, none⟩ = some (.slice A2 ns.length c2) := cell_of_row _ _ 1 _ _ _ hq
 have qf1 := frozen_of_row _ _ 1 _ _ hq
 have hq4 : (v0.setCell ⟨v.heap.size, 1, none⟩ (.slice B1 ns.length d1)).heap[v.heap.size]? = some (.cells #[.slice A cs.length c, .slice B1 ns.length d1, .string ⟨ec.toArray⟩, .string ⟨en.toArray⟩, .string ⟨ed.toArray⟩] 36 (0, 0)) := heap_setCell_same v0 v.heap.size 1 _ _ (.slice B1 ns.length d1) hq
 have hj4 : (v0.setCell ⟨v.heap.size, 1, none⟩ (.slice B1 ns.length d1)).heap[v.heap.size + 1]? = some (.cells #[.slice none 0 0, .slice none 0 0, .string ⟨#[]⟩, .string ⟨#[]⟩, .string ⟨#[]⟩] 36 (0, 0)) := (Below.heap_setCell _ _ _ _ (by simp)).trans hqj
 have n0 : (v0.setCell ⟨v.heap.size, 1, none⟩ (.slice B1 ns.length d1)).cell? ⟨v.heap.size, 0, none⟩ = some (.slice A cs.length c) := cell_of_row _ _ 0 _ _ _ hq4
 have HB5 := zh (show Below v.heap.size v (v0.setCell ⟨v.heap.size, 1, none⟩ (.slice B1 ns.length d1)) from (HAL.out.trans (hb.mono HAL.out.size)).setCell (p := ⟨v.heap.size, 1, none⟩) (Nat.le_refl _) _)
 have U1 := zh (show (v0.setCell ⟨v.heap.size, 1, none⟩ (.slice B1 ns.length d1)).ownsRow V.heap.size 9 1 (.slice B1 ns.length d1) ns.length (SX ns) from own_gb o1 G1.out (gb_set _ _ _ _))
 have HQ5 := zh hq4; have HJ5 := zh hj4; have GA := zh (blk_lt hq4); have GB := zh (blk_lt hj4)
 clear hb o1 hq hqj hq4 hj4 
 go_wp2_with fail
 refine (HCP.out _ HB5.out).mono ?_
 rintro e v1 ⟨⟨B, d, l, rfl, h1, h2, h3, h4, h5⟩, hb1⟩
 have g1 : v.heap.size < (v0.setCell ⟨v.heap.size, 1, none⟩ (.slice B1 ns.length d1)).heap.size := GA.out
 have g2 : v.heap.size + 1 < (v0.setCell ⟨v.heap.size, 1, none⟩ (.slice B1 ns.length d1)).heap.size := GB.out
 have hbi1 := (hb1.block _ g1).trans HQ5.out
 have hbj1 := (hb1.block _ g2).trans HJ5.out
 have q0 : v1.cell? ⟨v.heap.size, 0, none⟩ = some (.slice A cs.length c) := cell_of_row _ _ 0 _ _ _ hbi1
 have qf0 := frozen_of_row _ _ 0 _ _ hbi1
 have hb8 : (v1.setCell ⟨v.heap.size, 0, none⟩ (.slice B l.length d)).heap[v.heap.size]? = some (.cells #[.slice B l.length d, .slice B1 ns.length d1, .string ⟨ec.toArray⟩, .string ⟨en.toArray⟩, .string ⟨ed.toArray⟩] 36 (0, 0)) := heap_setCell_same v1 v.heap.size 0 _ _ (.slice B l.length d) hbi1
 have hj8 : (v1.setCell ⟨v.heap.size, 0, none⟩ (.slice B l.length d)).heap[v.heap.size + 1]? = some (.cells #[.slice none 0 0, .slice none 0 0, .string ⟨#[]⟩, .string ⟨#[]⟩, .string ⟨#[]⟩] 36 (0, 0)) := (Below.heap_setCell _ _ _ _ (by simp)).trans hbj1
 obtain ⟨e0, e1, e2, e3, e4⟩ := c5q hb8
 have z0 : (v1.setCell ⟨v.heap.size, 0, none⟩ (.slice B l.length d)).cell? ⟨v.heap.size + 1, 0, none⟩ = some (.slice none 0 0) := cell_of_row _ _ 0 _ _ _ hj8
 have zf0 := frozen_of_row _ _ 0 _ _ hj8
 have z1 : (v1.setCell ⟨v.heap.size, 0, none⟩ (.slice B l.length d)).cell? ⟨v.heap.size + 1, 1, none⟩ = some (.slice none 0 0) := cell_of_row _ _ 1 _ _ _ hj8
 have zf1 := frozen_of_row _ _ 1 _ _ hj8
 have z2 : (v1.setCell ⟨v.heap.size, 0, none⟩ (.slice B l.length d)).cell? ⟨v.heap.size + 1, 2, none⟩ = some (.string ⟨#[]⟩) := cell_of_row _ _ 2 _ _ _ hj8
 have zf2 := frozen_of_row _ _ 2 _ _ hj8
 have z3 : (v1.setCell ⟨v.heap.size, 0, none⟩ (.slice B l.length d)).cell? ⟨v.heap.size + 1, 3, none⟩ = some (.string ⟨#[]⟩) := cell_of_row _ _ 3 _ _ _ hj8
 have zf3 := frozen_of_row _ _ 3 _ _ hj8
 have z4 : (v1.setCell ⟨v.heap.size, 0, none⟩ (.slice B l.length d)).cell? ⟨v.heap.size + 1, 4, none⟩ = some (.string ⟨#[]⟩) := cell_of_row _ _ 4 _ _ _ hj8
 have zf4 := frozen_of_row _ _ 4 _ _ hj8
 have HB1 := zh (HB5.out.trans (hb1.mono HB5.out.size))
 have s0 := heap_setCell_same _ (v.heap.size + 1) 0 _ _ (.slice B l.length d) hj8
 have s1 := heap_setCell_same _ (v.heap.size + 1) 1 _ _ (.slice B1 ns.length d1) s0
 have s2 := heap_setCell_same _ (v.heap.size + 1) 2 _ _ (.string ⟨ec.toArray⟩) s1
 have s3 := heap_setCell_same _ (v.heap.size + 1) 3 _ _ (.string ⟨en.toArray⟩) s2
 have s4 := heap_setCell_same _ (v.heap.size + 1) 4 _ _ (.string ⟨ed.toArray⟩) s3
 obtain ⟨WF, hWF⟩ : ∃ WF, WF = ((((((v1.setCell ⟨v.heap.size, 0, none⟩ (.slice B l.length d)).setCell ⟨v.heap.size + 1, 0, none⟩ (.slice B l.length d)).setCell ⟨v.heap.size + 1, 1, none⟩ (.slice B1 ns.length d1)).setCell ⟨v.heap.size + 1, 2, none⟩ (.string ⟨ec.toArray⟩)).setCell ⟨v.heap.size + 1, 3, none⟩ (.string ⟨en.toArray⟩)).setCell ⟨v.heap.size + 1, 4, none⟩ (.string ⟨ed.toArray⟩)) := ⟨_, rfl⟩
 rw [← hWF] at s4
 have sF : WF.heap[v.heap.size + 1]? = some (.cells #[.slice B l.length d, .slice B1 ns.length d1, .string ⟨ec.toArray⟩, .string ⟨en.toArray⟩, .string ⟨ed.toArray⟩] 36 (0, 0)) := by rw [s4]; simp
 obtain ⟨r0, r1, r2, r3, r4⟩ := c5q sF
 have HBF := zh (show Below v.heap.size v WF from by rw [hWF]; exact ((((((HB1.out.setCell (p := ⟨v.heap.size, 0, none⟩) (Nat.le_refl _) (.slice B l.length d)).setCell (p := ⟨v.heap.size + 1, 0, none⟩) (by simp) (.slice B l.length d)).setCell (p := ⟨v.heap.size + 1, 1, none⟩) (by simp) (.slice B1 ns.length d1)).setCell (p := ⟨v.heap.size + 1, 2, none⟩) (by simp) (.string ⟨ec.toArray⟩)).setCell (p := ⟨v.heap.size + 1, 3, none⟩) (by simp) (.string ⟨en.toArray⟩)).setCell (p := ⟨v.heap.size + 1, 4, none⟩) (by simp) (.string ⟨ed.toArray⟩)))
 have HWF := zh hWF
 have R0 := zh r0
 have R1 := zh r1
 have R2 := zh r2
 have R3 := zh r3
 have R4 := zh r4
 have gA := gb_set v1 v.heap.size 0 (.slice B l.length d)
 have gB : (v1.setCell ⟨v.heap.size, 0, none⟩ (.slice B l.length d)).grownBy WF (some (v.heap.size + 1)) := by rw [hWF]; exact (gb_trans (gb_trans (gb_trans (gb_trans (gb_set _ (v.heap.size + 1) 0 (.slice B l.length d)) (gb_set _ (v.heap.size + 1) 1 (.slice B1 ns.length d1))) (gb_set _ (v.heap.size + 1) 2 (.string ⟨ec.toArray⟩))) (gb_set _ (v.heap.size + 1) 3 (.string ⟨en.toArray⟩))) (gb_set _ (v.heap.size + 1) 4 (.string ⟨ed.toArray⟩)))
 have p1 := own_below U1.out hb1
 have f1 : v.heap.size < V.heap.size := G1.out
 have f2 : v.heap.size + 1 < V.heap.size := G2.out
 have HRS := zh (HPO.out B1 d1 B d l WF (own_base (own_gb (own_gb p1 f1 gA) f2 gB) (Nat.le_of_lt f1)) h1 (own_base (own_gb (own_gb h4 g1 gA) g2 gB) (Nat.le_of_lt g1)) (fun y hy => (((h5 y hy).gb (Nat.lt_succ_of_lt g1) gA).gb (Nat.lt_succ_of_lt g2) gB).mono (Nat.le_succ_of_le (Nat.le_of_lt g1))) HBF.out)
 clear hbi1 hbj1 hb8 hj8 hWF gA gB hb1 g1 g2 sF h1 h2 h3 h4 h5 p1 f1 f2 n0 s0 r0 s1 r1 s2 r2 s3 r3 s4 r4
 go_wp2
 rw [← HWF.out]
 refine bodyPost_ret (v := .agg #[.slice B l.length d, .slice B1 ns.length d1, .string ⟨ec.toArray⟩, .string ⟨en.toArray⟩, .string ⟨ed.toArray⟩]) ?_ rfl HRS.out
 simp [results, Tryz.results28, go_sem, R0.out, R1.out, R2.out, R3.out, R4.out]
end Go.Proofs.YtjejmlpjifhmmaaGreatDoor.prg

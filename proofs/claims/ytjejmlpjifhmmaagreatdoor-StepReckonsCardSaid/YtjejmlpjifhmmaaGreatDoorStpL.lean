/- StpL -/
import Derived.Test.YtjejmlpjifhmmaaGreatDoorStpO
import Derived.Defers
import Derived.Recover
import Derived.Test.YtjejmlpjifhmmaaGreatDoorFind
namespace Go.Proofs.YtjejmlpjifhmmaaGreatDoor.stp
open Go.RowKit Go.MapKept Go.ChangeMaps Go.Shelf
open words kindp opp op kind prg sto find
set_option maxRecDepth 100000
set_option maxHeartbeats 8000000
set_option linter.all false
def BegP (mb : Nat) (m : MS) (w : World) (e : Ending) (w' : World) : Prop := e = .returned (.bool false) ∧ (∃ g A c, Mk mb { m with bm := .map (some g), br := .slice A 1 c } w' ∧ w'.heap[g]? = some ob1 ∧ w.heap.size ≤ g ∧ Rd w' A [.string ⟨#[65]⟩] ∧ (∀ a, A = some a → w.heap.size ≤ a.block) ∧ 1 ≤ c) ∧ Kp [mb] w w'
theorem begin_w (mb : Nat) (m : MS) (Af : Option Addr) (nf cf : Nat) (w1 w : World) (hS : Since mb w1 w) (h : Mk mb m w) (hx : So m.x) (hok : PrOk w1 m.x) (hg : GrP m.x) (hf : m.fr = .slice Af nf cf) (hnf : nf ≤ 32) (hbm : m.bm = .map none) (hbr : m.br = .slice none 0 0) :
 Calls Tryz.prog 74 #[.pointer (some ⟨mb, 0, none⟩), .string ⟨#[65]⟩] w (BegP mb m w) := by
 obtain ⟨i0, hi0, hz0, hz1, hz2⟩ := info_parts prg.infoSt
 have HSU := zh (supers_w m.x [65] w (hok.below hS.of) hg)
 have HIN := zh (fun (v : World) (hv : Below w.heap.size w v) => init_w m.x [65] v (hok.below ((hS.below hv).of)) hg)
 have HM := zh h
 have HRO := zh (fun (v : World) (hv : Mk mb m v) => show Calls Tryz.prog 111 #[.pointer (some ⟨mb, 0, none⟩), .int .i64 0] v _ from room_w mb m Af nf cf 0 v hv hf (by omega))
 have HHA := zh (fun (v : World) (hv : Mk mb m v) => has_zb mb m v hv hbm)
 have HAD := zh (fun (v : World) (hv : Mk mb m v) => add_b mb m v hv hbm hbr)
 have HSI := zh hx.init
 have HC := zh (show ∀ v : World, Mk mb m v → v.cell? ⟨mb, 0, none⟩ = some (.slice m.x.A1 m.x.cs.length m.x.c1) ∧ v.cell? ⟨mb, 1, none⟩ = some (.slice m.x.A2 m.x.ns.length m.x.c2) ∧ v.cell? ⟨mb, 2, none⟩ = some (.string ⟨m.x.ec.toArray⟩) ∧ v.cell? ⟨mb, 3, none⟩ = some (.string ⟨m.x.en.toArray⟩) ∧ v.cell? ⟨mb, 4, none⟩ = some (.string ⟨m.x.ed.toArray⟩) from fun v hm => ⟨cell_of_row _ _ 0 _ _ _ hm, cell_of_row _ _ 1 _ _ _ hm, cell_of_row _ _ 2 _ _ _ hm, cell_of_row _ _ 3 _ _ _ hm, cell_of_row _ _ 4 _ _ _ hm⟩)
 have hsup := hx.sup
 unfold SupP at HSU
 rw [hsup] at HSU
 have hini : refV (declR (fun m => m.st) m.x.cs [[65]] clinit [40, 41, 86]) clinit [40, 41, 86] = .tuple #[.agg #[.string ⟨#[]⟩, .string ⟨#[]⟩, .string ⟨#[]⟩], .bool false] := by rw [hx.init]; rfl
 rw [hini] at HIN
 obtain ⟨x0, x1, x2, x3, x4⟩ := HC.out _ h
 dsimp only [prC] at HSU HIN
 clear hS h hx hok hg hf hnf hbm hbr hsup hini
 go_enter Tryz.func74, Tryz.ntmps74
 go_wp2_with fail
 refine HSU.out.mono ?_
 rintro e v ⟨⟨A, c, rfl, hc, hr⟩, hb⟩
 dsimp only [List.length_cons, List.length_nil, Nat.zero_add]
 obtain ⟨a, ea, ha, hac⟩ := hr.at_ (j := 0) rfl
 cases ea
 have VA := zh hb
 have VM := zh (HM.out.below hb)
 have HA := zh (show v.cell? a = some (.string ⟨#[65]⟩) from by rw [show a.add 0 = a from by simp [Addr.add]] at hac; exact hac)
 clear hb hr hac ha hc HSU x0 x1 x2 x3 x4
 go_wp2
 refine wp_loop_rounds 2 ?_
 rw [rounds_succ]
 have ha0 := HA.out
 go_wp2_with fail
 refine (HHA.out v VM.out).mono ?_
 rintro e u ⟨rfl, hu⟩
 rw [hu]
 clear hu u
 obtain ⟨X, hX⟩ : ∃ X, X = v.alloc (.cells #[.string ⟨#[65]⟩] 9) := ⟨_, rfl⟩
 have xl : Below v.heap.size v X := by rw [hX]; exact (Below.refl _ _).alloc (Nat.le_refl _) _
 have xn : X.heap[v.heap.size]? = some (.cells #[.string ⟨#[65]⟩] 9 (0, 0)) := by rw [hX]; exact heap_alloc_new _ _
 have XR := zh (show Rd (v.alloc (.cells #[.string ⟨#[65]⟩] 9)) (some ⟨v.heap.size, 0, none⟩) [.string ⟨#[65]⟩] from by rw [← hX]; exact rd_blk xn (k := 1) rfl)
 have XZ := zh (show X.heap.size = v.heap.size + 1 from by rw [hX]; simp)
 have XL := zh xl; have HX := zh hX
 clear hX xl xn ha0
 go_wp2_with (at_builtin; refine wpList_app _ rfl (.tmp 33) (.tmp 35) _ rfl (v.heap.size + 1) 9 i0 _ 1 16 Tryz.underlying32 hi0 hz0 hz1 hz2 rfl (by omega) _ 0 [] rfl (World.ownsRow_nil _ _ _ _) (some ⟨v.heap.size, 0, none⟩) 1 1 [.string ⟨#[65]⟩] rfl rfl XR.out (by intro u hu; simp at hu; rcases hu with rfl; rfl) (by decide) (by decide) (by simp) ?_; intro v5 w5 hown5 hg5 hb5 hat5; obtain ⟨A5, c5, rfl, hnc5, -, hrd5⟩ := own_rd hown5; rw [← HX.out] at hb5; replace hb5 : Below X.heap.size X w5 := (by rw [XZ.out]; exact hb5); have A5q := zh (own_one hown5 (by decide)); have B5 := zh (then' VA.out (then' XL.out hb5)); have R5 := zh hrd5; have M5 := zh (VM.out.below (then' XL.out hb5)); clear hb5 hown5 hg5 hat5 hrd5 hnc5; obtain ⟨x0, x1, x2, x3, x4⟩ := HC.out _ M5.out)
 refine (HIN.out w5 B5.out).mono ?_
 rintro e u ⟨rfl, hb⟩
 obtain ⟨q, c6, e6, hq⟩ := A5q.out
 cases e6
 obtain ⟨a', ea', ha', hac'⟩ := (show Rd w5 (some ⟨q, 0, none⟩) [.string ⟨#[65]⟩] from R5.out).at_ (j := 0) rfl
 cases ea'
 have hq0 : w5.cell? ⟨q, 0, none⟩ = some (.string ⟨#[65]⟩) := by simpa [Addr.add] using hac'
 obtain ⟨Y, hY⟩ : ∃ Y, Y = u.alloc (.cells #[.string ⟨#[]⟩, .string ⟨#[]⟩, .string ⟨#[]⟩] 34) := ⟨_, rfl⟩
 have yl : Below u.heap.size u Y := by rw [hY]; exact (Below.refl _ _).alloc (Nat.le_refl _) _
 have wy : Below w5.heap.size w5 Y := then' hb yl
 have YQ := zh ((wy.cell (p := ⟨q, 0, none⟩) (World.block_lt_of_cell? _ _ hq0)).trans hq0)
 have YM := zh (M5.out.below wy)
 have YA := zh (show Below w.heap.size w Y from then' B5.out wy)
 have HY := zh hY
 clear hY yl wy hq0 hac' ha' hb x0 x1 x2 x3 x4 A5q R5 hq
 have HRY := zh (HRO.out Y YM.out)
 have HAY := zh (HAD.out Y YM.out)
 go_wp2
 rw [rounds_succ]
 go_wp2_with fail
 rw [← HY.out]
 refine HRY.out.mono ?_
 rintro e u' ⟨rfl, hu⟩
 rw [hu]
 clear hu u'
 have yq := YQ.out
 go_wp2
 refine wp_loop_rounds 2 ?_
 rw [rounds_succ]
 go_wp2_with fail
 refine HAY.out.mono ?_
 rintro e z ⟨rfl, ⟨g, A7, c7, hm, hgo, hgs, hrd, hab, hc7⟩, hk⟩
 have EN := zh (show BegP mb m w (.returned (.bool false)) z from ⟨rfl, ⟨g, A7, c7, hm, hgo, Nat.le_trans YA.out.size hgs, hrd, (fun a ha => Nat.le_trans YA.out.size (hab a ha)), hc7⟩, (Kp.below YA.out).trans hk⟩)
 clear hm hgo hgs hrd hab hc7 hk yq HAY
 go_wp2
 rw [rounds_succ]
 go_wp2
 refine wp_loop_rounds 1 ?_
 rw [rounds_succ]
 go_wp2
 go_ret
 exact EN.out
end Go.Proofs.YtjejmlpjifhmmaaGreatDoor.stp
namespace Go.Proofs.YtjejmlpjifhmmaaGreatDoor.stp
open Go.RowKit Go.MapKept Go.ChangeMaps Go.Shelf
open words kindp opp op kind prg sto find
set_option maxRecDepth 100000
set_option maxHeartbeats 8000000
set_option linter.all false
def StaP (mb : Nat) (m : MS) (w : World) (e : Ending) (w' : World) : Prop := e = .returned (.tuple #[]) ∧ ∃ (fb vb rb g g8 c c2 c8 : Nat) (A2 A8 : Option Addr) (k : MeM),
 Mk mb { m with fr := .slice (some ⟨rb, 0, none⟩) 1 c, em := .map (some g), er := .slice A2 1 c2, bm := .map (some g8), br := .slice A8 1 c8 } w' ∧ Fk fb ⟨[65], [109], [40, 41, 73], k.A, 4, k.c, 0, 1, vb, 1, 0⟩ w' ∧ w'.heap[vb]? = some ov0 ∧
 w'.cell? ⟨rb, 0, none⟩ = some (.pointer (some ⟨fb, 0, none⟩)) ∧ rb < w'.heap.size ∧ Rd w' A2 [.string ⟨#[65]⟩, .string ⟨#[109]⟩, .string ⟨#[40, 41, 73]⟩] ∧ (∀ a, A2 = some a → rb < a.block) ∧ Rd w' A8 [.string ⟨#[65]⟩] ∧ (∀ a, A8 = some a → rb < a.block) ∧ 1 ≤ c2 ∧ 1 ≤ c8 ∧ 1 ≤ c ∧
 w.heap.size ≤ vb ∧ vb < fb ∧ fb < rb ∧ pM k = pM (soM 0) ∧ CodeAt mb k vb w' ∧ Kp [mb] w w'
theorem start_w (mb : Nat) (m : MS) (w1 w : World) (hS : Since mb w1 w) (h : Mk mb m w) (hx : So m.x) (hok : PrOk w1 m.x) (hg : GrP m.x) (htk : Tk w1) (hf : m.fr = .slice none 0 0) (hem : m.em = .map none) (her : m.er = .slice none 0 0) (hbm : m.bm = .map none) (hbr : m.br = .slice none 0 0) :
 Calls Tryz.prog 34 #[.pointer (some ⟨mb, 0, none⟩)] w (StaP mb m w) := by
 have HGM := zh (fun (v : World) (hv : Below w.heap.size w v) => get_m m.x [65] [109] [40, 41, 73] v (hok.below ((hS.below hv).of)) hg)
 have HEN := zh (fun (v : World) (hv : Below w.heap.size w v) (hm : Mk mb m v) => enter_w mb m w1 v (hS.below hv) hm hx hok hg htk hf hem her)
 have HBE := zh (fun (m' : MS) (hx' : m'.x = m.x) (Af : Option Addr) (nf cf : Nat) (v : World) (hv : Since mb w1 v) (hm : Mk mb m' v) (h1 : m'.fr = .slice Af nf cf) (h2 : nf ≤ 32) (h3 : m'.bm = .map none) (h4 : m'.br = .slice none 0 0) => begin_w mb m' Af nf cf w1 v hv hm (by rw [hx']; exact hx) (by rw [hx']; exact hok) (by rw [hx']; exact hg) h1 h2 h3 h4)
 have HM := zh h; have HLT := zh (blk_lt h); have HSI := zh hS
 obtain ⟨_, _, -, -, -, -, -, -, -, -, -, h1, h2, h3⟩ := hx.parts
 have HC := zh (show ∀ v : World, Mk mb m v → (fun w' : World => w'.cell? ⟨mb, 0, none⟩ = some (.slice m.x.A1 m.x.cs.length m.x.c1) ∧ w'.cell? ⟨mb, 1, none⟩ = some (.slice m.x.A2 m.x.ns.length m.x.c2) ∧ w'.cell? ⟨mb, 2, none⟩ = some (.string ⟨#[65]⟩) ∧ w'.cell? ⟨mb, 3, none⟩ = some (.string ⟨#[109]⟩) ∧ w'.cell? ⟨mb, 4, none⟩ = some (.string ⟨#[40, 41, 73]⟩)) v from fun v hm => by
  have c2 : v.cell? ⟨mb, 2, none⟩ = some (.string ⟨m.x.ec.toArray⟩) := cell_of_row _ _ 2 _ _ _ hm
  have c3 : v.cell? ⟨mb, 3, none⟩ = some (.string ⟨m.x.en.toArray⟩) := cell_of_row _ _ 3 _ _ _ hm
  have c4 : v.cell? ⟨mb, 4, none⟩ = some (.string ⟨m.x.ed.toArray⟩) := cell_of_row _ _ 4 _ _ _ hm
  rw [h1] at c2; rw [h2] at c3; rw [h3] at c4
  exact ⟨cell_of_row _ _ 0 _ _ _ hm, cell_of_row _ _ 1 _ _ _ hm, c2, c3, c4⟩)
 have HSO := zh hx; have HBM := zh hbm; have HBR := zh hbr
 dsimp only [prC] at HGM
 rw [h1, h2, h3] at HGM
 clear hS h hx hok hg htk hf hem her hbm hbr h1 h2 h3
 have hS0 := HC.out _ HM.out
 try dsimp only at hS0
 go_enter Tryz.func34, Tryz.ntmps34
 go_wp2_with fail
 clear hS0
 refine wp_region_held_drew (S := fun w' : World => w'.cell? ⟨mb, 0, none⟩ = some (.slice m.x.A1 m.x.cs.length m.x.c1) ∧ w'.cell? ⟨mb, 1, none⟩ = some (.slice m.x.A2 m.x.ns.length m.x.c2) ∧ w'.cell? ⟨mb, 2, none⟩ = some (.string ⟨#[65]⟩) ∧ w'.cell? ⟨mb, 3, none⟩ = some (.string ⟨#[109]⟩) ∧ w'.cell? ⟨mb, 4, none⟩ = some (.string ⟨#[40, 41, 73]⟩)) (by kernel_rfl) ?_ (fun hHeld => ?_)
 ·exact HC.out _ HM.out
 obtain ⟨D, hD⟩ : ∃ u, u = w.drew := ⟨_, rfl⟩
 have DM := zh (show Mk mb m D from by rw [hD]; exact HM.out)
 have DA := zh (show Below w.heap.size w D from by rw [hD]; exact overW (Below.refl _ _))
 have DZ := zh (show D.heap.size = w.heap.size from by rw [hD]; rfl)
 rw [← hD]
 clear hD hHeld
 refine' cutH (T := _) ?pK ?fK
 case' fK => intro KEY
 ·have hS0 := HC.out _ DM.out
  try dsimp only at hS0
  refine tkp 0 rfl ?_
  refine tkp 1 rfl ?_
  refine tkp 2 rfl ?_
  refine tkp 3 rfl ?_
  refine tkp 4 rfl ?_
  refine tkp 5 rfl ?_
  refine tkp 6 rfl ?_
  refine tkp 7 rfl ?_
  refine tkp 8 rfl ?_
  clear hS0
  refine wpAnyH_ready (rs := [9, 13]) (by kernel_rfl) (by simp) (AllReadyH.cons rfl (fun K hK => ?_) (AllReadyH.cons rfl (fun K hK => ?_) AllReadyH.nil))
  ·go_simp
   refine (HGM.out D DA.out).mono ?_
   rintro e v ⟨⟨k, ok, rfl, hgr, hkc, hkr⟩, hb⟩
   obtain ⟨hok1, hpm⟩ := HSO.out.get hgr
   subst hok1
   have VM := zh (DM.out.below hb)
   have VA := zh (show Below w.heap.size w v from DA.out.trans (hb.mono DA.out.size))
   obtain ⟨X, hX⟩ : ∃ X, X = v.alloc (.cells #[.string ⟨#[]⟩, .string ⟨#[]⟩, .bool false, .bool false, .int .i64 0, .slice none 0 0] 155) := ⟨_, rfl⟩
   have XL : Below v.heap.size v X := by rw [hX]; exact (Below.refl _ _).alloc (Nat.le_refl _) _
   have XN := zh (show X.heap[v.heap.size]? = some (.cells #[.string ⟨#[]⟩, .string ⟨#[]⟩, .bool false, .bool false, .int .i64 0, .slice none 0 0] 155 (0, 0)) from by rw [hX]; exact heap_alloc_new _ _)
   have XM := zh (VM.out.below XL)
   have XA := zh (show Below w.heap.size w X from VA.out.trans (XL.mono VA.out.size))
   have BGE := zh (show w.heap.size ≤ v.heap.size from by have := hb.size; have := DZ.out; omega)
   have HKR := zh (hkr.below XL)
   have KPM := zh hpm
   have HX := zh hX
   clear hX XL hgr hkc hkr hb hpm
   unfold meC
   go_wp2_with fail
   refine hK.out _ _ (HC.out _ VM.out) (fun hHeld => ?_)
   clear hK K
   try simp only [puts]
   have hS0 := HC.out _ VM.out
   try dsimp only at hS0
   refine tkp 10 rfl ?_
   refine tkp 11 rfl ?_
   refine tkp 12 rfl ?_
   clear hS0
   refine rdy 13 rfl (fun K hK => ?_)
   go_simp
   rw [← HX.out]
   refine hK.out _ _ (HC.out _ XM.out) (fun hHeld => ?_)
   clear hK K
   try simp only [puts]
   obtain ⟨Z, hZ⟩ : ∃ Z, Z = ((((((X.setCell ⟨v.heap.size, 0, none⟩ (.string ⟨k.nm.toArray⟩)).setCell ⟨v.heap.size, 1, none⟩ (.string ⟨k.ds.toArray⟩)).setCell ⟨v.heap.size, 2, none⟩ (.bool k.st)).setCell ⟨v.heap.size, 3, none⟩ (.bool k.ab)).setCell ⟨v.heap.size, 4, none⟩ (.int .i64 k.rg)).setCell ⟨v.heap.size, 5, none⟩ (.slice k.A k.co.length k.c)) := ⟨_, rfl⟩
   have gZ : X.grownBy Z (some (v.heap.size)) := by rw [hZ]; exact gb6 _ _ _ _ _ _ _ _
   have nZ : Z.heap[v.heap.size]? = some (.cells #[.string ⟨k.nm.toArray⟩, .string ⟨k.ds.toArray⟩, .bool k.st, .bool k.ab, .int .i64 k.rg, .slice k.A k.co.length k.c] 155 (0, 0)) := by rw [hZ]; exact set6 XN.out _ _ _ _ _ _
   have kZ : Kp [v.heap.size] X Z := Kp.of gZ (fun c hc _ => by cases hc; simp)
   have mZ : Mk mb m Z := XM.out.kept kZ (by simp; have := HLT.out; have := BGE.out; omega)
   have rZ : Rd Z k.A (k.co.flatMap inC) := rd_six HKR.out XN.out (by simp) gZ
   have aZ : Below w.heap.size w Z := XA.out.trans (kZ.toBelow XA.out.size (by simp; have := BGE.out; omega))
   have y0 : X.cell? ⟨v.heap.size, 0, none⟩ = some (.string ⟨#[]⟩) := cell_of_row _ _ 0 _ _ _ XN.out
   have g0 := frozen_of_row _ _ 0 _ _ XN.out
   have y1 : X.cell? ⟨v.heap.size, 1, none⟩ = some (.string ⟨#[]⟩) := cell_of_row _ _ 1 _ _ _ XN.out
   have g1 := frozen_of_row _ _ 1 _ _ XN.out
   have y2 : X.cell? ⟨v.heap.size, 2, none⟩ = some (.bool false) := cell_of_row _ _ 2 _ _ _ XN.out
   have g2 := frozen_of_row _ _ 2 _ _ XN.out
   have y3 : X.cell? ⟨v.heap.size, 3, none⟩ = some (.bool false) := cell_of_row _ _ 3 _ _ _ XN.out
   have g3 := frozen_of_row _ _ 3 _ _ XN.out
   have y4 : X.cell? ⟨v.heap.size, 4, none⟩ = some (.int .i64 0) := cell_of_row _ _ 4 _ _ _ XN.out
   have g4 := frozen_of_row _ _ 4 _ _ XN.out
   have y5 : X.cell? ⟨v.heap.size, 5, none⟩ = some (.slice none 0 0) := cell_of_row _ _ 5 _ _ _ XN.out
   have g5 := frozen_of_row _ _ 5 _ _ XN.out
   obtain ⟨b, hbb⟩ : ∃ b, b = v.heap.size := ⟨_, rfl⟩
   have F1 := zh mZ; have F3 := zh (show Z.heap[b]? = some (.cells #[.string ⟨k.nm.toArray⟩, .string ⟨k.ds.toArray⟩, .bool k.st, .bool k.ab, .int .i64 k.rg, .slice k.A k.co.length k.c] 155 (0, 0)) from by rw [hbb]; exact nZ); have F4 := zh KPM.out; have F5 := zh (code_at mZ KPM.out rZ); have F6 := zh aZ; have F7 := zh (show w.heap.size ≤ b from by rw [hbb]; exact BGE.out)
   have sZ := HC.out _ mZ
   try dsimp only at sZ
   have SZZ := zh sZ
   have HZ := zh hZ; have HBB := zh hbb
   clear hZ gZ nZ kZ mZ rZ aZ sZ hbb
   refine rdy 14 rfl (fun K hK => ?_)
   go_simp
   rw [← HZ.out]
   refine hK.out _ _ SZZ.out (fun hHeld => ?_)
   clear hK K
   try simp only [puts]
   clear y0 g0 y1 g1 y2 g2 y3 g3 y4 g4 y5 g5
   have hS1 := SZZ.out
   refine tkp 15 rfl ?_
   clear hS1
   rw [← HBB.out]
   refine listedH (L := #[true, true, true, true, true, true, true, true, true, true, true, true, true, true, true, true]) (by kernel_rfl) ?_
   clear hHeld
   clear VM VA XN XM XA BGE HKR KPM HX SZZ HZ HBB
   revert F1 F3 F4 F5 F6 F7
   revert b Z k
   exact KEY
  ·obtain ⟨X, hX⟩ : ∃ X, X = D.alloc (.cells #[.string ⟨#[]⟩, .string ⟨#[]⟩, .bool false, .bool false, .int .i64 0, .slice none 0 0] 155) := ⟨_, rfl⟩
   have XL : Below D.heap.size D X := by rw [hX]; exact (Below.refl _ _).alloc (Nat.le_refl _) _
   have XN := zh (show X.heap[D.heap.size]? = some (.cells #[.string ⟨#[]⟩, .string ⟨#[]⟩, .bool false, .bool false, .int .i64 0, .slice none 0 0] 155 (0, 0)) from by rw [hX]; exact heap_alloc_new _ _)
   have XM := zh (DM.out.below XL)
   have XA := zh (show Below w.heap.size w X from DA.out.trans (XL.mono DA.out.size))
   have HX := zh hX
   clear hX XL
   go_simp
   rw [← HX.out]
   refine hK.out _ _ (HC.out _ XM.out) (fun hHeld => ?_)
   clear hK K
   try simp only [puts]
   clear hHeld
   refine rdy 9 rfl (fun K hK => ?_)
   go_simp
   refine (HGM.out X XA.out).mono ?_
   rintro e v ⟨⟨k, ok, rfl, hgr, hkc, hkr⟩, hb⟩
   obtain ⟨hok1, hpm⟩ := HSO.out.get hgr
   subst hok1
   have VM := zh (XM.out.below hb)
   have VA := zh (show Below w.heap.size w v from XA.out.trans (hb.mono XA.out.size))
   have VN := zh ((hb.block _ (blk_lt XN.out)).trans XN.out)
   have BGE := zh (show w.heap.size ≤ D.heap.size from by have := DZ.out; omega)
   have HKR := zh hkr
   have KPM := zh hpm
   clear hgr hkc hkr hb hpm
   unfold meC
   go_wp2_with fail
   refine hK.out _ _ (HC.out _ VM.out) (fun hHeld => ?_)
   clear hK K
   try simp only [puts]
   have hS0 := HC.out _ VM.out
   try dsimp only at hS0
   refine tkp 10 rfl ?_
   refine tkp 11 rfl ?_
   refine tkp 12 rfl ?_
   clear hS0
   obtain ⟨Z, hZ⟩ : ∃ Z, Z = ((((((v.setCell ⟨D.heap.size, 0, none⟩ (.string ⟨k.nm.toArray⟩)).setCell ⟨D.heap.size, 1, none⟩ (.string ⟨k.ds.toArray⟩)).setCell ⟨D.heap.size, 2, none⟩ (.bool k.st)).setCell ⟨D.heap.size, 3, none⟩ (.bool k.ab)).setCell ⟨D.heap.size, 4, none⟩ (.int .i64 k.rg)).setCell ⟨D.heap.size, 5, none⟩ (.slice k.A k.co.length k.c)) := ⟨_, rfl⟩
   have gZ : v.grownBy Z (some (D.heap.size)) := by rw [hZ]; exact gb6 _ _ _ _ _ _ _ _
   have nZ : Z.heap[D.heap.size]? = some (.cells #[.string ⟨k.nm.toArray⟩, .string ⟨k.ds.toArray⟩, .bool k.st, .bool k.ab, .int .i64 k.rg, .slice k.A k.co.length k.c] 155 (0, 0)) := by rw [hZ]; exact set6 VN.out _ _ _ _ _ _
   have kZ : Kp [D.heap.size] v Z := Kp.of gZ (fun c hc _ => by cases hc; simp)
   have mZ : Mk mb m Z := VM.out.kept kZ (by simp; have := HLT.out; have := BGE.out; omega)
   have rZ : Rd Z k.A (k.co.flatMap inC) := rd_six HKR.out VN.out (by simp) gZ
   have aZ : Below w.heap.size w Z := VA.out.trans (kZ.toBelow VA.out.size (by simp; have := BGE.out; omega))
   have y0 : v.cell? ⟨D.heap.size, 0, none⟩ = some (.string ⟨#[]⟩) := cell_of_row _ _ 0 _ _ _ VN.out
   have g0 := frozen_of_row _ _ 0 _ _ VN.out
   have y1 : v.cell? ⟨D.heap.size, 1, none⟩ = some (.string ⟨#[]⟩) := cell_of_row _ _ 1 _ _ _ VN.out
   have g1 := frozen_of_row _ _ 1 _ _ VN.out
   have y2 : v.cell? ⟨D.heap.size, 2, none⟩ = some (.bool false) := cell_of_row _ _ 2 _ _ _ VN.out
   have g2 := frozen_of_row _ _ 2 _ _ VN.out
   have y3 : v.cell? ⟨D.heap.size, 3, none⟩ = some (.bool false) := cell_of_row _ _ 3 _ _ _ VN.out
   have g3 := frozen_of_row _ _ 3 _ _ VN.out
   have y4 : v.cell? ⟨D.heap.size, 4, none⟩ = some (.int .i64 0) := cell_of_row _ _ 4 _ _ _ VN.out
   have g4 := frozen_of_row _ _ 4 _ _ VN.out
   have y5 : v.cell? ⟨D.heap.size, 5, none⟩ = some (.slice none 0 0) := cell_of_row _ _ 5 _ _ _ VN.out
   have g5 := frozen_of_row _ _ 5 _ _ VN.out
   obtain ⟨b, hbb⟩ : ∃ b, b = D.heap.size := ⟨_, rfl⟩
   have F1 := zh mZ; have F3 := zh (show Z.heap[b]? = some (.cells #[.string ⟨k.nm.toArray⟩, .string ⟨k.ds.toArray⟩, .bool k.st, .bool k.ab, .int .i64 k.rg, .slice k.A k.co.length k.c] 155 (0, 0)) from by rw [hbb]; exact nZ); have F4 := zh KPM.out; have F5 := zh (code_at mZ KPM.out rZ); have F6 := zh aZ; have F7 := zh (show w.heap.size ≤ b from by rw [hbb]; exact BGE.out)
   have sZ := HC.out _ mZ
   try dsimp only at sZ
   have SZZ := zh sZ
   have HZ := zh hZ; have HBB := zh hbb
   clear hZ gZ nZ kZ mZ rZ aZ sZ hbb
   refine rdy 14 rfl (fun K hK => ?_)
   go_simp
   rw [← HZ.out]
   refine hK.out _ _ SZZ.out (fun hHeld => ?_)
   clear hK K
   try simp only [puts]
   clear y0 g0 y1 g1 y2 g2 y3 g3 y4 g4 y5 g5
   have hS1 := SZZ.out
   refine tkp 15 rfl ?_
   clear hS1
   rw [← HBB.out]
   refine listedH (L := #[true, true, true, true, true, true, true, true, true, true, true, true, true, true, true, true]) (by kernel_rfl) ?_
   clear hHeld
   clear VM VA VN XN XM XA BGE HKR KPM HX SZZ HZ HBB
   revert F1 F3 F4 F5 F6 F7
   revert b Z k
   exact KEY
 case pK =>
  intro k Z b F1 F3 F4 F5 F6 F7
  have hst : k.st = true := congrArg MeP.st F4.out
  obtain ⟨kn, kd, ks, ka, kr, kco, kA, kc⟩ := k
  dsimp only at hst F3 ⊢
  subst hst
  refine wpAnyH_done (by kernel_rfl) ?_ _
  have b2 : Z.cell? ⟨b, 2, none⟩ = some (.bool true) := cell_of_row _ _ 2 _ _ _ F3.out
  have HMU := zh (must_t Z)
  go_wp2_with fail
  refine HMU.out.mono ?_
  rintro e v ⟨rfl, hv⟩
  rw [hv]
  clear hv b2 HMU v
  obtain ⟨-, -, y2, y3, y4⟩ := HC.out _ F1.out
  have HE := zh (HEN.out Z F6.out F1.out)
  go_wp2_with fail
  refine HE.out.mono ?_
  rintro e u ⟨fb, vb, rb, g, c, c2, A2, k, rfl, hm, hfk, hvb, hrb, hrs, hg, hr2, hab, hc2, hc1, hvs, hvf, hfr, hrg, hpk, hco, hk⟩
  have HS2 := zh (show Since mb w1 u from HSI.out.below F6.out |>.kept hk (by simp))
  have HB := zh (HBE.out { m with fr := .slice (some ⟨rb, 0, none⟩) 1 c, em := .map (some g), er := .slice A2 1 c2 } rfl (some ⟨rb, 0, none⟩) 1 c u HS2.out hm rfl (by omega) HBM.out HBR.out)
  have u2 : u.cell? ⟨mb, 2, none⟩ = some (.string ⟨#[65]⟩) := by
   have := (HC.out _ F1.out).2.2.1
   have c2' : u.cell? ⟨mb, 2, none⟩ = some (.string ⟨m.x.ec.toArray⟩) := cell_of_row _ _ 2 _ _ _ hm
   have c2z : Z.cell? ⟨mb, 2, none⟩ = some (.string ⟨m.x.ec.toArray⟩) := cell_of_row _ _ 2 _ _ _ F1.out
   rw [c2z] at this
   rw [c2', this]
  have KU := zh ((Kp.below F6.out : Kp [mb] w Z).trans hk)
  have HA := zh (And.intro hfk (And.intro hvb (And.intro hrb (And.intro hrs (And.intro hr2 (And.intro hab (And.intro hc2 (And.intro hc1 (And.intro (Nat.le_trans F6.out.size hvs) (And.intro hvf (And.intro hfr (And.intro hpk hco))))))))))))
  clear hm hfk hvb hrb hrs hg hr2 hab hc2 hc1 hvs hvf hfr hrg hpk hco hk y2 y3 y4 HE
  go_wp2_with fail
  refine HB.out.mono ?_
  rintro e z ⟨rfl, ⟨g8, A8, c8, hm, hgo, hgs, hrd, hab8, hc8⟩, hk⟩
  obtain ⟨hfk, hvb, hrb, hrs, hr2, hab, hc2, hc1, hvs, hvf, hfr, hpk, hco⟩ := HA.out
  have hml := HLT.out
  have EN := zh (show StaP mb m w (.returned (.tuple #[])) z from ⟨rfl, fb, vb, rb, g, g8, c, c2, c8, A2, A8, k, hm, hfk.kept hk (by simp; omega), hk.at_ hvb (by simp; omega),
   (World.cell?_of_block (w := u) (hk.block rb hrs (by simp; omega))).trans hrb, Nat.lt_of_lt_of_le hrs hk.size, hk.rd hr2 (fun a ha => by have := hab a ha; simp; omega), hab, hrd, (fun a ha => by have := hab8 a ha; omega), hc2, hc8, hc1, hvs, hvf, hfr, hpk,
   (by obtain ⟨a, e1, e2, e3, e4⟩ := hco; exact ⟨a, e1, e2, e3, hk.rd e4 (fun a' ha' => by rw [e1] at ha'; cases ha'; simp; exact e2)⟩), KU.out.trans hk⟩)
  clear hm hgo hgs hrd hab8 hc8 hk hfk hvb hrb hrs hr2 hab hc2 hc1 hvs hvf hfr hpk hco u2
  go_wp2
  refine bodyPost_end (results_none rfl _ _ _) rfl ?_
  exact EN.out
end Go.Proofs.YtjejmlpjifhmmaaGreatDoor.stp
namespace Go.Proofs.YtjejmlpjifhmmaaGreatDoor.stp
open Go.RowKit Go.MapKept Go.ChangeMaps Go.Shelf
open words kindp opp op kind prg sto find
set_option maxRecDepth 100000
set_option maxHeartbeats 8000000
set_option linter.all false
theorem idle_a (q : Nat) (w : World) :
  CallsD Tryz.prog 70 #[.pointer (some ⟨q, 0, none⟩)] .returning w fun e u' w' => e = .returned (.tuple #[]) ∧ u' = .returning ∧ w' = w := by
 refine callsD_of_wpS Tryz.func70 rfl fun c₀ cs hu => ?_
 simp only [Tryz.ntmps70, List.size_toArray, List.length_cons, List.length_nil, Nat.reduceAdd, Nat.reduceSub, Array.replicate_succ, Array.replicate_zero, List.push_toArray, List.append_toArray, List.nil_append, List.cons_append]
 apply wpS_seq
 apply wpS_region
 simp [wpOpsS, go_sem, recoverD, hu, Exit.thenS]
 refine wpS_of_wp ?_
 have hnn : ∀ w : World, (binOp .eql 20 .nilIface .nilIface).run Tryz.prog w = .ok (.bool true) w := fun _ => by kernel_rfl
 go_wp2
 cases c₀
 simp only at hu
 subst hu
 exact ⟨rfl, _, rfl, _, results_none rfl _ _ _, rfl, rfl, rfl⟩
theorem attempt_w (mb K : Nat) (Q : World → Prop) (w : World) (hcf : ∀ (args : Array Value) (w : World), (callFunc K args).run Tryz.prog w = .ok (.enter K args) w)
  (hk : ∀ v, Below w.heap.size w v → Calls Tryz.prog K #[.pointer (some ⟨mb, 0, none⟩)] v (fun e w' => e = .returned (.tuple #[]) ∧ Q w')) :
 Calls Tryz.prog 33 #[.pointer (some ⟨mb, 0, none⟩), .func (.func K) #[.pointer (some ⟨mb, 0, none⟩)] #[]] w fun e w' => e = .returned (.tuple #[]) ∧ Q w' := by
 have hmf : ∀ (fn : Fn) (first cap : Array Value) (w : World), (Instr.makeFunc fn first cap).run Tryz.prog w = .ok (.func fn first cap) w := fun _ _ _ _ => rfl
 obtain ⟨W, hW⟩ : ∃ W, W = w.alloc (.cells #[.pointer (some ⟨mb, 0, none⟩)] 29) := ⟨_, rfl⟩
 have HK := zh (hk W (by rw [hW]; exact (Below.refl _ _).alloc (Nat.le_refl _) _))
 have HW := zh hW
 clear hk hW
 go_enter_defers Tryz.func33, Tryz.ntmps33
 go_wp2_with fail
 rw [← HW.out]
 refine HK.out.mono ?_
 rintro e w1 ⟨rfl, hq⟩
 have HQ := zh hq
 clear hq HK
 go_wp2
 refine leaves_cons (f := 70) (args := #[.pointer (some ⟨w.heap.size, 0, none⟩)]) (by simp) (by simp [go_sem]) ?_
 refine (idle_a _ _).mono ?_
 rintro e u' w2 ⟨rfl, rfl, rfl⟩
 exact ⟨.tuple #[], results_none rfl _ _ _, rfl, HQ.out⟩
end Go.Proofs.YtjejmlpjifhmmaaGreatDoor.stp
namespace Go.Proofs.YtjejmlpjifhmmaaGreatDoor.stp
open Go.RowKit Go.MapKept Go.ChangeMaps Go.Shelf
open words kindp opp op kind prg sto find
set_option maxRecDepth 100000
set_option maxHeartbeats 8000000
set_option linter.all false
theorem grM_so {a b : MeM} (h : pM a = pM b) (hg : GrM b) : GrM a := by
  have e1 : a.nm = b.nm := congrArg MeP.nm h
  have e2 : a.ds = b.ds := congrArg MeP.ds h
  have e3 : a.co.map pI = b.co.map pI := congrArg MeP.co h
  have e4 : a.co.length = b.co.length := by have := congrArg List.length e3; simpa using this
  refine ⟨by rw [e1, e2, e4]; exact hg.1, fun x hx => ?_⟩
  have : pI x ∈ b.co.map pI := by rw [← e3]; exact List.mem_map_of_mem hx
  obtain ⟨x', hx', e⟩ := List.mem_map.1 this
  have k := hg.2 x' hx'
  unfold GrI at k ⊢
  have e' : x'.i = x.i := e
  rw [← e']; exact k
theorem grC_so {a b : ClM} (h : pC a = pC b) (hg : GrC b) : GrC a := by
  have e1 : a.nm = b.nm := congrArg ClP.nm h
  have e2 : a.su = b.su := congrArg ClP.su h
  have e3 : a.is = b.is := congrArg ClP.is h
  have e4 : a.fs.length = b.fs.length := by have := congrArg (fun p => (ClP.fs p).length) h; simpa [pC] using this
  have e5 : a.ms.map pM = b.ms.map pM := congrArg ClP.ms h
  have e6 : a.ms.length = b.ms.length := by have := congrArg List.length e5; simpa using this
  refine ⟨by rw [e1, e2, e3, e4, e6]; exact hg.1, fun m hm => ?_⟩
  have : pM m ∈ b.ms.map pM := by rw [← e5]; exact List.mem_map_of_mem hm
  obtain ⟨m', hm', e⟩ := List.mem_map.1 this
  exact grM_so e.symm (hg.2 m' hm')
theorem grP_so {a b : PrM} (h : pP a = pP b) (hg : GrP b) : GrP a := by
  have e1 : a.cs.map pC = b.cs.map pC := congrArg PrP.cs h
  have e2 : a.ns = b.ns := congrArg PrP.ns h
  have e4 : a.cs.length = b.cs.length := by have := congrArg List.length e1; simpa using this
  refine ⟨by rw [e2, e4]; exact hg.1, fun c hc => ?_⟩
  have : pC c ∈ b.cs.map pC := by rw [← e1]; exact List.mem_map_of_mem hc
  obtain ⟨c', hc', e⟩ := List.mem_map.1 this
  exact grC_so e.symm (hg.2 c' hc')
theorem StaP.since {mb : Nat} {m : MS} {X v w' : World} {e : Ending} (h : StaP mb m v e w') (hb : Below X.heap.size X v) : StaP mb m X e w' := by
 obtain ⟨he, fb, vb, rb, g, g8, c, c2, c8, A2, A8, k, h1, h2, h3, h4, h5, h6, h7, h8, h9, h10, h11, h12, h13, h14, h15, h16, h17, h18⟩ := h
 exact ⟨he, fb, vb, rb, g, g8, c, c2, c8, A2, A8, k, h1, h2, h3, h4, h5, h6, h7, h8, h9, h10, h11, h12, Nat.le_trans hb.size h13, h14, h15, h16, h17, (Kp.below hb).trans h18⟩
def NewP (xi : List Value) (ni : Nat) (w : World) (e : Ending) (w' : World) : Prop := ∃ (mb k d3 : Nat) (B3 : Option Addr) (m : MS) (X : World), e = .returned (.pointer (some ⟨mb, 0, none⟩)) ∧ (if (256 : Int) < (ni : Int) then (256 : Int) else (ni : Int)) = (k : Int) ∧
 m.inp = .slice B3 k d3 ∧ Rd X B3 (xi.take k) ∧ k ≤ d3 ∧ (∀ a, B3 = some a → a.block < mb) ∧ So m.x ∧ m.tk = 0 ∧ m.st = 0 ∧ m.cd = 0 ∧ m.tr = 0 ∧ m.sp = 0 ∧ m.ev = .slice none 0 0 ∧ (∃ A c, m.sf = .slice A 0 c) ∧
 mb < X.heap.size ∧ w.heap.size ≤ mb ∧ Below w.heap.size w X ∧ StaP mb m X (.returned (.tuple #[])) w'
theorem New_w (x : PrM) (hx : So x) (hg : GrP x) (w : World) (hk : PrOk w x) (htk : Tk w) (An : Option Addr) (nn cn : Nat) (xn : List Value) (hn1 : Rd w An xn) (hn2 : xn.length = nn * 2) (hn3 : nn ≤ 1000) (hn4 : ∀ u ∈ xn, u.oneCell' = true)
 (Am : Option Addr) (nm cm : Nat) (xm : List Value) (hm1 : Rd w Am xm) (hm2 : xm.length = nm * 2) (hm3 : nm ≤ 1000) (hm4 : ∀ u ∈ xm, u.oneCell' = true)
 (Ai : Option Addr) (ni ci : Nat) (xi : List Value) (hi1 : Rd w Ai xi) (hi2 : xi.length = ni * 1) (hi3 : ni ≤ 1000) (hi4 : ∀ u ∈ xi, u.oneCell' = true) (hic : ni ≤ ci) :
 Calls Tryz.prog 10 #[.agg (prC x).toArray, .agg #[.slice An nn cn, .slice none 0 0, .slice Am nm cm], .slice Ai ni ci] w (NewP xi ni w) := by
 obtain ⟨W0, hW0⟩ : ∃ W, W = w.alloc (.cells (prC x).toArray 36) := ⟨_, rfl⟩
 obtain ⟨W, hW⟩ : ∃ W, W = W0.alloc (.cells #[.slice An nn cn, .slice none 0 0, .slice Am nm cm] 38) := ⟨_, rfl⟩
 have s0 : W0.heap.size = w.heap.size + 1 := by rw [hW0]; simp
 have s1 : W.heap.size = w.heap.size + 1 + 1 := by rw [hW, ← s0]; simp
 have l0 : Below w.heap.size w W0 := by rw [hW0]; exact (Below.refl _ _).alloc (Nat.le_refl _) _
 have l1 : Below W0.heap.size W0 W := by rw [hW]; exact (Below.refl _ _).alloc (Nat.le_refl _) _
 have a0 : W.heap[w.heap.size]? = some (.cells (prC x).toArray 36 (0, 0)) := (l1.block _ (by omega)).trans (by rw [hW0]; exact heap_alloc_new _ _)
 have a1 : W.heap[w.heap.size + 1]? = some (.cells #[.slice An nn cn, .slice none 0 0, .slice Am nm cm] 38 (0, 0)) := by rw [← s0, hW]; exact heap_alloc_new _ _
 have hal : Below w.heap.size w W := then' l0 l1
 have HCL := zh (clone_g x W (hk.below hal) hg)
 have HAL := zh hal; have HP := zh a0; have HNB := zh a1; have HSZ := zh s1
 obtain ⟨x0, x1, x2, x3, x4⟩ := pr_cells a0
 have HN1 := zh hn1; have HN2 := zh hn2; have HN3 := zh hn3; have HN4 := zh hn4
 have HM1 := zh hm1; have HM2 := zh hm2; have HM3 := zh hm3; have HM4 := zh hm4
 have HI1 := zh hi1; have HI2 := zh hi2; have HI4 := zh hi4
 have HSO := zh hx; have HG := zh hg; have HTK := zh htk
 dsimp only [prC] at HCL hW0 ⊢
 rw [hW, hW0] at x0 x1 x2 x3 x4
 have HW0 := zh hW0; have HW := zh hW
 clear hW0 hW s0 s1 l0 l1 a0 a1 hal hk hg hx htk hn1 hn2 hn3 hn4 hm1 hm2 hm3 hm4 hi1 hi2 hi4
 go_enter Tryz.func10, Tryz.ntmps10
 go_wp2_with fail
 rw [← HW0.out, ← HW.out]
 clear x0 x1 x2 x3 x4
 refine HCL.out.mono ?_
 rintro e v ⟨⟨y, rfl, hyp, how⟩, hb⟩
 have v0 := (hb.block _ (blk_lt HP.out)).trans HP.out
 obtain ⟨y0, y1, y2, y3, y4⟩ := c5q v0
 have f0 := frozen_of_row _ _ 0 _ _ v0; have f1 := frozen_of_row _ _ 1 _ _ v0; have f2 := frozen_of_row _ _ 2 _ _ v0; have f3 := frozen_of_row _ _ 3 _ _ v0; have f4 := frozen_of_row _ _ 4 _ _ v0
 have z0 := heap_setCell_same _ _ 0 _ _ (.slice y.A1 y.cs.length y.c1) v0
 have z1 := heap_setCell_same _ _ 1 _ _ (.slice y.A2 y.ns.length y.c2) z0
 have z2 := heap_setCell_same _ _ 2 _ _ (.string ⟨y.ec.toArray⟩) z1
 have z3 := heap_setCell_same _ _ 3 _ _ (.string ⟨y.en.toArray⟩) z2
 have z4 := heap_setCell_same _ _ 4 _ _ (.string ⟨y.ed.toArray⟩) z3
 obtain ⟨V, hV⟩ : ∃ V, V = ((((v.setCell ⟨w.heap.size, 0, none⟩ (.slice y.A1 y.cs.length y.c1)).setCell ⟨w.heap.size, 1, none⟩ (.slice y.A2 y.ns.length y.c2)).setCell ⟨w.heap.size, 2, none⟩ (.string ⟨y.ec.toArray⟩)).setCell ⟨w.heap.size, 3, none⟩ (.string ⟨y.en.toArray⟩)).setCell ⟨w.heap.size, 4, none⟩ (.string ⟨y.ed.toArray⟩) := ⟨_, rfl⟩
 have kV : Kp [w.heap.size] v V := by rw [hV]; exact (((((Kp.refl _ _).set (by simp) _).set (by simp) _).set (by simp) _).set (by simp) _).set (by simp) _
 have VP := zh (show V.heap[w.heap.size]? = some (.cells (prC y).toArray 36 (0, 0)) from by rw [hV, z4]; rfl)
 have VA := zh (show Below w.heap.size w V from (HAL.out.trans (hb.mono HAL.out.size)).trans (kV.toBelow (Nat.le_trans HAL.out.size hb.size) (by simp)))
 have VN := zh (kV.at_ ((hb.block _ (blk_lt HNB.out)).trans HNB.out) (by simp))
 have gV : v.grownBy V (some w.heap.size) := ⟨kV.os, kV.tape, kV.output, kV.size, fun k hk' hne => kV.block k hk' (by simp; intro e; exact hne (by rw [e]))⟩
 have VO := zh (show OwP W.heap.size V y from ⟨own_gb how.1 (by have := HSZ.out; omega) gV, own_gb how.2.1 (by have := HSZ.out; omega) gV, fun c hc => (how.2.2 c hc).gb (by have := HSZ.out; omega) gV⟩)
 have HYP := zh hyp
 have HV := zh hV
 dsimp only [prC]
 clear z0 z1 z2 z3 z4 v0 kV gV hV hb how hyp HCL
 go_wp2_with fail
 rw [← HV.out]
 clear y0 y1 y2 y3 y4 f0 f1 f2 f3 f4
 have HC := zh (show ∀ u : World, Below V.heap.size V u → (fun w' : World => (w'.cell? ⟨w.heap.size, 0, none⟩ = some (.slice y.A1 y.cs.length y.c1) ∧ w'.cell? ⟨w.heap.size, 1, none⟩ = some (.slice y.A2 y.ns.length y.c2) ∧ w'.cell? ⟨w.heap.size, 2, none⟩ = some (.string ⟨y.ec.toArray⟩) ∧ w'.cell? ⟨w.heap.size, 3, none⟩ = some (.string ⟨y.en.toArray⟩) ∧ w'.cell? ⟨w.heap.size, 4, none⟩ = some (.string ⟨y.ed.toArray⟩)) ∧ w'.cell? ⟨w.heap.size + 1, 0, none⟩ = some (.slice An nn cn) ∧ w'.cell? ⟨w.heap.size + 1, 1, none⟩ = some (.slice none 0 0) ∧ w'.cell? ⟨w.heap.size + 1, 2, none⟩ = some (.slice Am nm cm)) u from fun u hu => by
  have r0 := (hu.block _ (blk_lt VP.out)).trans VP.out
  have r1 := (hu.block _ (blk_lt VN.out)).trans VN.out
  exact ⟨⟨cell_of_row _ _ 0 _ _ _ r0, cell_of_row _ _ 1 _ _ _ r0, cell_of_row _ _ 2 _ _ _ r0, cell_of_row _ _ 3 _ _ _ r0, cell_of_row _ _ 4 _ _ _ r0⟩, cell_of_row _ _ 0 _ _ _ r1, cell_of_row _ _ 1 _ _ _ r1, cell_of_row _ _ 2 _ _ _ r1⟩)
 obtain ⟨k, hkk, hkn⟩ : ∃ k : Nat, k ≤ ni ∧ (if (256 : Int) < (ni : Int) then (256 : Int) else (ni : Int)) = (k : Int) := by
  by_cases h : 256 < ni
  ·exact ⟨256, by omega, by rw [if_pos (by omega)]; rfl⟩
  ·exact ⟨ni, Nat.le_refl _, by rw [if_neg (by omega)]⟩
 have hmin : ∀ (ts : Array TypeId) (t : TypeId) (u : World), (Builtin.min_ ts t #[.int .i64 (ni : Int), .int .i64 256]).run Tryz.prog u = .ok (.int .i64 (k : Int)) u := fun ts t u => by rw [run_min_int2, hkn]
 obtain ⟨Aj, hAj, hcut⟩ := run_cut_h (P := Tryz.prog) (t := 28) (e := 2) Tryz.underlying28 rfl (fun _ => by kernel_rfl) Ai ni ci k (by omega)
 have HKK := zh hkk; have HAJ := zh hAj
 clear hAj hkk
 refine wp_region_held_drew (S := fun w' : World => (w'.cell? ⟨w.heap.size, 0, none⟩ = some (.slice y.A1 y.cs.length y.c1) ∧ w'.cell? ⟨w.heap.size, 1, none⟩ = some (.slice y.A2 y.ns.length y.c2) ∧ w'.cell? ⟨w.heap.size, 2, none⟩ = some (.string ⟨y.ec.toArray⟩) ∧ w'.cell? ⟨w.heap.size, 3, none⟩ = some (.string ⟨y.en.toArray⟩) ∧ w'.cell? ⟨w.heap.size, 4, none⟩ = some (.string ⟨y.ed.toArray⟩)) ∧ w'.cell? ⟨w.heap.size + 1, 0, none⟩ = some (.slice An nn cn) ∧ w'.cell? ⟨w.heap.size + 1, 1, none⟩ = some (.slice none 0 0) ∧ w'.cell? ⟨w.heap.size + 1, 2, none⟩ = some (.slice Am nm cm)) (by kernel_rfl) ?_ (fun hHeld => ?_)
 ·exact HC.out _ (overW (Below.refl _ _))
 obtain ⟨D, hD⟩ : ∃ u, u = V.drew := ⟨_, rfl⟩
 have VD := zh (show Below V.heap.size V D from by rw [hD]; exact overW (Below.refl _ _))
 have hS0 := HC.out _ VD.out
 try dsimp only at hS0
 rw [← hD]
 clear hD hHeld
 refine tkp 0 rfl ?_
 refine tkp 1 rfl ?_
 refine tkp 2 rfl ?_
 refine tkp 4 rfl ?_
 refine tkp 5 rfl ?_
 refine tkp 8 rfl ?_
 refine tkp 9 rfl ?_
 refine tkp 10 rfl ?_
 refine tkp 11 rfl ?_
 refine tkp 12 rfl ?_
 refine tkp 15 rfl ?_
 have HKN := zh hkn
 clear hS0 hmin hcut hkn
 have Eu0 := zh VD.out
 have WV := zh (show ∀ u : World, Below V.heap.size V u → Below w.heap.size w u from fun u hu => VA.out.trans (hu.mono VA.out.size))
 have HK3 := zh (cln_pair An nn cn xn D (HN1.out.below (show Below w.heap.size w D from WV.out _ Eu0.out)) HN2.out (by have := HN3.out; omega) HN4.out)
 refine rdy 3 rfl (fun K hK => ?_)
 go_simp
 refine HK3.out.mono ?_
 rintro e u1 ⟨⟨B1, d1, rfl, ho⟩, hb⟩
 have Eu1 := zh (then' Eu0.out hb)
 clear ho
 clear hb HK3
 go_wp2_with fail
 refine hK.out _ _ (HC.out _ Eu1.out) (fun hHeld => ?_)
 clear hK K hHeld
 try simp only [puts]
 have HK6 := zh (cln_pair Am nm cm xm u1 (HM1.out.below (WV.out _ Eu1.out)) HM2.out (by have := HM3.out; omega) HM4.out)
 refine rdy 6 rfl (fun K hK => ?_)
 go_simp
 refine HK6.out.mono ?_
 rintro e u2 ⟨⟨B2, d2, rfl, ho⟩, hb⟩
 have Eu2 := zh (then' Eu1.out hb)
 clear ho
 clear hb HK6
 go_wp2_with fail
 refine hK.out _ _ (HC.out _ Eu2.out) (fun hHeld => ?_)
 clear hK K hHeld
 try simp only [puts]
 have hS0 := HC.out _ Eu2.out
 try dsimp only at hS0
 refine tkp 7 rfl ?_
 clear hS0
 have HK13 := zh (cln_i64 Aj k ci (xi.take k) u2 (HAJ.out _ _ (HI1.out.below (WV.out _ Eu2.out))) (by rw [List.length_take, HI2.out]; have := HKK.out; omega) (by have := HKK.out; omega) (fun u hu => HI4.out u (List.mem_of_mem_take hu)))
 refine rdy 13 rfl (fun K hK => ?_)
 go_simp
 refine HK13.out.mono ?_
 rintro e u3 ⟨⟨B3, d3, rfl, ho⟩, hb⟩
 have Eu3 := zh (then' Eu2.out hb)
 have RI := zh (own_rd ho); have RJ := zh (show ∀ a, B3 = some a → a.block < u3.heap.size from fun a ha => (ho.lt a.block (by rw [ha]; rfl)).2)
 clear ho
 clear hb HK13
 go_wp2_with fail
 refine hK.out _ _ (HC.out _ Eu3.out) (fun hHeld => ?_)
 clear hK K hHeld
 try simp only [puts]
 have HK14 := zh (new_w u3)
 refine rdy 14 rfl (fun K hK => ?_)
 go_simp
 refine HK14.out.mono ?_
 rintro e u4 ⟨rfl, hst, hb⟩
 have Eu4 := zh (then' Eu3.out hb)
 have B34 := zh hb
 clear hst
 clear hb HK14
 go_wp2_with fail
 refine hK.out _ _ (HC.out _ Eu4.out) (fun hHeld => ?_)
 clear hK K hHeld
 try simp only [puts]
 have KY := zh (show So y from HYP.out.trans HSO.out)
 have OK4 := zh (show PrOk u4 y from VO.out.ok.below Eu4.out)
 have HK16 := zh (statics_w y u4 OK4.out (by obtain ⟨c, _, e, -⟩ := KY.out.parts; rw [e]; simp) (fun c hc => by obtain ⟨c', _, e, _, _, e2, -⟩ := KY.out.parts; rw [e] at hc; rcases List.mem_singleton.1 hc with rfl; exact e2))
 refine rdy 16 rfl (fun K hK => ?_)
 go_simp
 refine HK16.out.mono ?_
 rintro e u5 ⟨⟨B5, d5, g5, rfl, hg5, hgo⟩, hb⟩
 have Eu5 := zh (then' Eu4.out hb)
 have B45 := zh hb
 clear hg5 hgo
 clear hb HK16
 go_wp2_with fail
 refine hK.out _ _ (HC.out _ Eu5.out) (fun hHeld => ?_)
 clear hK K hHeld
 try simp only [puts]
 have hS0 := HC.out _ Eu5.out
 try dsimp only at hS0
 refine tkp 17 rfl ?_
 clear hS0
 obtain ⟨X, hX⟩ : ∃ X, X = u5.alloc (.cells #[.slice y.A1 y.cs.length y.c1, .slice y.A2 y.ns.length y.c2, .string ⟨y.ec.toArray⟩, .string ⟨y.en.toArray⟩, .string ⟨y.ed.toArray⟩, .slice B1 nn d1, .slice none 0 0, .slice B2 nm d2, .slice B3 k d3, .int .i64 0, .pointer (some ⟨u3.heap.size, 0, none⟩), .slice none 0 0, .slice none 0 0, .slice B5 0 d5, .map (some g5), .slice none 0 0, .int .i64 0, .int .i64 0, .int .i64 0, .int .i64 0, .slice none 0 0, .slice none 0 0, .slice none 0 0, .slice none 0 0, .slice none 0 0, .slice none 0 0, .slice none 0 0, .slice none 0 0, .map none, .slice none 0 0, .map none, .slice none 0 0, .map none, .slice none 0 0, .map none, .slice none 0 0, .map none, .slice none 0 0, .map none, .slice none 0 0] 109) := ⟨_, rfl⟩
 have xl : Below u5.heap.size u5 X := by rw [hX]; exact (Below.refl _ _).alloc (Nat.le_refl _) _
 have EX := zh (then' Eu5.out xl)
 have HLX := zh (show Below u3.heap.size u3 X from then' (then' B34.out B45.out) xl)
 have U35 := zh (show u3.heap.size ≤ u5.heap.size from (then' B34.out B45.out).size)
 have XM := zh (show Mk u5.heap.size ⟨y, .slice B1 nn d1, .slice B2 nm d2, .slice B3 k d3, 0, .pointer (some ⟨u3.heap.size, 0, none⟩), .slice B5 0 d5, .map (some g5), .slice none 0 0, 0, 0, 0, 0, .slice none 0 0, .map none, .slice none 0 0, .map none, .slice none 0 0⟩ X from by rw [hX]; exact heap_alloc_new _ _)
 have XL := zh xl; have HX := zh hX
 clear hX xl
 refine rdy 18 rfl (fun K hK => ?_)
 go_simp
 rw [← HX.out]
 refine hK.out _ _ (HC.out _ EX.out) (fun hHeld => ?_)
 clear hK K
 try simp only [puts]
 have hS0 := HC.out _ EX.out
 try dsimp only at hS0
 refine tkp 19 rfl ?_
 clear hS0
 refine wpAnyH_done (by kernel_rfl) ?_ _
 obtain ⟨mb, hmb⟩ : ∃ n, n = u5.heap.size := ⟨_, rfl⟩
 rw [← hmb] at XM
 have O5 := zh (show PrOk u5 y from VO.out.ok.below Eu5.out)
 have T5 := zh (show Tk u5 from HTK.out.below (WV.out _ Eu5.out))
 have HGY := zh (show GrP y from grP_so HYP.out HG.out)
 have HAT := zh (attempt_w mb 34 (fun w' => StaP mb ⟨y, .slice B1 nn d1, .slice B2 nm d2, .slice B3 k d3, 0, .pointer (some ⟨u3.heap.size, 0, none⟩), .slice B5 0 d5, .map (some g5), .slice none 0 0, 0, 0, 0, 0, .slice none 0 0, .map none, .slice none 0 0, .map none, .slice none 0 0⟩ X (.returned (.tuple #[])) w') X (enters_of Tryz.func34 (by kernel_rfl) rfl)
  (fun v hv => (start_w mb _ u5 v ⟨hmb.symm, by rw [hmb]; exact then' XL.out hv⟩ (XM.out.below hv) KY.out O5.out HGY.out T5.out rfl rfl rfl rfl rfl).mono (fun e w' h => ⟨h.1, by have h2 := h.since hv; rw [h.1] at h2; exact h2⟩)))
 have hmf : ∀ (fn : Fn) (first cap : Array Value) (w : World), (Instr.makeFunc fn first cap).run Tryz.prog w = .ok (.func fn first cap) w := fun _ _ _ _ => rfl
 have HMB := zh hmb
 rw [← hmb]
 clear hmb
 go_wp2_with fail
 refine HAT.out.mono ?_
 rintro e z ⟨rfl, hst⟩
 have EN := zh (show NewP xi ni w (.returned (.pointer (some ⟨mb, 0, none⟩))) z from
  ⟨mb, k, d3, B3, _, X, rfl, HKN.out, rfl, (by obtain ⟨A, c, e, -, -, hr⟩ := RI.out; cases e; exact (hr.below (show Below u3.heap.size u3 X from HLX.out))), (by obtain ⟨A, c, e, h1, -, -⟩ := RI.out; cases e; exact h1), (fun a ha => by have h1 := RJ.out a ha; have h2 := U35.out; have h3 := HMB.out; omega),
   KY.out, rfl, rfl, rfl, rfl, rfl, rfl, ⟨_, _, rfl⟩, blk_lt XM.out, by have h1 := WV.out _ Eu5.out; have h2 := h1.size; have h3 := HMB.out; omega, WV.out _ EX.out, hst⟩)
 clear hst HAT
 go_wp2
 go_ret
 exact EN.out
end Go.Proofs.YtjejmlpjifhmmaaGreatDoor.stp
namespace Go.Proofs.YtjejmlpjifhmmaaGreatDoor.stp
open Go.RowKit Go.MapKept Go.ChangeMaps Go.Shelf
open words kindp opp op kind prg sto
set_option maxRecDepth 100000
set_option maxHeartbeats 8000000
set_option linter.all false
theorem instr_w (fb : Nat) (f : FS) (a : Addr) (l : List InM) (k : Nat) (i : InM) (w : World) (h : Fk fb f w) (hA : f.A = some a) (hn : f.n = l.length) (hp : f.pc = (k : Int)) (hr : Rd w f.A (l.flatMap inC)) (hi : l[k]? = some i) (hl : l.length ≤ 300) : Calls Tryz.prog 75 #[.pointer (some ⟨fb, 0, none⟩)] w fun e w' => e = .returned (.agg (inC i).toArray) ∧ Below w.heap.size w w' := by
 obtain ⟨a0, e0, hb0, c0, c1, c2, c3, c4, c5, c6, c7, c8⟩ := in_at hr hi
 rw [hA] at e0
 cases e0
 obtain ⟨n, hnn⟩ : ∃ n, n = l.length := ⟨_, rfl⟩
 have hkn : k < n := by rw [hnn]; exact (List.getElem?_eq_some_iff.1 hi).1
 rw [← hnn] at hl
 have hkI : (k : Int) < (n : Int) := by omega
 have hnI : (n : Int) ≤ 300 := by omega
 obtain ⟨W, hW⟩ : ∃ W, W = w.alloc (.cells #[.int .i64 0, .int .i64 0, .int .i64 0, .int .i64 0, .int .i64 0, .string ⟨#[]⟩, .string ⟨#[]⟩, .string ⟨#[]⟩, .slice none 0 0] 153) := ⟨_, rfl⟩
 have hal : Below w.heap.size w W := by rw [hW]; exact (Below.refl _ _).alloc (Nat.le_refl _) _
 have hF : Fk fb f W := (hal.block _ (blk_lt h)).trans h
 have HF := zh hF; have HFB := zh (blk_lt h)
 have h1 : ∀ v : World, Fk fb f v → v.cell? ⟨fb, 1 + 2, none⟩ = some (.slice (some a) n f.c) := fun v hv => by rw [hnn, ← hn, ← hA]; exact cell_of_row _ _ 3 _ _ _ hv
 have h2 : ∀ v : World, Fk fb f v → v.cell? ⟨fb, 4, none⟩ = some (.int .i64 (k : Int)) := fun v hv => by rw [← hp]; exact cell_of_row _ _ 4 _ _ _ hv
 have HBX := zh (show W.heap[w.heap.size]? = some (.cells #[.int .i64 0, .int .i64 0, .int .i64 0, .int .i64 0, .int .i64 0, .string ⟨#[]⟩, .string ⟨#[]⟩, .string ⟨#[]⟩, .slice none 0 0] 153 (0, 0)) from by rw [hW]; exact heap_alloc_new _ _)
 have HCL := zh (show ∀ v : World, Below w.heap.size w v → v.cell? (a.add (k * 9)) = some (.int .i64 i.i.o) ∧ v.cell? ⟨(a.add (k * 9)).block, (a.add (k * 9)).off + 1, none⟩ = some (.int .i64 i.i.a) ∧ v.cell? ⟨(a.add (k * 9)).block, (a.add (k * 9)).off + 2, none⟩ = some (.int .i64 i.i.b) ∧ v.cell? ⟨(a.add (k * 9)).block, (a.add (k * 9)).off + 3, none⟩ = some (.int .i64 i.i.c) ∧ v.cell? ⟨(a.add (k * 9)).block, (a.add (k * 9)).off + 4, none⟩ = some (.int .i64 i.i.k) ∧ v.cell? ⟨(a.add (k * 9)).block, (a.add (k * 9)).off + 5, none⟩ = some (.string ⟨i.i.cl.toArray⟩) ∧ v.cell? ⟨(a.add (k * 9)).block, (a.add (k * 9)).off + 6, none⟩ = some (.string ⟨i.i.nm.toArray⟩) ∧ v.cell? ⟨(a.add (k * 9)).block, (a.add (k * 9)).off + 7, none⟩ = some (.string ⟨i.i.ds.toArray⟩) ∧ v.cell? ⟨(a.add (k * 9)).block, (a.add (k * 9)).off + 8, none⟩ = some (.slice i.A i.i.ar.length i.c) from fun v hv => by
  have hb1 : (a.add (k * 9)).block < w.heap.size := by rw [add_block]; exact hb0
  have q : ∀ p : Addr, p.block = (a.add (k * 9)).block → v.cell? p = w.cell? p := fun p hp => hv.cell (by rw [hp]; exact hb1)
  exact ⟨(q _ rfl).trans c0, (q ⟨(a.add (k * 9)).block, (a.add (k * 9)).off + 1, none⟩ rfl).trans c1, (q ⟨(a.add (k * 9)).block, (a.add (k * 9)).off + 2, none⟩ rfl).trans c2, (q ⟨(a.add (k * 9)).block, (a.add (k * 9)).off + 3, none⟩ rfl).trans c3, (q ⟨(a.add (k * 9)).block, (a.add (k * 9)).off + 4, none⟩ rfl).trans c4, (q ⟨(a.add (k * 9)).block, (a.add (k * 9)).off + 5, none⟩ rfl).trans c5, (q ⟨(a.add (k * 9)).block, (a.add (k * 9)).off + 6, none⟩ rfl).trans c6, (q ⟨(a.add (k * 9)).block, (a.add (k * 9)).off + 7, none⟩ rfl).trans c7, (q ⟨(a.add (k * 9)).block, (a.add (k * 9)).off + 8, none⟩ rfl).trans c8⟩)
 have H1 := zh h1; have H2 := zh h2; have HAL := zh hal; have HW := zh hW
 have HM := zh (fun v => must_t v)
 have j1 : W.cell? ⟨fb, 3, none⟩ = some (.slice (some a) n f.c) := h1 _ hF
 have j2 := h2 _ hF
 have g1 : decide ((0 : Int) ≤ (k : Int)) = true := by simp
 have g2 : decide ((k : Int) < (n : Int)) = true := by simpa using hkn
 have g3 : decide (k < n) = true := by simpa using hkn
 clear hal hF h1 h2 hW c0 c1 c2 c3 c4 c5 c6 c7 c8 h hA hn hp hr hi hnn hb0
 go_enter Tryz.func75, Tryz.ntmps75
 go_wp2_with fail
 rw [← HW.out]
 (try go_wp2_with fail)
 refine wp_region_held_drew (S := fun w' : World => w'.cell? ⟨fb, 3, none⟩ = some (.slice (some a) n f.c) ∧ w'.cell? ⟨fb, 4, none⟩ = some (.int .i64 (k : Int))) (by kernel_rfl) ?_ (fun hHeld => ?_)
 ·exact ⟨j1, j2⟩
 obtain ⟨D, hD⟩ : ∃ u, u = W.drew := ⟨_, rfl⟩
 have DF := zh (show Fk fb f D from by rw [hD]; exact HF.out)
 have DB := zh (show D.heap[w.heap.size]? = some (.cells #[.int .i64 0, .int .i64 0, .int .i64 0, .int .i64 0, .int .i64 0, .string ⟨#[]⟩, .string ⟨#[]⟩, .string ⟨#[]⟩, .slice none 0 0] 153 (0, 0)) from by rw [hD]; exact HBX.out)
 have DA := zh (show Below w.heap.size w D from by rw [hD]; exact overW HAL.out)
 have hS : D.cell? ⟨fb, 3, none⟩ = some (.slice (some a) n f.c) ∧ D.cell? ⟨fb, 4, none⟩ = some (.int .i64 (k : Int)) := ⟨H1.out _ DF.out, H2.out _ DF.out⟩
 rw [← hD]
 clear hD j1 j2 hHeld
 refine tkp 0 rfl ?_
 refine tkp 1 rfl ?_
 refine tkp 2 rfl ?_
 refine tkp 3 rfl ?_
 refine tkp 4 rfl ?_
 refine tkp 5 rfl ?_
 refine tkp 6 rfl ?_
 refine tkp 7 rfl ?_
 refine tkp 8 rfl ?_
 refine tkp 9 rfl ?_
 refine tkp 10 rfl ?_
 refine tkp 11 rfl ?_
 refine tkp 12 rfl ?_
 refine tkp 13 rfl ?_
 refine tkp 14 rfl ?_
 refine tkp 15 rfl ?_
 refine tkp 16 rfl ?_
 refine rdy 17 rfl (fun K hK => ?_)
 go_simp
 refine (HM.out _).mono ?_
 rintro e v ⟨rfl, hv⟩
 rw [hv]
 clear hv
 go_wp2_with fail
 refine hK.out _ _ hS (fun hHeld => ?_)
 clear hK K
 try simp only [puts]
 refine wpAnyH_done (by kernel_rfl) ?_ _
 clear hS
 go_wp2_with fail
 have HS2 := zh (show ∀ v : World, Fk fb f v → Below w.heap.size w v → (fun w' : World => w'.cell? ⟨fb, 3, none⟩ = some (.slice (some a) n f.c) ∧ w'.cell? ⟨fb, 4, none⟩ = some (.int .i64 (k : Int)) ∧ w'.cell? (a.add (k * 9)) = some (.int .i64 i.i.o) ∧ w'.cell? ⟨(a.add (k * 9)).block, (a.add (k * 9)).off + 1, none⟩ = some (.int .i64 i.i.a) ∧ w'.cell? ⟨(a.add (k * 9)).block, (a.add (k * 9)).off + 2, none⟩ = some (.int .i64 i.i.b) ∧ w'.cell? ⟨(a.add (k * 9)).block, (a.add (k * 9)).off + 3, none⟩ = some (.int .i64 i.i.c) ∧ w'.cell? ⟨(a.add (k * 9)).block, (a.add (k * 9)).off + 4, none⟩ = some (.int .i64 i.i.k) ∧ w'.cell? ⟨(a.add (k * 9)).block, (a.add (k * 9)).off + 5, none⟩ = some (.string ⟨i.i.cl.toArray⟩) ∧ w'.cell? ⟨(a.add (k * 9)).block, (a.add (k * 9)).off + 6, none⟩ = some (.string ⟨i.i.nm.toArray⟩) ∧ w'.cell? ⟨(a.add (k * 9)).block, (a.add (k * 9)).off + 7, none⟩ = some (.string ⟨i.i.ds.toArray⟩) ∧ w'.cell? ⟨(a.add (k * 9)).block, (a.add (k * 9)).off + 8, none⟩ = some (.slice i.A i.i.ar.length i.c)) v from fun v hf hv => ⟨H1.out _ hf, H2.out _ hf, HCL.out _ hv⟩)
 clear hHeld
 refine wp_region_held_drew (S := fun w' : World => w'.cell? ⟨fb, 3, none⟩ = some (.slice (some a) n f.c) ∧ w'.cell? ⟨fb, 4, none⟩ = some (.int .i64 (k : Int)) ∧ w'.cell? (a.add (k * 9)) = some (.int .i64 i.i.o) ∧ w'.cell? ⟨(a.add (k * 9)).block, (a.add (k * 9)).off + 1, none⟩ = some (.int .i64 i.i.a) ∧ w'.cell? ⟨(a.add (k * 9)).block, (a.add (k * 9)).off + 2, none⟩ = some (.int .i64 i.i.b) ∧ w'.cell? ⟨(a.add (k * 9)).block, (a.add (k * 9)).off + 3, none⟩ = some (.int .i64 i.i.c) ∧ w'.cell? ⟨(a.add (k * 9)).block, (a.add (k * 9)).off + 4, none⟩ = some (.int .i64 i.i.k) ∧ w'.cell? ⟨(a.add (k * 9)).block, (a.add (k * 9)).off + 5, none⟩ = some (.string ⟨i.i.cl.toArray⟩) ∧ w'.cell? ⟨(a.add (k * 9)).block, (a.add (k * 9)).off + 6, none⟩ = some (.string ⟨i.i.nm.toArray⟩) ∧ w'.cell? ⟨(a.add (k * 9)).block, (a.add (k * 9)).off + 7, none⟩ = some (.string ⟨i.i.ds.toArray⟩) ∧ w'.cell? ⟨(a.add (k * 9)).block, (a.add (k * 9)).off + 8, none⟩ = some (.slice i.A i.i.ar.length i.c)) (by kernel_rfl) ?_ (fun hHeld => ?_)
 ·exact HS2.out _ DF.out (overW DA.out)
 obtain ⟨E, hE⟩ : ∃ u, u = D.drew := ⟨_, rfl⟩
 have EF := zh (show Fk fb f E from by rw [hE]; exact DF.out)
 have EB := zh (show E.heap[w.heap.size]? = some (.cells #[.int .i64 0, .int .i64 0, .int .i64 0, .int .i64 0, .int .i64 0, .string ⟨#[]⟩, .string ⟨#[]⟩, .string ⟨#[]⟩, .slice none 0 0] 153 (0, 0)) from by rw [hE]; exact DB.out)
 have EA := zh (show Below w.heap.size w E from by rw [hE]; exact overW DA.out)
 have hS := HS2.out _ EF.out EA.out
 try dsimp only at hS
 rw [← hE]
 clear hE
 refine tkp 0 rfl ?_
 refine tkp 1 rfl ?_
 refine tkp 2 rfl ?_
 refine tkp 3 rfl ?_
 refine tkp 4 rfl ?_
 refine tkp 5 rfl ?_
 refine tkp 6 rfl ?_
 refine tkp 7 rfl ?_
 refine tkp 8 rfl ?_
 refine tkp 9 rfl ?_
 have z0 := heap_setCell_same _ _ 0 _ _ (.int .i64 i.i.o) EB.out
 have y0 : E.cell? ⟨w.heap.size, 0, none⟩ = some (.int .i64 0) := cell_of_row _ _ 0 _ _ _ EB.out
 have g0' := frozen_of_row _ _ 0 _ _ EB.out
 have z1 := heap_setCell_same _ _ 1 _ _ (.int .i64 i.i.a) z0
 have y1 : E.cell? ⟨w.heap.size, 1, none⟩ = some (.int .i64 0) := cell_of_row _ _ 1 _ _ _ EB.out
 have g1' := frozen_of_row _ _ 1 _ _ EB.out
 have z2 := heap_setCell_same _ _ 2 _ _ (.int .i64 i.i.b) z1
 have y2 : E.cell? ⟨w.heap.size, 2, none⟩ = some (.int .i64 0) := cell_of_row _ _ 2 _ _ _ EB.out
 have g2' := frozen_of_row _ _ 2 _ _ EB.out
 have z3 := heap_setCell_same _ _ 3 _ _ (.int .i64 i.i.c) z2
 have y3 : E.cell? ⟨w.heap.size, 3, none⟩ = some (.int .i64 0) := cell_of_row _ _ 3 _ _ _ EB.out
 have g3' := frozen_of_row _ _ 3 _ _ EB.out
 have z4 := heap_setCell_same _ _ 4 _ _ (.int .i64 i.i.k) z3
 have y4 : E.cell? ⟨w.heap.size, 4, none⟩ = some (.int .i64 0) := cell_of_row _ _ 4 _ _ _ EB.out
 have g4' := frozen_of_row _ _ 4 _ _ EB.out
 have z5 := heap_setCell_same _ _ 5 _ _ (.string ⟨i.i.cl.toArray⟩) z4
 have y5 : E.cell? ⟨w.heap.size, 5, none⟩ = some (.string ⟨#[]⟩) := cell_of_row _ _ 5 _ _ _ EB.out
 have g5' := frozen_of_row _ _ 5 _ _ EB.out
 have z6 := heap_setCell_same _ _ 6 _ _ (.string ⟨i.i.nm.toArray⟩) z5
 have y6 : E.cell? ⟨w.heap.size, 6, none⟩ = some (.string ⟨#[]⟩) := cell_of_row _ _ 6 _ _ _ EB.out
 have g6' := frozen_of_row _ _ 6 _ _ EB.out
 have z7 := heap_setCell_same _ _ 7 _ _ (.string ⟨i.i.ds.toArray⟩) z6
 have y7 : E.cell? ⟨w.heap.size, 7, none⟩ = some (.string ⟨#[]⟩) := cell_of_row _ _ 7 _ _ _ EB.out
 have g7' := frozen_of_row _ _ 7 _ _ EB.out
 have z8 := heap_setCell_same _ _ 8 _ _ (.slice i.A i.i.ar.length i.c) z7
 have y8 : E.cell? ⟨w.heap.size, 8, none⟩ = some (.slice none 0 0) := cell_of_row _ _ 8 _ _ _ EB.out
 have g8' := frozen_of_row _ _ 8 _ _ EB.out
 obtain ⟨Z, hZ⟩ : ∃ Z, Z = (((((((((E.setCell ⟨w.heap.size, 0, none⟩ (.int .i64 i.i.o)).setCell ⟨w.heap.size, 1, none⟩ (.int .i64 i.i.a)).setCell ⟨w.heap.size, 2, none⟩ (.int .i64 i.i.b)).setCell ⟨w.heap.size, 3, none⟩ (.int .i64 i.i.c)).setCell ⟨w.heap.size, 4, none⟩ (.int .i64 i.i.k)).setCell ⟨w.heap.size, 5, none⟩ (.string ⟨i.i.cl.toArray⟩)).setCell ⟨w.heap.size, 6, none⟩ (.string ⟨i.i.nm.toArray⟩)).setCell ⟨w.heap.size, 7, none⟩ (.string ⟨i.i.ds.toArray⟩)).setCell ⟨w.heap.size, 8, none⟩ (.slice i.A i.i.ar.length i.c)) := ⟨_, rfl⟩
 have kZ : Kp [w.heap.size] E Z := by rw [hZ]; exact ((((((((((Kp.refl _ _).set (by simp) _).set (by simp) _).set (by simp) _).set (by simp) _).set (by simp) _).set (by simp) _).set (by simp) _).set (by simp) _).set (by simp) _)
 have nZ : Z.heap[w.heap.size]? = some (.cells #[.int .i64 i.i.o, .int .i64 i.i.a, .int .i64 i.i.b, .int .i64 i.i.c, .int .i64 i.i.k, .string ⟨i.i.cl.toArray⟩, .string ⟨i.i.nm.toArray⟩, .string ⟨i.i.ds.toArray⟩, .slice i.A i.i.ar.length i.c] 153 (0, 0)) := by rw [hZ, z8]; rfl
 have hfb : fb < w.heap.size := by have := HFB.out; exact this
 have fZ : Fk fb f Z := EF.out.kept kZ (by simp; omega)
 have aZ : Below w.heap.size w Z := EA.out.trans (kZ.toBelow EA.out.size (by simp))
 have sZ := HS2.out _ fZ aZ
 try dsimp only at sZ
 have U0 := zh (show Z.cell? ⟨w.heap.size, 0, none⟩ = some (.int .i64 i.i.o) from cell_of_row _ _ 0 _ _ _ nZ)
 have U1 := zh (show Z.cell? ⟨w.heap.size, 1, none⟩ = some (.int .i64 i.i.a) from cell_of_row _ _ 1 _ _ _ nZ)
 have U2 := zh (show Z.cell? ⟨w.heap.size, 2, none⟩ = some (.int .i64 i.i.b) from cell_of_row _ _ 2 _ _ _ nZ)
 have U3 := zh (show Z.cell? ⟨w.heap.size, 3, none⟩ = some (.int .i64 i.i.c) from cell_of_row _ _ 3 _ _ _ nZ)
 have U4 := zh (show Z.cell? ⟨w.heap.size, 4, none⟩ = some (.int .i64 i.i.k) from cell_of_row _ _ 4 _ _ _ nZ)
 have U5 := zh (show Z.cell? ⟨w.heap.size, 5, none⟩ = some (.string ⟨i.i.cl.toArray⟩) from cell_of_row _ _ 5 _ _ _ nZ)
 have U6 := zh (show Z.cell? ⟨w.heap.size, 6, none⟩ = some (.string ⟨i.i.nm.toArray⟩) from cell_of_row _ _ 6 _ _ _ nZ)
 have U7 := zh (show Z.cell? ⟨w.heap.size, 7, none⟩ = some (.string ⟨i.i.ds.toArray⟩) from cell_of_row _ _ 7 _ _ _ nZ)
 have U8 := zh (show Z.cell? ⟨w.heap.size, 8, none⟩ = some (.slice i.A i.i.ar.length i.c) from cell_of_row _ _ 8 _ _ _ nZ)
 have AZ := zh aZ; have HZ := zh hZ; have SZ := zh sZ
 clear z0 z1 z2 z3 z4 z5 z6 z7 z8 hZ kZ nZ hfb fZ aZ sZ
 refine rdy 10 rfl (fun K hK => ?_)
 go_simp
 rw [← HZ.out]
 refine hK.out _ _ SZ.out (fun hHeld => ?_)
 clear hK K
 try simp only [puts]
 refine wpAnyH_done (by kernel_rfl) ?_ _
 clear hS y0 g0' y1 g1' y2 g2' y3 g3' y4 g4' y5 g5' y6 g6' y7 g7' y8 g8'
 go_wp2
 exact bodyPost_ret (v := .agg #[.int .i64 i.i.o, .int .i64 i.i.a, .int .i64 i.i.b, .int .i64 i.i.c, .int .i64 i.i.k, .string ⟨i.i.cl.toArray⟩, .string ⟨i.i.nm.toArray⟩, .string ⟨i.i.ds.toArray⟩, .slice i.A i.i.ar.length i.c]) (by simp [results, Tryz.results75, go_sem, U0.out, U1.out, U2.out, U3.out, U4.out, U5.out, U6.out, U7.out, U8.out]) rfl ⟨rfl, AZ.out⟩
end Go.Proofs.YtjejmlpjifhmmaaGreatDoor.stp

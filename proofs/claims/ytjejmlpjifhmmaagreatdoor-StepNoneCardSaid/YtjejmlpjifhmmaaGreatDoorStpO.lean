/- StpO -/
import Derived.Test.YtjejmlpjifhmmaaGreatDoorStpN
namespace Go.Proofs.YtjejmlpjifhmmaaGreatDoor.stp
open Go.RowKit Go.MapKept Go.ChangeMaps Go.Shelf
open words kindp opp op kind prg sto find
set_option maxRecDepth 100000
set_option maxHeartbeats 8000000
set_option linter.all false
theorem split_i : splitT [40, 41, 73] = ([], (2, []), 0) := by decide
theorem own_one {w : World} {base : Nat} {e : TypeId} {size n : Nat} {v : Value} {xs : List Value} (h : w.ownsRow base e size v n xs) (hn : 0 < n) : ∃ q c, v = .slice (some ⟨q, 0, none⟩) n c ∧ base ≤ q := by
 rcases h.2 with ⟨h1, h0⟩ | ⟨q, cap, cur, rfl, hbg, hq, rest⟩
 ·omega
 ·exact ⟨q, cap, rfl, hbg⟩
theorem infoFr : (Tryz.prog.info? 111).map (fun i => (i.zero, i.size, i.bytes)) = some (some (.pointer none), 1, 8) := by kernel_rfl
theorem zk2 : zeroK 2 = 1 := rfl
def EntP (mb : Nat) (m : MS) (w : World) (e : Ending) (w' : World) : Prop := ∃ (fb vb rb g c c2 : Nat) (A2 : Option Addr) (k : MeM), e = .returned (.pointer (some ⟨fb, 0, none⟩)) ∧
 Mk mb { m with fr := .slice (some ⟨rb, 0, none⟩) 1 c, em := .map (some g), er := .slice A2 1 c2 } w' ∧ Fk fb ⟨[65], [109], [40, 41, 73], k.A, 4, k.c, 0, 1, vb, 1, 0⟩ w' ∧ w'.heap[vb]? = some ov0 ∧
 w'.cell? ⟨rb, 0, none⟩ = some (.pointer (some ⟨fb, 0, none⟩)) ∧ rb < w'.heap.size ∧ w'.heap[g]? = some oe1 ∧ Rd w' A2 [.string ⟨#[65]⟩, .string ⟨#[109]⟩, .string ⟨#[40, 41, 73]⟩] ∧ (∀ a, A2 = some a → rb < a.block) ∧ 1 ≤ c2 ∧ 1 ≤ c ∧
 w.heap.size ≤ vb ∧ vb < fb ∧ fb < rb ∧ rb < g ∧ pM k = pM (soM 0) ∧ CodeAt mb k vb w' ∧ Kp [mb] w w'
theorem enter_w (mb : Nat) (m : MS) (w1 w : World) (hS : Since mb w1 w) (h : Mk mb m w) (hx : So m.x) (hok : PrOk w1 m.x) (hg : GrP m.x) (htk : Tk w1) (hf : m.fr = .slice none 0 0) (hem : m.em = .map none) (her : m.er = .slice none 0 0) :
 Calls Tryz.prog 73 #[.pointer (some ⟨mb, 0, none⟩), .agg #[.string ⟨#[65]⟩, .string ⟨#[109]⟩, .string ⟨#[40, 41, 73]⟩], .slice none 0 0] w (EntP mb m w) := by
 obtain ⟨W, hW⟩ : ∃ W, W = w.alloc (.cells #[.string ⟨#[65]⟩, .string ⟨#[109]⟩, .string ⟨#[40, 41, 73]⟩] 34) := ⟨_, rfl⟩
 have hal : Below w.heap.size w W := by rw [hW]; exact (Below.refl _ _).alloc (Nat.le_refl _) _
 have HBX := zh (show W.heap[w.heap.size]? = some (.cells #[.string ⟨#[65]⟩, .string ⟨#[109]⟩, .string ⟨#[40, 41, 73]⟩] 34 (0, 0)) from by rw [hW]; exact heap_alloc_new _ _)
 have HM := zh (h.below hal); have HAL := zh hal; have HW := zh hW
 have SZ := zh (show W.heap.size = w.heap.size + 1 from by rw [hW]; simp)
 have HLT := zh (blk_lt h)
 have HRM := zh (show Calls Tryz.prog 111 #[.pointer (some ⟨mb, 0, none⟩), .int .i64 1] W _ from room_w mb m none 0 0 1 W (h.below hal) hf (by omega))
 have HGM := zh (fun (v : World) (hv : Below w.heap.size w v) => get_m m.x [65] [109] [40, 41, 73] v (hok.below ((hS.below hv).of)) hg)
 have HSO := zh hx; have HSI := zh hS; have HTK := zh htk; have HFR := zh hf; have HEM := zh hem; have HER := zh her
 have HC := zh (show ∀ v : World, Mk mb m v → v.heap[w.heap.size]? = some (.cells #[.string ⟨#[65]⟩, .string ⟨#[109]⟩, .string ⟨#[40, 41, 73]⟩] 34 (0, 0)) → (fun w' : World => (w'.cell? ⟨mb, 0, none⟩ = some (.slice m.x.A1 m.x.cs.length m.x.c1) ∧ w'.cell? ⟨mb, 1, none⟩ = some (.slice m.x.A2 m.x.ns.length m.x.c2) ∧ w'.cell? ⟨mb, 2, none⟩ = some (.string ⟨m.x.ec.toArray⟩) ∧ w'.cell? ⟨mb, 3, none⟩ = some (.string ⟨m.x.en.toArray⟩) ∧ w'.cell? ⟨mb, 4, none⟩ = some (.string ⟨m.x.ed.toArray⟩)) ∧ w'.cell? ⟨w.heap.size, 0, none⟩ = some (.string ⟨#[65]⟩) ∧ w'.cell? ⟨w.heap.size, 1, none⟩ = some (.string ⟨#[109]⟩) ∧ w'.cell? ⟨w.heap.size, 2, none⟩ = some (.string ⟨#[40, 41, 73]⟩)) v from fun v hm hv => ⟨⟨cell_of_row _ _ 0 _ _ _ hm, cell_of_row _ _ 1 _ _ _ hm, cell_of_row _ _ 2 _ _ _ hm, cell_of_row _ _ 3 _ _ _ hm, cell_of_row _ _ 4 _ _ _ hm⟩, cell_of_row _ _ 0 _ _ _ hv, cell_of_row _ _ 1 _ _ _ hv, cell_of_row _ _ 2 _ _ _ hv⟩)
 clear hal hW h hS hx hok hg htk hf hem her
 dsimp only [prC] at HGM
 go_enter Tryz.func73, Tryz.ntmps73
 go_wp2_with fail
 rw [← HW.out]
 refine HRM.out.mono ?_
 rintro e v ⟨rfl, hv⟩
 rw [hv]
 clear hv HRM v
 go_wp2_with fail
 refine wp_region_held_drew (S := fun w' : World => (w'.cell? ⟨mb, 0, none⟩ = some (.slice m.x.A1 m.x.cs.length m.x.c1) ∧ w'.cell? ⟨mb, 1, none⟩ = some (.slice m.x.A2 m.x.ns.length m.x.c2) ∧ w'.cell? ⟨mb, 2, none⟩ = some (.string ⟨m.x.ec.toArray⟩) ∧ w'.cell? ⟨mb, 3, none⟩ = some (.string ⟨m.x.en.toArray⟩) ∧ w'.cell? ⟨mb, 4, none⟩ = some (.string ⟨m.x.ed.toArray⟩)) ∧ w'.cell? ⟨w.heap.size, 0, none⟩ = some (.string ⟨#[65]⟩) ∧ w'.cell? ⟨w.heap.size, 1, none⟩ = some (.string ⟨#[109]⟩) ∧ w'.cell? ⟨w.heap.size, 2, none⟩ = some (.string ⟨#[40, 41, 73]⟩)) (by kernel_rfl) ?_ (fun hHeld => ?_)
 ·exact HC.out _ HM.out HBX.out
 obtain ⟨D, hD⟩ : ∃ u, u = W.drew := ⟨_, rfl⟩
 have DM := zh (show Mk mb m D from by rw [hD]; exact HM.out)
 have DB := zh (show D.heap[w.heap.size]? = some (.cells #[.string ⟨#[65]⟩, .string ⟨#[109]⟩, .string ⟨#[40, 41, 73]⟩] 34 (0, 0)) from by rw [hD]; exact HBX.out)
 have DA := zh (show Below w.heap.size w D from by rw [hD]; exact overW HAL.out)
 have DZ := zh (show D.heap.size = w.heap.size + 1 from by rw [hD]; exact SZ.out)
 rw [← hD]
 clear hD hHeld
 refine' cutH (T := _) ?pK ?fK
 case' fK => intro KEY
 ·have hS0 := HC.out _ DM.out DB.out
  try dsimp only at hS0
  refine tkp 0 rfl ?_
  refine tkp 1 rfl ?_
  refine tkp 2 rfl ?_
  refine tkp 3 rfl ?_
  refine tkp 4 rfl ?_
  clear hS0
  refine wpAnyH_ready (rs := [5, 9]) (by kernel_rfl) (by simp) (AllReadyH.cons rfl (fun K hK => ?_) (AllReadyH.cons rfl (fun K hK => ?_) AllReadyH.nil))
  ·go_simp
   refine (HGM.out D DA.out).mono ?_
   rintro e v ⟨⟨k, ok, rfl, hgr, hkc, hkr⟩, hb⟩
   obtain ⟨hok1, hpm⟩ := HSO.out.get hgr
   subst hok1
   have VM := zh (DM.out.below hb)
   have VB := zh ((hb.block _ (blk_lt DB.out)).trans DB.out)
   have VA := zh (show Below w.heap.size w v from DA.out.trans (hb.mono DA.out.size))
   obtain ⟨X, hX⟩ : ∃ X, X = v.alloc (.cells #[.string ⟨#[]⟩, .string ⟨#[]⟩, .bool false, .bool false, .int .i64 0, .slice none 0 0] 155) := ⟨_, rfl⟩
   have XL : Below v.heap.size v X := by rw [hX]; exact (Below.refl _ _).alloc (Nat.le_refl _) _
   have XN := zh (show X.heap[v.heap.size]? = some (.cells #[.string ⟨#[]⟩, .string ⟨#[]⟩, .bool false, .bool false, .int .i64 0, .slice none 0 0] 155 (0, 0)) from by rw [hX]; exact heap_alloc_new _ _)
   have XM := zh (VM.out.below XL)
   have XB := zh ((XL.block _ (blk_lt VB.out)).trans VB.out)
   have XA := zh (show Below w.heap.size w X from VA.out.trans (XL.mono VA.out.size))
   have BGE := zh (show w.heap.size + 1 ≤ v.heap.size from by have := hb.size; have := DZ.out; omega)
   have HKR := zh (hkr.below XL)
   have KPM := zh hpm
   have HX := zh hX
   clear hX XL hgr hkc hkr hb hpm
   unfold meC
   go_wp2_with fail
   refine hK.out _ _ (HC.out _ VM.out VB.out) (fun hHeld => ?_)
   clear hK K
   try simp only [puts]
   have hS0 := HC.out _ VM.out VB.out
   try dsimp only at hS0
   refine tkp 6 rfl ?_
   refine tkp 7 rfl ?_
   refine tkp 8 rfl ?_
   clear hS0
   refine rdy 9 rfl (fun K hK => ?_)
   go_simp
   rw [← HX.out]
   refine hK.out _ _ (HC.out _ XM.out XB.out) (fun hHeld => ?_)
   clear hK K
   try simp only [puts]
   obtain ⟨Z, hZ⟩ : ∃ Z, Z = ((((((X.setCell ⟨v.heap.size, 0, none⟩ (.string ⟨k.nm.toArray⟩)).setCell ⟨v.heap.size, 1, none⟩ (.string ⟨k.ds.toArray⟩)).setCell ⟨v.heap.size, 2, none⟩ (.bool k.st)).setCell ⟨v.heap.size, 3, none⟩ (.bool k.ab)).setCell ⟨v.heap.size, 4, none⟩ (.int .i64 k.rg)).setCell ⟨v.heap.size, 5, none⟩ (.slice k.A k.co.length k.c)) := ⟨_, rfl⟩
   have gZ : X.grownBy Z (some (v.heap.size)) := by rw [hZ]; exact gb6 _ _ _ _ _ _ _ _
   have nZ : Z.heap[v.heap.size]? = some (.cells #[.string ⟨k.nm.toArray⟩, .string ⟨k.ds.toArray⟩, .bool k.st, .bool k.ab, .int .i64 k.rg, .slice k.A k.co.length k.c] 155 (0, 0)) := by rw [hZ]; exact set6 XN.out _ _ _ _ _ _
   have kZ : Kp [v.heap.size] X Z := Kp.of gZ (fun c hc _ => by cases hc; simp)
   have mZ : Mk mb m Z := XM.out.kept kZ (by simp; have := HLT.out; have := BGE.out; omega)
   have bZ := kZ.at_ XB.out (by simp; have := BGE.out; omega)
   have rZ : Rd Z k.A (k.co.flatMap inC) := rd_six HKR.out XN.out (by simp) gZ
   have aZ : Below w.heap.size w Z := XA.out.trans (kZ.toBelow XA.out.size (by simp; have := BGE.out; omega))
   have y0 : X.cell? ⟨v.heap.size, 0, none⟩ = some (.string ⟨#[]⟩) := cell_of_row _ _ 0 _ _ _ XN.out
   have g0 := frozen_of_row _ _ 0 _ _ XN.out
   have y1 : X.cell? ⟨v.heap.size, 1, none⟩ = some (.string ⟨#[]⟩) := cell_of_row _ _ 1 _ _ _ XN.out
   have g1 := frozen_of_row _ _ 1 _ _ XN.out
   have y2 : X.cell? ⟨v.heap.size, 2, none⟩ = some (.bool false) := cell_of_row _ _ 2 _ _ _ XN.out
   have g2 := frozen_of_row _ _ 2 _ _ XN.out
   have y3 : X.cell? ⟨v.heap.size, 3, none⟩ = some (.bool false) := cell_of_row _ _ 3 _ _ _ XN.out
   have g3 := frozen_of_row _ _ 3 _ _ XN.out
   have y4 : X.cell? ⟨v.heap.size, 4, none⟩ = some (.int .i64 0) := cell_of_row _ _ 4 _ _ _ XN.out
   have g4 := frozen_of_row _ _ 4 _ _ XN.out
   have y5 : X.cell? ⟨v.heap.size, 5, none⟩ = some (.slice none 0 0) := cell_of_row _ _ 5 _ _ _ XN.out
   have g5 := frozen_of_row _ _ 5 _ _ XN.out
   obtain ⟨b, hbb⟩ : ∃ b, b = v.heap.size := ⟨_, rfl⟩
   have F1 := zh mZ; have F2 := zh bZ; have F3 := zh (show Z.heap[b]? = some (.cells #[.string ⟨k.nm.toArray⟩, .string ⟨k.ds.toArray⟩, .bool k.st, .bool k.ab, .int .i64 k.rg, .slice k.A k.co.length k.c] 155 (0, 0)) from by rw [hbb]; exact nZ); have F4 := zh KPM.out; have F5 := zh (code_at mZ KPM.out rZ); have F6 := zh aZ; have F7 := zh (show w.heap.size + 1 ≤ b from by rw [hbb]; exact BGE.out)
   have sZ := HC.out _ mZ bZ
   try dsimp only at sZ
   have SZZ := zh sZ
   have HZ := zh hZ; have HBB := zh hbb
   clear hZ gZ nZ kZ mZ bZ rZ aZ sZ hbb
   refine rdy 10 rfl (fun K hK => ?_)
   go_simp
   rw [← HZ.out]
   refine hK.out _ _ SZZ.out (fun hHeld => ?_)
   clear hK K
   try simp only [puts]
   clear y0 g0 y1 g1 y2 g2 y3 g3 y4 g4 y5 g5
   have hS1 := SZZ.out
   refine tkp 11 rfl ?_
   clear hS1
   rw [← HBB.out]
   refine listedH (L := #[true, true, true, true, true, true, true, true, true, true, true, true]) (by kernel_rfl) ?_
   clear hHeld
   clear VM VB VA XN XM XB XA BGE HKR KPM HX SZZ HZ HBB
   revert F1 F2 F3 F4 F5 F6 F7
   revert b Z k
   exact KEY
  ·obtain ⟨X, hX⟩ : ∃ X, X = D.alloc (.cells #[.string ⟨#[]⟩, .string ⟨#[]⟩, .bool false, .bool false, .int .i64 0, .slice none 0 0] 155) := ⟨_, rfl⟩
   have XL : Below D.heap.size D X := by rw [hX]; exact (Below.refl _ _).alloc (Nat.le_refl _) _
   have XN := zh (show X.heap[D.heap.size]? = some (.cells #[.string ⟨#[]⟩, .string ⟨#[]⟩, .bool false, .bool false, .int .i64 0, .slice none 0 0] 155 (0, 0)) from by rw [hX]; exact heap_alloc_new _ _)
   have XM := zh (DM.out.below XL)
   have XB := zh ((XL.block _ (blk_lt DB.out)).trans DB.out)
   have XA := zh (show Below w.heap.size w X from DA.out.trans (XL.mono DA.out.size))
   have HX := zh hX
   clear hX XL
   go_simp
   rw [← HX.out]
   refine hK.out _ _ (HC.out _ XM.out XB.out) (fun hHeld => ?_)
   clear hK K
   try simp only [puts]
   clear hHeld
   refine rdy 5 rfl (fun K hK => ?_)
   go_simp
   refine (HGM.out X XA.out).mono ?_
   rintro e v ⟨⟨k, ok, rfl, hgr, hkc, hkr⟩, hb⟩
   obtain ⟨hok1, hpm⟩ := HSO.out.get hgr
   subst hok1
   have VM := zh (XM.out.below hb)
   have VB := zh ((hb.block _ (blk_lt XB.out)).trans XB.out)
   have VA := zh (show Below w.heap.size w v from XA.out.trans (hb.mono XA.out.size))
   have VN := zh ((hb.block _ (blk_lt XN.out)).trans XN.out)
   have BGE := zh (show w.heap.size + 1 ≤ D.heap.size from by have := DZ.out; omega)
   have HKR := zh hkr
   have KPM := zh hpm
   clear hgr hkc hkr hb hpm
   unfold meC
   go_wp2_with fail
   refine hK.out _ _ (HC.out _ VM.out VB.out) (fun hHeld => ?_)
   clear hK K
   try simp only [puts]
   have hS0 := HC.out _ VM.out VB.out
   try dsimp only at hS0
   refine tkp 6 rfl ?_
   refine tkp 7 rfl ?_
   refine tkp 8 rfl ?_
   clear hS0
   obtain ⟨Z, hZ⟩ : ∃ Z, Z = ((((((v.setCell ⟨D.heap.size, 0, none⟩ (.string ⟨k.nm.toArray⟩)).setCell ⟨D.heap.size, 1, none⟩ (.string ⟨k.ds.toArray⟩)).setCell ⟨D.heap.size, 2, none⟩ (.bool k.st)).setCell ⟨D.heap.size, 3, none⟩ (.bool k.ab)).setCell ⟨D.heap.size, 4, none⟩ (.int .i64 k.rg)).setCell ⟨D.heap.size, 5, none⟩ (.slice k.A k.co.length k.c)) := ⟨_, rfl⟩
   have gZ : v.grownBy Z (some (D.heap.size)) := by rw [hZ]; exact gb6 _ _ _ _ _ _ _ _
   have nZ : Z.heap[D.heap.size]? = some (.cells #[.string ⟨k.nm.toArray⟩, .string ⟨k.ds.toArray⟩, .bool k.st, .bool k.ab, .int .i64 k.rg, .slice k.A k.co.length k.c] 155 (0, 0)) := by rw [hZ]; exact set6 VN.out _ _ _ _ _ _
   have kZ : Kp [D.heap.size] v Z := Kp.of gZ (fun c hc _ => by cases hc; simp)
   have mZ : Mk mb m Z := VM.out.kept kZ (by simp; have := HLT.out; have := BGE.out; omega)
   have bZ := kZ.at_ VB.out (by simp; have := BGE.out; omega)
   have rZ : Rd Z k.A (k.co.flatMap inC) := rd_six HKR.out VN.out (by simp) gZ
   have aZ : Below w.heap.size w Z := VA.out.trans (kZ.toBelow VA.out.size (by simp; have := BGE.out; omega))
   have y0 : v.cell? ⟨D.heap.size, 0, none⟩ = some (.string ⟨#[]⟩) := cell_of_row _ _ 0 _ _ _ VN.out
   have g0 := frozen_of_row _ _ 0 _ _ VN.out
   have y1 : v.cell? ⟨D.heap.size, 1, none⟩ = some (.string ⟨#[]⟩) := cell_of_row _ _ 1 _ _ _ VN.out
   have g1 := frozen_of_row _ _ 1 _ _ VN.out
   have y2 : v.cell? ⟨D.heap.size, 2, none⟩ = some (.bool false) := cell_of_row _ _ 2 _ _ _ VN.out
   have g2 := frozen_of_row _ _ 2 _ _ VN.out
   have y3 : v.cell? ⟨D.heap.size, 3, none⟩ = some (.bool false) := cell_of_row _ _ 3 _ _ _ VN.out
   have g3 := frozen_of_row _ _ 3 _ _ VN.out
   have y4 : v.cell? ⟨D.heap.size, 4, none⟩ = some (.int .i64 0) := cell_of_row _ _ 4 _ _ _ VN.out
   have g4 := frozen_of_row _ _ 4 _ _ VN.out
   have y5 : v.cell? ⟨D.heap.size, 5, none⟩ = some (.slice none 0 0) := cell_of_row _ _ 5 _ _ _ VN.out
   have g5 := frozen_of_row _ _ 5 _ _ VN.out
   obtain ⟨b, hbb⟩ : ∃ b, b = D.heap.size := ⟨_, rfl⟩
   have F1 := zh mZ; have F2 := zh bZ; have F3 := zh (show Z.heap[b]? = some (.cells #[.string ⟨k.nm.toArray⟩, .string ⟨k.ds.toArray⟩, .bool k.st, .bool k.ab, .int .i64 k.rg, .slice k.A k.co.length k.c] 155 (0, 0)) from by rw [hbb]; exact nZ); have F4 := zh KPM.out; have F5 := zh (code_at mZ KPM.out rZ); have F6 := zh aZ; have F7 := zh (show w.heap.size + 1 ≤ b from by rw [hbb]; exact BGE.out)
   have sZ := HC.out _ mZ bZ
   try dsimp only at sZ
   have SZZ := zh sZ
   have HZ := zh hZ; have HBB := zh hbb
   clear hZ gZ nZ kZ mZ bZ rZ aZ sZ hbb
   refine rdy 10 rfl (fun K hK => ?_)
   go_simp
   rw [← HZ.out]
   refine hK.out _ _ SZZ.out (fun hHeld => ?_)
   clear hK K
   try simp only [puts]
   clear y0 g0 y1 g1 y2 g2 y3 g3 y4 g4 y5 g5
   have hS1 := SZZ.out
   refine tkp 11 rfl ?_
   clear hS1
   rw [← HBB.out]
   refine listedH (L := #[true, true, true, true, true, true, true, true, true, true, true, true]) (by kernel_rfl) ?_
   clear hHeld
   clear VM VB VA VN XN XM XB XA BGE HKR KPM HX SZZ HZ HBB
   revert F1 F2 F3 F4 F5 F6 F7
   revert b Z k
   exact KEY
 case pK =>
  intro k Z b F1 F2 F3 F4 F5 F6 F7
  have hrg : k.rg = 1 := congrArg MeP.rg F4.out
  have hlen : k.co.length = 4 := by have := congrArg List.length (show k.co.map pI = [so1, so2, so3, so4].map pI from congrArg MeP.co F4.out); simpa using this
  obtain ⟨kn, kd, ks, ka, kr, kco, kA, kc⟩ := k
  dsimp only at hrg hlen F3 ⊢
  subst hrg
  have HLE := zh hlen
  rw [hlen] at F3
  rw [hlen]
  clear hlen
  have ZT := zh (show Tk Z from HTK.out.below (HSI.out.below F6.out).of)
  have HSP := zh (split_k [40, 41, 73] Z (by decide) ZT.out.1 ZT.out.2)
  have z2 : Z.cell? ⟨w.heap.size, 2, none⟩ = some (.string ⟨#[40, 41, 73]⟩) := cell_of_row _ _ 2 _ _ _ F2.out
  refine wpAnyH_done (by kernel_rfl) ?_ _
  go_wp2_with fail
  refine HSP.out.mono ?_
  rintro e v hsp
  unfold SplitW at hsp
  rw [split_i] at hsp
  obtain ⟨⟨A3, c3, rfl, -⟩, hb⟩ := hsp
  dsimp only [List.length_nil]
  obtain ⟨X, hX⟩ : ∃ X, X = v.alloc (.cells #[.int .i64 2, .string ⟨#[]⟩] 165) := ⟨_, rfl⟩
  have XL : Below v.heap.size v X := by rw [hX]; exact (Below.refl _ _).alloc (Nat.le_refl _) _
  have ZX : Below Z.heap.size Z X := then' hb XL
  have XT := zh (show X.heap[v.heap.size]? = some (.cells #[.int .i64 2, .string ⟨#[]⟩] 165 (0, 0)) from by rw [hX]; exact heap_alloc_new _ _)
  have XF1 := zh (F1.out.below ZX)
  have XF2 := zh ((ZX.block _ (blk_lt F2.out)).trans F2.out)
  have XF3 := zh ((ZX.block _ (blk_lt F3.out)).trans F3.out)
  have XF6 := zh (show Below w.heap.size w X from F6.out.trans (ZX.mono F6.out.size))
  have XZ := zh ZX
  have HX := zh hX
  clear hX XL ZX hb HSP z2
  go_wp2_with fail
  rw [← HX.out]
  have HC0 := zh (show ∀ u : World, Below X.heap.size X u → (fun w' : World => w'.cell? ⟨w.heap.size, 0, none⟩ = some (.string ⟨#[65]⟩) ∧ w'.cell? ⟨w.heap.size, 1, none⟩ = some (.string ⟨#[109]⟩) ∧ w'.cell? ⟨w.heap.size, 2, none⟩ = some (.string ⟨#[40, 41, 73]⟩) ∧ w'.cell? ⟨b, 4, none⟩ = some (.int .i64 1) ∧ w'.cell? ⟨b, 5, none⟩ = some (.slice kA 4 kc) ∧ w'.cell? ⟨v.heap.size, 0, none⟩ = some (.int .i64 2) ∧ w'.cell? ⟨v.heap.size, 1, none⟩ = some (.string ⟨#[]⟩)) u from fun u hu => by
   have r2 := (hu.block _ (blk_lt XF2.out)).trans XF2.out
   have r3 := (hu.block _ (blk_lt XF3.out)).trans XF3.out
   have rt := (hu.block _ (blk_lt XT.out)).trans XT.out
   exact ⟨cell_of_row _ _ 0 _ _ _ r2, cell_of_row _ _ 1 _ _ _ r2, cell_of_row _ _ 2 _ _ _ r2, cell_of_row _ _ 4 _ _ _ r3, cell_of_row _ _ 5 _ _ _ r3, cell_of_row _ _ 0 _ _ _ rt, cell_of_row _ _ 1 _ _ _ rt⟩)
  refine wp_region_held_drew (S := fun w' : World => w'.cell? ⟨w.heap.size, 0, none⟩ = some (.string ⟨#[65]⟩) ∧ w'.cell? ⟨w.heap.size, 1, none⟩ = some (.string ⟨#[109]⟩) ∧ w'.cell? ⟨w.heap.size, 2, none⟩ = some (.string ⟨#[40, 41, 73]⟩) ∧ w'.cell? ⟨b, 4, none⟩ = some (.int .i64 1) ∧ w'.cell? ⟨b, 5, none⟩ = some (.slice kA 4 kc) ∧ w'.cell? ⟨v.heap.size, 0, none⟩ = some (.int .i64 2) ∧ w'.cell? ⟨v.heap.size, 1, none⟩ = some (.string ⟨#[]⟩)) (by kernel_rfl) ?_ (fun hHeld => ?_)
  ·exact HC0.out _ (overW (Below.refl _ _))
  obtain ⟨E, hE⟩ : ∃ u, u = X.drew := ⟨_, rfl⟩
  have XE := zh (show Below X.heap.size X E from by rw [hE]; exact overW (Below.refl _ _))
  rw [← hE]
  clear hE
  have HC4 := zh (show ∀ u : World, Below E.heap.size E u → (fun w' : World => w'.cell? ⟨w.heap.size, 0, none⟩ = some (.string ⟨#[65]⟩) ∧ w'.cell? ⟨w.heap.size, 1, none⟩ = some (.string ⟨#[109]⟩) ∧ w'.cell? ⟨w.heap.size, 2, none⟩ = some (.string ⟨#[40, 41, 73]⟩) ∧ w'.cell? ⟨b, 4, none⟩ = some (.int .i64 1) ∧ w'.cell? ⟨b, 5, none⟩ = some (.slice kA 4 kc) ∧ w'.cell? ⟨v.heap.size, 0, none⟩ = some (.int .i64 2) ∧ w'.cell? ⟨v.heap.size, 1, none⟩ = some (.string ⟨#[]⟩)) u from fun u hu => HC0.out u (then' XE.out hu))
  refine' cutH (T := _) ?pK2 ?fK2
  case' fK2 => intro KEY
  ·have hS0 := HC4.out _ (Below.refl _ _)
   try dsimp only at hS0
   refine tkp 0 rfl ?_
   refine tkp 1 rfl ?_
   refine tkp 2 rfl ?_
   refine tkp 3 rfl ?_
   refine tkp 4 rfl ?_
   refine tkp 6 rfl ?_
   clear hS0
   refine wpAnyH_ready (rs := [5, 7]) (by kernel_rfl) (by simp) (AllReadyH.cons rfl (fun K hK => ?_) (AllReadyH.cons rfl (fun K hK => ?_) AllReadyH.nil))
   ·obtain ⟨M, hM⟩ : ∃ M, M = E.alloc (.map #[] 0) := ⟨_, rfl⟩
    have em : Below E.heap.size E M := by rw [hM]; exact (Below.refl _ _).alloc (Nat.le_refl _) _
    have MV := zh (show M.heap[E.heap.size]? = some ov0 from by rw [hM]; exact heap_alloc_new _ _)
    have EM := zh em
    have HMM := zh hM
    have hmm : ∀ (t : TypeId) (w : World), (Instr.makeMap t none).run Tryz.prog w = .ok (.map (some w.heap.size)) (w.alloc (.map #[] 0)) := fun t w => run_makeMap t w
    have HAS := zh (asked_w 2 [] M)
    clear hM em
    go_simp
    rw [← HMM.out]
    refine hK.out _ _ (HC4.out _ EM.out) (fun hHeld => ?_)
    clear hK K hmm
    try simp only [puts]
    clear HMM hHeld
    refine rdy 7 rfl (fun K hK => ?_)
    go_simp
    refine HAS.out.mono ?_
    rintro e u ⟨rfl, hb⟩
    have EU := zh (then' EM.out hb)
    have UV := zh ((hb.block _ (blk_lt MV.out)).trans MV.out)
    rw [zk2]
    clear hb
    go_wp2_with fail
    refine hK.out _ _ (HC4.out _ EU.out) (fun hHeld => ?_)
    clear hK K
    try simp only [puts]
    obtain ⟨Y, hY⟩ : ∃ Y, Y = u.alloc (.cells #[.string ⟨#[65]⟩, .string ⟨#[109]⟩, .string ⟨#[40, 41, 73]⟩, .slice kA 4 kc, .int .i64 0, .int .i64 1, .map (some (E.heap.size)), .int .i64 1, .int .i64 0] 117) := ⟨_, rfl⟩
    have YL : Below u.heap.size u Y := by rw [hY]; exact (Below.refl _ _).alloc (Nat.le_refl _) _
    have EY : Below E.heap.size E Y := then' EU.out YL
    have yf : Y.heap[u.heap.size]? = some (.cells #[.string ⟨#[65]⟩, .string ⟨#[109]⟩, .string ⟨#[40, 41, 73]⟩, .slice kA 4 kc, .int .i64 0, .int .i64 1, .map (some (E.heap.size)), .int .i64 1, .int .i64 0] 117 (0, 0)) := by rw [hY]; exact heap_alloc_new _ _
    have yv := (YL.block _ (blk_lt UV.out)).trans UV.out
    obtain ⟨vb, hvb⟩ : ∃ n, n = E.heap.size := ⟨_, rfl⟩
    obtain ⟨fb, hfb⟩ : ∃ n, n = u.heap.size := ⟨_, rfl⟩
    have G1 := zh (show Y.heap[vb]? = some ov0 from by rw [hvb]; exact yv)
    have G2 := zh (show Y.heap[fb]? = some (.cells #[.string ⟨#[65]⟩, .string ⟨#[109]⟩, .string ⟨#[40, 41, 73]⟩, .slice kA 4 kc, .int .i64 0, .int .i64 1, .map (some (vb)), .int .i64 1, .int .i64 0] 117 (0, 0)) from by rw [hvb, hfb]; exact yf)
    have G3 := zh EY
    have G4 := zh (show E.heap.size ≤ vb ∧ vb < fb ∧ fb < Y.heap.size from by
     refine ⟨by rw [hvb]; exact Nat.le_refl _, by rw [hvb, hfb]; exact blk_lt UV.out, by rw [hfb, hY]; simp⟩)
    have SY := zh (HC4.out _ EY)
    have HY := zh hY; have HVB := zh hvb; have HFB := zh hfb
    clear hY YL EY yf yv hvb hfb
    have hS0 := HC4.out _ EU.out
    try dsimp only at hS0
    refine tkp 8 rfl ?_
    clear hS0
    refine rdy 9 rfl (fun K hK => ?_)
    go_simp
    rw [← HY.out]
    refine hK.out _ _ SY.out (fun hHeld => ?_)
    clear hK K
    try simp only [puts]
    have hS0 := SY.out
    try dsimp only at hS0
    refine tkp 10 rfl ?_
    clear hS0
    rw [← HVB.out, ← HFB.out]
    refine listedH (L := #[true, true, true, true, true, true, true, true, true, true, true]) (by kernel_rfl) ?_
    clear hHeld HY HVB HFB SY EU UV EM MV HAS
    revert G1 G2 G3 G4
    revert fb vb Y
    exact KEY
   ·have HAS := zh (asked_w 2 [] E)
    go_simp
    refine HAS.out.mono ?_
    rintro e u ⟨rfl, hb⟩
    have EU := zh hb
    rw [zk2]
    clear hb
    go_wp2_with fail
    refine hK.out _ _ (HC4.out _ EU.out) (fun hHeld => ?_)
    clear hK K
    try simp only [puts]
    clear hHeld
    obtain ⟨M, hM⟩ : ∃ M, M = u.alloc (.map #[] 0) := ⟨_, rfl⟩
    have em : Below u.heap.size u M := by rw [hM]; exact (Below.refl _ _).alloc (Nat.le_refl _) _
    have MV := zh (show M.heap[u.heap.size]? = some ov0 from by rw [hM]; exact heap_alloc_new _ _)
    have MZ := zh (show M.heap.size = u.heap.size + 1 from by rw [hM]; simp)
    have EM := zh (then' EU.out em)
    have HMM := zh hM
    have hmm : ∀ (t : TypeId) (w : World), (Instr.makeMap t none).run Tryz.prog w = .ok (.map (some w.heap.size)) (w.alloc (.map #[] 0)) := fun t w => run_makeMap t w
    clear hM em
    refine rdy 5 rfl (fun K hK => ?_)
    go_simp
    rw [← HMM.out]
    refine hK.out _ _ (HC4.out _ EM.out) (fun hHeld => ?_)
    clear hK K hmm
    try simp only [puts]
    clear HMM
    obtain ⟨Y, hY⟩ : ∃ Y, Y = M.alloc (.cells #[.string ⟨#[65]⟩, .string ⟨#[109]⟩, .string ⟨#[40, 41, 73]⟩, .slice kA 4 kc, .int .i64 0, .int .i64 1, .map (some (u.heap.size)), .int .i64 1, .int .i64 0] 117) := ⟨_, rfl⟩
    have YL : Below M.heap.size M Y := by rw [hY]; exact (Below.refl _ _).alloc (Nat.le_refl _) _
    have EY : Below E.heap.size E Y := then' EM.out YL
    have yf : Y.heap[M.heap.size]? = some (.cells #[.string ⟨#[65]⟩, .string ⟨#[109]⟩, .string ⟨#[40, 41, 73]⟩, .slice kA 4 kc, .int .i64 0, .int .i64 1, .map (some (u.heap.size)), .int .i64 1, .int .i64 0] 117 (0, 0)) := by rw [hY]; exact heap_alloc_new _ _
    have yv := (YL.block _ (blk_lt MV.out)).trans MV.out
    obtain ⟨vb, hvb⟩ : ∃ n, n = u.heap.size := ⟨_, rfl⟩
    obtain ⟨fb, hfb⟩ : ∃ n, n = M.heap.size := ⟨_, rfl⟩
    have G1 := zh (show Y.heap[vb]? = some ov0 from by rw [hvb]; exact yv)
    have G2 := zh (show Y.heap[fb]? = some (.cells #[.string ⟨#[65]⟩, .string ⟨#[109]⟩, .string ⟨#[40, 41, 73]⟩, .slice kA 4 kc, .int .i64 0, .int .i64 1, .map (some (vb)), .int .i64 1, .int .i64 0] 117 (0, 0)) from by rw [hvb, hfb]; exact yf)
    have G3 := zh EY
    have G4 := zh (show E.heap.size ≤ vb ∧ vb < fb ∧ fb < Y.heap.size from by
     refine ⟨by rw [hvb]; exact EU.out.size, by rw [hvb, hfb]; rw [MZ.out]; omega, by rw [hfb, hY]; simp⟩)
    have SY := zh (HC4.out _ EY)
    have HY := zh hY; have HVB := zh hvb; have HFB := zh hfb
    clear hY YL EY yf yv hvb hfb
    have hS0 := HC4.out _ EM.out
    try dsimp only at hS0
    refine tkp 8 rfl ?_
    clear hS0
    refine rdy 9 rfl (fun K hK => ?_)
    go_simp
    rw [← HY.out]
    refine hK.out _ _ SY.out (fun hHeld => ?_)
    clear hK K
    try simp only [puts]
    have hS0 := SY.out
    try dsimp only at hS0
    refine tkp 10 rfl ?_
    clear hS0
    rw [← HVB.out, ← HFB.out]
    refine listedH (L := #[true, true, true, true, true, true, true, true, true, true, true]) (by kernel_rfl) ?_
    clear hHeld HY HVB HFB SY EU EM MV MZ HAS
    revert G1 G2 G3 G4
    revert fb vb Y
    exact KEY
  case pK2 =>
   intro Y vb fb G1 G2 G3 G4
   have wY : Below w.heap.size w Y := XF6.out.trans ((then' XE.out G3.out).mono XF6.out.size)
   have zE : Below Z.heap.size Z E := then' XZ.out XE.out
   have zY : Below Z.heap.size Z Y := then' zE G3.out
   have Y1 := zh (F1.out.below zY)
   have Y2 := zh ((zY.block _ (blk_lt F2.out)).trans F2.out)
   have Y6 := zh wY
   have Y8 := zh (show w.heap.size ≤ vb from by have h1 := F6.out.size; have h2 := zE.size; have h3 := G4.out.1; omega)
   have Y5 := zh (show CodeAt mb ⟨kn, kd, ks, ka, 1, kco, kA, kc⟩ vb Y from by
    obtain ⟨a, e1, e2, e3, e4⟩ := F5.out
    exact ⟨a, e1, e2, by have h2 := zE.size; have h3 := G4.out.1; omega, e4.below zY⟩)
   clear wY zE zY XT XF1 XF2 XF3 XF6 XZ HX HC0 HC4 XE F1 F2 F3 F5 F6 F7 HBX HM HAL HW SZ HGM HC DM DB DA DZ ZT
   obtain ⟨iP, hiP, hzP, hz1, hz2⟩ := info_parts infoFr
   refine wpAnyH_done (by kernel_rfl) ?_ _
   clear hHeld
   obtain ⟨V, hV⟩ : ∃ V, V = Y.alloc (.cells #[.pointer (some ⟨fb, 0, none⟩)] 111) := ⟨_, rfl⟩
   have yv : Below Y.heap.size Y V := by rw [hV]; exact (Below.refl _ _).alloc (Nat.le_refl _) _
   have vn : V.heap[Y.heap.size]? = some (.cells #[.pointer (some ⟨fb, 0, none⟩)] 111 (0, 0)) := by rw [hV]; exact heap_alloc_new _ _
   have y15 : Y.cell? ⟨mb, 15, none⟩ = some (.slice none 0 0) := by rw [← HFR.out]; exact cell_of_row _ _ 15 _ _ _ Y1.out
   have VR := zh (show Rd (Y.alloc (.cells #[.pointer (some ⟨fb, 0, none⟩)] 111)) (some ⟨Y.heap.size, 0, none⟩) [.pointer (some ⟨fb, 0, none⟩)] from by rw [← hV]; exact rd_blk vn (k := 1) rfl)
   have VZ := zh (show V.heap.size = Y.heap.size + 1 from by rw [hV]; simp)
   have YV := zh yv; have HV := zh hV
   clear yv vn hV
   go_wp2
   refine wp_loop_rounds 1 ?_
   rw [rounds_succ]
   go_wp2_with (at_builtin; refine wpList_app _ rfl (.tmp 59) (.tmp 61) _ rfl (Y.heap.size + 1) 111 iP _ 1 8 Tryz.underlying80 hiP hzP hz1 hz2 rfl (by omega) _ 0 [] rfl (World.ownsRow_nil _ _ _ _) (some ⟨Y.heap.size, 0, none⟩) 1 1 [.pointer (some ⟨fb, 0, none⟩)] rfl rfl VR.out (by intro u hu; simp at hu; rcases hu with rfl; rfl) (by decide) (by decide) (by simp) ?_; intro v5 w5 hown5 hg5 hb5 hat5; obtain ⟨A5, c5, rfl, hnc5, -, hrd5⟩ := own_rd hown5; rw [← HV.out] at hb5; replace hb5 : Below V.heap.size V w5 := (by rw [VZ.out]; exact hb5); have A5q := zh (own_one hown5 (by decide)); have B5 := zh (then' YV.out hb5); have R5 := zh hrd5; have N5 := zh hnc5; have M5 := zh (Y1.out.below B5.out); clear hb5 hown5 hg5 hat5 hrd5 hnc5 y15; have q0 : w5.cell? ⟨mb, 15, none⟩ = some (.slice none 0 0) := (by rw [← HFR.out]; exact cell_of_row _ _ 15 _ _ _ M5.out); have f0 := frozen_of_row _ _ 15 _ _ M5.out)
   obtain ⟨rb, c6, e6, hrb⟩ := A5q.out
   cases e6
   clear A5q
   have fl := blk_lt G1.out; have fl2 := blk_lt G2.out
   obtain ⟨a', ea', halt, hac⟩ := (show Rd w5 (some ⟨rb, 0, none⟩) [.pointer (some ⟨fb, 0, none⟩)] from R5.out).at_ (j := 0) rfl
   cases ea'
   have hac0 : w5.cell? ⟨rb, 0, none⟩ = some (.pointer (some ⟨fb, 0, none⟩)) := by simpa [Addr.add] using hac
   have hmv : mb < vb := by have := HLT.out; have := Y8.out; omega
   have hmf : mb < fb := by have := G4.out.2.1; omega
   obtain ⟨U, hU⟩ : ∃ U, U = w5.setCell ⟨mb, 15, none⟩ (.slice (some ⟨rb, 0, none⟩) 1 c5) := ⟨_, rfl⟩
   have mU : Mk mb { m with fr := .slice (some ⟨rb, 0, none⟩) 1 c5 } U := by unfold Mk; rw [hU, heap_setCell_same _ _ _ _ _ _ M5.out]; rfl
   have kU : Kp [mb] Y U := by rw [hU]; exact (Kp.below B5.out).set (by simp) _
   have kU5 : Kp [mb] w5 U := by rw [hU]; exact (Kp.refl _ _).set (by simp) _
   have fU := kU.at_ G2.out (by simp; omega)
   have vU := kU.at_ G1.out (by simp; omega)
   have rU : U.cell? ⟨rb, 0, none⟩ = some (.pointer (some ⟨fb, 0, none⟩)) := by
    rw [hU, World.cell?_setCell_far _ _ _ _ (by show mb ≠ rb; have := G4.out.2.2; omega)]; exact hac0
   have bU := kU.at_ Y2.out (by simp; have := HLT.out; omega)
   have sU : rb < U.heap.size := Nat.lt_of_lt_of_le (show rb < w5.heap.size from halt) kU5.size
   have cU : CodeAt mb ⟨kn, kd, ks, ka, 1, kco, kA, kc⟩ vb U := by
    obtain ⟨a, e1, e2, e3, e4⟩ := Y5.out
    exact ⟨a, e1, e2, e3, kU.rd e4 (fun a' ha' => by rw [e1] at ha'; cases ha'; simp; exact e2)⟩
   have tU : Kp [mb] w U := (Kp.below Y6.out).trans kU
   have HAD := zh (fun (v : World) (hm : Mk mb { m with fr := .slice (some ⟨rb, 0, none⟩) 1 c5 } v) => add_e mb _ v hm HEM.out HER.out)
   have MU := zh mU; have FU := zh fU; have VU := zh vU; have RU := zh rU; have BU := zh bU; have SU := zh sU; have CU := zh cU; have TU := zh tU; have HU := zh hU
   have LTS := zh (show Y.heap.size + 1 ≤ rb ∧ mb < vb ∧ mb < fb ∧ fb < Y.heap.size from ⟨hrb, hmv, hmf, fl2⟩)
   clear q0 f0 fl fl2 hac hac0 halt hmv hmf mU kU kU5 fU vU rU bU sU cU tU hU hrb
   rw [← HU.out]
   refine wp_region_held_drew (S := fun w' : World => w'.cell? ⟨w.heap.size, 0, none⟩ = some (.string ⟨#[65]⟩) ∧ w'.cell? ⟨w.heap.size, 1, none⟩ = some (.string ⟨#[109]⟩) ∧ w'.cell? ⟨w.heap.size, 2, none⟩ = some (.string ⟨#[40, 41, 73]⟩)) (by kernel_rfl) ?_ (fun hHeld => ?_)
   ·exact ⟨cell_of_row _ _ 0 _ _ _ BU.out, cell_of_row _ _ 1 _ _ _ BU.out, cell_of_row _ _ 2 _ _ _ BU.out⟩
   obtain ⟨T, hT⟩ : ∃ u, u = U.drew := ⟨_, rfl⟩
   have mT : Mk mb { m with fr := .slice (some ⟨rb, 0, none⟩) 1 c5 } T := by rw [hT]; exact MU.out
   have bT : T.heap[w.heap.size]? = some (.cells #[.string ⟨#[65]⟩, .string ⟨#[109]⟩, .string ⟨#[40, 41, 73]⟩] 34 (0, 0)) := by rw [hT]; exact BU.out
   have kT : Kp [mb] U T := by rw [hT]; exact (Kp.refl _ _).drew
   have hS0 : T.cell? ⟨w.heap.size, 0, none⟩ = some (.string ⟨#[65]⟩) ∧ T.cell? ⟨w.heap.size, 1, none⟩ = some (.string ⟨#[109]⟩) ∧ T.cell? ⟨w.heap.size, 2, none⟩ = some (.string ⟨#[40, 41, 73]⟩) := ⟨cell_of_row _ _ 0 _ _ _ bT, cell_of_row _ _ 1 _ _ _ bT, cell_of_row _ _ 2 _ _ _ bT⟩
   have rT : T.cell? ⟨rb, 0, none⟩ = some (.pointer (some ⟨fb, 0, none⟩)) := by rw [hT]; exact RU.out
   rw [← hT]
   have HA2 := zh (HAD.out T mT)
   have KT := zh kT; have BT := zh bT; have RT := zh rT
   clear hT hHeld mT bT kT rT HAD
   refine tkp 0 rfl ?_
   refine tkp 1 rfl ?_
   refine tkp 2 rfl ?_
   refine tkp 3 rfl ?_
   refine tkp 4 rfl ?_
   clear hS0
   refine rdy 5 rfl (fun K hK => ?_)
   go_simp
   refine HA2.out.mono ?_
   rintro e u ⟨rfl, ⟨g, A2, c2, hm, hg, hgs, hrd, hab, hc2⟩, hk⟩
   have bu := hk.at_ BT.out (by simp; have := HLT.out; omega)
   have kU : Kp [mb] U u := KT.out.trans hk
   have ru : u.cell? ⟨rb, 0, none⟩ = some (.pointer (some ⟨fb, 0, none⟩)) := (World.cell?_of_block (w := T) (hk.block rb (World.block_lt_of_cell? _ _ RT.out) (by simp; have := LTS.out; omega))).trans RT.out
   have EN := zh (show EntP mb m w (.returned (.pointer (some ⟨fb, 0, none⟩))) u from
    ⟨fb, vb, rb, g, c5, c2, A2, ⟨kn, kd, ks, ka, 1, kco, kA, kc⟩, rfl, hm, kU.at_ FU.out (by simp; have := LTS.out; omega), kU.at_ VU.out (by simp; have := LTS.out; omega), ru,
     Nat.lt_of_lt_of_le SU.out kU.size, hg, hrd, (fun a ha => by have h1 := hab a ha; have h2 := SU.out; have h3 := KT.out.size; omega), hc2, N5.out, Y8.out, G4.out.2.1, by have := LTS.out; omega, by have h2 := SU.out; have h3 := KT.out.size; omega, F4.out,
     (by obtain ⟨a, e1, e2, e3, e4⟩ := CU.out; exact ⟨a, e1, e2, e3, kU.rd e4 (fun a' ha' => by rw [e1] at ha'; cases ha'; simp; exact e2)⟩), TU.out.trans kU⟩)
   have BUU := zh bu
   clear hm hg hgs hrd hab hc2 hk bu kU ru HA2
   go_wp2_with fail
   refine hK.out _ _ ⟨cell_of_row _ _ 0 _ _ _ BUU.out, cell_of_row _ _ 1 _ _ _ BUU.out, cell_of_row _ _ 2 _ _ _ BUU.out⟩ (fun hHeld => ?_)
   clear hK K hHeld
   try simp only [puts]
   refine wpAnyH_done (by kernel_rfl) ?_ _
   go_wp2
   go_ret
   exact EN.out
end Go.Proofs.YtjejmlpjifhmmaaGreatDoor.stp

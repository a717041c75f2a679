/- StpZ -/
import Derived.Test.YtjejmlpjifhmmaaGreatDoorStpL
namespace Go.Proofs.YtjejmlpjifhmmaaGreatDoor.stp
open Go.RowKit Go.MapKept Go.ChangeMaps Go.Shelf
open words kindp opp op kind prg sto find
set_option linter.all false
structure Kb (B : Nat) (S : List Nat) (w w' : World) : Prop where
 os : w'.os = w.os
 tape : w'.tape = w.tape
 output : w'.output = w.output
 size : w.heap.size ≤ w'.heap.size
 block : ∀ k, k < w.heap.size → k < B → k ∉ S → w'.heap[k]? = w.heap[k]?
theorem Kb.of {B : Nat} {S R : List Nat} {w w' : World} (h : Kp R w w') (hr : ∀ k ∈ R, k ∈ S ∨ B ≤ k) : Kb B S w w' :=
 ⟨h.os, h.tape, h.output, h.size, fun k hk hb hn => h.block k hk (fun e => by rcases hr k e with h1 | h1; exact hn h1; omega)⟩
theorem Kb.below {B : Nat} {S : List Nat} {w w' : World} (h : Below w.heap.size w w') : Kb B S w w' := Kb.of (Kp.below (S := S) h) (fun k hk => .inl hk)
theorem Kb.trans {B : Nat} {S : List Nat} {w w1 w2 : World} (h : Kb B S w w1) (k : Kb B S w1 w2) : Kb B S w w2 :=
 ⟨k.os.trans h.os, k.tape.trans h.tape, k.output.trans h.output, Nat.le_trans h.size k.size, fun j hj hb hn => (k.block j (Nat.lt_of_lt_of_le hj h.size) hb hn).trans (h.block j hj hb hn)⟩
theorem Kb.more {B : Nat} {S R : List Nat} {w w' : World} (h : Kb B R w w') (hr : ∀ k ∈ R, k ∈ S) : Kb B S w w' := ⟨h.os, h.tape, h.output, h.size, fun k hk hb hn => h.block k hk hb (fun e => hn (hr k e))⟩
theorem Kb.at_ {B : Nat} {S : List Nat} {w w' : World} {k : Nat} {o : Obj} (h : Kb B S w w') (hk : w.heap[k]? = some o) (hb : k < B) (hn : k ∉ S) : w'.heap[k]? = some o := (h.block k (blk_lt hk) hb hn).trans hk
theorem Kb.rd {B : Nat} {S : List Nat} {w w' : World} {A : Option Addr} {xs : List Value} (h : Kb B S w w') (hr : Rd w A xs) (hn : ∀ a, A = some a → a.block < B ∧ a.block ∉ S) : Rd w' A xs := by
 rcases hr with rfl | ⟨a, rfl, hb, hc⟩
 ·exact .inl rfl
 ·exact .inr ⟨a, rfl, Nat.lt_of_lt_of_le hb h.size, fun j u hu => by
   have e : (a.add j).block = a.block := add_block a j
   exact (World.cell?_of_block (w := w) (by rw [e]; exact h.block a.block hb (hn a rfl).1 (hn a rfl).2)).trans (hc j u hu)⟩
theorem Kb.toBelow {B b : Nat} {S : List Nat} {w w' : World} (h : Kb B S w w') (hb : b ≤ w.heap.size) (hB : b ≤ B) (hs : ∀ k ∈ S, b ≤ k) : Below b w w' :=
 ⟨h.os, h.tape, h.output, h.size, fun k hk => h.block k (by omega) (by omega) (fun e => by have := hs k e; omega)⟩
structure Rn (mb fb vb rb B : Nat) (k : MeM) (m : MS) (f : FS) (vals : Obj) (n : Nat) (evs : List Value) (w : World) : Prop where
 mc : Mk mb m w
 fk : Fk fb f w
 vl : w.heap[vb]? = some vals
 fv : f.vm = vb ∧ f.sz = 1 ∧ f.A = k.A ∧ f.n = 4 ∧ f.an = 1 ∧ f.to = 0
 co : CodeAt mb k vb w
 pk : pM k = pM (soM 0)
 rb_ : w.cell? ⟨rb, 0, none⟩ = some (.pointer (some ⟨fb, 0, none⟩))
 fr : ∃ c, 1 ≤ c ∧ m.fr = .slice (some ⟨rb, 0, none⟩) 1 c
 lt : mb < vb ∧ vb < fb ∧ fb < rb ∧ rb < B ∧ B ≤ w.heap.size
 ev : w.ownsRow B 66 2 m.ev n evs
 inp : ∃ Ai ci, m.inp = .slice Ai 1 ci ∧ 1 ≤ ci ∧ Rd w Ai [.int .i64 7] ∧ ∀ a, Ai = some a → a.block < mb
 er : ∃ A c, m.er = .slice A 1 c ∧ 1 ≤ c ∧ Rd w A [.string ⟨#[65]⟩, .string ⟨#[109]⟩, .string ⟨#[40, 41, 73]⟩] ∧ ∀ a, A = some a → rb < a.block ∧ a.block < B
 br : ∃ A c, m.br = .slice A 1 c ∧ 1 ≤ c ∧ Rd w A [.string ⟨#[65]⟩] ∧ ∀ a, A = some a → rb < a.block ∧ a.block < B
theorem Rn.step {mb fb vb rb B : Nat} {k : MeM} {m m' : MS} {f f' : FS} {vals vals' : Obj} {n n' : Nat} {evs evs' : List Value} {w w' : World} (h : Rn mb fb vb rb B k m f vals n evs w) (hk : Kb B [mb, vb, fb] w w')
  (hm : Mk mb m' w') (hf : Fk fb f' w') (hv : w'.heap[vb]? = some vals') (he : w'.ownsRow B 66 2 m'.ev n' evs')
  (h1 : m'.fr = m.fr ∧ m'.inp = m.inp ∧ m'.er = m.er ∧ m'.br = m.br) (h2 : f'.vm = f.vm ∧ f'.sz = f.sz ∧ f'.A = f.A ∧ f'.n = f.n ∧ f'.an = f.an ∧ f'.to = f.to) : Rn mb fb vb rb B k m' f' vals' n' evs' w' := by
 obtain ⟨l1, l2, l3, l4, l5⟩ := h.lt
 refine ⟨hm, hf, hv, ?_, ?_, h.pk, ?_, ?_, ⟨l1, l2, l3, l4, Nat.le_trans l5 hk.size⟩, he, ?_, ?_, ?_⟩
 ·obtain ⟨a, b, c, d, e, g⟩ := h.fv
  exact ⟨h2.1.trans a, h2.2.1.trans b, h2.2.2.1.trans c, h2.2.2.2.1.trans d, h2.2.2.2.2.1.trans e, h2.2.2.2.2.2.trans g⟩
 ·obtain ⟨a, e1, e2, e3, e4⟩ := h.co
  exact ⟨a, e1, e2, e3, hk.rd e4 (fun a' ha' => by rw [e1] at ha'; cases ha'; exact ⟨by omega, by simp; omega⟩)⟩
 ·exact (World.cell?_of_block (w := w) (hk.block rb (World.block_lt_of_cell? _ _ h.rb_) l4 (by simp; omega))).trans h.rb_
 ·rw [h1.1]; exact h.fr
 ·rw [h1.2.1]; obtain ⟨A, c, e, e1, e2, e3⟩ := h.inp
  exact ⟨A, c, e, e1, hk.rd e2 (fun a ha => by have := e3 a ha; exact ⟨by omega, by simp; omega⟩), e3⟩
 ·rw [h1.2.2.1]; obtain ⟨A, c, e, e1, e2, e3⟩ := h.er
  exact ⟨A, c, e, e1, hk.rd e2 (fun a ha => by have := e3 a ha; exact ⟨by omega, by simp; omega⟩), e3⟩
 ·rw [h1.2.2.2]; obtain ⟨A, c, e, e1, e2, e3⟩ := h.br
  exact ⟨A, c, e, e1, hk.rd e2 (fun a ha => by have := e3 a ha; exact ⟨by omega, by simp; omega⟩), e3⟩
section
variable {mb fb vb rb B : Nat} {k : MeM} {m : MS} {f : FS} {vals : Obj} {n : Nat} {evs : List Value} {w w' : World}
theorem Rn.below (h : Rn mb fb vb rb B k m f vals n evs w) (hb : Below w.heap.size w w') : Rn mb fb vb rb B k m f vals n evs w' :=
 h.step (Kb.below hb) (h.mc.below hb) ((hb.block _ (blk_lt h.fk)).trans h.fk) ((hb.block _ (blk_lt h.vl)).trans h.vl) (own_below h.ev hb) ⟨rfl, rfl, rfl, rfl⟩ ⟨rfl, rfl, rfl, rfl, rfl, rfl⟩
theorem Rn.drew (h : Rn mb fb vb rb B k m f vals n evs w) : Rn mb fb vb rb B k m f vals n evs w.drew := h.below (overW (Below.refl _ _))
theorem Rn.drewN {q : Nat} (h : Rn mb fb vb rb B k m f vals n evs w) : Rn mb fb vb rb B k m f vals n evs (w.drewN q) := h.below (over (Below.refl _ _))
theorem Rn.mach {m' : MS} (h : Rn mb fb vb rb B k m f vals n evs w) (hk : Kp [mb] w w') (hm : Mk mb m' w') (h1 : m'.fr = m.fr ∧ m'.inp = m.inp ∧ m'.er = m.er ∧ m'.br = m.br) (h2 : m'.ev = m.ev) : Rn mb fb vb rb B k m' f vals n evs w' := by
 obtain ⟨l1, l2, l3, l4, l5⟩ := h.lt
 refine h.step (Kb.of hk (fun j hj => by simp at hj; simp [hj])) hm (h.fk.kept hk (by simp; omega)) (hk.at_ h.vl (by simp; omega)) ?_ h1 ⟨rfl, rfl, rfl, rfl, rfl, rfl⟩
 rw [h2]
 refine ⟨h.ev.1, ?_⟩
 rcases h.ev.2 with h0 | ⟨q, cap, cur, e, hbg, hq, rest⟩
 ·exact .inl h0
 ·exact .inr ⟨q, cap, cur, e, hbg, hk.at_ hq (by simp; omega), rest⟩
theorem Rn.frame {f' : FS} (h : Rn mb fb vb rb B k m f vals n evs w) (hk : Kp [fb] w w') (hf : Fk fb f' w') (h2 : f'.vm = f.vm ∧ f'.sz = f.sz ∧ f'.A = f.A ∧ f'.n = f.n ∧ f'.an = f.an ∧ f'.to = f.to) : Rn mb fb vb rb B k m f' vals n evs w' := by
 obtain ⟨l1, l2, l3, l4, l5⟩ := h.lt
 refine h.step (Kb.of hk (fun j hj => by simp at hj; simp [hj])) (h.mc.kept hk (by simp; omega)) hf (hk.at_ h.vl (by simp; omega)) ?_ ⟨rfl, rfl, rfl, rfl⟩ h2
 refine ⟨h.ev.1, ?_⟩
 rcases h.ev.2 with h0 | ⟨q, cap, cur, e, hbg, hq, rest⟩
 ·exact .inl h0
 ·exact .inr ⟨q, cap, cur, e, hbg, hk.at_ hq (by simp; omega), rest⟩
theorem Rn.regs {vals' : Obj} (h : Rn mb fb vb rb B k m f vals n evs w) (hk : Kp [vb] w w') (hv : w'.heap[vb]? = some vals') : Rn mb fb vb rb B k m f vals' n evs w' := by
 obtain ⟨l1, l2, l3, l4, l5⟩ := h.lt
 refine h.step (Kb.of hk (fun j hj => by simp at hj; simp [hj])) (h.mc.kept hk (by simp; omega)) (h.fk.kept hk (by simp; omega)) hv ?_ ⟨rfl, rfl, rfl, rfl⟩ ⟨rfl, rfl, rfl, rfl, rfl, rfl⟩
 refine ⟨h.ev.1, ?_⟩
 rcases h.ev.2 with h0 | ⟨q, cap, cur, e, hbg, hq, rest⟩
 ·exact .inl h0
 ·exact .inr ⟨q, cap, cur, e, hbg, hk.at_ hq (by simp; omega), rest⟩
end
end Go.Proofs.YtjejmlpjifhmmaaGreatDoor.stp
namespace Go.Proofs.YtjejmlpjifhmmaaGreatDoor.stp
open Go.RowKit Go.MapKept Go.ChangeMaps Go.Shelf
open words kindp opp op kind prg sto find
set_option maxRecDepth 100000
set_option maxHeartbeats 8000000
set_option linter.all false
theorem own_lt {w : World} {B z n : Nat} {t : TypeId} {v : Value} {xs : List Value} (h : w.ownsRow B t z v n xs) : ∀ q, v.ownBlock = some q → q < w.heap.size := by
 intro q hq
 rcases h.2 with ⟨rfl, -⟩ | ⟨q', cap, cur, rfl, hbg, hq', rest⟩
 ·cases hq
 ·cases hq; exact blk_lt hq'
theorem take_w {mb fb vb rb B : Nat} {k : MeM} {m : MS} {f : FS} {vals : Obj} {n : Nat} {evs : List Value} {w : World} (h : Rn mb fb vb rb B k m f vals n evs w) (ht : m.tk = 0) (hn : n ≤ 100) :
 Calls Tryz.prog 190 #[.pointer (some ⟨mb, 0, none⟩)] w fun e w' => e = .returned (.int .i64 7) ∧ (∃ v, Rn mb fb vb rb B k { m with tk := 1, ev := v } f vals (n + 1) (evs ++ [.bool true, .int .i64 7]) w' ∧ ∀ q, v.ownBlock = some q → m.ev.ownBlock = some q ∨ w.heap.size ≤ q) ∧ Kb B [mb, vb, fb] w w' ∧ Kp (mb :: m.ev.ownBlock.toList) w w' := by
 obtain ⟨i0, hi0, hz0, hz1, hz2⟩ := info_parts info_ev
 obtain ⟨Ai, ci, ei, hci, hri, hlt⟩ := h.inp
 obtain ⟨a, ea, hab, hac⟩ := hri.at_ (j := 0) rfl
 cases ea
 have ha0 : a.add 0 = a := by simp [Addr.add]
 rw [ha0] at hac
 have c8 : w.cell? ⟨mb, 8, none⟩ = some (.slice (some a) 1 ci) := by rw [← ei]; exact cell_of_row _ _ 8 _ _ _ h.mc
 have c9 : w.cell? ⟨mb, 9, none⟩ = some (.int .i64 0) := by rw [← ht]; exact cell_of_row _ _ 9 _ _ _ h.mc
 obtain ⟨l1, l2, l3, l4, l5⟩ := h.lt
 have HOL := zh (own_lt h.ev)
 obtain ⟨Ae, ce, ee, hne, -, -⟩ := own_rd h.ev
 have c27 : w.cell? ⟨mb, 27, none⟩ = some (.slice Ae n ce) := by rw [← ee]; exact cell_of_row _ _ 27 _ _ _ h.mc
 have f9 := frozen_of_row _ _ 9 _ _ h.mc
 have f27 := frozen_of_row _ _ 27 _ _ h.mc
 have hU : ∀ q, Rn mb fb vb rb B k { m with tk := 1 } f vals n evs ((w.drewN q).setCell ⟨mb, 9, none⟩ (.int .i64 1)) := fun q => (h.drewN (q := q)).mach ((Kp.refl _ _).set (by simp) _) (by unfold Mk; rw [heap_setCell_same _ _ _ _ _ _ (h.drewN (q := q)).mc]; rfl) ⟨rfl, rfl, rfl, rfl⟩ rfl
 have xl : ∀ q, Below ((w.drewN q).setCell ⟨mb, 9, none⟩ (.int .i64 1)).heap.size ((w.drewN q).setCell ⟨mb, 9, none⟩ (.int .i64 1)) (((w.drewN q).setCell ⟨mb, 9, none⟩ (.int .i64 1)).alloc (.cells #[.bool true, .int .i64 7] 66)) := fun q => (Below.refl _ _).alloc (Nat.le_refl _) _
 have HX := zh (fun q => (hU q).below (xl q))
 have HKX := zh (show ∀ q, Kp [mb] w (((w.drewN q).setCell ⟨mb, 9, none⟩ (.int .i64 1)).alloc (.cells #[.bool true, .int .i64 7] 66)) from fun q => (((Kp.refl _ w).drewN).set (by simp) _).trans (Kp.below (xl q)))
 have HOW := zh (show ∀ q, (((w.drewN q).setCell ⟨mb, 9, none⟩ (.int .i64 1)).alloc (.cells #[.bool true, .int .i64 7] 66)).ownsRow B 66 2 (.slice Ae n ce) n evs from fun q => by rw [← ee]; exact (HX.out q).ev)
 have HRD := zh (show ∀ q, Rd (((w.drewN q).setCell ⟨mb, 9, none⟩ (.int .i64 1)).alloc (.cells #[.bool true, .int .i64 7] 66)) (some ⟨w.heap.size, 0, none⟩) [.bool true, .int .i64 7] from fun q => by
  have := heap_alloc_new ((w.drewN q).setCell ⟨mb, 9, none⟩ (.int .i64 1)) (.cells #[.bool true, .int .i64 7] 66)
  have hz : ((w.drewN q).setCell ⟨mb, 9, none⟩ (.int .i64 1)).heap.size = w.heap.size := by simp
  rw [hz] at this
  exact rd_blk this (k := 2) rfl)
 have HBS := zh (show ∀ q, B ≤ (((w.drewN q).setCell ⟨mb, 9, none⟩ (.int .i64 1)).alloc (.cells #[.bool true, .int .i64 7] 66)).heap.size from fun q => by simp; omega)
 have HLT := zh (show mb < B ∧ B ≤ w.heap.size from ⟨by omega, l5⟩)
 clear hU xl
 have HEE := zh ee
 clear h ht ei hci hri hlt hab ha0 ee hne l1 l2 l3 l4 l5
 go_enter Tryz.func190, Tryz.ntmps190
 go_wp2_with fail
 go_quiet (fail)
 go_wp2_with fail
 rename Nat => q1
 go_quiet (fail)
 rename Nat => q2
 go_wp2_with (at_builtin; refine wpList_app _ rfl (.tmp 35) (.tmp 38) _ rfl B 66 i0 _ 2 16 Tryz.underlying43 hi0 hz0 hz1 hz2 rfl (by omega) _ n evs rfl (HOW.out (q1 + q2)) (some ⟨w.heap.size, 0, none⟩) 1 1 [.bool true, .int .i64 7] rfl rfl (HRD.out (q1 + q2)) (by intro u hu; simp at hu; rcases hu with rfl | rfl <;> rfl) (by simp only [maxLen]; omega) (by omega) (HBS.out (q1 + q2)) ?_; intro v5 w5 hown5 hg5 hb5 hat5; obtain ⟨A5, d5, rfl, hd5, -, -⟩ := own_rd hown5; have HO5 := zh hown5; have HB5 := zh hb5; have HG5 := zh hg5; have HT5 := zh hat5; clear hown5 hg5 hb5 hat5 hd5; have HM5 := zh ((HB5.out.block mb HLT.out.1).trans (HX.out (q1 + q2)).mc); have y27 : w5.cell? ⟨mb, 27, none⟩ = some (.slice Ae n ce) := (by rw [← HEE.out]; exact cell_of_row _ _ 27 _ _ _ HM5.out); have g27 := frozen_of_row _ _ 27 _ _ HM5.out)
 obtain ⟨U, hU⟩ : ∃ U, U = w5.setCell ⟨mb, 27, none⟩ (.slice A5 (n + 1) d5) := ⟨_, rfl⟩
 have mU : Mk mb { m with tk := 1, ev := .slice A5 (n + 1) d5 } U := by unfold Mk; rw [hU, heap_setCell_same _ _ _ _ _ _ HM5.out]; rfl
 have hX1 := HX.out (q1 + q2)
 have kb : Kb B [mb] (((w.drewN (q1 + q2)).setCell ⟨mb, 9, none⟩ (.int .i64 1)).alloc (.cells #[.bool true, .int .i64 7] 66)) U := (⟨HB5.out.os, HB5.out.tape, HB5.out.output, HB5.out.size, fun k _ hkB _ => HB5.out.block k hkB⟩ : Kb B [mb] (((w.drewN (q1 + q2)).setCell ⟨mb, 9, none⟩ (.int .i64 1)).alloc (.cells #[.bool true, .int .i64 7] 66)) w5).trans (Kb.of (R := [mb]) (by rw [hU]; exact (Kp.refl _ _).set (by simp) _) (fun j hj => by simp at hj; simp [hj]))
 have kc : Kb B [mb, vb, fb] (((w.drewN (q1 + q2)).setCell ⟨mb, 9, none⟩ (.int .i64 1)).alloc (.cells #[.bool true, .int .i64 7] 66)) U := kb.more (by simp)
 have kU : Kp [mb] w5 U := by rw [hU]; exact (Kp.refl _ _).set (by simp) _
 obtain ⟨l1, l2, l3, l4, l5⟩ := hX1.lt
 have oU : U.ownsRow B 66 2 (.slice A5 (n + 1) d5) (n + 1) (evs ++ [.bool true, .int .i64 7]) := by
  refine ⟨HO5.out.1, ?_⟩
  rcases HO5.out.2 with h0 | ⟨q, cap, cur, e, hbg, hq, rest⟩
  ·exact .inl h0
  ·exact .inr ⟨q, cap, cur, e, hbg, kU.at_ hq (by simp; omega), rest⟩
 have EN := zh (show (∃ v, Rn mb fb vb rb B k { m with tk := 1, ev := v } f vals (n + 1) (evs ++ [.bool true, .int .i64 7]) U ∧ ∀ q, v.ownBlock = some q → m.ev.ownBlock = some q ∨ w.heap.size ≤ q) ∧ Kb B [mb, vb, fb] w U ∧ Kp (mb :: m.ev.ownBlock.toList) w U from
  ⟨⟨_, hX1.step (m' := { m with tk := 1, ev := .slice A5 (n + 1) d5 }) (f' := f) kc mU (kb.at_ hX1.fk (by omega) (by simp; omega)) (kb.at_ hX1.vl (by omega) (by simp; omega)) oU ⟨rfl, rfl, rfl, rfl⟩ ⟨rfl, rfl, rfl, rfl, rfl, rfl⟩, fun q hq => by
   rcases HT5.out with e | e
   ·left; rw [← hq, e, HEE.out]; rfl
   ·right; rw [hq] at e; cases e; simp⟩, (Kb.of (HKX.out (q1 + q2)) (fun j hj => by simp at hj; simp [hj])).trans kc, ((HKX.out (q1 + q2)).more (fun j hj _ => by simp at hj; simp [hj])).trans (Kp.trans (w1 := w5) (Kp.of HG5.out (fun b hb _ => by have hb2 : (Value.slice Ae n ce).ownBlock = some b := hb; rw [HEE.out, hb2]; simp)) (kU.more (fun j hj _ => by simp at hj; simp [hj])))⟩)
 rw [← hU]
 clear mU hX1 kb kc kU l1 l2 l3 l4 l5 oU y27 g27 hU
 go_ret
 exact ⟨rfl, EN.out⟩
end Go.Proofs.YtjejmlpjifhmmaaGreatDoor.stp
namespace Go.Proofs.YtjejmlpjifhmmaaGreatDoor.stp
open Go.RowKit Go.MapKept Go.ChangeMaps Go.Shelf
open words kindp opp op kind prg sto find
set_option maxRecDepth 100000
set_option maxHeartbeats 8000000
set_option linter.all false
theorem ahead_w (pm pf : Value) (o k : Int) (A : Option Addr) (c : Nat) (w : World) (ho : o = 26 ∨ o = 27 ∨ o = 2 ∨ o = 22) :
 Calls Tryz.prog 76 #[pm, pf, .agg #[.int .i64 o, .int .i64 0, .int .i64 0, .int .i64 0, .int .i64 k, .string ⟨#[]⟩, .string ⟨#[]⟩, .string ⟨#[]⟩, .slice A 0 c]] w fun e w' => e = .returned (.tuple #[.string ⟨#[]⟩, .bool false]) ∧ Below w.heap.size w w' := by
 obtain ⟨W, hW⟩ : ∃ W, W = w.alloc (.cells #[.int .i64 o, .int .i64 0, .int .i64 0, .int .i64 0, .int .i64 k, .string ⟨#[]⟩, .string ⟨#[]⟩, .string ⟨#[]⟩, .slice A 0 c] 153) := ⟨_, rfl⟩
 have HAL := zh (show Below w.heap.size w W from by rw [hW]; exact (Below.refl _ _).alloc (Nat.le_refl _) _)
 have c0 : W.cell? ⟨w.heap.size, 0, none⟩ = some (.int .i64 o) := by rw [hW]; exact cell_of_row _ _ 0 _ _ _ (heap_alloc_new _ _)
 have HW := zh hW
 clear hW
 rcases ho with rfl | rfl | rfl | rfl
 all_goals
  go_enter Tryz.func76, Tryz.ntmps76
  go_wp2_with fail
  rw [← HW.out]
  (try go_wp2_with fail)
  exact bodyPost_ret (v := .tuple #[.string ⟨#[]⟩, .bool false]) (by simp [results, Tryz.results76, go_sem]) rfl ⟨rfl, HAL.out⟩
theorem Rn.off {mb fb vb rb B : Nat} {k : MeM} {m : MS} {f : FS} {vals : Obj} {n : Nat} {evs : List Value} {w w' : World} (h : Rn mb fb vb rb B k m f vals n evs w) {b : Nat} (hk : Kp [b] w w') (hb : B ≤ b) (ho : m.ev.ownBlock ≠ some b) : Rn mb fb vb rb B k m f vals n evs w' := by
 obtain ⟨l1, l2, l3, l4, l5⟩ := h.lt
 refine h.step (Kb.of hk (fun j hj => by simp at hj; omega)) (h.mc.kept hk (by simp; omega)) (hk.at_ h.fk (by simp; omega)) (hk.at_ h.vl (by simp; omega)) ?_ ⟨rfl, rfl, rfl, rfl⟩ ⟨rfl, rfl, rfl, rfl, rfl, rfl⟩
 refine ⟨h.ev.1, ?_⟩
 rcases h.ev.2 with h0 | ⟨q, cap, cur, e, hbg, hq, rest⟩
 ·exact .inl h0
 ·refine .inr ⟨q, cap, cur, e, hbg, hk.at_ hq (fun hj => ho ?_), rest⟩
  simp at hj; rw [e, ← hj]; rfl
theorem set2 {w : World} {b : Nat} {t : TypeId} {z0 z1 : Value} (h : w.heap[b]? = some (.cells #[z0, z1] t (0, 0))) (v0 v1 : Value) :
 ((w.setCell ⟨b, 0, none⟩ v0).setCell ⟨b, 1, none⟩ v1).heap[b]? = some (.cells #[v0, v1] t (0, 0)) := by
 have z0 := heap_setCell_same _ _ 0 _ _ v0 h
 have z1 := heap_setCell_same _ _ 1 _ _ v1 z0
 rw [z1]; rfl
theorem value_in {mb fb vb rb B : Nat} {k : MeM} {m : MS} {f : FS} {vals : Obj} {n : Nat} {evs : List Value} (A : Option Addr) (c : Nat) (pf : Value) (w : World) (h : Rn mb fb vb rb B k m f vals n evs w) (ht : m.tk = 0) (hn : n ≤ 100) :
 Calls Tryz.prog 137 #[.pointer (some ⟨mb, 0, none⟩), pf, .agg #[.int .i64 26, .int .i64 0, .int .i64 0, .int .i64 0, .int .i64 0, .string ⟨#[]⟩, .string ⟨#[]⟩, .string ⟨#[]⟩, .slice A 0 c]] w fun e w' => e = .returned (.agg #[.int .i64 1, .int .i64 7]) ∧ (∃ v, Rn mb fb vb rb B k { m with tk := 1, ev := v } f vals (n + 1) (evs ++ [.bool true, .int .i64 7]) w') ∧ Kb B [mb, vb, fb] w w' := by
 obtain ⟨W, hW⟩ : ∃ W, W = (w.alloc (.cells #[.int .i64 26, .int .i64 0, .int .i64 0, .int .i64 0, .int .i64 0, .string ⟨#[]⟩, .string ⟨#[]⟩, .string ⟨#[]⟩, .slice A 0 c] 153)).alloc (.cells #[.int .i64 0, .int .i64 0] 132) := ⟨_, rfl⟩
 have hal : Below w.heap.size w W := by rw [hW]; exact ((Below.refl _ _).alloc (Nat.le_refl _) _).alloc (by simp) _
 have HR := zh (h.below hal)
 have HK := zh (Kb.below (B := B) (S := [mb, vb, fb]) hal)
 have HI := zh (show W.heap[w.heap.size]? = some (.cells #[.int .i64 26, .int .i64 0, .int .i64 0, .int .i64 0, .int .i64 0, .string ⟨#[]⟩, .string ⟨#[]⟩, .string ⟨#[]⟩, .slice A 0 c] 153 (0, 0)) from by rw [hW]; exact (heap_alloc_old _ _ (by simp)).trans (heap_alloc_new _ _))
 have HV := zh (show W.heap[w.heap.size + 1]? = some (.cells #[.int .i64 0, .int .i64 0] 132 (0, 0)) from by rw [hW]; have := heap_alloc_new (w.alloc (.cells #[.int .i64 26, .int .i64 0, .int .i64 0, .int .i64 0, .int .i64 0, .string ⟨#[]⟩, .string ⟨#[]⟩, .string ⟨#[]⟩, .slice A 0 c] 153)) (.cells #[.int .i64 0, .int .i64 0] 132); simpa using this)
 have c0 : W.cell? ⟨w.heap.size, 0, none⟩ = some (.int .i64 26) := cell_of_row _ _ 0 _ _ _ HI.out
 have HO := zh (show ∀ q, q ∈ mb :: m.ev.ownBlock.toList → q < w.heap.size from fun q hq => by
  rcases List.mem_cons.1 hq with rfl | hq
  ·exact blk_lt h.mc
  ·exact own_lt h.ev q (by simpa using hq))
 have HW := zh hW
 have HB := zh (show B ≤ w.heap.size from h.lt.2.2.2.2)
 clear hW hal h
 go_enter Tryz.func137, Tryz.ntmps137
 go_wp2_with fail
 rw [← HW.out]
 (try go_wp2_with fail)
 refine (take_w HR.out ht hn).mono ?_
 rintro e v ⟨rfl, hR, kb, kp⟩
 have VI := zh (kp.at_ HV.out (fun hq => by have := HO.out _ hq; omega))
 obtain ⟨x, hx, hq⟩ := hR
 have HQ := zh (show x.ownBlock ≠ some (w.heap.size + 1) from fun e => by
  rcases hq _ e with e1 | e1
  ·have := HO.out (w.heap.size + 1) (by rw [e1]; simp); omega
  ·have := blk_lt HV.out; omega)
 have BL := zh (show B ≤ w.heap.size from HB.out)
 have EN := zh hx; have EK := zh (HK.out.trans kb)
 clear hx hq kb kp
 go_wp2_with fail
 refine (number_w 7 v).mono ?_
 rintro e u ⟨rfl, hb⟩
 have UV := zh ((hb.block _ (blk_lt VI.out)).trans VI.out)
 have HX := zh (EN.out.below hb)
 have HY := zh (EK.out.trans (Kb.below (B := B) (S := [mb, vb, fb]) hb))
 have c1 : u.cell? ⟨w.heap.size + 1, 0, none⟩ = some (.int .i64 0) := cell_of_row _ _ 0 _ _ _ UV.out
 have c2 : u.cell? ⟨w.heap.size + 1, 1, none⟩ = some (.int .i64 0) := cell_of_row _ _ 1 _ _ _ UV.out
 have g1 := frozen_of_row _ _ 0 _ _ UV.out
 have g2 := frozen_of_row _ _ 1 _ _ UV.out
 clear hb
 go_wp2_with fail
 obtain ⟨U, hU⟩ : ∃ U, U = (u.setCell ⟨w.heap.size + 1, 0, none⟩ (.int .i64 1)).setCell ⟨w.heap.size + 1, 1, none⟩ (.int .i64 7) := ⟨_, rfl⟩
 have kU : Kp [w.heap.size + 1] u U := by rw [hU]; exact ((Kp.refl _ _).set (by simp) _).set (by simp) _
 have nU : U.heap[w.heap.size + 1]? = some (.cells #[.int .i64 1, .int .i64 7] 132 (0, 0)) := by rw [hU]; exact set2 UV.out _ _
 have d1 : U.cell? ⟨w.heap.size + 1, 0, none⟩ = some (.int .i64 1) := cell_of_row _ _ 0 _ _ _ nU
 have d2 : U.cell? ⟨w.heap.size + 1, 1, none⟩ = some (.int .i64 7) := cell_of_row _ _ 1 _ _ _ nU
 have bl := BL.out
 have EN := zh (show (∃ v, Rn mb fb vb rb B k { m with tk := 1, ev := v } f vals (n + 1) (evs ++ [.bool true, .int .i64 7]) U) ∧ Kb B [mb, vb, fb] w U from ⟨⟨x, HX.out.off kU (by omega) HQ.out⟩, HY.out.trans (Kb.of kU (fun j hj => by simp at hj; omega))⟩)
 rw [← hU]
 clear hU kU nU
 exact bodyPost_ret (v := .agg #[.int .i64 1, .int .i64 7]) (by simp [results, Tryz.results137, go_sem, d1, d2]) rfl ⟨rfl, EN.out⟩
theorem value_const (A : Option Addr) (c : Nat) (pm pf : Value) (w : World) :
 Calls Tryz.prog 137 #[pm, pf, .agg #[.int .i64 2, .int .i64 0, .int .i64 0, .int .i64 0, .int .i64 2, .string ⟨#[]⟩, .string ⟨#[]⟩, .string ⟨#[]⟩, .slice A 0 c]] w fun e w' => e = .returned (.agg #[.int .i64 1, .int .i64 2]) ∧ Below w.heap.size w w' := by
 obtain ⟨W, hW⟩ : ∃ W, W = (w.alloc (.cells #[.int .i64 2, .int .i64 0, .int .i64 0, .int .i64 0, .int .i64 2, .string ⟨#[]⟩, .string ⟨#[]⟩, .string ⟨#[]⟩, .slice A 0 c] 153)).alloc (.cells #[.int .i64 0, .int .i64 0] 132) := ⟨_, rfl⟩
 have hal : Below w.heap.size w W := by rw [hW]; exact ((Below.refl _ _).alloc (Nat.le_refl _) _).alloc (by simp) _
 have HI := zh (show W.heap[w.heap.size]? = some (.cells #[.int .i64 2, .int .i64 0, .int .i64 0, .int .i64 0, .int .i64 2, .string ⟨#[]⟩, .string ⟨#[]⟩, .string ⟨#[]⟩, .slice A 0 c] 153 (0, 0)) from by rw [hW]; exact (heap_alloc_old _ _ (by simp)).trans (heap_alloc_new _ _))
 have HV := zh (show W.heap[w.heap.size + 1]? = some (.cells #[.int .i64 0, .int .i64 0] 132 (0, 0)) from by rw [hW]; have := heap_alloc_new (w.alloc (.cells #[.int .i64 2, .int .i64 0, .int .i64 0, .int .i64 0, .int .i64 2, .string ⟨#[]⟩, .string ⟨#[]⟩, .string ⟨#[]⟩, .slice A 0 c] 153)) (.cells #[.int .i64 0, .int .i64 0] 132); simpa using this)
 have c0 : W.cell? ⟨w.heap.size, 0, none⟩ = some (.int .i64 2) := cell_of_row _ _ 0 _ _ _ HI.out
 have c4 : W.cell? ⟨w.heap.size, 4, none⟩ = some (.int .i64 2) := cell_of_row _ _ 4 _ _ _ HI.out
 have HA := zh hal
 have HW := zh hW
 clear hW hal
 go_enter Tryz.func137, Tryz.ntmps137
 go_wp2_with fail
 rw [← HW.out]
 (try go_wp2_with fail)
 refine (number_w 2 W).mono ?_
 rintro e u ⟨rfl, hb⟩
 have UV := zh ((hb.block _ (blk_lt HV.out)).trans HV.out)
 have HY := zh (then' HA.out hb)
 have c1 : u.cell? ⟨w.heap.size + 1, 0, none⟩ = some (.int .i64 0) := cell_of_row _ _ 0 _ _ _ UV.out
 have c2 : u.cell? ⟨w.heap.size + 1, 1, none⟩ = some (.int .i64 0) := cell_of_row _ _ 1 _ _ _ UV.out
 have g1 := frozen_of_row _ _ 0 _ _ UV.out
 have g2 := frozen_of_row _ _ 1 _ _ UV.out
 clear hb
 go_wp2_with fail
 obtain ⟨U, hU⟩ : ∃ U, U = (u.setCell ⟨w.heap.size + 1, 0, none⟩ (.int .i64 1)).setCell ⟨w.heap.size + 1, 1, none⟩ (.int .i64 2) := ⟨_, rfl⟩
 have kU : Kp [w.heap.size + 1] u U := by rw [hU]; exact ((Kp.refl _ _).set (by simp) _).set (by simp) _
 have nU : U.heap[w.heap.size + 1]? = some (.cells #[.int .i64 1, .int .i64 2] 132 (0, 0)) := by rw [hU]; exact set2 UV.out _ _
 have d1 : U.cell? ⟨w.heap.size + 1, 0, none⟩ = some (.int .i64 1) := cell_of_row _ _ 0 _ _ _ nU
 have d2 : U.cell? ⟨w.heap.size + 1, 1, none⟩ = some (.int .i64 2) := cell_of_row _ _ 1 _ _ _ nU
 have EN := zh (show Below w.heap.size w U from HY.out.trans (kU.toBelow HY.out.size (by simp)))
 rw [← hU]
 clear hU kU nU
 exact bodyPost_ret (v := .agg #[.int .i64 1, .int .i64 2]) (by simp [results, Tryz.results137, go_sem, d1, d2]) rfl ⟨rfl, EN.out⟩
end Go.Proofs.YtjejmlpjifhmmaaGreatDoor.stp
namespace Go.Proofs.YtjejmlpjifhmmaaGreatDoor.stp
open Go.RowKit Go.MapKept Go.ChangeMaps Go.Shelf
open words kindp opp op kind prg sto find
set_option maxRecDepth 100000
set_option maxHeartbeats 8000000
set_option linter.all false
theorem leave_w {mb fb vb rb B : Nat} {k : MeM} {m : MS} {f : FS} {vals : Obj} {n : Nat} {evs : List Value} (n2 : Int) (w : World) (h : Rn mb fb vb rb B k m f vals n evs w) :
 Calls Tryz.prog 133 #[.pointer (some ⟨mb, 0, none⟩), .agg #[.int .i64 1, .int .i64 n2]] w fun e w' => e = .returned (.tuple #[]) ∧ (∃ A c, Mk mb { m with st := 1, cd := n2, fr := .slice A 0 c } w') ∧ Kp [mb] w w' := by
 obtain ⟨c, hc1, hfr⟩ := h.fr
 obtain ⟨A', -, hcut0⟩ := run_cut_h Tryz.underlying80 (by kernel_rfl) (by intro w; kernel_rfl) (some ⟨rb, 0, none⟩) 1 c 0 (by omega)
 have hcut : ∀ v : World, (Instr.sliceAt 80 (.slice (some ⟨rb, 0, none⟩) 1 c) none (some (.int .i64 0)) none).run Tryz.prog v = .ok (.slice A' 0 c) v := hcut0
 obtain ⟨W, hW⟩ : ∃ W, W = w.alloc (.cells #[.int .i64 1, .int .i64 n2] 132) := ⟨_, rfl⟩
 have hal : Below w.heap.size w W := by rw [hW]; exact (Below.refl _ _).alloc (Nat.le_refl _) _
 have hbx : W.heap[w.heap.size]? = some (.cells #[.int .i64 1, .int .i64 n2] 132 (0, 0)) := by rw [hW]; exact heap_alloc_new _ _
 have hR := h.below hal
 have HL := zh (fun q => last_w mb rb fb m c (W.drewN q) (hR.drewN (q := q)).mc hfr (hR.drewN (q := q)).rb_)
 have HMU := zh (fun v => must_t v)
 have HBX := zh hbx; have HR := zh hR; have HK := zh (Kp.below (S := [mb]) hal); have HB := zh (blk_lt h.mc)
 have c15 : W.cell? ⟨mb, 15, none⟩ = some (.slice (some ⟨rb, 0, none⟩) 1 c) := by rw [← hfr]; exact cell_of_row _ _ 15 _ _ _ hR.mc
 have f7 : W.cell? ⟨fb, 7, none⟩ = some (.int .i64 1) := by rw [← h.fv.2.2.2.2.1]; exact cell_of_row _ _ 7 _ _ _ hR.fk
 have b0 : W.cell? ⟨w.heap.size, 0, none⟩ = some (.int .i64 1) := cell_of_row _ _ 0 _ _ _ hbx
 have HW := zh hW; have HFR := zh hfr; have HCUT := zh hcut
 clear hW hal hbx hR h hc1 hfr hcut hcut0
 go_enter Tryz.func133, Tryz.ntmps133
 go_wp2_with fail
 rw [← HW.out]
 (try go_wp2_with fail)
 go_quiet ((go_at_call 35; exact Calls.quiet_of (HL.out _)))
 rename Nat => q1
 go_wp2_with fail
 go_quiet ((go_at_call 72; exact (HMU.out _).mono (fun _ _ hh => ⟨hh.1, _, hh.2⟩)))
 rename Nat => q2
 go_wp2_with fail
 refine (HMU.out _).mono ?_
 rintro e v ⟨rfl, hv⟩
 have VR := zh (show Rn mb fb vb rb B k m f vals n evs v from by rw [hv]; exact HR.out.drewN)
 have VB := zh (show v.heap[w.heap.size]? = some (.cells #[.int .i64 1, .int .i64 n2] 132 (0, 0)) from by rw [hv]; exact HBX.out)
 have VK := zh (show Kp [mb] w v from by rw [hv]; exact HK.out.drewN)
 clear hv c15 f7 b0 HL HBX HR HK HW
 have b1 : v.cell? ⟨w.heap.size, 1, none⟩ = some (.int .i64 n2) := cell_of_row _ _ 1 _ _ _ VB.out
 go_wp2_with fail
 refine wp_region_held_drew (S := fun w' : World => w'.cell? ⟨w.heap.size, 1, none⟩ = some (.int .i64 n2)) (by kernel_rfl) ?_ (fun hHeld => ?_)
 ·exact b1
 obtain ⟨D, hD⟩ : ∃ u, u = v.drew := ⟨_, rfl⟩
 have DR := zh (show Rn mb fb vb rb B k m f vals n evs D from by rw [hD]; exact VR.out.drew)
 have DB := zh (show D.heap[w.heap.size]? = some (.cells #[.int .i64 1, .int .i64 n2] 132 (0, 0)) from by rw [hD]; exact VB.out)
 have DK := zh (show Kp [mb] w D from by rw [hD]; exact VK.out.drew)
 rw [← hD]
 clear hD hHeld b1
 have hS : D.cell? ⟨w.heap.size, 1, none⟩ = some (.int .i64 n2) := cell_of_row _ _ 1 _ _ _ DB.out
 have HOB := zh (show ∀ u : World, Kp [mb] D u → u.cell? ⟨w.heap.size, 1, none⟩ = some (.int .i64 n2) from fun u hu => cell_of_row _ _ 1 _ _ _ (hu.at_ DB.out (by have := HB.out; simp; omega)))
 refine tkp 0 rfl ?_
 refine tkp 1 rfl ?_
 refine tkp 2 rfl ?_
 refine tkp 3 rfl ?_
 refine tkp 4 rfl ?_
 refine tkp 5 rfl ?_
 refine tkp 6 rfl ?_
 have x16 : D.cell? ⟨mb, 16, none⟩ = some (.int .i64 m.st) := cell_of_row _ _ 16 _ _ _ DR.out.mc
 have x17 : D.cell? ⟨mb, 17, none⟩ = some (.int .i64 m.cd) := cell_of_row _ _ 17 _ _ _ DR.out.mc
 have f16 := frozen_of_row _ _ 16 _ _ DR.out.mc
 have f17 := frozen_of_row _ _ 17 _ _ DR.out.mc
 obtain ⟨Z, hZ⟩ : ∃ Z, Z = (D.setCell ⟨mb, 16, none⟩ (.int .i64 1)).setCell ⟨mb, 17, none⟩ (.int .i64 n2) := ⟨_, rfl⟩
 have F1 := zh (show Mk mb { m with st := 1, cd := n2 } Z from by unfold Mk; rw [hZ, heap_setCell_same _ _ 17 _ _ _ (heap_setCell_same _ _ 16 _ _ _ DR.out.mc)]; rfl)
 have F2 := zh (show Kp [mb] w Z from by rw [hZ]; exact DK.out.trans (((Kp.refl _ _).set (by simp) _).set (by simp) _))
 have HZ := zh hZ
 have S1 := zh (HOB.out (D.setCell ⟨mb, 16, none⟩ (.int .i64 1)) ((Kp.refl _ _).set (by simp) _))
 have S2 := zh (show Z.cell? ⟨w.heap.size, 1, none⟩ = some (.int .i64 n2) from by rw [hZ]; exact HOB.out _ (((Kp.refl _ _).set (by simp) _).set (by simp) _))
 clear hZ
 refine rdy 7 rfl (fun K hK => ?_)
 go_simp
 refine hK.out _ _ S1.out (fun hHeld => ?_)
 clear hK K
 try simp only [puts]
 have hS1 := S1.out
 refine tkp 8 rfl ?_
 refine tkp 9 rfl ?_
 refine tkp 10 rfl ?_
 clear hS1
 clear hHeld
 refine rdy 11 rfl (fun K hK => ?_)
 go_simp
 rw [← HZ.out]
 refine hK.out _ _ S2.out (fun hHeld => ?_)
 clear hK K
 try simp only [puts]
 clear hHeld x16 x17 f16 f17
 refine wpAnyH_done (by kernel_rfl) ?_ _
 have z15 : Z.cell? ⟨mb, 15, none⟩ = some (.slice (some ⟨rb, 0, none⟩) 1 c) := by rw [← HFR.out]; exact cell_of_row _ _ 15 _ _ _ F1.out
 have g15 := frozen_of_row _ _ 15 _ _ F1.out
 have EN := zh (show (∃ A cc, Mk mb { m with st := 1, cd := n2, fr := .slice A 0 cc } (Z.setCell ⟨mb, 15, none⟩ (.slice A' 0 c))) ∧ Kp [mb] w (Z.setCell ⟨mb, 15, none⟩ (.slice A' 0 c)) from ⟨⟨A', c, by unfold Mk; rw [heap_setCell_same _ _ 15 _ _ _ F1.out]; rfl⟩, F2.out.set (by simp) _⟩)
 have hcut := HCUT.out
 clear HCUT hS
 go_wp2_with fail
 refine bodyPost_end (results_none rfl _ _ _) rfl ?_
 exact ⟨rfl, EN.out⟩
end Go.Proofs.YtjejmlpjifhmmaaGreatDoor.stp
namespace Go.Proofs.YtjejmlpjifhmmaaGreatDoor.stp
open Go.RowKit Go.MapKept Go.ChangeMaps Go.Shelf
open words kindp opp op kind prg sto find
set_option maxRecDepth 100000
set_option maxHeartbeats 8000000
set_option linter.all false
def Vals (o : Obj) : Prop := o = ov0 ∨ ∃ k0 n0, o = ov1 k0 n0
theorem Vals.at_ {o : Obj} (h : Vals o) {w : World} {b : Nat} (hb : w.heap[b]? = some o) : w.heap[b]? = some ov0 ∨ ∃ k0 n0, w.heap[b]? = some (ov1 k0 n0) := by
 rcases h with rfl | ⟨a, b, rfl⟩
 ·exact .inl hb
 ·exact .inr ⟨a, b, hb⟩
theorem do_in {mb fb vb rb B : Nat} {k : MeM} {m : MS} {f : FS} {vals : Obj} {n : Nat} {evs : List Value} (A : Option Addr) (c : Nat) (w : World) (h : Rn mb fb vb rb B k m f vals n evs w) (ht : m.tk = 0) (hn : n ≤ 100) (hv : Vals vals) :
 Calls Tryz.prog 77 #[.pointer (some ⟨mb, 0, none⟩), .pointer (some ⟨fb, 0, none⟩), .agg #[.int .i64 26, .int .i64 0, .int .i64 0, .int .i64 0, .int .i64 0, .string ⟨#[]⟩, .string ⟨#[]⟩, .string ⟨#[]⟩, .slice A 0 c]] w fun e w' => e = .returned (.bool true) ∧ (∃ v, Rn mb fb vb rb B k { m with tk := 1, ev := v } f (ov1 1 7) (n + 1) (evs ++ [.bool true, .int .i64 7]) w') ∧ Kb B [mb, vb, fb] w w' := by
 obtain ⟨W, hW⟩ : ∃ W, W = w.alloc (.cells #[.int .i64 26, .int .i64 0, .int .i64 0, .int .i64 0, .int .i64 0, .string ⟨#[]⟩, .string ⟨#[]⟩, .string ⟨#[]⟩, .slice A 0 c] 153) := ⟨_, rfl⟩
 have hal : Below w.heap.size w W := by rw [hW]; exact (Below.refl _ _).alloc (Nat.le_refl _) _
 have hR := h.below hal
 have HR := zh hR
 have HK := zh (Kb.below (B := B) (S := [mb, vb, fb]) hal)
 have hI : W.heap[w.heap.size]? = some (.cells #[.int .i64 26, .int .i64 0, .int .i64 0, .int .i64 0, .int .i64 0, .string ⟨#[]⟩, .string ⟨#[]⟩, .string ⟨#[]⟩, .slice A 0 c] 153 (0, 0)) := by rw [hW]; exact heap_alloc_new _ _
 obtain ⟨c0, c1, c2, c3, c4, c5, c6, c7, c8⟩ := c9q hI
 have HW := zh hW; have HV := zh hv
 have HG := zh (register_w fb f W hR.fk hR.fv.2.1)
 have HQ := zh (value_in A c (.pointer (some ⟨fb, 0, none⟩)) W hR ht hn)
 clear hW hal hI hR h hv
 go_enter Tryz.func77, Tryz.ntmps77
 go_wp2_with fail
 rw [← HW.out]
 (try go_wp2_with fail)
 refine HG.out.mono ?_
 rintro e v ⟨rfl, hv⟩
 rw [hv]
 clear hv
 go_wp2_with fail
 refine HQ.out.mono ?_
 rintro e v ⟨rfl, ⟨x, hx⟩, hk⟩
 have HX := zh hx
 have HK2 := zh (HK.out.trans hk)
 have hlt := hx.lt
 have HS := zh (set_w fb f 1 7 v hx.fk hx.fv.2.1 (HV.out.at_ (by rw [hx.fv.1]; exact hx.vl)) (by rw [hx.fv.1]; omega))
 clear hx hk hlt
 go_wp2_with fail
 refine HS.out.mono ?_
 rintro e u ⟨rfl, hu, hk⟩
 rw [HX.out.fv.1] at hu hk
 have hlt := HX.out.lt
 have EN := zh (show (∃ v, Rn mb fb vb rb B k { m with tk := 1, ev := v } f (ov1 1 7) (n + 1) (evs ++ [.bool true, .int .i64 7]) u) ∧ Kb B [mb, vb, fb] w u from ⟨⟨x, HX.out.regs hk hu⟩, HK2.out.trans (Kb.of hk (fun j hj => by simp at hj; simp [hj]))⟩)
 clear hu hk hlt
 go_wp2
 go_ret
 exact ⟨rfl, EN.out⟩
theorem do_const {mb fb vb rb B : Nat} {k : MeM} {m : MS} {f : FS} {vals : Obj} {n : Nat} {evs : List Value} (A : Option Addr) (c : Nat) (w : World) (h : Rn mb fb vb rb B k m f vals n evs w) (hv : Vals vals) :
 Calls Tryz.prog 77 #[.pointer (some ⟨mb, 0, none⟩), .pointer (some ⟨fb, 0, none⟩), .agg #[.int .i64 2, .int .i64 0, .int .i64 0, .int .i64 0, .int .i64 2, .string ⟨#[]⟩, .string ⟨#[]⟩, .string ⟨#[]⟩, .slice A 0 c]] w fun e w' => e = .returned (.bool true) ∧ Rn mb fb vb rb B k m f (ov1 1 2) n evs w' ∧ Kb B [mb, vb, fb] w w' := by
 obtain ⟨W, hW⟩ : ∃ W, W = w.alloc (.cells #[.int .i64 2, .int .i64 0, .int .i64 0, .int .i64 0, .int .i64 2, .string ⟨#[]⟩, .string ⟨#[]⟩, .string ⟨#[]⟩, .slice A 0 c] 153) := ⟨_, rfl⟩
 have hal : Below w.heap.size w W := by rw [hW]; exact (Below.refl _ _).alloc (Nat.le_refl _) _
 have hR := h.below hal
 have HR := zh hR
 have HK := zh (Kb.below (B := B) (S := [mb, vb, fb]) hal)
 have hI : W.heap[w.heap.size]? = some (.cells #[.int .i64 2, .int .i64 0, .int .i64 0, .int .i64 0, .int .i64 2, .string ⟨#[]⟩, .string ⟨#[]⟩, .string ⟨#[]⟩, .slice A 0 c] 153 (0, 0)) := by rw [hW]; exact heap_alloc_new _ _
 obtain ⟨c0, c1, c2, c3, c4, c5, c6, c7, c8⟩ := c9q hI
 have HW := zh hW; have HV := zh hv
 have HG := zh (register_w fb f W hR.fk hR.fv.2.1)
 have HQ := zh (value_const A c (.pointer (some ⟨mb, 0, none⟩)) (.pointer (some ⟨fb, 0, none⟩)) W)
 clear hW hal hI hR h hv
 go_enter Tryz.func77, Tryz.ntmps77
 go_wp2_with fail
 rw [← HW.out]
 (try go_wp2_with fail)
 refine HG.out.mono ?_
 rintro e v ⟨rfl, hv⟩
 rw [hv]
 clear hv
 go_wp2_with fail
 refine HQ.out.mono ?_
 rintro e v ⟨rfl, hk⟩
 have hx := HR.out.below hk
 have HX := zh hx
 have HK2 := zh (HK.out.trans (Kb.below (B := B) (S := [mb, vb, fb]) hk))
 have hlt := hx.lt
 have HS := zh (set_w fb f 1 2 v hx.fk hx.fv.2.1 (HV.out.at_ (by rw [hx.fv.1]; exact hx.vl)) (by rw [hx.fv.1]; omega))
 clear hx hk hlt
 go_wp2_with fail
 refine HS.out.mono ?_
 rintro e u ⟨rfl, hu, hk⟩
 rw [HX.out.fv.1] at hu hk
 have hlt := HX.out.lt
 have EN := zh (show Rn mb fb vb rb B k m f (ov1 1 2) n evs u ∧ Kb B [mb, vb, fb] w u from ⟨HX.out.regs hk hu, HK2.out.trans (Kb.of hk (fun j hj => by simp at hj; simp [hj]))⟩)
 clear hu hk hlt
 go_wp2
 go_ret
 exact ⟨rfl, EN.out⟩
theorem do_ret {mb fb vb rb B : Nat} {k : MeM} {m : MS} {f : FS} {n : Nat} {evs : List Value} (A : Option Addr) (c : Nat) (n2 : Int) (w : World) (h : Rn mb fb vb rb B k m f (ov1 1 n2) n evs w) :
 Calls Tryz.prog 77 #[.pointer (some ⟨mb, 0, none⟩), .pointer (some ⟨fb, 0, none⟩), .agg #[.int .i64 22, .int .i64 0, .int .i64 0, .int .i64 0, .int .i64 0, .string ⟨#[]⟩, .string ⟨#[]⟩, .string ⟨#[]⟩, .slice A 0 c]] w fun e w' => e = .returned (.bool true) ∧ (∃ A c, Mk mb { m with st := 1, cd := n2, fr := .slice A 0 c } w') ∧ Kp [mb] w w' := by
 obtain ⟨W, hW⟩ : ∃ W, W = w.alloc (.cells #[.int .i64 22, .int .i64 0, .int .i64 0, .int .i64 0, .int .i64 0, .string ⟨#[]⟩, .string ⟨#[]⟩, .string ⟨#[]⟩, .slice A 0 c] 153) := ⟨_, rfl⟩
 have hal : Below w.heap.size w W := by rw [hW]; exact (Below.refl _ _).alloc (Nat.le_refl _) _
 have hR := h.below hal
 have HR := zh hR
 have HK := zh (Kp.below (S := [mb]) hal)
 have hI : W.heap[w.heap.size]? = some (.cells #[.int .i64 22, .int .i64 0, .int .i64 0, .int .i64 0, .int .i64 0, .string ⟨#[]⟩, .string ⟨#[]⟩, .string ⟨#[]⟩, .slice A 0 c] 153 (0, 0)) := by rw [hW]; exact heap_alloc_new _ _
 have c0 : W.cell? ⟨w.heap.size, 0, none⟩ = some (.int .i64 22) := cell_of_row _ _ 0 _ _ _ hI
 have c2 : W.cell? ⟨w.heap.size, 2, none⟩ = some (.int .i64 0) := cell_of_row _ _ 2 _ _ _ hI
 have HW := zh hW
 have HG := zh (value_w fb f 1 n2 W hR.fk hR.fv.2.1 (by rw [hR.fv.1]; exact hR.vl) rfl)
 clear hW hal hI hR h
 go_enter Tryz.func77, Tryz.ntmps77
 go_wp2_with fail
 rw [← HW.out]
 (try go_wp2_with fail)
 refine HG.out.mono ?_
 rintro e v ⟨rfl, hk⟩
 have HQ := zh (leave_w n2 v (HR.out.below hk))
 have HK2 := zh (HK.out.trans (Kp.below (S := [mb]) hk))
 clear hk
 go_wp2_with fail
 refine HQ.out.mono ?_
 rintro e u ⟨rfl, hm, hk⟩
 have EN := zh (And.intro hm (HK2.out.trans hk))
 clear hm hk
 go_wp2
 go_ret
 exact ⟨rfl, EN.out⟩
end Go.Proofs.YtjejmlpjifhmmaaGreatDoor.stp
namespace Go.Proofs.YtjejmlpjifhmmaaGreatDoor.stp
open Go.RowKit Go.MapKept Go.ChangeMaps Go.Shelf
open words kindp opp op kind prg sto find
set_option maxRecDepth 100000
set_option maxHeartbeats 8000000
set_option linter.all false
theorem do_out {mb fb vb rb B : Nat} {k : MeM} {m : MS} {f : FS} {n : Nat} {evs : List Value} (A : Option Addr) (c : Nat) (n1 : Int) (w : World) (h : Rn mb fb vb rb B k m f (ov1 1 n1) n evs w) (hn : n ≤ 100) :
 Calls Tryz.prog 77 #[.pointer (some ⟨mb, 0, none⟩), .pointer (some ⟨fb, 0, none⟩), .agg #[.int .i64 27, .int .i64 0, .int .i64 0, .int .i64 0, .int .i64 0, .string ⟨#[]⟩, .string ⟨#[]⟩, .string ⟨#[]⟩, .slice A 0 c]] w fun e w' => e = .returned (.bool true) ∧ (∃ v, Rn mb fb vb rb B k { m with ev := v } f (ov1 1 n1) (n + 1) (evs ++ [.bool false, .int .i64 n1]) w') ∧ Kb B [mb, vb, fb] w w' := by
 obtain ⟨i0, hi0, hz0, hz1, hz2⟩ := info_parts info_ev
 obtain ⟨Ae, ce, ee, hne, -, -⟩ := own_rd h.ev
 obtain ⟨W, hW⟩ : ∃ W, W = w.alloc (.cells #[.int .i64 27, .int .i64 0, .int .i64 0, .int .i64 0, .int .i64 0, .string ⟨#[]⟩, .string ⟨#[]⟩, .string ⟨#[]⟩, .slice A 0 c] 153) := ⟨_, rfl⟩
 have hal : Below w.heap.size w W := by rw [hW]; exact (Below.refl _ _).alloc (Nat.le_refl _) _
 have hI : W.heap[w.heap.size]? = some (.cells #[.int .i64 27, .int .i64 0, .int .i64 0, .int .i64 0, .int .i64 0, .string ⟨#[]⟩, .string ⟨#[]⟩, .string ⟨#[]⟩, .slice A 0 c] 153 (0, 0)) := by rw [hW]; exact heap_alloc_new _ _
 have c0 : W.cell? ⟨w.heap.size, 0, none⟩ = some (.int .i64 27) := cell_of_row _ _ 0 _ _ _ hI
 have HR := zh (h.below hal)
 have HK := zh (Kb.below (B := B) (S := [mb, vb, fb]) hal)
 have HI := zh hI; have HW := zh hW; have HEE := zh ee; have HBW := zh h.lt.2.2.2.2
 have HC := zh (show ∀ v : World, v.heap[w.heap.size]? = some (.cells #[.int .i64 27, .int .i64 0, .int .i64 0, .int .i64 0, .int .i64 0, .string ⟨#[]⟩, .string ⟨#[]⟩, .string ⟨#[]⟩, .slice A 0 c] 153 (0, 0)) → (fun w' : World => w'.cell? ⟨w.heap.size, 2, none⟩ = some (.int .i64 0)) v from fun v hv => cell_of_row _ _ 2 _ _ _ hv)
 have HL := zh (show ∀ v : World, Mk mb m v → v.cell? ⟨mb, 27, none⟩ = some (.slice Ae n ce) from fun v hm => by rw [← ee]; exact cell_of_row _ _ 27 _ _ _ hm)
 clear hW hal hI h ee hne
 go_enter Tryz.func77, Tryz.ntmps77
 go_wp2_with fail
 rw [← HW.out]
 (try go_wp2_with fail)
 refine wp_region_held_drew (S := fun w' : World => w'.cell? ⟨w.heap.size, 2, none⟩ = some (.int .i64 0)) (by kernel_rfl) ?_ (fun hHeld => ?_)
 ·exact HC.out _ HI.out
 obtain ⟨D, hD⟩ : ∃ u, u = W.drew := ⟨_, rfl⟩
 have DR := zh (show Rn mb fb vb rb B k m f (ov1 1 n1) n evs D from by rw [hD]; exact HR.out.drew)
 have DI := zh (show D.heap[w.heap.size]? = some (.cells #[.int .i64 27, .int .i64 0, .int .i64 0, .int .i64 0, .int .i64 0, .string ⟨#[]⟩, .string ⟨#[]⟩, .string ⟨#[]⟩, .slice A 0 c] 153 (0, 0)) from by rw [hD]; exact HI.out)
 have DK := zh (show Kb B [mb, vb, fb] w D from by rw [hD]; exact ⟨HK.out.os, HK.out.tape, HK.out.output, HK.out.size, HK.out.block⟩)
 have HN := zh (fnumber_w fb f n1 D DR.out.fk DR.out.fv.2.1 (by rw [DR.out.fv.1]; exact DR.out.vl))
 rw [← hD]
 clear hD hHeld c0
 refine' cutH (T := _) ?pK ?fK
 case' fK => intro KEY
 ·have hS := HC.out _ DI.out
  try dsimp only at hS
  refine tkp 0 rfl ?_
  refine tkp 1 rfl ?_
  refine tkp 2 rfl ?_
  refine tkp 3 rfl ?_
  refine tkp 5 rfl ?_
  refine tkp 6 rfl ?_
  refine tkp 7 rfl ?_
  clear hS
  refine wpAnyH_ready (rs := [4, 8]) (by kernel_rfl) (by simp) (AllReadyH.cons rfl (fun K hK => ?_) (AllReadyH.cons rfl (fun K hK => ?_) AllReadyH.nil))
  ·skip
   have y27 := HL.out _ DR.out.mc
   go_simp
   refine hK.out _ _ (HC.out _ DI.out) (fun hHeld => ?_)
   clear hK K y27
   try simp only [puts]
   clear hHeld
   refine rdy 8 rfl (fun K hK => ?_)
   go_simp
   refine HN.out.mono ?_
   rintro e v ⟨rfl, hb⟩
   have VR := zh (DR.out.below hb)
   have VI := zh ((hb.block _ (blk_lt DI.out)).trans DI.out)
   have VK := zh (DK.out.trans (Kb.below (B := B) (S := [mb, vb, fb]) hb))
   clear hb
   go_wp2_with fail
   refine hK.out _ _ (HC.out _ VI.out) (fun hHeld => ?_)
   clear hK K
   try simp only [puts]
   clear hHeld
   have hS := HC.out _ VI.out
   try dsimp only at hS
   refine tkp 9 rfl ?_
   clear hS
   obtain ⟨X, hX⟩ : ∃ X, X = v.alloc (.cells #[.bool false, .int .i64 n1] 66) := ⟨_, rfl⟩
   have XL : Below v.heap.size v X := by rw [hX]; exact (Below.refl _ _).alloc (Nat.le_refl _) _
   have XR := zh (VR.out.below XL)
   have XI := zh ((XL.block _ (blk_lt VI.out)).trans VI.out)
   have XK := zh (VK.out.trans (Kb.below (B := B) (S := [mb, vb, fb]) XL))
   have XN := zh (show X.heap[v.heap.size]? = some (.cells #[.bool false, .int .i64 n1] 66 (0, 0)) from by rw [hX]; exact heap_alloc_new _ _)
   have HX := zh hX
   clear hX XL
   refine rdy 10 rfl (fun K hK => ?_)
   go_simp
   rw [← HX.out]
   refine hK.out _ _ (HC.out _ XI.out) (fun hHeld => ?_)
   clear hK K
   try simp only [puts]
   clear hHeld
   refine listedH (L := #[true, true, true, true, true, true, true, true, true, true, true, false, false, false, false]) (by kernel_rfl) ?_
   clear VR VI VK HX
   revert XR XI XK XN
   revert X v
   exact KEY
  ·skip
   go_simp
   refine HN.out.mono ?_
   rintro e v ⟨rfl, hb⟩
   have VR := zh (DR.out.below hb)
   have VI := zh ((hb.block _ (blk_lt DI.out)).trans DI.out)
   have VK := zh (DK.out.trans (Kb.below (B := B) (S := [mb, vb, fb]) hb))
   clear hb
   go_wp2_with fail
   refine hK.out _ _ (HC.out _ VI.out) (fun hHeld => ?_)
   clear hK K
   try simp only [puts]
   clear hHeld
   have hS := HC.out _ VI.out
   try dsimp only at hS
   refine tkp 9 rfl ?_
   clear hS
   obtain ⟨X, hX⟩ : ∃ X, X = v.alloc (.cells #[.bool false, .int .i64 n1] 66) := ⟨_, rfl⟩
   have XL : Below v.heap.size v X := by rw [hX]; exact (Below.refl _ _).alloc (Nat.le_refl _) _
   have XR := zh (VR.out.below XL)
   have XI := zh ((XL.block _ (blk_lt VI.out)).trans VI.out)
   have XK := zh (VK.out.trans (Kb.below (B := B) (S := [mb, vb, fb]) XL))
   have XN := zh (show X.heap[v.heap.size]? = some (.cells #[.bool false, .int .i64 n1] 66 (0, 0)) from by rw [hX]; exact heap_alloc_new _ _)
   have HX := zh hX
   clear hX XL
   refine wpAnyH_ready (rs := [4, 10]) (by kernel_rfl) (by simp) (AllReadyH.cons rfl (fun K hK => ?_) (AllReadyH.cons rfl (fun K hK => ?_) AllReadyH.nil))
   ·skip
    have y27 := HL.out _ VR.out.mc
    go_simp
    refine hK.out _ _ (HC.out _ VI.out) (fun hHeld => ?_)
    clear hK K y27
    try simp only [puts]
    clear hHeld
    refine rdy 10 rfl (fun K hK => ?_)
    go_simp
    rw [← HX.out]
    refine hK.out _ _ (HC.out _ XI.out) (fun hHeld => ?_)
    clear hK K
    try simp only [puts]
    clear hHeld
    refine listedH (L := #[true, true, true, true, true, true, true, true, true, true, true, false, false, false, false]) (by kernel_rfl) ?_
    clear VR VI VK HX
    revert XR XI XK XN
    revert X v
    exact KEY
   ·skip
    go_simp
    rw [← HX.out]
    refine hK.out _ _ (HC.out _ XI.out) (fun hHeld => ?_)
    clear hK K
    try simp only [puts]
    clear hHeld
    refine rdy 4 rfl (fun K hK => ?_)
    have y27 := HL.out _ XR.out.mc
    go_simp
    refine hK.out _ _ (HC.out _ XI.out) (fun hHeld => ?_)
    clear hK K y27
    try simp only [puts]
    clear hHeld
    refine listedH (L := #[true, true, true, true, true, true, true, true, true, true, true, false, false, false, false]) (by kernel_rfl) ?_
    clear VR VI VK HX
    revert XR XI XK XN
    revert X v
    exact KEY
 case pK =>
  intro v X XR XI XK XN
  have XO := zh (show X.ownsRow B 66 2 (.slice Ae n ce) n evs from by rw [← HEE.out]; exact XR.out.ev)
  refine rdy 11 rfl (fun K hK => ?_)
  refine step_app _ (by rfl) (.tmp 100) (.tmp 106) _ (by rfl) B 66 i0 _ 2 16 Tryz.underlying43 hi0 hz0 hz1 hz2 rfl (by omega) _ n evs (by rfl) XO.out _ 1 1 [.bool false, .int .i64 n1] (by rfl) (by rfl) (rd_blk XN.out (k := 2) rfl) (by intro u hu; simp at hu; rcases hu with rfl | rfl <;> rfl) (by simp only [maxLen]; omega) (by omega) (XR.out.lt.2.2.2.2) ?_
  intro v5 w5 hown5 hg5 hb5 hat5
  obtain ⟨A5, d5, rfl, hd5, -, -⟩ := own_rd hown5
  have YI := zh (row_apart XI.out (by decide) XO.out hg5)
  have YM := zh ((hb5.block mb (by have := XR.out.lt; omega)).trans XR.out.mc)
  have YO := zh hown5
  have YB := zh hb5
  clear hown5 hg5 hb5 hat5 hd5
  have hT := HC.out _ YI.out
  try dsimp only at hT
  refine hK.out _ _ (HC.out _ YI.out) (fun hHeld => ?_)
  clear hK K
  try simp only [puts]
  clear hHeld
  refine tkp 12 rfl ?_
  refine tkp 13 rfl ?_
  have g27 := frozen_of_row _ _ 27 _ _ YM.out
  have y27 := HL.out _ YM.out
  obtain ⟨U, hU⟩ : ∃ U, U = w5.setCell ⟨mb, 27, none⟩ (.slice A5 (n + 1) d5) := ⟨_, rfl⟩
  have kU : Kp [mb] w5 U := by rw [hU]; exact (Kp.refl _ _).set (by simp) _
  have mU : Mk mb { m with ev := .slice A5 (n + 1) d5 } U := by unfold Mk; rw [hU, heap_setCell_same _ _ _ _ _ _ YM.out]; rfl
  obtain ⟨l1, l2, l3, l4, l5⟩ := XR.out.lt
  have kb : Kb B [mb] X U := (⟨YB.out.os, YB.out.tape, YB.out.output, YB.out.size, fun k _ hkB _ => YB.out.block k hkB⟩ : Kb B [mb] X w5).trans (Kb.of kU (fun j hj => by simp at hj; simp [hj]))
  have kc : Kb B [mb, vb, fb] X U := kb.more (by simp)
  have oU : U.ownsRow B 66 2 (.slice A5 (n + 1) d5) (n + 1) (evs ++ [.bool false, .int .i64 n1]) := by
   refine ⟨YO.out.1, ?_⟩
   rcases YO.out.2 with h0 | ⟨q, cap, cur, e, hbg, hq, rest⟩
   ·exact .inl h0
   ·exact .inr ⟨q, cap, cur, e, hbg, kU.at_ hq (by simp; omega), rest⟩
  have EN := zh (show (∃ v, Rn mb fb vb rb B k { m with ev := v } f (ov1 1 n1) (n + 1) (evs ++ [.bool false, .int .i64 n1]) U) ∧ Kb B [mb, vb, fb] w U from
   ⟨⟨_, XR.out.step (m' := { m with ev := .slice A5 (n + 1) d5 }) (f' := f) kc mU (kb.at_ XR.out.fk (by omega) (by simp; omega)) (kb.at_ XR.out.vl (by omega) (by simp; omega)) oU ⟨rfl, rfl, rfl, rfl⟩ ⟨rfl, rfl, rfl, rfl, rfl, rfl⟩⟩, XK.out.trans kc⟩)
  have UI := zh (kU.at_ YI.out (by have := HBW.out; have := XR.out.lt; simp; omega))
  have HU := zh hU
  clear kU mU kb kc oU l1 l2 l3 l4 l5 hU hT
  refine rdy 14 rfl (fun K hK => ?_)
  go_simp
  rw [← HU.out]
  refine hK.out _ _ (HC.out _ UI.out) (fun hHeld => ?_)
  clear hK K
  try simp only [puts]
  clear hHeld y27 g27
  refine wpAnyH_done (by kernel_rfl) ?_ _
  go_wp2
  go_ret
  exact ⟨rfl, EN.out⟩
end Go.Proofs.YtjejmlpjifhmmaaGreatDoor.stp
namespace Go.Proofs.YtjejmlpjifhmmaaGreatDoor.stp
open Go.RowKit Go.MapKept Go.ChangeMaps Go.Shelf
open words kindp opp op kind prg sto find
set_option maxRecDepth 100000
set_option maxHeartbeats 8000000
set_option linter.all false
theorem go_w {mb fb vb rb B : Nat} {k : MeM} {m : MS} {f : FS} {vals : Obj} {n : Nat} {evs : List Value} (p : Nat) (o kk : Int) (A : Option Addr) (c : Nat) (Q : World → Prop) (w : World) (h : Rn mb fb vb rb B k m f vals n evs w) (hp : f.pc = (p : Int)) (hp4 : p ≤ 4)
 (hi : k.co[p]? = some ⟨⟨o, 0, 0, 0, kk, [], [], [], []⟩, A, c⟩) (ho : o = 26 ∨ o = 27 ∨ o = 2 ∨ o = 22)
 (hdo : ∀ v, Below w.heap.size w v → Rn mb fb vb rb B k m f vals n evs v → Calls Tryz.prog 77 #[.pointer (some ⟨mb, 0, none⟩), .pointer (some ⟨fb, 0, none⟩), .agg #[.int .i64 o, .int .i64 0, .int .i64 0, .int .i64 0, .int .i64 kk, .string ⟨#[]⟩, .string ⟨#[]⟩, .string ⟨#[]⟩, .slice A 0 c]] v fun e v' => e = .returned (.bool true) ∧ Q v') (hq : ∀ v, Q v → Fk fb f v) :
 Calls Tryz.prog 36 #[.pointer (some ⟨mb, 0, none⟩)] w fun e w' => e = .returned (.tuple #[]) ∧ ∃ v, Q v ∧ w' = v.setCell ⟨fb, 4, none⟩ (.int .i64 ((p : Int) + 1)) := by
 obtain ⟨cf, hc1, hfr⟩ := h.fr
 have hlen : k.co.length = 4 := by have := congrArg (fun m => m.co.length) h.pk; simpa [pM, soM] using this
 obtain ⟨ca, hca, hcb, hcv, hcr⟩ := h.co
 have HLA := zh (last_w mb rb fb m cf w h.mc hfr h.rb_)
 have HIN := zh (show ∀ q, Calls Tryz.prog 75 #[.pointer (some ⟨fb, 0, none⟩)] (w.drewN q) (fun e w' => e = .returned (.agg #[.int .i64 o, .int .i64 0, .int .i64 0, .int .i64 0, .int .i64 kk, .string ⟨#[]⟩, .string ⟨#[]⟩, .string ⟨#[]⟩, .slice A 0 c]) ∧ Below (w.drewN q).heap.size (w.drewN q) w') from fun q =>
  instr_w fb f ca k.co p ⟨⟨o, 0, 0, 0, kk, [], [], [], []⟩, A, c⟩ (w.drewN q) (h.drewN (q := q)).fk (h.fv.2.2.1.trans hca) (h.fv.2.2.2.1.trans hlen.symm) hp (by rw [h.fv.2.2.1]; obtain ⟨a', e1, e2, e3, e4⟩ := (h.drewN (q := q)).co; exact e4) hi (by omega))
 have HR := zh h; have HDO := zh hdo; have HQ := zh hq; have HO := zh ho
 clear hfr hc1 hca hcb hcv hcr hlen h hdo hq ho hi
 have hwr : IntKind.i64.wrap ((p : Int) + 1) = (p : Int) + 1 := by rw [IntWalk.i64_in] <;> omega
 go_enter Tryz.func36, Tryz.ntmps36
 go_wp2_with fail
 refine HLA.out.mono ?_
 rintro e v ⟨rfl, q, rfl⟩
 go_wp2_with fail
 refine (HIN.out q).mono ?_
 rintro e v ⟨rfl, hb⟩
 have hbv : Below w.heap.size w v := under hb
 obtain ⟨X, hX⟩ : ∃ X, X = v.alloc (.cells #[.int .i64 o, .int .i64 0, .int .i64 0, .int .i64 0, .int .i64 kk, .string ⟨#[]⟩, .string ⟨#[]⟩, .string ⟨#[]⟩, .slice A 0 c] 153) := ⟨_, rfl⟩
 have XL : Below v.heap.size v X := by rw [hX]; exact (Below.refl _ _).alloc (Nat.le_refl _) _
 have XN := zh (show X.heap[v.heap.size]? = some (.cells #[.int .i64 o, .int .i64 0, .int .i64 0, .int .i64 0, .int .i64 kk, .string ⟨#[]⟩, .string ⟨#[]⟩, .string ⟨#[]⟩, .slice A 0 c] 153 (0, 0)) from by rw [hX]; exact heap_alloc_new _ _)
 have XB := zh (show Below w.heap.size w X from then' hbv XL)
 have HX := zh hX
 have HCC := zh (show ∀ z : World, z.heap[v.heap.size]? = some (.cells #[.int .i64 o, .int .i64 0, .int .i64 0, .int .i64 0, .int .i64 kk, .string ⟨#[]⟩, .string ⟨#[]⟩, .string ⟨#[]⟩, .slice A 0 c] 153 (0, 0)) → z.cell? ⟨v.heap.size, 0, none⟩ = some (.int .i64 o) ∧ z.cell? ⟨v.heap.size, 1, none⟩ = some (.int .i64 0) ∧ z.cell? ⟨v.heap.size, 2, none⟩ = some (.int .i64 0) ∧ z.cell? ⟨v.heap.size, 3, none⟩ = some (.int .i64 0) ∧ z.cell? ⟨v.heap.size, 4, none⟩ = some (.int .i64 kk) ∧ z.cell? ⟨v.heap.size, 5, none⟩ = some (.string ⟨#[]⟩) ∧ z.cell? ⟨v.heap.size, 6, none⟩ = some (.string ⟨#[]⟩) ∧ z.cell? ⟨v.heap.size, 7, none⟩ = some (.string ⟨#[]⟩) ∧ z.cell? ⟨v.heap.size, 8, none⟩ = some (.slice A 0 c) from fun z hz => ⟨cell_of_row _ _ 0 _ _ _ hz, cell_of_row _ _ 1 _ _ _ hz, cell_of_row _ _ 2 _ _ _ hz, cell_of_row _ _ 3 _ _ _ hz, cell_of_row _ _ 4 _ _ _ hz, cell_of_row _ _ 5 _ _ _ hz, cell_of_row _ _ 6 _ _ _ hz, cell_of_row _ _ 7 _ _ _ hz, cell_of_row _ _ 8 _ _ _ hz⟩)
 clear hX XL hb hbv
 go_wp2_with fail
 rw [← HX.out]
 obtain ⟨c0, c1, c2, c3, c4, c5, c6, c7, c8⟩ := HCC.out _ XN.out
 go_wp2_with fail
 refine (ahead_w _ _ o kk A c X HO.out).mono ?_
 rintro e u ⟨rfl, hb⟩
 have UN := zh ((hb.block _ (blk_lt XN.out)).trans XN.out)
 have UB := zh (show Below w.heap.size w u from then' XB.out hb)
 clear hb c0 c1 c2 c3 c4 c5 c6 c7 c8
 obtain ⟨c0, c1, c2, c3, c4, c5, c6, c7, c8⟩ := HCC.out _ UN.out
 go_wp2_with fail
 refine (HDO.out u UB.out (HR.out.below UB.out)).mono ?_
 rintro e z ⟨rfl, hz⟩
 have hf := HQ.out _ hz
 have z4 : z.cell? ⟨fb, 4, none⟩ = some (.int .i64 (p : Int)) := by rw [← hp]; exact cell_of_row _ _ 4 _ _ _ hf
 have g4 := frozen_of_row _ _ 4 _ _ hf
 have EN := zh hz
 clear hf hz c0 c1 c2 c3 c4 c5 c6 c7 c8
 go_wp2_with fail
 refine bodyPost_end (results_none rfl _ _ _) rfl ?_
 exact ⟨rfl, _, EN.out, rfl⟩
theorem Rn.next {mb fb vb rb B : Nat} {k : MeM} {m : MS} {f : FS} {vals : Obj} {n : Nat} {evs : List Value} {w : World} (h : Rn mb fb vb rb B k m f vals n evs w) (p : Int) : Rn mb fb vb rb B k m { f with pc := p } vals n evs (w.setCell ⟨fb, 4, none⟩ (.int .i64 p)) :=
 h.frame ((Kp.refl _ _).set (by simp) _) (by unfold Fk; rw [heap_setCell_same _ _ 4 _ _ _ h.fk]; rfl) ⟨rfl, rfl, rfl, rfl, rfl, rfl⟩
theorem deep_w (mb : Nat) (m : MS) (A : Option Addr) (n c : Nat) (w : World) (h : Mk mb m w) (hf : m.fr = .slice A n c) : Calls Tryz.prog 15 #[.pointer (some ⟨mb, 0, none⟩)] w fun e w' => e = .returned (.int .i64 (n : Int)) ∧ w' = w := by
 have h15 : w.cell? ⟨mb, 15, none⟩ = some (.slice A n c) := by rw [← hf]; exact cell_of_row _ _ 15 _ _ _ h
 clear h hf
 go_enter Tryz.func15, Tryz.ntmps15
 go_wp2
 go_ret
 exact ⟨rfl, rfl⟩
theorem step_no (mb : Nat) (m : MS) (A : Option Addr) (c : Nat) (w : World) (h : Mk mb m w) (hf : m.fr = .slice A 0 c) : Calls Tryz.prog 12 #[.pointer (some ⟨mb, 0, none⟩)] w fun e w' => e = .returned (.bool false) ∧ w' = w := by
 have HD := zh (deep_w mb m A 0 c w h hf)
 clear h hf
 go_enter Tryz.func12, Tryz.ntmps12
 go_wp2_with fail
 refine HD.out.mono ?_
 rintro e v ⟨rfl, rfl⟩
 go_wp2
 go_ret
 exact ⟨rfl, rfl⟩
theorem step_w {mb fb vb rb B : Nat} {k : MeM} {m : MS} {f : FS} {vals : Obj} {n : Nat} {evs : List Value} (s : Nat) (Q : World → Prop) (w : World) (h : Rn mb fb vb rb B k m f vals n evs w) (hst : m.st = 0) (hsp : m.sp = (s : Int)) (hs9 : s ≤ 9)
 (hgo : ∀ v, Below mb w v → Rn mb fb vb rb B k { m with sp := (s : Int) + 1 } f vals n evs v → Calls Tryz.prog 36 #[.pointer (some ⟨mb, 0, none⟩)] v (fun e v' => e = .returned (.tuple #[]) ∧ Q v')) :
 Calls Tryz.prog 12 #[.pointer (some ⟨mb, 0, none⟩)] w fun e w' => e = .returned (.bool true) ∧ Q w' := by
 obtain ⟨cf, hc1, hfr⟩ := h.fr
 have HD := zh (deep_w mb m _ 1 cf w h.mc hfr)
 have c16 : w.cell? ⟨mb, 16, none⟩ = some (.int .i64 0) := by rw [← hst]; exact cell_of_row _ _ 16 _ _ _ h.mc
 have c19 : w.cell? ⟨mb, 19, none⟩ = some (.int .i64 (s : Int)) := by rw [← hsp]; exact cell_of_row _ _ 19 _ _ _ h.mc
 have g19 := frozen_of_row _ _ 19 _ _ h.mc
 have hwr : IntKind.i64.wrap ((s : Int) + 1) = (s : Int) + 1 := by rw [IntWalk.i64_in] <;> omega
 obtain ⟨U, hU⟩ : ∃ U, U = w.setCell ⟨mb, 19, none⟩ (.int .i64 ((s : Int) + 1)) := ⟨_, rfl⟩
 have kU : Kp [mb] w U := by rw [hU]; exact (Kp.refl _ _).set (by simp) _
 have mU : Mk mb { m with sp := (s : Int) + 1 } U := by unfold Mk; rw [hU, heap_setCell_same _ _ 19 _ _ _ h.mc]; rfl
 have hR := h.mach kU mU ⟨rfl, rfl, rfl, rfl⟩ rfl
 have hbm : Below mb w U := kU.toBelow (by have := h.lt; omega) (by simp)
 have HAT := zh (attempt_w mb 36 Q U (by intro a w; kernel_rfl) (fun v hv => hgo v (hbm.trans (hv.mono (by have := h.lt; have := kU.size; omega))) (hR.below hv)))
 have HU := zh hU
 clear hU kU mU hR hbm hgo h hfr hc1 hst hsp
 go_enter Tryz.func12, Tryz.ntmps12
 go_wp2_with fail
 refine HD.out.mono ?_
 rintro e v ⟨rfl, rfl⟩
 go_wp2_with fail
 rw [← HU.out]
 (try go_wp2_with fail)
 refine HAT.out.mono ?_
 rintro e z ⟨rfl, hz⟩
 have EN := zh hz
 clear hz
 go_wp2
 go_ret
 exact ⟨rfl, EN.out⟩
end Go.Proofs.YtjejmlpjifhmmaaGreatDoor.stp

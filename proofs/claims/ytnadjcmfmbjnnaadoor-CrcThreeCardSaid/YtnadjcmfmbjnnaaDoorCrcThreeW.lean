/-
  The walk of the law CrcThree: the sum of three lists, turned by one another.
-/
import Derived.Test.YtnadjcmfmbjnnaaDoorLive2
import Derived.Test.YtnadjcmfmbjnnaaDoorStep
namespace Go.Proofs.YtnadjcmfmbjnnaaDoor.crcThree
open Go.RowKit
open Go.Proofs.YtnadjcmfmbjnnaaDoor.crcnum Go.Proofs.YtnadjcmfmbjnnaaDoor.words

theorem xorL_at {a b : List Nat} {j x y : Nat} (ha : a[j]? = some x) (hb : b[j]? = some y) : (xorL a b)[j]? = some (x ^^^ y) := by
  induction a generalizing b j with
  | nil => simp at ha
  | cons c a ih => cases b with
    | nil => simp at hb
    | cons d b =>
      cases j with
      | zero =>
        simp at ha hb
        subst ha hb
        simp [xorL]
      | succ j =>
        simp only [xorL, List.getElem?_cons_succ] at *
        exact ih ha hb
theorem least (n m k : Nat) : ∃ N, N ≤ n ∧ N ≤ m ∧ N ≤ k ∧ ((N = n ∧ n ≤ m ∧ n ≤ k ∧ decide (m < n) = false ∧ decide (k < n) = false) ∨ (N = m ∧ m < n ∧ m ≤ k ∧ decide (m < n) = true ∧ decide (k < m) = false) ∨
    (N = k ∧ n ≤ m ∧ k < n ∧ decide (m < n) = false ∧ decide (k < n) = true) ∨ (N = k ∧ m < n ∧ k < m ∧ decide (m < n) = true ∧ decide (k < m) = true)) := by
  by_cases h1 : m < n
  · by_cases h2 : k < m
    · exact ⟨k, by omega, by omega, by omega, .inr (.inr (.inr ⟨rfl, h1, h2, by simpa using h1, by simpa using h2⟩))⟩
    · exact ⟨m, by omega, by omega, by omega, .inr (.inl ⟨rfl, h1, by omega, by simpa using h1, by simp; omega⟩)⟩
  · by_cases h2 : k < n
    · exact ⟨k, by omega, by omega, by omega, .inr (.inr (.inl ⟨rfl, by omega, h2, by simp; omega, by simpa using h2⟩))⟩
    · exact ⟨n, by omega, by omega, by omega, .inl ⟨rfl, by omega, by omega, by simp; omega, by simp; omega⟩⟩
theorem xor8 {a b : Nat} (ha : a < 256) (hb : b < 256) : bits .xor .u8 (a : Int) (b : Int) = ((a ^^^ b : Nat) : Int) := u8_xor_nat a b ha hb
theorem xor8_lt {a b : Nat} (ha : a < 256) (hb : b < 256) : a ^^^ b < 256 := Nat.xor_lt_two_pow (n := 8) ha hb
def Sums (w : World) (X : Option Addr) (N c : Nat) (l : List Nat) : Prop := Calls Tryd.prog 10 #[.slice X N c] w fun e w' => e = .returned (.int .u32 (sumL l : Int)) ∧ w = w'

theorem Tab_of {w w3 : World} (h : crc.Tab w) (hb : Below w.heap.size w w3) : crc.Tab w3 := h.below hb
theorem Rd_of {w w3 : World} {A : Option Addr} {xs : List Value} (h : Rd w A xs) (hb : Below w.heap.size w w3) : Rd w3 A xs := h.below hb
set_option maxRecDepth 20000 in
set_option maxHeartbeats 9600000 in
theorem walk (A : Option Addr) (n c : Nat) (l : List Nat) (C : Option Addr) (m d : Nat) (k : List Nat) (E : Option Addr) (p f : Nat) (r : List Nat) (w : World)
    (hr : Rd w A (B l)) (hl : l.length = n) (_ : n ≤ c) (hby : ∀ x ∈ l, x < 256) (hn : n * 1 ≤ 140737488351232)
    (kr : Rd w C (B k)) (kl : k.length = m) (_ : m ≤ d) (kby : ∀ x ∈ k, x < 256) (hm : m * 1 ≤ 140737488351232)
    (er : Rd w E (B r)) (el : r.length = p) (_ : p ≤ f) (eby : ∀ x ∈ r, x < 256) (hp : p * 1 ≤ 140737488351232) (ht : crc.Tab w) :
    Calls Tryd.prog 7 #[.slice A n c, .slice C m d, .slice E p f] w fun e w' => e = .returned (.bool true) ∧ Below w.heap.size w w' := by
  obtain ⟨i0, hi0, hz0, hz1, hz2⟩ := info_parts put.info5
  obtain ⟨N, N1, N2, N3, hN⟩ := least n m p
  obtain ⟨A', hA, cutA⟩ := run_cut_h Tryd.underlying23 (by kernel_rfl) put.size5 A n c N (by omega)
  obtain ⟨C', hC, cutC⟩ := run_cut_h Tryd.underlying23 (by kernel_rfl) put.size5 C m d N (by omega)
  obtain ⟨E', hE, cutE⟩ := run_cut_h Tryd.underlying23 (by kernel_rfl) put.size5 E p f N (by omega)
  have b1 : ∀ x ∈ l.take N, x < 256 := fun x hx => hby x (List.mem_of_mem_take hx)
  have b2 : ∀ x ∈ k.take N, x < 256 := fun x hx => kby x (List.mem_of_mem_take hx)
  have b3 : ∀ x ∈ r.take N, x < 256 := fun x hx => eby x (List.mem_of_mem_take hx)
  have l1 : (l.take N).length = N := by rw [List.length_take]; omega
  have l2 : (k.take N).length = N := by rw [List.length_take]; omega
  have l3 : (r.take N).length = N := by rw [List.length_take]; omega
  have l12 : (xorL (l.take N) (k.take N)).length = N := by rw [xorL_len _ _ (by omega)]; exact l1
  have l123 : (xorL (xorL (l.take N) (k.take N)) (r.take N)).length = N := by rw [xorL_len _ _ (by omega)]; exact l12
  have b123 := xorL_byte _ _ (xorL_byte _ _ b1 b2) b3
  have hat : ∀ j, j < N → ∃ x y z, l[j]? = some x ∧ k[j]? = some y ∧ r[j]? = some z ∧ (xorL (xorL (l.take N) (k.take N)) (r.take N))[j]? = some (x ^^^ y ^^^ z) ∧ (j : Int) < n ∧ (j : Int) < m ∧ (j : Int) < p := fun j hj => by
    have ex := List.getElem?_eq_getElem (l := l) (i := j) (by omega)
    have ey := List.getElem?_eq_getElem (l := k) (i := j) (by omega)
    have ez := List.getElem?_eq_getElem (l := r) (i := j) (by omega)
    refine ⟨_, _, _, ex, ey, ez, xorL_at (xorL_at ?_ ?_) ?_, by omega, by omega, by omega⟩
    · rw [List.getElem?_take, if_pos hj]; exact ex
    · rw [List.getElem?_take, if_pos hj]; exact ey
    · rw [List.getElem?_take, if_pos hj]; exact ez
  have h3 := three _ _ _ (l1.trans l2.symm) (l2.trans l3.symm) b1 b2 b3
  have S1 : ∀ w, crc.Tab w → Rd w A (B l) → Sums w A' N c (l.take N) := fun w h1 h2 => crc.sum_any A' N c (l.take N) w h1 (by rw [← B_take]; exact hA _ _ h2) l1 (by omega) b1
  have S2 : ∀ w, crc.Tab w → Rd w C (B k) → Sums w C' N d (k.take N) := fun w h1 h2 => crc.sum_any C' N d (k.take N) w h1 (by rw [← B_take]; exact hC _ _ h2) l2 (by omega) b2
  have S3 : ∀ w, crc.Tab w → Rd w E (B r) → Sums w E' N f (r.take N) := fun w h1 h2 => crc.sum_any E' N f (r.take N) w h1 (by rw [← B_take]; exact hE _ _ h2) l3 (by omega) b3
  have s1 := sumL_lt (l.take N)
  have s2 := sumL_lt (k.take N)
  have s3 := sumL_lt (r.take N)
  have S4 : ∀ X cx w, crc.Tab w → Rd w X (B (xorL (xorL (l.take N) (k.take N)) (r.take N))) → Sums w X N cx (xorL (xorL (l.take N) (k.take N)) (r.take N)) := fun X cx w h1 h2 => crc.sum_any X N cx _ w h1 h2 l123 (by omega) b123
  unfold Sums at S1 S2 S3 S4
  rw [h3] at S4
  generalize sumL (l.take N) = q1 at *
  generalize sumL (k.take N) = q2 at *
  generalize sumL (r.take N) = q3 at *
  generalize xorL (xorL (l.take N) (k.take N)) (r.take N) = X at *
  have x1 := crc.xor32 s1 s2
  have x2 := crc.xor32 (xor_lt s1 s2) s3
  have NB : (N : Int) ≤ 140737488351232 := by omega
  have NB2 : N ≤ 140737488351232 := by omega
  have nB : (n : Int) ≤ 140737488351232 := by omega
  have mB : (m : Int) ≤ 140737488351232 := by omega
  have pB : (p : Int) ≤ 140737488351232 := by omega
  have S1 := Lib.hid S1; have S2 := Lib.hid S2; have S3 := Lib.hid S3; have S4 := Lib.hid S4; have HX := Lib.hid l123; have HAT := Lib.hid hat
  have HBY := Lib.hid hby; have KBY := Lib.hid kby; have EBY := Lib.hid eby; have HNB := Lib.hid NB2
  clear hA hC hE b1 b2 b3 l1 l2 l3 l12 l123 b123 h3 hat hby kby eby hl kl el hn hm hp s1 s2 s3 NB2
  rcases hN with ⟨h0, ha, hb, d1, d2⟩ | ⟨h0, ha, hb, d1, d2⟩ | ⟨h0, ha, hb, d1, d2⟩ | ⟨h0, ha, hb, d1, d2⟩
  all_goals subst h0
  all_goals go_enter Tryd.func7, Tryd.ntmps7
  all_goals go_wp2
  all_goals
    go_loopw [8, 9] (fun v x wr => ∃ j : Nat, j ≤ N ∧ x = .int .i64 (j : Int) ∧ wr.ownsRow w.heap.size 5 1 v j (B (X.take j)) ∧ Below w.heap.size w wr) (fun _ x _ => N - (intOf x).toNat)
    case atStart => exact ⟨0, Nat.zero_le _, rfl, World.ownsRow_nil _ _ _ _, Below.refl _ _⟩
    case round =>
      obtain ⟨j, hj, rfl, hown, hb⟩ := hrel
      have hsz := hb.size
      by_cases hlt : j < N
      · obtain ⟨a0, b0, e0, ka, kb, ke, kx, jn, jm, jp⟩ := HAT.out j hlt
        obtain ⟨aA, rfl, tA, cA⟩ := hr.at_ (B_at ka)
        obtain ⟨aC, rfl, tC, cC⟩ := kr.at_ (B_at kb)
        obtain ⟨aE, rfl, tE, cE⟩ := er.at_ (B_at ke)
        have uA := (hb.cell (p := aA.add j) (by rw [add_block]; exact tA)).trans cA
        have uC := (hb.cell (p := aC.add j) (by rw [add_block]; exact tC)).trans cC
        have uE := (hb.cell (p := aE.add j) (by rw [add_block]; exact tE)).trans cE
        have ya := HBY.out a0 (List.mem_of_getElem? ka)
        have yb := KBY.out b0 (List.mem_of_getElem? kb)
        have ye := EBY.out e0 (List.mem_of_getElem? ke)
        have z1 := xor8 ya yb
        have z2 := xor8 (xor8_lt ya yb) ye
        generalize a0 ^^^ b0 = ab at *
        generalize ab ^^^ e0 = abe at *
        have HO := Lib.hid hown
        have KX := Lib.hid kx
        have DA := Lib.hid cA; have DC := Lib.hid cC; have DE := Lib.hid cE
        have j0 : (0 : Int) ≤ (j : Int) := by omega
        clear hown ka kb ke kx x1 x2 cA cC cE
        go_wp2
        go_region_held3 (fun w' => w'.cell? (aA.add j) = some (.int .u8 (a0 : Int)) ∧ w'.cell? (aC.add j) = some (.int .u8 (b0 : Int)) ∧ w'.cell? (aE.add j) = some (.int .u8 (e0 : Int))) (go_keep)
          ((refine step_app _ (by rfl) (.tmp 29) (.tmp 44) _ (by rfl) w.heap.size 5 i0 _ 1 1 Tryd.underlying23 hi0 hz0 hz1 hz2 rfl (by omega) _ j (B (X.take j)) (by rfl) (by exact World.ownsRow.alloc (w := wr.drew) HO.out _) _ 1 1 [_] (by rfl) (by rfl) (rd_blk (heap_alloc_new wr.drew _) (k := 1) rfl) (by simp [Value.oneCell']) (by have := HNB.out; simp only [maxLen]; omega) (by have := HNB.out; omega) (by simp; omega) ?_; intro v' w2 hown2 hg2 hb2 hat2; clear hg2 hat2; have hbz := (((Below.refl w.heap.size wr).drew.alloc hsz _).trans hb2); have r1 := (hbz.cell (p := aA.add j) (by rw [add_block]; exact tA)).trans uA; have r2 := (hbz.cell (p := aC.add j) (by rw [add_block]; exact tC)).trans uC; have r3 := (hbz.cell (p := aE.add j) (by rw [add_block]; exact tE)).trans uE))
        have hown3 : w2.ownsRow w.heap.size 5 1 v' (j + 1) (B (X.take (j + 1))) := by
          rw [List.take_add_one, KX.out, Option.toList_some, B_app]
          exact hown2
        have hb3 := hb.trans hbz
        clear r1 r2 r3 hbz hb2 hown2 uA uC uE
        go_wp2
        go_roundw
        case rel => exact ⟨j + 1, by omega, by go_num, hown3, hb3⟩
        case measure => simp [intOf]; omega
      · have hjN : j = N := by omega
        have hfin : wr.ownsRow w.heap.size 5 1 u8 N (B X) := by
          have h := hown
          rw [hjN, List.take_of_length_le (by rw [HX.out]; exact Nat.le_refl _)] at h
          exact h
        obtain ⟨Y, cy, rfl, _, _, hry⟩ := own_rd hfin
        have HB := Lib.hid hb
        have htr := ht.below hb
        have hr2 := hr.below hb
        have kr2 := kr.below hb
        have er2 := er.below hb
        clear hown hfin hjN hb
        go_wp2
        go_region_held3 (fun _ => True) (trivial)
          (first
            | (go_at_call 9; refine (live2.live_any _ ?_).mono ?_; exact htr; rintro e w3 ⟨rfl, hb3⟩; have t3 := Tab_of htr ⟨hb3.os, hb3.tape, hb3.output, hb3.size, hb3.block⟩; have y3 := Rd_of hry ⟨hb3.os, hb3.tape, hb3.output, hb3.size, hb3.block⟩; have r3 := Rd_of hr2 ⟨hb3.os, hb3.tape, hb3.output, hb3.size, hb3.block⟩; have k3 := Rd_of kr2 ⟨hb3.os, hb3.tape, hb3.output, hb3.size, hb3.block⟩; have e3 := Rd_of er2 ⟨hb3.os, hb3.tape, hb3.output, hb3.size, hb3.block⟩)
            | (go_at_call 10; refine (S4.out Y cy _ ?_ ?_).mono ?_; exact t3; exact y3; rintro e w' ⟨rfl, rfl⟩)
            | (go_at_call 10; refine (S1.out _ ?_ ?_).mono ?_; exact t3; exact r3; rintro e w' ⟨rfl, rfl⟩)
            | (go_at_call 10; refine (S2.out _ ?_ ?_).mono ?_; exact t3; exact k3; rintro e w' ⟨rfl, rfl⟩)
            | (go_at_call 10; refine (S3.out _ ?_ ?_).mono ?_; exact t3; exact e3; rintro e w' ⟨rfl, rfl⟩))
        all_goals go_wp2
        all_goals go_ret
        all_goals first | exact ⟨rfl, then_ HB.out (Nat.le_refl _) ⟨hb3.os, hb3.tape, hb3.output, hb3.size, hb3.block⟩⟩ | exact ⟨rfl, over (then_ HB.out (Nat.le_refl _) ⟨hb3.os, hb3.tape, hb3.output, hb3.size, hb3.block⟩)⟩
end Go.Proofs.YtnadjcmfmbjnnaaDoor.crcThree

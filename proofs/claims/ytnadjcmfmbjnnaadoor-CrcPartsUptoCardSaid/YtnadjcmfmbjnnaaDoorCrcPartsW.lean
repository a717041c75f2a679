/-
  The walk of the law CrcParts: two parts, one behind the other, or all at once.
-/
import Derived.Test.YtnadjcmfmbjnnaaDoorLive2
namespace Go.Proofs.YtnadjcmfmbjnnaaDoor.crcParts
open Go.RowKit
open Go.Proofs.YtnadjcmfmbjnnaaDoor.crcnum Go.Proofs.YtnadjcmfmbjnnaaDoor.words

set_option maxRecDepth 20000 in
set_option maxHeartbeats 800000 in
theorem walk (a : Int) (A : Option Addr) (n c : Nat) (l : List Nat) (C : Option Addr) (m d : Nat) (k : List Nat) (w : World) (a1 : 0 ≤ a) (a2 : a ≤ 4294967295)
    (hr : Rd w A (B l)) (hl : l.length = n) (_ : n ≤ c) (hby : ∀ x ∈ l, x < 256) (_ : n * 1 ≤ 140737488351232)
    (kr : Rd w C (B k)) (kl : k.length = m) (_ : m ≤ d) (kby : ∀ x ∈ k, x < 256) (_ : m * 1 ≤ 140737488351232) (hsum : n + m ≤ 1048576) (ht : crc.Tab w) :
    Calls Tryd.prog 4 #[.int .u32 a, .slice A n c, .slice C m d] w fun e w' => e = .returned (.bool true) ∧ Below w.heap.size w w' := by
  obtain ⟨s, rfl⟩ := Int.eq_ofNat_of_zero_le a1
  have hs : s < 4294967296 := by omega
  obtain ⟨i0, hi0, hz0, hz1, hz2⟩ := info_parts put.info5
  have D := fun w h1 h2 => crc.add_any s A n c l w h1 hs h2 hl (by omega) hby
  have D2 := fun w h1 h2 => crc.add_any (addL s l) C m d k w h1 (addL_lt hs l hby) h2 kl (by omega) kby
  have D3 := fun X cx w h1 h2 => crc.add_any s X (n + m) cx (l ++ k) w h1 hs h2 (by simp only [List.length_append]; omega) (by omega) (fun x hx => (List.mem_append.1 hx).elim (hby x) (kby x))
  have D := Lib.hid D; have D2 := Lib.hid D2; have D3 := Lib.hid D3
  have HL := Lib.hid hl; have KL := Lib.hid kl
  clear hl kl hby kby hs
  go_enter Tryd.func4, Tryd.ntmps4
  go_wp2_with (first
    | (at_builtin; refine wpList_app _ rfl (.tmp 8) (.tmp 9) _ rfl w.heap.size 5 i0 _ 1 1 Tryd.underlying23 hi0 hz0 hz1 hz2 rfl (by omega) _ 0 [] rfl (World.ownsRow_nil _ _ _ _) A n c (B l) rfl (by rw [B_len, HL.out]; omega) hr (B_one l) (by simp only [maxLen]; omega) (by omega) (by omega) ?_; intro v1 w1 hown1 hg1 hb1 hat1; clear hg1 hat1; have hsz1 := hb1.size; have kr1 := kr.below hb1)
    | (at_builtin; refine wpList_app _ rfl (.tmp 11) (.tmp 12) _ rfl w.heap.size 5 i0 _ 1 1 Tryd.underlying23 hi0 hz0 hz1 hz2 rfl (by omega) _ _ _ rfl hown1 C m d (B k) rfl (by rw [B_len, KL.out]; omega) kr1 (B_one _) (by simp only [maxLen]; omega) (by omega) hsz1 ?_; intro v2 w2 hown2 hg2 hb2 hat2; clear hg2 hat2))
  rw [List.nil_append, Nat.zero_add, ← B_app] at hown2
  have hb3 := hb1.trans hb2
  refine (live2.live_any _ (ht.below hb3)).mono ?_
  rintro e w3 ⟨rfl, hb4⟩
  have hb5 := then_ hb3 (Nat.le_refl _) hb4
  have ht5 := ht.below hb5
  have hr5 := hr.below hb5
  have kr5 := kr.below hb5
  obtain ⟨X, cx, rfl, _, _, hrx⟩ := own_rd (own_below hown2 hb4)
  clear hown1 hown2 ht hr kr kr1 hb1 hb2 hb3 hb4 hsz1
  go_wp2_with fail
  refine (D.out _ ht5 hr5).mono ?_
  rintro e w' ⟨rfl, rfl⟩
  go_wp2_with fail
  refine (D2.out _ ht5 kr5).mono ?_
  rintro e w' ⟨rfl, rfl⟩
  go_wp2_with fail
  refine (D3.out X cx _ ht5 hrx).mono ?_
  rw [addL_app]
  rintro e w' ⟨rfl, rfl⟩
  go_wp2
  go_ret
  exact ⟨rfl, hb5⟩
end Go.Proofs.YtnadjcmfmbjnnaaDoor.crcParts

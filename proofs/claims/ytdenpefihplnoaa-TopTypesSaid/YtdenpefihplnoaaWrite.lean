/-
  What the program and the reference write: a text's bytes, a section's; and a reader that is opened; what is cloned.
-/
import Derived.Test.YtdenpefihplnoaaMeth2
import Derived.Test.YtdenpefihplnoaaSealR
import Derived.Lib.AppendStr
namespace Go.Proofs.Ytdenpefihplnoaa.write
open Go.RowKit
open Go.Proofs.Ytdenpefihplnoaa.num Go.Proofs.Ytdenpefihplnoaa.words Go.Proofs.Ytdenpefihplnoaa.rdnum Go.Proofs.Ytdenpefihplnoaa.rdr Go.Proofs.Ytdenpefihplnoaa.give Go.Proofs.Ytdenpefihplnoaa.reading Go.Proofs.Ytdenpefihplnoaa.meth Go.Proofs.Ytdenpefihplnoaa.sealing Go.Proofs.Ytdenpefihplnoaa.crcnum

/-- a text's bytes, as numbers -/
def N (s : ByteArray) : List Nat := s.data.toList.map (·.toNat)
theorem N_len (s : ByteArray) : (N s).length = s.size := by unfold N; rw [List.length_map, Array.length_toList]; rfl
theorem N_byte (s : ByteArray) : ∀ x ∈ N s, x < 256 := by
  intro x hx
  obtain ⟨y, _, rfl⟩ := List.mem_map.1 hx
  exact y.toNat_lt
theorem N_cells (s : ByteArray) : Lib.strCells s = B (N s) := by
  simp [N, B, Lib.strCells, List.map_map]
theorem S_N (s : ByteArray) : S (N s) = .string s := by
  unfold S N
  rw [List.map_map]
  have : (UInt8.ofNat ∘ fun x : UInt8 => x.toNat) = id := by funext x; simp
  rw [this]
  simp

set_option maxRecDepth 100000 in
set_option maxHeartbeats 400000 in
theorem bclone_any (A : Option Addr) (n c : Nat) (l : List Nat) (w : World) (hr : Rd w A (B l)) (hl : l.length = n) (hn : n ≤ 140737488355328) :
    Calls Try.prog 24 #[.slice A n c] w (put.New w l) := by
  obtain ⟨i0, hi0, hz0, hz1, hz2⟩ := info_parts put.info5
  have hlit := World.ownsRow_lit (base := w.heap.size) (e := 5) (size := 1) w #[] 0 (Nat.le_refl _) (by simp [maxLen]) rfl
  have heq := Lib.run_eql_slice_nil w 33 5 A n c 0 0 Try.underlying33
  have hL := Lib.hid hl; clear hl
  have hN := Lib.hid hn; clear hn
  rcases A with _ | a
  · have hnil : l = [] := by
      rcases hr with h | ⟨a, h, _⟩
      · simpa [B] using h
      · cases h
    have hres : put.New w l (.returned (.slice none 0 0)) w := by
      subst hnil
      exact ⟨_, rfl, World.ownsRow_nil _ _ _ _, Below.refl _ _⟩
    have HR := Lib.hid hres; clear hres hnil
    go_enter Try.func24, Try.ntmps24
    go_wp2
    go_ret
    exact HR.out
  · go_enter Try.func24, Try.ntmps24
    go_wp2_with (at_builtin; refine wpList_app _ rfl (.tmp 5) (.tmp 6) _ rfl w.heap.size 5 i0 _ 1 1 Try.underlying33 hi0 hz0 hz1 hz2 rfl (by omega) _ 0 [] rfl hlit (some a) n c (B l) rfl (by rw [B_len, hL.out]; omega) (hr.below ((Below.refl _ _).alloc (Nat.le_refl _) _)) (B_one l) (by have := hN.out; simp only [maxLen]; omega) (by have := hN.out; omega) (by simp) ?_; intro v' w1 hown1 hg1 hb1 hat1)
    go_ret
    refine ⟨v', rfl, ?_, (((Below.refl _ _).alloc (Nat.le_refl _) _).trans hb1)⟩
    rw [hL.out]
    simpa using hown1

/-- A READER OF BYTES, in a new block. -/
def Opened (R : World → Nat → Rs → Prop) (l : List Nat) (w : World) (e : Ending) (w' : World) : Prop :=
  ∃ g, e = .returned (.pointer (some ⟨g, 0, none⟩)) ∧ w.heap.size ≤ g ∧ R w' g ⟨l, 0, 0, 0⟩ ∧ Below w.heap.size w w'

set_option maxRecDepth 100000 in
set_option maxHeartbeats 400000 in
theorem open_w (A : Option Addr) (n c : Nat) (l : List Nat) (w : World) (hr : Rd w A (B l)) (hl : l.length = n) (hn : n ≤ 140737488355328) (hby : ∀ x ∈ l, x < 256) :
    Calls Try.prog 10 #[.slice A n c] w (Opened RW l w) := by
  have hk := bclone_any A n c l w hr hl hn
  have HK := Lib.hid hk; have HN := Lib.hid hn; have HL := Lib.hid hl; have HY := Lib.hid hby
  clear hk hn hl hby hr
  go_enter Try.func10, Try.ntmps10
  go_wp2_with fail
  refine HK.out.mono ?_
  rintro e w1 ⟨v, rfl, hown, hb⟩
  obtain ⟨A1, c1, rfl, hc1, _, _, hbs⟩ := own_bs hown
  have HB := Lib.hid hb; have HS := Lib.hid hbs; have HC := Lib.hid hc1
  clear hown hb hbs hc1
  go_wp2
  go_ret
  have hlen := HL.out
  have := HN.out
  exact ⟨_, rfl, HB.out.size, new_rw rfl HC.out HS.out (Nat.zero_le _) (by omega) HY.out, HB.out.alloc HB.out.size _⟩

set_option maxRecDepth 100000 in
set_option maxHeartbeats 400000 in
theorem length_any (n : Nat) (w : World) (hn : n ≤ 140737488355328) : Calls Try.prog 35 #[.int .i64 (n : Int)] w (put.New w (putL n)) := by
  have hk := put.put_any n w (by omega)
  have hw : IntKind.u64.wrap (n : Int) = n := by rw [IntKind.wrap_u64]; omega
  have HK := Lib.hid hk
  clear hk hn
  go_enter Try.func35, Try.ntmps35
  go_wp2_with fail
  refine HK.out.mono ?_
  rintro e w1 ⟨v, rfl, hown, hb⟩
  have HO := Lib.hid hown; have HB := Lib.hid hb
  clear hown hb
  go_wp2
  go_ret
  exact ⟨v, rfl, HO.out, HB.out⟩

/-- a text's bytes -/
def textL (l : List Nat) : List Nat := putL l.length ++ l
/-- a section's bytes -/
def sectL (id : Nat) (l : List Nat) : List Nat := id :: (putL l.length ++ sealL l)

set_option maxRecDepth 100000 in
set_option maxHeartbeats 400000 in
theorem text_w (s : ByteArray) (w : World) (hn : s.size ≤ 140737488351232) : Calls Try.prog 19 #[.string s] w (put.New w (textL (N s))) := by
  obtain ⟨i0, hi0, hz0, hz1, hz2⟩ := info_parts put.info5
  have hk := length_any s.size w (by omega)
  have h10 := putL_len10 s.size (by omega)
  have hL : (textL (N s)).length = (putL s.size).length + s.size := by unfold textL; rw [List.length_append, N_len]
  have hC : B (textL (N s)) = B (putL s.size) ++ Lib.strCells s := by unfold textL; rw [B_app, N_len, N_cells]
  have HK := Lib.hid hk; have HN := Lib.hid hn; have H10 := Lib.hid h10; have HL := Lib.hid hL; have HC := Lib.hid hC
  clear hk hn h10 hL hC
  go_enter Try.func19, Try.ntmps19
  go_wp2_with fail
  refine HK.out.mono ?_
  rintro e w1 ⟨v, rfl, hown, hb⟩
  have hbs := hb.size
  have HB := Lib.hid hb
  go_wp2_with (at_builtin; refine Lib.wpList_append_own_string _ rfl (.tmp 5) (.tmp 6) _ _ rfl w.heap.size 5 i0 Try.underlying33 Try.underlying9 hi0 hz0 hz1 hz2 v _ _ rfl hown s rfl (by have := HN.out; have := H10.out; simp only [maxLen]; omega) (by have := HN.out; have := H10.out; omega) hbs ?_; intro v' w2 hown2 hg2 hat2; clear hat2)
  have hb2 : Below w.heap.size w w2 := HB.out.grown hg2 hbs (fun k hk => (hown.lt k hk).1)
  have H2 := Lib.hid hb2; have HO := Lib.hid hown2
  clear hb2 hown2 hg2 hown hb
  go_wp2
  go_ret
  refine ⟨v', rfl, ?_, H2.out⟩
  rw [HL.out, HC.out]
  exact HO.out

end Go.Proofs.Ytdenpefihplnoaa.write

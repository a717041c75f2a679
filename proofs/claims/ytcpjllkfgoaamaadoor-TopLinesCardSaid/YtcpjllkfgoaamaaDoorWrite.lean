/-
  What the program and the reference write: a text's bytes, a section's; and a reader that is opened; what is cloned.
-/
import Derived.Test.YtcpjllkfgoaamaaDoorMeth2
import Derived.Test.YtcpjllkfgoaamaaDoorSealR
import Derived.Lib.AppendStr
namespace Go.Proofs.YtcpjllkfgoaamaaDoor.write
open Go.RowKit
open Go.Proofs.YtcpjllkfgoaamaaDoor.num Go.Proofs.YtcpjllkfgoaamaaDoor.words Go.Proofs.YtcpjllkfgoaamaaDoor.rdnum Go.Proofs.YtcpjllkfgoaamaaDoor.rdr Go.Proofs.YtcpjllkfgoaamaaDoor.give Go.Proofs.YtcpjllkfgoaamaaDoor.reading Go.Proofs.YtcpjllkfgoaamaaDoor.meth Go.Proofs.YtcpjllkfgoaamaaDoor.sealing Go.Proofs.YtcpjllkfgoaamaaDoor.crcnum

/-- a text's bytes, as numbers -/
def N (s : ByteArray) : List Nat := s.data.toList.map (·.toNat)
theorem N_len (s : ByteArray) : (N s).length = s.size := by unfold N; rw [List.length_map, Array.length_toList]; rfl
theorem N_byte (s : ByteArray) : ∀ x ∈ N s, x < 256 := by
  intro x hx
  obtain ⟨y, _, rfl⟩ := List.mem_map.1 hx
  exact y.toNat_lt
theorem N_cells (s : ByteArray) : Lib.strCells s = B (N s) := by
  simp [N, B, Lib.strCells, List.map_map]
theorem S_N (s : ByteArray) : S (N s) = .string s := by
  unfold S N
  rw [List.map_map]
  have : (UInt8.ofNat ∘ fun x : UInt8 => x.toNat) = id := by funext x; simp
  rw [this]
  simp

set_option maxRecDepth 100000 in
set_option maxHeartbeats 400000 in
theorem bclone_any (A : Option Addr) (n c : Nat) (l : List Nat) (w : World) (hr : Rd w A (B l)) (hl : l.length = n) (hn : n ≤ 140737488355328) :
    Calls Tryd.prog 55 #[.slice A n c] w (put.New w l) := by
  obtain ⟨i0, hi0, hz0, hz1, hz2⟩ := info_parts put.info5
  have hlit := World.ownsRow_lit (base := w.heap.size) (e := 5) (size := 1) w #[] 0 (Nat.le_refl _) (by simp [maxLen]) rfl
  have heq := Lib.run_eql_slice_nil w 48 5 A n c 0 0 Tryd.underlying48
  have hL := Lib.hid hl; clear hl
  have hN := Lib.hid hn; clear hn
  rcases A with _ | a
  · have hnil : l = [] := by
      rcases hr with h | ⟨a, h, _⟩
      · simpa [B] using h
      · cases h
    have hres : put.New w l (.returned (.slice none 0 0)) w := by
      subst hnil
      exact ⟨_, rfl, World.ownsRow_nil _ _ _ _, Below.refl _ _⟩
    have HR := Lib.hid hres; clear hres hnil
    go_enter Tryd.func55, Tryd.ntmps55
    go_wp2
    go_ret
    exact HR.out
  · go_enter Tryd.func55, Tryd.ntmps55
    go_wp2_with (at_builtin; refine wpList_app _ rfl (.tmp 5) (.tmp 6) _ rfl w.heap.size 5 i0 _ 1 1 Tryd.underlying48 hi0 hz0 hz1 hz2 rfl (by omega) _ 0 [] rfl hlit (some a) n c (B l) rfl (by rw [B_len, hL.out]; omega) (hr.below ((Below.refl _ _).alloc (Nat.le_refl _) _)) (B_one l) (by have := hN.out; simp only [maxLen]; omega) (by have := hN.out; omega) (by simp) ?_; intro v' w1 hown1 hg1 hb1 hat1)
    go_ret
    refine ⟨v', rfl, ?_, (((Below.refl _ _).alloc (Nat.le_refl _) _).trans hb1)⟩
    rw [hL.out]
    simpa using hown1

/-- A READER OF BYTES, in a new block. -/
def Opened (R : World → Nat → Rs → Prop) (l : List Nat) (w : World) (e : Ending) (w' : World) : Prop :=
  ∃ g, e = .returned (.pointer (some ⟨g, 0, none⟩)) ∧ w.heap.size ≤ g ∧ R w' g ⟨l, 0, 0, 0⟩ ∧ Below w.heap.size w w'

set_option maxRecDepth 100000 in
set_option maxHeartbeats 400000 in
theorem open_w (A : Option Addr) (n c : Nat) (l : List Nat) (w : World) (hr : Rd w A (B l)) (hl : l.length = n) (hn : n ≤ 140737488355328) (hby : ∀ x ∈ l, x < 256) :
    Calls Tryd.prog 37 #[.slice A n c] w (Opened RW l w) := by
  have hk := bclone_any A n c l w hr hl hn
  have HK := Lib.hid hk; have HN := Lib.hid hn; have HL := Lib.hid hl; have HY := Lib.hid hby
  clear hk hn hl hby hr
  go_enter Tryd.func37, Tryd.ntmps37
  go_wp2_with fail
  refine HK.out.mono ?_
  rintro e w1 ⟨v, rfl, hown, hb⟩
  obtain ⟨A1, c1, rfl, hc1, _, _, hbs⟩ := own_bs hown
  have HB := Lib.hid hb; have HS := Lib.hid hbs; have HC := Lib.hid hc1
  clear hown hb hbs hc1
  go_wp2
  go_ret
  have hlen := HL.out
  have := HN.out
  exact ⟨_, rfl, HB.out.size, new_rw rfl HC.out HS.out (Nat.zero_le _) (by omega) HY.out, HB.out.alloc HB.out.size _⟩

set_option maxRecDepth 100000 in
set_option maxHeartbeats 400000 in
theorem length_any (n : Nat) (w : World) (hn : n ≤ 140737488355328) : Calls Tryd.prog 54 #[.int .i64 (n : Int)] w (put.New w (putL n)) := by
  have hk := put.put_any n w (by omega)
  have hw : IntKind.u64.wrap (n : Int) = n := by rw [IntKind.wrap_u64]; omega
  have HK := Lib.hid hk
  clear hk hn
  go_enter Tryd.func54, Tryd.ntmps54
  go_wp2_with fail
  refine HK.out.mono ?_
  rintro e w1 ⟨v, rfl, hown, hb⟩
  have HO := Lib.hid hown; have HB := Lib.hid hb
  clear hown hb
  go_wp2
  go_ret
  exact ⟨v, rfl, HO.out, HB.out⟩

/-- a text's bytes -/
def textL (l : List Nat) : List Nat := putL l.length ++ l
/-- a section's bytes -/
def sectL (id : Nat) (l : List Nat) : List Nat := id :: (putL l.length ++ sealL l)

set_option maxRecDepth 100000 in
set_option maxHeartbeats 400000 in
theorem text_w (s : ByteArray) (w : World) (hn : s.size ≤ 140737488351232) : Calls Tryd.prog 36 #[.string s] w (put.New w (textL (N s))) := by
  obtain ⟨i0, hi0, hz0, hz1, hz2⟩ := info_parts put.info5
  have hk := length_any s.size w (by omega)
  have h10 := putL_len10 s.size (by omega)
  have hL : (textL (N s)).length = (putL s.size).length + s.size := by unfold textL; rw [List.length_append, N_len]
  have hC : B (textL (N s)) = B (putL s.size) ++ Lib.strCells s := by unfold textL; rw [B_app, N_len, N_cells]
  have HK := Lib.hid hk; have HN := Lib.hid hn; have H10 := Lib.hid h10; have HL := Lib.hid hL; have HC := Lib.hid hC
  clear hk hn h10 hL hC
  go_enter Tryd.func36, Tryd.ntmps36
  go_wp2_with fail
  refine HK.out.mono ?_
  rintro e w1 ⟨v, rfl, hown, hb⟩
  have hbs := hb.size
  have HB := Lib.hid hb
  go_wp2_with (at_builtin; refine Lib.wpList_append_own_string _ rfl (.tmp 5) (.tmp 6) _ _ rfl w.heap.size 5 i0 Tryd.underlying48 Tryd.underlying9 hi0 hz0 hz1 hz2 v _ _ rfl hown s rfl (by have := HN.out; have := H10.out; simp only [maxLen]; omega) (by have := HN.out; have := H10.out; omega) hbs ?_; intro v' w2 hown2 hg2 hat2; clear hat2)
  have hb2 : Below w.heap.size w w2 := HB.out.grown hg2 hbs (fun k hk => (hown.lt k hk).1)
  have H2 := Lib.hid hb2; have HO := Lib.hid hown2
  clear hb2 hown2 hg2 hown hb
  go_wp2
  go_ret
  refine ⟨v', rfl, ?_, H2.out⟩
  rw [HL.out, HC.out]
  exact HO.out

set_option maxRecDepth 100000 in
set_option maxHeartbeats 800000 in
/-- three slices, one behind the other -/
theorem concat3 (g : Nat) (A C D : Option Addr) (n c m d o f : Nat) (l k j : List Nat) (w : World) (hg : w.heap[g]? = some (.cells #[.slice A n c, .slice C m d, .slice D o f] 48 (0, 0))) (hr : Rd w A (B l)) (kr : Rd w C (B k)) (jr : Rd w D (B j))
    (hl : l.length = n) (kl : k.length = m) (jl : j.length = o) (h0 : 0 < n + m + o) (hn : n + m + o ≤ 140737488355328) :
    Calls Tryd.prog 56 #[.slice (some ⟨g, 0, none⟩) 3 3] w (put.New w (l ++ k ++ j)) := by
  obtain ⟨i0, hi0, hz0, hz1, hz2⟩ := info_parts put.info5
  have c0 : w.cell? ⟨g, 0, none⟩ = some (.slice A n c) := cell_of_row w g 0 _ _ (0, 0) hg
  have c1 : w.cell? ⟨g, 1, none⟩ = some (.slice C m d) := cell_of_row w g 1 _ _ (0, 0) hg
  have c2 : w.cell? ⟨g, 2, none⟩ = some (.slice D o f) := cell_of_row w g 2 _ _ (0, 0) hg
  have hnI : (n : Int) ≤ 140737488355328 := by omega
  have hmI : (m : Int) ≤ 140737488355328 := by omega
  have hoI : (o : Int) ≤ 140737488355328 := by omega
  have HN := Lib.hid hn; have H0 := Lib.hid h0; have HL := Lib.hid hl; have KL := Lib.hid kl; have JL := Lib.hid jl
  have hgl := blk_lt hg
  clear hn h0 hl kl jl
  go_enter Tryd.func56, Tryd.ntmps56
  go_wp2_with fail
  refine wp_loop_rounds 4 ?_
  rw [rounds_succ]
  go_wp2_with fail
  rw [rounds_succ]
  go_wp2_with fail
  rw [rounds_succ]
  go_wp2_with fail
  rw [rounds_succ]
  go_wp2_with fail
  have hgrow := sealing.grow_nil (n + m + o) w H0.out HN.out
  rw [Int.natCast_add, Int.natCast_add] at hgrow
  refine hgrow.mono ?_
  rintro e w1 ⟨v1, rfl, hown1, hb1⟩
  have hg1 : w1.heap[g]? = some (.cells #[.slice A n c, .slice C m d, .slice D o f] 48 (0, 0)) := (hb1.block g hgl).trans hg
  have d0 : w1.cell? ⟨g, 0, none⟩ = some (.slice A n c) := cell_of_row w1 g 0 _ _ (0, 0) hg1
  have hr1 := hr.below hb1
  have hsz1 := hb1.size
  have HG := Lib.hid hg
  clear hgrow c0 c1 c2 hg hg1 hr
  go_wp2_with fail
  refine wp_loop_rounds 4 ?_
  rw [rounds_succ]
  go_wp2_with (at_builtin; refine wpList_app _ rfl (.tmp 31) (.tmp 32) _ rfl w.heap.size 5 i0 _ 1 1 Tryd.underlying48 hi0 hz0 hz1 hz2 rfl (by omega) v1 0 [] rfl hown1 A n c (B l) rfl (by rw [B_len, HL.out]; omega) hr1 (B_one l) (by have := HN.out; simp only [maxLen]; omega) (by have := HN.out; omega) hsz1 ?_; intro v2 w2 hown2 hg2 hb2 hat2; clear hg2 hat2)
  rw [Nat.zero_add, List.nil_append] at hown2
  have hb3 := hb1.trans hb2
  have d1 : w2.cell? ⟨g, 1, none⟩ = some (.slice C m d) := cell_of_row w2 g 1 _ _ (0, 0) ((hb3.block g hgl).trans HG.out)
  have kr2 := kr.below hb3
  have hsz2 := hb3.size
  clear d0 hown1 hr1 kr
  rw [rounds_succ]
  go_wp2_with (at_builtin; refine wpList_app _ rfl (.tmp 31) (.tmp 32) _ rfl w.heap.size 5 i0 _ 1 1 Tryd.underlying48 hi0 hz0 hz1 hz2 rfl (by omega) v2 n (B l) rfl hown2 C m d (B k) rfl (by rw [B_len, KL.out]; omega) kr2 (B_one k) (by have := HN.out; simp only [maxLen]; omega) (by have := HN.out; omega) hsz2 ?_; intro v4 w4 hown4 hg4 hb4 hat4; clear hg4 hat4)
  have hb5 := hb3.trans hb4
  have d2 : w4.cell? ⟨g, 2, none⟩ = some (.slice D o f) := cell_of_row w4 g 2 _ _ (0, 0) ((hb5.block g hgl).trans HG.out)
  have jr4 := jr.below hb5
  have hsz4 := hb5.size
  clear d1 hown2 kr2 jr
  rw [rounds_succ]
  go_wp2_with (at_builtin; refine wpList_app _ rfl (.tmp 31) (.tmp 32) _ rfl w.heap.size 5 i0 _ 1 1 Tryd.underlying48 hi0 hz0 hz1 hz2 rfl (by omega) v4 (n + m) (B l ++ B k) rfl hown4 D o f (B j) rfl (by rw [B_len, JL.out]; omega) jr4 (B_one j) (by have := HN.out; simp only [maxLen]; omega) (by have := HN.out; omega) hsz4 ?_; intro v6 w6 hown6 hg6 hb6 hat6; clear hg6 hat6)
  rw [rounds_succ]
  go_wp2
  go_ret
  refine ⟨_, rfl, ?_, hb5.trans hb6⟩
  rw [List.length_append, List.length_append, HL.out, KL.out, JL.out, B_app, B_app]
  exact hown6

set_option maxRecDepth 100000 in
set_option maxHeartbeats 800000 in
theorem sect_w (id : Nat) (A : Option Addr) (n c : Nat) (l : List Nat) (w : World) (tab : crc.Tab w) (hr : Rd w A (B l)) (hl : l.length = n) (hn : n ≤ 140737488351232) (hby : ∀ x ∈ l, x < 256) :
    Calls Tryd.prog 38 #[.int .u8 (id : Int), .slice A n c] w (put.New w (sectL id l)) := by
  have h1 := fun w1 => length_any n w1 (by omega)
  have h2 := fun w1 t r => seal_any A n c l w1 t r hl hn hby
  have h10 := putL_len10 n (by omega)
  have hnI : (n : Int) ≤ 140737488355328 := by omega
  have H1 := Lib.hid h1; have H2 := Lib.hid h2; have H10 := Lib.hid h10; have HN := Lib.hid hn; have HL := Lib.hid hl
  have hb0 : Below w.heap.size w (w.alloc (Obj.cells #[Value.int .u8 (id : Int)] 5)) := (Below.refl _ _).alloc (Nat.le_refl _) _
  have HB0 := Lib.hid hb0
  clear h1 h2 h10 hn hl hby hb0
  go_enter Tryd.func38, Tryd.ntmps38
  go_wp2_with fail
  refine (H1.out _).mono ?_
  rintro e w1 ⟨v1, rfl, hown1, hb1⟩
  have hb01 := then_ HB0.out (Nat.le_refl _) hb1
  have HB01 := Lib.hid hb01
  obtain ⟨A1, c1, rfl, hc1, _, hrd1⟩ := own_rd hown1
  have hb1x := hb1.block w.heap.size (by simp)
  have hlt1 : w.heap.size < w1.heap.size := by have := hb1.size; simp at this; omega
  have hb01sz := hb01.size
  clear hown1 hb1 hb01
  go_wp2_with fail
  refine (H2.out _ (tab.below HB01.out) (hr.below HB01.out)).mono ?_
  rintro e w2 ⟨v2, rfl, hown2, hb2⟩
  have hb02 := then_ HB01.out (Nat.le_refl _) hb2
  have hrd1' := hrd1.below hb2
  have HB02 := Lib.hid hb02
  obtain ⟨A2, c2, rfl, hc2, _, hrd2⟩ := own_rd hown2
  have hb20 := hb2.mono hb01sz
  have hid : w2.heap[w.heap.size]? = some (.cells #[.int .u8 (id : Int)] 5 (0, 0)) :=
    (hb2.block _ hlt1).trans (hb1x.trans (heap_alloc_new w _))
  have hrd0 : Rd w2 (some ⟨w.heap.size, 0, none⟩) (B [id]) := rd_blk hid (k := 1) rfl
  have hb3 := hb02.alloc hb02.size (Obj.cells #[Value.slice (some ⟨w.heap.size, 0, none⟩) 1 1, Value.slice A1 (putL n).length c1, Value.slice A2 (sealL l).length c2] 48)
  have hbx := (Below.refl w2.heap.size w2).alloc (Nat.le_refl _) (Obj.cells #[Value.slice (some ⟨w.heap.size, 0, none⟩) 1 1, Value.slice A1 (putL n).length c1, Value.slice A2 (sealL l).length c2] 48)
  have hsl : (sealL l).length = n + 4 := by rw [sealL_len, HL.out]
  have hc3 := concat3 w2.heap.size (some ⟨w.heap.size, 0, none⟩) A1 A2 1 1 (putL n).length c1 (sealL l).length c2 [id] (putL n) (sealL l) _ (heap_alloc_new w2 _) (hrd0.below hbx) (hrd1'.below hbx) (hrd2.below hbx) rfl rfl rfl (by omega) (by have := HN.out; have := H10.out; omega)
  have HC3 := Lib.hid hc3
  have HB3 := Lib.hid hb3
  clear hown2 hb2 hb02 hrd1 hb20 hid hrd0 hb3 hbx hsl hc3 hrd1' hrd2 hb1x hb01sz hlt1
  go_wp2_with fail
  refine HC3.out.mono ?_
  rintro e w3 ⟨v3, rfl, hown3, hb3⟩
  have HO3 := Lib.hid hown3
  have HB4 := Lib.hid hb3
  clear hown3 hb3
  go_wp2
  go_ret
  have he : sectL id l = [id] ++ putL n ++ sealL l := by unfold sectL; rw [HL.out]; simp
  rw [he]
  exact ⟨v3, rfl, own_base HO3.out HB3.out.size, then_ HB3.out (Nat.le_refl _) HB4.out⟩
end Go.Proofs.YtcpjllkfgoaamaaDoor.write

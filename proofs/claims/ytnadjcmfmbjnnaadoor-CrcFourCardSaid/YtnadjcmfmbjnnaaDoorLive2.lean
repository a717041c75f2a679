/-
  What the laws of layer 2 ask first, whatever is asked: the function 'live' answers true, and nothing that was there changes.
-/
import Derived.Test.YtnadjcmfmbjnnaaDoorOpen
import Derived.Lib.SlBytesConst
namespace Go.Proofs.YtnadjcmfmbjnnaaDoor.live2
open Go.RowKit
open Go.Proofs.YtnadjcmfmbjnnaaDoor.crcnum Go.Proofs.YtnadjcmfmbjnnaaDoor.words Go.Proofs.YtnadjcmfmbjnnaaDoor.sealing

theorem sum9 : sumL [49, 50, 51, 52, 53, 54, 55, 56, 57] = 3421780262 := by decide +kernel
theorem own_form {w : World} {base e n : Nat} {v : Value} {xs : List Value} (h : w.ownsRow base e 1 v n xs) (hn : 0 < n) : ∃ g cap, v = .slice (some ⟨g, 0, none⟩) n cap ∧ n ≤ cap ∧ ∀ j u, xs[j]? = some u → w.cell? ⟨g, j, none⟩ = some u := by
  rcases h.2 with ⟨_, h0⟩ | ⟨g, cap, cur, rfl, _, _, hnc, _⟩
  · omega
  · refine ⟨g, cap, rfl, hnc, fun j u hu => ?_⟩
    obtain ⟨hj, _⟩ := List.getElem?_eq_some_iff.1 hu
    rw [h.cellAt j (by have := h.1; omega)]
    exact hu
theorem rd_fz {w : World} {b t k : Nat} {f : Nat × Nat} {cs : Array Value} {xs : List Value} (h : w.heap[b]? = some (.cells cs t f)) (hx : cs.toList.take k = xs) : Rd w (some ⟨b, 0, none⟩) xs := by
  refine .inr ⟨_, rfl, blk_lt h, fun j u hu => ?_⟩
  rw [add_zero_off, cell_of_row w b j cs t f h]
  rw [← hx, List.getElem?_take] at hu
  split at hu
  · simpa using hu
  · cases hu
theorem run_str (W : World) (g cap : Nat) (h0 : W.cell? ⟨g, 0, none⟩ = some (.int .u8 97)) (h1 : W.cell? ⟨g, 1, none⟩ = some (.int .u8 98)) : (convert 23 9 (.slice (some ⟨g, 0, none⟩) 2 cap)).run Tryd.prog W = .ok (.string ⟨#[97, 98]⟩) W := by
  rw [run_convert_bytes_string W _ _ _ _ _ _ Tryd.underlying23 Tryd.underlying5 Tryd.underlying9]
  have hl := run_loadCells_list (P := Tryd.prog) W ⟨g, 0, none⟩ [.int .u8 97, .int .u8 98] (fun j v hj => by
    rw [add_zero_off]
    match j, hj with
    | 0, hj => rw [h0]; exact hj
    | 1, hj => rw [h1]; exact hj
    | j + 2, hj => simp at hj)
  rw [run_bytesToString W ⟨g, 0, none⟩ 2 cap [97, 98] hl]
  rfl
set_option maxRecDepth 20000 in
set_option maxHeartbeats 800000 in
theorem live_any (w : World) (ht : crc.Tab w) : Calls Tryd.prog 9 #[] w fun e w' => e = .returned (.bool true) ∧ Below w.heap.size w w' := by
  have kc := fun (w : World) (C : Array Value) (n c : Nat) => Lib.run_convert_bytes_const (P := Tryd.prog) w 23 5 C n c Tryd.underlying23 Tryd.underlying5
  go_enter Tryd.func9, Tryd.ntmps9
  go_wp2_with fail
  have ba : Below w.heap.size w (w.alloc (Obj.cells #[Value.int IntKind.u8 97, Value.int IntKind.u8 98] 5 (2, 3))) := (Below.refl _ _).alloc (Nat.le_refl _) _
  refine (seal_any (some ⟨w.heap.size, 0, none⟩) 2 2 [97, 98] _ (ht.below ba) (rd_fz (heap_alloc_new w _) (k := 2) rfl) rfl (by omega) (by decide)).mono ?_
  rintro e w1 ⟨v1, rfl, hown1, hb1⟩
  have hb1' := then_ ba (Nat.le_refl _) hb1
  obtain ⟨A1, c1, rfl, hc1, _, hrd1⟩ := own_rd hown1
  rw [show (sealL [97, 98]).length = 6 from rfl] at hc1 ⊢
  go_wp2_with fail
  refine (open_any A1 6 c1 (sealL [97, 98]) _ (ht.below hb1') hrd1 rfl hc1 (by omega) (sealL_byte (by decide))).mono ?_
  rw [open_seal]
  rintro e w2 ⟨v2, rfl, hown2, hb2⟩
  have hb2' := then_ hb1' (Nat.le_refl _) hb2
  clear hown1 hrd1 hb1 hb2 hb1'
  go_wp2_with fail
  refine (open_any none 0 0 [] _ (ht.below hb2') (Rd.nil _ _) rfl (Nat.le_refl _) (by omega) (by decide)).mono ?_
  rw [show openL [] = ([], 2) from rfl]
  rintro e w3 ⟨v3, rfl, hown3, hb3⟩
  have hb3' := then_ hb2' (Nat.le_refl _) hb3
  have hown4 := own_below hown2 hb3
  clear hown2 hown3 hb2' hb3
  go_wp2_with fail
  have bs := hb3'.alloc hb3'.size (Obj.cells #[Value.int IntKind.u8 49, Value.int IntKind.u8 50, Value.int IntKind.u8 51, Value.int IntKind.u8 52, Value.int IntKind.u8 53, Value.int IntKind.u8 54, Value.int IntKind.u8 55, Value.int IntKind.u8 56, Value.int IntKind.u8 57] 5 (9, 10))
  refine (crc.sum_any (some ⟨w3.heap.size, 0, none⟩) 9 9 [49, 50, 51, 52, 53, 54, 55, 56, 57] _ (ht.below bs) (rd_fz (heap_alloc_new w3 _) (k := 9) rfl) rfl (by omega) (by decide)).mono ?_
  rw [sum9]
  rintro e w4 ⟨rfl, rfl⟩
  have hown5 := hown4.alloc (Obj.cells #[Value.int IntKind.u8 49, Value.int IntKind.u8 50, Value.int IntKind.u8 51, Value.int IntKind.u8 52, Value.int IntKind.u8 53, Value.int IntKind.u8 54, Value.int IntKind.u8 55, Value.int IntKind.u8 56, Value.int IntKind.u8 57] 5 (9, 10))
  obtain ⟨g, cap, rfl, hcap, hcells⟩ := own_form hown5 (by decide)
  have q0 := hcells 0 _ rfl
  have q1 := hcells 1 _ rfl
  clear hcells hown4 hown5 hb3'
  have HB := Lib.hid bs
  clear bs ba
  have hs1 := run_str _ g cap q0 q1
  have hneg := crc.end_any 4294967295
  have HN := Lib.hid hneg
  clear hneg
  clear q0 q1
  go_wp2_with fail
  refine (crc.begin_any _).mono ?_
  rintro e w6 ⟨rfl, rfl⟩
  go_wp2_with fail
  refine (crc.begin_any _).mono ?_
  rintro e w6 ⟨rfl, rfl⟩
  go_wp2_with fail
  refine (HN.out _ (by omega)).mono ?_
  rw [show neg 4294967295 = 0 from rfl]
  rintro e w6 ⟨rfl, rfl⟩
  clear hs1
  go_wp2
  go_ret
  exact ⟨rfl, HB.out⟩
end Go.Proofs.YtnadjcmfmbjnnaaDoor.live2

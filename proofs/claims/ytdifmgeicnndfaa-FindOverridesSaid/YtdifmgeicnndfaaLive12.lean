/- Live12 -/
import Derived.Test.YtdifmgeicnndfaaFindY
import Derived.Test.YtdifmgeicnndfaaFindZ
import Derived.Test.YtdifmgeicnndfaaFindH
import Derived.Test.YtdifmgeicnndfaaHierE
namespace Go.Proofs.Ytdifmgeicnndfaa.find
open Go.RowKit
open words kindp opp op kind word prg sorts
set_option maxRecDepth 100000
set_option maxHeartbeats 32000000
set_option linter.all false
def l2I : InM := ⟨⟨23, 0, 0, 0, 0, [], [], [], []⟩, none, 0⟩
def l2M (b0 : Nat) (n : UInt8) (st : Bool) (rg : Int) : MeM := ⟨[n], [40, 41, 86], st, false, rg, [l2I], some ⟨b0, 0, none⟩, 1⟩
def l2F : FiM := ⟨[102], 2, [], false⟩
def l2A (b0 b3 b4 : Nat) : ClM := ⟨[65], [], false, false, [], none, 0, [l2F], some ⟨b3, 0, none⟩, 1, [l2M b0 109 false 1, l2M b0 115 true 0], some ⟨b4, 0, none⟩, 2⟩
def l2B : ClM := ⟨[66], [65], false, false, [], none, 0, [], none, 0, [], none, 0⟩
def l2P (b0 b3 b4 : Nat) : List ClM := [l2A b0 b3 b4, l2B]
def l2X (b0 b3 b4 b5 : Nat) : PrM := ⟨l2P b0 b3 b4, some ⟨b5, 0, none⟩, 2, [], none, 0, [], [], []⟩
def l2N : List Tx := [[], [65], [66]]
theorem l2_dis (b0 b3 b4 : Nat) : dispR (l2P b0 b3 b4) [66] [109] [40, 41, 86] = some [65] := by kernel_rfl
theorem l2_sta (b0 b3 b4 : Nat) : declR (fun m => m.st) (l2P b0 b3 b4) (supersL (l2P b0 b3 b4) [66]) [115] [40, 41, 86] = some [65] := by kernel_rfl
theorem l2_sup (b0 b3 b4 : Nat) : supersL (l2P b0 b3 b4) [66] = [[66], [65]] := by kernel_rfl
theorem l2_vir (b0 b3 b4 : Nat) (L2 : List Tx) : declR (fun m => !m.st) (l2P b0 b3 b4) (supersL (l2P b0 b3 b4) [66] ++ L2) [109] [40, 41, 86] = some [65] := by rw [l2_sup]; kernel_rfl
theorem l2_ini (b0 b3 b4 : Nat) : declR (fun m => m.st) (l2P b0 b3 b4) [[65]] clinit [40, 41, 86] = none := by kernel_rfl
theorem l2_fld (b0 b3 b4 : Nat) : firstFM (l2P b0 b3 b4) (supersL (l2P b0 b3 b4) [66]) [102] = some (l2A b0 b3 b4, 0) := by rw [l2_sup]; kernel_rfl
theorem l2_fof (b0 b3 b4 : Nat) : firstFM (l2P b0 b3 b4) [[65]] [102] = some (l2A b0 b3 b4, 0) := by kernel_rfl
theorem l2_get (b0 b3 b4 : Nat) : firstM (l2P b0 b3 b4) [[65]] [109] [40, 41, 86] = some (l2A b0 b3 b4, 0) := by kernel_rfl
theorem l2_up (b0 b3 b4 : Nat) : upL (l2P b0 b3 b4) [[66]] = [[66], [65]] := by kernel_rfl
theorem l2_anc (b0 b3 b4 : Nat) : (ancL (l2P b0 b3 b4) [66]).length ≤ 1000 := by unfold ancL; rw [srtT_len, l2_up]; decide
theorem l2_kn (b0 b3 b4 b5 : Nat) : KnH (l2X b0 b3 b4 b5) l2N := by
 refine ⟨by simp [l2X, l2P], fun c hc => ?_, by simp [l2N], fun s hs => ?_, fun c hc s hs => ?_⟩
 ·simp only [l2X, l2P, List.mem_cons, List.not_mem_nil, or_false] at hc
  rcases hc with rfl | rfl <;> simp [l2A, l2B]
 ·simp only [l2N, List.mem_cons, List.not_mem_nil, or_false] at hs
  rcases hs with rfl | rfl | rfl <;> simp
 ·simp only [l2X, l2P, List.mem_cons, List.not_mem_nil, or_false] at hc
  rcases hc with rfl | rfl <;> simp [abv, l2A, l2B] at hs <;> (try rcases hs with rfl | rfl) <;> simp_all [l2N]
theorem l2_gr (b0 b3 b4 b5 : Nat) : GrP (l2X b0 b3 b4 b5) := by
 refine ⟨⟨by simp [l2X, l2P], by simp [l2X]⟩, fun y hy => ?_⟩
 simp only [l2X, l2P, List.mem_cons, List.not_mem_nil, or_false] at hy
 rcases hy with rfl | rfl
 ·refine ⟨⟨by simp [l2A], by simp [l2A], by simp [l2A], by simp [l2A], by simp [l2A]⟩, fun m hm => ?_⟩
  simp only [l2A, List.mem_cons, List.not_mem_nil, or_false] at hm
  rcases hm with rfl | rfl <;>
  · refine ⟨⟨by simp [l2M], by simp [l2M], by simp [l2M]⟩, fun i hi => ?_⟩
    simp only [l2M, List.mem_cons, List.not_mem_nil, or_false] at hi
    subst hi
    exact ⟨by simp [l2I], by simp [l2I], by simp [l2I], by simp [l2I]⟩
 ·exact ⟨⟨by simp [l2B], by simp [l2B], by simp [l2B], by simp [l2B], by simp [l2B]⟩, fun m hm => by cases hm⟩
theorem l2_ok {w : World} {b0 b3 b4 b5 t0 t3 t4 t5 : Nat} (h0 : w.heap[b0]? = some (.cells ([l2I].flatMap inC).toArray t0 (0, 0))) (h3 : w.heap[b3]? = some (.cells ([l2F].flatMap fiC).toArray t3 (0, 0))) (h4 : w.heap[b4]? = some (.cells ([l2M b0 109 false 1, l2M b0 115 true 0].flatMap meC).toArray t4 (0, 0))) (h5 : w.heap[b5]? = some (.cells ((l2P b0 b3 b4).flatMap clC).toArray t5 (0, 0))) : PrOk w (l2X b0 b3 b4 b5) := by
 refine ⟨⟨by simp [l2X, l2P], rd_blk h5 (k := 14) rfl⟩, ⟨Nat.zero_le _, Rd.nil _ _⟩, fun y hy => ?_⟩
 simp only [l2X, l2P, List.mem_cons, List.not_mem_nil, or_false] at hy
 rcases hy with rfl | rfl
 ·refine ⟨⟨Nat.zero_le _, Rd.nil _ _⟩, ⟨Nat.le_refl _, rd_blk h3 (k := 4) rfl⟩, ⟨Nat.le_refl _, rd_blk h4 (k := 12) rfl⟩, fun m hm => ?_⟩
  simp only [l2A, List.mem_cons, List.not_mem_nil, or_false] at hm
  rcases hm with rfl | rfl <;>
  · refine ⟨Nat.le_refl _, rd_blk h0 (k := 9) rfl, fun i hi => ?_⟩
    simp only [l2M, List.mem_cons, List.not_mem_nil, or_false] at hi
    subst hi
    exact ⟨Nat.zero_le _, Rd.nil _ _⟩
 ·exact ⟨⟨Nat.zero_le _, Rd.nil _ _⟩, ⟨Nat.zero_le _, Rd.nil _ _⟩, ⟨Nat.zero_le _, Rd.nil _ _⟩, fun y hy => by cases hy⟩
theorem live_f (w : World) : Calls Try.prog 9 #[] w fun e w' => e = .returned (.bool true) ∧ Below w.heap.size w w' := by
 obtain ⟨W1, hW1⟩ : ∃ v, v = w.alloc (.cells #[.int .i64 23, .int .i64 0, .int .i64 0, .int .i64 0, .int .i64 0, .string ⟨#[]⟩, .string ⟨#[]⟩, .string ⟨#[]⟩, .slice none 0 0] 90) := ⟨_, rfl⟩
 obtain ⟨W2, hW2⟩ : ∃ v, v = W1.alloc (.cells #[.string ⟨#[109]⟩, .string ⟨#[40, 41, 86]⟩, .bool false, .bool false, .int .i64 1, .slice (some ⟨w.heap.size, 0, none⟩) 1 1] 37) := ⟨_, rfl⟩
 obtain ⟨W3, hW3⟩ : ∃ v, v = W2.alloc (.cells #[.string ⟨#[115]⟩, .string ⟨#[40, 41, 86]⟩, .bool true, .bool false, .int .i64 0, .slice (some ⟨w.heap.size, 0, none⟩) 1 1] 37) := ⟨_, rfl⟩
 obtain ⟨W4, hW4⟩ : ∃ v, v = W3.alloc (.cells #[.string ⟨#[102]⟩, .int .i64 2, .string ⟨#[]⟩, .bool false] 92) := ⟨_, rfl⟩
 obtain ⟨W5, hW5⟩ : ∃ v, v = W4.alloc (.cells #[.string ⟨#[109]⟩, .string ⟨#[40, 41, 86]⟩, .bool false, .bool false, .int .i64 1, .slice (some ⟨w.heap.size, 0, none⟩) 1 1, .string ⟨#[115]⟩, .string ⟨#[40, 41, 86]⟩, .bool true, .bool false, .int .i64 0, .slice (some ⟨w.heap.size, 0, none⟩) 1 1] 37) := ⟨_, rfl⟩
 obtain ⟨W6, hW6⟩ : ∃ v, v = W5.alloc (.cells #[.string ⟨#[65]⟩, .string ⟨#[]⟩, .bool false, .bool false, .slice none 0 0, .slice (some ⟨(w.heap.size + 1 + 1 + 1), 0, none⟩) 1 1, .slice (some ⟨(w.heap.size + 1 + 1 + 1 + 1), 0, none⟩) 2 2, .string ⟨#[66]⟩, .string ⟨#[65]⟩, .bool false, .bool false, .slice none 0 0, .slice none 0 0, .slice none 0 0] 43) := ⟨_, rfl⟩
 obtain ⟨W7, hW7⟩ : ∃ v, v = W6.alloc (.cells #[.slice (some ⟨(w.heap.size + 1 + 1 + 1 + 1 + 1), 0, none⟩) 2 2, .slice none 0 0, .string ⟨#[]⟩, .string ⟨#[]⟩, .string ⟨#[]⟩] 27) := ⟨_, rfl⟩
 have s1 : W1.heap.size = w.heap.size + 1 := by rw [hW1]; simp
 have s2 : W2.heap.size = w.heap.size + 1 + 1 := by rw [hW2, ← s1]; simp
 have s3 : W3.heap.size = w.heap.size + 1 + 1 + 1 := by rw [hW3, ← s2]; simp
 have s4 : W4.heap.size = w.heap.size + 1 + 1 + 1 + 1 := by rw [hW4, ← s3]; simp
 have s5 : W5.heap.size = w.heap.size + 1 + 1 + 1 + 1 + 1 := by rw [hW5, ← s4]; simp
 have s6 : W6.heap.size = w.heap.size + 1 + 1 + 1 + 1 + 1 + 1 := by rw [hW6, ← s5]; simp
 have s7 : W7.heap.size = w.heap.size + 1 + 1 + 1 + 1 + 1 + 1 + 1 := by rw [hW7, ← s6]; simp
 have l1 : Below w.heap.size w W1 := by rw [hW1]; exact (Below.refl _ _).alloc (Nat.le_refl _) _
 have l2 : Below W1.heap.size W1 W2 := by rw [hW2]; exact (Below.refl _ _).alloc (Nat.le_refl _) _
 have l3 : Below W2.heap.size W2 W3 := by rw [hW3]; exact (Below.refl _ _).alloc (Nat.le_refl _) _
 have l4 : Below W3.heap.size W3 W4 := by rw [hW4]; exact (Below.refl _ _).alloc (Nat.le_refl _) _
 have l5 : Below W4.heap.size W4 W5 := by rw [hW5]; exact (Below.refl _ _).alloc (Nat.le_refl _) _
 have l6 : Below W5.heap.size W5 W6 := by rw [hW6]; exact (Below.refl _ _).alloc (Nat.le_refl _) _
 have l7 : Below W6.heap.size W6 W7 := by rw [hW7]; exact (Below.refl _ _).alloc (Nat.le_refl _) _
 have a0 : W1.heap[w.heap.size]? = some (.cells #[.int .i64 23, .int .i64 0, .int .i64 0, .int .i64 0, .int .i64 0, .string ⟨#[]⟩, .string ⟨#[]⟩, .string ⟨#[]⟩, .slice none 0 0] 90 (0, 0)) := by rw [hW1]; exact heap_alloc_new _ _
 have a1 : W2.heap[(w.heap.size + 1)]? = some (.cells #[.string ⟨#[109]⟩, .string ⟨#[40, 41, 86]⟩, .bool false, .bool false, .int .i64 1, .slice (some ⟨w.heap.size, 0, none⟩) 1 1] 37 (0, 0)) := by rw [← s1, hW2]; exact heap_alloc_new _ _
 have a2 : W3.heap[(w.heap.size + 1 + 1)]? = some (.cells #[.string ⟨#[115]⟩, .string ⟨#[40, 41, 86]⟩, .bool true, .bool false, .int .i64 0, .slice (some ⟨w.heap.size, 0, none⟩) 1 1] 37 (0, 0)) := by rw [← s2, hW3]; exact heap_alloc_new _ _
 have a3 : W4.heap[(w.heap.size + 1 + 1 + 1)]? = some (.cells #[.string ⟨#[102]⟩, .int .i64 2, .string ⟨#[]⟩, .bool false] 92 (0, 0)) := by rw [← s3, hW4]; exact heap_alloc_new _ _
 have a4 : W5.heap[(w.heap.size + 1 + 1 + 1 + 1)]? = some (.cells #[.string ⟨#[109]⟩, .string ⟨#[40, 41, 86]⟩, .bool false, .bool false, .int .i64 1, .slice (some ⟨w.heap.size, 0, none⟩) 1 1, .string ⟨#[115]⟩, .string ⟨#[40, 41, 86]⟩, .bool true, .bool false, .int .i64 0, .slice (some ⟨w.heap.size, 0, none⟩) 1 1] 37 (0, 0)) := by rw [← s4, hW5]; exact heap_alloc_new _ _
 have a5 : W6.heap[(w.heap.size + 1 + 1 + 1 + 1 + 1)]? = some (.cells #[.string ⟨#[65]⟩, .string ⟨#[]⟩, .bool false, .bool false, .slice none 0 0, .slice (some ⟨(w.heap.size + 1 + 1 + 1), 0, none⟩) 1 1, .slice (some ⟨(w.heap.size + 1 + 1 + 1 + 1), 0, none⟩) 2 2, .string ⟨#[66]⟩, .string ⟨#[65]⟩, .bool false, .bool false, .slice none 0 0, .slice none 0 0, .slice none 0 0] 43 (0, 0)) := by rw [← s5, hW6]; exact heap_alloc_new _ _
 have a6 : W7.heap[(w.heap.size + 1 + 1 + 1 + 1 + 1 + 1)]? = some (.cells #[.slice (some ⟨(w.heap.size + 1 + 1 + 1 + 1 + 1), 0, none⟩) 2 2, .slice none 0 0, .string ⟨#[]⟩, .string ⟨#[]⟩, .string ⟨#[]⟩] 27 (0, 0)) := by rw [← s6, hW7]; exact heap_alloc_new _ _
 have b0_2 := (l2.block _ (blk_lt a0)).trans a0
 have b0_3 := (l3.block _ (blk_lt b0_2)).trans b0_2
 have b0_4 := (l4.block _ (blk_lt b0_3)).trans b0_3
 have b0_5 := (l5.block _ (blk_lt b0_4)).trans b0_4
 have b0_6 := (l6.block _ (blk_lt b0_5)).trans b0_5
 have b0_7 := (l7.block _ (blk_lt b0_6)).trans b0_6
 have b0 := b0_7
 have b3_5 := (l5.block _ (blk_lt a3)).trans a3
 have b3_6 := (l6.block _ (blk_lt b3_5)).trans b3_5
 have b3_7 := (l7.block _ (blk_lt b3_6)).trans b3_6
 have b3 := b3_7
 have b4_6 := (l6.block _ (blk_lt a4)).trans a4
 have b4_7 := (l7.block _ (blk_lt b4_6)).trans b4_6
 have b4 := b4_7
 have b5_7 := (l7.block _ (blk_lt a5)).trans a5
 have b5 := b5_7
 have b6 := a6
 have hal : Below w.heap.size w W7 := then' (then' (then' (then' (then' (then' l1 l2) l3) l4) l5) l6) l7
 have hok : PrOk W7 (l2X w.heap.size (w.heap.size + 1 + 1 + 1) (w.heap.size + 1 + 1 + 1 + 1) (w.heap.size + 1 + 1 + 1 + 1 + 1)) := l2_ok b0 b3 b4 b5
 have HP := zh (show ∀ v : World, Below W7.heap.size W7 v → (v.cell? ⟨(w.heap.size + 1 + 1 + 1 + 1 + 1 + 1), 0, none⟩ = some (.slice (some ⟨(w.heap.size + 1 + 1 + 1 + 1 + 1), 0, none⟩) 2 2) ∧ v.cell? ⟨(w.heap.size + 1 + 1 + 1 + 1 + 1 + 1), 1, none⟩ = some (.slice none 0 0) ∧ v.cell? ⟨(w.heap.size + 1 + 1 + 1 + 1 + 1 + 1), 2, none⟩ = some (.string ⟨#[]⟩) ∧ v.cell? ⟨(w.heap.size + 1 + 1 + 1 + 1 + 1 + 1), 3, none⟩ = some (.string ⟨#[]⟩) ∧ v.cell? ⟨(w.heap.size + 1 + 1 + 1 + 1 + 1 + 1), 4, none⟩ = some (.string ⟨#[]⟩)) from fun v hv => pr_cells (x := (l2X w.heap.size (w.heap.size + 1 + 1 + 1) (w.heap.size + 1 + 1 + 1 + 1) (w.heap.size + 1 + 1 + 1 + 1 + 1))) ((hv.block _ (blk_lt b6)).trans b6))
 have C1 := zh (show ∀ v : World, Below W7.heap.size W7 v → Calls Try.prog 12 #[.agg #[.slice (some ⟨(w.heap.size + 1 + 1 + 1 + 1 + 1), 0, none⟩) 2 2, .slice none 0 0, .string ⟨#[]⟩, .string ⟨#[]⟩, .string ⟨#[]⟩], .string ⟨#[66]⟩, .string ⟨#[109]⟩, .string ⟨#[40, 41, 86]⟩] v (fun e w' => e = .returned (.tuple #[.agg #[.string ⟨#[65]⟩, .string ⟨#[109]⟩, .string ⟨#[40, 41, 86]⟩], .bool true]) ∧ Below v.heap.size v w') from fun v hv => by
   have h := dispatch_w (l2X w.heap.size (w.heap.size + 1 + 1 + 1) (w.heap.size + 1 + 1 + 1 + 1) (w.heap.size + 1 + 1 + 1 + 1 + 1)) [66] [109] [40, 41, 86] v (hok.below hv) (l2_gr _ _ _ _)
   rw [show (l2X w.heap.size (w.heap.size + 1 + 1 + 1) (w.heap.size + 1 + 1 + 1 + 1) (w.heap.size + 1 + 1 + 1 + 1 + 1)).cs = l2P w.heap.size (w.heap.size + 1 + 1 + 1) (w.heap.size + 1 + 1 + 1 + 1) from rfl, l2_dis] at h
   exact h)
 have C2 := zh (show ∀ v : World, Below W7.heap.size W7 v → Calls Try.prog 35 #[.agg #[.slice (some ⟨(w.heap.size + 1 + 1 + 1 + 1 + 1), 0, none⟩) 2 2, .slice none 0 0, .string ⟨#[]⟩, .string ⟨#[]⟩, .string ⟨#[]⟩], .agg #[.string ⟨#[66]⟩, .string ⟨#[115]⟩, .string ⟨#[40, 41, 86]⟩]] v (fun e w' => e = .returned (.tuple #[.agg #[.string ⟨#[65]⟩, .string ⟨#[115]⟩, .string ⟨#[40, 41, 86]⟩], .bool true]) ∧ Below v.heap.size v w') from fun v hv => by
   have h := static_w (l2X w.heap.size (w.heap.size + 1 + 1 + 1) (w.heap.size + 1 + 1 + 1 + 1) (w.heap.size + 1 + 1 + 1 + 1 + 1)) [66] [115] [40, 41, 86] v (hok.below hv) (l2_gr _ _ _ _)
   rw [show (l2X w.heap.size (w.heap.size + 1 + 1 + 1) (w.heap.size + 1 + 1 + 1 + 1) (w.heap.size + 1 + 1 + 1 + 1 + 1)).cs = l2P w.heap.size (w.heap.size + 1 + 1 + 1) (w.heap.size + 1 + 1 + 1 + 1) from rfl, l2_sta] at h
   exact h)
 have C3 := zh (show ∀ v : World, Below W7.heap.size W7 v → Calls Try.prog 36 #[.agg #[.slice (some ⟨(w.heap.size + 1 + 1 + 1 + 1 + 1), 0, none⟩) 2 2, .slice none 0 0, .string ⟨#[]⟩, .string ⟨#[]⟩, .string ⟨#[]⟩], .agg #[.string ⟨#[66]⟩, .string ⟨#[102]⟩]] v (fun e w' => e = .returned (.tuple #[.agg #[.string ⟨#[65]⟩, .string ⟨#[102]⟩], .bool true]) ∧ Below v.heap.size v w') from fun v hv => by
   refine (fieldS_w (l2X w.heap.size (w.heap.size + 1 + 1 + 1) (w.heap.size + 1 + 1 + 1 + 1) (w.heap.size + 1 + 1 + 1 + 1 + 1)) [66] [102] v (hok.below hv) (l2_gr _ _ _ _)).mono ?_
   rintro e w' ⟨⟨a, b, ok, rfl, h⟩, hb⟩
   unfold FieldR at h
   rw [show (l2X w.heap.size (w.heap.size + 1 + 1 + 1) (w.heap.size + 1 + 1 + 1 + 1) (w.heap.size + 1 + 1 + 1 + 1 + 1)).cs = l2P w.heap.size (w.heap.size + 1 + 1 + 1) (w.heap.size + 1 + 1 + 1 + 1) from rfl, l2_fld] at h
   obtain ⟨rfl, rfl, rfl⟩ := h
   exact ⟨rfl, hb⟩)
 have C4 := zh (show ∀ v : World, Below W7.heap.size W7 v → Calls Try.prog 37 #[.agg #[.slice (some ⟨(w.heap.size + 1 + 1 + 1 + 1 + 1), 0, none⟩) 2 2, .slice none 0 0, .string ⟨#[]⟩, .string ⟨#[]⟩, .string ⟨#[]⟩], .agg #[.string ⟨#[66]⟩, .string ⟨#[109]⟩, .string ⟨#[40, 41, 86]⟩]] v (fun e w' => e = .returned (.tuple #[.agg #[.string ⟨#[65]⟩, .string ⟨#[109]⟩, .string ⟨#[40, 41, 86]⟩], .bool true]) ∧ Below v.heap.size v w') from fun v hv => by
   have h := virtual_w (l2X w.heap.size (w.heap.size + 1 + 1 + 1) (w.heap.size + 1 + 1 + 1 + 1) (w.heap.size + 1 + 1 + 1 + 1 + 1)) [66] (ancL (l2X w.heap.size (w.heap.size + 1 + 1 + 1) (w.heap.size + 1 + 1 + 1 + 1) (w.heap.size + 1 + 1 + 1 + 1 + 1)).cs [66]) (l2_anc _ _ _) v (hok.below hv) (l2_gr _ _ _ _) (fun u hu => ancestors_w (l2X w.heap.size (w.heap.size + 1 + 1 + 1) (w.heap.size + 1 + 1 + 1 + 1) (w.heap.size + 1 + 1 + 1 + 1 + 1)) l2N [66] u hu (l2_kn _ _ _ _) (by simp [l2N]))
   rw [show (l2X w.heap.size (w.heap.size + 1 + 1 + 1) (w.heap.size + 1 + 1 + 1 + 1) (w.heap.size + 1 + 1 + 1 + 1 + 1)).cs = l2P w.heap.size (w.heap.size + 1 + 1 + 1) (w.heap.size + 1 + 1 + 1 + 1) from rfl, l2_vir] at h
   exact h)
 have C5 := zh (show ∀ v : World, Below W7.heap.size W7 v → Calls Try.prog 38 #[.agg #[.slice (some ⟨(w.heap.size + 1 + 1 + 1 + 1 + 1), 0, none⟩) 2 2, .slice none 0 0, .string ⟨#[]⟩, .string ⟨#[]⟩, .string ⟨#[]⟩], .string ⟨#[65]⟩] v (fun e w' => e = .returned (.tuple #[.agg #[.string ⟨#[]⟩, .string ⟨#[]⟩, .string ⟨#[]⟩], .bool false]) ∧ Below v.heap.size v w') from fun v hv => by
   have h := init_w (l2X w.heap.size (w.heap.size + 1 + 1 + 1) (w.heap.size + 1 + 1 + 1 + 1) (w.heap.size + 1 + 1 + 1 + 1 + 1)) [65] v (hok.below hv) (l2_gr _ _ _ _)
   rw [show (l2X w.heap.size (w.heap.size + 1 + 1 + 1) (w.heap.size + 1 + 1 + 1 + 1) (w.heap.size + 1 + 1 + 1 + 1 + 1)).cs = l2P w.heap.size (w.heap.size + 1 + 1 + 1) (w.heap.size + 1 + 1 + 1 + 1) from rfl, l2_ini] at h
   exact h)
 have C6 := zh (show ∀ v : World, Below W7.heap.size W7 v → Calls Try.prog 13 #[.agg #[.slice (some ⟨(w.heap.size + 1 + 1 + 1 + 1 + 1), 0, none⟩) 2 2, .slice none 0 0, .string ⟨#[]⟩, .string ⟨#[]⟩, .string ⟨#[]⟩], .agg #[.string ⟨#[65]⟩, .string ⟨#[109]⟩, .string ⟨#[40, 41, 86]⟩]] v (fun e w' => (∃ k : MeM, e = .returned (.tuple #[.agg #[.string ⟨#[109]⟩, .string ⟨k.ds.toArray⟩, .bool k.st, .bool k.ab, .int .i64 k.rg, .slice k.A k.co.length k.c], .bool true])) ∧ Below v.heap.size v w') from fun v hv => by
   refine (get_w (l2X w.heap.size (w.heap.size + 1 + 1 + 1) (w.heap.size + 1 + 1 + 1 + 1) (w.heap.size + 1 + 1 + 1 + 1 + 1)) [65] [109] [40, 41, 86] v (hok.below hv) (l2_gr _ _ _ _)).mono ?_
   rintro e w' ⟨⟨k, ok, rfl, h⟩, hb⟩
   unfold GetR at h
   rw [show (l2X w.heap.size (w.heap.size + 1 + 1 + 1) (w.heap.size + 1 + 1 + 1 + 1) (w.heap.size + 1 + 1 + 1 + 1 + 1)).cs = l2P w.heap.size (w.heap.size + 1 + 1 + 1) (w.heap.size + 1 + 1 + 1 + 1) from rfl, l2_get] at h
   obtain ⟨rfl, m, hm, hk⟩ := h
   have hm2 : l2M w.heap.size 109 false 1 = m := by simpa [l2A] using hm
   subst hm2
   have hn : k.nm = [109] := congrArg (fun z : MeP => z.nm) hk
   refine ⟨⟨k, ?_⟩, hb⟩
   unfold meC
   rw [hn])
 have C7 := zh (show ∀ v : World, Below W7.heap.size W7 v → Calls Try.prog 39 #[.agg #[.slice (some ⟨(w.heap.size + 1 + 1 + 1 + 1 + 1), 0, none⟩) 2 2, .slice none 0 0, .string ⟨#[]⟩, .string ⟨#[]⟩, .string ⟨#[]⟩], .agg #[.string ⟨#[65]⟩, .string ⟨#[102]⟩]] v (fun e w' => e = .returned (.tuple #[.agg #[.string ⟨#[102]⟩, .int .i64 2, .string ⟨#[]⟩, .bool false], .bool true]) ∧ Below v.heap.size v w') from fun v hv => by
   refine (fieldOf_w (l2X w.heap.size (w.heap.size + 1 + 1 + 1) (w.heap.size + 1 + 1 + 1 + 1) (w.heap.size + 1 + 1 + 1 + 1 + 1)) [65] [102] v (hok.below hv) (l2_gr _ _ _ _)).mono ?_
   rintro e w' ⟨⟨m, ok, rfl, h⟩, hb⟩
   unfold FieldOfR at h
   rw [show (l2X w.heap.size (w.heap.size + 1 + 1 + 1) (w.heap.size + 1 + 1 + 1 + 1) (w.heap.size + 1 + 1 + 1 + 1 + 1)).cs = l2P w.heap.size (w.heap.size + 1 + 1 + 1) (w.heap.size + 1 + 1 + 1 + 1) from rfl, l2_fof] at h
   obtain ⟨rfl, hm⟩ := h
   have hm2 : l2F = m := by simpa [l2A] using hm
   subst hm2
   exact ⟨rfl, hb⟩)
 have HAL := zh hal
 have HW1 := zh hW1
 have HW2 := zh hW2
 have HW3 := zh hW3
 have HW4 := zh hW4
 have HW5 := zh hW5
 have HW6 := zh hW6
 have HW7 := zh hW7
 clear hok hal hW1 s1 l1 a0 hW2 s2 l2 a1 hW3 s3 l3 a2 hW4 s4 l4 a3 hW5 s5 l5 a4 hW6 s6 l6 a5 hW7 s7 l7 a6 b0 b3 b4 b5 b6 b0_2 b0_3 b0_4 b0_5 b0_6 b0_7 b3_5 b3_6 b3_7 b4_6 b4_7 b5_7
 go_enter Try.func9, Try.ntmps9
 go_wp2_with fail
 rw [← HW1.out, ← HW2.out, ← HW3.out, ← HW4.out, ← HW5.out, ← HW6.out, ← HW7.out]
 have B7 := zh (Below.refl W7.heap.size W7)
 refine (C1.out _ B7.out).mono ?_
 rintro e u1 ⟨rfl, hb⟩
 obtain ⟨x1, hx1⟩ : ∃ q, q = u1.heap.size := ⟨_, rfl⟩
 obtain ⟨V1, hV1⟩ : ∃ v, v = u1.alloc (.cells #[.string ⟨#[65]⟩, .string ⟨#[109]⟩, .string ⟨#[40, 41, 86]⟩] 25) := ⟨_, rfl⟩
 have hbv : Below u1.heap.size u1 V1 := by rw [hV1]; exact (Below.refl _ _).alloc (Nat.le_refl _) _
 have D1 := zh (show Below W7.heap.size W7 V1 from then' (then' B7.out (show Below W7.heap.size W7 u1 from hb)) hbv)
 have r1 : V1.heap[x1]? = some (.cells #[.string ⟨#[65]⟩, .string ⟨#[109]⟩, .string ⟨#[40, 41, 86]⟩] 25 (0, 0)) := by rw [hV1, hx1]; exact heap_alloc_new _ _
 have X1 := zh r1
 have P1 := zh (HP.out _ D1.out)
 have HV1 := zh hV1; have HX1 := zh hx1
 clear r1 hb hbv
 obtain ⟨p0, p1, p2, p3, p4⟩ := P1.out
 rw [hV1] at p0 p1 p2 p3 p4
 clear hV1
 go_wp2_with fail
 try rw [← HX1.out]
 rw [← HV1.out]
 clear p0 p1 p2 p3 p4 hx1
 refine (C2.out _ D1.out).mono ?_
 rintro e u2 ⟨rfl, hb⟩
 obtain ⟨x2, hx2⟩ : ∃ q, q = u2.heap.size := ⟨_, rfl⟩
 obtain ⟨V2, hV2⟩ : ∃ v, v = u2.alloc (.cells #[.string ⟨#[65]⟩, .string ⟨#[115]⟩, .string ⟨#[40, 41, 86]⟩] 25) := ⟨_, rfl⟩
 have hbv : Below u2.heap.size u2 V2 := by rw [hV2]; exact (Below.refl _ _).alloc (Nat.le_refl _) _
 have D2 := zh (show Below W7.heap.size W7 V2 from then' (then' D1.out (show Below V1.heap.size V1 u2 from hb)) hbv)
 have r2 : V2.heap[x2]? = some (.cells #[.string ⟨#[65]⟩, .string ⟨#[115]⟩, .string ⟨#[40, 41, 86]⟩] 25 (0, 0)) := by rw [hV2, hx2]; exact heap_alloc_new _ _
 have X2 := zh r2
 have X1 := zh (show V2.heap[x1]? = some (.cells #[.string ⟨#[65]⟩, .string ⟨#[109]⟩, .string ⟨#[40, 41, 86]⟩] 25 (0, 0)) from by
  have e1 := ((show Below V1.heap.size V1 u2 from hb).block _ (blk_lt X1.out)).trans X1.out
  exact (hbv.block _ (blk_lt e1)).trans e1)
 have P2 := zh (HP.out _ D2.out)
 have HV2 := zh hV2; have HX2 := zh hx2
 clear r2 hb hbv
 obtain ⟨p0, p1, p2, p3, p4⟩ := P2.out
 rw [hV2] at p0 p1 p2 p3 p4
 clear hV2
 go_wp2_with fail
 try rw [← HX2.out]
 rw [← HV2.out]
 clear p0 p1 p2 p3 p4 hx2
 refine (C3.out _ D2.out).mono ?_
 rintro e u3 ⟨rfl, hb⟩
 obtain ⟨x3, hx3⟩ : ∃ q, q = u3.heap.size := ⟨_, rfl⟩
 obtain ⟨V3, hV3⟩ : ∃ v, v = u3.alloc (.cells #[.string ⟨#[65]⟩, .string ⟨#[102]⟩] 67) := ⟨_, rfl⟩
 have hbv : Below u3.heap.size u3 V3 := by rw [hV3]; exact (Below.refl _ _).alloc (Nat.le_refl _) _
 have D3 := zh (show Below W7.heap.size W7 V3 from then' (then' D2.out (show Below V2.heap.size V2 u3 from hb)) hbv)
 have r3 : V3.heap[x3]? = some (.cells #[.string ⟨#[65]⟩, .string ⟨#[102]⟩] 67 (0, 0)) := by rw [hV3, hx3]; exact heap_alloc_new _ _
 have X3 := zh r3
 have X1 := zh (show V3.heap[x1]? = some (.cells #[.string ⟨#[65]⟩, .string ⟨#[109]⟩, .string ⟨#[40, 41, 86]⟩] 25 (0, 0)) from by
  have e1 := ((show Below V2.heap.size V2 u3 from hb).block _ (blk_lt X1.out)).trans X1.out
  exact (hbv.block _ (blk_lt e1)).trans e1)
 have X2 := zh (show V3.heap[x2]? = some (.cells #[.string ⟨#[65]⟩, .string ⟨#[115]⟩, .string ⟨#[40, 41, 86]⟩] 25 (0, 0)) from by
  have e1 := ((show Below V2.heap.size V2 u3 from hb).block _ (blk_lt X2.out)).trans X2.out
  exact (hbv.block _ (blk_lt e1)).trans e1)
 have P3 := zh (HP.out _ D3.out)
 have HV3 := zh hV3; have HX3 := zh hx3
 clear r3 hb hbv
 obtain ⟨p0, p1, p2, p3, p4⟩ := P3.out
 rw [hV3] at p0 p1 p2 p3 p4
 clear hV3
 go_wp2_with fail
 try rw [← HX3.out]
 rw [← HV3.out]
 clear p0 p1 p2 p3 p4 hx3
 refine (C4.out _ D3.out).mono ?_
 rintro e u4 ⟨rfl, hb⟩
 obtain ⟨x4, hx4⟩ : ∃ q, q = u4.heap.size := ⟨_, rfl⟩
 obtain ⟨V4, hV4⟩ : ∃ v, v = u4.alloc (.cells #[.string ⟨#[65]⟩, .string ⟨#[109]⟩, .string ⟨#[40, 41, 86]⟩] 25) := ⟨_, rfl⟩
 have hbv : Below u4.heap.size u4 V4 := by rw [hV4]; exact (Below.refl _ _).alloc (Nat.le_refl _) _
 have D4 := zh (show Below W7.heap.size W7 V4 from then' (then' D3.out (show Below V3.heap.size V3 u4 from hb)) hbv)
 have r4 : V4.heap[x4]? = some (.cells #[.string ⟨#[65]⟩, .string ⟨#[109]⟩, .string ⟨#[40, 41, 86]⟩] 25 (0, 0)) := by rw [hV4, hx4]; exact heap_alloc_new _ _
 have X4 := zh r4
 have X1 := zh (show V4.heap[x1]? = some (.cells #[.string ⟨#[65]⟩, .string ⟨#[109]⟩, .string ⟨#[40, 41, 86]⟩] 25 (0, 0)) from by
  have e1 := ((show Below V3.heap.size V3 u4 from hb).block _ (blk_lt X1.out)).trans X1.out
  exact (hbv.block _ (blk_lt e1)).trans e1)
 have X2 := zh (show V4.heap[x2]? = some (.cells #[.string ⟨#[65]⟩, .string ⟨#[115]⟩, .string ⟨#[40, 41, 86]⟩] 25 (0, 0)) from by
  have e1 := ((show Below V3.heap.size V3 u4 from hb).block _ (blk_lt X2.out)).trans X2.out
  exact (hbv.block _ (blk_lt e1)).trans e1)
 have X3 := zh (show V4.heap[x3]? = some (.cells #[.string ⟨#[65]⟩, .string ⟨#[102]⟩] 67 (0, 0)) from by
  have e1 := ((show Below V3.heap.size V3 u4 from hb).block _ (blk_lt X3.out)).trans X3.out
  exact (hbv.block _ (blk_lt e1)).trans e1)
 have P4 := zh (HP.out _ D4.out)
 have HV4 := zh hV4; have HX4 := zh hx4
 clear r4 hb hbv
 obtain ⟨p0, p1, p2, p3, p4⟩ := P4.out
 rw [hV4] at p0 p1 p2 p3 p4
 clear hV4
 go_wp2_with fail
 try rw [← HX4.out]
 rw [← HV4.out]
 clear p0 p1 p2 p3 p4 hx4
 refine (C5.out _ D4.out).mono ?_
 rintro e u5 ⟨rfl, hb⟩
 obtain ⟨x5, hx5⟩ : ∃ q, q = u5.heap.size := ⟨_, rfl⟩
 obtain ⟨V5, hV5⟩ : ∃ v, v = u5.alloc (.cells #[.string ⟨#[]⟩, .string ⟨#[]⟩, .string ⟨#[]⟩] 25) := ⟨_, rfl⟩
 have hbv : Below u5.heap.size u5 V5 := by rw [hV5]; exact (Below.refl _ _).alloc (Nat.le_refl _) _
 have D5 := zh (show Below W7.heap.size W7 V5 from then' (then' D4.out (show Below V4.heap.size V4 u5 from hb)) hbv)
 have r5 : V5.heap[x5]? = some (.cells #[.string ⟨#[]⟩, .string ⟨#[]⟩, .string ⟨#[]⟩] 25 (0, 0)) := by rw [hV5, hx5]; exact heap_alloc_new _ _
 have X5 := zh r5
 have X1 := zh (show V5.heap[x1]? = some (.cells #[.string ⟨#[65]⟩, .string ⟨#[109]⟩, .string ⟨#[40, 41, 86]⟩] 25 (0, 0)) from by
  have e1 := ((show Below V4.heap.size V4 u5 from hb).block _ (blk_lt X1.out)).trans X1.out
  exact (hbv.block _ (blk_lt e1)).trans e1)
 have X2 := zh (show V5.heap[x2]? = some (.cells #[.string ⟨#[65]⟩, .string ⟨#[115]⟩, .string ⟨#[40, 41, 86]⟩] 25 (0, 0)) from by
  have e1 := ((show Below V4.heap.size V4 u5 from hb).block _ (blk_lt X2.out)).trans X2.out
  exact (hbv.block _ (blk_lt e1)).trans e1)
 have X3 := zh (show V5.heap[x3]? = some (.cells #[.string ⟨#[65]⟩, .string ⟨#[102]⟩] 67 (0, 0)) from by
  have e1 := ((show Below V4.heap.size V4 u5 from hb).block _ (blk_lt X3.out)).trans X3.out
  exact (hbv.block _ (blk_lt e1)).trans e1)
 have X4 := zh (show V5.heap[x4]? = some (.cells #[.string ⟨#[65]⟩, .string ⟨#[109]⟩, .string ⟨#[40, 41, 86]⟩] 25 (0, 0)) from by
  have e1 := ((show Below V4.heap.size V4 u5 from hb).block _ (blk_lt X4.out)).trans X4.out
  exact (hbv.block _ (blk_lt e1)).trans e1)
 have P5 := zh (HP.out _ D5.out)
 have HV5 := zh hV5; have HX5 := zh hx5
 clear r5 hb hbv
 obtain ⟨p0, p1, p2, p3, p4⟩ := P5.out
 have y1_0 := cell_of_row _ _ 0 _ _ _ X1.out
 have y1_1 := cell_of_row _ _ 1 _ _ _ X1.out
 have y1_2 := cell_of_row _ _ 2 _ _ _ X1.out
 rw [hV5] at p0 p1 p2 p3 p4 y1_0 y1_1 y1_2
 clear hV5
 go_wp2_with fail
 try rw [← HX5.out]
 rw [← HV5.out]
 clear p0 p1 p2 p3 p4 y1_0 y1_1 y1_2 hx5
 refine (C6.out _ D5.out).mono ?_
 rintro e u6 ⟨⟨k, rfl⟩, hb⟩
 obtain ⟨x6, hx6⟩ : ∃ q, q = u6.heap.size := ⟨_, rfl⟩
 obtain ⟨V6, hV6⟩ : ∃ v, v = u6.alloc (.cells #[.string ⟨#[109]⟩, .string ⟨k.ds.toArray⟩, .bool k.st, .bool k.ab, .int .i64 k.rg, .slice k.A k.co.length k.c] 37) := ⟨_, rfl⟩
 have hbv : Below u6.heap.size u6 V6 := by rw [hV6]; exact (Below.refl _ _).alloc (Nat.le_refl _) _
 have D6 := zh (show Below W7.heap.size W7 V6 from then' (then' D5.out (show Below V5.heap.size V5 u6 from hb)) hbv)
 have r6 : V6.heap[x6]? = some (.cells #[.string ⟨#[109]⟩, .string ⟨k.ds.toArray⟩, .bool k.st, .bool k.ab, .int .i64 k.rg, .slice k.A k.co.length k.c] 37 (0, 0)) := by rw [hV6, hx6]; exact heap_alloc_new _ _
 have X6 := zh r6
 have X1 := zh (show V6.heap[x1]? = some (.cells #[.string ⟨#[65]⟩, .string ⟨#[109]⟩, .string ⟨#[40, 41, 86]⟩] 25 (0, 0)) from by
  have e1 := ((show Below V5.heap.size V5 u6 from hb).block _ (blk_lt X1.out)).trans X1.out
  exact (hbv.block _ (blk_lt e1)).trans e1)
 have X2 := zh (show V6.heap[x2]? = some (.cells #[.string ⟨#[65]⟩, .string ⟨#[115]⟩, .string ⟨#[40, 41, 86]⟩] 25 (0, 0)) from by
  have e1 := ((show Below V5.heap.size V5 u6 from hb).block _ (blk_lt X2.out)).trans X2.out
  exact (hbv.block _ (blk_lt e1)).trans e1)
 have X3 := zh (show V6.heap[x3]? = some (.cells #[.string ⟨#[65]⟩, .string ⟨#[102]⟩] 67 (0, 0)) from by
  have e1 := ((show Below V5.heap.size V5 u6 from hb).block _ (blk_lt X3.out)).trans X3.out
  exact (hbv.block _ (blk_lt e1)).trans e1)
 have X4 := zh (show V6.heap[x4]? = some (.cells #[.string ⟨#[65]⟩, .string ⟨#[109]⟩, .string ⟨#[40, 41, 86]⟩] 25 (0, 0)) from by
  have e1 := ((show Below V5.heap.size V5 u6 from hb).block _ (blk_lt X4.out)).trans X4.out
  exact (hbv.block _ (blk_lt e1)).trans e1)
 have X5 := zh (show V6.heap[x5]? = some (.cells #[.string ⟨#[]⟩, .string ⟨#[]⟩, .string ⟨#[]⟩] 25 (0, 0)) from by
  have e1 := ((show Below V5.heap.size V5 u6 from hb).block _ (blk_lt X5.out)).trans X5.out
  exact (hbv.block _ (blk_lt e1)).trans e1)
 have P6 := zh (HP.out _ D6.out)
 have HV6 := zh hV6; have HX6 := zh hx6
 clear r6 hb hbv
 obtain ⟨p0, p1, p2, p3, p4⟩ := P6.out
 have y3_0 := cell_of_row _ _ 0 _ _ _ X3.out
 have y3_1 := cell_of_row _ _ 1 _ _ _ X3.out
 rw [hV6] at p0 p1 p2 p3 p4 y3_0 y3_1
 clear hV6
 go_wp2_with fail
 try rw [← HX6.out]
 rw [← HV6.out]
 clear p0 p1 p2 p3 p4 y3_0 y3_1 hx6
 refine (C7.out _ D6.out).mono ?_
 rintro e u7 ⟨rfl, hb⟩
 obtain ⟨x7, hx7⟩ : ∃ q, q = u7.heap.size := ⟨_, rfl⟩
 obtain ⟨V7, hV7⟩ : ∃ v, v = u7.alloc (.cells #[.string ⟨#[102]⟩, .int .i64 2, .string ⟨#[]⟩, .bool false] 92) := ⟨_, rfl⟩
 have hbv : Below u7.heap.size u7 V7 := by rw [hV7]; exact (Below.refl _ _).alloc (Nat.le_refl _) _
 have D7 := zh (show Below W7.heap.size W7 V7 from then' (then' D6.out (show Below V6.heap.size V6 u7 from hb)) hbv)
 have r7 : V7.heap[x7]? = some (.cells #[.string ⟨#[102]⟩, .int .i64 2, .string ⟨#[]⟩, .bool false] 92 (0, 0)) := by rw [hV7, hx7]; exact heap_alloc_new _ _
 have X7 := zh r7
 have X1 := zh (show V7.heap[x1]? = some (.cells #[.string ⟨#[65]⟩, .string ⟨#[109]⟩, .string ⟨#[40, 41, 86]⟩] 25 (0, 0)) from by
  have e1 := ((show Below V6.heap.size V6 u7 from hb).block _ (blk_lt X1.out)).trans X1.out
  exact (hbv.block _ (blk_lt e1)).trans e1)
 have X2 := zh (show V7.heap[x2]? = some (.cells #[.string ⟨#[65]⟩, .string ⟨#[115]⟩, .string ⟨#[40, 41, 86]⟩] 25 (0, 0)) from by
  have e1 := ((show Below V6.heap.size V6 u7 from hb).block _ (blk_lt X2.out)).trans X2.out
  exact (hbv.block _ (blk_lt e1)).trans e1)
 have X3 := zh (show V7.heap[x3]? = some (.cells #[.string ⟨#[65]⟩, .string ⟨#[102]⟩] 67 (0, 0)) from by
  have e1 := ((show Below V6.heap.size V6 u7 from hb).block _ (blk_lt X3.out)).trans X3.out
  exact (hbv.block _ (blk_lt e1)).trans e1)
 have X4 := zh (show V7.heap[x4]? = some (.cells #[.string ⟨#[65]⟩, .string ⟨#[109]⟩, .string ⟨#[40, 41, 86]⟩] 25 (0, 0)) from by
  have e1 := ((show Below V6.heap.size V6 u7 from hb).block _ (blk_lt X4.out)).trans X4.out
  exact (hbv.block _ (blk_lt e1)).trans e1)
 have X5 := zh (show V7.heap[x5]? = some (.cells #[.string ⟨#[]⟩, .string ⟨#[]⟩, .string ⟨#[]⟩] 25 (0, 0)) from by
  have e1 := ((show Below V6.heap.size V6 u7 from hb).block _ (blk_lt X5.out)).trans X5.out
  exact (hbv.block _ (blk_lt e1)).trans e1)
 have X6 := zh (show V7.heap[x6]? = some (.cells #[.string ⟨#[109]⟩, .string ⟨k.ds.toArray⟩, .bool k.st, .bool k.ab, .int .i64 k.rg, .slice k.A k.co.length k.c] 37 (0, 0)) from by
  have e1 := ((show Below V6.heap.size V6 u7 from hb).block _ (blk_lt X6.out)).trans X6.out
  exact (hbv.block _ (blk_lt e1)).trans e1)
 have P7 := zh (HP.out _ D7.out)
 have HV7 := zh hV7; have HX7 := zh hx7
 clear r7 hb hbv
 have y1_0 := cell_of_row _ _ 0 _ _ _ X1.out
 have y1_1 := cell_of_row _ _ 1 _ _ _ X1.out
 have y1_2 := cell_of_row _ _ 2 _ _ _ X1.out
 have y2_0 := cell_of_row _ _ 0 _ _ _ X2.out
 have y2_1 := cell_of_row _ _ 1 _ _ _ X2.out
 have y2_2 := cell_of_row _ _ 2 _ _ _ X2.out
 have y3_0 := cell_of_row _ _ 0 _ _ _ X3.out
 have y3_1 := cell_of_row _ _ 1 _ _ _ X3.out
 have y4_0 := cell_of_row _ _ 0 _ _ _ X4.out
 have y4_1 := cell_of_row _ _ 1 _ _ _ X4.out
 have y4_2 := cell_of_row _ _ 2 _ _ _ X4.out
 have y6_0 := cell_of_row _ _ 0 _ _ _ X6.out
 have y6_1 := cell_of_row _ _ 1 _ _ _ X6.out
 have y6_2 := cell_of_row _ _ 2 _ _ _ X6.out
 have y6_3 := cell_of_row _ _ 3 _ _ _ X6.out
 have y6_4 := cell_of_row _ _ 4 _ _ _ X6.out
 have y6_5 := cell_of_row _ _ 5 _ _ _ X6.out
 have y7_0 := cell_of_row _ _ 0 _ _ _ X7.out
 have y7_1 := cell_of_row _ _ 1 _ _ _ X7.out
 have y7_2 := cell_of_row _ _ 2 _ _ _ X7.out
 have y7_3 := cell_of_row _ _ 3 _ _ _ X7.out
 rw [hV7] at y1_0 y1_1 y1_2 y2_0 y2_1 y2_2 y3_0 y3_1 y4_0 y4_1 y4_2 y6_0 y6_1 y6_2 y6_3 y6_4 y6_5 y7_0 y7_1 y7_2 y7_3
 rw [hx7] at y7_0 y7_1 y7_2 y7_3
 clear hV7
 go_wp2
 try rw [← HV7.out]
 go_ret
 exact ⟨rfl, HAL.out.trans (D7.out.mono HAL.out.size)⟩
end Go.Proofs.Ytdifmgeicnndfaa.find

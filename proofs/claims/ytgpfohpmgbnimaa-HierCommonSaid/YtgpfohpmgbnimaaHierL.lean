/-
  Layer 11: live on its two programs; which classes a law asks for: walked through the program.
-/
import Derived.Test.YtgpfohpmgbnimaaHierE
import Derived.Test.YtgpfohpmgbnimaaFrameT
/- Layer 11: two small programs: what is told of them. -/
namespace Go.Proofs.Ytgpfohpmgbnimaa.prg
open Go.RowKit Go.Maps Go.Shelf
open words kindp opp op kind word
set_option linter.all false

def lvA : ClM := ⟨[65], [], false, false, [], none, 0, [], none, 0, [], none, 0⟩
def lvB (b : Nat) : ClM := ⟨[66], [65], false, false, [[73]], some ⟨b, 0, none⟩, 1, [], none, 0, [], none, 0⟩
def lvC : ClM := ⟨[67], [65], false, false, [], none, 0, [], none, 0, [], none, 0⟩
def lvI : ClM := ⟨[73], [], true, true, [], none, 0, [], none, 0, [], none, 0⟩
def lvP (b : Nat) : List ClM := [lvA, lvB b, lvC, lvI]
def lvD : ClM := ⟨[65], [66], false, false, [], none, 0, [], none, 0, [], none, 0⟩
def lvE : ClM := ⟨[66], [65], false, false, [], none, 0, [], none, 0, [], none, 0⟩
def lvQ : List ClM := [lvD, lvE]
def lvN : List Tx := [[65], [66], [67], [73], []]
theorem lv_chk (b : Nat) : chkP (lvP b) = (0, []) := by kernel_rfl
theorem lv_chq : chkP lvQ = (8, [65]) := by kernel_rfl
theorem lv_com (b : Nat) : commonE (lvP b) [66] [67] = [65] := by kernel_rfl
theorem lv_sub (b : Nat) : subB (lvP b) [66] [73] = true := by kernel_rfl
theorem lv_not (b : Nat) : subB (lvP b) [65] [66] = false := by kernel_rfl
theorem lv_sup (b : Nat) : supersL (lvP b) [66] = [[66], [65]] := by kernel_rfl
theorem lv_up (b : Nat) : upL (lvP b) [[66]] = [[66], [65], [73]] := by kernel_rfl
theorem lv_bel (b : Nat) : belowL (lvP b) (lvP b) [65] = [[65], [66], [67]] := by kernel_rfl
theorem lv_srt1 : srtT [[66], [65], [73]] = [[65], [66], [73]] := by
 have h1 : ([66] : Tx) ≤ [65] ↔ False := by decide +kernel
 have h2 : ([65] : Tx) ≤ [73] ↔ True := by decide +kernel
 have h3 : ([66] : Tx) ≤ [73] ↔ True := by decide +kernel
 unfold srtT
 simp [List.mergeSort, List.merge, List.MergeSort.Internal.splitInTwo, h1, h2, h3]
theorem lv_srt2 : srtT [[65], [66], [67]] = [[65], [66], [67]] := by
 have h1 : ([65] : Tx) ≤ [66] ↔ True := by decide +kernel
 have h2 : ([65] : Tx) ≤ [67] ↔ True := by decide +kernel
 have h3 : ([66] : Tx) ≤ [67] ↔ True := by decide +kernel
 unfold srtT
 simp [List.mergeSort, List.merge, List.MergeSort.Internal.splitInTwo, h1, h2, h3]
theorem lv_cmp : Lib.compact ([[65], [66], [67]] : List Tx) = [[65], [66], [67]] := by decide +kernel
theorem lv_anc (b : Nat) : ancL (lvP b) [66] = [[65], [66], [73]] := by unfold ancL; rw [lv_up, lv_srt1]
theorem lv_sbs (b : Nat) : subsL (lvP b) [65] = [[65], [66], [67]] := by unfold subsL; rw [lv_bel, lv_srt2, lv_cmp]
theorem lv_con (b : Nat) : concB (lvP b) [65] = true := by kernel_rfl
theorem lv_coi (b : Nat) : concB (lvP b) [73] = false := by kernel_rfl
def lvX (b1 b2 : Nat) : PrM := ⟨lvP b1, some ⟨b2, 0, none⟩, 4, [], none, 0, [], [], []⟩
def lvY (b3 : Nat) : PrM := ⟨lvQ, some ⟨b3, 0, none⟩, 2, [], none, 0, [], [], []⟩
theorem lvX_gr (b1 b2 : Nat) : GrP (lvX b1 b2) := by
 refine ⟨⟨by simp [lvX, lvP], by simp [lvX]⟩, fun y hy => ?_⟩
 simp only [lvX, lvP, List.mem_cons, List.not_mem_nil, or_false] at hy
 rcases hy with rfl | rfl | rfl | rfl <;> exact ⟨⟨by simp [lvA, lvB, lvC, lvI], by simp [lvA, lvB, lvC, lvI], by simp [lvA, lvB, lvC, lvI], by simp [lvA, lvB, lvC, lvI], by simp [lvA, lvB, lvC, lvI]⟩, fun m hm => by simp [lvA, lvB, lvC, lvI] at hm⟩
theorem lvX_kn (b1 b2 : Nat) : KnH (lvX b1 b2) lvN := by
 refine ⟨by simp [lvX, lvP], fun c hc => ?_, by simp [lvN], fun s hs => ?_, fun c hc s hs => ?_⟩
 ·simp only [lvX, lvP, List.mem_cons, List.not_mem_nil, or_false] at hc
  rcases hc with rfl | rfl | rfl | rfl <;> simp [lvA, lvB, lvC, lvI]
 ·simp only [lvN, List.mem_cons, List.not_mem_nil, or_false] at hs
  rcases hs with rfl | rfl | rfl | rfl | rfl <;> simp
 ·simp only [lvX, lvP, List.mem_cons, List.not_mem_nil, or_false] at hc
  rcases hc with rfl | rfl | rfl | rfl <;> simp [abv, lvA, lvB, lvC, lvI] at hs <;> (try rcases hs with rfl | rfl) <;> simp_all [lvN]
theorem lvX_nm (b1 b2 : Nat) : ∀ c ∈ (lvX b1 b2).cs, c.nm ∈ lvN := by
 intro c hc
 simp only [lvX, lvP, List.mem_cons, List.not_mem_nil, or_false] at hc
 rcases hc with rfl | rfl | rfl | rfl <;> simp [lvA, lvB, lvC, lvI, lvN]
theorem lvY_kn (b3 : Nat) : KnH (lvY b3) lvN := by
 refine ⟨by simp [lvY, lvQ], fun c hc => ?_, by simp [lvN], fun s hs => ?_, fun c hc s hs => ?_⟩
 ·simp only [lvY, lvQ, List.mem_cons, List.not_mem_nil, or_false] at hc
  rcases hc with rfl | rfl <;> simp [lvD, lvE]
 ·simp only [lvN, List.mem_cons, List.not_mem_nil, or_false] at hs
  rcases hs with rfl | rfl | rfl | rfl | rfl <;> simp
 ·simp only [lvY, lvQ, List.mem_cons, List.not_mem_nil, or_false] at hc
  rcases hc with rfl | rfl <;> simp [abv, lvD, lvE] at hs <;> simp_all [lvN]
/-- where they lie -/
theorem lvX_ok {w : World} {b1 b2 t1 t2 : Nat} (h1 : w.heap[b1]? = some (.cells #[.string ⟨#[73]⟩] t1 (0, 0))) (h2 : w.heap[b2]? = some (.cells ((lvP b1).flatMap clC).toArray t2 (0, 0))) : PrOk w (lvX b1 b2) := by
 refine ⟨⟨by simp [lvX, lvP], rd_blk h2 (k := 28) rfl⟩, ⟨Nat.zero_le _, Rd.nil _ _⟩, fun y hy => ?_⟩
 simp only [lvX, lvP, List.mem_cons, List.not_mem_nil, or_false] at hy
 rcases hy with rfl | rfl | rfl | rfl
 ·exact ⟨⟨Nat.zero_le _, Rd.nil _ _⟩, ⟨Nat.zero_le _, Rd.nil _ _⟩, ⟨Nat.zero_le _, Rd.nil _ _⟩, fun y hy => by cases hy⟩
 ·exact ⟨⟨Nat.le_refl _, rd_blk h1 (k := 1) rfl⟩, ⟨Nat.zero_le _, Rd.nil _ _⟩, ⟨Nat.zero_le _, Rd.nil _ _⟩, fun y hy => by cases hy⟩
 ·exact ⟨⟨Nat.zero_le _, Rd.nil _ _⟩, ⟨Nat.zero_le _, Rd.nil _ _⟩, ⟨Nat.zero_le _, Rd.nil _ _⟩, fun y hy => by cases hy⟩
 ·exact ⟨⟨Nat.zero_le _, Rd.nil _ _⟩, ⟨Nat.zero_le _, Rd.nil _ _⟩, ⟨Nat.zero_le _, Rd.nil _ _⟩, fun y hy => by cases hy⟩
theorem lvY_ok {w : World} {b3 t3 : Nat} (h3 : w.heap[b3]? = some (.cells (lvQ.flatMap clC).toArray t3 (0, 0))) : PrOk w (lvY b3) := by
 refine ⟨⟨by simp [lvY, lvQ], rd_blk h3 (k := 14) rfl⟩, ⟨Nat.zero_le _, Rd.nil _ _⟩, fun y hy => ?_⟩
 simp only [lvY, lvQ, List.mem_cons, List.not_mem_nil, or_false] at hy
 rcases hy with rfl | rfl
 ·exact ⟨⟨Nat.zero_le _, Rd.nil _ _⟩, ⟨Nat.zero_le _, Rd.nil _ _⟩, ⟨Nat.zero_le _, Rd.nil _ _⟩, fun y hy => by cases hy⟩
 ·exact ⟨⟨Nat.zero_le _, Rd.nil _ _⟩, ⟨Nat.zero_le _, Rd.nil _ _⟩, ⟨Nat.zero_le _, Rd.nil _ _⟩, fun y hy => by cases hy⟩
end Go.Proofs.Ytgpfohpmgbnimaa.prg

/- Layer 11: what must be whatever is asked: walked through the program. -/
namespace Go.Proofs.Ytgpfohpmgbnimaa.prg
open Go.RowKit Go.Maps Go.Shelf
open words kindp opp op kind word
set_option linter.all false

theorem sameH_w (A C : Option Addr) (n c d : Nat) (l : List Tx) (w : World) (h1 : Rd w A (SX l)) (h2 : Rd w C (SX l)) (hl : l.length = n) (hn : n ≤ 281474976710656) :
 Calls Try.prog 21 #[.slice A n c, .slice C n d] w fun e w' => e = .returned (.bool true) ∧ Below w.heap.size w w' := by
 have e : SX l = texts.S (l.map fun x => ⟨x.toArray⟩) := by simp [SX, texts.S, Function.comp_def]
 refine (texts.texts_same A C n c d (l.map fun x => ⟨x.toArray⟩) w (e ▸ h1) (e ▸ h2) (by rw [List.length_map]; exact hl) hn).mono ?_
 rintro e w' ⟨rfl, q, rfl⟩
 exact ⟨rfl, rfl, rfl, rfl, Nat.le_refl _, fun _ _ => rfl⟩
theorem five (w : World) (o1 o2 o3 o4 o5 : Obj) : ∀ W, W = ((((w.alloc o1).alloc o2).alloc o3).alloc o4).alloc o5 → W.heap[w.heap.size]? = some o1 ∧ W.heap[w.heap.size + 1]? = some o2 ∧ W.heap[w.heap.size + 1 + 1]? = some o3 ∧ W.heap[w.heap.size + 1 + 1 + 1]? = some o4 ∧ W.heap[w.heap.size + 1 + 1 + 1 + 1]? = some o5 ∧ Below w.heap.size w W := by
 rintro W rfl
 have n1 := heap_alloc_new w o1
 have n2 := heap_alloc_new (w.alloc o1) o2
 have n3 := heap_alloc_new ((w.alloc o1).alloc o2) o3
 have n4 := heap_alloc_new (((w.alloc o1).alloc o2).alloc o3) o4
 have n5 := heap_alloc_new ((((w.alloc o1).alloc o2).alloc o3).alloc o4) o5
 simp only [World.size_alloc] at n2 n3 n4 n5
 refine ⟨?_, ?_, ?_, ?_, n5, ((((((Below.refl _ w).alloc (Nat.le_refl _) _).alloc (by simp) _).alloc (by simp <;> omega) _).alloc (by simp <;> omega) _).alloc (by simp <;> omega) _)⟩
 ·exact (Below.heap_alloc _ _ _ (by simp <;> omega)).trans ((Below.heap_alloc _ _ _ (by simp <;> omega)).trans ((Below.heap_alloc _ _ _ (by simp <;> omega)).trans ((Below.heap_alloc _ _ _ (by simp)).trans n1)))
 ·exact (Below.heap_alloc _ _ _ (by simp <;> omega)).trans ((Below.heap_alloc _ _ _ (by simp <;> omega)).trans ((Below.heap_alloc _ _ _ (by simp)).trans n2))
 ·exact (Below.heap_alloc _ _ _ (by simp <;> omega)).trans ((Below.heap_alloc _ _ _ (by simp)).trans n3)
 ·exact (Below.heap_alloc _ _ _ (by simp)).trans n4

set_option maxRecDepth 100000 in
set_option maxHeartbeats 16000000 in
theorem liveH_w (w : World) : Calls Try.prog 8 #[] w fun e w' => e = .returned (.bool true) ∧ Below w.heap.size w w' := by
 obtain ⟨W, hW⟩ : ∃ W, W = ((((w.alloc (.cells #[.string ⟨#[73]⟩] 9)).alloc (.cells #[.string ⟨#[65]⟩, .string ⟨#[]⟩, .bool false, .bool false, .slice none 0 0, .slice none 0 0, .slice none 0 0, .string ⟨#[66]⟩, .string ⟨#[65]⟩, .bool false, .bool false, .slice (some ⟨w.heap.size, 0, none⟩) 1 1, .slice none 0 0, .slice none 0 0, .string ⟨#[67]⟩, .string ⟨#[65]⟩, .bool false, .bool false, .slice none 0 0, .slice none 0 0, .slice none 0 0, .string ⟨#[73]⟩, .string ⟨#[]⟩, .bool true, .bool true, .slice none 0 0, .slice none 0 0, .slice none 0 0] 42)).alloc (.cells #[.slice (some ⟨w.heap.size + 1, 0, none⟩) 4 4, .slice none 0 0, .string ⟨#[]⟩, .string ⟨#[]⟩, .string ⟨#[]⟩] 27)).alloc (.cells #[.string ⟨#[65]⟩, .string ⟨#[66]⟩, .bool false, .bool false, .slice none 0 0, .slice none 0 0, .slice none 0 0, .string ⟨#[66]⟩, .string ⟨#[65]⟩, .bool false, .bool false, .slice none 0 0, .slice none 0 0, .slice none 0 0] 42)).alloc (.cells #[.slice (some ⟨w.heap.size + 1 + 1 + 1, 0, none⟩) 2 2, .slice none 0 0, .string ⟨#[]⟩, .string ⟨#[]⟩, .string ⟨#[]⟩] 27) := ⟨_, rfl⟩
 obtain ⟨h1, h2, h3, h4, h5, hal⟩ := five w _ _ _ _ _ W hW
 have HX := Lib.hid (fun v (hv : Below W.heap.size W v) => PrOk.below (lvX_ok (b1 := w.heap.size) (b2 := w.heap.size + 1) h1 (show W.heap[w.heap.size + 1]? = some (.cells ((lvP w.heap.size).flatMap clC).toArray 42 (0, 0)) from h2)) hv)
 have HY := Lib.hid (fun v (hv : Below W.heap.size W v) => PrOk.below (lvY_ok (b3 := w.heap.size + 1 + 1 + 1) (show W.heap[w.heap.size + 1 + 1 + 1]? = some (.cells (lvQ.flatMap clC).toArray 42 (0, 0)) from h4)) hv)
 have HC := Lib.hid (show ∀ v : World, Below W.heap.size W v → (v.cell? ⟨w.heap.size + 1 + 1, 0, none⟩ = some (.slice (some ⟨w.heap.size + 1, 0, none⟩) 4 4) ∧ v.cell? ⟨w.heap.size + 1 + 1, 1, none⟩ = some (.slice none 0 0) ∧ v.cell? ⟨w.heap.size + 1 + 1, 2, none⟩ = some (.string ⟨#[]⟩) ∧ v.cell? ⟨w.heap.size + 1 + 1, 3, none⟩ = some (.string ⟨#[]⟩) ∧ v.cell? ⟨w.heap.size + 1 + 1, 4, none⟩ = some (.string ⟨#[]⟩)) ∧ (v.cell? ⟨w.heap.size + 1 + 1 + 1 + 1, 0, none⟩ = some (.slice (some ⟨w.heap.size + 1 + 1 + 1, 0, none⟩) 2 2) ∧ v.cell? ⟨w.heap.size + 1 + 1 + 1 + 1, 1, none⟩ = some (.slice none 0 0) ∧ v.cell? ⟨w.heap.size + 1 + 1 + 1 + 1, 2, none⟩ = some (.string ⟨#[]⟩) ∧ v.cell? ⟨w.heap.size + 1 + 1 + 1 + 1, 3, none⟩ = some (.string ⟨#[]⟩) ∧ v.cell? ⟨w.heap.size + 1 + 1 + 1 + 1, 4, none⟩ = some (.string ⟨#[]⟩)) from fun v hv => ⟨pr_cells (x := lvX w.heap.size (w.heap.size + 1)) ((hv.block _ (blk_lt h3)).trans h3), pr_cells (x := lvY (w.heap.size + 1 + 1 + 1)) ((hv.block _ (blk_lt h5)).trans h5)⟩)
 have H1 := Lib.hid (show ∀ v : World, Below W.heap.size W v → Calls Try.prog 10 #[.agg #[.slice (some ⟨w.heap.size + 1, 0, none⟩) 4 4, .slice none 0 0, .string ⟨#[]⟩, .string ⟨#[]⟩, .string ⟨#[]⟩]] v (fun e w' => e = .returned (.tuple #[.int .i64 0, .string ⟨#[]⟩]) ∧ Below v.heap.size v w') from fun v hv => by
  have h := check_w (lvX w.heap.size (w.heap.size + 1)) lvN v (HX.out v hv) (lvX_kn _ _)
  unfold CheckP at h
  rw [show (lvX w.heap.size (w.heap.size + 1)).cs = lvP w.heap.size from rfl, lv_chk] at h
  exact h)
 have H2 := Lib.hid (show ∀ v : World, Below W.heap.size W v → Calls Try.prog 10 #[.agg #[.slice (some ⟨w.heap.size + 1 + 1 + 1, 0, none⟩) 2 2, .slice none 0 0, .string ⟨#[]⟩, .string ⟨#[]⟩, .string ⟨#[]⟩]] v (fun e w' => e = .returned (.tuple #[.int .i64 8, .string ⟨#[65]⟩]) ∧ Below v.heap.size v w') from fun v hv => by
  have h := check_w (lvY (w.heap.size + 1 + 1 + 1)) lvN v (HY.out v hv) (lvY_kn _)
  unfold CheckP at h
  rw [show (lvY (w.heap.size + 1 + 1 + 1)).cs = lvQ from rfl, lv_chq] at h
  exact h)
 have H3 := Lib.hid (show ∀ v : World, Below W.heap.size W v → Calls Try.prog 13 #[.agg #[.slice (some ⟨w.heap.size + 1, 0, none⟩) 4 4, .slice none 0 0, .string ⟨#[]⟩, .string ⟨#[]⟩, .string ⟨#[]⟩], .string ⟨#[66]⟩, .string ⟨#[67]⟩] v (fun e w' => e = .returned (.string ⟨#[65]⟩) ∧ Below v.heap.size v w') from fun v hv => by
  have h := common_w (lvX w.heap.size (w.heap.size + 1)) lvN [66] [67] v (HX.out v hv) (lvX_gr _ _) (lvX_kn _ _) (by simp [lvN]) (by simp [lvN])
  rw [show (lvX w.heap.size (w.heap.size + 1)).cs = lvP w.heap.size from rfl, lv_com] at h
  exact h)
 have H4 := Lib.hid (show ∀ v : World, Below W.heap.size W v → Calls Try.prog 11 #[.agg #[.slice (some ⟨w.heap.size + 1, 0, none⟩) 4 4, .slice none 0 0, .string ⟨#[]⟩, .string ⟨#[]⟩, .string ⟨#[]⟩], .string ⟨#[66]⟩, .string ⟨#[73]⟩] v (fun e w' => e = .returned (.bool true) ∧ Below v.heap.size v w') from fun v hv => by
  have h := sub_w (lvX w.heap.size (w.heap.size + 1)) lvN [66] [73] v (HX.out v hv) (lvX_kn _ _) (by simp [lvN])
  rw [show (lvX w.heap.size (w.heap.size + 1)).cs = lvP w.heap.size from rfl, lv_sub] at h
  exact h)
 have H5 := Lib.hid (show ∀ v : World, Below W.heap.size W v → Calls Try.prog 11 #[.agg #[.slice (some ⟨w.heap.size + 1, 0, none⟩) 4 4, .slice none 0 0, .string ⟨#[]⟩, .string ⟨#[]⟩, .string ⟨#[]⟩], .string ⟨#[65]⟩, .string ⟨#[66]⟩] v (fun e w' => e = .returned (.bool false) ∧ Below v.heap.size v w') from fun v hv => by
  have h := sub_w (lvX w.heap.size (w.heap.size + 1)) lvN [65] [66] v (HX.out v hv) (lvX_kn _ _) (by simp [lvN])
  rw [show (lvX w.heap.size (w.heap.size + 1)).cs = lvP w.heap.size from rfl, lv_not] at h
  exact h)
 have H6 := Lib.hid (show ∀ v : World, Below W.heap.size W v → Calls Try.prog 20 #[.agg #[.slice (some ⟨w.heap.size + 1, 0, none⟩) 4 4, .slice none 0 0, .string ⟨#[]⟩, .string ⟨#[]⟩, .string ⟨#[]⟩], .string ⟨#[66]⟩] v (fun e w' => (∃ A c, e = .returned (.slice A 2 c) ∧ 2 ≤ c ∧ Rd w' A (SX [[66], [65]])) ∧ Below v.heap.size v w') from fun v hv => by
  have h := supers_w (lvX w.heap.size (w.heap.size + 1)) [66] v (HX.out v hv) (lvX_gr _ _)
  unfold SupP at h
  rw [show (lvX w.heap.size (w.heap.size + 1)).cs = lvP w.heap.size from rfl, lv_sup] at h
  exact h)
 have H7 := Lib.hid (show ∀ v : World, Below W.heap.size W v → Calls Try.prog 22 #[.agg #[.slice (some ⟨w.heap.size + 1, 0, none⟩) 4 4, .slice none 0 0, .string ⟨#[]⟩, .string ⟨#[]⟩, .string ⟨#[]⟩], .string ⟨#[66]⟩] v (fun e w' => (∃ A c, e = .returned (.slice A 3 c) ∧ 3 ≤ c ∧ Rd w' A (SX [[65], [66], [73]])) ∧ Below v.heap.size v w') from fun v hv => by
  have h := ancestors_w (lvX w.heap.size (w.heap.size + 1)) lvN [66] v (HX.out v hv) (lvX_kn _ _) (by simp [lvN])
  unfold ListP at h
  rw [show (lvX w.heap.size (w.heap.size + 1)).cs = lvP w.heap.size from rfl, lv_anc] at h
  exact h)
 have H8 := Lib.hid (show ∀ v : World, Below W.heap.size W v → Calls Try.prog 23 #[.agg #[.slice (some ⟨w.heap.size + 1, 0, none⟩) 4 4, .slice none 0 0, .string ⟨#[]⟩, .string ⟨#[]⟩, .string ⟨#[]⟩], .string ⟨#[65]⟩] v (fun e w' => (∃ A c, e = .returned (.slice A 3 c) ∧ 3 ≤ c ∧ Rd w' A (SX [[65], [66], [67]])) ∧ Below v.heap.size v w') from fun v hv => by
  have h := subs_w (lvX w.heap.size (w.heap.size + 1)) lvN [65] v (HX.out v hv) (lvX_kn _ _) (lvX_nm _ _)
  unfold ListP at h
  rw [show (lvX w.heap.size (w.heap.size + 1)).cs = lvP w.heap.size from rfl, lv_sbs] at h
  exact h)
 have H9 := Lib.hid (show ∀ v : World, Below W.heap.size W v → Calls Try.prog 24 #[.agg #[.slice (some ⟨w.heap.size + 1, 0, none⟩) 4 4, .slice none 0 0, .string ⟨#[]⟩, .string ⟨#[]⟩, .string ⟨#[]⟩], .string ⟨#[65]⟩] v (fun e w' => e = .returned (.bool true) ∧ Below v.heap.size v w') from fun v hv => by
  have h := concrete_w (lvX w.heap.size (w.heap.size + 1)) [65] v (HX.out v hv) (lvX_kn _ _).cl
  rw [show (lvX w.heap.size (w.heap.size + 1)).cs = lvP w.heap.size from rfl, lv_con] at h
  exact h)
 have H10 := Lib.hid (show ∀ v : World, Below W.heap.size W v → Calls Try.prog 24 #[.agg #[.slice (some ⟨w.heap.size + 1, 0, none⟩) 4 4, .slice none 0 0, .string ⟨#[]⟩, .string ⟨#[]⟩, .string ⟨#[]⟩], .string ⟨#[73]⟩] v (fun e w' => e = .returned (.bool false) ∧ Below v.heap.size v w') from fun v hv => by
  have h := concrete_w (lvX w.heap.size (w.heap.size + 1)) [73] v (HX.out v hv) (lvX_kn _ _).cl
  rw [show (lvX w.heap.size (w.heap.size + 1)).cs = lvP w.heap.size from rfl, lv_coi] at h
  exact h)
 have HAL := Lib.hid hal; have HW := Lib.hid hW
 clear h1 h2 h3 h4 h5 hal hW HX HY
 go_enter Try.func8, Try.ntmps8
 go_wp2_with fail
 rw [← HW.out]
 have K0 := Lib.hid (Below.refl W.heap.size W)
 refine (H1.out _ K0.out).mono ?_
 rintro e w1 ⟨rfl, hb⟩
 have K1 := Lib.hid (then' K0.out hb)
 clear hb
 obtain ⟨⟨x0, x1, x2, x3, x4⟩, y0, y1, y2, y3, y4⟩ := HC.out _ K1.out
 (try go_wp2_with fail)
 refine (H2.out _ K1.out).mono ?_
 rintro e w2 ⟨rfl, hb⟩
 have K2 := Lib.hid (then' K1.out hb)
 clear hb
 clear x0 x1 x2 x3 x4 y0 y1 y2 y3 y4
 obtain ⟨⟨x0, x1, x2, x3, x4⟩, y0, y1, y2, y3, y4⟩ := HC.out _ K2.out
 (try go_wp2_with fail)
 refine (H3.out _ K2.out).mono ?_
 rintro e w3 ⟨rfl, hb⟩
 have K3 := Lib.hid (then' K2.out hb)
 clear hb
 clear x0 x1 x2 x3 x4 y0 y1 y2 y3 y4
 obtain ⟨⟨x0, x1, x2, x3, x4⟩, y0, y1, y2, y3, y4⟩ := HC.out _ K3.out
 (try go_wp2_with fail)
 refine (H4.out _ K3.out).mono ?_
 rintro e w4 ⟨rfl, hb⟩
 have K4 := Lib.hid (then' K3.out hb)
 clear hb
 clear x0 x1 x2 x3 x4 y0 y1 y2 y3 y4
 obtain ⟨⟨x0, x1, x2, x3, x4⟩, y0, y1, y2, y3, y4⟩ := HC.out _ K4.out
 (try go_wp2_with fail)
 refine (H5.out _ K4.out).mono ?_
 rintro e w5 ⟨rfl, hb⟩
 have K5 := Lib.hid (then' K4.out hb)
 clear hb
 clear x0 x1 x2 x3 x4 y0 y1 y2 y3 y4
 obtain ⟨⟨x0, x1, x2, x3, x4⟩, y0, y1, y2, y3, y4⟩ := HC.out _ K5.out
 (try go_wp2_with fail)
 refine (H6.out _ K5.out).mono ?_
 rintro e w6 ⟨⟨A6, c6, rfl, -, hr⟩, hb⟩
 have K6 := Lib.hid (then' K5.out hb)
 have R6 := Lib.hid hr
 clear hb hr x0 x1 x2 x3 x4 y0 y1 y2 y3 y4
 (try go_wp2_with fail)
 refine (sameH_w A6 _ 2 c6 2 [[66], [65]] _ (R6.out.below ((Below.refl _ _).alloc (Nat.le_refl _) _)) (rd_blk (heap_alloc_new w6 (.cells #[.string ⟨#[66]⟩, .string ⟨#[65]⟩] 9)) (k := 2) rfl) rfl (by decide)).mono ?_
 rintro e w7 ⟨rfl, hb⟩
 have K7 := Lib.hid (then' (K6.out.alloc K6.out.size _) hb)
 clear hb
 obtain ⟨⟨x0, x1, x2, x3, x4⟩, y0, y1, y2, y3, y4⟩ := HC.out _ K7.out
 (try go_wp2_with fail)
 refine (H7.out _ K7.out).mono ?_
 rintro e w8 ⟨⟨A8, c8, rfl, -, hr⟩, hb⟩
 have K8 := Lib.hid (then' K7.out hb)
 have R8 := Lib.hid hr
 clear hb hr x0 x1 x2 x3 x4 y0 y1 y2 y3 y4
 (try go_wp2_with fail)
 refine (sameH_w A8 _ 3 c8 3 [[65], [66], [73]] _ (R8.out.below ((Below.refl _ _).alloc (Nat.le_refl _) _)) (rd_blk (heap_alloc_new w8 (.cells #[.string ⟨#[65]⟩, .string ⟨#[66]⟩, .string ⟨#[73]⟩] 9)) (k := 3) rfl) rfl (by decide)).mono ?_
 rintro e w9 ⟨rfl, hb⟩
 have K9 := Lib.hid (then' (K8.out.alloc K8.out.size _) hb)
 clear hb
 obtain ⟨⟨x0, x1, x2, x3, x4⟩, y0, y1, y2, y3, y4⟩ := HC.out _ K9.out
 (try go_wp2_with fail)
 refine (H8.out _ K9.out).mono ?_
 rintro e w10 ⟨⟨A10, c10, rfl, -, hr⟩, hb⟩
 have K10 := Lib.hid (then' K9.out hb)
 have R10 := Lib.hid hr
 clear hb hr x0 x1 x2 x3 x4 y0 y1 y2 y3 y4
 (try go_wp2_with fail)
 refine (sameH_w A10 _ 3 c10 3 [[65], [66], [67]] _ (R10.out.below ((Below.refl _ _).alloc (Nat.le_refl _) _)) (rd_blk (heap_alloc_new w10 (.cells #[.string ⟨#[65]⟩, .string ⟨#[66]⟩, .string ⟨#[67]⟩] 9)) (k := 3) rfl) rfl (by decide)).mono ?_
 rintro e w11 ⟨rfl, hb⟩
 have K11 := Lib.hid (then' (K10.out.alloc K10.out.size _) hb)
 clear hb
 obtain ⟨⟨x0, x1, x2, x3, x4⟩, y0, y1, y2, y3, y4⟩ := HC.out _ K11.out
 (try go_wp2_with fail)
 refine (H9.out _ K11.out).mono ?_
 rintro e w12 ⟨rfl, hb⟩
 have K12 := Lib.hid (then' K11.out hb)
 clear hb
 clear x0 x1 x2 x3 x4 y0 y1 y2 y3 y4
 obtain ⟨⟨x0, x1, x2, x3, x4⟩, y0, y1, y2, y3, y4⟩ := HC.out _ K12.out
 (try go_wp2_with fail)
 refine (H10.out _ K12.out).mono ?_
 rintro e w13 ⟨rfl, hb⟩
 have K13 := Lib.hid (then' K12.out hb)
 clear hb
 clear x0 x1 x2 x3 x4 y0 y1 y2 y3 y4
 obtain ⟨⟨x0, x1, x2, x3, x4⟩, y0, y1, y2, y3, y4⟩ := HC.out _ K13.out
 (try go_wp2_with fail)
 go_ret
 exact ⟨rfl, HAL.out.trans (K13.out.mono HAL.out.size)⟩
end Go.Proofs.Ytgpfohpmgbnimaa.prg

/- Layer 11: which classes a law asks for: the law's own answer; the names that may be asked. -/
namespace Go.Proofs.Ytgpfohpmgbnimaa.prg
open Go.RowKit Go.Maps Go.Shelf
open words kindp opp op kind word
set_option linter.all false

/-- a class's name, mostly -/
def nameE (cs : List ClM) (k : Nat) : Tx := if (cs.length = 0 ∨ k = 255) then [110, 111] else match cs[k % cs.length]? with
 | some c => c.nm
 | none => []
/-- the names that may be asked -/
def knA (cs : List ClM) : List Tx := [110, 111] :: cs.flatMap fun c => c.nm :: abv c
theorem knA_nm {cs : List ClM} : ∀ c ∈ cs, c.nm ∈ knA cs := fun c hc => List.mem_cons_of_mem _ (List.mem_flatMap.2 ⟨c, hc, by simp⟩)
theorem name_kn (cs : List ClM) (k : Nat) : nameE cs k ∈ knA cs := by
 unfold nameE
 by_cases h : cs.length = 0 ∨ k = 255
 ·rw [if_pos h]; exact List.mem_cons_self
 ·rw [if_neg h]
  have hk : k % cs.length < cs.length := Nat.mod_lt _ (by omega)
  rw [List.getElem?_eq_getElem hk]
  exact knA_nm _ (List.getElem_mem hk)
theorem knA_kn {x : PrM} (hg : GrP x) (hb : PrBd x) : KnH x (knA x.cs) := by
 refine ⟨hg.1.1, fun c hc => by have := (hg.2 c hc).1.1; omega, ?_, fun s hs => ?_, fun c hc s hs => List.mem_cons_of_mem _ (List.mem_flatMap.2 ⟨c, hc, by simp [hs]⟩)⟩
 ·have h70 := hg.1.1
  have key : ∀ (l : List ClM), (∀ c ∈ l, GrC c) → (l.flatMap fun c => c.nm :: abv c).length ≤ 42 * l.length := by
   intro l
   induction l with
   | nil => intro _; simp
   | cons c l ih =>
    intro h
    have h1 := (h c (by simp)).1.1
    have h2 := ih fun y hy => h y (by simp [hy])
    simp only [List.flatMap_cons, List.length_append, List.length_cons, abv] at *
    omega
  have := key x.cs hg.2
  unfold knA
  simp only [List.length_cons]
  omega
 ·unfold knA at hs
  rcases List.mem_cons.1 hs with rfl | hs
  ·simp
  ·obtain ⟨c, hc, h⟩ := List.mem_flatMap.1 hs
   have hbc := hb.1.2 c hc
   unfold ClBd at hbc
   simp only [abv, List.mem_cons] at h
   rcases h with rfl | rfl | h
   ·omega
   ·omega
   ·have := hbc.2.2.1.2 s h; omega

set_option maxRecDepth 100000 in
set_option maxHeartbeats 8000000 in
theorem name_w (x : PrM) (k : Nat) (w : World) (hk : PrOk w x) (h70 : x.cs.length ≤ 70) (h256 : k < 256) :
  Calls Try.prog 9 #[.agg (prC x).toArray, .int .u8 (k : Int)] w fun e w' => e = .returned (.string ⟨(nameE x.cs k).toArray⟩) ∧ Below w.heap.size w w' := by
 obtain ⟨cs, A1, c1, ns, A2, c2, ec, en, ed⟩ := x
 obtain ⟨W, hW⟩ : ∃ W, W = w.alloc (.cells (prC ⟨cs, A1, c1, ns, A2, c2, ec, en, ed⟩).toArray 27) := ⟨_, rfl⟩
 have hal : Below w.heap.size w W := by rw [hW]; exact (Below.refl _ w).alloc (Nat.le_refl _) _
 have hblk : W.heap[w.heap.size]? = some (.cells (prC ⟨cs, A1, c1, ns, A2, c2, ec, en, ed⟩).toArray 27 (0, 0)) := by rw [hW]; exact heap_alloc_new w _
 obtain ⟨x0, x1, x2, x3, x4⟩ := pr_cells hblk
 have HRD := Lib.hid (show Rd W A1 (cs.flatMap clC) from hk.1.2.below hal)
 have HAL := Lib.hid hal
 obtain ⟨n, hn⟩ : ∃ n, n = cs.length := ⟨_, rfl⟩
 have HN := Lib.hid hn
 have h70' : n ≤ 70 := by rw [hn]; exact h70
 have hnI : (n : Int) ≤ 70 := by omega
 dsimp only at x0 x1 x2 x3 x4
 rw [← hn] at x0
 unfold prC at hW ⊢
 try dsimp only [List.cons_append, List.nil_append] at hW ⊢
 rw [← hn] at hW ⊢
 have HW := Lib.hid hW
 clear hal hblk hW hk h70 hn
 by_cases hn0 : n = 0
 ·have g0 : ((n : Int) == 0) = true := by rw [hn0]; rfl
  have HE := Lib.hid (show nameE cs k = [110, 111] from by unfold nameE; rw [if_pos (.inl (by rw [← HN.out]; exact hn0))])
  clear hn0 h70'
  go_enter Try.func9, Try.ntmps9
  go_wp2_with fail
  rw [← HW.out]
  (try go_wp2_with fail)
  go_ret
  exact ⟨by rw [HE.out]; rfl, HAL.out⟩
 ·have g0 : ((n : Int) == 0) = false := by rw [beq_eq_false_iff_ne]; omega
  by_cases hk5 : k = 255
  ·have g1 : ((k : Int) == 255) = true := by rw [beq_iff_eq]; omega
   have HE := Lib.hid (show nameE cs k = [110, 111] from by unfold nameE; rw [if_pos (.inr hk5)])
   clear hn0 hk5 h70'
   go_enter Try.func9, Try.ntmps9
   go_wp2_with fail
   rw [← HW.out]
   (try go_wp2_with fail)
   go_ret
   exact ⟨by rw [HE.out]; rfl, HAL.out⟩
  ·have g1 : ((k : Int) == 255) = false := by rw [beq_eq_false_iff_ne]; omega
   have hn0I : ¬ (n : Int) = 0 := by omega
   have hma : (k : Int).tmod (n : Int) = ((k % n : Nat) : Int) := rfl
   have hwa : IntKind.i64.wrap (k : Int) = (k : Int) := IntWalk.i64_in _ (by omega)
   have hwma : IntKind.i64.wrap ((k % n : Nat) : Int) = ((k % n : Nat) : Int) := IntWalk.i64_in _ (by have := Nat.mod_lt k (show 0 < n by omega); omega)
   obtain ⟨j, hjj⟩ : ∃ j, j = k % n := ⟨_, rfl⟩
   have hjn : j < n := by rw [hjj]; exact Nat.mod_lt _ (by omega)
   rw [← hjj] at hma hwma
   have hea : (k : Int) % (n : Int) = (j : Int) := by rw [hjj]; rfl
   obtain ⟨y, hy⟩ : ∃ y, cs[j]? = some y := ⟨cs[j]'(by rw [← HN.out]; exact hjn), List.getElem?_eq_getElem _⟩
   have hjnI : (j : Int) < (n : Int) := by omega
   have hj0I : (0 : Int) ≤ (j : Int) := by omega
   have HE := Lib.hid (show nameE cs k = y.nm from by unfold nameE; rw [if_neg (by rw [← HN.out]; omega), ← HN.out, ← hjj, hy])
   obtain ⟨a, rfl, -, p0, p1, p2, p3, p4, p5, p6⟩ := cl_at HRD.out hy
   clear hjj hy hk5 hn0 h70'
   have hmx : Try.prog.follows .mixedOrders = true := by kernel_rfl
   go_enter Try.func9, Try.ntmps9
   go_wp2_with fail
   rw [← HW.out]
   (try go_wp2_with fail)
   go_quiet (fail)
   (try go_wp2_with fail)
   go_ret
   have hAL := HAL.out
   exact ⟨by rw [HE.out]; rfl, hAL.os, hAL.tape, hAL.output, hAL.size, hAL.block⟩
end Go.Proofs.Ytgpfohpmgbnimaa.prg

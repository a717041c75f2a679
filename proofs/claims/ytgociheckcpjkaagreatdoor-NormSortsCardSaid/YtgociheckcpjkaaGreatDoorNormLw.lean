/- NormLw -/
import Derived.Test.YtgociheckcpjkaaGreatDoorOpTellsW
import Derived.Test.YtgociheckcpjkaaGreatDoorNormO
import Derived.Test.YtgociheckcpjkaaGreatDoorNormN
namespace Go.Proofs.YtgociheckcpjkaaGreatDoor.prg
open Go.RowKit
open words kindp opp op kind word sorts
set_option maxRecDepth 100000
set_option maxHeartbeats 4000000
set_option linter.all false
theorem inBd_of {a b : InM} (h : pI a = pI b) (hg : InBd b) : InBd a := by
  have e : a.i = b.i := h
  unfold InBd at hg ⊢
  rw [e]; exact hg
theorem meBd_of {a b : MeM} (h : pM a = pM b) (hg : MeBd b) : MeBd a := by
  have e1 : a.nm = b.nm := congrArg MeP.nm h
  have e2 : a.ds = b.ds := congrArg MeP.ds h
  have e3 : a.co.map pI = b.co.map pI := congrArg MeP.co h
  have e4 : a.co.length = b.co.length := by have := congrArg List.length e3; simpa using this
  refine ⟨by rw [e1]; exact hg.1, by rw [e2]; exact hg.2.1, by rw [e4]; exact hg.2.2.1, fun x hx => ?_⟩
  have : pI x ∈ b.co.map pI := by rw [← e3]; exact List.mem_map_of_mem hx
  obtain ⟨x', hx', e⟩ := List.mem_map.1 this
  exact inBd_of e.symm (hg.2.2.2 x' hx')
theorem fiBd_of {a b : FiM} (h : pF a = pF b) (hg : FiBd b) : FiBd a := by
  have e1 : a.nm = b.nm := congrArg FiP.nm h
  have e2 : a.cl = b.cl := congrArg FiP.cl h
  exact ⟨by rw [e1]; exact hg.1, by rw [e2]; exact hg.2⟩
theorem clBd_of {a b : ClM} (h : pC a = pC b) (hg : ClBd b) : ClBd a := by
  have e1 : a.nm = b.nm := congrArg ClP.nm h
  have e2 : a.su = b.su := congrArg ClP.su h
  have e3 : a.is = b.is := congrArg ClP.is h
  have e4 : a.fs.map pF = b.fs.map pF := congrArg ClP.fs h
  have e5 : a.ms.map pM = b.ms.map pM := congrArg ClP.ms h
  have e6 : a.fs.length = b.fs.length := by have := congrArg List.length e4; simpa using this
  have e7 : a.ms.length = b.ms.length := by have := congrArg List.length e5; simpa using this
  refine ⟨by rw [e1]; exact hg.1, by rw [e2]; exact hg.2.1, by rw [e3]; exact hg.2.2.1, ⟨by rw [e6]; exact hg.2.2.2.1.1, fun x hx => ?_⟩, ⟨by rw [e7]; exact hg.2.2.2.2.1, fun x hx => ?_⟩⟩
  · have : pF x ∈ b.fs.map pF := by rw [← e4]; exact List.mem_map_of_mem hx
    obtain ⟨x', hx', e⟩ := List.mem_map.1 this
    exact fiBd_of e.symm (hg.2.2.2.1.2 x' hx')
  · have : pM x ∈ b.ms.map pM := by rw [← e5]; exact List.mem_map_of_mem hx
    obtain ⟨x', hx', e⟩ := List.mem_map.1 this
    exact meBd_of e.symm (hg.2.2.2.2.2 x' hx')
theorem bd_pP {a b : PrM} (h : pP a = pP b) (hg : PrBd b) : PrBd a := by
  have e1 : a.cs.map pC = b.cs.map pC := congrArg PrP.cs h
  have e2 : a.ns = b.ns := congrArg PrP.ns h
  have e3 : a.ec = b.ec := congrArg PrP.ec h
  have e4 : a.en = b.en := congrArg PrP.en h
  have e5 : a.ed = b.ed := congrArg PrP.ed h
  have e6 : a.cs.length = b.cs.length := by have := congrArg List.length e1; simpa using this
  refine ⟨⟨by rw [e6]; exact hg.1.1, fun x hx => ?_⟩, by rw [e2]; exact hg.2.1, by rw [e3]; exact hg.2.2.1, by rw [e4]; exact hg.2.2.2.1, by rw [e5]; exact hg.2.2.2.2⟩
  have : pC x ∈ b.cs.map pC := by rw [← e1]; exact List.mem_map_of_mem hx
  obtain ⟨x', hx', e⟩ := List.mem_map.1 this
  exact clBd_of e.symm (hg.1.2 x' hx')
theorem bd_sort {z : PrM} (h : PrBd z) : PrBd (sortPm z) := by
  refine ⟨⟨by unfold sortPm; simp only [List.length_map, sortS_length]; exact h.1.1, fun c hc => ?_⟩, h.2⟩
  obtain ⟨c', hc', rfl⟩ := List.mem_map.1 hc
  have k := h.1.2 c' ((mem_sortS _).1 hc')
  exact ⟨k.1, k.2.1, ⟨by unfold sortC; simp only [sortS_length]; exact k.2.2.1.1, fun y hy => k.2.2.1.2 y ((mem_sortS _).1 hy)⟩, ⟨by unfold sortC; simp only [sortS_length]; exact k.2.2.2.1.1, fun y hy => k.2.2.2.1.2 y ((mem_sortS _).1 hy)⟩, ⟨by unfold sortC; simp only [sortS_length]; exact k.2.2.2.2.1, fun y hy => k.2.2.2.2.2 y ((mem_sortS _).1 hy)⟩⟩
def eI : InM := ⟨⟨23, 0, 0, 0, 0, [], [], [], []⟩, none, 0⟩
def mE (s : Tx) (A : Option Addr) : MeM := ⟨s, [40, 41, 86], true, false, 0, [eI], A, 1⟩
theorem method_m (s : Tx) (w : World) : Calls Tryz.prog 11 #[.string ⟨s.toArray⟩] w fun e w' => ∃ A, e = .returned (.agg (meC (mE s A)).toArray) ∧ MeOk w' (mE s A) ∧ Below w.heap.size w w' := by
 obtain ⟨WF, hV⟩ : ∃ V, V = (w.alloc (.cells #[.string ⟨s.toArray⟩, .string ⟨#[40, 41, 86]⟩, .bool true, .bool false, .int .i64 0, .slice (some ⟨w.heap.size + 1, 0, none⟩) 1 1] 38)).alloc (.cells #[.int .i64 23, .int .i64 0, .int .i64 0, .int .i64 0, .int .i64 0, .string ⟨#[]⟩, .string ⟨#[]⟩, .string ⟨#[]⟩, .slice none 0 0] 42) := ⟨_, rfl⟩
 have hal : Below w.heap.size w WF := by rw [hV]; exact ((Below.refl _ w).alloc (Nat.le_refl _) _).alloc (by simp) _
 have hbi : WF.heap[w.heap.size]? = some (.cells #[.string ⟨s.toArray⟩, .string ⟨#[40, 41, 86]⟩, .bool true, .bool false, .int .i64 0, .slice (some ⟨w.heap.size + 1, 0, none⟩) 1 1] 38 (0, 0)) := by rw [hV]; exact (Below.heap_alloc _ _ _ (by simp)).trans (heap_alloc_new w _)
 have hjf : WF.heap[w.heap.size + 1]? = some (.cells #[.int .i64 23, .int .i64 0, .int .i64 0, .int .i64 0, .int .i64 0, .string ⟨#[]⟩, .string ⟨#[]⟩, .string ⟨#[]⟩, .slice none 0 0] 42 (0, 0)) := by
  rw [hV]
  have := heap_alloc_new (w.alloc (.cells #[.string ⟨s.toArray⟩, .string ⟨#[40, 41, 86]⟩, .bool true, .bool false, .int .i64 0, .slice (some ⟨w.heap.size + 1, 0, none⟩) 1 1] 38)) (.cells #[.int .i64 23, .int .i64 0, .int .i64 0, .int .i64 0, .int .i64 0, .string ⟨#[]⟩, .string ⟨#[]⟩, .string ⟨#[]⟩, .slice none 0 0] 42)
  rwa [World.size_alloc] at this
 have hok : MeOk WF (mE s (some ⟨w.heap.size + 1, 0, none⟩)) := ⟨Nat.le_refl _, rd_blk hjf (k := 9) rfl, fun y hy => by simp [mE] at hy; subst hy; exact ⟨Nat.le_refl _, Rd.nil _ _⟩⟩
 obtain ⟨r0, r1, r2, r3, r4, r5⟩ := c6q hbi
 have HV := hh hV; have HBF := hh hal; have HOK := hh hok
 have R0 := hh r0
 have R1 := hh r1
 have R2 := hh r2
 have R3 := hh r3
 have R4 := hh r4
 have R5 := hh r5
 clear hV hal hbi hjf hok r0 r1 r2 r3 r4 r5
 go_enter Tryz.func11, Tryz.ntmps11
 go_wp2
 try simp only [World.size_alloc]
 rw [← HV.out]
 refine bodyPost_ret (v := .agg #[.string ⟨s.toArray⟩, .string ⟨#[40, 41, 86]⟩, .bool true, .bool false, .int .i64 0, .slice (some ⟨w.heap.size + 1, 0, none⟩) 1 1]) ?_ rfl ⟨_, rfl, HOK.out, HBF.out⟩
 simp [results, Tryz.results11, go_sem, R0.out, R1.out, R2.out, R3.out, R4.out, R5.out]
theorem idx_one {α : Type} {P : α → Bool} {x y : α} {r : Int} (h : Idx P [x, y] r) (hx : P x = false) (hy : P y = true) : r = 1 := by
 rcases h with ⟨rfl, h⟩ | ⟨k, t, rfl, hk, ht, hall⟩
 ·have := h y (by simp); rw [hy] at this; cases this
 ·rcases k with _ | _ | k
  ·simp at hk; subst hk; rw [hx] at ht; cases ht
  ·rfl
  ·simp at hk
theorem idx_none {α : Type} {P : α → Bool} {r : Int} (h : Idx P [] r) : r = -1 := by
 rcases h with ⟨rfl, _⟩ | ⟨k, t, rfl, hk, _⟩
 ·rfl
 ·simp at hk
def lA (A1 A2 B : Option Addr) : ClM := ⟨[65], [], false, false, [], none, 0, [], none, 0, [mE [98] A1, mE [99] A2], B, 2⟩
def lB : ClM := ⟨[66], [65], false, false, [], none, 0, [], none, 0, [], none, 0⟩
def lP (A1 A2 B C : Option Addr) : PrM := ⟨[lA A1 A2 B, lB], C, 2, [], none, 0, [], [], []⟩
def lQ (A1 A2 B C : Option Addr) : PrM := ⟨[lB, lA A1 A2 B], C, 2, [], none, 0, [], [], []⟩
def lM : MeM := ⟨[109], [40, 41, 86], false, true, 0, [], none, 0⟩
def lC (B : Option Addr) : ClM := ⟨[65], [], false, false, [], none, 0, [], none, 0, [lM], B, 1⟩
def lR (B C : Option Addr) : PrM := ⟨[lC B], C, 1, [], none, 0, [], [], []⟩
theorem lP_right (A1 A2 B C : Option Addr) : rightE (lP A1 A2 B C) = 0 := by kernel_rfl
theorem lQ_right (A1 A2 B C : Option Addr) : rightE (lQ A1 A2 B C) = 5 := by kernel_rfl
theorem lR_right (B C : Option Addr) : rightE (lR B C) = 1 := by kernel_rfl
theorem lP_order (A1 A2 B C : Option Addr) : orderB (lP A1 A2 B C) = true := by kernel_rfl
theorem lP_strings (A1 A2 B C : Option Addr) : (stringsL (lP A1 A2 B C)).length = 7 := by kernel_rfl
theorem lPQ (A1 A2 B C A3 A4 D E : Option Addr) : ¬ pP (lP A1 A2 B C) = pP (lQ A3 A4 D E) := by
 intro h
 have := congrArg (fun p : PrP => p.cs.map ClP.nm) h
 simp [pP, lP, lQ, pC, lA, lB] at this
theorem lP_bd (A1 A2 B C : Option Addr) : PrBd (lP A1 A2 B C) := by
 simp [PrBd, lP, lA, lB, ClBd, MeBd, mE, eI, InBd]
theorem lQ_bd (A1 A2 B C : Option Addr) : PrBd (lQ A1 A2 B C) := by
 simp [PrBd, lQ, lA, lB, ClBd, MeBd, mE, eI, InBd]
theorem lR_bd (B C : Option Addr) : PrBd (lR B C) := by
 simp [PrBd, lR, lC, lM, ClBd, MeBd]
theorem lP_fit (A1 A2 B C : Option Addr) : PrFit (lP A1 A2 B C) := by
 simp [PrFit, ClFit, MeFit, InFit, lP, lA, lB, mE, eI]
theorem lQ_fit (A1 A2 B C : Option Addr) : PrFit (lQ A1 A2 B C) := by
 simp [PrFit, ClFit, MeFit, InFit, lQ, lA, lB, mE, eI]
theorem lR_fit (B C : Option Addr) : PrFit (lR B C) := by
 simp [PrFit, ClFit, MeFit, InFit, lR, lC, lM]
theorem lQ_gr (A1 A2 B C : Option Addr) : GrP (lQ A1 A2 B C) := by
 simp [GrP, GrC, GrM, GrI, lQ, lA, lB, mE, eI]
theorem lQ_sort (A1 A2 B C A3 A4 D E : Option Addr) : sortPP (pP (lQ A1 A2 B C)) = pP (lP A3 A4 D E) := by kernel_rfl
theorem live_w (w : World) (ht : Wd w) : Calls Tryz.prog 5 #[] w fun e w' => e = .returned (.bool true) ∧ Below w.heap.size w w' := by
 have HM := hh (fun s w => method_m s w)
 have HTW := hh ht
 clear ht
 go_enter Tryz.func5, Tryz.ntmps5
 go_wp2_with fail
 refine (HM.out [98] _).mono ?_
 rintro e v1 ⟨A1, rfl, hk1, hb1⟩
 have HB1 := hh hb1; have HK1 := hh hk1
 clear hb1 hk1
 unfold mE meC
 dsimp only
 go_wp2_with fail
 refine (HM.out [99] _).mono ?_
 rintro e v2 ⟨A2, rfl, hk2, hb2⟩
 have HB2 := hh (HB1.out.trans (hb2.mono HB1.out.size))
 have hk1 := HK1.out.below hb2
 obtain ⟨a1, rfl⟩ : ∃ a, A1 = some a := by
  rcases hk1.2.1 with h | ⟨a, h, _⟩
  ·simp [mE, inC] at h
  ·exact ⟨a, h⟩
 obtain ⟨a2, rfl⟩ : ∃ a, A2 = some a := by
  rcases hk2.2.1 with h | ⟨a, h, _⟩
  ·simp [mE, inC] at h
  ·exact ⟨a, h⟩
 obtain ⟨u1, hu1⟩ : ∃ u, u = v2.alloc (.cells #[.string ⟨#[98]⟩, .string ⟨#[40, 41, 86]⟩, .bool true, .bool false, .int .i64 0, .slice (some a1) 1 1, .string ⟨#[99]⟩, .string ⟨#[40, 41, 86]⟩, .bool true, .bool false, .int .i64 0, .slice (some a2) 1 1] 38) := ⟨_, rfl⟩
 have s1 : u1.heap.size = v2.heap.size + 1 := by rw [hu1]; simp
 have n0_1 : u1.heap[v2.heap.size]? = some (.cells #[.string ⟨#[98]⟩, .string ⟨#[40, 41, 86]⟩, .bool true, .bool false, .int .i64 0, .slice (some a1) 1 1, .string ⟨#[99]⟩, .string ⟨#[40, 41, 86]⟩, .bool true, .bool false, .int .i64 0, .slice (some a2) 1 1] 38 (0, 0)) := by
  have h := heap_alloc_new v2 (.cells #[.string ⟨#[98]⟩, .string ⟨#[40, 41, 86]⟩, .bool true, .bool false, .int .i64 0, .slice (some a1) 1 1, .string ⟨#[99]⟩, .string ⟨#[40, 41, 86]⟩, .bool true, .bool false, .int .i64 0, .slice (some a2) 1 1] 38)
  rw [hu1]; exact h
 obtain ⟨u2, hu2⟩ : ∃ u, u = u1.alloc (.cells #[.string ⟨#[65]⟩, .string ⟨#[]⟩, .bool false, .bool false, .slice none 0 0, .slice none 0 0, .slice (some ⟨v2.heap.size, 0, none⟩) 2 2] 35) := ⟨_, rfl⟩
 have s2 : u2.heap.size = v2.heap.size + 1 + 1 := by rw [hu2]; simp [s1]
 have n1_2 : u2.heap[v2.heap.size + 1]? = some (.cells #[.string ⟨#[65]⟩, .string ⟨#[]⟩, .bool false, .bool false, .slice none 0 0, .slice none 0 0, .slice (some ⟨v2.heap.size, 0, none⟩) 2 2] 35 (0, 0)) := by
  have h := heap_alloc_new u1 (.cells #[.string ⟨#[65]⟩, .string ⟨#[]⟩, .bool false, .bool false, .slice none 0 0, .slice none 0 0, .slice (some ⟨v2.heap.size, 0, none⟩) 2 2] 35)
  rw [s1] at h
  rw [hu2]; exact h
 have n0_2 : u2.heap[v2.heap.size]? = some (.cells #[.string ⟨#[98]⟩, .string ⟨#[40, 41, 86]⟩, .bool true, .bool false, .int .i64 0, .slice (some a1) 1 1, .string ⟨#[99]⟩, .string ⟨#[40, 41, 86]⟩, .bool true, .bool false, .int .i64 0, .slice (some a2) 1 1] 38 (0, 0)) := by rw [hu2]; exact (Below.heap_alloc _ _ _ (by rw [s1]; omega)).trans n0_1
 obtain ⟨u3, hu3⟩ : ∃ u, u = u2.alloc (.cells #[.string ⟨#[65]⟩, .string ⟨#[]⟩, .bool false, .bool false, .slice none 0 0, .slice none 0 0, .slice (some ⟨v2.heap.size, 0, none⟩) 2 2, .string ⟨#[66]⟩, .string ⟨#[65]⟩, .bool false, .bool false, .slice none 0 0, .slice none 0 0, .slice none 0 0] 35) := ⟨_, rfl⟩
 have s3 : u3.heap.size = v2.heap.size + 1 + 1 + 1 := by rw [hu3]; simp [s2]
 have n2_3 : u3.heap[v2.heap.size + 1 + 1]? = some (.cells #[.string ⟨#[65]⟩, .string ⟨#[]⟩, .bool false, .bool false, .slice none 0 0, .slice none 0 0, .slice (some ⟨v2.heap.size, 0, none⟩) 2 2, .string ⟨#[66]⟩, .string ⟨#[65]⟩, .bool false, .bool false, .slice none 0 0, .slice none 0 0, .slice none 0 0] 35 (0, 0)) := by
  have h := heap_alloc_new u2 (.cells #[.string ⟨#[65]⟩, .string ⟨#[]⟩, .bool false, .bool false, .slice none 0 0, .slice none 0 0, .slice (some ⟨v2.heap.size, 0, none⟩) 2 2, .string ⟨#[66]⟩, .string ⟨#[65]⟩, .bool false, .bool false, .slice none 0 0, .slice none 0 0, .slice none 0 0] 35)
  rw [s2] at h
  rw [hu3]; exact h
 have n0_3 : u3.heap[v2.heap.size]? = some (.cells #[.string ⟨#[98]⟩, .string ⟨#[40, 41, 86]⟩, .bool true, .bool false, .int .i64 0, .slice (some a1) 1 1, .string ⟨#[99]⟩, .string ⟨#[40, 41, 86]⟩, .bool true, .bool false, .int .i64 0, .slice (some a2) 1 1] 38 (0, 0)) := by rw [hu3]; exact (Below.heap_alloc _ _ _ (by rw [s2]; omega)).trans n0_2
 have n1_3 : u3.heap[v2.heap.size + 1]? = some (.cells #[.string ⟨#[65]⟩, .string ⟨#[]⟩, .bool false, .bool false, .slice none 0 0, .slice none 0 0, .slice (some ⟨v2.heap.size, 0, none⟩) 2 2] 35 (0, 0)) := by rw [hu3]; exact (Below.heap_alloc _ _ _ (by rw [s2]; omega)).trans n1_2
 obtain ⟨u4, hu4⟩ : ∃ u, u = u3.alloc (.cells #[.slice (some ⟨v2.heap.size + 1 + 1, 0, none⟩) 2 2, .slice none 0 0, .string ⟨#[]⟩, .string ⟨#[]⟩, .string ⟨#[]⟩] 27) := ⟨_, rfl⟩
 have s4 : u4.heap.size = v2.heap.size + 1 + 1 + 1 + 1 := by rw [hu4]; simp [s3]
 have n3_4 : u4.heap[v2.heap.size + 1 + 1 + 1]? = some (.cells #[.slice (some ⟨v2.heap.size + 1 + 1, 0, none⟩) 2 2, .slice none 0 0, .string ⟨#[]⟩, .string ⟨#[]⟩, .string ⟨#[]⟩] 27 (0, 0)) := by
  have h := heap_alloc_new u3 (.cells #[.slice (some ⟨v2.heap.size + 1 + 1, 0, none⟩) 2 2, .slice none 0 0, .string ⟨#[]⟩, .string ⟨#[]⟩, .string ⟨#[]⟩] 27)
  rw [s3] at h
  rw [hu4]; exact h
 have n0_4 : u4.heap[v2.heap.size]? = some (.cells #[.string ⟨#[98]⟩, .string ⟨#[40, 41, 86]⟩, .bool true, .bool false, .int .i64 0, .slice (some a1) 1 1, .string ⟨#[99]⟩, .string ⟨#[40, 41, 86]⟩, .bool true, .bool false, .int .i64 0, .slice (some a2) 1 1] 38 (0, 0)) := by rw [hu4]; exact (Below.heap_alloc _ _ _ (by rw [s3]; omega)).trans n0_3
 have n1_4 : u4.heap[v2.heap.size + 1]? = some (.cells #[.string ⟨#[65]⟩, .string ⟨#[]⟩, .bool false, .bool false, .slice none 0 0, .slice none 0 0, .slice (some ⟨v2.heap.size, 0, none⟩) 2 2] 35 (0, 0)) := by rw [hu4]; exact (Below.heap_alloc _ _ _ (by rw [s3]; omega)).trans n1_3
 have n2_4 : u4.heap[v2.heap.size + 1 + 1]? = some (.cells #[.string ⟨#[65]⟩, .string ⟨#[]⟩, .bool false, .bool false, .slice none 0 0, .slice none 0 0, .slice (some ⟨v2.heap.size, 0, none⟩) 2 2, .string ⟨#[66]⟩, .string ⟨#[65]⟩, .bool false, .bool false, .slice none 0 0, .slice none 0 0, .slice none 0 0] 35 (0, 0)) := by rw [hu4]; exact (Below.heap_alloc _ _ _ (by rw [s3]; omega)).trans n2_3
 obtain ⟨u5, hu5⟩ : ∃ u, u = u4.alloc (.cells #[.string ⟨#[66]⟩, .string ⟨#[65]⟩, .bool false, .bool false, .slice none 0 0, .slice none 0 0, .slice none 0 0, .string ⟨#[65]⟩, .string ⟨#[]⟩, .bool false, .bool false, .slice none 0 0, .slice none 0 0, .slice (some ⟨v2.heap.size, 0, none⟩) 2 2] 35) := ⟨_, rfl⟩
 have s5 : u5.heap.size = v2.heap.size + 1 + 1 + 1 + 1 + 1 := by rw [hu5]; simp [s4]
 have n4_5 : u5.heap[v2.heap.size + 1 + 1 + 1 + 1]? = some (.cells #[.string ⟨#[66]⟩, .string ⟨#[65]⟩, .bool false, .bool false, .slice none 0 0, .slice none 0 0, .slice none 0 0, .string ⟨#[65]⟩, .string ⟨#[]⟩, .bool false, .bool false, .slice none 0 0, .slice none 0 0, .slice (some ⟨v2.heap.size, 0, none⟩) 2 2] 35 (0, 0)) := by
  have h := heap_alloc_new u4 (.cells #[.string ⟨#[66]⟩, .string ⟨#[65]⟩, .bool false, .bool false, .slice none 0 0, .slice none 0 0, .slice none 0 0, .string ⟨#[65]⟩, .string ⟨#[]⟩, .bool false, .bool false, .slice none 0 0, .slice none 0 0, .slice (some ⟨v2.heap.size, 0, none⟩) 2 2] 35)
  rw [s4] at h
  rw [hu5]; exact h
 have n0_5 : u5.heap[v2.heap.size]? = some (.cells #[.string ⟨#[98]⟩, .string ⟨#[40, 41, 86]⟩, .bool true, .bool false, .int .i64 0, .slice (some a1) 1 1, .string ⟨#[99]⟩, .string ⟨#[40, 41, 86]⟩, .bool true, .bool false, .int .i64 0, .slice (some a2) 1 1] 38 (0, 0)) := by rw [hu5]; exact (Below.heap_alloc _ _ _ (by rw [s4]; omega)).trans n0_4
 have n1_5 : u5.heap[v2.heap.size + 1]? = some (.cells #[.string ⟨#[65]⟩, .string ⟨#[]⟩, .bool false, .bool false, .slice none 0 0, .slice none 0 0, .slice (some ⟨v2.heap.size, 0, none⟩) 2 2] 35 (0, 0)) := by rw [hu5]; exact (Below.heap_alloc _ _ _ (by rw [s4]; omega)).trans n1_4
 have n2_5 : u5.heap[v2.heap.size + 1 + 1]? = some (.cells #[.string ⟨#[65]⟩, .string ⟨#[]⟩, .bool false, .bool false, .slice none 0 0, .slice none 0 0, .slice (some ⟨v2.heap.size, 0, none⟩) 2 2, .string ⟨#[66]⟩, .string ⟨#[65]⟩, .bool false, .bool false, .slice none 0 0, .slice none 0 0, .slice none 0 0] 35 (0, 0)) := by rw [hu5]; exact (Below.heap_alloc _ _ _ (by rw [s4]; omega)).trans n2_4
 have n3_5 : u5.heap[v2.heap.size + 1 + 1 + 1]? = some (.cells #[.slice (some ⟨v2.heap.size + 1 + 1, 0, none⟩) 2 2, .slice none 0 0, .string ⟨#[]⟩, .string ⟨#[]⟩, .string ⟨#[]⟩] 27 (0, 0)) := by rw [hu5]; exact (Below.heap_alloc _ _ _ (by rw [s4]; omega)).trans n3_4
 obtain ⟨u6, hu6⟩ : ∃ u, u = u5.alloc (.cells #[.slice (some ⟨v2.heap.size + 1 + 1 + 1 + 1, 0, none⟩) 2 2, .slice none 0 0, .string ⟨#[]⟩, .string ⟨#[]⟩, .string ⟨#[]⟩] 27) := ⟨_, rfl⟩
 have s6 : u6.heap.size = v2.heap.size + 1 + 1 + 1 + 1 + 1 + 1 := by rw [hu6]; simp [s5]
 have n5_6 : u6.heap[v2.heap.size + 1 + 1 + 1 + 1 + 1]? = some (.cells #[.slice (some ⟨v2.heap.size + 1 + 1 + 1 + 1, 0, none⟩) 2 2, .slice none 0 0, .string ⟨#[]⟩, .string ⟨#[]⟩, .string ⟨#[]⟩] 27 (0, 0)) := by
  have h := heap_alloc_new u5 (.cells #[.slice (some ⟨v2.heap.size + 1 + 1 + 1 + 1, 0, none⟩) 2 2, .slice none 0 0, .string ⟨#[]⟩, .string ⟨#[]⟩, .string ⟨#[]⟩] 27)
  rw [s5] at h
  rw [hu6]; exact h
 have n0_6 : u6.heap[v2.heap.size]? = some (.cells #[.string ⟨#[98]⟩, .string ⟨#[40, 41, 86]⟩, .bool true, .bool false, .int .i64 0, .slice (some a1) 1 1, .string ⟨#[99]⟩, .string ⟨#[40, 41, 86]⟩, .bool true, .bool false, .int .i64 0, .slice (some a2) 1 1] 38 (0, 0)) := by rw [hu6]; exact (Below.heap_alloc _ _ _ (by rw [s5]; omega)).trans n0_5
 have n1_6 : u6.heap[v2.heap.size + 1]? = some (.cells #[.string ⟨#[65]⟩, .string ⟨#[]⟩, .bool false, .bool false, .slice none 0 0, .slice none 0 0, .slice (some ⟨v2.heap.size, 0, none⟩) 2 2] 35 (0, 0)) := by rw [hu6]; exact (Below.heap_alloc _ _ _ (by rw [s5]; omega)).trans n1_5
 have n2_6 : u6.heap[v2.heap.size + 1 + 1]? = some (.cells #[.string ⟨#[65]⟩, .string ⟨#[]⟩, .bool false, .bool false, .slice none 0 0, .slice none 0 0, .slice (some ⟨v2.heap.size, 0, none⟩) 2 2, .string ⟨#[66]⟩, .string ⟨#[65]⟩, .bool false, .bool false, .slice none 0 0, .slice none 0 0, .slice none 0 0] 35 (0, 0)) := by rw [hu6]; exact (Below.heap_alloc _ _ _ (by rw [s5]; omega)).trans n2_5
 have n3_6 : u6.heap[v2.heap.size + 1 + 1 + 1]? = some (.cells #[.slice (some ⟨v2.heap.size + 1 + 1, 0, none⟩) 2 2, .slice none 0 0, .string ⟨#[]⟩, .string ⟨#[]⟩, .string ⟨#[]⟩] 27 (0, 0)) := by rw [hu6]; exact (Below.heap_alloc _ _ _ (by rw [s5]; omega)).trans n3_5
 have n4_6 : u6.heap[v2.heap.size + 1 + 1 + 1 + 1]? = some (.cells #[.string ⟨#[66]⟩, .string ⟨#[65]⟩, .bool false, .bool false, .slice none 0 0, .slice none 0 0, .slice none 0 0, .string ⟨#[65]⟩, .string ⟨#[]⟩, .bool false, .bool false, .slice none 0 0, .slice none 0 0, .slice (some ⟨v2.heap.size, 0, none⟩) 2 2] 35 (0, 0)) := by rw [hu6]; exact (Below.heap_alloc _ _ _ (by rw [s5]; omega)).trans n4_5
 obtain ⟨u7, hu7⟩ : ∃ u, u = u6.alloc (.cells #[.string ⟨#[109]⟩, .string ⟨#[40, 41, 86]⟩, .bool false, .bool true, .int .i64 0, .slice none 0 0] 38) := ⟨_, rfl⟩
 have s7 : u7.heap.size = v2.heap.size + 1 + 1 + 1 + 1 + 1 + 1 + 1 := by rw [hu7]; simp [s6]
 have n6_7 : u7.heap[v2.heap.size + 1 + 1 + 1 + 1 + 1 + 1]? = some (.cells #[.string ⟨#[109]⟩, .string ⟨#[40, 41, 86]⟩, .bool false, .bool true, .int .i64 0, .slice none 0 0] 38 (0, 0)) := by
  have h := heap_alloc_new u6 (.cells #[.string ⟨#[109]⟩, .string ⟨#[40, 41, 86]⟩, .bool false, .bool true, .int .i64 0, .slice none 0 0] 38)
  rw [s6] at h
  rw [hu7]; exact h
 have n0_7 : u7.heap[v2.heap.size]? = some (.cells #[.string ⟨#[98]⟩, .string ⟨#[40, 41, 86]⟩, .bool true, .bool false, .int .i64 0, .slice (some a1) 1 1, .string ⟨#[99]⟩, .string ⟨#[40, 41, 86]⟩, .bool true, .bool false, .int .i64 0, .slice (some a2) 1 1] 38 (0, 0)) := by rw [hu7]; exact (Below.heap_alloc _ _ _ (by rw [s6]; omega)).trans n0_6
 have n1_7 : u7.heap[v2.heap.size + 1]? = some (.cells #[.string ⟨#[65]⟩, .string ⟨#[]⟩, .bool false, .bool false, .slice none 0 0, .slice none 0 0, .slice (some ⟨v2.heap.size, 0, none⟩) 2 2] 35 (0, 0)) := by rw [hu7]; exact (Below.heap_alloc _ _ _ (by rw [s6]; omega)).trans n1_6
 have n2_7 : u7.heap[v2.heap.size + 1 + 1]? = some (.cells #[.string ⟨#[65]⟩, .string ⟨#[]⟩, .bool false, .bool false, .slice none 0 0, .slice none 0 0, .slice (some ⟨v2.heap.size, 0, none⟩) 2 2, .string ⟨#[66]⟩, .string ⟨#[65]⟩, .bool false, .bool false, .slice none 0 0, .slice none 0 0, .slice none 0 0] 35 (0, 0)) := by rw [hu7]; exact (Below.heap_alloc _ _ _ (by rw [s6]; omega)).trans n2_6
 have n3_7 : u7.heap[v2.heap.size + 1 + 1 + 1]? = some (.cells #[.slice (some ⟨v2.heap.size + 1 + 1, 0, none⟩) 2 2, .slice none 0 0, .string ⟨#[]⟩, .string ⟨#[]⟩, .string ⟨#[]⟩] 27 (0, 0)) := by rw [hu7]; exact (Below.heap_alloc _ _ _ (by rw [s6]; omega)).trans n3_6
 have n4_7 : u7.heap[v2.heap.size + 1 + 1 + 1 + 1]? = some (.cells #[.string ⟨#[66]⟩, .string ⟨#[65]⟩, .bool false, .bool false, .slice none 0 0, .slice none 0 0, .slice none 0 0, .string ⟨#[65]⟩, .string ⟨#[]⟩, .bool false, .bool false, .slice none 0 0, .slice none 0 0, .slice (some ⟨v2.heap.size, 0, none⟩) 2 2] 35 (0, 0)) := by rw [hu7]; exact (Below.heap_alloc _ _ _ (by rw [s6]; omega)).trans n4_6
 have n5_7 : u7.heap[v2.heap.size + 1 + 1 + 1 + 1 + 1]? = some (.cells #[.slice (some ⟨v2.heap.size + 1 + 1 + 1 + 1, 0, none⟩) 2 2, .slice none 0 0, .string ⟨#[]⟩, .string ⟨#[]⟩, .string ⟨#[]⟩] 27 (0, 0)) := by rw [hu7]; exact (Below.heap_alloc _ _ _ (by rw [s6]; omega)).trans n5_6
 obtain ⟨u8, hu8⟩ : ∃ u, u = u7.alloc (.cells #[.string ⟨#[65]⟩, .string ⟨#[]⟩, .bool false, .bool false, .slice none 0 0, .slice none 0 0, .slice (some ⟨v2.heap.size + 1 + 1 + 1 + 1 + 1 + 1, 0, none⟩) 1 1] 35) := ⟨_, rfl⟩
 have s8 : u8.heap.size = v2.heap.size + 1 + 1 + 1 + 1 + 1 + 1 + 1 + 1 := by rw [hu8]; simp [s7]
 have n7_8 : u8.heap[v2.heap.size + 1 + 1 + 1 + 1 + 1 + 1 + 1]? = some (.cells #[.string ⟨#[65]⟩, .string ⟨#[]⟩, .bool false, .bool false, .slice none 0 0, .slice none 0 0, .slice (some ⟨v2.heap.size + 1 + 1 + 1 + 1 + 1 + 1, 0, none⟩) 1 1] 35 (0, 0)) := by
  have h := heap_alloc_new u7 (.cells #[.string ⟨#[65]⟩, .string ⟨#[]⟩, .bool false, .bool false, .slice none 0 0, .slice none 0 0, .slice (some ⟨v2.heap.size + 1 + 1 + 1 + 1 + 1 + 1, 0, none⟩) 1 1] 35)
  rw [s7] at h
  rw [hu8]; exact h
 have n0_8 : u8.heap[v2.heap.size]? = some (.cells #[.string ⟨#[98]⟩, .string ⟨#[40, 41, 86]⟩, .bool true, .bool false, .int .i64 0, .slice (some a1) 1 1, .string ⟨#[99]⟩, .string ⟨#[40, 41, 86]⟩, .bool true, .bool false, .int .i64 0, .slice (some a2) 1 1] 38 (0, 0)) := by rw [hu8]; exact (Below.heap_alloc _ _ _ (by rw [s7]; omega)).trans n0_7
 have n1_8 : u8.heap[v2.heap.size + 1]? = some (.cells #[.string ⟨#[65]⟩, .string ⟨#[]⟩, .bool false, .bool false, .slice none 0 0, .slice none 0 0, .slice (some ⟨v2.heap.size, 0, none⟩) 2 2] 35 (0, 0)) := by rw [hu8]; exact (Below.heap_alloc _ _ _ (by rw [s7]; omega)).trans n1_7
 have n2_8 : u8.heap[v2.heap.size + 1 + 1]? = some (.cells #[.string ⟨#[65]⟩, .string ⟨#[]⟩, .bool false, .bool false, .slice none 0 0, .slice none 0 0, .slice (some ⟨v2.heap.size, 0, none⟩) 2 2, .string ⟨#[66]⟩, .string ⟨#[65]⟩, .bool false, .bool false, .slice none 0 0, .slice none 0 0, .slice none 0 0] 35 (0, 0)) := by rw [hu8]; exact (Below.heap_alloc _ _ _ (by rw [s7]; omega)).trans n2_7
 have n3_8 : u8.heap[v2.heap.size + 1 + 1 + 1]? = some (.cells #[.slice (some ⟨v2.heap.size + 1 + 1, 0, none⟩) 2 2, .slice none 0 0, .string ⟨#[]⟩, .string ⟨#[]⟩, .string ⟨#[]⟩] 27 (0, 0)) := by rw [hu8]; exact (Below.heap_alloc _ _ _ (by rw [s7]; omega)).trans n3_7
 have n4_8 : u8.heap[v2.heap.size + 1 + 1 + 1 + 1]? = some (.cells #[.string ⟨#[66]⟩, .string ⟨#[65]⟩, .bool false, .bool false, .slice none 0 0, .slice none 0 0, .slice none 0 0, .string ⟨#[65]⟩, .string ⟨#[]⟩, .bool false, .bool false, .slice none 0 0, .slice none 0 0, .slice (some ⟨v2.heap.size, 0, none⟩) 2 2] 35 (0, 0)) := by rw [hu8]; exact (Below.heap_alloc _ _ _ (by rw [s7]; omega)).trans n4_7
 have n5_8 : u8.heap[v2.heap.size + 1 + 1 + 1 + 1 + 1]? = some (.cells #[.slice (some ⟨v2.heap.size + 1 + 1 + 1 + 1, 0, none⟩) 2 2, .slice none 0 0, .string ⟨#[]⟩, .string ⟨#[]⟩, .string ⟨#[]⟩] 27 (0, 0)) := by rw [hu8]; exact (Below.heap_alloc _ _ _ (by rw [s7]; omega)).trans n5_7
 have n6_8 : u8.heap[v2.heap.size + 1 + 1 + 1 + 1 + 1 + 1]? = some (.cells #[.string ⟨#[109]⟩, .string ⟨#[40, 41, 86]⟩, .bool false, .bool true, .int .i64 0, .slice none 0 0] 38 (0, 0)) := by rw [hu8]; exact (Below.heap_alloc _ _ _ (by rw [s7]; omega)).trans n6_7
 obtain ⟨u9, hu9⟩ : ∃ u, u = u8.alloc (.cells #[.slice (some ⟨v2.heap.size + 1 + 1 + 1 + 1 + 1 + 1 + 1, 0, none⟩) 1 1, .slice none 0 0, .string ⟨#[]⟩, .string ⟨#[]⟩, .string ⟨#[]⟩] 27) := ⟨_, rfl⟩
 have s9 : u9.heap.size = v2.heap.size + 1 + 1 + 1 + 1 + 1 + 1 + 1 + 1 + 1 := by rw [hu9]; simp [s8]
 have n8_9 : u9.heap[v2.heap.size + 1 + 1 + 1 + 1 + 1 + 1 + 1 + 1]? = some (.cells #[.slice (some ⟨v2.heap.size + 1 + 1 + 1 + 1 + 1 + 1 + 1, 0, none⟩) 1 1, .slice none 0 0, .string ⟨#[]⟩, .string ⟨#[]⟩, .string ⟨#[]⟩] 27 (0, 0)) := by
  have h := heap_alloc_new u8 (.cells #[.slice (some ⟨v2.heap.size + 1 + 1 + 1 + 1 + 1 + 1 + 1, 0, none⟩) 1 1, .slice none 0 0, .string ⟨#[]⟩, .string ⟨#[]⟩, .string ⟨#[]⟩] 27)
  rw [s8] at h
  rw [hu9]; exact h
 have n0_9 : u9.heap[v2.heap.size]? = some (.cells #[.string ⟨#[98]⟩, .string ⟨#[40, 41, 86]⟩, .bool true, .bool false, .int .i64 0, .slice (some a1) 1 1, .string ⟨#[99]⟩, .string ⟨#[40, 41, 86]⟩, .bool true, .bool false, .int .i64 0, .slice (some a2) 1 1] 38 (0, 0)) := by rw [hu9]; exact (Below.heap_alloc _ _ _ (by rw [s8]; omega)).trans n0_8
 have n1_9 : u9.heap[v2.heap.size + 1]? = some (.cells #[.string ⟨#[65]⟩, .string ⟨#[]⟩, .bool false, .bool false, .slice none 0 0, .slice none 0 0, .slice (some ⟨v2.heap.size, 0, none⟩) 2 2] 35 (0, 0)) := by rw [hu9]; exact (Below.heap_alloc _ _ _ (by rw [s8]; omega)).trans n1_8
 have n2_9 : u9.heap[v2.heap.size + 1 + 1]? = some (.cells #[.string ⟨#[65]⟩, .string ⟨#[]⟩, .bool false, .bool false, .slice none 0 0, .slice none 0 0, .slice (some ⟨v2.heap.size, 0, none⟩) 2 2, .string ⟨#[66]⟩, .string ⟨#[65]⟩, .bool false, .bool false, .slice none 0 0, .slice none 0 0, .slice none 0 0] 35 (0, 0)) := by rw [hu9]; exact (Below.heap_alloc _ _ _ (by rw [s8]; omega)).trans n2_8
 have n3_9 : u9.heap[v2.heap.size + 1 + 1 + 1]? = some (.cells #[.slice (some ⟨v2.heap.size + 1 + 1, 0, none⟩) 2 2, .slice none 0 0, .string ⟨#[]⟩, .string ⟨#[]⟩, .string ⟨#[]⟩] 27 (0, 0)) := by rw [hu9]; exact (Below.heap_alloc _ _ _ (by rw [s8]; omega)).trans n3_8
 have n4_9 : u9.heap[v2.heap.size + 1 + 1 + 1 + 1]? = some (.cells #[.string ⟨#[66]⟩, .string ⟨#[65]⟩, .bool false, .bool false, .slice none 0 0, .slice none 0 0, .slice none 0 0, .string ⟨#[65]⟩, .string ⟨#[]⟩, .bool false, .bool false, .slice none 0 0, .slice none 0 0, .slice (some ⟨v2.heap.size, 0, none⟩) 2 2] 35 (0, 0)) := by rw [hu9]; exact (Below.heap_alloc _ _ _ (by rw [s8]; omega)).trans n4_8
 have n5_9 : u9.heap[v2.heap.size + 1 + 1 + 1 + 1 + 1]? = some (.cells #[.slice (some ⟨v2.heap.size + 1 + 1 + 1 + 1, 0, none⟩) 2 2, .slice none 0 0, .string ⟨#[]⟩, .string ⟨#[]⟩, .string ⟨#[]⟩] 27 (0, 0)) := by rw [hu9]; exact (Below.heap_alloc _ _ _ (by rw [s8]; omega)).trans n5_8
 have n6_9 : u9.heap[v2.heap.size + 1 + 1 + 1 + 1 + 1 + 1]? = some (.cells #[.string ⟨#[109]⟩, .string ⟨#[40, 41, 86]⟩, .bool false, .bool true, .int .i64 0, .slice none 0 0] 38 (0, 0)) := by rw [hu9]; exact (Below.heap_alloc _ _ _ (by rw [s8]; omega)).trans n6_8
 have n7_9 : u9.heap[v2.heap.size + 1 + 1 + 1 + 1 + 1 + 1 + 1]? = some (.cells #[.string ⟨#[65]⟩, .string ⟨#[]⟩, .bool false, .bool false, .slice none 0 0, .slice none 0 0, .slice (some ⟨v2.heap.size + 1 + 1 + 1 + 1 + 1 + 1, 0, none⟩) 1 1] 35 (0, 0)) := by rw [hu9]; exact (Below.heap_alloc _ _ _ (by rw [s8]; omega)).trans n7_8
 have hbv : Below v2.heap.size v2 u9 := by
  rw [hu9, hu8, hu7, hu6, hu5, hu4, hu3, hu2, hu1]
  exact ((((((((((Below.refl _ v2).alloc (Nat.le_refl _) _).alloc (by simp only [World.size_alloc]; omega) _).alloc (by simp only [World.size_alloc]; omega) _).alloc (by simp only [World.size_alloc]; omega) _).alloc (by simp only [World.size_alloc]; omega) _).alloc (by simp only [World.size_alloc]; omega) _).alloc (by simp only [World.size_alloc]; omega) _).alloc (by simp only [World.size_alloc]; omega) _).alloc (by simp only [World.size_alloc]; omega) _)
 have okA : ClOk u9 (lA (some a1) (some a2) (some ⟨v2.heap.size, 0, none⟩)) := ⟨⟨Nat.le_refl _, Rd.nil _ _⟩, ⟨Nat.le_refl _, Rd.nil _ _⟩, ⟨Nat.le_refl _, rd_blk n0_9 (k := 12) rfl⟩, fun y hy => by
  simp only [lA, List.mem_cons, List.not_mem_nil, or_false] at hy
  rcases hy with rfl | rfl
  ·exact hk1.below hbv
  ·exact hk2.below hbv⟩
 have okB : ClOk u9 lB := ⟨⟨Nat.le_refl _, Rd.nil _ _⟩, ⟨Nat.le_refl _, Rd.nil _ _⟩, ⟨Nat.le_refl _, Rd.nil _ _⟩, fun y hy => by cases hy⟩
 have okP : PrOk u9 (lP (some a1) (some a2) (some ⟨v2.heap.size, 0, none⟩) (some ⟨v2.heap.size + 1 + 1, 0, none⟩)) := ⟨⟨Nat.le_refl _, rd_blk n2_9 (k := 14) rfl⟩, ⟨Nat.le_refl _, Rd.nil _ _⟩, fun y hy => by
  simp only [lP, List.mem_cons, List.not_mem_nil, or_false] at hy
  rcases hy with rfl | rfl
  ·exact okA
  ·exact okB⟩
 have okQ : PrOk u9 (lQ (some a1) (some a2) (some ⟨v2.heap.size, 0, none⟩) (some ⟨v2.heap.size + 1 + 1 + 1 + 1, 0, none⟩)) := ⟨⟨Nat.le_refl _, rd_blk n4_9 (k := 14) rfl⟩, ⟨Nat.le_refl _, Rd.nil _ _⟩, fun y hy => by
  simp only [lQ, List.mem_cons, List.not_mem_nil, or_false] at hy
  rcases hy with rfl | rfl
  ·exact okB
  ·exact okA⟩
 have okR : PrOk u9 (lR (some ⟨v2.heap.size + 1 + 1 + 1 + 1 + 1 + 1, 0, none⟩) (some ⟨v2.heap.size + 1 + 1 + 1 + 1 + 1 + 1 + 1, 0, none⟩)) := ⟨⟨Nat.le_refl _, rd_blk n7_9 (k := 7) rfl⟩, ⟨Nat.le_refl _, Rd.nil _ _⟩, fun y hy => by
  simp only [lR, List.mem_cons, List.not_mem_nil, or_false] at hy
  subst hy
  exact ⟨⟨Nat.le_refl _, Rd.nil _ _⟩, ⟨Nat.le_refl _, Rd.nil _ _⟩, ⟨Nat.le_refl _, rd_blk n6_9 (k := 6) rfl⟩, fun y hy => by
   simp only [lC, List.mem_cons, List.not_mem_nil, or_false] at hy
   subst hy
   exact ⟨Nat.le_refl _, Rd.nil _ _, fun y hy => by cases hy⟩⟩⟩
 have htu := HTW.out.below (HB2.out.trans (hbv.mono HB2.out.size))
 have HBV := hh (HB2.out.trans (hbv.mono HB2.out.size))
 have HP := hh (fun v (hv : Below u9.heap.size u9 v) => right_w (lP (some a1) (some a2) (some ⟨v2.heap.size, 0, none⟩) (some ⟨v2.heap.size + 1 + 1, 0, none⟩)) v (htu.below hv) (okP.below hv) (lP_bd _ _ _ _) (lP_fit _ _ _ _))
 have HQ := hh (fun v (hv : Below u9.heap.size u9 v) => right_w (lQ (some a1) (some a2) (some ⟨v2.heap.size, 0, none⟩) (some ⟨v2.heap.size + 1 + 1 + 1 + 1, 0, none⟩)) v (htu.below hv) (okQ.below hv) (lQ_bd _ _ _ _) (lQ_fit _ _ _ _))
 have HR := hh (fun v (hv : Below u9.heap.size u9 v) => right_w (lR (some ⟨v2.heap.size + 1 + 1 + 1 + 1 + 1 + 1, 0, none⟩) (some ⟨v2.heap.size + 1 + 1 + 1 + 1 + 1 + 1 + 1, 0, none⟩)) v (htu.below hv) (okR.below hv) (lR_bd _ _) (lR_fit _ _))
 rw [lP_right] at HP
 rw [lQ_right] at HQ
 rw [lR_right] at HR
 have HS := hh (fun v (hv : Below u9.heap.size u9 v) => show Calls Tryz.prog 6 #[.agg (prC (lQ (some a1) (some a2) (some ⟨v2.heap.size, 0, none⟩) (some ⟨v2.heap.size + 1 + 1 + 1 + 1, 0, none⟩))).toArray] v fun e w' => (∃ y, e = .returned (.agg (prC y).toArray) ∧ pP y = pP (lP (some a1) (some a2) (some ⟨v2.heap.size, 0, none⟩) (some ⟨v2.heap.size + 1 + 1, 0, none⟩)) ∧ PrOk w' y) ∧ Below v.heap.size v w' from
  (sorted_g (lQ (some a1) (some a2) (some ⟨v2.heap.size, 0, none⟩) (some ⟨v2.heap.size + 1 + 1 + 1 + 1, 0, none⟩)) v (okQ.below hv) (lQ_gr _ _ _ _)).mono fun e w' ⟨⟨z, h1, h2, h3⟩, h4⟩ => ⟨⟨sortPm z, h1, by rw [pP_sort, h2]; exact lQ_sort _ _ _ _ _ _ _ _, h3.ok⟩, h4⟩)
 have HE := hh (fun (y : PrM) v (hv : Below u9.heap.size u9 v) (ky : PrOk v y) (hp : pP y = pP (lP (some a1) (some a2) (some ⟨v2.heap.size, 0, none⟩) (some ⟨v2.heap.size + 1 + 1, 0, none⟩))) => show Calls Tryz.prog 7 #[.agg (prC y).toArray, .agg (prC (lP (some a1) (some a2) (some ⟨v2.heap.size, 0, none⟩) (some ⟨v2.heap.size + 1 + 1, 0, none⟩))).toArray] v fun e w' => e = .returned (.bool true) ∧ Below v.heap.size v w' from by
  have h := same_g y (lP (some a1) (some a2) (some ⟨v2.heap.size, 0, none⟩) (some ⟨v2.heap.size + 1 + 1, 0, none⟩)) v ky (okP.below hv) (bd_pP hp (lP_bd _ _ _ _)) (lP_bd _ _ _ _)
  rwa [decide_eq_true hp] at h)
 have HN := hh (fun v (hv : Below u9.heap.size u9 v) => show Calls Tryz.prog 7 #[.agg (prC (lP (some a1) (some a2) (some ⟨v2.heap.size, 0, none⟩) (some ⟨v2.heap.size + 1 + 1, 0, none⟩))).toArray, .agg (prC (lQ (some a1) (some a2) (some ⟨v2.heap.size, 0, none⟩) (some ⟨v2.heap.size + 1 + 1 + 1 + 1, 0, none⟩))).toArray] v fun e w' => e = .returned (.bool false) ∧ Below v.heap.size v w' from by
  have h := same_g (lP (some a1) (some a2) (some ⟨v2.heap.size, 0, none⟩) (some ⟨v2.heap.size + 1 + 1, 0, none⟩)) (lQ (some a1) (some a2) (some ⟨v2.heap.size, 0, none⟩) (some ⟨v2.heap.size + 1 + 1 + 1 + 1, 0, none⟩)) v (okP.below hv) (okQ.below hv) (lP_bd _ _ _ _) (lQ_bd _ _ _ _)
  rwa [decide_eq_false (lPQ _ _ _ _ _ _ _ _)] at h)
 have HC := hh (fun v (hv : Below u9.heap.size u9 v) => show Calls Tryz.prog 13 #[.agg (prC (lP (some a1) (some a2) (some ⟨v2.heap.size, 0, none⟩) (some ⟨v2.heap.size + 1 + 1, 0, none⟩))).toArray, .string ⟨#[66]⟩] v fun e w' => e = .returned (.int .i64 1) ∧ Below v.heap.size v w' from
  (place_cl (lP (some a1) (some a2) (some ⟨v2.heap.size, 0, none⟩) (some ⟨v2.heap.size + 1 + 1, 0, none⟩)) [66] v (okP.below hv).1.2 (by simp [lP])).mono fun e w' ⟨r, h1, h2, h3⟩ => ⟨by rw [h1, idx_one h2 (by kernel_rfl) (by kernel_rfl)], h3⟩)
 have HMm := hh (fun v (hv : Below u9.heap.size u9 v) => show Calls Tryz.prog 14 #[.agg (clC (lA (some a1) (some a2) (some ⟨v2.heap.size, 0, none⟩))).toArray, .string ⟨#[99]⟩, .string ⟨#[40, 41, 86]⟩] v fun e w' => e = .returned (.int .i64 1) ∧ Below v.heap.size v w' from
  (place_me (lA (some a1) (some a2) (some ⟨v2.heap.size, 0, none⟩)) [99] [40, 41, 86] v (okA.below hv).2.2.1.2 (by simp [lA])).mono fun e w' ⟨r, h1, h2, h3⟩ => ⟨by rw [h1, idx_one h2 (by kernel_rfl) (by kernel_rfl)], h3⟩)
 have HF := hh (fun v (hv : Below u9.heap.size u9 v) => show Calls Tryz.prog 15 #[.agg (clC (lA (some a1) (some a2) (some ⟨v2.heap.size, 0, none⟩))).toArray, .string ⟨#[120]⟩] v fun e w' => e = .returned (.int .i64 (-1)) ∧ Below v.heap.size v w' from
  (place_fi (lA (some a1) (some a2) (some ⟨v2.heap.size, 0, none⟩)) [120] v (okA.below hv).2.1.2 (by simp [lA])).mono fun e w' ⟨r, h1, h2, h3⟩ => ⟨by rw [h1, idx_none h2], h3⟩)
 have HO := hh (fun v (hv : Below u9.heap.size u9 v) => order_w (lP (some a1) (some a2) (some ⟨v2.heap.size, 0, none⟩) (some ⟨v2.heap.size + 1 + 1, 0, none⟩)) v (okP.below hv) (lP_bd _ _ _ _))
 rw [lP_order] at HO
 have HT := hh (fun v (hv : Below u9.heap.size u9 v) => show Calls Tryz.prog 16 #[.agg (prC (lP (some a1) (some a2) (some ⟨v2.heap.size, 0, none⟩) (some ⟨v2.heap.size + 1 + 1, 0, none⟩))).toArray] v fun e w' => (∃ A c, e = .returned (.slice A 7 c)) ∧ Below v.heap.size v w' from
  (strings_w (lP (some a1) (some a2) (some ⟨v2.heap.size, 0, none⟩) (some ⟨v2.heap.size + 1 + 1, 0, none⟩)) v (okP.below hv) (lP_bd _ _ _ _) (by rw [lP_strings]; omega)).mono fun e w' ⟨⟨A, c, h1, _⟩, h3⟩ => ⟨⟨A, c, by rw [h1, lP_strings]⟩, h3⟩)
 have HFX := hh (show ∀ w' : World, Below u9.heap.size u9 w' → w'.cell? ⟨v2.heap.size + 1, 0, none⟩ = some (.string ⟨#[65]⟩) ∧ w'.cell? ⟨v2.heap.size + 1, 1, none⟩ = some (.string ⟨#[]⟩) ∧ w'.cell? ⟨v2.heap.size + 1, 2, none⟩ = some (.bool false) ∧ w'.cell? ⟨v2.heap.size + 1, 3, none⟩ = some (.bool false) ∧ w'.cell? ⟨v2.heap.size + 1, 4, none⟩ = some (.slice none 0 0) ∧ w'.cell? ⟨v2.heap.size + 1, 5, none⟩ = some (.slice none 0 0) ∧ w'.cell? ⟨v2.heap.size + 1, 6, none⟩ = some (.slice (some ⟨v2.heap.size, 0, none⟩) 2 2) ∧ w'.cell? ⟨v2.heap.size + 1 + 1 + 1, 0, none⟩ = some (.slice (some ⟨v2.heap.size + 1 + 1, 0, none⟩) 2 2) ∧ w'.cell? ⟨v2.heap.size + 1 + 1 + 1, 1, none⟩ = some (.slice none 0 0) ∧ w'.cell? ⟨v2.heap.size + 1 + 1 + 1, 2, none⟩ = some (.string ⟨#[]⟩) ∧ w'.cell? ⟨v2.heap.size + 1 + 1 + 1, 3, none⟩ = some (.string ⟨#[]⟩) ∧ w'.cell? ⟨v2.heap.size + 1 + 1 + 1, 4, none⟩ = some (.string ⟨#[]⟩) ∧ w'.cell? ⟨v2.heap.size + 1 + 1 + 1 + 1 + 1, 0, none⟩ = some (.slice (some ⟨v2.heap.size + 1 + 1 + 1 + 1, 0, none⟩) 2 2) ∧ w'.cell? ⟨v2.heap.size + 1 + 1 + 1 + 1 + 1, 1, none⟩ = some (.slice none 0 0) ∧ w'.cell? ⟨v2.heap.size + 1 + 1 + 1 + 1 + 1, 2, none⟩ = some (.string ⟨#[]⟩) ∧ w'.cell? ⟨v2.heap.size + 1 + 1 + 1 + 1 + 1, 3, none⟩ = some (.string ⟨#[]⟩) ∧ w'.cell? ⟨v2.heap.size + 1 + 1 + 1 + 1 + 1, 4, none⟩ = some (.string ⟨#[]⟩) ∧ w'.cell? ⟨v2.heap.size + 1 + 1 + 1 + 1 + 1 + 1 + 1 + 1, 0, none⟩ = some (.slice (some ⟨v2.heap.size + 1 + 1 + 1 + 1 + 1 + 1 + 1, 0, none⟩) 1 1) ∧ w'.cell? ⟨v2.heap.size + 1 + 1 + 1 + 1 + 1 + 1 + 1 + 1, 1, none⟩ = some (.slice none 0 0) ∧ w'.cell? ⟨v2.heap.size + 1 + 1 + 1 + 1 + 1 + 1 + 1 + 1, 2, none⟩ = some (.string ⟨#[]⟩) ∧ w'.cell? ⟨v2.heap.size + 1 + 1 + 1 + 1 + 1 + 1 + 1 + 1, 3, none⟩ = some (.string ⟨#[]⟩) ∧ w'.cell? ⟨v2.heap.size + 1 + 1 + 1 + 1 + 1 + 1 + 1 + 1, 4, none⟩ = some (.string ⟨#[]⟩) from fun w' hv => ⟨cell_of_row _ _ 0 _ _ _ ((hv.block _ (blk_lt n1_9)).trans n1_9), cell_of_row _ _ 1 _ _ _ ((hv.block _ (blk_lt n1_9)).trans n1_9), cell_of_row _ _ 2 _ _ _ ((hv.block _ (blk_lt n1_9)).trans n1_9), cell_of_row _ _ 3 _ _ _ ((hv.block _ (blk_lt n1_9)).trans n1_9), cell_of_row _ _ 4 _ _ _ ((hv.block _ (blk_lt n1_9)).trans n1_9), cell_of_row _ _ 5 _ _ _ ((hv.block _ (blk_lt n1_9)).trans n1_9), cell_of_row _ _ 6 _ _ _ ((hv.block _ (blk_lt n1_9)).trans n1_9), cell_of_row _ _ 0 _ _ _ ((hv.block _ (blk_lt n3_9)).trans n3_9), cell_of_row _ _ 1 _ _ _ ((hv.block _ (blk_lt n3_9)).trans n3_9), cell_of_row _ _ 2 _ _ _ ((hv.block _ (blk_lt n3_9)).trans n3_9), cell_of_row _ _ 3 _ _ _ ((hv.block _ (blk_lt n3_9)).trans n3_9), cell_of_row _ _ 4 _ _ _ ((hv.block _ (blk_lt n3_9)).trans n3_9), cell_of_row _ _ 0 _ _ _ ((hv.block _ (blk_lt n5_9)).trans n5_9), cell_of_row _ _ 1 _ _ _ ((hv.block _ (blk_lt n5_9)).trans n5_9), cell_of_row _ _ 2 _ _ _ ((hv.block _ (blk_lt n5_9)).trans n5_9), cell_of_row _ _ 3 _ _ _ ((hv.block _ (blk_lt n5_9)).trans n5_9), cell_of_row _ _ 4 _ _ _ ((hv.block _ (blk_lt n5_9)).trans n5_9), cell_of_row _ _ 0 _ _ _ ((hv.block _ (blk_lt n8_9)).trans n8_9), cell_of_row _ _ 1 _ _ _ ((hv.block _ (blk_lt n8_9)).trans n8_9), cell_of_row _ _ 2 _ _ _ ((hv.block _ (blk_lt n8_9)).trans n8_9), cell_of_row _ _ 3 _ _ _ ((hv.block _ (blk_lt n8_9)).trans n8_9), cell_of_row _ _ 4 _ _ _ ((hv.block _ (blk_lt n8_9)).trans n8_9)⟩)
 have K0 := hh (Below.refl u9.heap.size u9)
 have HU1 := hh hu1
 have HU2 := hh hu2
 have HU3 := hh hu3
 have HU4 := hh hu4
 have HU5 := hh hu5
 have HU6 := hh hu6
 have HU7 := hh hu7
 have HU8 := hh hu8
 have HU9 := hh hu9
 simp only [lP, lQ, lR, lA, lB, lC, lM, prC, clC, List.length_cons, List.length_nil, Nat.zero_add, Nat.reduceAdd] at HP HQ HR HN HC HMm HF HO HT
 clear hk1 hk2 hb2 hbv okA okB okP okQ okR htu hu1 s1 hu2 s2 hu3 s3 hu4 s4 hu5 s5 hu6 s6 hu7 s7 hu8 s8 hu9 s9 n0_1 n0_2 n1_2 n0_3 n1_3 n2_3 n0_4 n1_4 n2_4 n3_4 n0_5 n1_5 n2_5 n3_5 n4_5 n0_6 n1_6 n2_6 n3_6 n4_6 n5_6 n0_7 n1_7 n2_7 n3_7 n4_7 n5_7 n6_7 n0_8 n1_8 n2_8 n3_8 n4_8 n5_8 n6_8 n7_8 n0_9 n1_9 n2_9 n3_9 n4_9 n5_9 n6_9 n7_9 n8_9
 unfold mE meC
 dsimp only
 go_wp2_with fail
 rw [← HU1.out, ← HU2.out, ← HU3.out, ← HU4.out, ← HU5.out, ← HU6.out, ← HU7.out, ← HU8.out, ← HU9.out]
 refine wp_region_held_drew (S := (fun w' => w'.cell? ⟨v2.heap.size + 1, 0, none⟩ = some (.string ⟨#[65]⟩) ∧ w'.cell? ⟨v2.heap.size + 1, 1, none⟩ = some (.string ⟨#[]⟩) ∧ w'.cell? ⟨v2.heap.size + 1, 2, none⟩ = some (.bool false) ∧ w'.cell? ⟨v2.heap.size + 1, 3, none⟩ = some (.bool false) ∧ w'.cell? ⟨v2.heap.size + 1, 4, none⟩ = some (.slice none 0 0) ∧ w'.cell? ⟨v2.heap.size + 1, 5, none⟩ = some (.slice none 0 0) ∧ w'.cell? ⟨v2.heap.size + 1, 6, none⟩ = some (.slice (some ⟨v2.heap.size, 0, none⟩) 2 2) ∧ w'.cell? ⟨v2.heap.size + 1 + 1 + 1, 0, none⟩ = some (.slice (some ⟨v2.heap.size + 1 + 1, 0, none⟩) 2 2) ∧ w'.cell? ⟨v2.heap.size + 1 + 1 + 1, 1, none⟩ = some (.slice none 0 0) ∧ w'.cell? ⟨v2.heap.size + 1 + 1 + 1, 2, none⟩ = some (.string ⟨#[]⟩) ∧ w'.cell? ⟨v2.heap.size + 1 + 1 + 1, 3, none⟩ = some (.string ⟨#[]⟩) ∧ w'.cell? ⟨v2.heap.size + 1 + 1 + 1, 4, none⟩ = some (.string ⟨#[]⟩) ∧ w'.cell? ⟨v2.heap.size + 1 + 1 + 1 + 1 + 1, 0, none⟩ = some (.slice (some ⟨v2.heap.size + 1 + 1 + 1 + 1, 0, none⟩) 2 2) ∧ w'.cell? ⟨v2.heap.size + 1 + 1 + 1 + 1 + 1, 1, none⟩ = some (.slice none 0 0) ∧ w'.cell? ⟨v2.heap.size + 1 + 1 + 1 + 1 + 1, 2, none⟩ = some (.string ⟨#[]⟩) ∧ w'.cell? ⟨v2.heap.size + 1 + 1 + 1 + 1 + 1, 3, none⟩ = some (.string ⟨#[]⟩) ∧ w'.cell? ⟨v2.heap.size + 1 + 1 + 1 + 1 + 1, 4, none⟩ = some (.string ⟨#[]⟩) ∧ w'.cell? ⟨v2.heap.size + 1 + 1 + 1 + 1 + 1 + 1 + 1 + 1, 0, none⟩ = some (.slice (some ⟨v2.heap.size + 1 + 1 + 1 + 1 + 1 + 1 + 1, 0, none⟩) 1 1) ∧ w'.cell? ⟨v2.heap.size + 1 + 1 + 1 + 1 + 1 + 1 + 1 + 1, 1, none⟩ = some (.slice none 0 0) ∧ w'.cell? ⟨v2.heap.size + 1 + 1 + 1 + 1 + 1 + 1 + 1 + 1, 2, none⟩ = some (.string ⟨#[]⟩) ∧ w'.cell? ⟨v2.heap.size + 1 + 1 + 1 + 1 + 1 + 1 + 1 + 1, 3, none⟩ = some (.string ⟨#[]⟩) ∧ w'.cell? ⟨v2.heap.size + 1 + 1 + 1 + 1 + 1 + 1 + 1 + 1, 4, none⟩ = some (.string ⟨#[]⟩))) (by kernel_rfl) ?_ (fun hHeld => ?_)
 ·exact HFX.out u9 K0.out
 refine tkp 0 rfl ?_
 refine rdy 1 rfl (fun K hK => ?_)
 go_simp
 refine (HP.out _ ?_).mono ?_; (first | exact K0.out | exact overD K0.out); rintro e v11 ⟨rfl, hb⟩; have K1 := hh (show Below u9.heap.size u9 v11 from (by first | exact K0.out.trans (hb.mono K0.out.size) | exact (overD K0.out).trans (hb.mono (overD K0.out).size))); clear hb; go_wp2_with fail
 refine hK.out _ _ (HFX.out _ K1.out) (fun hHeld => ?_)
 clear hK K
 try simp only [puts]
 refine tkp 2 rfl ?_
 refine tkp 3 rfl ?_
 refine tkp 4 rfl ?_
 refine rdy 5 rfl (fun K hK => ?_)
 go_simp
 refine (HQ.out _ ?_).mono ?_; (first | exact K1.out | exact overD K1.out); rintro e v12 ⟨rfl, hb⟩; have K2 := hh (show Below u9.heap.size u9 v12 from (by first | exact K1.out.trans (hb.mono K1.out.size) | exact (overD K1.out).trans (hb.mono (overD K1.out).size))); clear hb; go_wp2_with fail
 refine hK.out _ _ (HFX.out _ K2.out) (fun hHeld => ?_)
 clear hK K
 try simp only [puts]
 refine tkp 6 rfl ?_
 refine tkp 7 rfl ?_
 refine tkp 8 rfl ?_
 refine tkp 9 rfl ?_
 refine rdy 10 rfl (fun K hK => ?_)
 go_simp
 refine (HR.out _ ?_).mono ?_; (first | exact K2.out | exact overD K2.out); rintro e v13 ⟨rfl, hb⟩; have K3 := hh (show Below u9.heap.size u9 v13 from (by first | exact K2.out.trans (hb.mono K2.out.size) | exact (overD K2.out).trans (hb.mono (overD K2.out).size))); clear hb; go_wp2_with fail
 refine hK.out _ _ (HFX.out _ K3.out) (fun hHeld => ?_)
 clear hK K
 try simp only [puts]
 refine tkp 11 rfl ?_
 refine tkp 12 rfl ?_
 refine tkp 13 rfl ?_
 refine tkp 14 rfl ?_
 refine tkp 16 rfl ?_
 refine rdy 15 rfl (fun K hK => ?_)
 go_simp
 refine (HS.out _ ?_).mono ?_; (first | exact K3.out | exact overD K3.out); rintro e v14 ⟨⟨y, rfl, y1, y2⟩, hb⟩; have K4 := hh (show Below u9.heap.size u9 v14 from (by first | exact K3.out.trans (hb.mono K3.out.size) | exact (overD K3.out).trans (hb.mono (overD K3.out).size))); have Y1 := hh y1; have Y2 := hh y2; clear hb y1 y2; go_wp2_with fail
 refine hK.out _ _ (HFX.out _ K4.out) (fun hHeld => ?_)
 clear hK K
 try simp only [puts]
 refine rdy 17 rfl (fun K hK => ?_)
 go_simp
 refine (HE.out y _ ?_ ?_ Y1.out).mono ?_; (first | exact K4.out | exact overD K4.out); exact Y2.out; rintro e v15 ⟨rfl, hb⟩; have K5 := hh (show Below u9.heap.size u9 v15 from (by first | exact K4.out.trans (hb.mono K4.out.size) | exact (overD K4.out).trans (hb.mono (overD K4.out).size))); clear hb; go_wp2_with fail
 refine hK.out _ _ (HFX.out _ K5.out) (fun hHeld => ?_)
 clear hK K
 try simp only [puts]
 refine tkp 18 rfl ?_
 refine tkp 19 rfl ?_
 refine tkp 20 rfl ?_
 refine tkp 21 rfl ?_
 refine rdy 22 rfl (fun K hK => ?_)
 go_simp
 refine (HN.out _ ?_).mono ?_; (first | exact K5.out | exact overD K5.out); rintro e v16 ⟨rfl, hb⟩; have K6 := hh (show Below u9.heap.size u9 v16 from (by first | exact K5.out.trans (hb.mono K5.out.size) | exact (overD K5.out).trans (hb.mono (overD K5.out).size))); clear hb; go_wp2_with fail
 refine hK.out _ _ (HFX.out _ K6.out) (fun hHeld => ?_)
 clear hK K
 try simp only [puts]
 refine tkp 23 rfl ?_
 refine tkp 24 rfl ?_
 refine tkp 25 rfl ?_
 refine tkp 26 rfl ?_
 refine rdy 27 rfl (fun K hK => ?_)
 go_simp
 refine (HC.out _ ?_).mono ?_; (first | exact K6.out | exact overD K6.out); rintro e v17 ⟨rfl, hb⟩; have K7 := hh (show Below u9.heap.size u9 v17 from (by first | exact K6.out.trans (hb.mono K6.out.size) | exact (overD K6.out).trans (hb.mono (overD K6.out).size))); clear hb; go_wp2_with fail
 refine hK.out _ _ (HFX.out _ K7.out) (fun hHeld => ?_)
 clear hK K
 try simp only [puts]
 refine tkp 28 rfl ?_
 refine tkp 29 rfl ?_
 refine tkp 30 rfl ?_
 refine tkp 31 rfl ?_
 refine rdy 32 rfl (fun K hK => ?_)
 go_simp
 refine (HMm.out _ ?_).mono ?_; (first | exact K7.out | exact overD K7.out); rintro e v18 ⟨rfl, hb⟩; have K8 := hh (show Below u9.heap.size u9 v18 from (by first | exact K7.out.trans (hb.mono K7.out.size) | exact (overD K7.out).trans (hb.mono (overD K7.out).size))); clear hb; go_wp2_with fail
 refine hK.out _ _ (HFX.out _ K8.out) (fun hHeld => ?_)
 clear hK K
 try simp only [puts]
 refine tkp 33 rfl ?_
 refine tkp 34 rfl ?_
 refine tkp 35 rfl ?_
 refine tkp 36 rfl ?_
 refine rdy 37 rfl (fun K hK => ?_)
 go_simp
 refine (HF.out _ ?_).mono ?_; (first | exact K8.out | exact overD K8.out); rintro e v19 ⟨rfl, hb⟩; have K9 := hh (show Below u9.heap.size u9 v19 from (by first | exact K8.out.trans (hb.mono K8.out.size) | exact (overD K8.out).trans (hb.mono (overD K8.out).size))); clear hb; go_wp2_with fail
 refine hK.out _ _ (HFX.out _ K9.out) (fun hHeld => ?_)
 clear hK K
 try simp only [puts]
 refine tkp 38 rfl ?_
 refine tkp 39 rfl ?_
 refine tkp 40 rfl ?_
 refine tkp 41 rfl ?_
 refine rdy 42 rfl (fun K hK => ?_)
 go_simp
 refine (HO.out _ ?_).mono ?_; (first | exact K9.out | exact overD K9.out); rintro e v20 ⟨rfl, hb⟩; have K10 := hh (show Below u9.heap.size u9 v20 from (by first | exact K9.out.trans (hb.mono K9.out.size) | exact (overD K9.out).trans (hb.mono (overD K9.out).size))); clear hb; go_wp2_with fail
 refine hK.out _ _ (HFX.out _ K10.out) (fun hHeld => ?_)
 clear hK K
 try simp only [puts]
 refine tkp 43 rfl ?_
 refine tkp 44 rfl ?_
 refine tkp 45 rfl ?_
 refine rdy 46 rfl (fun K hK => ?_)
 go_simp
 refine (HT.out _ ?_).mono ?_; (first | exact K10.out | exact overD K10.out); rintro e v21 ⟨⟨AS, cs, rfl⟩, hb⟩; have K11 := hh (show Below u9.heap.size u9 v21 from (by first | exact K10.out.trans (hb.mono K10.out.size) | exact (overD K10.out).trans (hb.mono (overD K10.out).size))); clear hb; go_wp2_with fail
 refine hK.out _ _ (HFX.out _ K11.out) (fun hHeld => ?_)
 clear hK K
 try simp only [puts]
 refine tkp 47 rfl ?_
 refine tkp 48 rfl ?_
 refine tkp 49 rfl ?_
 refine tkp 50 rfl ?_
 refine wpAnyH_done (by kernel_rfl) ?_ _
 go_wp2
 go_ret
 exact ⟨rfl, HBV.out.trans (K11.out.mono HBV.out.size)⟩
end Go.Proofs.YtgociheckcpjkaaGreatDoor.prg

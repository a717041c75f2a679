/- Proved: for every three numbers StepReckons returns true, that is, what Arith comes to by the program is what the document says, and the law's own program runs as it must. Conditions: the row's own alone (package-level variables start as the program's text lays them; the arguments are numbers of 64 bits). -/
import Derived.Test.YtjejmlpjifhmmaaGreatDoorStpAD
import Derived.Test.YtjejmlpjifhmmaaGreatDoorRows
import Derived.Test.YtjejmlpjifhmmaaGreatDoorKindS
import Derived.ProofKit
import Derived.Deep.DeepHandedRow
import Derived.Lib.LaidTab
import Derived.Test.YtjejmlpjifhmmaaGreatDoorWordA
import Derived.Test.YtjejmlpjifhmmaaGreatDoorCards
import Derived.Test.YtjejmlpjifhmmaaGreatDoorTie
namespace Go.Proofs.YtjejmlpjifhmmaaGreatDoor.stp
open Go.RowKit Go.MapKept Go.ChangeMaps Go.Shelf
open words kindp opp op kind prg sto find
set_option maxRecDepth 100000
set_option maxHeartbeats 8000000
set_option linter.all false
theorem rp0 (a b : Int) (w : World)  : Calls Tryz.prog 7 #[.int .i64 0, .int .i64 a, .int .i64 b] w fun e w' => e = .returned (.tuple #[.int .i64 (wrap64 (a + b)), .int .i64 0]) ∧ w' = w := by
 go_enter Tryz.func7, Tryz.ntmps7
 go_wp2
 exact bodyPost_ret (v := .tuple #[.int .i64 (wrap64 (a + b)), .int .i64 0]) (by simp [results, Tryz.results7, go_sem]) rfl ⟨rfl, rfl⟩
theorem rr0 (a b : Int) (w : World)  : Calls Tryz.prog 8 #[.int .i64 0, .int .i64 a, .int .i64 b] w fun e w' => e = .returned (.tuple #[.int .i64 (wrap64 (a + b)), .int .i64 0]) ∧ w' = w := by
 go_enter Tryz.func8, Tryz.ntmps8
 go_wp2
 exact bodyPost_ret (v := .tuple #[.int .i64 (wrap64 (a + b)), .int .i64 0]) (by simp [results, Tryz.results8, go_sem]) rfl ⟨rfl, rfl⟩
theorem rp1 (a b : Int) (w : World)  : Calls Tryz.prog 7 #[.int .i64 1, .int .i64 a, .int .i64 b] w fun e w' => e = .returned (.tuple #[.int .i64 (wrap64 (a - b)), .int .i64 0]) ∧ w' = w := by
 go_enter Tryz.func7, Tryz.ntmps7
 go_wp2
 exact bodyPost_ret (v := .tuple #[.int .i64 (wrap64 (a - b)), .int .i64 0]) (by simp [results, Tryz.results7, go_sem]) rfl ⟨rfl, rfl⟩
theorem rr1 (a b : Int) (w : World)  : Calls Tryz.prog 8 #[.int .i64 1, .int .i64 a, .int .i64 b] w fun e w' => e = .returned (.tuple #[.int .i64 (wrap64 (a - b)), .int .i64 0]) ∧ w' = w := by
 go_enter Tryz.func8, Tryz.ntmps8
 go_wp2
 exact bodyPost_ret (v := .tuple #[.int .i64 (wrap64 (a - b)), .int .i64 0]) (by simp [results, Tryz.results8, go_sem]) rfl ⟨rfl, rfl⟩
theorem rp2 (a b : Int) (w : World)  : Calls Tryz.prog 7 #[.int .i64 2, .int .i64 a, .int .i64 b] w fun e w' => e = .returned (.tuple #[.int .i64 (wrap64 (a * b)), .int .i64 0]) ∧ w' = w := by
 go_enter Tryz.func7, Tryz.ntmps7
 go_wp2
 exact bodyPost_ret (v := .tuple #[.int .i64 (wrap64 (a * b)), .int .i64 0]) (by simp [results, Tryz.results7, go_sem]) rfl ⟨rfl, rfl⟩
theorem rr2 (a b : Int) (w : World)  : Calls Tryz.prog 8 #[.int .i64 2, .int .i64 a, .int .i64 b] w fun e w' => e = .returned (.tuple #[.int .i64 (wrap64 (a * b)), .int .i64 0]) ∧ w' = w := by
 go_enter Tryz.func8, Tryz.ntmps8
 go_wp2
 exact bodyPost_ret (v := .tuple #[.int .i64 (wrap64 (a * b)), .int .i64 0]) (by simp [results, Tryz.results8, go_sem]) rfl ⟨rfl, rfl⟩
theorem rp5 (a b : Int) (w : World)  : Calls Tryz.prog 7 #[.int .i64 5, .int .i64 a, .int .i64 b] w fun e w' => e = .returned (.tuple #[.int .i64 (bits BinOp.and .i64 a b), .int .i64 0]) ∧ w' = w := by
 go_enter Tryz.func7, Tryz.ntmps7
 go_wp2
 exact bodyPost_ret (v := .tuple #[.int .i64 (bits BinOp.and .i64 a b), .int .i64 0]) (by simp [results, Tryz.results7, go_sem]) rfl ⟨rfl, rfl⟩
theorem rr5 (a b : Int) (w : World)  : Calls Tryz.prog 8 #[.int .i64 5, .int .i64 a, .int .i64 b] w fun e w' => e = .returned (.tuple #[.int .i64 (bits BinOp.and .i64 a b), .int .i64 0]) ∧ w' = w := by
 go_enter Tryz.func8, Tryz.ntmps8
 go_wp2
 exact bodyPost_ret (v := .tuple #[.int .i64 (bits BinOp.and .i64 a b), .int .i64 0]) (by simp [results, Tryz.results8, go_sem]) rfl ⟨rfl, rfl⟩
theorem rp6 (a b : Int) (w : World)  : Calls Tryz.prog 7 #[.int .i64 6, .int .i64 a, .int .i64 b] w fun e w' => e = .returned (.tuple #[.int .i64 (bits BinOp.or .i64 a b), .int .i64 0]) ∧ w' = w := by
 go_enter Tryz.func7, Tryz.ntmps7
 go_wp2
 exact bodyPost_ret (v := .tuple #[.int .i64 (bits BinOp.or .i64 a b), .int .i64 0]) (by simp [results, Tryz.results7, go_sem]) rfl ⟨rfl, rfl⟩
theorem rr6 (a b : Int) (w : World)  : Calls Tryz.prog 8 #[.int .i64 6, .int .i64 a, .int .i64 b] w fun e w' => e = .returned (.tuple #[.int .i64 (bits BinOp.or .i64 a b), .int .i64 0]) ∧ w' = w := by
 go_enter Tryz.func8, Tryz.ntmps8
 go_wp2
 exact bodyPost_ret (v := .tuple #[.int .i64 (bits BinOp.or .i64 a b), .int .i64 0]) (by simp [results, Tryz.results8, go_sem]) rfl ⟨rfl, rfl⟩
theorem rp7 (a b : Int) (w : World)  : Calls Tryz.prog 7 #[.int .i64 7, .int .i64 a, .int .i64 b] w fun e w' => e = .returned (.tuple #[.int .i64 (bits BinOp.xor .i64 a b), .int .i64 0]) ∧ w' = w := by
 go_enter Tryz.func7, Tryz.ntmps7
 go_wp2
 exact bodyPost_ret (v := .tuple #[.int .i64 (bits BinOp.xor .i64 a b), .int .i64 0]) (by simp [results, Tryz.results7, go_sem]) rfl ⟨rfl, rfl⟩
theorem rr7 (a b : Int) (w : World)  : Calls Tryz.prog 8 #[.int .i64 7, .int .i64 a, .int .i64 b] w fun e w' => e = .returned (.tuple #[.int .i64 (bits BinOp.xor .i64 a b), .int .i64 0]) ∧ w' = w := by
 go_enter Tryz.func8, Tryz.ntmps8
 go_wp2
 exact bodyPost_ret (v := .tuple #[.int .i64 (bits BinOp.xor .i64 a b), .int .i64 0]) (by simp [results, Tryz.results8, go_sem]) rfl ⟨rfl, rfl⟩
theorem rp3z (a : Int) (w : World)  : Calls Tryz.prog 7 #[.int .i64 3, .int .i64 a, .int .i64 0] w fun e w' => e = .returned (.tuple #[.int .i64 (0), .int .i64 1]) ∧ w' = w := by
 go_enter Tryz.func7, Tryz.ntmps7
 go_wp2
 exact bodyPost_ret (v := .tuple #[.int .i64 (0), .int .i64 1]) (by simp [results, Tryz.results7, go_sem]) rfl ⟨rfl, rfl⟩
theorem rr3z (a : Int) (w : World)  : Calls Tryz.prog 8 #[.int .i64 3, .int .i64 a, .int .i64 0] w fun e w' => e = .returned (.tuple #[.int .i64 (0), .int .i64 1]) ∧ w' = w := by
 go_enter Tryz.func8, Tryz.ntmps8
 go_wp2
 exact bodyPost_ret (v := .tuple #[.int .i64 (0), .int .i64 1]) (by simp [results, Tryz.results8, go_sem]) rfl ⟨rfl, rfl⟩
theorem rp4z (a : Int) (w : World)  : Calls Tryz.prog 7 #[.int .i64 4, .int .i64 a, .int .i64 0] w fun e w' => e = .returned (.tuple #[.int .i64 (0), .int .i64 1]) ∧ w' = w := by
 go_enter Tryz.func7, Tryz.ntmps7
 go_wp2
 exact bodyPost_ret (v := .tuple #[.int .i64 (0), .int .i64 1]) (by simp [results, Tryz.results7, go_sem]) rfl ⟨rfl, rfl⟩
theorem rr4z (a : Int) (w : World)  : Calls Tryz.prog 8 #[.int .i64 4, .int .i64 a, .int .i64 0] w fun e w' => e = .returned (.tuple #[.int .i64 (0), .int .i64 1]) ∧ w' = w := by
 go_enter Tryz.func8, Tryz.ntmps8
 go_wp2
 exact bodyPost_ret (v := .tuple #[.int .i64 (0), .int .i64 1]) (by simp [results, Tryz.results8, go_sem]) rfl ⟨rfl, rfl⟩
theorem rp3n (a b : Int) (w : World) (hb : (b == 0) = false) (hb1 : (b == -1) = false) (hb2 : b ≠ 0) : Calls Tryz.prog 7 #[.int .i64 3, .int .i64 a, .int .i64 b] w fun e w' => e = .returned (.tuple #[.int .i64 (wrap64 (a.tdiv b)), .int .i64 0]) ∧ w' = w := by
 go_enter Tryz.func7, Tryz.ntmps7
 go_wp2
 exact bodyPost_ret (v := .tuple #[.int .i64 (wrap64 (a.tdiv b)), .int .i64 0]) (by simp [results, Tryz.results7, go_sem]) rfl ⟨rfl, rfl⟩
theorem rr3n (a b : Int) (w : World) (hb : (b == 0) = false) (hb1 : (b == -1) = false) (hb2 : b ≠ 0) : Calls Tryz.prog 8 #[.int .i64 3, .int .i64 a, .int .i64 b] w fun e w' => e = .returned (.tuple #[.int .i64 (wrap64 (a.tdiv b)), .int .i64 0]) ∧ w' = w := by
 go_enter Tryz.func8, Tryz.ntmps8
 go_wp2
 exact bodyPost_ret (v := .tuple #[.int .i64 (wrap64 (a.tdiv b)), .int .i64 0]) (by simp [results, Tryz.results8, go_sem]) rfl ⟨rfl, rfl⟩
theorem rp4n (a b : Int) (w : World) (hb : (b == 0) = false) (hb1 : (b == -1) = false) (hb2 : b ≠ 0) : Calls Tryz.prog 7 #[.int .i64 4, .int .i64 a, .int .i64 b] w fun e w' => e = .returned (.tuple #[.int .i64 (a.tmod b), .int .i64 0]) ∧ w' = w := by
 go_enter Tryz.func7, Tryz.ntmps7
 go_wp2
 exact bodyPost_ret (v := .tuple #[.int .i64 (a.tmod b), .int .i64 0]) (by simp [results, Tryz.results7, go_sem]) rfl ⟨rfl, rfl⟩
theorem rr4n (a b : Int) (w : World) (hb : (b == 0) = false) (hb1 : (b == -1) = false) (hb2 : b ≠ 0) : Calls Tryz.prog 8 #[.int .i64 4, .int .i64 a, .int .i64 b] w fun e w' => e = .returned (.tuple #[.int .i64 (a.tmod b), .int .i64 0]) ∧ w' = w := by
 go_enter Tryz.func8, Tryz.ntmps8
 go_wp2
 exact bodyPost_ret (v := .tuple #[.int .i64 (a.tmod b), .int .i64 0]) (by simp [results, Tryz.results8, go_sem]) rfl ⟨rfl, rfl⟩
theorem rp3m (a : Int) (w : World)  : Calls Tryz.prog 7 #[.int .i64 3, .int .i64 a, .int .i64 (-1)] w fun e w' => e = .returned (.tuple #[.int .i64 (wrap64 (-a)), .int .i64 0]) ∧ w' = w := by
 go_enter Tryz.func7, Tryz.ntmps7
 go_wp2
 exact bodyPost_ret (v := .tuple #[.int .i64 (wrap64 (-a)), .int .i64 0]) (by simp [results, Tryz.results7, go_sem]) rfl ⟨rfl, rfl⟩
theorem rr3m (a : Int) (w : World)  : Calls Tryz.prog 8 #[.int .i64 3, .int .i64 a, .int .i64 (-1)] w fun e w' => e = .returned (.tuple #[.int .i64 (wrap64 (-a)), .int .i64 0]) ∧ w' = w := by
 go_enter Tryz.func8, Tryz.ntmps8
 go_wp2
 exact bodyPost_ret (v := .tuple #[.int .i64 (wrap64 (-a)), .int .i64 0]) (by simp [results, Tryz.results8, go_sem]) rfl ⟨rfl, rfl⟩
theorem rp4m (a : Int) (w : World)  : Calls Tryz.prog 7 #[.int .i64 4, .int .i64 a, .int .i64 (-1)] w fun e w' => e = .returned (.tuple #[.int .i64 (0), .int .i64 0]) ∧ w' = w := by
 go_enter Tryz.func7, Tryz.ntmps7
 go_wp2
 exact bodyPost_ret (v := .tuple #[.int .i64 (0), .int .i64 0]) (by simp [results, Tryz.results7, go_sem]) rfl ⟨rfl, rfl⟩
theorem rr4m (a : Int) (w : World)  : Calls Tryz.prog 8 #[.int .i64 4, .int .i64 a, .int .i64 (-1)] w fun e w' => e = .returned (.tuple #[.int .i64 (0), .int .i64 0]) ∧ w' = w := by
 go_enter Tryz.func8, Tryz.ntmps8
 go_wp2
 exact bodyPost_ret (v := .tuple #[.int .i64 (0), .int .i64 0]) (by simp [results, Tryz.results8, go_sem]) rfl ⟨rfl, rfl⟩
theorem rp8t (a b : Int) (w : World) (h : decide (a < b) = true) : Calls Tryz.prog 7 #[.int .i64 8, .int .i64 a, .int .i64 b] w fun e w' => e = .returned (.tuple #[.int .i64 (1), .int .i64 0]) ∧ w' = w := by
 go_enter Tryz.func7, Tryz.ntmps7
 go_wp2
 exact bodyPost_ret (v := .tuple #[.int .i64 (1), .int .i64 0]) (by simp [results, Tryz.results7, go_sem]) rfl ⟨rfl, rfl⟩
theorem rr8t (a b : Int) (w : World) (h : decide (a < b) = true) : Calls Tryz.prog 8 #[.int .i64 8, .int .i64 a, .int .i64 b] w fun e w' => e = .returned (.tuple #[.int .i64 (1), .int .i64 0]) ∧ w' = w := by
 go_enter Tryz.func8, Tryz.ntmps8
 go_wp2
 exact bodyPost_ret (v := .tuple #[.int .i64 (1), .int .i64 0]) (by simp [results, Tryz.results8, go_sem]) rfl ⟨rfl, rfl⟩
theorem rp8f (a b : Int) (w : World) (h : decide (a < b) = false) : Calls Tryz.prog 7 #[.int .i64 8, .int .i64 a, .int .i64 b] w fun e w' => e = .returned (.tuple #[.int .i64 (0), .int .i64 0]) ∧ w' = w := by
 go_enter Tryz.func7, Tryz.ntmps7
 go_wp2
 exact bodyPost_ret (v := .tuple #[.int .i64 (0), .int .i64 0]) (by simp [results, Tryz.results7, go_sem]) rfl ⟨rfl, rfl⟩
theorem rr8f (a b : Int) (w : World) (h : decide (a < b) = false) : Calls Tryz.prog 8 #[.int .i64 8, .int .i64 a, .int .i64 b] w fun e w' => e = .returned (.tuple #[.int .i64 (0), .int .i64 0]) ∧ w' = w := by
 go_enter Tryz.func8, Tryz.ntmps8
 go_wp2
 exact bodyPost_ret (v := .tuple #[.int .i64 (0), .int .i64 0]) (by simp [results, Tryz.results8, go_sem]) rfl ⟨rfl, rfl⟩
theorem rp9t (a b : Int) (w : World) (h : (a == b) = true) : Calls Tryz.prog 7 #[.int .i64 9, .int .i64 a, .int .i64 b] w fun e w' => e = .returned (.tuple #[.int .i64 (1), .int .i64 0]) ∧ w' = w := by
 go_enter Tryz.func7, Tryz.ntmps7
 go_wp2
 exact bodyPost_ret (v := .tuple #[.int .i64 (1), .int .i64 0]) (by simp [results, Tryz.results7, go_sem]) rfl ⟨rfl, rfl⟩
theorem rr9t (a b : Int) (w : World) (h : (a == b) = true) : Calls Tryz.prog 8 #[.int .i64 9, .int .i64 a, .int .i64 b] w fun e w' => e = .returned (.tuple #[.int .i64 (1), .int .i64 0]) ∧ w' = w := by
 go_enter Tryz.func8, Tryz.ntmps8
 go_wp2
 exact bodyPost_ret (v := .tuple #[.int .i64 (1), .int .i64 0]) (by simp [results, Tryz.results8, go_sem]) rfl ⟨rfl, rfl⟩
theorem rp9f (a b : Int) (w : World) (h : (a == b) = false) : Calls Tryz.prog 7 #[.int .i64 9, .int .i64 a, .int .i64 b] w fun e w' => e = .returned (.tuple #[.int .i64 (0), .int .i64 0]) ∧ w' = w := by
 go_enter Tryz.func7, Tryz.ntmps7
 go_wp2
 exact bodyPost_ret (v := .tuple #[.int .i64 (0), .int .i64 0]) (by simp [results, Tryz.results7, go_sem]) rfl ⟨rfl, rfl⟩
theorem rr9f (a b : Int) (w : World) (h : (a == b) = false) : Calls Tryz.prog 8 #[.int .i64 9, .int .i64 a, .int .i64 b] w fun e w' => e = .returned (.tuple #[.int .i64 (0), .int .i64 0]) ∧ w' = w := by
 go_enter Tryz.func8, Tryz.ntmps8
 go_wp2
 exact bodyPost_ret (v := .tuple #[.int .i64 (0), .int .i64 0]) (by simp [results, Tryz.results8, go_sem]) rfl ⟨rfl, rfl⟩
theorem rpx (o a b : Int) (w : World) (h0 : (o == 0) = false) (h1 : (o == 1) = false) (h2 : (o == 2) = false) (h3 : (o == 3) = false) (h4 : (o == 4) = false) (h5 : (o == 5) = false) (h6 : (o == 6) = false) (h7 : (o == 7) = false) (h8 : (o == 8) = false) (h9 : (o == 9) = false) : Calls Tryz.prog 7 #[.int .i64 o, .int .i64 a, .int .i64 b] w fun e w' => e = .returned (.tuple #[.int .i64 (0), .int .i64 9]) ∧ w' = w := by
 go_enter Tryz.func7, Tryz.ntmps7
 go_wp2
 exact bodyPost_ret (v := .tuple #[.int .i64 (0), .int .i64 9]) (by simp [results, Tryz.results7, go_sem]) rfl ⟨rfl, rfl⟩
theorem rrx (o a b : Int) (w : World) (h0 : (o == 0) = false) (h1 : (o == 1) = false) (h2 : (o == 2) = false) (h3 : (o == 3) = false) (h4 : (o == 4) = false) (h5 : (o == 5) = false) (h6 : (o == 6) = false) (h7 : (o == 7) = false) (h8 : (o == 8) = false) (h9 : (o == 9) = false) : Calls Tryz.prog 8 #[.int .i64 o, .int .i64 a, .int .i64 b] w fun e w' => e = .returned (.tuple #[.int .i64 (0), .int .i64 9]) ∧ w' = w := by
 go_enter Tryz.func8, Tryz.ntmps8
 go_wp2
 exact bodyPost_ret (v := .tuple #[.int .i64 (0), .int .i64 9]) (by simp [results, Tryz.results8, go_sem]) rfl ⟨rfl, rfl⟩
theorem reck (o a b : Int) : ∃ v t, (∀ w : World, Calls Tryz.prog 7 #[.int .i64 o, .int .i64 a, .int .i64 b] w fun e w' => e = .returned (.tuple #[.int .i64 v, .int .i64 t]) ∧ w' = w) ∧
 (∀ w : World, Calls Tryz.prog 8 #[.int .i64 o, .int .i64 a, .int .i64 b] w fun e w' => e = .returned (.tuple #[.int .i64 v, .int .i64 t]) ∧ w' = w) := by
 by_cases h0 : o = 0
 ·subst h0; exact ⟨_, _, fun w => rp0 a b w, fun w => rr0 a b w⟩
 by_cases h1 : o = 1
 ·subst h1; exact ⟨_, _, fun w => rp1 a b w, fun w => rr1 a b w⟩
 by_cases h2 : o = 2
 ·subst h2; exact ⟨_, _, fun w => rp2 a b w, fun w => rr2 a b w⟩
 by_cases h3 : o = 3
 ·subst h3
  by_cases hb : b = 0
  ·subst hb; exact ⟨_, _, fun w => rp3z a w, fun w => rr3z a w⟩
  by_cases hm : b = -1
  ·subst hm; exact ⟨_, _, fun w => rp3m a w, fun w => rr3m a w⟩
  exact ⟨_, _, fun w => rp3n a b w (by simpa using hb) (by simpa using hm) hb, fun w => rr3n a b w (by simpa using hb) (by simpa using hm) hb⟩
 by_cases h4 : o = 4
 ·subst h4
  by_cases hb : b = 0
  ·subst hb; exact ⟨_, _, fun w => rp4z a w, fun w => rr4z a w⟩
  by_cases hm : b = -1
  ·subst hm; exact ⟨_, _, fun w => rp4m a w, fun w => rr4m a w⟩
  exact ⟨_, _, fun w => rp4n a b w (by simpa using hb) (by simpa using hm) hb, fun w => rr4n a b w (by simpa using hb) (by simpa using hm) hb⟩
 by_cases h5 : o = 5
 ·subst h5; exact ⟨_, _, fun w => rp5 a b w, fun w => rr5 a b w⟩
 by_cases h6 : o = 6
 ·subst h6; exact ⟨_, _, fun w => rp6 a b w, fun w => rr6 a b w⟩
 by_cases h7 : o = 7
 ·subst h7; exact ⟨_, _, fun w => rp7 a b w, fun w => rr7 a b w⟩
 by_cases h8 : o = 8
 ·subst h8
  cases hl : decide (a < b)
  ·exact ⟨_, _, fun w => rp8f a b w hl, fun w => rr8f a b w hl⟩
  ·exact ⟨_, _, fun w => rp8t a b w hl, fun w => rr8t a b w hl⟩
 by_cases h9 : o = 9
 ·subst h9
  cases hl : (a == b)
  ·exact ⟨_, _, fun w => rp9f a b w hl, fun w => rr9f a b w hl⟩
  ·exact ⟨_, _, fun w => rp9t a b w hl, fun w => rr9t a b w hl⟩
 exact ⟨_, _, fun w => rpx o a b w (by simpa using h0) (by simpa using h1) (by simpa using h2) (by simpa using h3) (by simpa using h4) (by simpa using h5) (by simpa using h6) (by simpa using h7) (by simpa using h8) (by simpa using h9), fun w => rrx o a b w (by simpa using h0) (by simpa using h1) (by simpa using h2) (by simpa using h3) (by simpa using h4) (by simpa using h5) (by simpa using h6) (by simpa using h7) (by simpa using h8) (by simpa using h9)⟩
end Go.Proofs.YtjejmlpjifhmmaaGreatDoor.stp
namespace Go.Proofs.YtjejmlpjifhmmaaGreatDoor.stp
open Go.RowKit Go.MapKept Go.ChangeMaps Go.Shelf
open words kindp opp op kind prg sto find
set_option maxRecDepth 100000
set_option maxHeartbeats 8000000
set_option linter.all false
def evC (x : Bool × Int) : List Value := [.bool x.1, .int .i64 x.2]
theorem ev_at {w : World} {A : Option Addr} (h : Rd w A [.bool true, .int .i64 7, .bool false, .int .i64 7]) : ∃ a, A = some a ∧ a.block < w.heap.size ∧ w.cell? ⟨a.block, a.off + 2, none⟩ = some (.bool false) ∧ w.cell? ⟨a.block, a.off + 2 + 1, none⟩ = some (.int .i64 7) := by
 obtain ⟨a, rfl, hb, h0, h1⟩ := flat_cell (l := [(true, (7 : Int)), (false, 7)]) (f := evC) (k := 2) (i := 1) (fun x => rfl) (by omega) h rfl
 have e2 : a.add (1 * 2) = ⟨a.block, a.off + 2, none⟩ := by unfold Addr.add; rw [if_neg (by omega)]
 have g0 := h0 _ rfl
 have g1 := h1 1 _ (by omega) rfl
 rw [e2] at g0 g1
 exact ⟨a, rfl, hb, g0, g1⟩
theorem so_gr (q p r : Nat) : GrP (soP q p r) := by
 refine ⟨⟨by simp [soP], by simp [soP]⟩, ?_⟩
 intro c hc
 simp [soP] at hc
 subst hc
 refine ⟨by simp [soC], ?_⟩
 intro m hm
 simp [soC] at hm
 subst hm
 refine ⟨by simp [soM], ?_⟩
 intro x hx
 simp [soM] at hx
 rcases hx with rfl | rfl | rfl | rfl <;> simp [GrI, so1, so2, so3, so4]
theorem fd3 (a b c s : Int) (Be B0 B1 B2 B3 B4 B5 : Option Addr) (n de d0 d1 d2 d3 d4 d5 : Nat) (w : World) : (Instr.field 51 (.agg #[.int .i64 a, .int .i64 b, .int .i64 c, .int .i64 s, .slice Be n de, .slice B0 1 d0, .slice B1 0 d1, .slice B2 0 d2, .slice B3 1 d3, .slice B4 0 d4, .slice B5 0 d5]) 3).run Tryz.prog w = .ok (.int .i64 s) w := by kernel_rfl
theorem live_w (w : World) (hm : Mx w) (hv : Vd w) : Calls Tryz.prog 9 #[] w fun e w' => e = .returned (.bool true) ∧ Below w.heap.size w w' := by
 have HTK := zh (show Tk w from ⟨hm, hv⟩)
 have HSW := zh (show Calls Tryz.prog 26 #[] w (fun e w' => (∃ q p r, e = .returned (.agg #[.slice (some ⟨r, 0, none⟩) 1 1, .slice none 0 0, .string ⟨#[65]⟩, .string ⟨#[109]⟩, .string ⟨#[40, 41, 73]⟩]) ∧ PrOk w' (soP q p r)) ∧ Below w.heap.size w w') from some_w w)
 have hf3 := fd3
 clear hm hv
 go_enter Tryz.func9, Tryz.ntmps9
 go_wp2_with fail
 refine HSW.out.mono ?_
 rintro e v1 ⟨⟨q, p, r, rfl, hok⟩, hb⟩
 obtain ⟨X, hX⟩ : ∃ X, X = v1.alloc (.cells #[.slice (some ⟨r, 0, none⟩) 1 1, .slice none 0 0, .string ⟨#[65]⟩, .string ⟨#[109]⟩, .string ⟨#[40, 41, 73]⟩] 36) := ⟨_, rfl⟩
 have XL : Below v1.heap.size v1 X := by rw [hX]; exact (Below.refl _ _).alloc (Nat.le_refl _) _
 have hXP : X.heap[v1.heap.size]? = some (.cells #[.slice (some ⟨r, 0, none⟩) 1 1, .slice none 0 0, .string ⟨#[65]⟩, .string ⟨#[109]⟩, .string ⟨#[40, 41, 73]⟩] 36 (0, 0)) := by rw [hX]; exact heap_alloc_new _ _
 obtain ⟨b, hbb⟩ : ∃ b, b = v1.heap.size := ⟨_, rfl⟩
 have XP := zh (show X.heap[b]? = some (.cells #[.slice (some ⟨r, 0, none⟩) 1 1, .slice none 0 0, .string ⟨#[65]⟩, .string ⟨#[109]⟩, .string ⟨#[40, 41, 73]⟩] 36 (0, 0)) from by rw [hbb]; exact hXP)
 have XA := zh (show Below w.heap.size w X from then' hb XL)
 have XK := zh (hok.below XL)
 have XTK := zh (show Tk X from HTK.out.below (then' hb XL))
 have HX := zh hX; have HBB := zh hbb
 clear hX XL hXP hok hb hbb HSW HTK
 go_wp2_with fail
 rw [← HX.out, ← HBB.out]
 have HC := zh (show ∀ v : World, v.heap[b]? = some (.cells #[.slice (some ⟨r, 0, none⟩) 1 1, .slice none 0 0, .string ⟨#[65]⟩, .string ⟨#[109]⟩, .string ⟨#[40, 41, 73]⟩] 36 (0, 0)) → (fun w' : World => w'.cell? ⟨b, 0, none⟩ = some (.slice (some ⟨r, 0, none⟩) 1 1) ∧ w'.cell? ⟨b, 1, none⟩ = some (.slice none 0 0) ∧ w'.cell? ⟨b, 2, none⟩ = some (.string ⟨#[65]⟩) ∧ w'.cell? ⟨b, 3, none⟩ = some (.string ⟨#[109]⟩) ∧ w'.cell? ⟨b, 4, none⟩ = some (.string ⟨#[40, 41, 73]⟩)) v from fun v hv => ⟨cell_of_row _ _ 0 _ _ _ hv, cell_of_row _ _ 1 _ _ _ hv, cell_of_row _ _ 2 _ _ _ hv, cell_of_row _ _ 3 _ _ _ hv, cell_of_row _ _ 4 _ _ _ hv⟩)
 (try go_wp2_with fail)
 refine wp_region_held_drew (S := fun w' : World => w'.cell? ⟨b, 0, none⟩ = some (.slice (some ⟨r, 0, none⟩) 1 1) ∧ w'.cell? ⟨b, 1, none⟩ = some (.slice none 0 0) ∧ w'.cell? ⟨b, 2, none⟩ = some (.string ⟨#[65]⟩) ∧ w'.cell? ⟨b, 3, none⟩ = some (.string ⟨#[109]⟩) ∧ w'.cell? ⟨b, 4, none⟩ = some (.string ⟨#[40, 41, 73]⟩)) (by kernel_rfl) ?_ (fun hHeld => ?_)
 ·exact HC.out _ XP.out
 obtain ⟨D, hD⟩ : ∃ u, u = X.drew := ⟨_, rfl⟩
 have DP := zh (show D.heap[b]? = some (.cells #[.slice (some ⟨r, 0, none⟩) 1 1, .slice none 0 0, .string ⟨#[65]⟩, .string ⟨#[109]⟩, .string ⟨#[40, 41, 73]⟩] 36 (0, 0)) from by rw [hD]; exact XP.out)
 have DA := zh (show Below X.heap.size X D from by rw [hD]; exact overW (Below.refl _ _))
 have DK := zh (show PrOk D (soP q p r) from by rw [hD]; exact XK.out.below (overW (Below.refl _ _)))
 have HID := zh (fun (v : World) (hv : PrOk v (soP q p r)) => ident_w q p r v hv)
 dsimp only [prC, soP, soC, soM, List.length_cons, List.length_nil, Nat.zero_add] at HID
 rw [← hD]
 clear hD hHeld
 refine' cutH (T := _) ?pK ?fK
 case' fK => intro KEY
 ·have hS := HC.out _ DP.out
  try dsimp only at hS
  refine tkp 0 rfl ?_
  refine tkp 1 rfl ?_
  clear hS
  refine wpAnyH_ready (rs := [2, 3]) (by kernel_rfl) (by simp) (AllReadyH.cons rfl (fun K hK => ?_) (AllReadyH.cons rfl (fun K hK => ?_) AllReadyH.nil))
  ·go_simp
   refine (HID.out D DK.out).mono ?_
   rintro e v ⟨⟨A1, c1, A2, c2, u1, u2, u3, u4, rfl, hr1, hr2⟩, hb⟩
   have VP := zh ((hb.block _ (blk_lt DP.out)).trans DP.out)
   obtain ⟨Y, hY⟩ : ∃ Y, Y = v.alloc (.cells #[.int .i64 7] 2) := ⟨_, rfl⟩
   have YL : Below v.heap.size v Y := by rw [hY]; exact (Below.refl _ _).alloc (Nat.le_refl _) _
   obtain ⟨qq, hqq⟩ : ∃ qq, qq = v.heap.size := ⟨_, rfl⟩
   have F1 := zh ((YL.block _ (blk_lt VP.out)).trans VP.out)
   have F2 := zh (show Below X.heap.size X Y from then' (then' DA.out hb) YL)
   have F3 := zh (hr1.below YL); have F4 := zh (hr2.below YL)
   have F5 := zh (show Rd Y (some ⟨qq, 0, none⟩) [.int .i64 7] from by rw [hY, hqq]; exact rd_blk (heap_alloc_new _ _) (k := 1) rfl)
   have HY := zh hY; have HQQ := zh hqq
   clear hb hr1 hr2 hY YL hqq
   go_wp2_with fail
   refine hK.out _ _ (HC.out _ VP.out) (fun hHeld => ?_)
   clear hK K hHeld
   try simp only [puts]
   refine rdy 3 rfl (fun K hK => ?_)
   go_simp
   rw [← HY.out]
   refine hK.out _ _ (HC.out _ F1.out) (fun hHeld => ?_)
   clear hK K
   try simp only [puts]
   rw [← HQQ.out]
   refine listedH (L := #[true, true, true, true, false, false]) (by kernel_rfl) ?_
   clear hHeld VP HY HQQ
   revert F1 F2 F3 F4 F5
   revert qq
   revert Y
   revert A1 c1 A2 c2 u1 u2 u3 u4
   exact KEY
  ·obtain ⟨Y, hY⟩ : ∃ Y, Y = D.alloc (.cells #[.int .i64 7] 2) := ⟨_, rfl⟩
   have YL : Below D.heap.size D Y := by rw [hY]; exact (Below.refl _ _).alloc (Nat.le_refl _) _
   obtain ⟨qq, hqq⟩ : ∃ qq, qq = D.heap.size := ⟨_, rfl⟩
   have YP := zh ((YL.block _ (blk_lt DP.out)).trans DP.out)
   have YK := zh (DK.out.below YL)
   have YA := zh (show Below X.heap.size X Y from then' DA.out YL)
   have YR := zh (show Rd Y (some ⟨qq, 0, none⟩) [.int .i64 7] from by rw [hY, hqq]; exact rd_blk (heap_alloc_new _ _) (k := 1) rfl)
   have HY := zh hY; have HQQ := zh hqq
   clear hY YL hqq
   go_simp
   rw [← HY.out]
   refine hK.out _ _ (HC.out _ YP.out) (fun hHeld => ?_)
   clear hK K hHeld
   try simp only [puts]
   rw [← HQQ.out]
   refine rdy 2 rfl (fun K hK => ?_)
   go_simp
   refine (HID.out Y YK.out).mono ?_
   rintro e v ⟨⟨A1, c1, A2, c2, u1, u2, u3, u4, rfl, hr1, hr2⟩, hb⟩
   have F1 := zh ((hb.block _ (blk_lt YP.out)).trans YP.out)
   have F2 := zh (show Below X.heap.size X v from then' YA.out hb)
   have F3 := zh hr1; have F4 := zh hr2
   have F5 := zh (YR.out.below hb)
   clear hb hr1 hr2
   go_wp2_with fail
   refine hK.out _ _ (HC.out _ F1.out) (fun hHeld => ?_)
   clear hK K hHeld
   try simp only [puts]
   refine listedH (L := #[true, true, true, true, false, false]) (by kernel_rfl) ?_
   clear HQQ HY YP YK YA YR
   revert F1 F2 F3 F4 F5
   revert qq
   revert v
   revert A1 c1 A2 c2 u1 u2 u3 u4
   exact KEY
 case pK =>
  intro A1 c1 A2 c2 u1 u2 u3 u4 Y qq F1 F2 F3 F4 F5
  have YK := XK.out.below F2.out
  have HNW := zh (New_w (soP q p r) rfl (so_gr q p r) Y YK (XTK.out.below F2.out) A1 1 c1 _ F3.out rfl (by decide) (by intro u hu; simp at hu; rcases hu with rfl | rfl <;> rfl) A2 1 c2 _ F4.out rfl (by decide) (by intro u hu; simp at hu; rcases hu with rfl | rfl <;> rfl) (some ⟨qq, 0, none⟩) 1 1 _ F5.out rfl (by decide) (by intro u hu; simp at hu; subst hu; rfl) (by decide))
  dsimp only [prC, soP, soC, soM, List.length_cons, List.length_nil, Nat.zero_add] at HNW
  clear YK
  refine rdy 4 rfl (fun K hK => ?_)
  go_simp
  refine HNW.out.mono ?_
  rintro e v hnp
  obtain ⟨mb, fb, vb, rb, k, m, f, rfl, hrn, htk, hst, -, hsp, hsf, hpc, hmb, hbl⟩ := new_rn hnp
  have S0 := zh (show St mb 0 ov0 0 [] v from ⟨fb, vb, rb, _, k, m, f, hrn, hst, hsp, hpc, fun _ => htk, hsf⟩)
  have VP := zh ((hbl.block _ (blk_lt F1.out)).trans F1.out)
  have VA := zh (show Below w.heap.size w v from then' (then' XA.out F2.out) hbl)
  have VX := zh (show Below X.heap.size X v from then' F2.out hbl)
  have BM := zh (show b < mb from Nat.lt_of_lt_of_le (blk_lt F1.out) hmb)
  have WM := zh (show w.heap.size ≤ mb ∧ X.heap.size ≤ mb from ⟨Nat.le_trans (then' XA.out F2.out).size hmb, Nat.le_trans F2.out.size hmb⟩)
  clear hnp hrn htk hst hsp hsf hpc hmb hbl HNW F1 F2 F3 F4 F5
  go_wp2_with fail
  refine hK.out _ _ (HC.out _ VP.out) (fun hHeld => ?_)
  clear hK K hHeld
  try simp only [puts]
  have hS := HC.out _ VP.out
  try dsimp only at hS
  refine tkp 5 rfl ?_
  clear hS
  refine wpAnyH_done (by kernel_rfl) ?_ _
  go_wp2
  refine wp_loop_rounds 5 ?_
  rw [rounds_succ]
  go_wp2_with fail
  refine (step1 S0.out).mono ?_
  rintro e a1 ⟨rfl, hs, hb⟩
  obtain ⟨m1, ht, hsp⟩ := hs.told
  replace hsp : m1.sp = 1 := hsp
  have HRS := zh (result_w a1 ht rfl (by decide) (by intro u hu; simp at hu; rcases hu with rfl | rfl <;> rfl))
  rw [hsp] at HRS
  have T1 := zh hs
  have A1_ := zh (show Below mb v a1 from hb)
  have P1 := zh ((hb.block b BM.out).trans VP.out)
  have W1 := zh (show Below w.heap.size w a1 from VA.out.trans (hb.mono WM.out.1))
  have Y1 := zh (show Below X.heap.size X a1 from VX.out.trans (hb.mono WM.out.2))
  clear hs hb ht hsp
  go_wp2_with fail
  refine HRS.out.mono ?_
  rintro e c1 ⟨⟨Be, B0, B1, B2, B3, B4, B5, de, d0, d1, d2, d3, d4, d5, rfl, -, -⟩, hb⟩
  have U1 := zh (T1.out.below hb)
  have Q1 := zh ((hb.block b (by have := BM.out; have := T1.out.lt; omega)).trans P1.out)
  have X1 := zh (show Below w.heap.size w c1 from then' W1.out hb)
  have Z1 := zh (show Below X.heap.size X c1 from then' Y1.out hb)
  clear hb HRS
  go_wp2
  rw [rounds_succ]
  go_wp2_with fail
  refine (step2 U1.out).mono ?_
  rintro e a2 ⟨rfl, hs, hb⟩
  obtain ⟨m2, ht, hsp⟩ := hs.told
  replace hsp : m2.sp = 2 := hsp
  have HRS := zh (result_w a2 ht rfl (by decide) (by intro u hu; simp at hu; rcases hu with rfl | rfl | rfl | rfl <;> rfl))
  rw [hsp] at HRS
  have T2 := zh hs
  have A2_ := zh (show Below mb c1 a2 from hb)
  have P2 := zh ((hb.block b BM.out).trans Q1.out)
  have W2 := zh (show Below w.heap.size w a2 from X1.out.trans (hb.mono WM.out.1))
  have Y2 := zh (show Below X.heap.size X a2 from Z1.out.trans (hb.mono WM.out.2))
  clear hs hb ht hsp
  go_wp2_with fail
  refine HRS.out.mono ?_
  rintro e c2 ⟨⟨Be, B0, B1, B2, B3, B4, B5, de, d0, d1, d2, d3, d4, d5, rfl, -, -⟩, hb⟩
  have U2 := zh (T2.out.below hb)
  have Q2 := zh ((hb.block b (by have := BM.out; have := T2.out.lt; omega)).trans P2.out)
  have X2 := zh (show Below w.heap.size w c2 from then' W2.out hb)
  have Z2 := zh (show Below X.heap.size X c2 from then' Y2.out hb)
  clear hb HRS
  go_wp2
  rw [rounds_succ]
  go_wp2_with fail
  refine (step3 U2.out).mono ?_
  rintro e a3 ⟨rfl, hs, hb⟩
  obtain ⟨m3, ht, hsp⟩ := hs.told
  replace hsp : m3.sp = 3 := hsp
  have HRS := zh (result_w a3 ht rfl (by decide) (by intro u hu; simp at hu; rcases hu with rfl | rfl | rfl | rfl <;> rfl))
  rw [hsp] at HRS
  have T3 := zh hs
  have A3_ := zh (show Below mb c2 a3 from hb)
  have P3 := zh ((hb.block b BM.out).trans Q2.out)
  have W3 := zh (show Below w.heap.size w a3 from X2.out.trans (hb.mono WM.out.1))
  have Y3 := zh (show Below X.heap.size X a3 from Z2.out.trans (hb.mono WM.out.2))
  clear hs hb ht hsp
  go_wp2_with fail
  refine HRS.out.mono ?_
  rintro e c3 ⟨⟨Be, B0, B1, B2, B3, B4, B5, de, d0, d1, d2, d3, d4, d5, rfl, -, -⟩, hb⟩
  have U3 := zh (T3.out.below hb)
  have Q3 := zh ((hb.block b (by have := BM.out; have := T3.out.lt; omega)).trans P3.out)
  have X3 := zh (show Below w.heap.size w c3 from then' W3.out hb)
  have Z3 := zh (show Below X.heap.size X c3 from then' Y3.out hb)
  clear hb HRS
  go_wp2
  rw [rounds_succ]
  go_wp2_with fail
  refine (step4 U3.out).mono ?_
  rintro e a4 ⟨rfl, hs, hb⟩
  obtain ⟨m4, ht, hst4, hcd4, hsp, hfr4, hsf4⟩ := id hs
  replace hsp : m4.sp = 4 := hsp
  have HRS := zh (result_w a4 ht rfl (by decide) (by intro u hu; simp at hu; rcases hu with rfl | rfl | rfl | rfl <;> rfl))
  rw [hsp] at HRS
  have T4 := zh hs
  have A4_ := zh (show Below mb c3 a4 from hb)
  have P4 := zh ((hb.block b BM.out).trans Q3.out)
  have W4 := zh (show Below w.heap.size w a4 from X3.out.trans (hb.mono WM.out.1))
  have Y4 := zh (show Below X.heap.size X a4 from Z3.out.trans (hb.mono WM.out.2))
  clear hs hb ht hsp hst4 hcd4 hfr4 hsf4
  go_wp2_with fail
  refine HRS.out.mono ?_
  rintro e c4 ⟨⟨Be, B0, B1, B2, B3, B4, B5, de, d0, d1, d2, d3, d4, d5, rfl, -, -⟩, hb⟩
  have U4 := zh (T4.out.below hb)
  have Q4 := zh ((hb.block b (by have := BM.out; have := T4.out.lt; omega)).trans P4.out)
  have X4 := zh (show Below w.heap.size w c4 from then' W4.out hb)
  have Z4 := zh (show Below X.heap.size X c4 from then' Y4.out hb)
  clear hb HRS
  go_wp2
  obtain ⟨m5, ht, hst5, hcd5, hsp5, ⟨Af, cf, hfr5⟩, hsf5⟩ := U4.out
  have HNO := zh (step_no mb m5 Af cf c4 ht.mc hfr5)
  have HRS := zh (result_w c4 ht rfl (by decide) (by intro u hu; simp at hu; rcases hu with rfl | rfl | rfl | rfl <;> rfl))
  rw [hst5, hcd5, hsp5] at HRS
  have HDP := zh (fun v (hv : Below c4.heap.size c4 v) => deep_w mb m5 Af 0 cf v (ht.mc.below hv) hfr5)
  have HHE := zh (fun v (hv : Below c4.heap.size c4 v) => held_w mb v (U4.out.below hv))
  clear ht hst5 hcd5 hsp5 hfr5 hsf5
  rw [rounds_succ]
  go_wp2_with fail
  refine HNO.out.mono ?_
  rintro e v' ⟨rfl, hv'⟩
  rw [hv']
  clear hv' HNO
  go_wp2_with fail
  refine HRS.out.mono ?_
  rintro e g1 ⟨⟨Be, B0, B1, B2, B3, B4, B5, de, d0, d1, d2, d3, d4, d5, rfl, hre, -⟩, hb⟩
  obtain ⟨R, hR⟩ : ∃ R, R = g1.alloc (.cells #[.int .i64 1, .int .i64 2, .int .i64 m5.tr, .int .i64 4, .slice Be 2 de, .slice B0 1 d0, .slice B1 0 d1, .slice B2 0 d2, .slice B3 1 d3, .slice B4 0 d4, .slice B5 0 d5] 51) := ⟨_, rfl⟩
  have RL : Below g1.heap.size g1 R := by rw [hR]; exact (Below.refl _ _).alloc (Nat.le_refl _) _
  obtain ⟨t, htt⟩ : ∃ t, t = g1.heap.size := ⟨_, rfl⟩
  have RN := zh (show R.heap[t]? = some (.cells #[.int .i64 1, .int .i64 2, .int .i64 m5.tr, .int .i64 4, .slice Be 2 de, .slice B0 1 d0, .slice B1 0 d1, .slice B2 0 d2, .slice B3 1 d3, .slice B4 0 d4, .slice B5 0 d5] 51 (0, 0)) from by rw [htt, hR]; exact heap_alloc_new _ _)
  have R4 := zh (show Below c4.heap.size c4 R from then' hb RL)
  have RE := zh (hre.below RL)
  have HR := zh hR; have HT := zh htt
  clear hb hre hR RL htt HRS
  go_wp2_with fail
  rw [← HR.out, ← HT.out]
  (try go_wp2_with fail)
  have h7 := rp3n (-7) 2 R (by decide) (by decide) (by decide)
  rw [show wrap64 (Int.tdiv (-7) 2) = -3 from by decide +kernel] at h7
  have H7 := zh h7
  clear h7
  refine H7.out.mono ?_
  rintro e v' ⟨rfl, hv'⟩
  rw [hv']
  clear hv' H7
  go_wp2_with fail
  refine (rp4z 1 R).mono ?_
  rintro e v' ⟨rfl, hv'⟩
  rw [hv']
  clear hv'
  have RP := zh ((R4.out.block b (blk_lt Q4.out)).trans Q4.out)
  have RX := zh (show Below X.heap.size X R from then' Z4.out R4.out)
  have RW := zh (show Below w.heap.size w R from then' X4.out R4.out)
  have HNW := zh (New_w (soP q p r) rfl (so_gr q p r) R (XK.out.below RX.out) (XTK.out.below RX.out) none 0 0 [] (.inl rfl) rfl (by decide) (by intro u hu; simp at hu) none 0 0 [] (.inl rfl) rfl (by decide) (by intro u hu; simp at hu) none 0 0 [] (.inl rfl) rfl (by decide) (by intro u hu; simp at hu) (by decide))
  dsimp only [prC, soP, soC, soM, List.length_cons, List.length_nil, Nat.zero_add] at HNW
  obtain ⟨z0, z1, z2, z3, z4⟩ := HC.out _ RP.out
  go_wp2_with fail
  refine HNW.out.mono ?_
  rintro e g2 hnp
  obtain ⟨mc, fc, rc, cc, n2, f2, rfl, hm2, hf2, hr2, hk2, e1, e2, e3, e4, hb2⟩ := new_at hnp
  have HAT := zh (at_w mc fc rc cc n2 f2 g2 hm2 hf2 hr2 hk2 e1 e2 e3 e4)
  have G2 := zh (show Below R.heap.size R g2 from hb2)
  clear hnp hm2 hf2 hr2 hk2 e1 e2 e3 e4 hb2 HNW z0 z1 z2 z3 z4
  go_wp2_with fail
  refine HAT.out.mono ?_
  rintro e g3 ⟨rfl, hb3⟩
  obtain ⟨M, hM⟩ : ∃ M, M = g3.alloc (.cells #[.string ⟨#[65]⟩, .string ⟨#[109]⟩, .string ⟨#[40, 41, 73]⟩] 34) := ⟨_, rfl⟩
  have ML : Below g3.heap.size g3 M := by rw [hM]; exact (Below.refl _ _).alloc (Nat.le_refl _) _
  obtain ⟨t8, ht8⟩ : ∃ t8, t8 = g3.heap.size := ⟨_, rfl⟩
  have M8 := zh (show M.heap[t8]? = some (.cells #[.string ⟨#[65]⟩, .string ⟨#[109]⟩, .string ⟨#[40, 41, 73]⟩] 34 (0, 0)) from by rw [ht8, hM]; exact heap_alloc_new _ _)
  have MB := zh (show Below R.heap.size R M from then' (then' G2.out hb3) ML)
  have MR := zh ((MB.out.block _ (blk_lt RN.out)).trans RN.out)
  have MP := zh ((MB.out.block _ (blk_lt RP.out)).trans RP.out)
  have ME := zh (RE.out.below MB.out)
  have MW := zh (show Below w.heap.size w M from then' RW.out MB.out)
  have M4 := zh (show Below c4.heap.size c4 M from then' R4.out MB.out)
  have HM := zh hM; have HT8 := zh ht8
  clear hb3 hM ML ht8 HAT
  obtain ⟨ae, rfl, -, x2, x3⟩ := ev_at ME.out
  obtain ⟨-, -, p2, p3, p4⟩ := HC.out _ MP.out
  have y0 : M.cell? ⟨t, 0, none⟩ = some (.int .i64 1) := cell_of_row _ _ 0 _ _ _ MR.out
  have y1 : M.cell? ⟨t, 1, none⟩ = some (.int .i64 2) := cell_of_row _ _ 1 _ _ _ MR.out
  have y3 : M.cell? ⟨t, 3, none⟩ = some (.int .i64 4) := cell_of_row _ _ 3 _ _ _ MR.out
  have y4 : M.cell? ⟨t, 4, none⟩ = some (.slice (some ae) 2 de) := cell_of_row _ _ 4 _ _ _ MR.out
  have q0 : M.cell? ⟨t8, 0, none⟩ = some (.string ⟨#[65]⟩) := cell_of_row _ _ 0 _ _ _ M8.out
  have q1 : M.cell? ⟨t8, 1, none⟩ = some (.string ⟨#[109]⟩) := cell_of_row _ _ 1 _ _ _ M8.out
  have q2 : M.cell? ⟨t8, 2, none⟩ = some (.string ⟨#[40, 41, 73]⟩) := cell_of_row _ _ 2 _ _ _ M8.out
  rw [HM.out] at x2 x3 p2 p3 p4 y0 y1 y3 y4 q0 q1 q2
  rw [HT8.out] at q0 q1 q2
  go_wp2_with fail
  rw [← HM.out]
  refine (HDP.out M M4.out).mono ?_
  rintro e v' ⟨rfl, hv'⟩
  rw [hv']
  clear hv'
  rw [← HM.out] at p2 p3 p4 q0 q1 q2
  go_wp2_with fail
  refine (HHE.out M M4.out).mono ?_
  rintro e v' ⟨rfl, hb5⟩
  have EN := zh (show Below w.heap.size w v' from then' MW.out hb5)
  clear hb5
  go_wp2
  go_ret
  exact ⟨rfl, EN.out⟩
end Go.Proofs.YtjejmlpjifhmmaaGreatDoor.stp
namespace Go.Proofs.YtjejmlpjifhmmaaGreatDoor.stepReckons
open Go.RowKit
open Go.Proofs.YtjejmlpjifhmmaaGreatDoor.words Go.Proofs.YtjejmlpjifhmmaaGreatDoor.kind Go.Proofs.YtjejmlpjifhmmaaGreatDoor.stp
set_option maxRecDepth 100000
set_option maxHeartbeats 8000000
set_option linter.all false
theorem walk (o a b : Int) (w : World) (ho1 : -9223372036854775808 ≤ o) (ho2 : o ≤ 9223372036854775807) (ha1 : -9223372036854775808 ≤ a) (ha2 : a ≤ 9223372036854775807) (hb1 : -9223372036854775808 ≤ b) (hb2 : b ≤ 9223372036854775807) (hm : Mx w) (hv : Vd w) :
 Calls Tryz.prog 3 #[.int .i64 o, .int .i64 a, .int .i64 b] w fun e w' => e = .returned (.bool true) ∧ Below w.heap.size w w' := by
 obtain ⟨v, t, h1, h2⟩ := reck o a b
 have H1 := zh (h1 w); have H2 := zh (h2 w)
 have HL := zh (live_w w hm hv)
 have e1 : (v == v) = true := by simp
 have e2 : (t == t) = true := by simp
 clear h1 h2 ho1 ho2 ha1 ha2 hb1 hb2 hm hv
 go_enter Tryz.func3, Tryz.ntmps3
 go_wp2_with fail
 refine H1.out.mono ?_
 rintro e u ⟨rfl, hu⟩
 rw [hu]
 clear hu
 go_wp2_with fail
 refine H2.out.mono ?_
 rintro e u ⟨rfl, hu⟩
 rw [hu]
 clear hu
 go_wp2_with fail
 refine HL.out.mono ?_
 rintro e u ⟨rfl, hb⟩
 have EN := zh hb
 clear hb
 go_wp2
 go_ret
 exact ⟨rfl, EN.out⟩
end Go.Proofs.YtjejmlpjifhmmaaGreatDoor.stepReckons
namespace Go.Proofs.YtjejmlpjifhmmaaGreatDoor.Laid6
open Go.ChangeShapes Go.WideShapes Go.ChangeAt Go.RowKit
open Go.Proofs.YtjejmlpjifhmmaaGreatDoor.kind
set_option maxRecDepth 100000
def laidL : List (String × DataW Unit) := [("secateur/kind.void", Rows.laid_secateur_kind_void)]
theorem gVoid : Tryz.prog.globalNamed "secateur/kind.void" = some 0 := by kernel_rfl
theorem tVoid : (Tryz.prog.globals[0]?).map (·.type) = some 165 := by kernel_rfl
theorem open_two {H : Type} {enc : TypeId × Value → H} {P : Program} {w : World} {base : Nat} {spare : Nat → Bool} {held : Bool} {t : TypeId} {f0 f1 : Field} {fuel : Nat} {cs : List Value} {x : DataW H × List MemPlace} (ht : P.underlying t = some (.struct #[f0, f1])) (ce : P.cellsOf t = 2)
  (o0 : f0.offset = 0) (o1 : f1.offset = 1) (c0 : P.cellsOf f0.type = 1) (c1 : P.cellsOf f1.type = 1) (h : DataW.trod enc P w base spare held fuel t cs = some x) :
  ∃ (n : Nat) (v0 v1 : Value) (y0 y1 : DataW H × List MemPlace), cs = [v0, v1] ∧ x = (.agg [y0.1, y1.1], y0.2 ++ y1.2) ∧ DataW.trod enc P w base spare held n f0.type [v0] = some y0 ∧ DataW.trod enc P w base spare held n f1.type [v1] = some y1 := by
 obtain ⟨xs, n, _, hxy, hl, hxl, hf⟩ := DataW.trod_struct ht h
 rw [ce] at hl
 match xs, hxl, cs, hl with
 | [y0, y1], _, [v0, v1], _ =>
  have g0 := hf 0 f0 rfl
  have g1 := hf 1 f1 rfl
  simp [o0, o1, c0, c1] at g0 g1
  exact ⟨n, v0, v1, y0, y1, rfl, by rw [hxy]; simp, g0, g1⟩
theorem table {W : World} (h : laidMetH Tryz.prog laidL W) : Vd W := by
 obtain ⟨ps, ⟨g', t, cs, fuel, p, q, h1, h2, h3, h4, -, rfl⟩, -, -⟩ := h
 rw [gVoid] at h1; cases h1
 rw [tVoid] at h2; cases h2
 obtain ⟨n, v0, v1, y0, y1, e, hx, g0, g1⟩ := open_two Tryz.underlying165 (by kernel_rfl) rfl rfl (by kernel_rfl) (by kernel_rfl) h4
 obtain ⟨k, e0, x0, -⟩ := DataW.trod_int Tryz.underlying163 g0
 obtain ⟨s, e1, x1, -⟩ := DataW.trod_string Tryz.underlying9 g1
 rw [x0, x1] at hx
 simp only [List.cons.injEq, and_true] at e0 e1
 subst e0 e1
 have hcs : cs = #[.int .i64 k, .string s] := Array.toList_inj.1 e
 simp only [Rows.laid_secateur_kind_void, Prod.mk.injEq, DataW.agg.injEq, List.cons.injEq, DataW.lit.injEq, Lit.int.injEq, Lit.string.injEq, and_true, true_and] at hx
 obtain ⟨⟨hk, hs⟩, -⟩ := hx
 have hs0 : s = ⟨#[]⟩ := by
  apply ByteArray.ext; rw [← Array.toList_inj]; rw [← hs]
 have c0 := World.var?_cell gVoid h3 0
 have c1 := World.var?_cell gVoid h3 1
 rw [hcs] at c0 c1
 refine ⟨?_, ?_⟩
 ·rw [c0, ← hk]; rfl
 ·rw [c1, hs0]; rfl
theorem most {W : World} (hs : W.ShapedOpen Tryz.prog) : Mx W := Tryz.laysM145.s1_3 W hs
noncomputable def laidWorld (os : Os) : World :=
 { World.holding Tryz.prog os ⟨#[], #[], []⟩ with heap := (World.holding Tryz.prog os ⟨#[], #[], []⟩).heap.modify 0 fun
   | .cells _ t frozen => .cells #[.int .i64 1, .string ⟨#[]⟩] t frozen
   | o => o }
end Go.Proofs.YtjejmlpjifhmmaaGreatDoor.Laid6
namespace Go.Proofs.YtjejmlpjifhmmaaGreatDoor.stepReckons
open Go.ChangeShapes Go.WideShapes Go.ChangeAt Go.RowKit
open Go.Proofs.YtjejmlpjifhmmaaGreatDoor.words Go.Proofs.YtjejmlpjifhmmaaGreatDoor.frame
set_option maxRecDepth 100000
theorem reads (os : Os) {H : Type} (enc : TypeId × Value → H) : ∃ places, DataW.whole enc Tryz.prog ((Laid6.laidWorld os).forCall (fun _ _ => 0) ⟨#[], #[.int .i64 0, .int .i64 0, .int .i64 0], []⟩).memory Tryz.f3.params.toList Rows.stepReckonsSpec.vars false (#[.int .i64 0, .int .i64 0, .int .i64 0] : Array Value).toList 8 = some ([.lit (.int .i64 0), .lit (.int .i64 0), .lit (.int .i64 0)], [], places) :=
 ⟨[], by kernel_rfl⟩
theorem laid_met (os : Os) : laidMet Tryz.prog Rows.stepReckonsRow.laid ((Laid6.laidWorld os).forCall (fun _ _ => 0) ⟨#[], #[.int .i64 0, .int .i64 0, .int .i64 0], []⟩).memory :=
 laidMet_of_run' 8 (by kernel_rfl) (by kernel_rfl)
theorem lifted (os : Os) (started : os.Started) (H : Type) (enc : TypeId × Value → H) (F : Stop.Interp) :
  ReturnsInHanded {} Tryz.checked os 3 .any ((OpenSpec.ofChange Rows.stepReckonsSpec).preRow enc Tryz.prog Tryz.f3 Rows.stepReckonsRow.domain false Rows.stepReckonsRow.laid) (((OpenSpec.ofChange Rows.stepReckonsSpec).at F).post enc Tryz.prog Tryz.f3 false true false false) := by
 obtain ⟨places, hx⟩ := reads os enc
 refine returnsInHanded_of_row (C := Tryz.checked) (s := (OpenSpec.ofChange Rows.stepReckonsSpec)) own started (by kernel_rfl) Tryz.func3
  (witness_row_at (enc := enc) (C := Tryz.checked) false (Laid6.laidWorld os) #[.int .i64 0, .int .i64 0, .int .i64 0] rfl (by kernel_rfl) (by kernel_rfl) (by kernel_rfl)
   (OpenSpec.preRow_of_cond 8 hx (by kernel_rfl) (fun k hk => by cases hk) (by kernel_rfl) (laid_met os))) ?_
 intro W base args ds gs before hval0 hW _ _ hz hL hSO _
 have hval : ∀ (j : Nat) t v, Tryz.f3.params[j]? = some t → args[j]? = some v → Value.okWide Tryz.prog W .any base t v := hval0
 have hW' := hW
 obtain ⟨p, q, hA0, hV, rfl, hfz, hnd⟩ := hW
 have hA : DataW.TrodAll enc Tryz.prog W 0 (fun _ => true) true Tryz.f3.params.toList args.toList ds p := hA0
 rw [Tryz.params3] at hA hval
 obtain ⟨v0, vs0, d0, ds0, p0, q0, hargs, rfl, rfl, h0, r0⟩ := trodAll_cons hA
 obtain ⟨v1, vs1, d1, ds1, p1, q1, rfl, rfl, rfl, h1, r1⟩ := trodAll_cons r0
 obtain ⟨v2, vs2, d2, ds2, p2, q2, rfl, rfl, rfl, h2, r2⟩ := trodAll_cons r1
 obtain ⟨rfl, rfl, rfl⟩ := trodAll_nil r2
 obtain rfl : args = #[v0, v1, v2] := by cases args; simp_all
 obtain ⟨rfl, rfl⟩ := trodVars_none hV
 obtain ⟨a0, rfl, rfl, rfl, w0⟩ := open_int Tryz.underlying2 (hval 0 2 v0 rfl rfl) h0
 have b0 := bounds_i64 w0
 obtain ⟨a1, rfl, rfl, rfl, w1⟩ := open_int Tryz.underlying2 (hval 1 2 v1 rfl rfl) h1
 have b1 := bounds_i64 w1
 obtain ⟨a2, rfl, rfl, rfl, w2⟩ := open_int Tryz.underlying2 (hval 2 2 v2 rfl rfl) h2
 have b2 := bounds_i64 w2
 have tab0 := Laid6.most hSO
 have tab1 := Laid6.table hL
 clear hA0
 refine (walk a0 a1 a2 W b0.1 b0.2 b1.1 b1.2 b2.1 b2.2 tab0 tab1).mono fun e W' ⟨he, bel⟩ => ?_
 subst he
 exact ⟨_, rfl, _, _, _, [], _, [], hW', trodAll_mk1 (shut_bool Tryz.underlying4 _), (trodAll_cons_mk (shut_int Tryz.underlying2 w0) (trodAll_cons_mk (shut_int Tryz.underlying2 w1) (trodAll_cons_mk (shut_int Tryz.underlying2 w2) trodAll_mk0))), rfl, bel.frame _, fun h => by cases h⟩
theorem j1 : (Rows.stepReckonsRow.inPlace == Tryz.pinned.checked.prog.inPlace 3) = true := by kernel_rfl
theorem j2 : (Rows.stepReckonsRow.unfollowed == Tryz.pinned.checked.prog.unfollowed 3) = true := by kernel_rfl
theorem j3 : (Rows.stepReckonsRow.recurses == Tryz.pinned.checked.prog.recurses 3) = true := by kernel_rfl
theorem j4 : (Rows.stepReckonsRow.named == Tryz.pinned.checked.prog.varsNamed 3) = true := by kernel_rfl
theorem j5 : laidOutB Tryz.pinned.checked.prog = true := by kernel_rfl
theorem j6 : mapsRowed Tryz.pinned.checked.prog = true := by kernel_rfl
theorem j7 : Tryz.pinned.checked.prog.funcNamed Rows.stepReckonsRow.func = some 3 := by kernel_rfl
theorem j8 : joinedFacts Tryz.pinned.checked.prog 3 Tryz.f3 (OpenSpec.bare (OpenSpec.ofChange Rows.stepReckonsSpec)) Rows.stepReckonsRow = true := by
 unfold joinedFacts
 rw [j1, j2, j3, j4, j5, j6]
 kernel_rfl
theorem said : Rows.StepReckonsSaid :=
 OpenClaim.holds_of_cond 3 Tryz.f3 rfl rfl rfl rfl rfl rfl rfl ⟨rfl, rfl, rfl, rfl, rfl⟩ rfl rfl rfl rfl rfl j7 Tryz.func3 j8
  (of_decide_eq_true (by kernel_rfl)) (by unfold Func.isWrapper; first | (rw [if_pos (by decide +kernel)]; kernel_rfl) | (rw [if_neg (by decide +kernel)]; exact ⟨rfl, rfl⟩))
  (fun os started H enc _ F => by rw [OpenClaim.pre_eq_preRow]; exact lifted os started H enc F)
theorem plain (f : FuncId) (fn : Func) (hf : Tryz.pinned.checked.prog.funcNamed "secateur/secateurlaw19.StepReckons" = some f) (hfn : Tryz.pinned.checked.prog.funcs[f]? = some fn) :
  true = Tryz.pinned.checked.prog.looks [] ∧ ∀ (j : Nat) t, fn.params[j]? = some t → Tryz.pinned.checked.prog.wantsStandIn t = false := by
 obtain rfl : f = 3 := Option.some.inj ((show Tryz.prog.funcNamed "secateur/secateurlaw19.StepReckons" = some 3 by kernel_rfl).symm.trans hf) |>.symm
 obtain rfl : fn = Tryz.f3 := (Option.some.inj (Tryz.func3.symm.trans hfn)).symm
 refine ⟨by kernel_rfl, fun j t ht => ?_⟩
 rw [Tryz.params3] at ht
 have hm := Array.mem_of_getElem? ht
 simp only [List.mem_toArray, List.mem_cons, List.not_mem_nil, or_false] at hm
 rcases hm with rfl | rfl | rfl
 ·exact (show Tryz.prog.wantsStandIn 2 = false by kernel_rfl)
 ·exact (show Tryz.prog.wantsStandIn 2 = false by kernel_rfl)
 ·exact (show Tryz.prog.wantsStandIn 2 = false by kernel_rfl)
theorem card : Rows.StepReckonsCardSaid :=
 Claim7.holds_tied_plain_at .later [] _ _ _ _ said (fun _ h => by cases h) (by kernel_rfl) (fun _ h => by cases h) stepReckons_row_tie rfl ⟨rfl, rfl⟩ (by kernel_rfl) rfl plain (by kernel_rfl)
#print axioms card
end Go.Proofs.YtjejmlpjifhmmaaGreatDoor.stepReckons

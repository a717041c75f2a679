/-
 Layer 7: shapes, and of which sort an instruction is: the program's answers, and the document's.
-/
import Derived.Test.YtnmnnokdoiagkaaDoorOpP
import Derived.Test.YtnmnnokdoiagkaaDoorKindE
namespace Go.Proofs.YtnmnnokdoiagkaaDoor.op
open Go.RowKit
open words kindp opp

/-- the table of shapes lies in its block -/
def Sh (w : World) : Prop := 0 < w.heap.size ∧ ∀ j, j < 33 → w.cell? ⟨0, j, none⟩ = some (.string ⟨(shapes.getD j []).toArray⟩)
theorem Sh.below {w w' : World} (h : Sh w) (hb : Below w.heap.size w w') : Sh w' := ⟨Nat.lt_of_lt_of_le h.1 hb.size, fun k hk => (hb.cell (p := ⟨_, k, none⟩) h.1).trans (h.2 k hk)⟩
theorem Sh.drewN {w : World} (h : Sh w) (q : Nat) : Sh (w.drewN q) := h
theorem known_nat {o : Int} (h : known o = true) : ∃ n : Nat, o = (n : Int) ∧ 0 < n ∧ n < 33 := by
 have := of_decide_eq_true h
 exact ⟨o.toNat, by omega, by omega, by omega⟩
theorem known_not {o : Int} (h : known o = false) : o ≤ 0 ∨ 32 < o := by
 have := of_decide_eq_false h
 omega

set_option maxRecDepth 100000 in
set_option maxHeartbeats 400000 in
theorem known_w (o : Int) (w : World) :
  Calls Tryd.prog 40 #[.int .i64 o] w fun e w' => e = .returned (.bool (known o)) ∧ w' = w := by
 by_cases h1 : 0 < o
 ·by_cases h2 : o ≤ 32
  ·rw [show known o = true from decide_eq_true ⟨h1, h2⟩]
   go_enter Tryd.func40, Tryd.ntmps40
   go_wp2
   go_ret
   exact ⟨rfl, rfl⟩
  ·rw [show known o = false from decide_eq_false (fun h => h2 h.2)]
   go_enter Tryd.func40, Tryd.ntmps40
   go_wp2
   go_ret
   exact ⟨rfl, rfl⟩
 ·rw [show known o = false from decide_eq_false (fun h => h1 h.1)]
  go_enter Tryd.func40, Tryd.ntmps40
  go_wp2
  go_ret
  exact ⟨rfl, rfl⟩

set_option maxRecDepth 100000 in
set_option maxHeartbeats 400000 in
theorem shape_w (o : Int) (w : World) (hs : Sh w) :
  Calls Tryd.prog 39 #[.int .i64 o] w fun e w' => e = .returned (.string ⟨(shapeL o).toArray⟩) ∧ w' = w := by
 have HK := Lib.hid (fun w => known_w o w)
 cases hk : known o with
 | false =>
  rw [hk] at HK
  rw [show shapeL o = [] by unfold shapeL; rw [hk]; rfl]
  clear hk hs
  go_enter Tryd.func39, Tryd.ntmps39
  go_wp2_with fail
  refine (HK.out _).mono ?_
  rintro e w1 ⟨rfl, rfl⟩
  go_wp2
  go_ret
  exact ⟨rfl, rfl⟩
 | true =>
  rw [hk] at HK
  obtain ⟨n, rfl, h0, h1⟩ := known_nat hk
  have hL : shapeL (n : Int) = shapes.getD n [] := by unfold shapeL; rw [if_pos hk]; rfl
  have hc := hs.2 n h1
  rw [← hL] at hc
  generalize shapeL (n : Int) = L at *
  clear hL hk hs
  have hI : (n : Int) < 33 := by omega
  go_enter Tryd.func39, Tryd.ntmps39
  go_wp2_with fail
  refine (HK.out _).mono ?_
  rintro e w1 ⟨rfl, rfl⟩
  go_wp2
  go_ret
  exact ⟨rfl, rfl⟩

/-- has a shape one of some letters -/
def anyL (s l : Tx) : Bool := Lib.containsAny s l
set_option maxRecDepth 100000 in
set_option maxHeartbeats 400000 in
theorem has_w (o : Int) (l : Tx) (w : World) (hs : Sh w) (hl : ∀ c ∈ l, c.toNat < 128) (hz : l.length < 100) :
  Calls Tryd.prog 44 #[.int .i64 o, .string ⟨l.toArray⟩] w fun e w' => e = .returned (.bool (anyL (shapeL o) l)) ∧ Below w.heap.size w w' := by
 have HS := Lib.hid (fun w hs => shape_w o w hs)
 have HT := Lib.hid hs
 obtain ⟨h4, h128⟩ := shape_letters o
 have HC := Lib.hid (fun w => Tryd.strings_ContainsAny_laid ⟨(shapeL o).toArray⟩ ⟨l.toArray⟩ w (by show (shapeL o).toArray.size < _; simp; omega) (by show l.toArray.size < _; simp; omega) (fun j b hb => h128 b (List.mem_of_getElem? (by simpa using hb))) (fun j b hb => hl b (List.mem_of_getElem? (by simpa using hb))))
 unfold anyL
 generalize Lib.containsAny (shapeL o) l = B at *
 generalize shapeL o = L at *
 clear hs h4 h128 hl hz
 go_enter Tryd.func44, Tryd.ntmps44
 go_wp2_with fail
 refine (HS.out _ HT.out).mono ?_
 rintro e w1 ⟨rfl, rfl⟩
 go_wp2_with fail
 refine (HC.out _).mono ?_
 rintro e w2 ⟨rfl, hb⟩
 have HB := Lib.hid hb
 clear hb
 go_wp2
 go_ret
 exact ⟨rfl, HB.out⟩
theorem any_tail (s : Tx) (c : UInt8) (l : Tx) : anyL s (c :: l) = (hasL s c || anyL s l) := by
 unfold anyL hasL
 induction s with
 | nil => rfl
 | cons b s ih =>
  unfold Lib.containsAny at ih ⊢
  have h1 := Lib.indexAny_ge (c :: l) s
  have h2 := Lib.indexAny_ge l s
  have e1 : decide (0 ≤ Lib.indexAny (b :: s) (c :: l)) = ((c :: l).contains b || decide (0 ≤ Lib.indexAny s (c :: l))) := by
   conv => lhs; unfold Lib.indexAny
   by_cases h : (c :: l).contains b = true
   ·rw [if_pos h, h]; simp
   ·rw [if_neg h]
    rw [Bool.not_eq_true] at h
    rw [h, Bool.false_or]
    split <;> rename_i h3
    ·rw [beq_iff_eq] at h3; rw [h3]
    ·rw [beq_iff_eq] at h3; congr 1; apply propext; omega
  have e2 : decide (0 ≤ Lib.indexAny (b :: s) l) = (l.contains b || decide (0 ≤ Lib.indexAny s l)) := by
   conv => lhs; unfold Lib.indexAny
   by_cases h : l.contains b = true
   ·rw [if_pos h, h]; simp
   ·rw [if_neg h]
    rw [Bool.not_eq_true] at h
    rw [h, Bool.false_or]
    split <;> rename_i h3
    ·rw [beq_iff_eq] at h3; rw [h3]
    ·rw [beq_iff_eq] at h3; congr 1; apply propext; omega
  rw [e1, e2, ih, List.contains_cons, List.contains_cons, Bool.beq_comm (a := c)]
  cases b == c <;> cases l.contains b <;> cases s.contains c <;> simp

theorem any_none (s : Tx) : anyL s [] = false := by
 unfold anyL
 induction s with
 | nil => rfl
 | cons b l ih =>
  unfold Lib.containsAny at ih ⊢
  have h1 := of_decide_eq_false ih
  have h2 := Lib.indexAny_ge [] l
  unfold Lib.indexAny
  rw [show Lib.indexAny l [] = -1 by omega]; rfl
theorem any_one (s : Tx) (c : UInt8) : anyL s [c] = hasL s c := by rw [any_tail, any_none, Bool.or_false]

theorem kinds4 (o : Int) (Q : Int → Prop) (a b c d : Int) (ha : Q a) (hb : Q b) (hc : Q c) (hd : Q d) (h : (o == a) = false → (o == b) = false → (o == c) = false → (o == d) = false → Q o) : Q o := by
 by_cases h1 : o = a
 ·rw [h1]; exact ha
 by_cases h2 : o = b
 ·rw [h2]; exact hb
 by_cases h3 : o = c
 ·rw [h3]; exact hc
 by_cases h4 : o = d
 ·rw [h4]; exact hd
 exact h (by simpa using h1) (by simpa using h2) (by simpa using h3) (by simpa using h4)

set_option maxRecDepth 100000 in
set_option maxHeartbeats 400000 in
theorem falls_w (o : Int) (w : World) :
  Calls Tryd.prog 24 #[.int .i64 o] w fun e w' => e = .returned (.bool (fallsB o)) ∧ w' = w := by
 refine kinds4 o (fun o => Calls Tryd.prog 24 #[.int .i64 o] w fun e w' => e = .returned (.bool (fallsB o)) ∧ w' = w) 6 22 23 30 ?_ ?_ ?_ ?_ ?_
 case refine_5 =>
  intro h1 h2 h3 h4
  have HK := Lib.hid (fun w => known_w o w)
  have e : fallsB o = known o := by
   unfold fallsB
   rw [decide_eq_false (by simp only [beq_eq_false_iff_ne] at h1 h2 h3 h4; omega)]; simp
  rw [e]
  generalize known o = B at *
  clear e
  go_enter Tryd.func24, Tryd.ntmps24
  go_wp2_with fail
  refine (HK.out _).mono ?_
  rintro e w1 ⟨rfl, rfl⟩
  go_wp2
  go_ret
  exact ⟨rfl, rfl⟩
 all_goals
  go_enter Tryd.func24, Tryd.ntmps24
  go_wp2
  go_ret
  exact ⟨rfl, rfl⟩
end Go.Proofs.YtnmnnokdoiagkaaDoor.op

/- JoinOrder -/
import Derived.Test.YtdifmgeicnndfaaOp
import Derived.Lib.SmallJoins
import Derived.Test.YtdifmgeicnndfaaPrgO
import Derived.Test.YtdifmgeicnndfaaJoinOrderW
namespace Go.Proofs.Ytdifmgeicnndfaa.frame3
open Go.ChangeShapes Go.WideShapes Go.ChangeAt Go.RowKit
open Go.Proofs.Ytdifmgeicnndfaa.words
set_option maxRecDepth 100000
set_option linter.all false
theorem open_three {H : Type} {enc : TypeId × Value → H} {W : World} {base : Nat} {v : Value} {d : DataW H} {p : List MemPlace}
  (hok : Value.okWide Try.prog W .any base 28 v) (h : DataW.Trod enc Try.prog W 0 (fun _ => true) true 28 v d p) :
  ∃ x y z : Nat, v = .agg #[.int .u8 (x : Int), .int .u8 (y : Int), .int .u8 (z : Int)] ∧ x < 256 ∧ y < 256 ∧ z < 256 := by
 have hu : Try.prog.underlying 28 = some (.array 3 5) := by kernel_rfl
 have hc : Try.prog.cellsOf 28 = 3 := by kernel_rfl
 have hc1 : Try.prog.cellsOf 5 = 1 := by kernel_rfl
 unfold Value.okWide at hok
 rw [hu] at hok
 obtain ⟨cs, rfl, hsz, _⟩ := hok
 obtain ⟨c0, c1, c2, rfl⟩ := Go.Joins.array3 (hsz.trans hc)
 obtain ⟨fuel, hf⟩ := h
 obtain ⟨xs, m, _, _, _, hn, hel⟩ := DataW.trod_array hu hf
 have key : ∀ (i : Nat) (c : Value), i < 3 → (((Value.agg #[c0, c1, c2]).cells.toList.drop (i * 1)).take 1) = [c] → ∃ x : Nat, c = .int .u8 (x : Int) ∧ x < 256 := fun i c hi hcell => by
  have hx := hel i hi
  rw [hc1, hcell, List.getElem?_eq_getElem (by omega)] at hx
  obtain ⟨k, e1, _, hw⟩ := DataW.trod_int Try.underlying5 hx
  have hb := bounds_u8 hw
  refine ⟨k.toNat, ?_, by omega⟩
  rw [Int.toNat_of_nonneg hb.1]
  simpa using e1
 obtain ⟨x, rfl, hx⟩ := key 0 c0 (by omega) rfl
 obtain ⟨y, rfl, hy⟩ := key 1 c1 (by omega) rfl
 obtain ⟨z, rfl, hz⟩ := key 2 c2 (by omega) rfl
 exact ⟨x, y, z, rfl, hx, hy, hz⟩
end Go.Proofs.Ytdifmgeicnndfaa.frame3
namespace Go.Proofs.Ytdifmgeicnndfaa.framej
open Go.ChangeShapes Go.WideShapes Go.ChangeAt Go.RowKit
open Go.Proofs.Ytdifmgeicnndfaa.words
set_option maxRecDepth 100000
theorem one_fact {H : Type} {enc : TypeId × Value → H} {W : World} {n : Nat} {cs : List Value} {x : DataW H × List MemPlace} (h : DataW.trod enc Try.prog W 0 (fun _ => true) true n 50 cs = some x) : ∃ (k : Int) (c : List UInt8), cs = [Value.int .i64 k, .string ⟨c.toArray⟩] := by
 obtain ⟨m, v0, v1, y0, y1, e, hx, g0, g1⟩ := Laid7.open_two Try.underlying50 (by kernel_rfl) rfl rfl (by kernel_rfl) (by kernel_rfl) h
 obtain ⟨k, e0, x0, -⟩ := DataW.trod_int Try.underlying48 g0
 obtain ⟨s, e1, x1, -⟩ := DataW.trod_string Try.underlying9 g1
 simp only [List.cons.injEq, and_true] at e0 e1
 subst e0 e1
 exact ⟨k, s.data.toList, by rw [e]⟩
end Go.Proofs.Ytdifmgeicnndfaa.framej
namespace Go.Proofs.Ytdifmgeicnndfaa.framej
open Go.ChangeShapes Go.WideShapes Go.ChangeAt Go.RowKit
open Go.Proofs.Ytdifmgeicnndfaa.words
set_option maxRecDepth 100000
set_option linter.all false
theorem six (T : Array Value) (h : T.size = 6) : ∃ c0 c1 c2 c3 c4 c5 : Value, T = #[c0, c1, c2, c3, c4, c5] := by
 obtain ⟨l⟩ := T
 match l, h with
 | [c0, c1, c2, c3, c4, c5], _ => exact ⟨c0, c1, c2, c3, c4, c5, rfl⟩
theorem open_facts3 {H : Type} {enc : TypeId × Value → H} {W : World} {base : Nat} {v : Value} {d : DataW H} {p : List MemPlace}
  (hok : Value.okWide Try.prog W .any base 51 v) (h : DataW.Trod enc Try.prog W 0 (fun _ => true) true 51 v d p) :
  ∃ (k1 k2 k3 : Int) (d1 d2 d3 : List UInt8), v = .agg #[.int .i64 k1, .string ⟨d1.toArray⟩, .int .i64 k2, .string ⟨d2.toArray⟩, .int .i64 k3, .string ⟨d3.toArray⟩] := by
 have hu : Try.prog.underlying 51 = some (.array 3 50) := by kernel_rfl
 have hc : Try.prog.cellsOf 51 = 6 := by kernel_rfl
 have hc1 : Try.prog.cellsOf 50 = 2 := by kernel_rfl
 unfold Value.okWide at hok
 rw [hu] at hok
 obtain ⟨cs, rfl, hsz, _⟩ := hok
 obtain ⟨c0, c1, c2, c3, c4, c5, rfl⟩ := six cs (hsz.trans hc)
 obtain ⟨fuel, hf⟩ := h
 obtain ⟨xs, m, _, _, _, hn, hel⟩ := DataW.trod_array hu hf
 have key : ∀ (i : Nat) (a b : Value), i < 3 → (((Value.agg #[c0, c1, c2, c3, c4, c5]).cells.toList.drop (i * 2)).take 2) = [a, b] → ∃ (k : Int) (c : List UInt8), a = .int .i64 k ∧ b = .string ⟨c.toArray⟩ := fun i a b hi hcell => by
  have hx := hel i hi
  rw [hc1, hcell, List.getElem?_eq_getElem (by omega)] at hx
  obtain ⟨k, c, e⟩ := one_fact hx
  simp only [List.cons.injEq, and_true] at e
  exact ⟨k, c, e.1, e.2⟩
 obtain ⟨k1, d1, rfl, rfl⟩ := key 0 c0 c1 (by omega) rfl
 obtain ⟨k2, d2, rfl, rfl⟩ := key 1 c2 c3 (by omega) rfl
 obtain ⟨k3, d3, rfl, rfl⟩ := key 2 c4 c5 (by omega) rfl
 exact ⟨k1, k2, k3, d1, d2, d3, rfl⟩
end Go.Proofs.Ytdifmgeicnndfaa.framej
namespace Go.Proofs.Ytdifmgeicnndfaa.joinOrder
open Go.ChangeShapes Go.WideShapes Go.ChangeAt Go.RowKit
open Go.Proofs.Ytdifmgeicnndfaa.words Go.Proofs.Ytdifmgeicnndfaa.frame
set_option maxRecDepth 100000
theorem lifted (os : Os) (started : os.Started) (H : Type) (enc : TypeId × Value → H) :
  ReturnsInHanded {} Try.checked os 4 .any (Rows.joinOrderSpec.pre6 enc Try.prog Try.f4 Rows.joinOrderRow.domain false) (Rows.joinOrderSpec.post enc Try.prog Try.f4 false true false false) := by
 refine returnsInHanded_of_change_sized (C := Try.checked) own started (by kernel_rfl) Try.func4
  (ChangeSpec.witness6 (enc := enc) (C := Try.checked) false ⟨#[], #[.agg #[.slice none 0 0, .slice none 0 0, .string ⟨#[]⟩, .string ⟨#[]⟩, .string ⟨#[]⟩], .agg #[.int .i64 0, .string ⟨#[]⟩, .int .i64 0, .string ⟨#[]⟩, .int .i64 0, .string ⟨#[]⟩], .agg #[.int .u8 0, .int .u8 0, .int .u8 0]], []⟩ 8 (by kernel_rfl) (by kernel_rfl) (by kernel_rfl) (by kernel_rfl)) ?_
 intro W base args ds gs before hval0 hW _ hz _
 have hval : ∀ (j : Nat) t v, Try.f4.params[j]? = some t → args[j]? = some v → Value.okWide Try.prog W .any base t v := hval0
 have hW' := hW
 obtain ⟨p, q, hA0, hV, rfl, hfz, hnd⟩ := hW
 have hA : DataW.TrodAll enc Try.prog W 0 (fun _ => true) true Try.f4.params.toList args.toList ds p := hA0
 rw [Try.params4] at hA hval
 obtain ⟨v0, vs0, d0, ds0, p0, q0, hargs, rfl, rfl, h0, r0⟩ := trodAll_cons hA
 obtain ⟨v1, vs1, d1, ds1, p1, q1, rfl, rfl, rfl, h1, r1⟩ := trodAll_cons r0
 obtain ⟨v2, vs2, d2, ds2, p2, q2, rfl, rfl, rfl, h2, r2⟩ := trodAll_cons r1
 obtain ⟨rfl, rfl, rfl⟩ := trodAll_nil r2
 obtain rfl : args = #[v0, v1, v2] := by cases args; simp_all
 obtain ⟨rfl, rfl⟩ := trodVars_none hV
 have k0 := h0
 have lt0 : ∀ x ∈ p0, x.block < W.heap.size := by obtain ⟨m, hm⟩ := k0; exact DataW.trod_lt m _ _ _ hm
 obtain ⟨x0, rfl, ok0, wt0⟩ := prg.open_prog (hval 0 27 v0 rfl rfl) h0
 have bd0 := wt0 (prg.prog_reach hz (j := 0) rfl rfl)
 have k1 := h1
 have lt1 : ∀ x ∈ p1, x.block < W.heap.size := by obtain ⟨m, hm⟩ := k1; exact DataW.trod_lt m _ _ _ hm
 obtain ⟨fk1, fl1, fm1, fc1, fd1, fg1, rfl⟩ := framej.open_facts3 (hval 1 51 v1 rfl rfl) h1
 have k2 := h2
 have lt2 : ∀ x ∈ p2, x.block < W.heap.size := by obtain ⟨m, hm⟩ := k2; exact DataW.trod_lt m _ _ _ hm
 obtain ⟨a2, b2, c2, rfl, e2⟩ := frame3.open_three (hval 2 28 v2 rfl rfl) h2
 clear hA0
 refine (walk x0 fk1 fl1 fm1 fc1 fd1 fg1 a2 b2 c2 W ok0 bd0 e2).mono fun e W' ⟨he, bel⟩ => ?_
 subst he
 exact ⟨_, rfl, _, _, _, [], _, [], hW', trodAll_mk1 (shut_bool Try.underlying4 _), (trodAll_cons_mk (Below.trod laidOut (by kernel_rfl) (of_decide_eq_true (by kernel_rfl)) k0 bel lt0) (trodAll_cons_mk (Below.trod laidOut (by kernel_rfl) (of_decide_eq_true (by kernel_rfl)) k1 bel lt1) (trodAll_cons_mk (Below.trod laidOut (by kernel_rfl) (of_decide_eq_true (by kernel_rfl)) k2 bel lt2) trodAll_mk0))), rfl, bel.frame _, fun h => by cases h⟩
theorem said : Rows.JoinOrderSaid :=
 OpenClaim.holds_of_wide 4 Try.f4 rfl rfl rfl rfl rfl rfl rfl ⟨rfl, rfl, rfl, rfl, rfl⟩ rfl rfl rfl rfl rfl (by kernel_rfl) Try.func4 (by kernel_rfl)
  (of_decide_eq_true (by kernel_rfl)) (by unfold Func.isWrapper; first | (rw [if_pos (by decide +kernel)]; kernel_rfl) | (rw [if_neg (by decide +kernel)]; exact ⟨rfl, rfl⟩))
  (fun os started H enc _ => lifted os started H enc)
#print axioms said
end Go.Proofs.Ytdifmgeicnndfaa.joinOrder

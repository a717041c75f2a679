/-
 Layer 14: an argument that is a code: what lies in it, and how it is bounded.
-/
import Derived.Test.YtnmnnokdoiagkaaDoorPrgO
import Derived.Test.YtnmnnokdoiagkaaDoorFlowH
namespace Go.Proofs.YtnmnnokdoiagkaaDoor.flow
open Go.ChangeShapes Go.WideShapes Go.ChangeAt Go.RowKit Go.Deep
open words frame kindp opp op prg

set_option maxRecDepth 100000 in
theorem open_code {H : Type} {enc : TypeId × Value → H} {W : World} {base : Nat} {v : Value} {d : DataW H} {p : List MemPlace} (hok : Value.okWide Tryd.prog W .any base 22 v) (h : DataW.Trod enc Tryd.prog W 0 (fun _ => true) true 22 v d p) :
  ∃ (A : Option Addr) (c : Nat) (L : List InM), v = .slice A L.length c ∧ L.length ≤ c ∧ Rd W A (L.flatMap inC) ∧ (Wt Tryd.prog 22 d → L.length ≤ 281474976710656) := by
 obtain ⟨A, n, c, rfl⟩ := okWide_slice Tryd.underlying22 hok
 obtain ⟨fuel, hf⟩ := h
 obtain ⟨A5, k5, z5, e5, l5, r5, o5, w5⟩ := open_rows (k := 9) Tryd.underlying22 (by kernel_rfl) (show Tryd.prog.bytesOf 36 = 112 by kernel_rfl) (fun _ => rfl) (by omega) one_instr hf
 simp [Value.cells] at e5
 obtain ⟨rfl, rfl, rfl⟩ := e5
 exact ⟨_, _, z5, rfl, l5, r5, fun hw => by have := (w5 hw).1; omega⟩
end Go.Proofs.YtnmnnokdoiagkaaDoor.flow

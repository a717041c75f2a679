/-
  The walk of WordNames: which texts are names, and what stands on both sides of the last point.
-/
import Derived.Test.YtbapalgikfllkaaDoorLive4
namespace Go.Proofs.YtbapalgikfllkaaDoor.wordNames
open Go.RowKit
open Go.Proofs.YtbapalgikfllkaaDoor.num Go.Proofs.YtbapalgikfllkaaDoor.words Go.Proofs.YtbapalgikfllkaaDoor.give Go.Proofs.YtbapalgikfllkaaDoor.write Go.Proofs.YtbapalgikfllkaaDoor.word

theorem glue_list (l : List UInt8) (k : Nat) (hk : l[k]? = some 46) : l.take k ++ [46] ++ l.drop (k + 1) = l := by
  have hlt : k < l.length := by
    rcases Nat.lt_or_ge k l.length with h | h
    · exact h
    · rw [List.getElem?_eq_none h] at hk; cases hk
  have h46 : l[k] = 46 := by rw [List.getElem?_eq_getElem hlt] at hk; exact Option.some.inj hk
  conv => rhs; rw [← List.take_append_drop k l, List.drop_eq_getElem_cons hlt, h46]
  simp
theorem glue (s : ByteArray) (k : Nat) (hk : k < s.size) (h : (s[k]'hk).toNat = 46) : s.extract 0 k ++ (⟨#[46]⟩ : ByteArray) ++ s.extract (k + 1) s.size = s := by
  refine ByteArray.ext ?_
  rw [← Array.toList_inj]
  have hk' : s.data.toList[k]? = some 46 := by
    rw [Array.getElem?_toList, Array.getElem?_eq_getElem (by exact hk)]
    exact congrArg some (UInt8.toNat_inj.1 h)
  have := glue_list s.data.toList k hk'
  simp only [ByteArray.data_append, ByteArray.data_extract, Array.toList_append, Array.toList_extract]
  refine Eq.trans ?_ this
  have hn : s.data.toList.length = s.size := by rw [Array.length_toList]; rfl
  have h2 : List.take (s.size - (k + 1)) (List.drop (k + 1) s.data.toList) = List.drop (k + 1) s.data.toList := List.take_of_length_le (by rw [List.length_drop]; omega)
  rw [← h2]
  congr 1
theorem split_glue {s a b : ByteArray} (h : splitB s = (a, b, true)) : a ++ (⟨#[46]⟩ : ByteArray) ++ b = s := by
  rcases Lib.lastIdx_spec s 46 s.size with ⟨h1, _⟩ | ⟨k, hk, h1, hc, _⟩
  · rw [splitB_none h1] at h; cases h
  · rw [splitB_at h1] at h
    unfold partsB at h
    split at h
    · cases h
      rw [Go.Proofs.LastIndex.byteBang s k hk] at hc
      exact glue s k hk (by omega)
    · cases h

set_option maxRecDepth 100000 in
set_option maxHeartbeats 1600000 in
theorem walk (s : ByteArray) (w : World) (hs : s.size ≤ 140737488351232) (tab : Tabs w) :
    Calls Tryd.prog 8 #[.string s] w fun e w' => e = .returned (.bool true) ∧ Below w.heap.size w w' := by
  have HT := Lib.hid tab
  have H1 := Lib.hid (split_w s w (by omega))
  have H2 := Lib.hid (fun w => split_r s w (by omega))
  have HN := Lib.hid (fun w => name_w s w (by omega))
  have HM := Lib.hid (fun w => name_r s w (by omega))
  have HC := Lib.hid (fun w => class_name s w (by omega))
  have HD := Lib.hid (fun w => class_r s w (by omega))
  have HG := Lib.hid (fun a b (h : splitB s = (a, b, true)) => split_glue h)
  have hsI : (s.size : Int) ≤ 140737488351232 := by omega
  generalize nameB s = n1 at HN HM
  generalize namedB classB s = n2 at HC HD
  obtain ⟨a, b, ok, hsp⟩ : ∃ a b ok, splitB s = (a, b, ok) := ⟨_, _, _, rfl⟩
  rw [hsp] at H1 H2
  have HG2 := Lib.hid (fun (h : ok = true) => HG.out a b (by rw [hsp, h]))
  dsimp only [tripleV] at H1 H2
  clear tab hs HG hsp
  have e1 : (n1 == n1) = true := by simp
  have e2 : (n2 == n2) = true := by simp
  have e3 : (a.toList == a.toList) = true := by simp
  have e4 : (b.toList == b.toList) = true := by simp
  have e5 : (ok == ok) = true := by simp
  go_enter Tryd.func8, Tryd.ntmps8
  go_wp2_with fail
  refine H1.out.mono ?_
  rintro e w1 ⟨rfl, q1, rfl⟩
  go_wp2_with fail
  refine (H2.out _).mono ?_
  rintro e w2 ⟨rfl, q2, rfl⟩
  go_wp2_with fail
  refine (live4.live_any (w.drewN (q1 + q2)) ⟨HT.out.pow, HT.out.room, HT.out.pin, HT.out.len⟩).mono ?_
  rintro e w3 ⟨rfl, hb3⟩
  have HB := Lib.hid (under hb3)
  clear hb3 H1 H2
  go_wp2_with fail
  refine (HN.out _).mono ?_
  rintro e w4 ⟨rfl, rfl⟩
  go_wp2_with fail
  refine (HM.out _).mono ?_
  rintro e w5 ⟨rfl, rfl⟩
  go_wp2_with fail
  refine (HC.out _).mono ?_
  rintro e w6 ⟨rfl, rfl⟩
  go_wp2_with fail
  refine (HD.out _).mono ?_
  rintro e w7 ⟨rfl, rfl⟩
  clear HN HM HC HD
  cases ok with
  | false =>
    clear HG2
    go_wp2
    trace_state
    go_ret
    exact ⟨rfl, HB.out⟩
  | true =>
    have hg := HG2.out rfl
    have hsz : a.size + 1 + b.size = s.size := by rw [← hg, ByteArray.size_append, ByteArray.size_append]; rfl
    have hszI : (a.size : Int) + 1 + (b.size : Int) = (s.size : Int) := by omega
    have hz1 : ¬ 9223372036854775807 < a.size + 1 := by omega
    have hz2 : ¬ 9223372036854775807 < a.size + 1 + b.size := by omega
    have hg2 : ((a ++ (⟨#[46]⟩ : ByteArray) ++ b).toList == s.toList) = true := by rw [hg]; simp
    clear HG2
    go_wp2
    trace_state
    go_ret
    exact ⟨rfl, HB.out⟩
end Go.Proofs.YtbapalgikfllkaaDoor.wordNames

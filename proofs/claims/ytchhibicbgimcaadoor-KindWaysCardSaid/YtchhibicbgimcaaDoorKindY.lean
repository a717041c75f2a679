/-
  Layer 6: pairs of which each name stands once on each side: the law's own list.
-/
import Derived.Test.YtchhibicbgimcaaDoorKindDescsW
namespace Go.Proofs.YtchhibicbgimcaaDoor.kind
open Go.RowKit
open Go.Proofs.YtchhibicbgimcaaDoor.words Go.Proofs.YtchhibicbgimcaaDoor.kindp Go.Proofs.YtchhibicbgimcaaDoor.word Go.Proofs.YtchhibicbgimcaaDoor.rdr

/-- no pair of those has one of its names -/
def freeB (q x : Pr) : Bool := x.1 != q.1 && x.2 != q.2
theorem one_snoc {L : List Pr} {q : Pr} (h : kindp.One L) (hf : L.all (freeB q) = true) : kindp.One (L ++ [q]) := by
  unfold kindp.One at h ⊢
  rw [List.pairwise_append]
  refine ⟨h, by simp, fun a ha b hb => ?_⟩
  rw [List.mem_singleton] at hb
  subst hb
  have := List.all_eq_true.1 hf a ha
  unfold freeB at this
  simpa using this
theorem all_step {L : List Pr} {q x : Pr} {k : Nat} (h : L[k]? = some x) : (L.take (k + 1)).all (freeB q) = ((L.take k).all (freeB q) && freeB q x) := by
  rw [List.take_add_one, h, List.all_append]; simp
set_option maxRecDepth 100000 in
theorem infoP : (Tryd.prog.info? 51).map (fun i => (i.zero, i.size, i.bytes)) = some (some (.agg #[.string ⟨#[]⟩, .string ⟨#[]⟩]), 2, 32) := by kernel_rfl
/-- some pairs of those, one to one -/
def CleanW (l : List Pr) (w : World) (e : Ending) (w' : World) : Prop :=
  (∃ (L : List Pr) (A : Option Addr) (c : Nat), e = .returned (.slice A L.length c) ∧ kindp.One L ∧ L.length ≤ 20 ∧ (∀ q ∈ L, q ∈ l) ∧ Rd w' A (PL L)) ∧ Below w.heap.size w w'

set_option maxRecDepth 100000 in
set_option maxHeartbeats 4000000 in
theorem clean_w (B : Option Addr) (bc : Nat) (l : List Pr) (w : World) (hr : Rd w B (PL l)) (hl : l.length ≤ 281474976710656) :
    Calls Tryd.prog 31 #[.slice B l.length bc] w (CleanW l w) := by
  obtain ⟨n, hn⟩ : ∃ n, n = l.length := ⟨_, rfl⟩
  rw [← hn] at hl ⊢
  have hnI : (n : Int) ≤ 281474976710656 := by omega
  obtain ⟨i0, hi0, hz0, hz1, hz2⟩ := info_parts infoP
  have HR := Lib.hid hr; have HN := Lib.hid hn
  clear hr hl hn
  go_enter Tryd.func31, Tryd.ntmps31
  go_wp2
  go_loopw [3, 4] (fun v i wr => ∃ (j : Nat) (L : List Pr), i = .int .i64 (j : Int) ∧ j ≤ n ∧ j ≤ 20 ∧ L.length ≤ j ∧ kindp.One L ∧ (∀ q ∈ L, q ∈ l) ∧ wr.ownsRow w.heap.size 51 2 v L.length (PL L) ∧ Below w.heap.size w wr) (fun _ i _ => n - (intOf i).toNat)
  case atStart => exact ⟨0, [], rfl, Nat.zero_le _, Nat.zero_le _, Nat.le_refl _, List.Pairwise.nil, by simp, World.ownsRow_nil _ _ _ _, Below.refl _ _⟩
  case round =>
    obtain ⟨j, L, rfl, hj, hj20, hLj, hone, hmem, hown, hbw⟩ := hrel
    obtain ⟨A, cc, rfl, _, _, hrdL⟩ := own_rd hown
    have HO := Lib.hid hown; have HB := Lib.hid hbw; have HONE := Lib.hid hone; have HME := Lib.hid hmem
    have hsz := hbw.size
    by_cases hlt : j < n
    · have hltI : (j : Int) < (n : Int) := by omega
      by_cases h20 : j < 20
      · have h20I : (j : Int) < 20 := by omega
        obtain ⟨⟨qo, qn⟩, hx⟩ : ∃ x, l[j]? = some x := ⟨l[j]'(by rw [← HN.out]; exact hlt), List.getElem?_eq_getElem _⟩
        obtain ⟨b, rfl, hb, b0, b1⟩ := pl_cell (HR.out.below hbw) hx
        dsimp only at b0 b1
        have HX := Lib.hid hx; have HRL := Lib.hid hrdL
        have hLI : (L.length : Int) ≤ 20 := by omega
        clear hown hbw hone hmem hx hrdL
        go_wp2
        go_loopw [5, 6] (fun okv kv w5 => ∃ k : Nat, kv = .int .i64 (k : Int) ∧ k ≤ L.length ∧ okv = .bool ((L.take k).all (freeB (qo, qn))) ∧ ∃ r, w5 = wr.drewN r) (fun _ kv _ => L.length - (intOf kv).toNat)
        case atStart => exact ⟨0, rfl, Nat.zero_le _, rfl, 0, rfl⟩
        case round =>
          obtain ⟨k, rfl, hk, rfl, r, rfl⟩ := hrel
          by_cases hkl : k < L.length
          · have hklI : (k : Int) < (L.length : Int) := by omega
            obtain ⟨⟨xo, xn⟩, hxk⟩ : ∃ x, L[k]? = some x := ⟨L[k]'hkl, List.getElem?_eq_getElem _⟩
            have hst := all_step (q := (qo, qn)) hxk
            obtain ⟨c, rfl, hc, c0, c1⟩ := pl_cell HRL.out hxk
            dsimp only at c0 c1
            obtain ⟨bk, hbk⟩ : ∃ bk, bk = (L.take k).all (freeB (qo, qn)) := ⟨_, rfl⟩
            rw [← hbk] at hst ⊢
            have HST := Lib.hid hst
            clear hst hbk hxk hc hb
            cases bk with
            | false =>
              go_wp2
              go_quiet (fail)
              go_wp2
              go_roundw
              case rel => exact ⟨k + 1, by go_num, by omega, by rw [HST.out]; rfl, _, rfl⟩
              case measure => simp [intOf]; omega
            | true =>
              by_cases e1 : xo = qo
              · subst e1
                have f1 : (xo == xo) = true := by simp
                have f2 : (xo != xo) = false := by simp
                go_wp2
                go_quiet (fail)
                go_wp2
                go_roundw
                case rel => exact ⟨k + 1, by go_num, by omega, by rw [HST.out]; simp [freeB], _, rfl⟩
                case measure => simp [intOf]; omega
              · have f1 : (xo == qo) = false := by simpa using e1
                have f2 : (xo != qo) = true := by simpa using e1
                go_wp2
                go_quiet (fail)
                go_wp2
                go_roundw
                case rel => exact ⟨k + 1, by go_num, by omega, by rw [HST.out]; unfold freeB; simp only [f2, Bool.true_and]; rfl, _, rfl⟩
                case measure => simp [intOf]; omega
          · have hklI : ¬ (k : Int) < (L.length : Int) := by omega
            obtain rfl : k = L.length := by omega
            rw [List.take_length]
            have hon := one_snoc (q := (qo, qn)) HONE.out
            have hmm : ∀ q ∈ L ++ [(qo, qn)], q ∈ l := by
              intro q hq
              rw [List.mem_append, List.mem_singleton] at hq
              rcases hq with hq | rfl
              · exact HME.out q hq
              · exact List.mem_of_getElem? HX.out
            obtain ⟨bk, hbk⟩ : ∃ bk, bk = L.all (freeB (qo, qn)) := ⟨_, rfl⟩
            rw [← hbk] at hon ⊢
            have HON := Lib.hid hon; have HMM := Lib.hid hmm
            clear hon hmm hbk hb
            cases bk with
            | false =>
              go_wp2
              go_roundw
              case rel => exact ⟨j + 1, L, by go_num, by omega, by omega, by omega, HONE.out, HME.out, HO.out, over HB.out⟩
              case measure => simp [intOf]; omega
            | true =>
              have hod : (wr.drewN r).ownsRow w.heap.size 51 2 (.slice A L.length cc) L.length (PL L) := HO.out
              have HO4 := Lib.hid (hod.alloc (.cells #[.string ⟨qo.toArray⟩, .string ⟨qn.toArray⟩] 51))
              have HB4 := Lib.hid ((over (q := r) HB.out).alloc hsz (.cells #[.string ⟨qo.toArray⟩, .string ⟨qn.toArray⟩] 51))
              have HRD := Lib.hid (rd_blk (heap_alloc_new (wr.drewN r) (.cells #[.string ⟨qo.toArray⟩, .string ⟨qn.toArray⟩] 51)) (show (#[(.string ⟨qo.toArray⟩ : Value), .string ⟨qn.toArray⟩] : Array Value).toList.take 2 = [.string ⟨qo.toArray⟩, .string ⟨qn.toArray⟩] from rfl))
              clear hod
              go_wp2_with (at_builtin; refine wpList_app _ rfl (.tmp 51) (.tmp 56) _ rfl w.heap.size 51 i0 _ 2 32 Tryd.underlying45 hi0 hz0 hz1 hz2 rfl (by omega) _ L.length (PL L) rfl HO4.out _ 1 1 [.string ⟨qo.toArray⟩, .string ⟨qn.toArray⟩] rfl rfl HRD.out (by simp [Value.oneCell']) (by simp only [maxLen]; omega) (by omega) HB4.out.size ?_; intro v7 w7 hown7 hg7 hb7 hat7; clear hat7 hg7; obtain ⟨A7, cc7, rfl, _, _, _⟩ := own_rd hown7)
              have hown8 : w7.ownsRow w.heap.size 51 2 (.slice A7 (L.length + 1) cc7) (L ++ [(qo, qn)]).length (PL (L ++ [(qo, qn)])) := by rw [List.length_append, PL_app]; exact hown7
              have HO8 := Lib.hid hown8
              have HB8 := Lib.hid (HB4.out.trans hb7)
              clear hown7 hb7 hown8
              go_roundw
              case rel => exact ⟨j + 1, L ++ [(qo, qn)], by go_num, by omega, by omega, by rw [List.length_append]; show L.length + 1 ≤ j + 1; omega, HON.out rfl, HMM.out, HO8.out, HB8.out⟩
              case measure => simp [intOf]; omega
      · have h20I : ¬ (j : Int) < 20 := by omega
        have HRL := Lib.hid hrdL
        clear hown hbw hone hmem hrdL
        go_wp2
        go_ret
        exact ⟨⟨L, A, cc, rfl, HONE.out, by omega, HME.out, HRL.out⟩, HB.out⟩
    · have hltI : ¬ (j : Int) < (n : Int) := by omega
      have HRL := Lib.hid hrdL
      clear hown hbw hone hmem hrdL
      go_wp2
      go_ret
      exact ⟨⟨L, A, cc, rfl, HONE.out, by omega, HME.out, HRL.out⟩, HB.out⟩
end Go.Proofs.YtchhibicbgimcaaDoor.kind

/-
  The walk of the law LebRises: two sizes, held against one another.
-/
import Derived.Test.YtnadjcmfmbjnnaaLive
namespace Go.Proofs.Ytnadjcmfmbjnnaa.lebRises
open Go.RowKit
open Go.Proofs.Ytnadjcmfmbjnnaa.num Go.Proofs.Ytnadjcmfmbjnnaa.words

set_option maxRecDepth 20000 in
set_option maxHeartbeats 800000 in
theorem walk (a b : Int) (w : World) (a1 : 0 ≤ a) (a2 : a ≤ 18446744073709551615) (b1 : 0 ≤ b) (b2 : b ≤ 18446744073709551615) :
    Calls Try.prog 7 #[.int .u64 a, .int .u64 b] w fun e w' => e = .returned (.bool true) ∧ Below w.heap.size w w' := by
  have hp := putL_pos a.toNat
  have hp' := putL_len10 a.toNat (by omega)
  have hab : a ≤ b → (putL a.toNat).length ≤ (putL b.toNat).length := fun h => putL_mono _ _ (by omega)
  have hba : b ≤ a → (putL b.toNat).length ≤ (putL a.toNat).length := fun h => putL_mono _ _ (by omega)
  go_enter Try.func7, Try.ntmps7
  go_wp2_with fail
  refine (small.size_any a _ a1 a2).mono ?_
  rintro e w' ⟨rfl, rfl⟩
  generalize (putL a.toNat).length = n at *
  go_wp2_with fail
  refine (small.size_any b _ b1 b2).mono ?_
  rintro e w' ⟨rfl, rfl⟩
  generalize (putL b.toNat).length = m at *
  go_wp2_with fail
  refine (live.live_any _).mono ?_
  rintro e w' ⟨rfl, hb⟩
  rcases Int.lt_trichotomy a b with h | h | h
  · have hnm := hab (by omega)
    clear hab hba
    go_wp2
    go_ret
    exact ⟨rfl, hb⟩
  · have hnm := hab (by omega)
    have hmn := hba (by omega)
    clear hab hba
    subst h
    go_wp2
    go_ret
    exact ⟨rfl, hb⟩
  · have hmn := hba (by omega)
    clear hab hba
    go_wp2
    go_ret
    exact ⟨rfl, hb⟩
end Go.Proofs.Ytnadjcmfmbjnnaa.lebRises

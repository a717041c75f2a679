/- Keep -/
import Derived.Test.YtgociheckcpjkaaGreatDoorKind
import Derived.Laws.OwnMore
namespace Go.Proofs.YtgociheckcpjkaaGreatDoor.keep
open Go.RowKit
open words
theorem own_some {w : World} {b : Nat} {e size : Nat} {A : Option Addr} {n c : Nat} {xs : List Value} (h : w.ownsRow b e size (.slice A n c) n xs) (hn : 0 < n) : ∃ g, A = some ⟨g, 0, none⟩ ∧ b ≤ g ∧ g < w.heap.size := by
 rcases h.2 with ⟨h', h0⟩ | ⟨g', cap', cur, h', hbg, hg, _⟩
 ·omega
 ·simp only [Value.slice.injEq] at h'
  exact ⟨g', h'.1, hbg, blk_lt hg⟩
end Go.Proofs.YtgociheckcpjkaaGreatDoor.keep

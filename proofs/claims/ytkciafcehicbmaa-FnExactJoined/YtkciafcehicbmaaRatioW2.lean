/- The walks of commonDivisor, bounded, right, RatioOk and reducible, each by what it answers. -/
import Derived.Test.YtkciafcehicbmaaRatioW1
namespace Go.Proofs.Ytkciafcehicbmaa
open Go.RowKit Go.Proofs.Ytkciafcehicbmaa.RM

theorem drew_more {w wr : World} (h : ∃ n, wr = w.drewN n) (k : Nat) : ∃ n, wr.drewN k = w.drewN n := by
  obtain ⟨n, hn⟩ := h; exact ⟨n + k, by rw [hn, World.drewN_drewN]⟩

end Go.Proofs.Ytkciafcehicbmaa

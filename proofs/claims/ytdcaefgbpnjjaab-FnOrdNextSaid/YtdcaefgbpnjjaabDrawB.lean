/- A code, later. -/
import Derived.Test.YtdcaefgbpnjjaabDraw2
namespace Go.Proofs.Ytdcaefgbpnjjaab
open Go.RowKit

theorem By.below {w w' : World} {a : Option Addr} {len cap : Nat} (h : By w a len cap) (hb : Below w.heap.size w w') : By w' a len cap := by
  refine ⟨h.1, h.2.1, fun hp => ?_⟩
  obtain ⟨b, off, h1, h2, h3⟩ := h.2.2 hp
  refine ⟨b, off, h1, Nat.lt_of_lt_of_le h2 hb.size, fun j hj => ?_⟩
  obtain ⟨v, h4, h5⟩ := h3 j hj
  exact ⟨v, h4, (hb.cell (p := ⟨b, off + j, none⟩) h2).trans h5⟩

end Go.Proofs.Ytdcaefgbpnjjaab

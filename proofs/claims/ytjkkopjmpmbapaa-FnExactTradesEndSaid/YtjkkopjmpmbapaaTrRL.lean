/- What the exact laws of several slices share. -/
import Derived.Test.YtjkkopjmpmbapaaTrT
namespace Go.Proofs.Ytjkkopjmpmbapaa
set_option maxRecDepth 100000
open Go.RowKit

theorem szTs_bl {ts : List Tr} {m : Nat} (h : szTs ts ≤ m) : ∀ t ∈ ts, t.take.length ≤ m ∧ t.give.length ≤ m := fun _ ht => by have := szTs_mem ht; omega

theorem TsCopy.sl {B U : Nat} {w : World} {g n : Nat} {ts : List Tr} (h : TsCopy B U w (.slice (some ⟨g, 0, none⟩) n n) n ts) : SlT w (some ⟨g, 0, none⟩) n n ts := by
  obtain ⟨g', e, hs⟩ := h.parts
  cases e
  exact hs

end Go.Proofs.Ytjkkopjmpmbapaa

/- What the exact laws of several slices share. -/
import Derived.Test.YtfigkfcdfmoihaaDoorTrT
namespace Go.Proofs.YtfigkfcdfmoihaaDoor
set_option maxRecDepth 100000
open Go.RowKit

theorem szTs_bl {ts : List Tr} {m : Nat} (h : szTs ts ≤ m) : ∀ t ∈ ts, t.take.length ≤ m ∧ t.give.length ≤ m := fun _ ht => by have := szTs_mem ht; omega

end Go.Proofs.YtfigkfcdfmoihaaDoor

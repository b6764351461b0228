/- Exchanges in memory: which rules and heaps are valid, by the program and by the model. -/
import Derived.Test.YtdcgcohfbcdnnaaTrM
import Derived.Deep.LoopGhost
namespace Go.Proofs.Ytdcgcohfbcdnnaa
set_option maxRecDepth 100000
open Go.RowKit





end Go.Proofs.Ytdcgcohfbcdnnaa

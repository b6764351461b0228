/- Exchanges in memory: which rules and heaps are valid, by the program and by the model. -/
import Derived.Test.YtfigkfcdfmoihaaDoorTrM
import Derived.Deep.LoopGhost
namespace Go.Proofs.YtfigkfcdfmoihaaDoor
set_option maxRecDepth 100000
open Go.RowKit





end Go.Proofs.YtfigkfcdfmoihaaDoor

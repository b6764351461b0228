/- The model's OrdAdd. -/
import Derived.Test.YtgcdbndnpcfcnaaAddS
import Derived.Test.YtgcdbndnpcfcnaaAddJ
namespace Go.Proofs.Ytgcdbndnpcfcnaa
set_option maxRecDepth 100000
open Go.RowKit


end Go.Proofs.Ytgcdbndnpcfcnaa

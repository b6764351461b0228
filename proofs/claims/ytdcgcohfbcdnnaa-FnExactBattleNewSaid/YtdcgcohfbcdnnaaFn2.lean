/- OrdNumber and OrdKind: the program's and the model's answers. -/
import Derived.Test.YtdcgcohfbcdnnaaFn1
namespace Go.Proofs.Ytdcgcohfbcdnnaa
set_option maxRecDepth 100000
open Go.RowKit

theorem T.num_one (n : Int) (r : T) : (T.c n .z r).num = n := rfl
theorem T.num_more (n m : Int) (e f r : T) : (T.c n (.c m e f) r).num = -1 := rfl

end Go.Proofs.Ytdcgcohfbcdnnaa

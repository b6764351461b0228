/- FnExactOrdOf: the walk of the law. -/
import Derived.Test.YtdhpnfgpkojpgaaFn1
import Derived.Test.YtdhpnfgpkojpgaaMark
namespace Go.Proofs.Ytdhpnfgpkojpgaa
open Go.RowKit

theorem bnd {a : Int} (h : (Lit.int .i64 a).wf = true) : -9223372036854775808 ≤ a ∧ a ≤ 9223372036854775807 := by
  simpa [Lit.wf, IntKind.min, IntKind.max, IntKind.signed, IntKind.bits] using h

theorem num'_len (n : Int) : (T.num' n).length ≤ 3 := by
  unfold T.num'
  split
  · simp
  · split <;> simp

end Go.Proofs.Ytdhpnfgpkojpgaa

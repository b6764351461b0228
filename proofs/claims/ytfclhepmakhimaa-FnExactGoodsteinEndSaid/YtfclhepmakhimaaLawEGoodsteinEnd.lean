/- FnExactGoodsteinEnd: the walk of the law. -/
import Derived.Test.YtfclhepmakhimaaBaseV
import Derived.Test.YtfclhepmakhimaaMark
namespace Go.Proofs.Ytfclhepmakhimaa
set_option maxRecDepth 100000
open Go.RowKit

theorem bnd {a : Int} (h : (Lit.int .i64 a).wf = true) : -9223372036854775808 ≤ a ∧ a ≤ 9223372036854775807 := by
  simpa [Lit.wf, IntKind.min, IntKind.max, IntKind.signed, IntKind.bits] using h

set_option maxHeartbeats 1000000 in
theorem exactGoodsteinEnd_walk (N : Int) (w : World) (hN0 : -9223372036854775808 ≤ N) (hN1 : N ≤ 9223372036854775807) :
    Calls Try.prog 6 #[.int .i64 N] w fun e w' => e = .returned (.bool true) ∧ Below w.heap.size w w' := by
  obtain ⟨r, hr⟩ : ∃ r, r = T.goodEnd N := ⟨_, rfl⟩
  have hne : (r != r) = false := by simp
  have k1 := Lib.hid (spec_GoodsteinEnd N w hN0 hN1)
  have k2 := Lib.hid (fun w => impl_GoodsteinEnd N w hN0 hN1)
  rw [← hr] at k1 k2
  clear hr
  go_enter Try.func6, Try.ntmps6
  go_wp2_with fail
  refine (k1.out).mono ?_
  rintro ee w1 ⟨rfl, hb1⟩
  have Hb1 := Lib.hid hb1
  clear hb1
  go_wp2_with fail
  refine (k2.out _).mono ?_
  rintro ee w2 ⟨rfl, hb2⟩
  have Hb2 := Lib.hid (Hb1.out.trans (hb2.mono Hb1.out.size))
  clear hb2
  go_wp2_with fail
  go_ret
  exact ⟨rfl, Hb2.out⟩

end Go.Proofs.Ytfclhepmakhimaa

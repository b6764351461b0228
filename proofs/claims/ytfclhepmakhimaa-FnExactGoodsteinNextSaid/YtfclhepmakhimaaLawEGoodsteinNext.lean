/- FnExactGoodsteinNext: the walk of the law. -/
import Derived.Test.YtfclhepmakhimaaBaseV
import Derived.Test.YtfclhepmakhimaaMark
namespace Go.Proofs.Ytfclhepmakhimaa
set_option maxRecDepth 100000
open Go.RowKit

theorem bnd {a : Int} (h : (Lit.int .i64 a).wf = true) : -9223372036854775808 ≤ a ∧ a ≤ 9223372036854775807 := by
  simpa [Lit.wf, IntKind.min, IntKind.max, IntKind.signed, IntKind.bits] using h

set_option maxHeartbeats 1000000 in
theorem exactGoodsteinNext_walk (N : Int) (B : Int) (w : World) (hN0 : -9223372036854775808 ≤ N) (hN1 : N ≤ 9223372036854775807) (hB0 : -9223372036854775808 ≤ B) (hB1 : B ≤ 9223372036854775807) :
    Calls Try.prog 4 #[.int .i64 N, .int .i64 B] w fun e w' => e = .returned (.bool true) ∧ Below w.heap.size w w' := by
  obtain ⟨r, hr⟩ : ∃ r, r = T.goodI N B := ⟨_, rfl⟩
  have hne : (r != r) = false := by simp
  have k1 := Lib.hid (spec_GoodsteinNext N B w hN0 hN1 hB0 hB1)
  have k2 := Lib.hid (fun w => impl_GoodsteinNext N B w hN0 hN1 hB0 hB1)
  rw [← hr] at k1 k2
  clear hr
  go_enter Try.func4, Try.ntmps4
  go_wp2_with fail
  refine (k1.out).mono ?_
  rintro ee w1 ⟨rfl, hb1⟩
  have Hb1 := Lib.hid hb1
  clear hb1
  go_wp2_with fail
  refine (k2.out _).mono ?_
  rintro ee w2 ⟨rfl, hb2⟩
  have Hb2 := Lib.hid (Hb1.out.trans (hb2.mono Hb1.out.size))
  clear hb2
  go_wp2_with fail
  go_ret
  exact ⟨rfl, Hb2.out⟩

end Go.Proofs.Ytfclhepmakhimaa

/- FnExactIterate: the walk of the law. -/
import Derived.Test.YtbhifmjpaageeaaIterI
import Derived.Test.YtbhifmjpaageeaaIterS
namespace Go.Proofs.Ytbhifmjpaageeaa
set_option maxRecDepth 100000
open Go.RowKit

theorem bnd {a : Int} (h : (Lit.int .i64 a).wf = true) : -9223372036854775808 ≤ a ∧ a ≤ 9223372036854775807 := by
  simpa [Lit.wf, IntKind.min, IntKind.max, IntKind.signed, IntKind.bits] using h

theorem exactIterate_walk (l n : Int) (w : World) (hl0 : -9223372036854775808 ≤ l) (hl1 : l ≤ 9223372036854775807) (hn0 : -9223372036854775808 ≤ n) (hn1 : n ≤ 9223372036854775807) :
    Calls Try.prog 4 #[.int .i64 l, .int .i64 n] w fun e w' => e = .returned (.bool true) ∧ Below w.heap.size w w' := by
  have k1 := Lib.hid (spec_Iterate l n w hl0 hl1 hn0 hn1)
  have k2 := Lib.hid (impl_Iterate l n w hl0 hl1 hn0 hn1)
  obtain ⟨r, hr⟩ : ∃ r, r = T.iterRes l n := ⟨_, rfl⟩
  rw [← hr] at k1 k2
  have he : (r != r) = false := by simp
  clear hl0 hl1 hn0 hn1 hr
  go_enter Try.func4, Try.ntmps4
  go_wp2_with fail
  refine (k1.out).mono ?_
  rintro ee wx ⟨rfl, rfl⟩
  go_wp2_with fail
  refine (k2.out).mono ?_
  rintro ee w2 ⟨rfl, hb2⟩
  have Hb2 := Lib.hid hb2
  clear hb2
  go_wp2_with fail
  go_ret
  exact ⟨rfl, Hb2.out⟩
end Go.Proofs.Ytbhifmjpaageeaa

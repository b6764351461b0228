/- FnExactGoodsteinRun: the walk of the law. -/
import Derived.Test.YtfclhepmakhimaaBaseV
import Derived.Test.YtfclhepmakhimaaMark
namespace Go.Proofs.Ytfclhepmakhimaa
set_option maxRecDepth 100000
open Go.RowKit

theorem bnd {a : Int} (h : (Lit.int .i64 a).wf = true) : -9223372036854775808 ≤ a ∧ a ≤ 9223372036854775807 := by
  simpa [Lit.wf, IntKind.min, IntKind.max, IntKind.signed, IntKind.bits] using h

set_option maxHeartbeats 1000000 in
theorem exactGoodsteinRun_walk (N : Int) (w : World) (hN0 : -9223372036854775808 ≤ N) (hN1 : N ≤ 9223372036854775807) :
    Calls Try.prog 5 #[.int .i64 N] w fun e w' => e = .returned (.bool true) ∧ Below w.heap.size w w' := by
  obtain ⟨r, hr⟩ : ∃ r, r = T.goodRun N := ⟨_, rfl⟩
  have hrl : r.length ≤ 1000 := by rw [hr]; exact T.goodRun_len N
  have k1 := Lib.hid (spec_GoodsteinRun N w hN0 hN1)
  have k2 := Lib.hid (fun w => impl_GoodsteinRun N w hN0 hN1)
  unfold IntPost at k1 k2
  rw [← hr] at k1 k2
  clear hr
  go_enter Try.func5, Try.ntmps5
  go_wp2_with fail
  refine (k1.out).mono ?_
  rintro ee w1 ⟨a1, c1, rfl, ho1, hb1⟩
  have Ho1 := Lib.hid ho1
  have Hb1 := Lib.hid hb1
  clear ho1 hb1
  go_wp2_with fail
  refine (k2.out _).mono ?_
  rintro ee w2 ⟨a2, c2, rfl, ho2, hb2⟩
  have Ho2 := Lib.hid ho2
  have Hb2 := Lib.hid hb2
  have k3 := Lib.hid (eqIntS_any _ _ r.length c2 r.length c1 r r w2 (by omega) (Sl.of_own ho2) (Sl.of_own (ownsRow_below' Ho1.out hb2)))
  clear ho2 hb2
  go_wp2_with fail
  refine (k3.out).mono ?_
  rintro ee w3 ⟨rfl, hb3⟩
  rw [eqB_refl]
  have Ho2b := Lib.hid (ownsRow_below' Ho2.out hb3)
  have Hb3 := Lib.hid (Hb2.out.trans (hb3.mono Hb2.out.size))
  have k4 := Lib.hid (markIntS_any w1.heap.size a2 r.length c2 r 1 w3 (by omega) (by omega) (by omega) Ho2b.out)
  clear hb3
  go_wp2_with fail
  refine (k4.out).mono ?_
  rintro ee w4 ⟨rfl, ho4, hb4, _⟩
  have Ho4 := Lib.hid ho4
  have Hb4 := Lib.hid (Hb3.out.trans hb4)
  have k5 := Lib.hid (heldIntS_any a2 r.length c2 1 w4 (by omega) (by omega) (by omega) (by have := Sl.of_own (xs := marks 1 r.length) ho4; exact this))
  have hge : ¬ ((1 : Int) + r.length < 0) := by omega
  have hne : (((1 : Int) + r.length) != ((1 : Int) + r.length)) = false := by simp
  clear ho4 hb4
  go_wp2_with fail
  refine (k5.out).mono ?_
  rintro ee w5 ⟨rfl, hb5⟩
  have Ho5 := Lib.hid (ownsRow_below' Ho4.out hb5)
  have Hb5 := Lib.hid (Hb4.out.trans (hb5.mono Hb4.out.size))
  clear hb5
  go_wp2_with fail
  refine (k2.out _).mono ?_
  rintro ee w6 ⟨a3, c3, rfl, ho6, hb6⟩
  have Ho6 := Lib.hid (ownsRow_below' Ho5.out hb6)
  have Hb6 := Lib.hid (Hb5.out.trans (hb6.mono Hb5.out.size))
  have k6 := Lib.hid (eqIntS_any _ _ r.length c3 r.length c1 r r w6 (by omega) (Sl.of_own ho6) (Sl.of_own (ownsRow_below' Ho1.out Hb6.out)))
  clear ho6 hb6
  go_wp2_with fail
  refine (k6.out).mono ?_
  rintro ee w7 ⟨rfl, hb7⟩
  rw [eqB_refl]
  have Ho7 := Lib.hid (ownsRow_below' Ho6.out hb7)
  have Hb7 := Lib.hid (Hb6.out.trans (hb7.mono Hb6.out.size))
  have k7 := Lib.hid (heldIntS_any a2 r.length c2 1 w7 (by omega) (by omega) (by omega) (by have := Sl.of_own (xs := marks 1 r.length) Ho7.out; exact this))
  clear hb7
  go_wp2_with fail
  refine (k7.out).mono ?_
  rintro ee w8 ⟨rfl, hb8⟩
  have Hb8 := Lib.hid (Hb7.out.trans (hb8.mono Hb7.out.size))
  clear hb8
  go_wp2_with fail
  go_ret
  exact ⟨rfl, Hb1.out.trans (Hb8.out.mono Hb1.out.size)⟩

end Go.Proofs.Ytfclhepmakhimaa

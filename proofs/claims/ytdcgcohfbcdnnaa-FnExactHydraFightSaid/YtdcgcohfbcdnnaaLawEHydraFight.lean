/- FnExactHydraFight: the walk of the law. -/
import Derived.Test.YtdcgcohfbcdnnaaHydW
import Derived.Test.YtdcgcohfbcdnnaaMark
namespace Go.Proofs.Ytdcgcohfbcdnnaa
set_option maxRecDepth 100000
open Go.RowKit

theorem bnd {a : Int} (h : (Lit.int .i64 a).wf = true) : -9223372036854775808 ≤ a ∧ a ≤ 9223372036854775807 := by
  simpa [Lit.wf, IntKind.min, IntKind.max, IntKind.signed, IntKind.bits] using h

theorem exactHydraFight_walk (ao : Option Addr) (len cap : Nat) (xs : List Int) (V : Int) (w : World) (h : Sl w ao len cap xs) :
    Calls Try.prog 5 #[.slice ao len cap, .int .i64 V] w fun e w' => e = .returned (.bool true) ∧ Below w.heap.size w w' := by
  by_cases h20 : len ≤ 1048576
  · have h12 : len ≤ 1000000000000 := by omega
    have HH := Lib.hid h
    obtain ⟨R0, hR0⟩ : ∃ r, r = H.fightRow xs V := ⟨_, rfl⟩
    have hne0 : (R0 != R0) = false := by simp
    have HR0 := Lib.hid hR0
    clear h
    have kS := Lib.hid (fun ao cap w hs => spec_HydraFight ao len cap xs V w hs)
    have kI := Lib.hid (fun ao cap w hs => impl_HydraFight ao len cap xs V w hs)
    rw [← hR0] at kS kI
    clear hR0
    have k1 := Lib.hid (toIntS_any ao len cap xs w h12 HH.out)
    go_enter Try.func5, Try.ntmps5
    go_wp2_with fail
    refine (k1.out).mono ?_
    rintro ee w1 ⟨rfl, ho1, hb1⟩
    have k2 := Lib.hid (kS.out _ len w1 (Sl.of_own ho1))
    have Hb1 := Lib.hid hb1
    clear ho1 hb1
    go_wp2_with fail
    refine (k2.out).mono ?_
    rintro ee w2 ⟨rfl, hb2⟩
    have Hb2 := Lib.hid (Hb1.out.trans (hb2.mono Hb1.out.size))
    have k3 := Lib.hid (toIntS_any ao len cap xs w2 h12 (HH.out.below Hb2.out))
    clear hb2
    go_wp2_with fail
    refine (k3.out).mono ?_
    rintro ee w3 ⟨rfl, ho3, hb3⟩
    have Hb3 := Lib.hid (Hb2.out.trans (hb3.mono Hb2.out.size))
    have k4 := Lib.hid (kI.out _ len w3 (Sl.of_own ho3))
    have Ho3 := Lib.hid ho3
    clear hb3 ho3
    go_wp2_with fail
    refine (k4.out).mono ?_
    rintro ee w4 ⟨rfl, hb4⟩
    have Hb4 := Lib.hid (Hb3.out.trans (hb4.mono Hb3.out.size))
    have Ho4 := Lib.hid (ownsRow_below' Ho3.out hb4)
    have k5 := Lib.hid (toIntS_any ao len cap xs w4 h12 (HH.out.below Hb4.out))
    clear hb4
    go_wp2_with fail
    refine (k5.out).mono ?_
    rintro ee w5 ⟨rfl, ho5, hb5⟩
    have Hb5 := Lib.hid (Hb4.out.trans (hb5.mono Hb4.out.size))
    have k6 := Lib.hid (eqIntS_any _ _ len len len len xs xs w5 h12 (Sl.of_own (ownsRow_below' Ho4.out hb5)) (Sl.of_own ho5))
    clear hb5 ho5
    go_wp2_with fail
    refine (k6.out).mono ?_
    rintro ee w6 ⟨rfl, hb6⟩
    have Hb6 := Lib.hid (Hb5.out.trans (hb6.mono Hb5.out.size))
    rw [eqB_refl]
    clear hb6
    go_wp2_with fail
    go_ret
    exact ⟨rfl, Hb6.out⟩
  · have hgt : (1048576 : Int) < len := by omega
    go_enter Try.func5, Try.ntmps5
    go_wp2_with fail
    go_ret
    exact ⟨rfl, Below.refl _ _⟩

end Go.Proofs.Ytdcgcohfbcdnnaa

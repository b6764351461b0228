/- FnExactCircleOk: the walk of the law. -/
import Derived.Test.YtgkgjacjcenekaaRelO
namespace Go.Proofs.Ytgkgjacjcenekaa
set_option maxRecDepth 100000
open Go.RowKit

set_option maxHeartbeats 1000000 in
theorem exactCircleOk_walk (a1 : Option Addr) (n1 c1 : Nat) (xs : List Int) (a2 : Option Addr) (n2 c2 : Nat) (ys : List Int) (w : World) (h : Sl w a1 n1 c1 xs) (h' : Sl w a2 n2 c2 ys) :
    Calls Try.prog 7 #[.slice a1 n1 c1, .slice a2 n2 c2] w fun e w' => e = .returned (.bool true) ∧ Below w.heap.size w w' := by
  by_cases h20 : n1 ≤ 1048576
  · by_cases h21 : n2 ≤ 1048576
    · have h12 : n1 ≤ 1000000000000 := by omega
      have h13 : n2 ≤ 1000000000000 := by omega
      have H := Lib.hid h
      have H' := Lib.hid h'
      clear h h'
      have k1 := Lib.hid (toIntS_any a1 n1 c1 xs w h12 H.out)
      go_enter Try.func7, Try.ntmps7
      go_wp2_with fail
      refine (k1.out).mono ?_
      rintro ee w1 ⟨rfl, ho1, hb1⟩
      have k1' := Lib.hid (toIntS_any a2 n2 c2 ys w1 h13 (H'.out.below hb1))
      have Ho1 := Lib.hid ho1
      have Hb1 := Lib.hid hb1
      clear ho1 hb1
      go_wp2_with fail
      refine (k1'.out).mono ?_
      rintro ee w1' ⟨rfl, ho1', hb1'⟩
      have Hb1' := Lib.hid (Hb1.out.trans (hb1'.mono Hb1.out.size))
      have k2 := Lib.hid (spec_CircleOk _ _ n1 n1 n2 n2 xs ys w1' (Sl.of_own (ownsRow_below' Ho1.out hb1')) (Sl.of_own ho1') h21 h20)
      clear ho1' hb1'
      go_wp2_with fail
      refine (k2.out).mono ?_
      rintro ee w2 ⟨rfl, hb2⟩
      have Hb2 := Lib.hid (Hb1'.out.trans (hb2.mono Hb1'.out.size))
      have k3 := Lib.hid (toIntS_any a1 n1 c1 xs w2 h12 (H.out.below Hb2.out))
      clear hb2
      go_wp2_with fail
      refine (k3.out).mono ?_
      rintro ee w3 ⟨rfl, ho3, hb3⟩
      have Hb3 := Lib.hid (Hb2.out.trans (hb3.mono Hb2.out.size))
      have k3' := Lib.hid (toIntS_any a2 n2 c2 ys w3 h13 (H'.out.below Hb3.out))
      have Ho3 := Lib.hid ho3
      clear hb3 ho3
      go_wp2_with fail
      refine (k3'.out).mono ?_
      rintro ee w3' ⟨rfl, ho3', hb3'⟩
      have Hb3' := Lib.hid (Hb3.out.trans (hb3'.mono Hb3.out.size))
      have Ho3b := Lib.hid (ownsRow_below' Ho3.out hb3')
      have Ho3' := Lib.hid ho3'
      have k4 := Lib.hid (impl_CircleOk _ _ n1 n1 n2 n2 xs ys w3' (Sl.of_own Ho3b.out) (Sl.of_own ho3') h21)
      clear hb3' ho3'
      go_wp2_with fail
      refine (k4.out).mono ?_
      rintro ee w4 ⟨rfl, hb4⟩
      have Hb4 := Lib.hid (Hb3'.out.trans (hb4.mono Hb3'.out.size))
      have Ho4 := Lib.hid (ownsRow_below' Ho3b.out hb4)
      have Ho4' := Lib.hid (ownsRow_below' Ho3'.out hb4)
      have hne : (circB xs ys != circB xs ys) = false := by simp
      have k5 := Lib.hid (toIntS_any a1 n1 c1 xs w4 h12 (H.out.below Hb4.out))
      clear hb4
      go_wp2_with fail
      refine (k5.out).mono ?_
      rintro ee w5 ⟨rfl, ho5, hb5⟩
      have Hb5 := Lib.hid (Hb4.out.trans (hb5.mono Hb4.out.size))
      have k6 := Lib.hid (eqIntS_any _ _ n1 n1 n1 n1 xs xs w5 h12 (Sl.of_own (ownsRow_below' Ho4.out hb5)) (Sl.of_own ho5))
      have Ho5' := Lib.hid (ownsRow_below' Ho4'.out hb5)
      clear hb5 ho5
      go_wp2_with fail
      refine (k6.out).mono ?_
      rintro ee w6 ⟨rfl, hb6⟩
      have Hb6 := Lib.hid (Hb5.out.trans (hb6.mono Hb5.out.size))
      have Ho6' := Lib.hid (ownsRow_below' Ho5'.out hb6)
      have k7 := Lib.hid (toIntS_any a2 n2 c2 ys w6 h13 (H'.out.below Hb6.out))
      rw [eqB_refl]
      clear hb6
      go_wp2_with fail
      refine (k7.out).mono ?_
      rintro ee w7 ⟨rfl, ho7, hb7⟩
      have Hb7 := Lib.hid (Hb6.out.trans (hb7.mono Hb6.out.size))
      have k8 := Lib.hid (eqIntS_any _ _ n2 n2 n2 n2 ys ys w7 h13 (Sl.of_own (ownsRow_below' Ho6'.out hb7)) (Sl.of_own ho7))
      clear hb7 ho7
      go_wp2_with fail
      refine (k8.out).mono ?_
      rintro ee w8 ⟨rfl, hb8⟩
      have Hb8 := Lib.hid (Hb7.out.trans (hb8.mono Hb7.out.size))
      rw [eqB_refl]
      clear hb8
      go_wp2_with fail
      go_ret
      exact ⟨rfl, Hb8.out⟩
    · have hgt0 : (n1 : Int) ≤ 1048576 := by omega
      have hgt : (1048576 : Int) < n2 := by omega
      go_enter Try.func7, Try.ntmps7
      go_wp2_with fail
      go_ret
      exact ⟨rfl, Below.refl _ _⟩
  · have hgt : (1048576 : Int) < n1 := by omega
    go_enter Try.func7, Try.ntmps7
    go_wp2_with fail
    go_ret
    exact ⟨rfl, Below.refl _ _⟩

end Go.Proofs.Ytgkgjacjcenekaa

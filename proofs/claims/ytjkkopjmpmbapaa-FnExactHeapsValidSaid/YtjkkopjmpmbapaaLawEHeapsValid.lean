/- FnExactHeapsValid: the walk of the law. -/
import Derived.Test.YtjkkopjmpmbapaaTrA
namespace Go.Proofs.Ytjkkopjmpmbapaa
set_option maxRecDepth 100000
open Go.RowKit

theorem impl_HeapsValidB (ao : Option Addr) (n c : Nat) (xs : List Int) (w : World) (hb : n ≤ 1000000000000) (h : Sl w ao n c xs) :
    Calls Try.prog 25 #[.slice ao n c] w fun e w' => e = .returned (.bool (listB 40 xs)) ∧ Below w.heap.size w w' :=
  (impl_HeapsValid ao n c xs w hb h).mono (fun _ _ h9 => by obtain ⟨h1, rfl⟩ := h9; exact ⟨h1, Below.refl _ _⟩)
theorem spec_HeapsValidB (ao : Option Addr) (n c : Nat) (xs : List Int) (w : World) (h : Sl w ao n c xs) :
    Calls Try.prog 23 #[.slice ao n c] w fun e w' => e = .returned (.bool (listB 40 xs)) ∧ Below w.heap.size w w' :=
  (spec_HeapsValid ao n c xs w h).mono (fun _ _ h9 => by obtain ⟨h1, rfl⟩ := h9; exact ⟨h1, Below.refl _ _⟩)

theorem exactHeapsValid_walk (ao : Option Addr) (len cap : Nat) (xs : List Int) (w : World) (h : Sl w ao len cap xs) :
    Calls Try.prog 5 #[.slice ao len cap] w fun e w' => e = .returned (.bool true) ∧ Below w.heap.size w w' := by
  by_cases h20 : len ≤ 1048576
  · have h12 : len ≤ 1000000000000 := by omega
    have H := Lib.hid h
    clear h
    have k1 := Lib.hid (toIntS_any ao len cap xs w h12 H.out)
    go_enter Try.func5, Try.ntmps5
    go_wp2_with fail
    refine (k1.out).mono ?_
    rintro ee w1 ⟨rfl, ho1, hb1⟩
    have k2 := Lib.hid (spec_HeapsValidB _ len len xs w1 (Sl.of_own ho1))
    have Hb1 := Lib.hid hb1
    clear ho1 hb1
    go_wp2_with fail
    refine (k2.out).mono ?_
    rintro ee w2 ⟨rfl, hb2⟩
    have Hb2 := Lib.hid (Hb1.out.trans (hb2.mono Hb1.out.size))
    have k3 := Lib.hid (toIntS_any ao len cap xs w2 h12 (H.out.below Hb2.out))
    clear hb2
    go_wp2_with fail
    refine (k3.out).mono ?_
    rintro ee w3 ⟨rfl, ho3, hb3⟩
    have Hb3 := Lib.hid (Hb2.out.trans (hb3.mono Hb2.out.size))
    have k4 := Lib.hid (impl_HeapsValidB _ len len xs w3 h12 (Sl.of_own ho3))
    have Ho3 := Lib.hid ho3
    clear hb3 ho3
    go_wp2_with fail
    refine (k4.out).mono ?_
    rintro ee w4 ⟨rfl, hb4⟩
    have Hb4 := Lib.hid (Hb3.out.trans (hb4.mono Hb3.out.size))
    have Ho4 := Lib.hid (ownsRow_below' Ho3.out hb4)
    have hne : (listB 40 xs != listB 40 xs) = false := by simp
    have k5 := Lib.hid (toIntS_any ao len cap xs w4 h12 (H.out.below Hb4.out))
    clear hb4
    go_wp2_with fail
    refine (k5.out).mono ?_
    rintro ee w5 ⟨rfl, ho5, hb5⟩
    have Hb5 := Lib.hid (Hb4.out.trans (hb5.mono Hb4.out.size))
    have k6 := Lib.hid (eqIntS_any _ _ len len len len xs xs w5 h12 (Sl.of_own (ownsRow_below' Ho4.out hb5)) (Sl.of_own ho5))
    clear hb5 ho5
    go_wp2_with fail
    refine (k6.out).mono ?_
    rintro ee w6 ⟨rfl, hb6⟩
    have Hb6 := Lib.hid (Hb5.out.trans (hb6.mono Hb5.out.size))
    rw [eqB_refl]
    clear hb6
    go_wp2_with fail
    go_ret
    exact ⟨rfl, Hb6.out⟩
  · have hgt : (1048576 : Int) < len := by omega
    go_enter Try.func5, Try.ntmps5
    go_wp2_with fail
    go_ret
    exact ⟨rfl, Below.refl _ _⟩

end Go.Proofs.Ytjkkopjmpmbapaa

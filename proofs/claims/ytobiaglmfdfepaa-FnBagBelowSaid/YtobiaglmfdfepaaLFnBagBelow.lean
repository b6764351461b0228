/- FnBagBelow: the walk of the law. -/
import Derived.Test.YtobiaglmfdfepaaDrawBagB
import Derived.Test.YtobiaglmfdfepaaBagF
namespace Go.Proofs.Ytobiaglmfdfepaa
set_option maxRecDepth 100000
open Go.RowKit

set_option maxHeartbeats 4000000 in
theorem fnBagBelow_walk (a : Option Addr) (len cap : Nat) (w : World) (h : By w a len cap) :
    Calls Try.prog 6 #[.slice a len cap] w fun e w' => e = .returned (.bool true) ∧ Below w.heap.size w w' := by
  have hlm : len ≤ 9223372036854775807 := by have := h.1; have := h.2.1; unfold maxLen at this; omega
  by_cases hbig : 1048576 < len
  · clear h
    go_enter Try.func6, Try.ntmps6
    go_wp2_with fail
    go_ret
    exact ⟨rfl, Below.refl _ _⟩
  have k0 := Lib.hid (drawBagBelow_any a len cap w h)
  clear h
  go_enter Try.func6, Try.ntmps6
  go_wp2_with fail
  refine (k0.out).mono ?_
  rintro ee w1 ⟨xs, ys, g, n, c, g2, n2, c2, hn, hn2, rfl, ho, ho2, hl, hl2, hb0⟩
  have Hn := Lib.hid hn
  have Hn2 := Lib.hid hn2
  clear hn hn2
  have X_0 := Lib.hid (Sl.of_own ho)
  have Y_0 := Lib.hid (Sl.of_own ho2)
  have Ht0 := Lib.hid hb0
  have hws := hb0.size
  clear ho ho2 hb0
  have hne : ∀ x : Bool, (x != x) = false := by decide
  have hbb : bagBel xs ys = decide (bagCmp xs ys = -1) := rfl
  obtain ⟨z, hz⟩ : ∃ z, z = bagCmp xs ys := ⟨_, rfl⟩
  rw [← hz] at hbb
  have Hz := Lib.hid hz.symm
  clear hz
  by_cases hv : z = -1
  · subst hv
    have Hb := Lib.hid (show bagBel xs ys = true from hbb)
    clear hbb
    have k1 := Lib.hid (impl_BagBelow (some ⟨g, 0, none⟩) (some ⟨g2, 0, none⟩) n c n2 c2 xs ys w1 X_0.out Y_0.out)
    rw [Hb.out] at k1
    go_wp2_with fail
    refine (k1.out).mono ?_
    rintro ee w101 ⟨rfl, hb1⟩
    have Ht1 := Lib.hid (Ht0.out.trans (hb1.mono (by have h1 := Ht0.out.size; omega)))
    have X_1 := Lib.hid (X_0.out.below hb1)
    have Y_1 := Lib.hid (Y_0.out.below hb1)
    clear hb1
    have k2 := Lib.hid (spec_BagBelow (some ⟨g, 0, none⟩) (some ⟨g2, 0, none⟩) n c n2 c2 xs ys w101 X_1.out Y_1.out)
    rw [Hb.out] at k2
    go_wp2_with fail
    refine (k2.out).mono ?_
    rintro ee w102 ⟨rfl, hb2⟩
    have Ht2 := Lib.hid (Ht1.out.trans (hb2.mono (by have h1 := Ht1.out.size; omega)))
    have X_2 := Lib.hid (X_1.out.below hb2)
    have Y_2 := Lib.hid (Y_1.out.below hb2)
    clear hb2
    have k3 := Lib.hid (impl_BagCompare (some ⟨g, 0, none⟩) (some ⟨g2, 0, none⟩) n c n2 c2 xs ys w102 X_2.out Y_2.out)
    rw [Hz.out] at k3
    go_wp2_with fail
    refine (k3.out).mono ?_
    rintro ee w103 ⟨rfl, hb3⟩
    have Ht3 := Lib.hid (Ht2.out.trans (hb3.mono (by have h1 := Ht2.out.size; omega)))
    have X_3 := Lib.hid (X_2.out.below hb3)
    have Y_3 := Lib.hid (Y_2.out.below hb3)
    clear hb3
    have k4 := Lib.hid (alive_any w103)
    go_wp2_with fail
    refine (k4.out).mono ?_
    rintro ee w104 ⟨rfl, hb4⟩
    have Ht4 := Lib.hid (Ht3.out.trans (hb4.mono (by have h1 := Ht3.out.size; omega)))
    have X_4 := Lib.hid (X_3.out.below hb4)
    have Y_4 := Lib.hid (Y_3.out.below hb4)
    clear hb4
    go_wp2_with fail
    go_ret
    exact ⟨rfl, Ht4.out⟩
  · have Hb := Lib.hid (show bagBel xs ys = false by rw [hbb]; simpa using hv)
    have hz1 : (z == -1) = false := by simpa using hv
    clear hbb
    have k5 := Lib.hid (impl_BagBelow (some ⟨g, 0, none⟩) (some ⟨g2, 0, none⟩) n c n2 c2 xs ys w1 X_0.out Y_0.out)
    rw [Hb.out] at k5
    go_wp2_with fail
    refine (k5.out).mono ?_
    rintro ee w105 ⟨rfl, hb5⟩
    have Ht5 := Lib.hid (Ht0.out.trans (hb5.mono (by have h1 := Ht0.out.size; omega)))
    have X_5 := Lib.hid (X_0.out.below hb5)
    have Y_5 := Lib.hid (Y_0.out.below hb5)
    clear hb5
    have k6 := Lib.hid (spec_BagBelow (some ⟨g, 0, none⟩) (some ⟨g2, 0, none⟩) n c n2 c2 xs ys w105 X_5.out Y_5.out)
    rw [Hb.out] at k6
    go_wp2_with fail
    refine (k6.out).mono ?_
    rintro ee w106 ⟨rfl, hb6⟩
    have Ht6 := Lib.hid (Ht5.out.trans (hb6.mono (by have h1 := Ht5.out.size; omega)))
    have X_6 := Lib.hid (X_5.out.below hb6)
    have Y_6 := Lib.hid (Y_5.out.below hb6)
    clear hb6
    have k7 := Lib.hid (impl_BagCompare (some ⟨g, 0, none⟩) (some ⟨g2, 0, none⟩) n c n2 c2 xs ys w106 X_6.out Y_6.out)
    rw [Hz.out] at k7
    go_wp2_with fail
    refine (k7.out).mono ?_
    rintro ee w107 ⟨rfl, hb7⟩
    have Ht7 := Lib.hid (Ht6.out.trans (hb7.mono (by have h1 := Ht6.out.size; omega)))
    have X_7 := Lib.hid (X_6.out.below hb7)
    have Y_7 := Lib.hid (Y_6.out.below hb7)
    clear hb7
    have k8 := Lib.hid (alive_any w107)
    go_wp2_with fail
    refine (k8.out).mono ?_
    rintro ee w108 ⟨rfl, hb8⟩
    have Ht8 := Lib.hid (Ht7.out.trans (hb8.mono (by have h1 := Ht7.out.size; omega)))
    have X_8 := Lib.hid (X_7.out.below hb8)
    have Y_8 := Lib.hid (Y_7.out.below hb8)
    clear hb8
    go_wp2_with fail
    go_ret
    exact ⟨rfl, Ht8.out⟩

end Go.Proofs.Ytobiaglmfdfepaa

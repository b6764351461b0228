/- FnOrdDepth: the walk of the law. -/
import Derived.Test.YtobookpaadpolaaDrawB
import Derived.Test.YtobookpaadpolaaBeforeS
import Derived.Test.YtobookpaadpolaaBefore
import Derived.Test.YtobookpaadpolaaFn1
namespace Go.Proofs.Ytobookpaadpolaa
open Go.RowKit

set_option maxHeartbeats 4000000 in
theorem fnOrdDepth_walk (a : Option Addr) (len cap : Nat) (a2 : Option Addr) (len2 cap2 : Nat) (w : World) (h : By w a len cap) (h2 : By w a2 len2 cap2) :
    Calls Try.prog 10 #[.slice a len cap, .slice a2 len2 cap2] w fun e w' => e = .returned (.bool true) ∧ Below w.heap.size w w' := by
  have hlm : len ≤ 9223372036854775807 := by have := h.1; have := h.2.1; unfold maxLen at this; omega
  have hlm2 : len2 ≤ 9223372036854775807 := by have := h2.1; have := h2.2.1; unfold maxLen at this; omega
  by_cases hbig : 1048576 < len
  · clear h h2
    go_enter Try.func10, Try.ntmps10
    go_wp2_with fail
    go_ret
    exact ⟨rfl, Below.refl _ _⟩
  by_cases hbig2 : 1048576 < len2
  · clear h h2
    go_enter Try.func10, Try.ntmps10
    go_wp2_with fail
    go_ret
    exact ⟨rfl, Below.refl _ _⟩
  have k0 := Lib.hid (drawOrdDepth_any a len cap w h)
  have H2 := Lib.hid h2
  clear h h2
  go_enter Try.func10, Try.ntmps10
  go_wp2_with fail
  refine (k0.out).mono ?_
  rintro ee w1 ⟨xs, g, n, c, hn, rfl, ho, hl, hb0⟩
  have Hn := Lib.hid hn
  clear hn
  have X_0 := Lib.hid (Sl.of_own ho)
  have Ht0 := Lib.hid hb0
  have hws := hb0.size
  clear ho hb0
  rcases vld_tf xs with hv | hv
  · have hp := T.depRow_ok hv
    have hz := T.depRow_zero xs
    have hlt := fun ys => T.depRow_lt (xs := ys) (ys := xs)
    obtain ⟨dn, hdn⟩ : ∃ dn, dn = T.depRow xs := ⟨_, rfl⟩
    rw [← hdn] at hp hz hlt
    have Hdn := Lib.hid hdn
    have Hlt := Lib.hid hlt
    have hz2 : ((dn == 0) == eqB xs [0]) = true := by
      by_cases h : dn = 0
      · have h2 := hz.1 h
        rw [h, h2]; rfl
      · have h2 : eqB xs [0] = false := by rw [eqB, decide_eq_false_iff_not]; intro h3; exact h (hz.2 h3)
        have h3 : (dn == 0) = false := by simpa using h
        rw [h2, h3]; rfl
    clear hv hdn hz hlt
    have k1 := Lib.hid (impl_OrdDepth (some ⟨g, 0, none⟩) n c xs w1 X_0.out)
    rw [← Hdn.out] at k1
    go_wp2_with fail
    refine (k1.out).mono ?_
    rintro ee w101 ⟨rfl, hb1⟩
    have Ht1 := Lib.hid (Ht0.out.trans (hb1.mono (by have h1 := Ht0.out.size; omega)))
    have X_1 := Lib.hid (X_0.out.below hb1)
    clear hb1
    have k2 := Lib.hid (spec_OrdDepth (some ⟨g, 0, none⟩) n c xs w101 X_1.out)
    rw [← Hdn.out] at k2
    go_wp2_with fail
    refine (k2.out).mono ?_
    rintro ee w102 ⟨rfl, hb2⟩
    have Ht2 := Lib.hid (Ht1.out.trans (hb2.mono (by have h1 := Ht1.out.size; omega)))
    have X_2 := Lib.hid (X_1.out.below hb2)
    clear hb2
    have k3 := Lib.hid (drawOrdDepth_any a2 len2 cap2 w102 (H2.out.below Ht2.out))
    go_wp2_with fail
    refine (k3.out).mono ?_
    rintro ee w103 ⟨zs, gz, nz, cz, hnz, rfl, ho, hlz, hb3⟩
    have Ht3 := Lib.hid (Ht2.out.trans (hb3.mono (by have h1 := Ht2.out.size; omega)))
    have X_3 := Lib.hid (X_2.out.below hb3)
    have Z_3 := Lib.hid (Sl.of_own ho)
    clear hb3 ho
    have Hnz := Lib.hid hnz
    clear hnz
    obtain ⟨dm, hdm⟩ : ∃ dm, dm = T.depRow zs := ⟨_, rfl⟩
    have Hdm := Lib.hid hdm
    clear hdm
    have k4 := Lib.hid (impl_OrdDepth (some ⟨gz, 0, none⟩) nz cz zs w103 Z_3.out)
    rw [← Hdm.out] at k4
    go_wp2_with fail
    refine (k4.out).mono ?_
    rintro ee w104 ⟨rfl, hb4⟩
    have Ht4 := Lib.hid (Ht3.out.trans (hb4.mono (by have h1 := Ht3.out.size; omega)))
    have X_4 := Lib.hid (X_3.out.below hb4)
    have Z_4 := Lib.hid (Z_3.out.below hb4)
    clear hb4
    have k5 := Lib.hid (sameInts_any (some ⟨g, 0, none⟩) (some ⟨w104.heap.size, 0, none⟩) n c 1 1 xs [0] (w104.alloc (.cells #[.int .i64 0] 3)) (by omega) (X_4.out.below (Joins.below_alloc1 _ _)) (Sl.of_own (World.ownsRow_lit w104 #[.int .i64 0] 1 (Nat.le_refl _) (by simp [maxLen]) rfl)))
    go_wp2_with fail
    refine (k5.out).mono ?_
    rintro ee w105 ⟨rfl, hb5⟩
    have hbl5 := (Joins.below_alloc1 w104 _).trans (hb5.mono (by simp))
    clear hb5
    have Ht5 := Lib.hid (Ht4.out.trans (hbl5.mono (by have h1 := Ht4.out.size; omega)))
    have X_5 := Lib.hid (X_4.out.below hbl5)
    have Z_5 := Lib.hid (Z_4.out.below hbl5)
    clear hbl5
    by_cases hm0 : dm < 0
    · skip
      go_wp2_with fail
      go_ret
      exact ⟨rfl, Ht5.out⟩
    by_cases hm1 : dn ≤ dm
    · skip
      go_wp2_with fail
      go_ret
      exact ⟨rfl, Ht5.out⟩
    have hcm : T.cmpRow zs xs = -1 := Hlt.out zs (by rw [← Hdm.out]; omega) (by rw [← Hdm.out]; omega)
    have Hcm := Lib.hid hcm
    clear hcm
    have k6 := Lib.hid (impl_OrdCompare (some ⟨gz, 0, none⟩) (some ⟨g, 0, none⟩) nz cz n c zs xs w105 Z_5.out X_5.out)
    rw [Hcm.out] at k6
    go_wp2_with fail
    refine (k6.out).mono ?_
    rintro ee w106 ⟨rfl, hb6⟩
    have Ht6 := Lib.hid (Ht5.out.trans (hb6.mono (by have h1 := Ht5.out.size; omega)))
    have X_6 := Lib.hid (X_5.out.below hb6)
    have Z_6 := Lib.hid (Z_5.out.below hb6)
    clear hb6
    go_wp2_with fail
    go_ret
    exact ⟨rfl, Ht6.out⟩
  · have hdn := T.depRow_bad hv
    have Hv := Lib.hid hv
    have Hdn := Lib.hid hdn
    clear hv hdn
    have k7 := Lib.hid (impl_OrdDepth (some ⟨g, 0, none⟩) n c xs w1 X_0.out)
    rw [Hdn.out] at k7
    go_wp2_with fail
    refine (k7.out).mono ?_
    rintro ee w107 ⟨rfl, hb7⟩
    have Ht7 := Lib.hid (Ht0.out.trans (hb7.mono (by have h1 := Ht0.out.size; omega)))
    have X_7 := Lib.hid (X_0.out.below hb7)
    clear hb7
    have k8 := Lib.hid (spec_OrdDepth (some ⟨g, 0, none⟩) n c xs w107 X_7.out)
    rw [Hdn.out] at k8
    go_wp2_with fail
    refine (k8.out).mono ?_
    rintro ee w108 ⟨rfl, hb8⟩
    have Ht8 := Lib.hid (Ht7.out.trans (hb8.mono (by have h1 := Ht7.out.size; omega)))
    have X_8 := Lib.hid (X_7.out.below hb8)
    clear hb8
    have k9 := Lib.hid (impl_valid (some ⟨g, 0, none⟩) n c xs w108 X_8.out Hv.out)
    go_wp2_with fail
    refine (k9.out).mono ?_
    rintro ee w109 ⟨rfl, hb9⟩
    have Ht9 := Lib.hid (Ht8.out.trans (hb9.mono (by have h1 := Ht8.out.size; omega)))
    have X_9 := Lib.hid (X_8.out.below hb9)
    clear hb9
    have k10 := Lib.hid (alive_any w109)
    go_wp2_with fail
    refine (k10.out).mono ?_
    rintro ee w110 ⟨rfl, hb10⟩
    have Ht10 := Lib.hid (Ht9.out.trans (hb10.mono (by have h1 := Ht9.out.size; omega)))
    have X_10 := Lib.hid (X_9.out.below hb10)
    clear hb10
    go_wp2_with fail
    go_ret
    exact ⟨rfl, Ht10.out⟩

end Go.Proofs.Ytobookpaadpolaa

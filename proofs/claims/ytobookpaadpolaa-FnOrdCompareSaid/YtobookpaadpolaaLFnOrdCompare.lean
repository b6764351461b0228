/- FnOrdCompare: the walk of the law. -/
import Derived.Test.YtobookpaadpolaaDrawB
import Derived.Test.YtobookpaadpolaaValid
import Derived.Test.YtobookpaadpolaaFn1
namespace Go.Proofs.Ytobookpaadpolaa
open Go.RowKit

theorem eqB_cmp {xs ys : List Int} (h : T.cmpRow xs ys ≠ -2) : eqB xs ys = decide (T.cmpRow xs ys = 0) := by
  rw [eqB]
  exact decide_eq_decide.2 (T.cmpRow_zero h).symm

set_option maxHeartbeats 4000000 in
theorem fnOrdCompare_walk (a : Option Addr) (len cap : Nat) (a2 : Option Addr) (len2 cap2 : Nat) (w : World) (h : By w a len cap) (h2 : By w a2 len2 cap2) :
    Calls Try.prog 4 #[.slice a len cap, .slice a2 len2 cap2] w fun e w' => e = .returned (.bool true) ∧ Below w.heap.size w w' := by
  have hlm : len ≤ 9223372036854775807 := by have := h.1; have := h.2.1; unfold maxLen at this; omega
  have hlm2 : len2 ≤ 9223372036854775807 := by have := h2.1; have := h2.2.1; unfold maxLen at this; omega
  by_cases hbig : 1048576 < len
  · clear h h2
    go_enter Try.func4, Try.ntmps4
    go_wp2_with fail
    go_ret
    exact ⟨rfl, Below.refl _ _⟩
  by_cases hbig2 : 1048576 < len2
  · clear h h2
    go_enter Try.func4, Try.ntmps4
    go_wp2_with fail
    go_ret
    exact ⟨rfl, Below.refl _ _⟩
  have k0 := Lib.hid (drawOrdCompare_any a len cap w h)
  have H2 := Lib.hid h2
  clear h h2
  go_enter Try.func4, Try.ntmps4
  go_wp2_with fail
  refine (k0.out).mono ?_
  rintro ee w1 ⟨xs, ys, g, n, c, g2, n2, c2, hn, hn2, rfl, ho, ho2, hl, hl2, hb0⟩
  have Hn := Lib.hid hn
  have Hn2 := Lib.hid hn2
  clear hn hn2
  have X_0 := Lib.hid (Sl.of_own ho)
  have Y_0 := Lib.hid (Sl.of_own ho2)
  have Ht0 := Lib.hid hb0
  have hws := hb0.size
  clear ho ho2 hb0
  rcases T.cmpRow_vals xs ys with hk | hk | hk | hk
  · have Hk := Lib.hid hk
    clear hk
    have k1 := Lib.hid (impl_OrdCompare (some ⟨g, 0, none⟩) (some ⟨g2, 0, none⟩) n c n2 c2 xs ys w1 X_0.out Y_0.out)
    rw [Hk.out] at k1
    go_wp2_with fail
    refine (k1.out).mono ?_
    rintro ee w101 ⟨rfl, hb1⟩
    have Ht1 := Lib.hid (Ht0.out.trans (hb1.mono (by have h1 := Ht0.out.size; omega)))
    have X_1 := Lib.hid (X_0.out.below hb1)
    have Y_1 := Lib.hid (Y_0.out.below hb1)
    clear hb1
    have k2 := Lib.hid (spec_OrdCompare (some ⟨g, 0, none⟩) (some ⟨g2, 0, none⟩) n c n2 c2 xs ys w101 X_1.out Y_1.out)
    rw [Hk.out] at k2
    go_wp2_with fail
    refine (k2.out).mono ?_
    rintro ee w102 ⟨rfl, hb2⟩
    have Ht2 := Lib.hid (Ht1.out.trans (hb2.mono (by have h1 := Ht1.out.size; omega)))
    have X_2 := Lib.hid (X_1.out.below hb2)
    have Y_2 := Lib.hid (Y_1.out.below hb2)
    clear hb2
    have k3 := Lib.hid (alive_any w102)
    go_wp2_with fail
    refine (k3.out).mono ?_
    rintro ee w103 ⟨rfl, hb3⟩
    have Ht3 := Lib.hid (Ht2.out.trans (hb3.mono (by have h1 := Ht2.out.size; omega)))
    have X_3 := Lib.hid (X_2.out.below hb3)
    have Y_3 := Lib.hid (Y_2.out.below hb3)
    clear hb3
    go_wp2_with fail
    go_ret
    exact ⟨rfl, Ht3.out⟩
  · have hq := eqB_cmp (xs := xs) (ys := ys) (by omega)
    have hsw := T.cmpRow_swap (xs := xs) (ys := ys) (by omega)
    rw [hk] at hq hsw
    have Hq := Lib.hid hq
    have Hsw := Lib.hid hsw
    have Hk := Lib.hid hk
    clear hk hq hsw
    have k4 := Lib.hid (impl_OrdCompare (some ⟨g, 0, none⟩) (some ⟨g2, 0, none⟩) n c n2 c2 xs ys w1 X_0.out Y_0.out)
    rw [Hk.out] at k4
    go_wp2_with fail
    refine (k4.out).mono ?_
    rintro ee w104 ⟨rfl, hb4⟩
    have Ht4 := Lib.hid (Ht0.out.trans (hb4.mono (by have h1 := Ht0.out.size; omega)))
    have X_4 := Lib.hid (X_0.out.below hb4)
    have Y_4 := Lib.hid (Y_0.out.below hb4)
    clear hb4
    have k5 := Lib.hid (spec_OrdCompare (some ⟨g, 0, none⟩) (some ⟨g2, 0, none⟩) n c n2 c2 xs ys w104 X_4.out Y_4.out)
    rw [Hk.out] at k5
    go_wp2_with fail
    refine (k5.out).mono ?_
    rintro ee w105 ⟨rfl, hb5⟩
    have Ht5 := Lib.hid (Ht4.out.trans (hb5.mono (by have h1 := Ht4.out.size; omega)))
    have X_5 := Lib.hid (X_4.out.below hb5)
    have Y_5 := Lib.hid (Y_4.out.below hb5)
    clear hb5
    have k6 := Lib.hid (drawOrdCompare_any a2 len2 cap2 w105 (H2.out.below Ht5.out))
    go_wp2_with fail
    refine (k6.out).mono ?_
    rintro ee w106 ⟨zs, vs, gz, nz, cz, gv, nv, cv, hnz, hnv, rfl, ho, ho', hlz, hlv, hb6⟩
    have Ht6 := Lib.hid (Ht5.out.trans (hb6.mono (by have h1 := Ht5.out.size; omega)))
    have X_6 := Lib.hid (X_5.out.below hb6)
    have Y_6 := Lib.hid (Y_5.out.below hb6)
    have Z_6 := Lib.hid (Sl.of_own ho)
    have V_6 := Lib.hid (Sl.of_own ho')
    clear hb6 ho ho'
    have Hnz := Lib.hid hnz
    have Hnv := Lib.hid hnv
    clear hnz hnv
    rcases vld_tf zs with hvm | hvm
    · have Hvm := Lib.hid hvm
      clear hvm
      have k7 := Lib.hid (spec_valid (some ⟨gz, 0, none⟩) nz cz zs w106 Z_6.out Hvm.out)
      go_wp2_with fail
      refine (k7.out).mono ?_
      rintro ee w107 ⟨rfl, hb7⟩
      have Ht7 := Lib.hid (Ht6.out.trans (hb7.mono (by have h1 := Ht6.out.size; omega)))
      have X_7 := Lib.hid (X_6.out.below hb7)
      have Y_7 := Lib.hid (Y_6.out.below hb7)
      have Z_7 := Lib.hid (Z_6.out.below hb7)
      have V_7 := Lib.hid (V_6.out.below hb7)
      clear hb7
      obtain ⟨qm, hqm⟩ : ∃ q, q = T.cmpRow ys zs := ⟨_, rfl⟩
      by_cases hqv : qm = (-1)
      · have htr : T.cmpRow xs zs = (-1) := T.cmpRow_trans Hk.out (by rw [← hqm]; exact hqv)
        have Htr := Lib.hid htr
        have Hqq := Lib.hid (hqm.symm.trans hqv)
        clear htr hqm hqv
        have k8 := Lib.hid (impl_OrdCompare (some ⟨g2, 0, none⟩) (some ⟨gz, 0, none⟩) n2 c2 nz cz ys zs w107 Y_7.out Z_7.out)
        rw [Hqq.out] at k8
        go_wp2_with fail
        refine (k8.out).mono ?_
        rintro ee w108 ⟨rfl, hb8⟩
        have Ht8 := Lib.hid (Ht7.out.trans (hb8.mono (by have h1 := Ht7.out.size; omega)))
        have X_8 := Lib.hid (X_7.out.below hb8)
        have Y_8 := Lib.hid (Y_7.out.below hb8)
        have Z_8 := Lib.hid (Z_7.out.below hb8)
        have V_8 := Lib.hid (V_7.out.below hb8)
        clear hb8
        have k9 := Lib.hid (impl_OrdCompare (some ⟨g, 0, none⟩) (some ⟨gz, 0, none⟩) n c nz cz xs zs w108 X_8.out Z_8.out)
        rw [Htr.out] at k9
        go_wp2_with fail
        refine (k9.out).mono ?_
        rintro ee w109 ⟨rfl, hb9⟩
        have Ht9 := Lib.hid (Ht8.out.trans (hb9.mono (by have h1 := Ht8.out.size; omega)))
        have X_9 := Lib.hid (X_8.out.below hb9)
        have Y_9 := Lib.hid (Y_8.out.below hb9)
        have Z_9 := Lib.hid (Z_8.out.below hb9)
        have V_9 := Lib.hid (V_8.out.below hb9)
        clear hb9
        rcases vld_tf vs with hvp | hvp
        · have Hvp := Lib.hid hvp
          clear hvp
          have k10 := Lib.hid (spec_valid (some ⟨gv, 0, none⟩) nv cv vs w109 V_9.out Hvp.out)
          go_wp2_with fail
          refine (k10.out).mono ?_
          rintro ee w110 ⟨rfl, hb10⟩
          have Ht10 := Lib.hid (Ht9.out.trans (hb10.mono (by have h1 := Ht9.out.size; omega)))
          have X_10 := Lib.hid (X_9.out.below hb10)
          have Y_10 := Lib.hid (Y_9.out.below hb10)
          have Z_10 := Lib.hid (Z_9.out.below hb10)
          have V_10 := Lib.hid (V_9.out.below hb10)
          clear hb10
          have k11 := Lib.hid (impl_OrdCompare (some ⟨g2, 0, none⟩) (some ⟨g, 0, none⟩) n2 c2 n c ys xs w110 Y_10.out X_10.out)
          rw [Hsw.out] at k11
          go_wp2_with fail
          refine (k11.out).mono ?_
          rintro ee w111 ⟨rfl, hb11⟩
          have Ht11 := Lib.hid (Ht10.out.trans (hb11.mono (by have h1 := Ht10.out.size; omega)))
          have X_11 := Lib.hid (X_10.out.below hb11)
          have Y_11 := Lib.hid (Y_10.out.below hb11)
          have Z_11 := Lib.hid (Z_10.out.below hb11)
          have V_11 := Lib.hid (V_10.out.below hb11)
          clear hb11
          have k12 := Lib.hid (sameInts_any (some ⟨g, 0, none⟩) (some ⟨g2, 0, none⟩) n c n2 c2 xs ys w111 (by omega) X_11.out Y_11.out)
          rw [Hq.out] at k12
          go_wp2_with fail
          refine (k12.out).mono ?_
          rintro ee w112 ⟨rfl, hb12⟩
          have Ht12 := Lib.hid (Ht11.out.trans (hb12.mono (by have h1 := Ht11.out.size; omega)))
          have X_12 := Lib.hid (X_11.out.below hb12)
          have Y_12 := Lib.hid (Y_11.out.below hb12)
          have Z_12 := Lib.hid (Z_11.out.below hb12)
          have V_12 := Lib.hid (V_11.out.below hb12)
          clear hb12
          go_wp2_with fail
          go_ret
          exact ⟨rfl, Ht12.out⟩
        · have Hvp := Lib.hid hvp
          clear hvp
          have k13 := Lib.hid (spec_valid (some ⟨gv, 0, none⟩) nv cv vs w109 V_9.out Hvp.out)
          go_wp2_with fail
          refine (k13.out).mono ?_
          rintro ee w113 ⟨rfl, hb13⟩
          have Ht13 := Lib.hid (Ht9.out.trans (hb13.mono (by have h1 := Ht9.out.size; omega)))
          have X_13 := Lib.hid (X_9.out.below hb13)
          have Y_13 := Lib.hid (Y_9.out.below hb13)
          have Z_13 := Lib.hid (Z_9.out.below hb13)
          have V_13 := Lib.hid (V_9.out.below hb13)
          clear hb13
          have k14 := Lib.hid (impl_OrdCompare (some ⟨g2, 0, none⟩) (some ⟨g, 0, none⟩) n2 c2 n c ys xs w113 Y_13.out X_13.out)
          rw [Hsw.out] at k14
          go_wp2_with fail
          refine (k14.out).mono ?_
          rintro ee w114 ⟨rfl, hb14⟩
          have Ht14 := Lib.hid (Ht13.out.trans (hb14.mono (by have h1 := Ht13.out.size; omega)))
          have X_14 := Lib.hid (X_13.out.below hb14)
          have Y_14 := Lib.hid (Y_13.out.below hb14)
          have Z_14 := Lib.hid (Z_13.out.below hb14)
          have V_14 := Lib.hid (V_13.out.below hb14)
          clear hb14
          have k15 := Lib.hid (sameInts_any (some ⟨g, 0, none⟩) (some ⟨g2, 0, none⟩) n c n2 c2 xs ys w114 (by omega) X_14.out Y_14.out)
          rw [Hq.out] at k15
          go_wp2_with fail
          refine (k15.out).mono ?_
          rintro ee w115 ⟨rfl, hb15⟩
          have Ht15 := Lib.hid (Ht14.out.trans (hb15.mono (by have h1 := Ht14.out.size; omega)))
          have X_15 := Lib.hid (X_14.out.below hb15)
          have Y_15 := Lib.hid (Y_14.out.below hb15)
          have Z_15 := Lib.hid (Z_14.out.below hb15)
          have V_15 := Lib.hid (V_14.out.below hb15)
          clear hb15
          go_wp2_with fail
          go_ret
          exact ⟨rfl, Ht15.out⟩
      · have hqb : (qm == (-1)) = false := by simpa using hqv
        have Hqq := Lib.hid hqm
        clear hqm hqv
        have k16 := Lib.hid (impl_OrdCompare (some ⟨g2, 0, none⟩) (some ⟨gz, 0, none⟩) n2 c2 nz cz ys zs w107 Y_7.out Z_7.out)
        rw [← Hqq.out] at k16
        go_wp2_with fail
        refine (k16.out).mono ?_
        rintro ee w116 ⟨rfl, hb16⟩
        have Ht16 := Lib.hid (Ht7.out.trans (hb16.mono (by have h1 := Ht7.out.size; omega)))
        have X_16 := Lib.hid (X_7.out.below hb16)
        have Y_16 := Lib.hid (Y_7.out.below hb16)
        have Z_16 := Lib.hid (Z_7.out.below hb16)
        have V_16 := Lib.hid (V_7.out.below hb16)
        clear hb16
        rcases vld_tf vs with hvp | hvp
        · have Hvp := Lib.hid hvp
          clear hvp
          have k17 := Lib.hid (spec_valid (some ⟨gv, 0, none⟩) nv cv vs w116 V_16.out Hvp.out)
          go_wp2_with fail
          refine (k17.out).mono ?_
          rintro ee w117 ⟨rfl, hb17⟩
          have Ht17 := Lib.hid (Ht16.out.trans (hb17.mono (by have h1 := Ht16.out.size; omega)))
          have X_17 := Lib.hid (X_16.out.below hb17)
          have Y_17 := Lib.hid (Y_16.out.below hb17)
          have Z_17 := Lib.hid (Z_16.out.below hb17)
          have V_17 := Lib.hid (V_16.out.below hb17)
          clear hb17
          have k18 := Lib.hid (impl_OrdCompare (some ⟨g2, 0, none⟩) (some ⟨g, 0, none⟩) n2 c2 n c ys xs w117 Y_17.out X_17.out)
          rw [Hsw.out] at k18
          go_wp2_with fail
          refine (k18.out).mono ?_
          rintro ee w118 ⟨rfl, hb18⟩
          have Ht18 := Lib.hid (Ht17.out.trans (hb18.mono (by have h1 := Ht17.out.size; omega)))
          have X_18 := Lib.hid (X_17.out.below hb18)
          have Y_18 := Lib.hid (Y_17.out.below hb18)
          have Z_18 := Lib.hid (Z_17.out.below hb18)
          have V_18 := Lib.hid (V_17.out.below hb18)
          clear hb18
          have k19 := Lib.hid (sameInts_any (some ⟨g, 0, none⟩) (some ⟨g2, 0, none⟩) n c n2 c2 xs ys w118 (by omega) X_18.out Y_18.out)
          rw [Hq.out] at k19
          go_wp2_with fail
          refine (k19.out).mono ?_
          rintro ee w119 ⟨rfl, hb19⟩
          have Ht19 := Lib.hid (Ht18.out.trans (hb19.mono (by have h1 := Ht18.out.size; omega)))
          have X_19 := Lib.hid (X_18.out.below hb19)
          have Y_19 := Lib.hid (Y_18.out.below hb19)
          have Z_19 := Lib.hid (Z_18.out.below hb19)
          have V_19 := Lib.hid (V_18.out.below hb19)
          clear hb19
          go_wp2_with fail
          go_ret
          exact ⟨rfl, Ht19.out⟩
        · have Hvp := Lib.hid hvp
          clear hvp
          have k20 := Lib.hid (spec_valid (some ⟨gv, 0, none⟩) nv cv vs w116 V_16.out Hvp.out)
          go_wp2_with fail
          refine (k20.out).mono ?_
          rintro ee w120 ⟨rfl, hb20⟩
          have Ht20 := Lib.hid (Ht16.out.trans (hb20.mono (by have h1 := Ht16.out.size; omega)))
          have X_20 := Lib.hid (X_16.out.below hb20)
          have Y_20 := Lib.hid (Y_16.out.below hb20)
          have Z_20 := Lib.hid (Z_16.out.below hb20)
          have V_20 := Lib.hid (V_16.out.below hb20)
          clear hb20
          have k21 := Lib.hid (impl_OrdCompare (some ⟨g2, 0, none⟩) (some ⟨g, 0, none⟩) n2 c2 n c ys xs w120 Y_20.out X_20.out)
          rw [Hsw.out] at k21
          go_wp2_with fail
          refine (k21.out).mono ?_
          rintro ee w121 ⟨rfl, hb21⟩
          have Ht21 := Lib.hid (Ht20.out.trans (hb21.mono (by have h1 := Ht20.out.size; omega)))
          have X_21 := Lib.hid (X_20.out.below hb21)
          have Y_21 := Lib.hid (Y_20.out.below hb21)
          have Z_21 := Lib.hid (Z_20.out.below hb21)
          have V_21 := Lib.hid (V_20.out.below hb21)
          clear hb21
          have k22 := Lib.hid (sameInts_any (some ⟨g, 0, none⟩) (some ⟨g2, 0, none⟩) n c n2 c2 xs ys w121 (by omega) X_21.out Y_21.out)
          rw [Hq.out] at k22
          go_wp2_with fail
          refine (k22.out).mono ?_
          rintro ee w122 ⟨rfl, hb22⟩
          have Ht22 := Lib.hid (Ht21.out.trans (hb22.mono (by have h1 := Ht21.out.size; omega)))
          have X_22 := Lib.hid (X_21.out.below hb22)
          have Y_22 := Lib.hid (Y_21.out.below hb22)
          have Z_22 := Lib.hid (Z_21.out.below hb22)
          have V_22 := Lib.hid (V_21.out.below hb22)
          clear hb22
          go_wp2_with fail
          go_ret
          exact ⟨rfl, Ht22.out⟩
    · have Hvm := Lib.hid hvm
      clear hvm
      have k23 := Lib.hid (spec_valid (some ⟨gz, 0, none⟩) nz cz zs w106 Z_6.out Hvm.out)
      go_wp2_with fail
      refine (k23.out).mono ?_
      rintro ee w123 ⟨rfl, hb23⟩
      have Ht23 := Lib.hid (Ht6.out.trans (hb23.mono (by have h1 := Ht6.out.size; omega)))
      have X_23 := Lib.hid (X_6.out.below hb23)
      have Y_23 := Lib.hid (Y_6.out.below hb23)
      have Z_23 := Lib.hid (Z_6.out.below hb23)
      have V_23 := Lib.hid (V_6.out.below hb23)
      clear hb23
      rcases vld_tf vs with hvp | hvp
      · have Hvp := Lib.hid hvp
        clear hvp
        have k24 := Lib.hid (spec_valid (some ⟨gv, 0, none⟩) nv cv vs w123 V_23.out Hvp.out)
        go_wp2_with fail
        refine (k24.out).mono ?_
        rintro ee w124 ⟨rfl, hb24⟩
        have Ht24 := Lib.hid (Ht23.out.trans (hb24.mono (by have h1 := Ht23.out.size; omega)))
        have X_24 := Lib.hid (X_23.out.below hb24)
        have Y_24 := Lib.hid (Y_23.out.below hb24)
        have Z_24 := Lib.hid (Z_23.out.below hb24)
        have V_24 := Lib.hid (V_23.out.below hb24)
        clear hb24
        have k25 := Lib.hid (impl_OrdCompare (some ⟨g2, 0, none⟩) (some ⟨g, 0, none⟩) n2 c2 n c ys xs w124 Y_24.out X_24.out)
        rw [Hsw.out] at k25
        go_wp2_with fail
        refine (k25.out).mono ?_
        rintro ee w125 ⟨rfl, hb25⟩
        have Ht25 := Lib.hid (Ht24.out.trans (hb25.mono (by have h1 := Ht24.out.size; omega)))
        have X_25 := Lib.hid (X_24.out.below hb25)
        have Y_25 := Lib.hid (Y_24.out.below hb25)
        have Z_25 := Lib.hid (Z_24.out.below hb25)
        have V_25 := Lib.hid (V_24.out.below hb25)
        clear hb25
        have k26 := Lib.hid (sameInts_any (some ⟨g, 0, none⟩) (some ⟨g2, 0, none⟩) n c n2 c2 xs ys w125 (by omega) X_25.out Y_25.out)
        rw [Hq.out] at k26
        go_wp2_with fail
        refine (k26.out).mono ?_
        rintro ee w126 ⟨rfl, hb26⟩
        have Ht26 := Lib.hid (Ht25.out.trans (hb26.mono (by have h1 := Ht25.out.size; omega)))
        have X_26 := Lib.hid (X_25.out.below hb26)
        have Y_26 := Lib.hid (Y_25.out.below hb26)
        have Z_26 := Lib.hid (Z_25.out.below hb26)
        have V_26 := Lib.hid (V_25.out.below hb26)
        clear hb26
        go_wp2_with fail
        go_ret
        exact ⟨rfl, Ht26.out⟩
      · have Hvp := Lib.hid hvp
        clear hvp
        have k27 := Lib.hid (spec_valid (some ⟨gv, 0, none⟩) nv cv vs w123 V_23.out Hvp.out)
        go_wp2_with fail
        refine (k27.out).mono ?_
        rintro ee w127 ⟨rfl, hb27⟩
        have Ht27 := Lib.hid (Ht23.out.trans (hb27.mono (by have h1 := Ht23.out.size; omega)))
        have X_27 := Lib.hid (X_23.out.below hb27)
        have Y_27 := Lib.hid (Y_23.out.below hb27)
        have Z_27 := Lib.hid (Z_23.out.below hb27)
        have V_27 := Lib.hid (V_23.out.below hb27)
        clear hb27
        have k28 := Lib.hid (impl_OrdCompare (some ⟨g2, 0, none⟩) (some ⟨g, 0, none⟩) n2 c2 n c ys xs w127 Y_27.out X_27.out)
        rw [Hsw.out] at k28
        go_wp2_with fail
        refine (k28.out).mono ?_
        rintro ee w128 ⟨rfl, hb28⟩
        have Ht28 := Lib.hid (Ht27.out.trans (hb28.mono (by have h1 := Ht27.out.size; omega)))
        have X_28 := Lib.hid (X_27.out.below hb28)
        have Y_28 := Lib.hid (Y_27.out.below hb28)
        have Z_28 := Lib.hid (Z_27.out.below hb28)
        have V_28 := Lib.hid (V_27.out.below hb28)
        clear hb28
        have k29 := Lib.hid (sameInts_any (some ⟨g, 0, none⟩) (some ⟨g2, 0, none⟩) n c n2 c2 xs ys w128 (by omega) X_28.out Y_28.out)
        rw [Hq.out] at k29
        go_wp2_with fail
        refine (k29.out).mono ?_
        rintro ee w129 ⟨rfl, hb29⟩
        have Ht29 := Lib.hid (Ht28.out.trans (hb29.mono (by have h1 := Ht28.out.size; omega)))
        have X_29 := Lib.hid (X_28.out.below hb29)
        have Y_29 := Lib.hid (Y_28.out.below hb29)
        have Z_29 := Lib.hid (Z_28.out.below hb29)
        have V_29 := Lib.hid (V_28.out.below hb29)
        clear hb29
        go_wp2_with fail
        go_ret
        exact ⟨rfl, Ht29.out⟩
  · have hq := eqB_cmp (xs := xs) (ys := ys) (by omega)
    have hsw := T.cmpRow_swap (xs := xs) (ys := ys) (by omega)
    rw [hk] at hq hsw
    have Hq := Lib.hid hq
    have Hsw := Lib.hid hsw
    have Hk := Lib.hid hk
    clear hk hq hsw
    have k30 := Lib.hid (impl_OrdCompare (some ⟨g, 0, none⟩) (some ⟨g2, 0, none⟩) n c n2 c2 xs ys w1 X_0.out Y_0.out)
    rw [Hk.out] at k30
    go_wp2_with fail
    refine (k30.out).mono ?_
    rintro ee w130 ⟨rfl, hb30⟩
    have Ht30 := Lib.hid (Ht0.out.trans (hb30.mono (by have h1 := Ht0.out.size; omega)))
    have X_30 := Lib.hid (X_0.out.below hb30)
    have Y_30 := Lib.hid (Y_0.out.below hb30)
    clear hb30
    have k31 := Lib.hid (spec_OrdCompare (some ⟨g, 0, none⟩) (some ⟨g2, 0, none⟩) n c n2 c2 xs ys w130 X_30.out Y_30.out)
    rw [Hk.out] at k31
    go_wp2_with fail
    refine (k31.out).mono ?_
    rintro ee w131 ⟨rfl, hb31⟩
    have Ht31 := Lib.hid (Ht30.out.trans (hb31.mono (by have h1 := Ht30.out.size; omega)))
    have X_31 := Lib.hid (X_30.out.below hb31)
    have Y_31 := Lib.hid (Y_30.out.below hb31)
    clear hb31
    have k32 := Lib.hid (drawOrdCompare_any a2 len2 cap2 w131 (H2.out.below Ht31.out))
    go_wp2_with fail
    refine (k32.out).mono ?_
    rintro ee w132 ⟨zs, vs, gz, nz, cz, gv, nv, cv, hnz, hnv, rfl, ho, ho', hlz, hlv, hb32⟩
    have Ht32 := Lib.hid (Ht31.out.trans (hb32.mono (by have h1 := Ht31.out.size; omega)))
    have X_32 := Lib.hid (X_31.out.below hb32)
    have Y_32 := Lib.hid (Y_31.out.below hb32)
    have Z_32 := Lib.hid (Sl.of_own ho)
    have V_32 := Lib.hid (Sl.of_own ho')
    clear hb32 ho ho'
    have Hnz := Lib.hid hnz
    have Hnv := Lib.hid hnv
    clear hnz hnv
    rcases vld_tf zs with hvm | hvm
    · have Hvm := Lib.hid hvm
      clear hvm
      have k33 := Lib.hid (spec_valid (some ⟨gz, 0, none⟩) nz cz zs w132 Z_32.out Hvm.out)
      go_wp2_with fail
      refine (k33.out).mono ?_
      rintro ee w133 ⟨rfl, hb33⟩
      have Ht33 := Lib.hid (Ht32.out.trans (hb33.mono (by have h1 := Ht32.out.size; omega)))
      have X_33 := Lib.hid (X_32.out.below hb33)
      have Y_33 := Lib.hid (Y_32.out.below hb33)
      have Z_33 := Lib.hid (Z_32.out.below hb33)
      have V_33 := Lib.hid (V_32.out.below hb33)
      clear hb33
      rcases vld_tf vs with hvp | hvp
      · have Hvp := Lib.hid hvp
        clear hvp
        have k34 := Lib.hid (spec_valid (some ⟨gv, 0, none⟩) nv cv vs w133 V_33.out Hvp.out)
        go_wp2_with fail
        refine (k34.out).mono ?_
        rintro ee w134 ⟨rfl, hb34⟩
        have Ht34 := Lib.hid (Ht33.out.trans (hb34.mono (by have h1 := Ht33.out.size; omega)))
        have X_34 := Lib.hid (X_33.out.below hb34)
        have Y_34 := Lib.hid (Y_33.out.below hb34)
        have Z_34 := Lib.hid (Z_33.out.below hb34)
        have V_34 := Lib.hid (V_33.out.below hb34)
        clear hb34
        have k35 := Lib.hid (impl_OrdCompare (some ⟨g2, 0, none⟩) (some ⟨g, 0, none⟩) n2 c2 n c ys xs w134 Y_34.out X_34.out)
        rw [Hsw.out] at k35
        go_wp2_with fail
        refine (k35.out).mono ?_
        rintro ee w135 ⟨rfl, hb35⟩
        have Ht35 := Lib.hid (Ht34.out.trans (hb35.mono (by have h1 := Ht34.out.size; omega)))
        have X_35 := Lib.hid (X_34.out.below hb35)
        have Y_35 := Lib.hid (Y_34.out.below hb35)
        have Z_35 := Lib.hid (Z_34.out.below hb35)
        have V_35 := Lib.hid (V_34.out.below hb35)
        clear hb35
        have k36 := Lib.hid (sameInts_any (some ⟨g, 0, none⟩) (some ⟨g2, 0, none⟩) n c n2 c2 xs ys w135 (by omega) X_35.out Y_35.out)
        rw [Hq.out] at k36
        go_wp2_with fail
        refine (k36.out).mono ?_
        rintro ee w136 ⟨rfl, hb36⟩
        have Ht36 := Lib.hid (Ht35.out.trans (hb36.mono (by have h1 := Ht35.out.size; omega)))
        have X_36 := Lib.hid (X_35.out.below hb36)
        have Y_36 := Lib.hid (Y_35.out.below hb36)
        have Z_36 := Lib.hid (Z_35.out.below hb36)
        have V_36 := Lib.hid (V_35.out.below hb36)
        clear hb36
        go_wp2_with fail
        go_ret
        exact ⟨rfl, Ht36.out⟩
      · have Hvp := Lib.hid hvp
        clear hvp
        have k37 := Lib.hid (spec_valid (some ⟨gv, 0, none⟩) nv cv vs w133 V_33.out Hvp.out)
        go_wp2_with fail
        refine (k37.out).mono ?_
        rintro ee w137 ⟨rfl, hb37⟩
        have Ht37 := Lib.hid (Ht33.out.trans (hb37.mono (by have h1 := Ht33.out.size; omega)))
        have X_37 := Lib.hid (X_33.out.below hb37)
        have Y_37 := Lib.hid (Y_33.out.below hb37)
        have Z_37 := Lib.hid (Z_33.out.below hb37)
        have V_37 := Lib.hid (V_33.out.below hb37)
        clear hb37
        have k38 := Lib.hid (impl_OrdCompare (some ⟨g2, 0, none⟩) (some ⟨g, 0, none⟩) n2 c2 n c ys xs w137 Y_37.out X_37.out)
        rw [Hsw.out] at k38
        go_wp2_with fail
        refine (k38.out).mono ?_
        rintro ee w138 ⟨rfl, hb38⟩
        have Ht38 := Lib.hid (Ht37.out.trans (hb38.mono (by have h1 := Ht37.out.size; omega)))
        have X_38 := Lib.hid (X_37.out.below hb38)
        have Y_38 := Lib.hid (Y_37.out.below hb38)
        have Z_38 := Lib.hid (Z_37.out.below hb38)
        have V_38 := Lib.hid (V_37.out.below hb38)
        clear hb38
        have k39 := Lib.hid (sameInts_any (some ⟨g, 0, none⟩) (some ⟨g2, 0, none⟩) n c n2 c2 xs ys w138 (by omega) X_38.out Y_38.out)
        rw [Hq.out] at k39
        go_wp2_with fail
        refine (k39.out).mono ?_
        rintro ee w139 ⟨rfl, hb39⟩
        have Ht39 := Lib.hid (Ht38.out.trans (hb39.mono (by have h1 := Ht38.out.size; omega)))
        have X_39 := Lib.hid (X_38.out.below hb39)
        have Y_39 := Lib.hid (Y_38.out.below hb39)
        have Z_39 := Lib.hid (Z_38.out.below hb39)
        have V_39 := Lib.hid (V_38.out.below hb39)
        clear hb39
        go_wp2_with fail
        go_ret
        exact ⟨rfl, Ht39.out⟩
    · have Hvm := Lib.hid hvm
      clear hvm
      have k40 := Lib.hid (spec_valid (some ⟨gz, 0, none⟩) nz cz zs w132 Z_32.out Hvm.out)
      go_wp2_with fail
      refine (k40.out).mono ?_
      rintro ee w140 ⟨rfl, hb40⟩
      have Ht40 := Lib.hid (Ht32.out.trans (hb40.mono (by have h1 := Ht32.out.size; omega)))
      have X_40 := Lib.hid (X_32.out.below hb40)
      have Y_40 := Lib.hid (Y_32.out.below hb40)
      have Z_40 := Lib.hid (Z_32.out.below hb40)
      have V_40 := Lib.hid (V_32.out.below hb40)
      clear hb40
      rcases vld_tf vs with hvp | hvp
      · have Hvp := Lib.hid hvp
        clear hvp
        have k41 := Lib.hid (spec_valid (some ⟨gv, 0, none⟩) nv cv vs w140 V_40.out Hvp.out)
        go_wp2_with fail
        refine (k41.out).mono ?_
        rintro ee w141 ⟨rfl, hb41⟩
        have Ht41 := Lib.hid (Ht40.out.trans (hb41.mono (by have h1 := Ht40.out.size; omega)))
        have X_41 := Lib.hid (X_40.out.below hb41)
        have Y_41 := Lib.hid (Y_40.out.below hb41)
        have Z_41 := Lib.hid (Z_40.out.below hb41)
        have V_41 := Lib.hid (V_40.out.below hb41)
        clear hb41
        have k42 := Lib.hid (impl_OrdCompare (some ⟨g2, 0, none⟩) (some ⟨g, 0, none⟩) n2 c2 n c ys xs w141 Y_41.out X_41.out)
        rw [Hsw.out] at k42
        go_wp2_with fail
        refine (k42.out).mono ?_
        rintro ee w142 ⟨rfl, hb42⟩
        have Ht42 := Lib.hid (Ht41.out.trans (hb42.mono (by have h1 := Ht41.out.size; omega)))
        have X_42 := Lib.hid (X_41.out.below hb42)
        have Y_42 := Lib.hid (Y_41.out.below hb42)
        have Z_42 := Lib.hid (Z_41.out.below hb42)
        have V_42 := Lib.hid (V_41.out.below hb42)
        clear hb42
        have k43 := Lib.hid (sameInts_any (some ⟨g, 0, none⟩) (some ⟨g2, 0, none⟩) n c n2 c2 xs ys w142 (by omega) X_42.out Y_42.out)
        rw [Hq.out] at k43
        go_wp2_with fail
        refine (k43.out).mono ?_
        rintro ee w143 ⟨rfl, hb43⟩
        have Ht43 := Lib.hid (Ht42.out.trans (hb43.mono (by have h1 := Ht42.out.size; omega)))
        have X_43 := Lib.hid (X_42.out.below hb43)
        have Y_43 := Lib.hid (Y_42.out.below hb43)
        have Z_43 := Lib.hid (Z_42.out.below hb43)
        have V_43 := Lib.hid (V_42.out.below hb43)
        clear hb43
        go_wp2_with fail
        go_ret
        exact ⟨rfl, Ht43.out⟩
      · have Hvp := Lib.hid hvp
        clear hvp
        have k44 := Lib.hid (spec_valid (some ⟨gv, 0, none⟩) nv cv vs w140 V_40.out Hvp.out)
        go_wp2_with fail
        refine (k44.out).mono ?_
        rintro ee w144 ⟨rfl, hb44⟩
        have Ht44 := Lib.hid (Ht40.out.trans (hb44.mono (by have h1 := Ht40.out.size; omega)))
        have X_44 := Lib.hid (X_40.out.below hb44)
        have Y_44 := Lib.hid (Y_40.out.below hb44)
        have Z_44 := Lib.hid (Z_40.out.below hb44)
        have V_44 := Lib.hid (V_40.out.below hb44)
        clear hb44
        have k45 := Lib.hid (impl_OrdCompare (some ⟨g2, 0, none⟩) (some ⟨g, 0, none⟩) n2 c2 n c ys xs w144 Y_44.out X_44.out)
        rw [Hsw.out] at k45
        go_wp2_with fail
        refine (k45.out).mono ?_
        rintro ee w145 ⟨rfl, hb45⟩
        have Ht45 := Lib.hid (Ht44.out.trans (hb45.mono (by have h1 := Ht44.out.size; omega)))
        have X_45 := Lib.hid (X_44.out.below hb45)
        have Y_45 := Lib.hid (Y_44.out.below hb45)
        have Z_45 := Lib.hid (Z_44.out.below hb45)
        have V_45 := Lib.hid (V_44.out.below hb45)
        clear hb45
        have k46 := Lib.hid (sameInts_any (some ⟨g, 0, none⟩) (some ⟨g2, 0, none⟩) n c n2 c2 xs ys w145 (by omega) X_45.out Y_45.out)
        rw [Hq.out] at k46
        go_wp2_with fail
        refine (k46.out).mono ?_
        rintro ee w146 ⟨rfl, hb46⟩
        have Ht46 := Lib.hid (Ht45.out.trans (hb46.mono (by have h1 := Ht45.out.size; omega)))
        have X_46 := Lib.hid (X_45.out.below hb46)
        have Y_46 := Lib.hid (Y_45.out.below hb46)
        have Z_46 := Lib.hid (Z_45.out.below hb46)
        have V_46 := Lib.hid (V_45.out.below hb46)
        clear hb46
        go_wp2_with fail
        go_ret
        exact ⟨rfl, Ht46.out⟩
  · have hq := eqB_cmp (xs := xs) (ys := ys) (by omega)
    have hsw := T.cmpRow_swap (xs := xs) (ys := ys) (by omega)
    rw [hk] at hq hsw
    have Hq := Lib.hid hq
    have Hsw := Lib.hid hsw
    have Hk := Lib.hid hk
    clear hk hq hsw
    have k47 := Lib.hid (impl_OrdCompare (some ⟨g, 0, none⟩) (some ⟨g2, 0, none⟩) n c n2 c2 xs ys w1 X_0.out Y_0.out)
    rw [Hk.out] at k47
    go_wp2_with fail
    refine (k47.out).mono ?_
    rintro ee w147 ⟨rfl, hb47⟩
    have Ht47 := Lib.hid (Ht0.out.trans (hb47.mono (by have h1 := Ht0.out.size; omega)))
    have X_47 := Lib.hid (X_0.out.below hb47)
    have Y_47 := Lib.hid (Y_0.out.below hb47)
    clear hb47
    have k48 := Lib.hid (spec_OrdCompare (some ⟨g, 0, none⟩) (some ⟨g2, 0, none⟩) n c n2 c2 xs ys w147 X_47.out Y_47.out)
    rw [Hk.out] at k48
    go_wp2_with fail
    refine (k48.out).mono ?_
    rintro ee w148 ⟨rfl, hb48⟩
    have Ht48 := Lib.hid (Ht47.out.trans (hb48.mono (by have h1 := Ht47.out.size; omega)))
    have X_48 := Lib.hid (X_47.out.below hb48)
    have Y_48 := Lib.hid (Y_47.out.below hb48)
    clear hb48
    have k49 := Lib.hid (drawOrdCompare_any a2 len2 cap2 w148 (H2.out.below Ht48.out))
    go_wp2_with fail
    refine (k49.out).mono ?_
    rintro ee w149 ⟨zs, vs, gz, nz, cz, gv, nv, cv, hnz, hnv, rfl, ho, ho', hlz, hlv, hb49⟩
    have Ht49 := Lib.hid (Ht48.out.trans (hb49.mono (by have h1 := Ht48.out.size; omega)))
    have X_49 := Lib.hid (X_48.out.below hb49)
    have Y_49 := Lib.hid (Y_48.out.below hb49)
    have Z_49 := Lib.hid (Sl.of_own ho)
    have V_49 := Lib.hid (Sl.of_own ho')
    clear hb49 ho ho'
    have Hnz := Lib.hid hnz
    have Hnv := Lib.hid hnv
    clear hnz hnv
    rcases vld_tf zs with hvm | hvm
    · have Hvm := Lib.hid hvm
      clear hvm
      have k50 := Lib.hid (spec_valid (some ⟨gz, 0, none⟩) nz cz zs w149 Z_49.out Hvm.out)
      go_wp2_with fail
      refine (k50.out).mono ?_
      rintro ee w150 ⟨rfl, hb50⟩
      have Ht50 := Lib.hid (Ht49.out.trans (hb50.mono (by have h1 := Ht49.out.size; omega)))
      have X_50 := Lib.hid (X_49.out.below hb50)
      have Y_50 := Lib.hid (Y_49.out.below hb50)
      have Z_50 := Lib.hid (Z_49.out.below hb50)
      have V_50 := Lib.hid (V_49.out.below hb50)
      clear hb50
      rcases vld_tf vs with hvp | hvp
      · have Hvp := Lib.hid hvp
        clear hvp
        have k51 := Lib.hid (spec_valid (some ⟨gv, 0, none⟩) nv cv vs w150 V_50.out Hvp.out)
        go_wp2_with fail
        refine (k51.out).mono ?_
        rintro ee w151 ⟨rfl, hb51⟩
        have Ht51 := Lib.hid (Ht50.out.trans (hb51.mono (by have h1 := Ht50.out.size; omega)))
        have X_51 := Lib.hid (X_50.out.below hb51)
        have Y_51 := Lib.hid (Y_50.out.below hb51)
        have Z_51 := Lib.hid (Z_50.out.below hb51)
        have V_51 := Lib.hid (V_50.out.below hb51)
        clear hb51
        obtain ⟨qp, hqp⟩ : ∃ q, q = T.cmpRow ys vs := ⟨_, rfl⟩
        by_cases hqv : qp = 1
        · have htr : T.cmpRow xs vs = 1 := T.cmpRow_trans' Hk.out (by rw [← hqp]; exact hqv)
          have Htr := Lib.hid htr
          have Hqq := Lib.hid (hqp.symm.trans hqv)
          clear htr hqp hqv
          have k52 := Lib.hid (impl_OrdCompare (some ⟨g2, 0, none⟩) (some ⟨gv, 0, none⟩) n2 c2 nv cv ys vs w151 Y_51.out V_51.out)
          rw [Hqq.out] at k52
          go_wp2_with fail
          refine (k52.out).mono ?_
          rintro ee w152 ⟨rfl, hb52⟩
          have Ht52 := Lib.hid (Ht51.out.trans (hb52.mono (by have h1 := Ht51.out.size; omega)))
          have X_52 := Lib.hid (X_51.out.below hb52)
          have Y_52 := Lib.hid (Y_51.out.below hb52)
          have Z_52 := Lib.hid (Z_51.out.below hb52)
          have V_52 := Lib.hid (V_51.out.below hb52)
          clear hb52
          have k53 := Lib.hid (impl_OrdCompare (some ⟨g, 0, none⟩) (some ⟨gv, 0, none⟩) n c nv cv xs vs w152 X_52.out V_52.out)
          rw [Htr.out] at k53
          go_wp2_with fail
          refine (k53.out).mono ?_
          rintro ee w153 ⟨rfl, hb53⟩
          have Ht53 := Lib.hid (Ht52.out.trans (hb53.mono (by have h1 := Ht52.out.size; omega)))
          have X_53 := Lib.hid (X_52.out.below hb53)
          have Y_53 := Lib.hid (Y_52.out.below hb53)
          have Z_53 := Lib.hid (Z_52.out.below hb53)
          have V_53 := Lib.hid (V_52.out.below hb53)
          clear hb53
          have k54 := Lib.hid (impl_OrdCompare (some ⟨g2, 0, none⟩) (some ⟨g, 0, none⟩) n2 c2 n c ys xs w153 Y_53.out X_53.out)
          rw [Hsw.out] at k54
          go_wp2_with fail
          refine (k54.out).mono ?_
          rintro ee w154 ⟨rfl, hb54⟩
          have Ht54 := Lib.hid (Ht53.out.trans (hb54.mono (by have h1 := Ht53.out.size; omega)))
          have X_54 := Lib.hid (X_53.out.below hb54)
          have Y_54 := Lib.hid (Y_53.out.below hb54)
          have Z_54 := Lib.hid (Z_53.out.below hb54)
          have V_54 := Lib.hid (V_53.out.below hb54)
          clear hb54
          have k55 := Lib.hid (sameInts_any (some ⟨g, 0, none⟩) (some ⟨g2, 0, none⟩) n c n2 c2 xs ys w154 (by omega) X_54.out Y_54.out)
          rw [Hq.out] at k55
          go_wp2_with fail
          refine (k55.out).mono ?_
          rintro ee w155 ⟨rfl, hb55⟩
          have Ht55 := Lib.hid (Ht54.out.trans (hb55.mono (by have h1 := Ht54.out.size; omega)))
          have X_55 := Lib.hid (X_54.out.below hb55)
          have Y_55 := Lib.hid (Y_54.out.below hb55)
          have Z_55 := Lib.hid (Z_54.out.below hb55)
          have V_55 := Lib.hid (V_54.out.below hb55)
          clear hb55
          go_wp2_with fail
          go_ret
          exact ⟨rfl, Ht55.out⟩
        · have hqb : (qp == 1) = false := by simpa using hqv
          have Hqq := Lib.hid hqp
          clear hqp hqv
          have k56 := Lib.hid (impl_OrdCompare (some ⟨g2, 0, none⟩) (some ⟨gv, 0, none⟩) n2 c2 nv cv ys vs w151 Y_51.out V_51.out)
          rw [← Hqq.out] at k56
          go_wp2_with fail
          refine (k56.out).mono ?_
          rintro ee w156 ⟨rfl, hb56⟩
          have Ht56 := Lib.hid (Ht51.out.trans (hb56.mono (by have h1 := Ht51.out.size; omega)))
          have X_56 := Lib.hid (X_51.out.below hb56)
          have Y_56 := Lib.hid (Y_51.out.below hb56)
          have Z_56 := Lib.hid (Z_51.out.below hb56)
          have V_56 := Lib.hid (V_51.out.below hb56)
          clear hb56
          have k57 := Lib.hid (impl_OrdCompare (some ⟨g2, 0, none⟩) (some ⟨g, 0, none⟩) n2 c2 n c ys xs w156 Y_56.out X_56.out)
          rw [Hsw.out] at k57
          go_wp2_with fail
          refine (k57.out).mono ?_
          rintro ee w157 ⟨rfl, hb57⟩
          have Ht57 := Lib.hid (Ht56.out.trans (hb57.mono (by have h1 := Ht56.out.size; omega)))
          have X_57 := Lib.hid (X_56.out.below hb57)
          have Y_57 := Lib.hid (Y_56.out.below hb57)
          have Z_57 := Lib.hid (Z_56.out.below hb57)
          have V_57 := Lib.hid (V_56.out.below hb57)
          clear hb57
          have k58 := Lib.hid (sameInts_any (some ⟨g, 0, none⟩) (some ⟨g2, 0, none⟩) n c n2 c2 xs ys w157 (by omega) X_57.out Y_57.out)
          rw [Hq.out] at k58
          go_wp2_with fail
          refine (k58.out).mono ?_
          rintro ee w158 ⟨rfl, hb58⟩
          have Ht58 := Lib.hid (Ht57.out.trans (hb58.mono (by have h1 := Ht57.out.size; omega)))
          have X_58 := Lib.hid (X_57.out.below hb58)
          have Y_58 := Lib.hid (Y_57.out.below hb58)
          have Z_58 := Lib.hid (Z_57.out.below hb58)
          have V_58 := Lib.hid (V_57.out.below hb58)
          clear hb58
          go_wp2_with fail
          go_ret
          exact ⟨rfl, Ht58.out⟩
      · have Hvp := Lib.hid hvp
        clear hvp
        have k59 := Lib.hid (spec_valid (some ⟨gv, 0, none⟩) nv cv vs w150 V_50.out Hvp.out)
        go_wp2_with fail
        refine (k59.out).mono ?_
        rintro ee w159 ⟨rfl, hb59⟩
        have Ht59 := Lib.hid (Ht50.out.trans (hb59.mono (by have h1 := Ht50.out.size; omega)))
        have X_59 := Lib.hid (X_50.out.below hb59)
        have Y_59 := Lib.hid (Y_50.out.below hb59)
        have Z_59 := Lib.hid (Z_50.out.below hb59)
        have V_59 := Lib.hid (V_50.out.below hb59)
        clear hb59
        have k60 := Lib.hid (impl_OrdCompare (some ⟨g2, 0, none⟩) (some ⟨g, 0, none⟩) n2 c2 n c ys xs w159 Y_59.out X_59.out)
        rw [Hsw.out] at k60
        go_wp2_with fail
        refine (k60.out).mono ?_
        rintro ee w160 ⟨rfl, hb60⟩
        have Ht60 := Lib.hid (Ht59.out.trans (hb60.mono (by have h1 := Ht59.out.size; omega)))
        have X_60 := Lib.hid (X_59.out.below hb60)
        have Y_60 := Lib.hid (Y_59.out.below hb60)
        have Z_60 := Lib.hid (Z_59.out.below hb60)
        have V_60 := Lib.hid (V_59.out.below hb60)
        clear hb60
        have k61 := Lib.hid (sameInts_any (some ⟨g, 0, none⟩) (some ⟨g2, 0, none⟩) n c n2 c2 xs ys w160 (by omega) X_60.out Y_60.out)
        rw [Hq.out] at k61
        go_wp2_with fail
        refine (k61.out).mono ?_
        rintro ee w161 ⟨rfl, hb61⟩
        have Ht61 := Lib.hid (Ht60.out.trans (hb61.mono (by have h1 := Ht60.out.size; omega)))
        have X_61 := Lib.hid (X_60.out.below hb61)
        have Y_61 := Lib.hid (Y_60.out.below hb61)
        have Z_61 := Lib.hid (Z_60.out.below hb61)
        have V_61 := Lib.hid (V_60.out.below hb61)
        clear hb61
        go_wp2_with fail
        go_ret
        exact ⟨rfl, Ht61.out⟩
    · have Hvm := Lib.hid hvm
      clear hvm
      have k62 := Lib.hid (spec_valid (some ⟨gz, 0, none⟩) nz cz zs w149 Z_49.out Hvm.out)
      go_wp2_with fail
      refine (k62.out).mono ?_
      rintro ee w162 ⟨rfl, hb62⟩
      have Ht62 := Lib.hid (Ht49.out.trans (hb62.mono (by have h1 := Ht49.out.size; omega)))
      have X_62 := Lib.hid (X_49.out.below hb62)
      have Y_62 := Lib.hid (Y_49.out.below hb62)
      have Z_62 := Lib.hid (Z_49.out.below hb62)
      have V_62 := Lib.hid (V_49.out.below hb62)
      clear hb62
      rcases vld_tf vs with hvp | hvp
      · have Hvp := Lib.hid hvp
        clear hvp
        have k63 := Lib.hid (spec_valid (some ⟨gv, 0, none⟩) nv cv vs w162 V_62.out Hvp.out)
        go_wp2_with fail
        refine (k63.out).mono ?_
        rintro ee w163 ⟨rfl, hb63⟩
        have Ht63 := Lib.hid (Ht62.out.trans (hb63.mono (by have h1 := Ht62.out.size; omega)))
        have X_63 := Lib.hid (X_62.out.below hb63)
        have Y_63 := Lib.hid (Y_62.out.below hb63)
        have Z_63 := Lib.hid (Z_62.out.below hb63)
        have V_63 := Lib.hid (V_62.out.below hb63)
        clear hb63
        obtain ⟨qp, hqp⟩ : ∃ q, q = T.cmpRow ys vs := ⟨_, rfl⟩
        by_cases hqv : qp = 1
        · have htr : T.cmpRow xs vs = 1 := T.cmpRow_trans' Hk.out (by rw [← hqp]; exact hqv)
          have Htr := Lib.hid htr
          have Hqq := Lib.hid (hqp.symm.trans hqv)
          clear htr hqp hqv
          have k64 := Lib.hid (impl_OrdCompare (some ⟨g2, 0, none⟩) (some ⟨gv, 0, none⟩) n2 c2 nv cv ys vs w163 Y_63.out V_63.out)
          rw [Hqq.out] at k64
          go_wp2_with fail
          refine (k64.out).mono ?_
          rintro ee w164 ⟨rfl, hb64⟩
          have Ht64 := Lib.hid (Ht63.out.trans (hb64.mono (by have h1 := Ht63.out.size; omega)))
          have X_64 := Lib.hid (X_63.out.below hb64)
          have Y_64 := Lib.hid (Y_63.out.below hb64)
          have Z_64 := Lib.hid (Z_63.out.below hb64)
          have V_64 := Lib.hid (V_63.out.below hb64)
          clear hb64
          have k65 := Lib.hid (impl_OrdCompare (some ⟨g, 0, none⟩) (some ⟨gv, 0, none⟩) n c nv cv xs vs w164 X_64.out V_64.out)
          rw [Htr.out] at k65
          go_wp2_with fail
          refine (k65.out).mono ?_
          rintro ee w165 ⟨rfl, hb65⟩
          have Ht65 := Lib.hid (Ht64.out.trans (hb65.mono (by have h1 := Ht64.out.size; omega)))
          have X_65 := Lib.hid (X_64.out.below hb65)
          have Y_65 := Lib.hid (Y_64.out.below hb65)
          have Z_65 := Lib.hid (Z_64.out.below hb65)
          have V_65 := Lib.hid (V_64.out.below hb65)
          clear hb65
          have k66 := Lib.hid (impl_OrdCompare (some ⟨g2, 0, none⟩) (some ⟨g, 0, none⟩) n2 c2 n c ys xs w165 Y_65.out X_65.out)
          rw [Hsw.out] at k66
          go_wp2_with fail
          refine (k66.out).mono ?_
          rintro ee w166 ⟨rfl, hb66⟩
          have Ht66 := Lib.hid (Ht65.out.trans (hb66.mono (by have h1 := Ht65.out.size; omega)))
          have X_66 := Lib.hid (X_65.out.below hb66)
          have Y_66 := Lib.hid (Y_65.out.below hb66)
          have Z_66 := Lib.hid (Z_65.out.below hb66)
          have V_66 := Lib.hid (V_65.out.below hb66)
          clear hb66
          have k67 := Lib.hid (sameInts_any (some ⟨g, 0, none⟩) (some ⟨g2, 0, none⟩) n c n2 c2 xs ys w166 (by omega) X_66.out Y_66.out)
          rw [Hq.out] at k67
          go_wp2_with fail
          refine (k67.out).mono ?_
          rintro ee w167 ⟨rfl, hb67⟩
          have Ht67 := Lib.hid (Ht66.out.trans (hb67.mono (by have h1 := Ht66.out.size; omega)))
          have X_67 := Lib.hid (X_66.out.below hb67)
          have Y_67 := Lib.hid (Y_66.out.below hb67)
          have Z_67 := Lib.hid (Z_66.out.below hb67)
          have V_67 := Lib.hid (V_66.out.below hb67)
          clear hb67
          go_wp2_with fail
          go_ret
          exact ⟨rfl, Ht67.out⟩
        · have hqb : (qp == 1) = false := by simpa using hqv
          have Hqq := Lib.hid hqp
          clear hqp hqv
          have k68 := Lib.hid (impl_OrdCompare (some ⟨g2, 0, none⟩) (some ⟨gv, 0, none⟩) n2 c2 nv cv ys vs w163 Y_63.out V_63.out)
          rw [← Hqq.out] at k68
          go_wp2_with fail
          refine (k68.out).mono ?_
          rintro ee w168 ⟨rfl, hb68⟩
          have Ht68 := Lib.hid (Ht63.out.trans (hb68.mono (by have h1 := Ht63.out.size; omega)))
          have X_68 := Lib.hid (X_63.out.below hb68)
          have Y_68 := Lib.hid (Y_63.out.below hb68)
          have Z_68 := Lib.hid (Z_63.out.below hb68)
          have V_68 := Lib.hid (V_63.out.below hb68)
          clear hb68
          have k69 := Lib.hid (impl_OrdCompare (some ⟨g2, 0, none⟩) (some ⟨g, 0, none⟩) n2 c2 n c ys xs w168 Y_68.out X_68.out)
          rw [Hsw.out] at k69
          go_wp2_with fail
          refine (k69.out).mono ?_
          rintro ee w169 ⟨rfl, hb69⟩
          have Ht69 := Lib.hid (Ht68.out.trans (hb69.mono (by have h1 := Ht68.out.size; omega)))
          have X_69 := Lib.hid (X_68.out.below hb69)
          have Y_69 := Lib.hid (Y_68.out.below hb69)
          have Z_69 := Lib.hid (Z_68.out.below hb69)
          have V_69 := Lib.hid (V_68.out.below hb69)
          clear hb69
          have k70 := Lib.hid (sameInts_any (some ⟨g, 0, none⟩) (some ⟨g2, 0, none⟩) n c n2 c2 xs ys w169 (by omega) X_69.out Y_69.out)
          rw [Hq.out] at k70
          go_wp2_with fail
          refine (k70.out).mono ?_
          rintro ee w170 ⟨rfl, hb70⟩
          have Ht70 := Lib.hid (Ht69.out.trans (hb70.mono (by have h1 := Ht69.out.size; omega)))
          have X_70 := Lib.hid (X_69.out.below hb70)
          have Y_70 := Lib.hid (Y_69.out.below hb70)
          have Z_70 := Lib.hid (Z_69.out.below hb70)
          have V_70 := Lib.hid (V_69.out.below hb70)
          clear hb70
          go_wp2_with fail
          go_ret
          exact ⟨rfl, Ht70.out⟩
      · have Hvp := Lib.hid hvp
        clear hvp
        have k71 := Lib.hid (spec_valid (some ⟨gv, 0, none⟩) nv cv vs w162 V_62.out Hvp.out)
        go_wp2_with fail
        refine (k71.out).mono ?_
        rintro ee w171 ⟨rfl, hb71⟩
        have Ht71 := Lib.hid (Ht62.out.trans (hb71.mono (by have h1 := Ht62.out.size; omega)))
        have X_71 := Lib.hid (X_62.out.below hb71)
        have Y_71 := Lib.hid (Y_62.out.below hb71)
        have Z_71 := Lib.hid (Z_62.out.below hb71)
        have V_71 := Lib.hid (V_62.out.below hb71)
        clear hb71
        have k72 := Lib.hid (impl_OrdCompare (some ⟨g2, 0, none⟩) (some ⟨g, 0, none⟩) n2 c2 n c ys xs w171 Y_71.out X_71.out)
        rw [Hsw.out] at k72
        go_wp2_with fail
        refine (k72.out).mono ?_
        rintro ee w172 ⟨rfl, hb72⟩
        have Ht72 := Lib.hid (Ht71.out.trans (hb72.mono (by have h1 := Ht71.out.size; omega)))
        have X_72 := Lib.hid (X_71.out.below hb72)
        have Y_72 := Lib.hid (Y_71.out.below hb72)
        have Z_72 := Lib.hid (Z_71.out.below hb72)
        have V_72 := Lib.hid (V_71.out.below hb72)
        clear hb72
        have k73 := Lib.hid (sameInts_any (some ⟨g, 0, none⟩) (some ⟨g2, 0, none⟩) n c n2 c2 xs ys w172 (by omega) X_72.out Y_72.out)
        rw [Hq.out] at k73
        go_wp2_with fail
        refine (k73.out).mono ?_
        rintro ee w173 ⟨rfl, hb73⟩
        have Ht73 := Lib.hid (Ht72.out.trans (hb73.mono (by have h1 := Ht72.out.size; omega)))
        have X_73 := Lib.hid (X_72.out.below hb73)
        have Y_73 := Lib.hid (Y_72.out.below hb73)
        have Z_73 := Lib.hid (Z_72.out.below hb73)
        have V_73 := Lib.hid (V_72.out.below hb73)
        clear hb73
        go_wp2_with fail
        go_ret
        exact ⟨rfl, Ht73.out⟩

end Go.Proofs.Ytobookpaadpolaa

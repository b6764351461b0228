/- FnOrdStep: the walk of the law. -/
import Derived.Test.YtdcaefgbpnjjaabDrawS
import Derived.Test.YtdcaefgbpnjjaabStepsL
import Derived.Test.YtdcaefgbpnjjaabStepS
import Derived.Test.YtdcaefgbpnjjaabMost
import Derived.Test.YtdcaefgbpnjjaabFn3
import Derived.Test.YtdcaefgbpnjjaabFn1
namespace Go.Proofs.Ytdcaefgbpnjjaab
open Go.RowKit

set_option maxHeartbeats 4000000 in
theorem fnOrdStep_walk (a : Option Addr) (len cap : Nat) (a2 : Option Addr) (len2 cap2 : Nat) (w : World) (h : By w a len cap) (h2 : By w a2 len2 cap2) :
    Calls Try.prog 3 #[.slice a len cap, .slice a2 len2 cap2] w fun e w' => e = .returned (.bool true) ∧ Below w.heap.size w w' := by
  have hlm : len ≤ 9223372036854775807 := by have := h.1; have := h.2.1; unfold maxLen at this; omega
  have hlm2 : len2 ≤ 9223372036854775807 := by have := h2.1; have := h2.2.1; unfold maxLen at this; omega
  by_cases hbig : 1048576 < len
  · clear h h2
    go_enter Try.func3, Try.ntmps3
    go_wp2_with fail
    go_ret
    exact ⟨rfl, Below.refl _ _⟩
  by_cases hbig2 : 1048576 < len2
  · clear h h2
    go_enter Try.func3, Try.ntmps3
    go_wp2_with fail
    go_ret
    exact ⟨rfl, Below.refl _ _⟩
  have k0 := Lib.hid (drawOrdStep_any a len cap w h)
  have H2 := Lib.hid h2
  clear h h2
  go_enter Try.func3, Try.ntmps3
  go_wp2_with fail
  refine (k0.out).mono ?_
  rintro ee w1 ⟨xs, V, g, n, c, hn, hV0, hV1, rfl, ho, hl, hb0⟩
  have Hn := Lib.hid hn
  clear hn
  have X_0 := Lib.hid (Sl.of_own ho)
  have Ht0 := Lib.hid hb0
  have hws := hb0.size
  clear ho hb0
  cases hok : T.stepOk xs V with
  | false =>
    have hbr := T.stepOk_false hok
    have Hok := Lib.hid hok
    have Hbr := Lib.hid hbr
    clear hok hbr
    have k1 := Lib.hid (impl_OrdStep (some ⟨g, 0, none⟩) n c xs V w1 X_0.out (by omega) (by omega))
    unfold OrdOkPost at k1
    rw [Hbr.out, Hok.out, List.length_nil] at k1
    go_wp2_with fail
    refine (k1.out).mono ?_
    rintro ee w101 ⟨aP, cP, rfl, ho, hb1⟩
    have Ht1 := Lib.hid (Ht0.out.trans (hb1.mono (by have h1 := Ht0.out.size; omega)))
    have X_1 := Lib.hid (X_0.out.below hb1)
    have P_1 := Lib.hid (Sl.of_own ho)
    clear hb1 ho
    have k2 := Lib.hid (spec_OrdStep (some ⟨g, 0, none⟩) n c xs V w101 X_1.out (by omega) (by omega))
    unfold OrdOkPost at k2
    rw [Hbr.out, Hok.out, List.length_nil] at k2
    go_wp2_with fail
    refine (k2.out).mono ?_
    rintro ee w102 ⟨aQ, cQ, rfl, ho, hb2⟩
    have Ht2 := Lib.hid (Ht1.out.trans (hb2.mono (by have h1 := Ht1.out.size; omega)))
    have X_2 := Lib.hid (X_1.out.below hb2)
    have P_2 := Lib.hid (P_1.out.below hb2)
    have Q_2 := Lib.hid (Sl.of_own ho)
    clear hb2 ho
    have k3 := Lib.hid (sameInts_any aP aQ 0 cP 0 cQ [] [] w102 (by decide) P_2.out Q_2.out)
    rw [eqB_refl] at k3
    go_wp2_with fail
    refine (k3.out).mono ?_
    rintro ee w103 ⟨rfl, hb3⟩
    have Ht3 := Lib.hid (Ht2.out.trans (hb3.mono (by have h1 := Ht2.out.size; omega)))
    have X_3 := Lib.hid (X_2.out.below hb3)
    have P_3 := Lib.hid (P_2.out.below hb3)
    have Q_3 := Lib.hid (Q_2.out.below hb3)
    clear hb3
    have k4 := Lib.hid (alive_any w103)
    go_wp2_with fail
    refine (k4.out).mono ?_
    rintro ee w104 ⟨rfl, hb4⟩
    have Ht4 := Lib.hid (Ht3.out.trans (hb4.mono (by have h1 := Ht3.out.size; omega)))
    have X_4 := Lib.hid (X_3.out.below hb4)
    have P_4 := Lib.hid (P_3.out.below hb4)
    have Q_4 := Lib.hid (Q_3.out.below hb4)
    clear hb4
    go_wp2_with fail
    go_ret
    exact ⟨rfl, Ht4.out⟩
  | true =>
    have hv := (T.stepOk_true hok).1
    have f4 := (T.stepOk_true hok).2.2.2.1
    have hV2 := (T.stepOk_true hok).2.1
    have hV3 := (T.stepOk_true hok).2.2.1
    have f1 := T.stepRow_lt hok
    have f2 := T.stepRow_mono hok
    have f3 := fun zs => T.stepRow_over (zs := zs) hok
    have f5 : xs = [0] → T.stepRow xs V = xs := fun h => by subst h; exact T.stepRow_zero hok
    have f6 := T.mostRow_cases hv
    have f7 := T.kindRow_zero xs
    have f8 := kindRow_vals xs
    have f9 : T.kindRow xs ≠ -1 := by rw [T.kindRow, if_pos hv]; rcases T.kind_vals (T.of xs) with ⟨h, _⟩ | ⟨h, _⟩ <;> omega
    obtain ⟨br, hbr⟩ : ∃ br, br = T.stepRow xs V := ⟨_, rfl⟩
    have hbl : br.length ≤ 1000 := by rw [hbr]; exact T.stepRow_len xs V
    rw [← hbr] at f1 f2 f3 f4 f5
    obtain ⟨kv, hkv⟩ : ∃ x, x = T.kindRow xs := ⟨_, rfl⟩
    rw [← hkv] at f2 f3 f7 f8 f9
    have F1 := Lib.hid f1
    have F2 := Lib.hid f2
    have F3 := Lib.hid f3
    have F4 := Lib.hid f4
    have F5 := Lib.hid f5
    have F6 := Lib.hid f6
    have F7 := Lib.hid f7
    have F8 := Lib.hid f8
    have F9 := Lib.hid f9
    have Hok := Lib.hid hok
    have Hbr := Lib.hid hbr
    have Hkv := Lib.hid hkv
    clear hv f1 f2 f3 f4 f5 f6 f7 f8 f9 hok hbr hkv
    have k5 := Lib.hid (impl_OrdStep (some ⟨g, 0, none⟩) n c xs V w1 X_0.out (by omega) (by omega))
    unfold OrdOkPost at k5
    rw [← Hbr.out, Hok.out] at k5
    go_wp2_with fail
    refine (k5.out).mono ?_
    rintro ee w105 ⟨aP, cP, rfl, ho, hb5⟩
    have Ht5 := Lib.hid (Ht0.out.trans (hb5.mono (by have h1 := Ht0.out.size; omega)))
    have X_5 := Lib.hid (X_0.out.below hb5)
    have P_5 := Lib.hid (Sl.of_own ho)
    clear hb5 ho
    have k6 := Lib.hid (spec_OrdStep (some ⟨g, 0, none⟩) n c xs V w105 X_5.out (by omega) (by omega))
    unfold OrdOkPost at k6
    rw [← Hbr.out, Hok.out] at k6
    go_wp2_with fail
    refine (k6.out).mono ?_
    rintro ee w106 ⟨aQ, cQ, rfl, ho, hb6⟩
    have Ht6 := Lib.hid (Ht5.out.trans (hb6.mono (by have h1 := Ht5.out.size; omega)))
    have X_6 := Lib.hid (X_5.out.below hb6)
    have P_6 := Lib.hid (P_5.out.below hb6)
    have Q_6 := Lib.hid (Sl.of_own ho)
    clear hb6 ho
    have k7 := Lib.hid (sameInts_any aP aQ br.length cP br.length cQ br br w106 (by omega) P_6.out Q_6.out)
    rw [eqB_refl] at k7
    go_wp2_with fail
    refine (k7.out).mono ?_
    rintro ee w107 ⟨rfl, hb7⟩
    have Ht7 := Lib.hid (Ht6.out.trans (hb7.mono (by have h1 := Ht6.out.size; omega)))
    have X_7 := Lib.hid (X_6.out.below hb7)
    have P_7 := Lib.hid (P_6.out.below hb7)
    have Q_7 := Lib.hid (Q_6.out.below hb7)
    clear hb7
    by_cases hx : xs = [0]
    · have hn1 : n = 1 := by have := Hn.out; rw [hx] at this; exact this
      have hbx := F5.out hx
      have Hbx := Lib.hid hbx
      have hnb : ((n : Int) == 1) = true := by rw [hn1]; rfl
      clear hx hbx hn1
      have k8 := Lib.hid (sameInts_any aP (some ⟨g, 0, none⟩) br.length cP n c br xs w107 (by omega) P_7.out X_7.out)
      rw [show eqB br xs = true by rw [Hbx.out, eqB_refl]] at k8
      go_wp2_with fail
      refine (k8.out).mono ?_
      rintro ee w108 ⟨rfl, hb8⟩
      have Ht8 := Lib.hid (Ht7.out.trans (hb8.mono (by have h1 := Ht7.out.size; omega)))
      have X_8 := Lib.hid (X_7.out.below hb8)
      have P_8 := Lib.hid (P_7.out.below hb8)
      have Q_8 := Lib.hid (Q_7.out.below hb8)
      clear hb8
      go_wp2_with fail
      go_ret
      exact ⟨rfl, Ht8.out⟩
    have hn3 : 3 ≤ n := by
      rcases F6.out with ⟨h, _⟩ | ⟨k1, m1, ys, h, hy, _⟩
      · exact absurd h hx
      · have := Hn.out; rw [h] at this; simp at this; omega
    have hnb : ((n : Int) == 1) = false := by simp; omega
    have hk12 : kv = 1 ∨ kv = 2 := by
      have h1 : kv ≠ 0 := fun h => hx (F7.out.1 h)
      have := F8.out
      have := F9.out
      omega
    have f1 := F1.out hx
    have G1 := Lib.hid f1
    clear hx f1
    have k9 := Lib.hid (impl_OrdKind (some ⟨g, 0, none⟩) n c xs w107 X_7.out)
    rw [← Hkv.out] at k9
    go_wp2_with fail
    refine (k9.out).mono ?_
    rintro ee w109 ⟨rfl, hb9⟩
    have Ht9 := Lib.hid (Ht7.out.trans (hb9.mono (by have h1 := Ht7.out.size; omega)))
    have X_9 := Lib.hid (X_7.out.below hb9)
    have P_9 := Lib.hid (P_7.out.below hb9)
    have Q_9 := Lib.hid (Q_7.out.below hb9)
    clear hb9
    obtain ⟨nr, hnr⟩ : ∃ x, x = T.stepRow xs (V + 1) := ⟨_, rfl⟩
    have Hnr := Lib.hid hnr
    clear hnr
    obtain ⟨no, hno⟩ : ∃ x, x = T.stepOk xs (V + 1) := ⟨_, rfl⟩
    have Hno := Lib.hid hno
    clear hno
    have k10 := Lib.hid (impl_OrdStep (some ⟨g, 0, none⟩) n c xs (V + 1) w109 X_9.out (by omega) (by omega))
    unfold OrdOkPost at k10
    rw [← Hnr.out, ← Hno.out] at k10
    go_wp2_with fail
    refine (k10.out).mono ?_
    rintro ee w110 ⟨aN, cN, rfl, ho, hb10⟩
    have Ht10 := Lib.hid (Ht9.out.trans (hb10.mono (by have h1 := Ht9.out.size; omega)))
    have X_10 := Lib.hid (X_9.out.below hb10)
    have P_10 := Lib.hid (P_9.out.below hb10)
    have Q_10 := Lib.hid (Q_9.out.below hb10)
    have N_10 := Lib.hid (Sl.of_own ho)
    clear hb10 ho
    have k11 := Lib.hid (drawOrdStep_any a2 len2 cap2 w110 (H2.out.later Ht10.out))
    go_wp2_with fail
    refine (k11.out).mono ?_
    rintro ee w111 ⟨zs, V2, gz, nz, cz, hnz, _, _, rfl, ho, hlz, hb11⟩
    have Ht11 := Lib.hid (Ht10.out.trans (hb11.mono (by have h1 := Ht10.out.size; omega)))
    have X_11 := Lib.hid (X_10.out.below hb11)
    have P_11 := Lib.hid (P_10.out.below hb11)
    have Q_11 := Lib.hid (Q_10.out.below hb11)
    have N_11 := Lib.hid (N_10.out.below hb11)
    have Z_11 := Lib.hid (Sl.of_own ho)
    clear hb11 ho
    have Hnz := Lib.hid hnz
    clear hnz
    obtain ⟨hz0, hz9⟩ := T.mostRow_bnd zs
    obtain ⟨zv, hzv⟩ : ∃ x, x = T.mostRow zs := ⟨_, rfl⟩
    rw [← hzv] at hz0 hz9
    have Hzv := Lib.hid hzv
    clear hzv
    have k12 := Lib.hid (impl_OrdMost (some ⟨gz, 0, none⟩) nz cz zs w111 Z_11.out)
    rw [← Hzv.out] at k12
    go_wp2_with fail
    refine (k12.out).mono ?_
    rintro ee w112 ⟨rfl, hb12⟩
    have Ht12 := Lib.hid (Ht11.out.trans (hb12.mono (by have h1 := Ht11.out.size; omega)))
    have X_12 := Lib.hid (X_11.out.below hb12)
    have P_12 := Lib.hid (P_11.out.below hb12)
    have Q_12 := Lib.hid (Q_11.out.below hb12)
    have N_12 := Lib.hid (N_11.out.below hb12)
    have Z_12 := Lib.hid (Z_11.out.below hb12)
    clear hb12
    rcases hk12 with hk | hk
    · subst hk
      rcases vld_tf zs with hvz | hvz
      · have Hvz := Lib.hid hvz
        clear hvz
        have k13 := Lib.hid (spec_valid (some ⟨gz, 0, none⟩) nz cz zs w112 Z_12.out Hvz.out)
        go_wp2_with fail
        refine (k13.out).mono ?_
        rintro ee w113 ⟨rfl, hb13⟩
        have Ht13 := Lib.hid (Ht12.out.trans (hb13.mono (by have h1 := Ht12.out.size; omega)))
        have X_13 := Lib.hid (X_12.out.below hb13)
        have P_13 := Lib.hid (P_12.out.below hb13)
        have Q_13 := Lib.hid (Q_12.out.below hb13)
        have N_13 := Lib.hid (N_12.out.below hb13)
        have Z_13 := Lib.hid (Z_12.out.below hb13)
        clear hb13
        have k14 := Lib.hid (impl_valid aP br.length cP br w113 P_13.out F4.out)
        go_wp2_with fail
        refine (k14.out).mono ?_
        rintro ee w114 ⟨rfl, hb14⟩
        have Ht14 := Lib.hid (Ht13.out.trans (hb14.mono (by have h1 := Ht13.out.size; omega)))
        have X_14 := Lib.hid (X_13.out.below hb14)
        have P_14 := Lib.hid (P_13.out.below hb14)
        have Q_14 := Lib.hid (Q_13.out.below hb14)
        have N_14 := Lib.hid (N_13.out.below hb14)
        have Z_14 := Lib.hid (Z_13.out.below hb14)
        clear hb14
        have k15 := Lib.hid (impl_OrdCompare aP (some ⟨g, 0, none⟩) br.length cP n c br xs w114 P_14.out X_14.out)
        rw [G1.out] at k15
        go_wp2_with fail
        refine (k15.out).mono ?_
        rintro ee w115 ⟨rfl, hb15⟩
        have Ht15 := Lib.hid (Ht14.out.trans (hb15.mono (by have h1 := Ht14.out.size; omega)))
        have X_15 := Lib.hid (X_14.out.below hb15)
        have P_15 := Lib.hid (P_14.out.below hb15)
        have Q_15 := Lib.hid (Q_14.out.below hb15)
        have N_15 := Lib.hid (N_14.out.below hb15)
        have Z_15 := Lib.hid (Z_14.out.below hb15)
        clear hb15
        go_wp2_with fail
        go_ret
        exact ⟨rfl, Ht15.out⟩
      · have Hvz := Lib.hid hvz
        clear hvz
        have k16 := Lib.hid (spec_valid (some ⟨gz, 0, none⟩) nz cz zs w112 Z_12.out Hvz.out)
        go_wp2_with fail
        refine (k16.out).mono ?_
        rintro ee w116 ⟨rfl, hb16⟩
        have Ht16 := Lib.hid (Ht12.out.trans (hb16.mono (by have h1 := Ht12.out.size; omega)))
        have X_16 := Lib.hid (X_12.out.below hb16)
        have P_16 := Lib.hid (P_12.out.below hb16)
        have Q_16 := Lib.hid (Q_12.out.below hb16)
        have N_16 := Lib.hid (N_12.out.below hb16)
        have Z_16 := Lib.hid (Z_12.out.below hb16)
        clear hb16
        have k17 := Lib.hid (impl_valid aP br.length cP br w116 P_16.out F4.out)
        go_wp2_with fail
        refine (k17.out).mono ?_
        rintro ee w117 ⟨rfl, hb17⟩
        have Ht17 := Lib.hid (Ht16.out.trans (hb17.mono (by have h1 := Ht16.out.size; omega)))
        have X_17 := Lib.hid (X_16.out.below hb17)
        have P_17 := Lib.hid (P_16.out.below hb17)
        have Q_17 := Lib.hid (Q_16.out.below hb17)
        have N_17 := Lib.hid (N_16.out.below hb17)
        have Z_17 := Lib.hid (Z_16.out.below hb17)
        clear hb17
        have k18 := Lib.hid (impl_OrdCompare aP (some ⟨g, 0, none⟩) br.length cP n c br xs w117 P_17.out X_17.out)
        rw [G1.out] at k18
        go_wp2_with fail
        refine (k18.out).mono ?_
        rintro ee w118 ⟨rfl, hb18⟩
        have Ht18 := Lib.hid (Ht17.out.trans (hb18.mono (by have h1 := Ht17.out.size; omega)))
        have X_18 := Lib.hid (X_17.out.below hb18)
        have P_18 := Lib.hid (P_17.out.below hb18)
        have Q_18 := Lib.hid (Q_17.out.below hb18)
        have N_18 := Lib.hid (N_17.out.below hb18)
        have Z_18 := Lib.hid (Z_17.out.below hb18)
        clear hb18
        go_wp2_with fail
        go_ret
        exact ⟨rfl, Ht18.out⟩
    · subst hk
      rcases vld_tf zs with hvz | hvz
      · have Hvz := Lib.hid hvz
        clear hvz
        by_cases hmz : zv < V
        · obtain ⟨cv, hcv⟩ : ∃ x, x = T.cmpRow zs xs := ⟨_, rfl⟩
          have Hcv := Lib.hid hcv
          clear hcv
          by_cases hc : cv = -1
          · have hbw : T.cmpRow zs br = -1 := F3.out zs (by first | rfl | trivial) Hvz.out (by rw [← Hzv.out]; exact hmz) (by rw [← Hcv.out]; exact hc)
            have Hbw := Lib.hid hbw
            subst hc
            clear hbw
            have k19 := Lib.hid (spec_valid (some ⟨gz, 0, none⟩) nz cz zs w112 Z_12.out Hvz.out)
            go_wp2_with fail
            refine (k19.out).mono ?_
            rintro ee w119 ⟨rfl, hb19⟩
            have Ht19 := Lib.hid (Ht12.out.trans (hb19.mono (by have h1 := Ht12.out.size; omega)))
            have X_19 := Lib.hid (X_12.out.below hb19)
            have P_19 := Lib.hid (P_12.out.below hb19)
            have Q_19 := Lib.hid (Q_12.out.below hb19)
            have N_19 := Lib.hid (N_12.out.below hb19)
            have Z_19 := Lib.hid (Z_12.out.below hb19)
            clear hb19
            have k20 := Lib.hid (impl_OrdCompare (some ⟨gz, 0, none⟩) (some ⟨g, 0, none⟩) nz cz n c zs xs w119 Z_19.out X_19.out)
            rw [← Hcv.out] at k20
            go_wp2_with fail
            refine (k20.out).mono ?_
            rintro ee w120 ⟨rfl, hb20⟩
            have Ht20 := Lib.hid (Ht19.out.trans (hb20.mono (by have h1 := Ht19.out.size; omega)))
            have X_20 := Lib.hid (X_19.out.below hb20)
            have P_20 := Lib.hid (P_19.out.below hb20)
            have Q_20 := Lib.hid (Q_19.out.below hb20)
            have N_20 := Lib.hid (N_19.out.below hb20)
            have Z_20 := Lib.hid (Z_19.out.below hb20)
            clear hb20
            have k21 := Lib.hid (impl_valid aP br.length cP br w120 P_20.out F4.out)
            go_wp2_with fail
            refine (k21.out).mono ?_
            rintro ee w121 ⟨rfl, hb21⟩
            have Ht21 := Lib.hid (Ht20.out.trans (hb21.mono (by have h1 := Ht20.out.size; omega)))
            have X_21 := Lib.hid (X_20.out.below hb21)
            have P_21 := Lib.hid (P_20.out.below hb21)
            have Q_21 := Lib.hid (Q_20.out.below hb21)
            have N_21 := Lib.hid (N_20.out.below hb21)
            have Z_21 := Lib.hid (Z_20.out.below hb21)
            clear hb21
            have k22 := Lib.hid (impl_OrdCompare aP (some ⟨g, 0, none⟩) br.length cP n c br xs w121 P_21.out X_21.out)
            rw [G1.out] at k22
            go_wp2_with fail
            refine (k22.out).mono ?_
            rintro ee w122 ⟨rfl, hb22⟩
            have Ht22 := Lib.hid (Ht21.out.trans (hb22.mono (by have h1 := Ht21.out.size; omega)))
            have X_22 := Lib.hid (X_21.out.below hb22)
            have P_22 := Lib.hid (P_21.out.below hb22)
            have Q_22 := Lib.hid (Q_21.out.below hb22)
            have N_22 := Lib.hid (N_21.out.below hb22)
            have Z_22 := Lib.hid (Z_21.out.below hb22)
            clear hb22
            cases no with
            | false =>
              skip
              have k23 := Lib.hid (impl_OrdCompare (some ⟨gz, 0, none⟩) aP nz cz br.length cP zs br w122 Z_22.out P_22.out)
              rw [Hbw.out] at k23
              go_wp2_with fail
              refine (k23.out).mono ?_
              rintro ee w123 ⟨rfl, hb23⟩
              have Ht23 := Lib.hid (Ht22.out.trans (hb23.mono (by have h1 := Ht22.out.size; omega)))
              have X_23 := Lib.hid (X_22.out.below hb23)
              have P_23 := Lib.hid (P_22.out.below hb23)
              have Q_23 := Lib.hid (Q_22.out.below hb23)
              have N_23 := Lib.hid (N_22.out.below hb23)
              have Z_23 := Lib.hid (Z_22.out.below hb23)
              clear hb23
              go_wp2_with fail
              go_ret
              exact ⟨rfl, Ht23.out⟩
            | true =>
              have hcn : T.cmpRow br nr = -1 := by rw [Hnr.out]; exact F2.out Hno.out.symm (by first | rfl | trivial)
              have Hcn := Lib.hid hcn
              clear hcn
              have k24 := Lib.hid (impl_OrdCompare aP aN br.length cP nr.length cN br nr w122 P_22.out N_22.out)
              rw [Hcn.out] at k24
              go_wp2_with fail
              refine (k24.out).mono ?_
              rintro ee w124 ⟨rfl, hb24⟩
              have Ht24 := Lib.hid (Ht22.out.trans (hb24.mono (by have h1 := Ht22.out.size; omega)))
              have X_24 := Lib.hid (X_22.out.below hb24)
              have P_24 := Lib.hid (P_22.out.below hb24)
              have Q_24 := Lib.hid (Q_22.out.below hb24)
              have N_24 := Lib.hid (N_22.out.below hb24)
              have Z_24 := Lib.hid (Z_22.out.below hb24)
              clear hb24
              have k25 := Lib.hid (impl_OrdCompare (some ⟨gz, 0, none⟩) aP nz cz br.length cP zs br w124 Z_24.out P_24.out)
              rw [Hbw.out] at k25
              go_wp2_with fail
              refine (k25.out).mono ?_
              rintro ee w125 ⟨rfl, hb25⟩
              have Ht25 := Lib.hid (Ht24.out.trans (hb25.mono (by have h1 := Ht24.out.size; omega)))
              have X_25 := Lib.hid (X_24.out.below hb25)
              have P_25 := Lib.hid (P_24.out.below hb25)
              have Q_25 := Lib.hid (Q_24.out.below hb25)
              have N_25 := Lib.hid (N_24.out.below hb25)
              have Z_25 := Lib.hid (Z_24.out.below hb25)
              clear hb25
              go_wp2_with fail
              go_ret
              exact ⟨rfl, Ht25.out⟩
          · have hc2 : (cv == -1) = false := by simpa using hc
            clear hc
            have k26 := Lib.hid (spec_valid (some ⟨gz, 0, none⟩) nz cz zs w112 Z_12.out Hvz.out)
            go_wp2_with fail
            refine (k26.out).mono ?_
            rintro ee w126 ⟨rfl, hb26⟩
            have Ht26 := Lib.hid (Ht12.out.trans (hb26.mono (by have h1 := Ht12.out.size; omega)))
            have X_26 := Lib.hid (X_12.out.below hb26)
            have P_26 := Lib.hid (P_12.out.below hb26)
            have Q_26 := Lib.hid (Q_12.out.below hb26)
            have N_26 := Lib.hid (N_12.out.below hb26)
            have Z_26 := Lib.hid (Z_12.out.below hb26)
            clear hb26
            have k27 := Lib.hid (impl_OrdCompare (some ⟨gz, 0, none⟩) (some ⟨g, 0, none⟩) nz cz n c zs xs w126 Z_26.out X_26.out)
            rw [← Hcv.out] at k27
            go_wp2_with fail
            refine (k27.out).mono ?_
            rintro ee w127 ⟨rfl, hb27⟩
            have Ht27 := Lib.hid (Ht26.out.trans (hb27.mono (by have h1 := Ht26.out.size; omega)))
            have X_27 := Lib.hid (X_26.out.below hb27)
            have P_27 := Lib.hid (P_26.out.below hb27)
            have Q_27 := Lib.hid (Q_26.out.below hb27)
            have N_27 := Lib.hid (N_26.out.below hb27)
            have Z_27 := Lib.hid (Z_26.out.below hb27)
            clear hb27
            have k28 := Lib.hid (impl_valid aP br.length cP br w127 P_27.out F4.out)
            go_wp2_with fail
            refine (k28.out).mono ?_
            rintro ee w128 ⟨rfl, hb28⟩
            have Ht28 := Lib.hid (Ht27.out.trans (hb28.mono (by have h1 := Ht27.out.size; omega)))
            have X_28 := Lib.hid (X_27.out.below hb28)
            have P_28 := Lib.hid (P_27.out.below hb28)
            have Q_28 := Lib.hid (Q_27.out.below hb28)
            have N_28 := Lib.hid (N_27.out.below hb28)
            have Z_28 := Lib.hid (Z_27.out.below hb28)
            clear hb28
            have k29 := Lib.hid (impl_OrdCompare aP (some ⟨g, 0, none⟩) br.length cP n c br xs w128 P_28.out X_28.out)
            rw [G1.out] at k29
            go_wp2_with fail
            refine (k29.out).mono ?_
            rintro ee w129 ⟨rfl, hb29⟩
            have Ht29 := Lib.hid (Ht28.out.trans (hb29.mono (by have h1 := Ht28.out.size; omega)))
            have X_29 := Lib.hid (X_28.out.below hb29)
            have P_29 := Lib.hid (P_28.out.below hb29)
            have Q_29 := Lib.hid (Q_28.out.below hb29)
            have N_29 := Lib.hid (N_28.out.below hb29)
            have Z_29 := Lib.hid (Z_28.out.below hb29)
            clear hb29
            cases no with
            | false =>
              skip
              go_wp2_with fail
              go_ret
              exact ⟨rfl, Ht29.out⟩
            | true =>
              have hcn : T.cmpRow br nr = -1 := by rw [Hnr.out]; exact F2.out Hno.out.symm (by first | rfl | trivial)
              have Hcn := Lib.hid hcn
              clear hcn
              have k30 := Lib.hid (impl_OrdCompare aP aN br.length cP nr.length cN br nr w129 P_29.out N_29.out)
              rw [Hcn.out] at k30
              go_wp2_with fail
              refine (k30.out).mono ?_
              rintro ee w130 ⟨rfl, hb30⟩
              have Ht30 := Lib.hid (Ht29.out.trans (hb30.mono (by have h1 := Ht29.out.size; omega)))
              have X_30 := Lib.hid (X_29.out.below hb30)
              have P_30 := Lib.hid (P_29.out.below hb30)
              have Q_30 := Lib.hid (Q_29.out.below hb30)
              have N_30 := Lib.hid (N_29.out.below hb30)
              have Z_30 := Lib.hid (Z_29.out.below hb30)
              clear hb30
              go_wp2_with fail
              go_ret
              exact ⟨rfl, Ht30.out⟩
        · skip
          have k31 := Lib.hid (spec_valid (some ⟨gz, 0, none⟩) nz cz zs w112 Z_12.out Hvz.out)
          go_wp2_with fail
          refine (k31.out).mono ?_
          rintro ee w131 ⟨rfl, hb31⟩
          have Ht31 := Lib.hid (Ht12.out.trans (hb31.mono (by have h1 := Ht12.out.size; omega)))
          have X_31 := Lib.hid (X_12.out.below hb31)
          have P_31 := Lib.hid (P_12.out.below hb31)
          have Q_31 := Lib.hid (Q_12.out.below hb31)
          have N_31 := Lib.hid (N_12.out.below hb31)
          have Z_31 := Lib.hid (Z_12.out.below hb31)
          clear hb31
          have k32 := Lib.hid (impl_valid aP br.length cP br w131 P_31.out F4.out)
          go_wp2_with fail
          refine (k32.out).mono ?_
          rintro ee w132 ⟨rfl, hb32⟩
          have Ht32 := Lib.hid (Ht31.out.trans (hb32.mono (by have h1 := Ht31.out.size; omega)))
          have X_32 := Lib.hid (X_31.out.below hb32)
          have P_32 := Lib.hid (P_31.out.below hb32)
          have Q_32 := Lib.hid (Q_31.out.below hb32)
          have N_32 := Lib.hid (N_31.out.below hb32)
          have Z_32 := Lib.hid (Z_31.out.below hb32)
          clear hb32
          have k33 := Lib.hid (impl_OrdCompare aP (some ⟨g, 0, none⟩) br.length cP n c br xs w132 P_32.out X_32.out)
          rw [G1.out] at k33
          go_wp2_with fail
          refine (k33.out).mono ?_
          rintro ee w133 ⟨rfl, hb33⟩
          have Ht33 := Lib.hid (Ht32.out.trans (hb33.mono (by have h1 := Ht32.out.size; omega)))
          have X_33 := Lib.hid (X_32.out.below hb33)
          have P_33 := Lib.hid (P_32.out.below hb33)
          have Q_33 := Lib.hid (Q_32.out.below hb33)
          have N_33 := Lib.hid (N_32.out.below hb33)
          have Z_33 := Lib.hid (Z_32.out.below hb33)
          clear hb33
          cases no with
          | false =>
            skip
            go_wp2_with fail
            go_ret
            exact ⟨rfl, Ht33.out⟩
          | true =>
            have hcn : T.cmpRow br nr = -1 := by rw [Hnr.out]; exact F2.out Hno.out.symm (by first | rfl | trivial)
            have Hcn := Lib.hid hcn
            clear hcn
            have k34 := Lib.hid (impl_OrdCompare aP aN br.length cP nr.length cN br nr w133 P_33.out N_33.out)
            rw [Hcn.out] at k34
            go_wp2_with fail
            refine (k34.out).mono ?_
            rintro ee w134 ⟨rfl, hb34⟩
            have Ht34 := Lib.hid (Ht33.out.trans (hb34.mono (by have h1 := Ht33.out.size; omega)))
            have X_34 := Lib.hid (X_33.out.below hb34)
            have P_34 := Lib.hid (P_33.out.below hb34)
            have Q_34 := Lib.hid (Q_33.out.below hb34)
            have N_34 := Lib.hid (N_33.out.below hb34)
            have Z_34 := Lib.hid (Z_33.out.below hb34)
            clear hb34
            go_wp2_with fail
            go_ret
            exact ⟨rfl, Ht34.out⟩
      · have Hvz := Lib.hid hvz
        clear hvz
        have k35 := Lib.hid (spec_valid (some ⟨gz, 0, none⟩) nz cz zs w112 Z_12.out Hvz.out)
        go_wp2_with fail
        refine (k35.out).mono ?_
        rintro ee w135 ⟨rfl, hb35⟩
        have Ht35 := Lib.hid (Ht12.out.trans (hb35.mono (by have h1 := Ht12.out.size; omega)))
        have X_35 := Lib.hid (X_12.out.below hb35)
        have P_35 := Lib.hid (P_12.out.below hb35)
        have Q_35 := Lib.hid (Q_12.out.below hb35)
        have N_35 := Lib.hid (N_12.out.below hb35)
        have Z_35 := Lib.hid (Z_12.out.below hb35)
        clear hb35
        have k36 := Lib.hid (impl_valid aP br.length cP br w135 P_35.out F4.out)
        go_wp2_with fail
        refine (k36.out).mono ?_
        rintro ee w136 ⟨rfl, hb36⟩
        have Ht36 := Lib.hid (Ht35.out.trans (hb36.mono (by have h1 := Ht35.out.size; omega)))
        have X_36 := Lib.hid (X_35.out.below hb36)
        have P_36 := Lib.hid (P_35.out.below hb36)
        have Q_36 := Lib.hid (Q_35.out.below hb36)
        have N_36 := Lib.hid (N_35.out.below hb36)
        have Z_36 := Lib.hid (Z_35.out.below hb36)
        clear hb36
        have k37 := Lib.hid (impl_OrdCompare aP (some ⟨g, 0, none⟩) br.length cP n c br xs w136 P_36.out X_36.out)
        rw [G1.out] at k37
        go_wp2_with fail
        refine (k37.out).mono ?_
        rintro ee w137 ⟨rfl, hb37⟩
        have Ht37 := Lib.hid (Ht36.out.trans (hb37.mono (by have h1 := Ht36.out.size; omega)))
        have X_37 := Lib.hid (X_36.out.below hb37)
        have P_37 := Lib.hid (P_36.out.below hb37)
        have Q_37 := Lib.hid (Q_36.out.below hb37)
        have N_37 := Lib.hid (N_36.out.below hb37)
        have Z_37 := Lib.hid (Z_36.out.below hb37)
        clear hb37
        cases no with
        | false =>
          skip
          go_wp2_with fail
          go_ret
          exact ⟨rfl, Ht37.out⟩
        | true =>
          have hcn : T.cmpRow br nr = -1 := by rw [Hnr.out]; exact F2.out Hno.out.symm (by first | rfl | trivial)
          have Hcn := Lib.hid hcn
          clear hcn
          have k38 := Lib.hid (impl_OrdCompare aP aN br.length cP nr.length cN br nr w137 P_37.out N_37.out)
          rw [Hcn.out] at k38
          go_wp2_with fail
          refine (k38.out).mono ?_
          rintro ee w138 ⟨rfl, hb38⟩
          have Ht38 := Lib.hid (Ht37.out.trans (hb38.mono (by have h1 := Ht37.out.size; omega)))
          have X_38 := Lib.hid (X_37.out.below hb38)
          have P_38 := Lib.hid (P_37.out.below hb38)
          have Q_38 := Lib.hid (Q_37.out.below hb38)
          have N_38 := Lib.hid (N_37.out.below hb38)
          have Z_38 := Lib.hid (Z_37.out.below hb38)
          clear hb38
          go_wp2_with fail
          go_ret
          exact ⟨rfl, Ht38.out⟩

end Go.Proofs.Ytdcaefgbpnjjaab

/- FnOrdAdd: the walk of the law. -/
import Derived.Test.YtobookpaadpolabDrawL
import Derived.Test.YtobookpaadpolabAddM
import Derived.Test.YtobookpaadpolabAddT
import Derived.Test.YtobookpaadpolabFn1
import Derived.Deep.DeepCutAuto
namespace Go.Proofs.Ytobookpaadpolab
open Go.RowKit

set_option maxRecDepth 100000 in
set_option maxHeartbeats 4000000 in
theorem fnOrdAdd_walk (a : Option Addr) (len cap : Nat) (a2 : Option Addr) (len2 cap2 : Nat) (w : World) (h : By w a len cap) (h2 : By w a2 len2 cap2) :
    Calls Try.prog 10 #[.slice a len cap, .slice a2 len2 cap2] w fun e w' => e = .returned (.bool true) ∧ Below w.heap.size w w' := by
  have hlm : len ≤ 9223372036854775807 := by have := h.1; have := h.2.1; unfold maxLen at this; omega
  have hlm2 : len2 ≤ 9223372036854775807 := by have := h2.1; have := h2.2.1; unfold maxLen at this; omega
  by_cases hbig : 1048576 < len
  · clear h h2
    go_enter Try.func10, Try.ntmps10
    go_wp2_with fail
    go_ret
    exact ⟨rfl, Below.refl _ _⟩
  by_cases hbig2 : 1048576 < len2
  · clear h h2
    go_enter Try.func10, Try.ntmps10
    go_wp2_with fail
    go_ret
    exact ⟨rfl, Below.refl _ _⟩
  have k0 := Lib.hid (drawOrdAdd_any a len cap w h)
  have H2 := Lib.hid h2
  clear h h2
  go_enter Try.func10, Try.ntmps10
  go_wp2_with fail
  refine (k0.out).mono ?_
  rintro ee w1 ⟨xs, ys, g, n, c, g2, n2, c2, hn, hn2, rfl, ho, ho2, hl, hl2, hb0⟩
  have Hn := Lib.hid hn
  have Hn2 := Lib.hid hn2
  clear hn hn2
  have X_0 := Lib.hid (Sl.of_own ho)
  have Y_0 := Lib.hid (Sl.of_own ho2)
  have Ht0 := Lib.hid hb0
  have hws := hb0.size
  clear ho ho2 hb0
  cases hok : T.addOk xs ys with
  | false =>
    have hbr := T.addOk_false hok
    have Hok := Lib.hid hok
    have Hbr := Lib.hid hbr
    clear hok hbr
    have k1 := Lib.hid (impl_OrdAdd (some ⟨g, 0, none⟩) (some ⟨g2, 0, none⟩) n c n2 c2 xs ys w1 X_0.out Y_0.out)
    unfold OrdOkPost at k1
    rw [Hbr.out, Hok.out, List.length_nil] at k1
    go_wp2_with fail
    refine (k1.out).mono ?_
    rintro ee w101 ⟨aP, cP, rfl, ho, hb1⟩
    have Ht1 := Lib.hid (Ht0.out.trans (hb1.mono (by have h1 := Ht0.out.size; omega)))
    have X_1 := Lib.hid (X_0.out.below hb1)
    have Y_1 := Lib.hid (Y_0.out.below hb1)
    have P_1 := Lib.hid (Sl.of_own ho)
    clear hb1 ho
    have k2 := Lib.hid (spec_OrdAdd (some ⟨g, 0, none⟩) (some ⟨g2, 0, none⟩) n c n2 c2 xs ys w101 X_1.out Y_1.out)
    unfold OrdOkPost at k2
    rw [Hbr.out, Hok.out, List.length_nil] at k2
    go_wp2_with fail
    refine (k2.out).mono ?_
    rintro ee w102 ⟨aQ, cQ, rfl, ho, hb2⟩
    have Ht2 := Lib.hid (Ht1.out.trans (hb2.mono (by have h1 := Ht1.out.size; omega)))
    have X_2 := Lib.hid (X_1.out.below hb2)
    have Y_2 := Lib.hid (Y_1.out.below hb2)
    have P_2 := Lib.hid (P_1.out.below hb2)
    have Q_2 := Lib.hid (Sl.of_own ho)
    clear hb2 ho
    have k3 := Lib.hid (sameInts_any aP aQ 0 cP 0 cQ [] [] w102 (by decide) P_2.out Q_2.out)
    rw [eqB_refl] at k3
    go_wp2_with fail
    refine (k3.out).mono ?_
    rintro ee w103 ⟨rfl, hb3⟩
    have Ht3 := Lib.hid (Ht2.out.trans (hb3.mono (by have h1 := Ht2.out.size; omega)))
    have X_3 := Lib.hid (X_2.out.below hb3)
    have Y_3 := Lib.hid (Y_2.out.below hb3)
    have P_3 := Lib.hid (P_2.out.below hb3)
    have Q_3 := Lib.hid (Q_2.out.below hb3)
    clear hb3
    have k4 := Lib.hid (alive_any w103)
    go_wp2_with fail
    refine (k4.out).mono ?_
    rintro ee w104 ⟨rfl, hb4⟩
    have Ht4 := Lib.hid (Ht3.out.trans (hb4.mono (by have h1 := Ht3.out.size; omega)))
    have X_4 := Lib.hid (X_3.out.below hb4)
    have Y_4 := Lib.hid (Y_3.out.below hb4)
    have P_4 := Lib.hid (P_3.out.below hb4)
    have Q_4 := Lib.hid (Q_3.out.below hb4)
    clear hb4
    go_wp2_with fail
    go_ret
    exact ⟨rfl, Ht4.out⟩
  | true =>
    have f1 := T.addRow_ge hok
    have f4 := (T.addOk_true hok).2.2.1
    have f5 := fun zs => T.addRow_mono (zs := zs) hok
    have f6 := fun zs => T.addRow_assoc (zs := zs) hok
    obtain ⟨br, hbr⟩ : ∃ br, br = T.addRow xs ys := ⟨_, rfl⟩
    have hbl : br.length ≤ 1000 := by rw [hbr]; exact T.addRow_len xs ys
    rw [← hbr] at f1 f4 f5 f6
    obtain ⟨u1, hu1⟩ : ∃ u, u = T.cmpRow br xs := ⟨_, rfl⟩
    obtain ⟨u2, hu2⟩ : ∃ u, u = T.cmpRow br ys := ⟨_, rfl⟩
    rw [← hu1, ← hu2] at f1
    have f11 := f1.1
    have f12 := f1.2
    have F4 := Lib.hid f4
    have F5 := Lib.hid f5
    have F6 := Lib.hid f6
    have Hok := Lib.hid hok
    have Hbr := Lib.hid hbr
    have Hu1 := Lib.hid hu1
    have Hu2 := Lib.hid hu2
    clear f1 f4 f5 f6 hok hbr hu1 hu2
    have k5 := Lib.hid (impl_OrdAdd (some ⟨g, 0, none⟩) (some ⟨g2, 0, none⟩) n c n2 c2 xs ys w1 X_0.out Y_0.out)
    unfold OrdOkPost at k5
    rw [← Hbr.out, Hok.out] at k5
    go_wp2_with fail
    refine (k5.out).mono ?_
    rintro ee w105 ⟨aP, cP, rfl, ho, hb5⟩
    have Ht5 := Lib.hid (Ht0.out.trans (hb5.mono (by have h1 := Ht0.out.size; omega)))
    have X_5 := Lib.hid (X_0.out.below hb5)
    have Y_5 := Lib.hid (Y_0.out.below hb5)
    have P_5 := Lib.hid (Sl.of_own ho)
    clear hb5 ho
    have k6 := Lib.hid (spec_OrdAdd (some ⟨g, 0, none⟩) (some ⟨g2, 0, none⟩) n c n2 c2 xs ys w105 X_5.out Y_5.out)
    unfold OrdOkPost at k6
    rw [← Hbr.out, Hok.out] at k6
    go_wp2_with fail
    refine (k6.out).mono ?_
    rintro ee w106 ⟨aQ, cQ, rfl, ho, hb6⟩
    have Ht6 := Lib.hid (Ht5.out.trans (hb6.mono (by have h1 := Ht5.out.size; omega)))
    have X_6 := Lib.hid (X_5.out.below hb6)
    have Y_6 := Lib.hid (Y_5.out.below hb6)
    have P_6 := Lib.hid (P_5.out.below hb6)
    have Q_6 := Lib.hid (Sl.of_own ho)
    clear hb6 ho
    have k7 := Lib.hid (sameInts_any aP aQ br.length cP br.length cQ br br w106 (by omega) P_6.out Q_6.out)
    rw [eqB_refl] at k7
    go_wp2_with fail
    refine (k7.out).mono ?_
    rintro ee w107 ⟨rfl, hb7⟩
    have Ht7 := Lib.hid (Ht6.out.trans (hb7.mono (by have h1 := Ht6.out.size; omega)))
    have X_7 := Lib.hid (X_6.out.below hb7)
    have Y_7 := Lib.hid (Y_6.out.below hb7)
    have P_7 := Lib.hid (P_6.out.below hb7)
    have Q_7 := Lib.hid (Q_6.out.below hb7)
    clear hb7
    have k8 := Lib.hid (drawOrdAdd_any a2 len2 cap2 w107 (H2.out.later Ht7.out))
    go_wp2_with fail
    refine (k8.out).mono ?_
    rintro ee w108 ⟨zs, vs, gz, nz, cz, gv, nv, cv, hnz, hnv, rfl, ho, ho', hlz, hlv, hb8⟩
    have Ht8 := Lib.hid (Ht7.out.trans (hb8.mono (by have h1 := Ht7.out.size; omega)))
    have X_8 := Lib.hid (X_7.out.below hb8)
    have Y_8 := Lib.hid (Y_7.out.below hb8)
    have P_8 := Lib.hid (P_7.out.below hb8)
    have Q_8 := Lib.hid (Q_7.out.below hb8)
    have Z_8 := Lib.hid (Sl.of_own ho)
    have V_8 := Lib.hid (Sl.of_own ho')
    clear hb8 ho ho'
    have Hnz := Lib.hid hnz
    have Hnv := Lib.hid hnv
    clear hnz hnv
    obtain ⟨lr, hlr⟩ : ∃ x, x = T.addRow br zs := ⟨_, rfl⟩
    have Hlr := Lib.hid hlr
    clear hlr
    obtain ⟨lo, hlo⟩ : ∃ x, x = T.addOk br zs := ⟨_, rfl⟩
    have Hlo := Lib.hid hlo
    clear hlo
    obtain ⟨qr, hqr⟩ : ∃ x, x = T.addRow ys zs := ⟨_, rfl⟩
    have Hqr := Lib.hid hqr
    clear hqr
    obtain ⟨qo, hqo⟩ : ∃ x, x = T.addOk ys zs := ⟨_, rfl⟩
    have Hqo := Lib.hid hqo
    clear hqo
    have hll : lr.length ≤ 1000 := by rw [Hlr.out]; exact T.addRow_len _ _
    have k9 := Lib.hid (impl_OrdAdd aP (some ⟨gz, 0, none⟩) br.length cP nz cz br zs w108 P_8.out Z_8.out)
    unfold OrdOkPost at k9
    rw [← Hlr.out, ← Hlo.out] at k9
    go_wp2_with fail
    refine (k9.out).mono ?_
    rintro ee w109 ⟨aL, cL, rfl, ho, hb9⟩
    have Ht9 := Lib.hid (Ht8.out.trans (hb9.mono (by have h1 := Ht8.out.size; omega)))
    have X_9 := Lib.hid (X_8.out.below hb9)
    have Y_9 := Lib.hid (Y_8.out.below hb9)
    have P_9 := Lib.hid (P_8.out.below hb9)
    have Q_9 := Lib.hid (Q_8.out.below hb9)
    have Z_9 := Lib.hid (Z_8.out.below hb9)
    have V_9 := Lib.hid (V_8.out.below hb9)
    have L_9 := Lib.hid (Sl.of_own ho)
    clear hb9 ho
    have k10 := Lib.hid (impl_OrdAdd (some ⟨g2, 0, none⟩) (some ⟨gz, 0, none⟩) n2 c2 nz cz ys zs w109 Y_9.out Z_9.out)
    unfold OrdOkPost at k10
    rw [← Hqr.out, ← Hqo.out] at k10
    go_wp2_with fail
    refine (k10.out).mono ?_
    rintro ee w110 ⟨aM, cM, rfl, ho, hb10⟩
    have Ht10 := Lib.hid (Ht9.out.trans (hb10.mono (by have h1 := Ht9.out.size; omega)))
    have X_10 := Lib.hid (X_9.out.below hb10)
    have Y_10 := Lib.hid (Y_9.out.below hb10)
    have P_10 := Lib.hid (P_9.out.below hb10)
    have Q_10 := Lib.hid (Q_9.out.below hb10)
    have Z_10 := Lib.hid (Z_9.out.below hb10)
    have V_10 := Lib.hid (V_9.out.below hb10)
    have L_10 := Lib.hid (L_9.out.below hb10)
    have M_10 := Lib.hid (Sl.of_own ho)
    clear hb10 ho
    obtain ⟨rr, hrr⟩ : ∃ x, x = T.addRow xs qr := ⟨_, rfl⟩
    have Hrr := Lib.hid hrr
    clear hrr
    obtain ⟨ro, hro⟩ : ∃ x, x = T.addOk xs qr := ⟨_, rfl⟩
    have Hro := Lib.hid hro
    clear hro
    have k11 := Lib.hid (impl_OrdAdd (some ⟨g, 0, none⟩) aM n c qr.length cM xs qr w110 X_10.out M_10.out)
    unfold OrdOkPost at k11
    rw [← Hrr.out, ← Hro.out] at k11
    go_wp2_with fail
    refine (k11.out).mono ?_
    rintro ee w111 ⟨aR, cR, rfl, ho, hb11⟩
    have Ht11 := Lib.hid (Ht10.out.trans (hb11.mono (by have h1 := Ht10.out.size; omega)))
    have X_11 := Lib.hid (X_10.out.below hb11)
    have Y_11 := Lib.hid (Y_10.out.below hb11)
    have P_11 := Lib.hid (P_10.out.below hb11)
    have Q_11 := Lib.hid (Q_10.out.below hb11)
    have Z_11 := Lib.hid (Z_10.out.below hb11)
    have V_11 := Lib.hid (V_10.out.below hb11)
    have L_11 := Lib.hid (L_10.out.below hb11)
    have M_11 := Lib.hid (M_10.out.below hb11)
    have R_11 := Lib.hid (Sl.of_own ho)
    clear hb11 ho
    go_upto_region 14 with fail
    go_cut [98] (fun v98 wx => v98 = .bool false ∧ Below w111.heap.size w111 wx)
    case first =>
      cases lo with
      | false =>
        go_wp2_with fail
        go_meet
        exact ⟨rfl, Below.refl _ _⟩
      | true =>
        cases qo with
        | false =>
          go_wp2_with fail
          go_meet
          exact ⟨rfl, Below.refl _ _⟩
        | true =>
          cases ro with
          | false =>
            go_wp2_with fail
            go_meet
            exact ⟨rfl, Below.refl _ _⟩
          | true =>
            have has : lr = rr := by
              rw [Hlr.out, Hrr.out, Hqr.out]
              exact F6.out zs Hlo.out.symm Hqo.out.symm (by rw [← Hqr.out]; exact Hro.out.symm)
            have heq : eqB lr rr = true := eqB_true.2 has
            have Heq := Lib.hid heq
            clear has heq
            have ks := Lib.hid (sameInts_any aL aR lr.length cL rr.length cR lr rr w111 (by omega) L_11.out R_11.out)
            rw [Heq.out] at ks
            go_wp2_with fail
            refine (ks.out).mono ?_
            rintro ee wx ⟨rfl, hbx⟩
            have Hbx := Lib.hid hbx
            clear hbx
            go_wp2_with fail
            go_meet
            exact ⟨rfl, Hbx.out⟩
    case rest =>
      obtain ⟨rfl, hbc⟩ := hcut
      go_step
      obtain ⟨wk, rfl⟩ : ∃ wk : World, wk = wc := ⟨_, rfl⟩
      have Ht12 := Lib.hid (Ht11.out.trans (hbc.mono (by have h1 := Ht11.out.size; omega)))
      have X_12 := Lib.hid (X_11.out.below hbc)
      have Y_12 := Lib.hid (Y_11.out.below hbc)
      have P_12 := Lib.hid (P_11.out.below hbc)
      have Z_12 := Lib.hid (Z_11.out.below hbc)
      clear hbc
      cases hso : T.addOk xs zs with
      | false =>
        have Hso := Lib.hid hso
        clear hso
        obtain ⟨sr, hsr⟩ : ∃ x, x = T.addRow xs zs := ⟨_, rfl⟩
        have Hsr := Lib.hid hsr
        clear hsr
        have k13 := Lib.hid (impl_OrdAdd (some ⟨g, 0, none⟩) (some ⟨gz, 0, none⟩) n c nz cz xs zs wk X_12.out Z_12.out)
        unfold OrdOkPost at k13
        rw [← Hsr.out, Hso.out] at k13
        go_wp2_with fail
        refine (k13.out).mono ?_
        rintro ee w113 ⟨aS, cS, rfl, ho, hb13⟩
        have Ht13 := Lib.hid (Ht12.out.trans (hb13.mono (by have h1 := Ht12.out.size; omega)))
        have X_13 := Lib.hid (X_12.out.below hb13)
        have Y_13 := Lib.hid (Y_12.out.below hb13)
        have P_13 := Lib.hid (P_12.out.below hb13)
        have Z_13 := Lib.hid (Z_12.out.below hb13)
        have S_13 := Lib.hid (Sl.of_own ho)
        clear hb13 ho
        have k14 := Lib.hid (impl_valid aP br.length cP br w113 P_13.out F4.out)
        go_wp2_with fail
        refine (k14.out).mono ?_
        rintro ee w114 ⟨rfl, hb14⟩
        have Ht14 := Lib.hid (Ht13.out.trans (hb14.mono (by have h1 := Ht13.out.size; omega)))
        have X_14 := Lib.hid (X_13.out.below hb14)
        have Y_14 := Lib.hid (Y_13.out.below hb14)
        have P_14 := Lib.hid (P_13.out.below hb14)
        have Z_14 := Lib.hid (Z_13.out.below hb14)
        have S_14 := Lib.hid (S_13.out.below hb14)
        clear hb14
        have k15 := Lib.hid (impl_OrdCompare aP (some ⟨g, 0, none⟩) br.length cP n c br xs w114 P_14.out X_14.out)
        rw [← Hu1.out] at k15
        go_wp2_with fail
        refine (k15.out).mono ?_
        rintro ee w115 ⟨rfl, hb15⟩
        have Ht15 := Lib.hid (Ht14.out.trans (hb15.mono (by have h1 := Ht14.out.size; omega)))
        have X_15 := Lib.hid (X_14.out.below hb15)
        have Y_15 := Lib.hid (Y_14.out.below hb15)
        have P_15 := Lib.hid (P_14.out.below hb15)
        have Z_15 := Lib.hid (Z_14.out.below hb15)
        have S_15 := Lib.hid (S_14.out.below hb15)
        clear hb15
        have k16 := Lib.hid (impl_OrdCompare aP (some ⟨g2, 0, none⟩) br.length cP n2 c2 br ys w115 P_15.out Y_15.out)
        rw [← Hu2.out] at k16
        go_wp2_with fail
        refine (k16.out).mono ?_
        rintro ee w116 ⟨rfl, hb16⟩
        have Ht16 := Lib.hid (Ht15.out.trans (hb16.mono (by have h1 := Ht15.out.size; omega)))
        have X_16 := Lib.hid (X_15.out.below hb16)
        have Y_16 := Lib.hid (Y_15.out.below hb16)
        have P_16 := Lib.hid (P_15.out.below hb16)
        have Z_16 := Lib.hid (Z_15.out.below hb16)
        have S_16 := Lib.hid (S_15.out.below hb16)
        clear hb16
        go_wp2_with fail
        go_ret
        exact ⟨rfl, Ht16.out⟩
      | true =>
        have Hso := Lib.hid hso
        clear hso
        obtain ⟨sr, hsr⟩ : ∃ x, x = T.addRow xs zs := ⟨_, rfl⟩
        have Hsr := Lib.hid hsr
        clear hsr
        have k17 := Lib.hid (impl_OrdAdd (some ⟨g, 0, none⟩) (some ⟨gz, 0, none⟩) n c nz cz xs zs wk X_12.out Z_12.out)
        unfold OrdOkPost at k17
        rw [← Hsr.out, Hso.out] at k17
        go_wp2_with fail
        refine (k17.out).mono ?_
        rintro ee w117 ⟨aS, cS, rfl, ho, hb17⟩
        have Ht17 := Lib.hid (Ht12.out.trans (hb17.mono (by have h1 := Ht12.out.size; omega)))
        have X_17 := Lib.hid (X_12.out.below hb17)
        have Y_17 := Lib.hid (Y_12.out.below hb17)
        have P_17 := Lib.hid (P_12.out.below hb17)
        have Z_17 := Lib.hid (Z_12.out.below hb17)
        have S_17 := Lib.hid (Sl.of_own ho)
        clear hb17 ho
        have hvz := (T.addOk_true Hso.out).2.1
        have hmo := F5.out zs Hso.out
        rw [← Hsr.out] at hmo
        obtain ⟨cv, hcv⟩ : ∃ x, x = T.cmpRow zs ys := ⟨_, rfl⟩
        rw [← hcv] at hmo
        have Hmo := Lib.hid hmo
        have Hcv := Lib.hid hcv
        have Hvz := Lib.hid hvz
        have hcne : (cv != cv) = false := by simp
        clear hmo hcv hvz
        have k18 := Lib.hid (spec_valid (some ⟨gz, 0, none⟩) nz cz zs w117 Z_17.out Hvz.out)
        go_wp2_with fail
        refine (k18.out).mono ?_
        rintro ee w118 ⟨rfl, hb18⟩
        have Ht18 := Lib.hid (Ht17.out.trans (hb18.mono (by have h1 := Ht17.out.size; omega)))
        have X_18 := Lib.hid (X_17.out.below hb18)
        have Y_18 := Lib.hid (Y_17.out.below hb18)
        have P_18 := Lib.hid (P_17.out.below hb18)
        have Z_18 := Lib.hid (Z_17.out.below hb18)
        have S_18 := Lib.hid (S_17.out.below hb18)
        clear hb18
        have k19 := Lib.hid (impl_OrdCompare aS aP sr.length cS br.length cP sr br w118 S_18.out P_18.out)
        rw [Hmo.out] at k19
        go_wp2_with fail
        refine (k19.out).mono ?_
        rintro ee w119 ⟨rfl, hb19⟩
        have Ht19 := Lib.hid (Ht18.out.trans (hb19.mono (by have h1 := Ht18.out.size; omega)))
        have X_19 := Lib.hid (X_18.out.below hb19)
        have Y_19 := Lib.hid (Y_18.out.below hb19)
        have P_19 := Lib.hid (P_18.out.below hb19)
        have Z_19 := Lib.hid (Z_18.out.below hb19)
        have S_19 := Lib.hid (S_18.out.below hb19)
        clear hb19
        have k20 := Lib.hid (impl_OrdCompare (some ⟨gz, 0, none⟩) (some ⟨g2, 0, none⟩) nz cz n2 c2 zs ys w119 Z_19.out Y_19.out)
        rw [← Hcv.out] at k20
        go_wp2_with fail
        refine (k20.out).mono ?_
        rintro ee w120 ⟨rfl, hb20⟩
        have Ht20 := Lib.hid (Ht19.out.trans (hb20.mono (by have h1 := Ht19.out.size; omega)))
        have X_20 := Lib.hid (X_19.out.below hb20)
        have Y_20 := Lib.hid (Y_19.out.below hb20)
        have P_20 := Lib.hid (P_19.out.below hb20)
        have Z_20 := Lib.hid (Z_19.out.below hb20)
        have S_20 := Lib.hid (S_19.out.below hb20)
        clear hb20
        have k21 := Lib.hid (impl_valid aP br.length cP br w120 P_20.out F4.out)
        go_wp2_with fail
        refine (k21.out).mono ?_
        rintro ee w121 ⟨rfl, hb21⟩
        have Ht21 := Lib.hid (Ht20.out.trans (hb21.mono (by have h1 := Ht20.out.size; omega)))
        have X_21 := Lib.hid (X_20.out.below hb21)
        have Y_21 := Lib.hid (Y_20.out.below hb21)
        have P_21 := Lib.hid (P_20.out.below hb21)
        have Z_21 := Lib.hid (Z_20.out.below hb21)
        have S_21 := Lib.hid (S_20.out.below hb21)
        clear hb21
        have k22 := Lib.hid (impl_OrdCompare aP (some ⟨g, 0, none⟩) br.length cP n c br xs w121 P_21.out X_21.out)
        rw [← Hu1.out] at k22
        go_wp2_with fail
        refine (k22.out).mono ?_
        rintro ee w122 ⟨rfl, hb22⟩
        have Ht22 := Lib.hid (Ht21.out.trans (hb22.mono (by have h1 := Ht21.out.size; omega)))
        have X_22 := Lib.hid (X_21.out.below hb22)
        have Y_22 := Lib.hid (Y_21.out.below hb22)
        have P_22 := Lib.hid (P_21.out.below hb22)
        have Z_22 := Lib.hid (Z_21.out.below hb22)
        have S_22 := Lib.hid (S_21.out.below hb22)
        clear hb22
        have k23 := Lib.hid (impl_OrdCompare aP (some ⟨g2, 0, none⟩) br.length cP n2 c2 br ys w122 P_22.out Y_22.out)
        rw [← Hu2.out] at k23
        go_wp2_with fail
        refine (k23.out).mono ?_
        rintro ee w123 ⟨rfl, hb23⟩
        have Ht23 := Lib.hid (Ht22.out.trans (hb23.mono (by have h1 := Ht22.out.size; omega)))
        have X_23 := Lib.hid (X_22.out.below hb23)
        have Y_23 := Lib.hid (Y_22.out.below hb23)
        have P_23 := Lib.hid (P_22.out.below hb23)
        have Z_23 := Lib.hid (Z_22.out.below hb23)
        have S_23 := Lib.hid (S_22.out.below hb23)
        clear hb23
        go_wp2_with fail
        go_ret
        exact ⟨rfl, Ht23.out⟩

end Go.Proofs.Ytobookpaadpolab

/- FnOrdTimes: the walk of the law. -/
import Derived.Test.YtaleaagnkfbhpabDrawL
import Derived.Test.YtaleaagnkfbhpabMulM
import Derived.Test.YtaleaagnkfbhpabMulT
import Derived.Test.YtaleaagnkfbhpabMulJ
import Derived.Test.YtaleaagnkfbhpabAddM
import Derived.Test.YtaleaagnkfbhpabAddT
import Derived.Test.YtaleaagnkfbhpabFn1
import Derived.Deep.DeepCutAuto
namespace Go.Proofs.Ytaleaagnkfbhpab
open Go.RowKit

set_option maxRecDepth 100000 in
set_option maxHeartbeats 8000000 in
theorem fnOrdTimes_walk (a : Option Addr) (len cap : Nat) (a2 : Option Addr) (len2 cap2 : Nat) (w : World) (h : By w a len cap) (h2 : By w a2 len2 cap2) :
    Calls Try.prog 4 #[.slice a len cap, .slice a2 len2 cap2] w fun e w' => e = .returned (.bool true) ∧ Below w.heap.size w w' := by
  have hlm : len ≤ 9223372036854775807 := by have := h.1; have := h.2.1; unfold maxLen at this; omega
  have hlm2 : len2 ≤ 9223372036854775807 := by have := h2.1; have := h2.2.1; unfold maxLen at this; omega
  by_cases hbig : 1048576 < len
  · clear h h2
    go_enter Try.func4, Try.ntmps4
    go_wp2_with fail
    go_ret
    exact ⟨rfl, Below.refl _ _⟩
  by_cases hbig2 : 1048576 < len2
  · clear h h2
    go_enter Try.func4, Try.ntmps4
    go_wp2_with fail
    go_ret
    exact ⟨rfl, Below.refl _ _⟩
  have k0 := Lib.hid (drawOrdTimes_any a len cap w h)
  have H2 := Lib.hid h2
  clear h h2
  go_enter Try.func4, Try.ntmps4
  go_wp2_with fail
  refine (k0.out).mono ?_
  rintro ee w1 ⟨xs, ys, g, n, c, g2, n2, c2, hn, hn2, rfl, ho, ho2, hl, hl2, hb0⟩
  have Hn := Lib.hid hn
  have Hn2 := Lib.hid hn2
  clear hn hn2
  have X_0 := Lib.hid (Sl.of_own ho)
  have Y_0 := Lib.hid (Sl.of_own ho2)
  have Ht0 := Lib.hid hb0
  have hws := hb0.size
  clear ho ho2 hb0
  cases hok : T.mulOk xs ys with
  | false =>
    have hbr := T.mulOk_false hok
    have Hok := Lib.hid hok
    have Hbr := Lib.hid hbr
    clear hok hbr
    have k1 := Lib.hid (impl_OrdTimes (some ⟨g, 0, none⟩) (some ⟨g2, 0, none⟩) n c n2 c2 xs ys w1 X_0.out Y_0.out)
    unfold OrdOkPost at k1
    rw [Hbr.out, Hok.out, List.length_nil] at k1
    go_wp2_with fail
    refine (k1.out).mono ?_
    rintro ee w101 ⟨aP, cP, rfl, ho, hb1⟩
    have Ht1 := Lib.hid (Ht0.out.trans (hb1.mono (by have h1 := Ht0.out.size; omega)))
    have X_1 := Lib.hid (X_0.out.below hb1)
    have Y_1 := Lib.hid (Y_0.out.below hb1)
    have P_1 := Lib.hid (Sl.of_own ho)
    clear hb1 ho
    have k2 := Lib.hid (spec_OrdTimes (some ⟨g, 0, none⟩) (some ⟨g2, 0, none⟩) n c n2 c2 xs ys w101 X_1.out Y_1.out)
    unfold OrdOkPost at k2
    rw [Hbr.out, Hok.out, List.length_nil] at k2
    go_wp2_with fail
    refine (k2.out).mono ?_
    rintro ee w102 ⟨aQ, cQ, rfl, ho, hb2⟩
    have Ht2 := Lib.hid (Ht1.out.trans (hb2.mono (by have h1 := Ht1.out.size; omega)))
    have X_2 := Lib.hid (X_1.out.below hb2)
    have Y_2 := Lib.hid (Y_1.out.below hb2)
    have P_2 := Lib.hid (P_1.out.below hb2)
    have Q_2 := Lib.hid (Sl.of_own ho)
    clear hb2 ho
    have k3 := Lib.hid (sameInts_any aP aQ 0 cP 0 cQ [] [] w102 (by decide) P_2.out Q_2.out)
    rw [eqB_refl] at k3
    go_wp2_with fail
    refine (k3.out).mono ?_
    rintro ee w103 ⟨rfl, hb3⟩
    have Ht3 := Lib.hid (Ht2.out.trans (hb3.mono (by have h1 := Ht2.out.size; omega)))
    have X_3 := Lib.hid (X_2.out.below hb3)
    have Y_3 := Lib.hid (Y_2.out.below hb3)
    have P_3 := Lib.hid (P_2.out.below hb3)
    have Q_3 := Lib.hid (Q_2.out.below hb3)
    clear hb3
    have k4 := Lib.hid (alive_any w103)
    go_wp2_with fail
    refine (k4.out).mono ?_
    rintro ee w104 ⟨rfl, hb4⟩
    have Ht4 := Lib.hid (Ht3.out.trans (hb4.mono (by have h1 := Ht3.out.size; omega)))
    have X_4 := Lib.hid (X_3.out.below hb4)
    have Y_4 := Lib.hid (Y_3.out.below hb4)
    have P_4 := Lib.hid (P_3.out.below hb4)
    have Q_4 := Lib.hid (Q_3.out.below hb4)
    clear hb4
    go_wp2_with fail
    go_ret
    exact ⟨rfl, Ht4.out⟩
  | true =>
    have f4 := (T.mulOk_true hok).2.2.1
    have f5 := fun zs => T.mulRow_add (zs := zs) hok
    have f6 := fun zs => T.mulRow_assoc (zs := zs) hok
    have f7 := T.mulRow_one (T.mulOk_true hok).1
    obtain ⟨br, hbr⟩ : ∃ br, br = T.mulRow xs ys := ⟨_, rfl⟩
    have hbl : br.length ≤ 1000 := by rw [hbr]; exact T.mulRow_len xs ys
    rw [← hbr] at f4 f5 f6
    have F4 := Lib.hid f4
    have F5 := Lib.hid f5
    have F6 := Lib.hid f6
    have F7 := Lib.hid f7
    have Hok := Lib.hid hok
    have Hbr := Lib.hid hbr
    clear f4 f5 f6 f7 hok hbr
    have k5 := Lib.hid (impl_OrdTimes (some ⟨g, 0, none⟩) (some ⟨g2, 0, none⟩) n c n2 c2 xs ys w1 X_0.out Y_0.out)
    unfold OrdOkPost at k5
    rw [← Hbr.out, Hok.out] at k5
    go_wp2_with fail
    refine (k5.out).mono ?_
    rintro ee w105 ⟨aP, cP, rfl, ho, hb5⟩
    have Ht5 := Lib.hid (Ht0.out.trans (hb5.mono (by have h1 := Ht0.out.size; omega)))
    have X_5 := Lib.hid (X_0.out.below hb5)
    have Y_5 := Lib.hid (Y_0.out.below hb5)
    have P_5 := Lib.hid (Sl.of_own ho)
    clear hb5 ho
    have k6 := Lib.hid (spec_OrdTimes (some ⟨g, 0, none⟩) (some ⟨g2, 0, none⟩) n c n2 c2 xs ys w105 X_5.out Y_5.out)
    unfold OrdOkPost at k6
    rw [← Hbr.out, Hok.out] at k6
    go_wp2_with fail
    refine (k6.out).mono ?_
    rintro ee w106 ⟨aQ, cQ, rfl, ho, hb6⟩
    have Ht6 := Lib.hid (Ht5.out.trans (hb6.mono (by have h1 := Ht5.out.size; omega)))
    have X_6 := Lib.hid (X_5.out.below hb6)
    have Y_6 := Lib.hid (Y_5.out.below hb6)
    have P_6 := Lib.hid (P_5.out.below hb6)
    have Q_6 := Lib.hid (Sl.of_own ho)
    clear hb6 ho
    have k7 := Lib.hid (sameInts_any aP aQ br.length cP br.length cQ br br w106 (by omega) P_6.out Q_6.out)
    rw [eqB_refl] at k7
    go_wp2_with fail
    refine (k7.out).mono ?_
    rintro ee w107 ⟨rfl, hb7⟩
    have Ht7 := Lib.hid (Ht6.out.trans (hb7.mono (by have h1 := Ht6.out.size; omega)))
    have X_7 := Lib.hid (X_6.out.below hb7)
    have Y_7 := Lib.hid (Y_6.out.below hb7)
    have P_7 := Lib.hid (P_6.out.below hb7)
    have Q_7 := Lib.hid (Q_6.out.below hb7)
    clear hb7
    have k8 := Lib.hid (drawOrdTimes_any a2 len2 cap2 w107 (H2.out.later Ht7.out))
    go_wp2_with fail
    refine (k8.out).mono ?_
    rintro ee w108 ⟨zs, vs, gz, nz, cz, gv, nv, cv, hnz, hnv, rfl, ho, ho', hlz, hlv, hb8⟩
    have Ht8 := Lib.hid (Ht7.out.trans (hb8.mono (by have h1 := Ht7.out.size; omega)))
    have X_8 := Lib.hid (X_7.out.below hb8)
    have Y_8 := Lib.hid (Y_7.out.below hb8)
    have P_8 := Lib.hid (P_7.out.below hb8)
    have Q_8 := Lib.hid (Q_7.out.below hb8)
    have Z_8 := Lib.hid (Sl.of_own ho)
    have V_8 := Lib.hid (Sl.of_own ho')
    clear hb8 ho ho'
    have Hnz := Lib.hid hnz
    have Hnv := Lib.hid hnv
    clear hnz hnv
    obtain ⟨pr, hpr⟩ : ∃ x, x = T.addRow ys zs := ⟨_, rfl⟩
    have Hpr := Lib.hid hpr
    clear hpr
    obtain ⟨po, hpo⟩ : ∃ x, x = T.addOk ys zs := ⟨_, rfl⟩
    have Hpo := Lib.hid hpo
    clear hpo
    have k9 := Lib.hid (impl_OrdAdd (some ⟨g2, 0, none⟩) (some ⟨gz, 0, none⟩) n2 c2 nz cz ys zs w108 Y_8.out Z_8.out)
    unfold OrdOkPost at k9
    rw [← Hpr.out, ← Hpo.out] at k9
    go_wp2_with fail
    refine (k9.out).mono ?_
    rintro ee w109 ⟨aM, cM, rfl, ho, hb9⟩
    have Ht9 := Lib.hid (Ht8.out.trans (hb9.mono (by have h1 := Ht8.out.size; omega)))
    have X_9 := Lib.hid (X_8.out.below hb9)
    have Y_9 := Lib.hid (Y_8.out.below hb9)
    have P_9 := Lib.hid (P_8.out.below hb9)
    have Q_9 := Lib.hid (Q_8.out.below hb9)
    have Z_9 := Lib.hid (Z_8.out.below hb9)
    have V_9 := Lib.hid (V_8.out.below hb9)
    have M_9 := Lib.hid (Sl.of_own ho)
    clear hb9 ho
    obtain ⟨qr, hqr⟩ : ∃ x, x = T.mulRow xs pr := ⟨_, rfl⟩
    have Hqr := Lib.hid hqr
    clear hqr
    obtain ⟨qo, hqo⟩ : ∃ x, x = T.mulOk xs pr := ⟨_, rfl⟩
    have Hqo := Lib.hid hqo
    clear hqo
    have hql : qr.length ≤ 1000 := by rw [Hqr.out]; exact T.mulRow_len _ _
    have k10 := Lib.hid (impl_OrdTimes (some ⟨g, 0, none⟩) aM n c pr.length cM xs pr w109 X_9.out M_9.out)
    unfold OrdOkPost at k10
    rw [← Hqr.out, ← Hqo.out] at k10
    go_wp2_with fail
    refine (k10.out).mono ?_
    rintro ee w110 ⟨aL, cL, rfl, ho, hb10⟩
    have Ht10 := Lib.hid (Ht9.out.trans (hb10.mono (by have h1 := Ht9.out.size; omega)))
    have X_10 := Lib.hid (X_9.out.below hb10)
    have Y_10 := Lib.hid (Y_9.out.below hb10)
    have P_10 := Lib.hid (P_9.out.below hb10)
    have Q_10 := Lib.hid (Q_9.out.below hb10)
    have Z_10 := Lib.hid (Z_9.out.below hb10)
    have V_10 := Lib.hid (V_9.out.below hb10)
    have M_10 := Lib.hid (M_9.out.below hb10)
    have L_10 := Lib.hid (Sl.of_own ho)
    clear hb10 ho
    obtain ⟨rr, hrr⟩ : ∃ x, x = T.mulRow xs zs := ⟨_, rfl⟩
    have Hrr := Lib.hid hrr
    clear hrr
    obtain ⟨ro, hro⟩ : ∃ x, x = T.mulOk xs zs := ⟨_, rfl⟩
    have Hro := Lib.hid hro
    clear hro
    have k11 := Lib.hid (impl_OrdTimes (some ⟨g, 0, none⟩) (some ⟨gz, 0, none⟩) n c nz cz xs zs w110 X_10.out Z_10.out)
    unfold OrdOkPost at k11
    rw [← Hrr.out, ← Hro.out] at k11
    go_wp2_with fail
    refine (k11.out).mono ?_
    rintro ee w111 ⟨aA, cA, rfl, ho, hb11⟩
    have Ht11 := Lib.hid (Ht10.out.trans (hb11.mono (by have h1 := Ht10.out.size; omega)))
    have X_11 := Lib.hid (X_10.out.below hb11)
    have Y_11 := Lib.hid (Y_10.out.below hb11)
    have P_11 := Lib.hid (P_10.out.below hb11)
    have Q_11 := Lib.hid (Q_10.out.below hb11)
    have Z_11 := Lib.hid (Z_10.out.below hb11)
    have V_11 := Lib.hid (V_10.out.below hb11)
    have M_11 := Lib.hid (M_10.out.below hb11)
    have L_11 := Lib.hid (L_10.out.below hb11)
    have A_11 := Lib.hid (Sl.of_own ho)
    clear hb11 ho
    obtain ⟨sr, hsr⟩ : ∃ x, x = T.addRow br rr := ⟨_, rfl⟩
    have Hsr := Lib.hid hsr
    clear hsr
    obtain ⟨so, hso⟩ : ∃ x, x = T.addOk br rr := ⟨_, rfl⟩
    have Hso := Lib.hid hso
    clear hso
    have k12 := Lib.hid (impl_OrdAdd aP aA br.length cP rr.length cA br rr w111 P_11.out A_11.out)
    unfold OrdOkPost at k12
    rw [← Hsr.out, ← Hso.out] at k12
    go_wp2_with fail
    refine (k12.out).mono ?_
    rintro ee w112 ⟨aR, cR, rfl, ho, hb12⟩
    have Ht12 := Lib.hid (Ht11.out.trans (hb12.mono (by have h1 := Ht11.out.size; omega)))
    have X_12 := Lib.hid (X_11.out.below hb12)
    have Y_12 := Lib.hid (Y_11.out.below hb12)
    have P_12 := Lib.hid (P_11.out.below hb12)
    have Q_12 := Lib.hid (Q_11.out.below hb12)
    have Z_12 := Lib.hid (Z_11.out.below hb12)
    have V_12 := Lib.hid (V_11.out.below hb12)
    have M_12 := Lib.hid (M_11.out.below hb12)
    have L_12 := Lib.hid (L_11.out.below hb12)
    have A_12 := Lib.hid (A_11.out.below hb12)
    have R_12 := Lib.hid (Sl.of_own ho)
    clear hb12 ho
    go_upto_region 15 with fail
    go_cut [117] (fun v117 wx => v117 = .bool false ∧ Below w112.heap.size w112 wx)
    case first =>
      cases po with
      | false =>
        go_wp2_with fail
        go_meet
        exact ⟨rfl, Below.refl _ _⟩
      | true =>
        cases qo with
        | false =>
          go_wp2_with fail
          go_meet
          exact ⟨rfl, Below.refl _ _⟩
        | true =>
          cases ro with
          | false =>
            go_wp2_with fail
            go_meet
            exact ⟨rfl, Below.refl _ _⟩
          | true =>
            cases so with
            | false =>
              go_wp2_with fail
              go_meet
              exact ⟨rfl, Below.refl _ _⟩
            | true =>
              have has : qr = sr := by
                rw [Hqr.out, Hsr.out, Hpr.out, Hrr.out]
                exact F5.out zs Hpo.out.symm (by rw [← Hpr.out]; exact Hqo.out.symm) Hro.out.symm (by rw [← Hrr.out]; exact Hso.out.symm)
              have heq : eqB qr sr = true := eqB_true.2 has
              have Heq := Lib.hid heq
              clear has heq
              have ks := Lib.hid (sameInts_any aL aR qr.length cL sr.length cR qr sr w112 (by omega) L_12.out R_12.out)
              rw [Heq.out] at ks
              go_wp2_with fail
              refine (ks.out).mono ?_
              rintro ee wx ⟨rfl, hbx⟩
              have Hbx := Lib.hid hbx
              clear hbx
              go_wp2_with fail
              go_meet
              exact ⟨rfl, Hbx.out⟩
    case rest =>
      obtain ⟨rfl, hbc⟩ := hcut
      go_step
      obtain ⟨wk13, rfl⟩ : ∃ wk : World, wk = wc := ⟨_, rfl⟩
      have Ht13 := Lib.hid (Ht12.out.trans (hbc.mono (by have h1 := Ht12.out.size; omega)))
      have X_13 := Lib.hid (X_12.out.below hbc)
      have Y_13 := Lib.hid (Y_12.out.below hbc)
      have P_13 := Lib.hid (P_12.out.below hbc)
      have Z_13 := Lib.hid (Z_12.out.below hbc)
      clear hbc
      obtain ⟨tr, htr⟩ : ∃ x, x = T.mulRow br zs := ⟨_, rfl⟩
      have Htr := Lib.hid htr
      clear htr
      obtain ⟨tk, htk⟩ : ∃ x, x = T.mulOk br zs := ⟨_, rfl⟩
      have Htk := Lib.hid htk
      clear htk
      have htl : tr.length ≤ 1000 := by rw [Htr.out]; exact T.mulRow_len _ _
      have k14 := Lib.hid (impl_OrdTimes aP (some ⟨gz, 0, none⟩) br.length cP nz cz br zs wk13 P_13.out Z_13.out)
      unfold OrdOkPost at k14
      rw [← Htr.out, ← Htk.out] at k14
      go_wp2_with fail
      refine (k14.out).mono ?_
      rintro ee w114 ⟨aT1, cT1, rfl, ho, hb14⟩
      have Ht14 := Lib.hid (Ht13.out.trans (hb14.mono (by have h1 := Ht13.out.size; omega)))
      have X_14 := Lib.hid (X_13.out.below hb14)
      have Y_14 := Lib.hid (Y_13.out.below hb14)
      have P_14 := Lib.hid (P_13.out.below hb14)
      have Z_14 := Lib.hid (Z_13.out.below hb14)
      have T1_14 := Lib.hid (Sl.of_own ho)
      clear hb14 ho
      obtain ⟨ur, hur⟩ : ∃ x, x = T.mulRow ys zs := ⟨_, rfl⟩
      have Hur := Lib.hid hur
      clear hur
      obtain ⟨uo, huo⟩ : ∃ x, x = T.mulOk ys zs := ⟨_, rfl⟩
      have Huo := Lib.hid huo
      clear huo
      have k15 := Lib.hid (impl_OrdTimes (some ⟨g2, 0, none⟩) (some ⟨gz, 0, none⟩) n2 c2 nz cz ys zs w114 Y_14.out Z_14.out)
      unfold OrdOkPost at k15
      rw [← Hur.out, ← Huo.out] at k15
      go_wp2_with fail
      refine (k15.out).mono ?_
      rintro ee w115 ⟨aU1, cU1, rfl, ho, hb15⟩
      have Ht15 := Lib.hid (Ht14.out.trans (hb15.mono (by have h1 := Ht14.out.size; omega)))
      have X_15 := Lib.hid (X_14.out.below hb15)
      have Y_15 := Lib.hid (Y_14.out.below hb15)
      have P_15 := Lib.hid (P_14.out.below hb15)
      have Z_15 := Lib.hid (Z_14.out.below hb15)
      have T1_15 := Lib.hid (T1_14.out.below hb15)
      have U1_15 := Lib.hid (Sl.of_own ho)
      clear hb15 ho
      obtain ⟨vr, hvr⟩ : ∃ x, x = T.mulRow xs ur := ⟨_, rfl⟩
      have Hvr := Lib.hid hvr
      clear hvr
      obtain ⟨vo, hvo⟩ : ∃ x, x = T.mulOk xs ur := ⟨_, rfl⟩
      have Hvo := Lib.hid hvo
      clear hvo
      have k16 := Lib.hid (impl_OrdTimes (some ⟨g, 0, none⟩) aU1 n c ur.length cU1 xs ur w115 X_15.out U1_15.out)
      unfold OrdOkPost at k16
      rw [← Hvr.out, ← Hvo.out] at k16
      go_wp2_with fail
      refine (k16.out).mono ?_
      rintro ee w116 ⟨aV1, cV1, rfl, ho, hb16⟩
      have Ht16 := Lib.hid (Ht15.out.trans (hb16.mono (by have h1 := Ht15.out.size; omega)))
      have X_16 := Lib.hid (X_15.out.below hb16)
      have Y_16 := Lib.hid (Y_15.out.below hb16)
      have P_16 := Lib.hid (P_15.out.below hb16)
      have Z_16 := Lib.hid (Z_15.out.below hb16)
      have T1_16 := Lib.hid (T1_15.out.below hb16)
      have U1_16 := Lib.hid (U1_15.out.below hb16)
      have V1_16 := Lib.hid (Sl.of_own ho)
      clear hb16 ho
      go_upto_region 20 with fail
      go_cut [148] (fun v148 wx => v148 = .bool false ∧ Below w116.heap.size w116 wx)
      case first =>
        cases tk with
        | false =>
          go_wp2_with fail
          go_meet
          exact ⟨rfl, Below.refl _ _⟩
        | true =>
          cases uo with
          | false =>
            go_wp2_with fail
            go_meet
            exact ⟨rfl, Below.refl _ _⟩
          | true =>
            cases vo with
            | false =>
              go_wp2_with fail
              go_meet
              exact ⟨rfl, Below.refl _ _⟩
            | true =>
              have has : tr = vr := by
                rw [Htr.out, Hvr.out, Hur.out]
                exact F6.out zs Htk.out.symm Huo.out.symm (by rw [← Hur.out]; exact Hvo.out.symm)
              have heq : eqB tr vr = true := eqB_true.2 has
              have Heq := Lib.hid heq
              clear has heq
              have ks := Lib.hid (sameInts_any aT1 aV1 tr.length cT1 vr.length cV1 tr vr w116 (by omega) T1_16.out V1_16.out)
              rw [Heq.out] at ks
              go_wp2_with fail
              refine (ks.out).mono ?_
              rintro ee wx ⟨rfl, hbx⟩
              have Hbx := Lib.hid hbx
              clear hbx
              go_wp2_with fail
              go_meet
              exact ⟨rfl, Hbx.out⟩
      case rest =>
        obtain ⟨rfl, hbc⟩ := hcut
        go_step
        obtain ⟨wk17, rfl⟩ : ∃ wk : World, wk = wc := ⟨_, rfl⟩
        have Ht17 := Lib.hid (Ht16.out.trans (hbc.mono (by have h1 := Ht16.out.size; omega)))
        have X_17 := Lib.hid (X_16.out.below hbc)
        have P_17 := Lib.hid (P_16.out.below hbc)
        clear hbc
        have hxl : xs.length ≤ 1000 := by have h1 := F7.out.1; have h2 := T.mulRow_len xs [1, 1, 0]; rw [h1] at h2; exact h2
        have k18 := Lib.hid (impl_OrdOf 1 wk17 (by decide) (by decide))
        rw [show T.num' 1 = [1, 1, 0] from rfl] at k18
        go_wp2_with fail
        refine (k18.out).mono ?_
        rintro ee w118 ⟨aI, cI, rfl, ho, hb18⟩
        have Ht18 := Lib.hid (Ht17.out.trans (hb18.mono (by have h1 := Ht17.out.size; omega)))
        have X_18 := Lib.hid (X_17.out.below hb18)
        have P_18 := Lib.hid (P_17.out.below hb18)
        have I_18 := Lib.hid (Sl.of_own ho)
        clear hb18 ho
        have k19 := Lib.hid (impl_OrdTimes (some ⟨g, 0, none⟩) aI n c 3 cI xs [1, 1, 0] w118 X_18.out I_18.out)
        unfold OrdOkPost at k19
        rw [F7.out.1, F7.out.2.1] at k19
        go_wp2_with fail
        refine (k19.out).mono ?_
        rintro ee w119 ⟨aO, cO, rfl, ho, hb19⟩
        have Ht19 := Lib.hid (Ht18.out.trans (hb19.mono (by have h1 := Ht18.out.size; omega)))
        have X_19 := Lib.hid (X_18.out.below hb19)
        have P_19 := Lib.hid (P_18.out.below hb19)
        have I_19 := Lib.hid (I_18.out.below hb19)
        have O_19 := Lib.hid (Sl.of_own ho)
        clear hb19 ho
        have k20 := Lib.hid (impl_OrdOf 1 w119 (by decide) (by decide))
        rw [show T.num' 1 = [1, 1, 0] from rfl] at k20
        go_wp2_with fail
        refine (k20.out).mono ?_
        rintro ee w120 ⟨aJ, cJ, rfl, ho, hb20⟩
        have Ht20 := Lib.hid (Ht19.out.trans (hb20.mono (by have h1 := Ht19.out.size; omega)))
        have X_20 := Lib.hid (X_19.out.below hb20)
        have P_20 := Lib.hid (P_19.out.below hb20)
        have I_20 := Lib.hid (I_19.out.below hb20)
        have O_20 := Lib.hid (O_19.out.below hb20)
        have J_20 := Lib.hid (Sl.of_own ho)
        clear hb20 ho
        have k21 := Lib.hid (impl_OrdTimes aJ (some ⟨g, 0, none⟩) 3 cJ n c [1, 1, 0] xs w120 J_20.out X_20.out)
        unfold OrdOkPost at k21
        rw [F7.out.2.2.1, F7.out.2.2.2] at k21
        go_wp2_with fail
        refine (k21.out).mono ?_
        rintro ee w121 ⟨aW, cW, rfl, ho, hb21⟩
        have Ht21 := Lib.hid (Ht20.out.trans (hb21.mono (by have h1 := Ht20.out.size; omega)))
        have X_21 := Lib.hid (X_20.out.below hb21)
        have P_21 := Lib.hid (P_20.out.below hb21)
        have I_21 := Lib.hid (I_20.out.below hb21)
        have O_21 := Lib.hid (O_20.out.below hb21)
        have J_21 := Lib.hid (J_20.out.below hb21)
        have W_21 := Lib.hid (Sl.of_own ho)
        clear hb21 ho
        have k22 := Lib.hid (impl_valid aP br.length cP br w121 P_21.out F4.out)
        go_wp2_with fail
        refine (k22.out).mono ?_
        rintro ee w122 ⟨rfl, hb22⟩
        have Ht22 := Lib.hid (Ht21.out.trans (hb22.mono (by have h1 := Ht21.out.size; omega)))
        have X_22 := Lib.hid (X_21.out.below hb22)
        have P_22 := Lib.hid (P_21.out.below hb22)
        have I_22 := Lib.hid (I_21.out.below hb22)
        have O_22 := Lib.hid (O_21.out.below hb22)
        have J_22 := Lib.hid (J_21.out.below hb22)
        have W_22 := Lib.hid (W_21.out.below hb22)
        clear hb22
        have k23 := Lib.hid (sameInts_any aO (some ⟨g, 0, none⟩) xs.length cO n c xs xs w122 (by omega) O_22.out X_22.out)
        rw [eqB_refl] at k23
        go_wp2_with fail
        refine (k23.out).mono ?_
        rintro ee w123 ⟨rfl, hb23⟩
        have Ht23 := Lib.hid (Ht22.out.trans (hb23.mono (by have h1 := Ht22.out.size; omega)))
        have X_23 := Lib.hid (X_22.out.below hb23)
        have P_23 := Lib.hid (P_22.out.below hb23)
        have I_23 := Lib.hid (I_22.out.below hb23)
        have O_23 := Lib.hid (O_22.out.below hb23)
        have J_23 := Lib.hid (J_22.out.below hb23)
        have W_23 := Lib.hid (W_22.out.below hb23)
        clear hb23
        have k24 := Lib.hid (sameInts_any aW (some ⟨g, 0, none⟩) xs.length cW n c xs xs w123 (by omega) W_23.out X_23.out)
        rw [eqB_refl] at k24
        go_wp2_with fail
        refine (k24.out).mono ?_
        rintro ee w124 ⟨rfl, hb24⟩
        have Ht24 := Lib.hid (Ht23.out.trans (hb24.mono (by have h1 := Ht23.out.size; omega)))
        have X_24 := Lib.hid (X_23.out.below hb24)
        have P_24 := Lib.hid (P_23.out.below hb24)
        have I_24 := Lib.hid (I_23.out.below hb24)
        have O_24 := Lib.hid (O_23.out.below hb24)
        have J_24 := Lib.hid (J_23.out.below hb24)
        have W_24 := Lib.hid (W_23.out.below hb24)
        clear hb24
        go_wp2_with fail
        go_ret
        exact ⟨rfl, Ht24.out⟩

end Go.Proofs.Ytaleaagnkfbhpab

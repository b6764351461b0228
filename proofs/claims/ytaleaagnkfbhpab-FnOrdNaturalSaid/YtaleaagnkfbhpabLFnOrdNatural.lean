/- FnOrdNatural: the walk of the law. -/
import Derived.Test.YtaleaagnkfbhpabDrawL
import Derived.Test.YtaleaagnkfbhpabNatM
import Derived.Test.YtaleaagnkfbhpabNatS
import Derived.Test.YtaleaagnkfbhpabNatJ
import Derived.Test.YtaleaagnkfbhpabAddM
import Derived.Test.YtaleaagnkfbhpabAddT
import Derived.Test.YtaleaagnkfbhpabFn1
import Derived.Deep.DeepCutAuto
namespace Go.Proofs.Ytaleaagnkfbhpab
open Go.RowKit

set_option maxRecDepth 100000 in
set_option maxHeartbeats 8000000 in
theorem fnOrdNatural_walk (a : Option Addr) (len cap : Nat) (a2 : Option Addr) (len2 cap2 : Nat) (w : World) (h : By w a len cap) (h2 : By w a2 len2 cap2) :
    Calls Try.prog 3 #[.slice a len cap, .slice a2 len2 cap2] w fun e w' => e = .returned (.bool true) ∧ Below w.heap.size w w' := by
  have hlm : len ≤ 9223372036854775807 := by have := h.1; have := h.2.1; unfold maxLen at this; omega
  have hlm2 : len2 ≤ 9223372036854775807 := by have := h2.1; have := h2.2.1; unfold maxLen at this; omega
  by_cases hbig : 1048576 < len
  · clear h h2
    go_enter Try.func3, Try.ntmps3
    go_wp2_with fail
    go_ret
    exact ⟨rfl, Below.refl _ _⟩
  by_cases hbig2 : 1048576 < len2
  · clear h h2
    go_enter Try.func3, Try.ntmps3
    go_wp2_with fail
    go_ret
    exact ⟨rfl, Below.refl _ _⟩
  have k0 := Lib.hid (drawOrdNatural_any a len cap w h)
  have H2 := Lib.hid h2
  clear h h2
  go_enter Try.func3, Try.ntmps3
  go_wp2_with fail
  refine (k0.out).mono ?_
  rintro ee w1 ⟨xs, ys, g, n, c, g2, n2, c2, hn, hn2, rfl, ho, ho2, hl, hl2, hb0⟩
  have Hn := Lib.hid hn
  have Hn2 := Lib.hid hn2
  clear hn hn2
  have X_0 := Lib.hid (Sl.of_own ho)
  have Y_0 := Lib.hid (Sl.of_own ho2)
  have Ht0 := Lib.hid hb0
  have hws := hb0.size
  clear ho ho2 hb0
  cases hok : T.natOk xs ys with
  | false =>
    have hbr := T.natOk_false hok
    have Hok := Lib.hid hok
    have Hbr := Lib.hid hbr
    clear hok hbr
    have k1 := Lib.hid (impl_OrdNatural (some ⟨g, 0, none⟩) (some ⟨g2, 0, none⟩) n c n2 c2 xs ys w1 X_0.out Y_0.out)
    unfold OrdOkPost at k1
    rw [Hbr.out, Hok.out, List.length_nil] at k1
    go_wp2_with fail
    refine (k1.out).mono ?_
    rintro ee w101 ⟨aP, cP, rfl, ho, hb1⟩
    have Ht1 := Lib.hid (Ht0.out.trans (hb1.mono (by have h1 := Ht0.out.size; omega)))
    have X_1 := Lib.hid (X_0.out.below hb1)
    have Y_1 := Lib.hid (Y_0.out.below hb1)
    have P_1 := Lib.hid (Sl.of_own ho)
    clear hb1 ho
    have k2 := Lib.hid (spec_OrdNatural (some ⟨g, 0, none⟩) (some ⟨g2, 0, none⟩) n c n2 c2 xs ys w101 X_1.out Y_1.out)
    unfold OrdOkPost at k2
    rw [Hbr.out, Hok.out, List.length_nil] at k2
    go_wp2_with fail
    refine (k2.out).mono ?_
    rintro ee w102 ⟨aQ, cQ, rfl, ho, hb2⟩
    have Ht2 := Lib.hid (Ht1.out.trans (hb2.mono (by have h1 := Ht1.out.size; omega)))
    have X_2 := Lib.hid (X_1.out.below hb2)
    have Y_2 := Lib.hid (Y_1.out.below hb2)
    have P_2 := Lib.hid (P_1.out.below hb2)
    have Q_2 := Lib.hid (Sl.of_own ho)
    clear hb2 ho
    have k3 := Lib.hid (sameInts_any aP aQ 0 cP 0 cQ [] [] w102 (by decide) P_2.out Q_2.out)
    rw [eqB_refl] at k3
    go_wp2_with fail
    refine (k3.out).mono ?_
    rintro ee w103 ⟨rfl, hb3⟩
    have Ht3 := Lib.hid (Ht2.out.trans (hb3.mono (by have h1 := Ht2.out.size; omega)))
    have X_3 := Lib.hid (X_2.out.below hb3)
    have Y_3 := Lib.hid (Y_2.out.below hb3)
    have P_3 := Lib.hid (P_2.out.below hb3)
    have Q_3 := Lib.hid (Q_2.out.below hb3)
    clear hb3
    have k4 := Lib.hid (alive_any w103)
    go_wp2_with fail
    refine (k4.out).mono ?_
    rintro ee w104 ⟨rfl, hb4⟩
    have Ht4 := Lib.hid (Ht3.out.trans (hb4.mono (by have h1 := Ht3.out.size; omega)))
    have X_4 := Lib.hid (X_3.out.below hb4)
    have Y_4 := Lib.hid (Y_3.out.below hb4)
    have P_4 := Lib.hid (P_3.out.below hb4)
    have Q_4 := Lib.hid (Q_3.out.below hb4)
    clear hb4
    go_wp2_with fail
    go_ret
    exact ⟨rfl, Ht4.out⟩
  | true =>
    have f5 := fun zs => T.natRow_mono (zs := zs) hok
    have f6 := fun zs => T.natRow_assoc (zs := zs) hok
    have f7 := T.natRow_sum hok
    have f8 := T.natRow_comm xs ys
    rw [hok] at f8
    obtain ⟨br, hbr⟩ : ∃ br, br = T.natRow xs ys := ⟨_, rfl⟩
    have hbl : br.length ≤ 1000 := by rw [hbr]; exact T.natRow_len xs ys
    rw [← hbr] at f5 f6 f7 f8
    have F5 := Lib.hid f5
    have F6 := Lib.hid f6
    have F7 := Lib.hid f7
    have F8 := Lib.hid f8
    have Hok := Lib.hid hok
    have Hbr := Lib.hid hbr
    clear f5 f6 f7 f8 hok hbr
    have k5 := Lib.hid (impl_OrdNatural (some ⟨g, 0, none⟩) (some ⟨g2, 0, none⟩) n c n2 c2 xs ys w1 X_0.out Y_0.out)
    unfold OrdOkPost at k5
    rw [← Hbr.out, Hok.out] at k5
    go_wp2_with fail
    refine (k5.out).mono ?_
    rintro ee w105 ⟨aP, cP, rfl, ho, hb5⟩
    have Ht5 := Lib.hid (Ht0.out.trans (hb5.mono (by have h1 := Ht0.out.size; omega)))
    have X_5 := Lib.hid (X_0.out.below hb5)
    have Y_5 := Lib.hid (Y_0.out.below hb5)
    have P_5 := Lib.hid (Sl.of_own ho)
    clear hb5 ho
    have k6 := Lib.hid (spec_OrdNatural (some ⟨g, 0, none⟩) (some ⟨g2, 0, none⟩) n c n2 c2 xs ys w105 X_5.out Y_5.out)
    unfold OrdOkPost at k6
    rw [← Hbr.out, Hok.out] at k6
    go_wp2_with fail
    refine (k6.out).mono ?_
    rintro ee w106 ⟨aQ, cQ, rfl, ho, hb6⟩
    have Ht6 := Lib.hid (Ht5.out.trans (hb6.mono (by have h1 := Ht5.out.size; omega)))
    have X_6 := Lib.hid (X_5.out.below hb6)
    have Y_6 := Lib.hid (Y_5.out.below hb6)
    have P_6 := Lib.hid (P_5.out.below hb6)
    have Q_6 := Lib.hid (Sl.of_own ho)
    clear hb6 ho
    have k7 := Lib.hid (sameInts_any aP aQ br.length cP br.length cQ br br w106 (by omega) P_6.out Q_6.out)
    rw [eqB_refl] at k7
    go_wp2_with fail
    refine (k7.out).mono ?_
    rintro ee w107 ⟨rfl, hb7⟩
    have Ht7 := Lib.hid (Ht6.out.trans (hb7.mono (by have h1 := Ht6.out.size; omega)))
    have X_7 := Lib.hid (X_6.out.below hb7)
    have Y_7 := Lib.hid (Y_6.out.below hb7)
    have P_7 := Lib.hid (P_6.out.below hb7)
    have Q_7 := Lib.hid (Q_6.out.below hb7)
    clear hb7
    have k8 := Lib.hid (impl_OrdNatural (some ⟨g2, 0, none⟩) (some ⟨g, 0, none⟩) n2 c2 n c ys xs w107 Y_7.out X_7.out)
    unfold OrdOkPost at k8
    rw [F8.out.1, F8.out.2] at k8
    go_wp2_with fail
    refine (k8.out).mono ?_
    rintro ee w108 ⟨aB, cB, rfl, ho, hb8⟩
    have Ht8 := Lib.hid (Ht7.out.trans (hb8.mono (by have h1 := Ht7.out.size; omega)))
    have X_8 := Lib.hid (X_7.out.below hb8)
    have Y_8 := Lib.hid (Y_7.out.below hb8)
    have P_8 := Lib.hid (P_7.out.below hb8)
    have Q_8 := Lib.hid (Q_7.out.below hb8)
    have B_8 := Lib.hid (Sl.of_own ho)
    clear hb8 ho
    obtain ⟨sr, hsr⟩ : ∃ x, x = T.addRow xs ys := ⟨_, rfl⟩
    have Hsr := Lib.hid hsr
    clear hsr
    obtain ⟨so, hso⟩ : ∃ x, x = T.addOk xs ys := ⟨_, rfl⟩
    have Hso := Lib.hid hso
    clear hso
    have k9 := Lib.hid (impl_OrdAdd (some ⟨g, 0, none⟩) (some ⟨g2, 0, none⟩) n c n2 c2 xs ys w108 X_8.out Y_8.out)
    unfold OrdOkPost at k9
    rw [← Hsr.out, ← Hso.out] at k9
    go_wp2_with fail
    refine (k9.out).mono ?_
    rintro ee w109 ⟨aS, cS, rfl, ho, hb9⟩
    have Ht9 := Lib.hid (Ht8.out.trans (hb9.mono (by have h1 := Ht8.out.size; omega)))
    have X_9 := Lib.hid (X_8.out.below hb9)
    have Y_9 := Lib.hid (Y_8.out.below hb9)
    have P_9 := Lib.hid (P_8.out.below hb9)
    have Q_9 := Lib.hid (Q_8.out.below hb9)
    have B_9 := Lib.hid (B_8.out.below hb9)
    have S_9 := Lib.hid (Sl.of_own ho)
    clear hb9 ho
    have k10 := Lib.hid (drawOrdNatural_any a2 len2 cap2 w109 (H2.out.later Ht9.out))
    go_wp2_with fail
    refine (k10.out).mono ?_
    rintro ee w110 ⟨zs, vs, gz, nz, cz, gv, nv, cv, hnz, hnv, rfl, ho, ho', hlz, hlv, hb10⟩
    have Ht10 := Lib.hid (Ht9.out.trans (hb10.mono (by have h1 := Ht9.out.size; omega)))
    have X_10 := Lib.hid (X_9.out.below hb10)
    have Y_10 := Lib.hid (Y_9.out.below hb10)
    have P_10 := Lib.hid (P_9.out.below hb10)
    have Q_10 := Lib.hid (Q_9.out.below hb10)
    have B_10 := Lib.hid (B_9.out.below hb10)
    have S_10 := Lib.hid (S_9.out.below hb10)
    have Z_10 := Lib.hid (Sl.of_own ho)
    have V_10 := Lib.hid (Sl.of_own ho')
    clear hb10 ho ho'
    have Hnz := Lib.hid hnz
    have Hnv := Lib.hid hnv
    clear hnz hnv
    obtain ⟨lr, hlr⟩ : ∃ x, x = T.natRow br zs := ⟨_, rfl⟩
    have Hlr := Lib.hid hlr
    clear hlr
    obtain ⟨lo, hlo⟩ : ∃ x, x = T.natOk br zs := ⟨_, rfl⟩
    have Hlo := Lib.hid hlo
    clear hlo
    obtain ⟨qr, hqr⟩ : ∃ x, x = T.natRow ys zs := ⟨_, rfl⟩
    have Hqr := Lib.hid hqr
    clear hqr
    obtain ⟨qo, hqo⟩ : ∃ x, x = T.natOk ys zs := ⟨_, rfl⟩
    have Hqo := Lib.hid hqo
    clear hqo
    have hll : lr.length ≤ 1000 := by rw [Hlr.out]; exact T.natRow_len _ _
    have k11 := Lib.hid (impl_OrdNatural aP (some ⟨gz, 0, none⟩) br.length cP nz cz br zs w110 P_10.out Z_10.out)
    unfold OrdOkPost at k11
    rw [← Hlr.out, ← Hlo.out] at k11
    go_wp2_with fail
    refine (k11.out).mono ?_
    rintro ee w111 ⟨aL, cL, rfl, ho, hb11⟩
    have Ht11 := Lib.hid (Ht10.out.trans (hb11.mono (by have h1 := Ht10.out.size; omega)))
    have X_11 := Lib.hid (X_10.out.below hb11)
    have Y_11 := Lib.hid (Y_10.out.below hb11)
    have P_11 := Lib.hid (P_10.out.below hb11)
    have Q_11 := Lib.hid (Q_10.out.below hb11)
    have B_11 := Lib.hid (B_10.out.below hb11)
    have S_11 := Lib.hid (S_10.out.below hb11)
    have Z_11 := Lib.hid (Z_10.out.below hb11)
    have V_11 := Lib.hid (V_10.out.below hb11)
    have L_11 := Lib.hid (Sl.of_own ho)
    clear hb11 ho
    have k12 := Lib.hid (impl_OrdNatural (some ⟨g2, 0, none⟩) (some ⟨gz, 0, none⟩) n2 c2 nz cz ys zs w111 Y_11.out Z_11.out)
    unfold OrdOkPost at k12
    rw [← Hqr.out, ← Hqo.out] at k12
    go_wp2_with fail
    refine (k12.out).mono ?_
    rintro ee w112 ⟨aM, cM, rfl, ho, hb12⟩
    have Ht12 := Lib.hid (Ht11.out.trans (hb12.mono (by have h1 := Ht11.out.size; omega)))
    have X_12 := Lib.hid (X_11.out.below hb12)
    have Y_12 := Lib.hid (Y_11.out.below hb12)
    have P_12 := Lib.hid (P_11.out.below hb12)
    have Q_12 := Lib.hid (Q_11.out.below hb12)
    have B_12 := Lib.hid (B_11.out.below hb12)
    have S_12 := Lib.hid (S_11.out.below hb12)
    have Z_12 := Lib.hid (Z_11.out.below hb12)
    have V_12 := Lib.hid (V_11.out.below hb12)
    have L_12 := Lib.hid (L_11.out.below hb12)
    have M_12 := Lib.hid (Sl.of_own ho)
    clear hb12 ho
    obtain ⟨rr, hrr⟩ : ∃ x, x = T.natRow xs qr := ⟨_, rfl⟩
    have Hrr := Lib.hid hrr
    clear hrr
    obtain ⟨ro, hro⟩ : ∃ x, x = T.natOk xs qr := ⟨_, rfl⟩
    have Hro := Lib.hid hro
    clear hro
    have k13 := Lib.hid (impl_OrdNatural (some ⟨g, 0, none⟩) aM n c qr.length cM xs qr w112 X_12.out M_12.out)
    unfold OrdOkPost at k13
    rw [← Hrr.out, ← Hro.out] at k13
    go_wp2_with fail
    refine (k13.out).mono ?_
    rintro ee w113 ⟨aR, cR, rfl, ho, hb13⟩
    have Ht13 := Lib.hid (Ht12.out.trans (hb13.mono (by have h1 := Ht12.out.size; omega)))
    have X_13 := Lib.hid (X_12.out.below hb13)
    have Y_13 := Lib.hid (Y_12.out.below hb13)
    have P_13 := Lib.hid (P_12.out.below hb13)
    have Q_13 := Lib.hid (Q_12.out.below hb13)
    have B_13 := Lib.hid (B_12.out.below hb13)
    have S_13 := Lib.hid (S_12.out.below hb13)
    have Z_13 := Lib.hid (Z_12.out.below hb13)
    have V_13 := Lib.hid (V_12.out.below hb13)
    have L_13 := Lib.hid (L_12.out.below hb13)
    have M_13 := Lib.hid (M_12.out.below hb13)
    have R_13 := Lib.hid (Sl.of_own ho)
    clear hb13 ho
    go_upto_region 16 with fail
    go_cut [114] (fun v114 wx => v114 = .bool false ∧ Below w113.heap.size w113 wx)
    case first =>
      cases lo with
      | false =>
        go_wp2_with fail
        go_meet
        exact ⟨rfl, Below.refl _ _⟩
      | true =>
        cases qo with
        | false =>
          go_wp2_with fail
          go_meet
          exact ⟨rfl, Below.refl _ _⟩
        | true =>
          cases ro with
          | false =>
            go_wp2_with fail
            go_meet
            exact ⟨rfl, Below.refl _ _⟩
          | true =>
            have has : lr = rr := by
              rw [Hlr.out, Hrr.out, Hqr.out]
              exact F6.out zs Hlo.out.symm Hqo.out.symm (by rw [← Hqr.out]; exact Hro.out.symm)
            have heq : eqB lr rr = true := eqB_true.2 has
            have Heq := Lib.hid heq
            clear has heq
            have ks := Lib.hid (sameInts_any aL aR lr.length cL rr.length cR lr rr w113 (by omega) L_13.out R_13.out)
            rw [Heq.out] at ks
            go_wp2_with fail
            refine (ks.out).mono ?_
            rintro ee wx ⟨rfl, hbx⟩
            have Hbx := Lib.hid hbx
            clear hbx
            go_wp2_with fail
            go_meet
            exact ⟨rfl, Hbx.out⟩
    case rest =>
      obtain ⟨rfl, hbc⟩ := hcut
      go_step
      obtain ⟨wk14, rfl⟩ : ∃ wk : World, wk = wc := ⟨_, rfl⟩
      have Ht14 := Lib.hid (Ht13.out.trans (hbc.mono (by have h1 := Ht13.out.size; omega)))
      have X_14 := Lib.hid (X_13.out.below hbc)
      have Y_14 := Lib.hid (Y_13.out.below hbc)
      have P_14 := Lib.hid (P_13.out.below hbc)
      have B_14 := Lib.hid (B_13.out.below hbc)
      have S_14 := Lib.hid (S_13.out.below hbc)
      have Z_14 := Lib.hid (Z_13.out.below hbc)
      clear hbc
      obtain ⟨tr, htr⟩ : ∃ x, x = T.natRow xs zs := ⟨_, rfl⟩
      have Htr := Lib.hid htr
      clear htr
      obtain ⟨tk, htk⟩ : ∃ x, x = T.natOk xs zs := ⟨_, rfl⟩
      have Htk := Lib.hid htk
      clear htk
      have k15 := Lib.hid (impl_OrdNatural (some ⟨g, 0, none⟩) (some ⟨gz, 0, none⟩) n c nz cz xs zs wk14 X_14.out Z_14.out)
      unfold OrdOkPost at k15
      rw [← Htr.out, ← Htk.out] at k15
      go_wp2_with fail
      refine (k15.out).mono ?_
      rintro ee w115 ⟨aO, cO, rfl, ho, hb15⟩
      have Ht15 := Lib.hid (Ht14.out.trans (hb15.mono (by have h1 := Ht14.out.size; omega)))
      have X_15 := Lib.hid (X_14.out.below hb15)
      have Y_15 := Lib.hid (Y_14.out.below hb15)
      have P_15 := Lib.hid (P_14.out.below hb15)
      have B_15 := Lib.hid (B_14.out.below hb15)
      have S_15 := Lib.hid (S_14.out.below hb15)
      have Z_15 := Lib.hid (Z_14.out.below hb15)
      have O_15 := Lib.hid (Sl.of_own ho)
      clear hb15 ho
      have k16 := Lib.hid (sameInts_any aB aP br.length cB br.length cP br br w115 (by omega) B_15.out P_15.out)
      rw [eqB_refl] at k16
      go_wp2_with fail
      refine (k16.out).mono ?_
      rintro ee w116 ⟨rfl, hb16⟩
      have Ht16 := Lib.hid (Ht15.out.trans (hb16.mono (by have h1 := Ht15.out.size; omega)))
      have X_16 := Lib.hid (X_15.out.below hb16)
      have Y_16 := Lib.hid (Y_15.out.below hb16)
      have P_16 := Lib.hid (P_15.out.below hb16)
      have B_16 := Lib.hid (B_15.out.below hb16)
      have S_16 := Lib.hid (S_15.out.below hb16)
      have Z_16 := Lib.hid (Z_15.out.below hb16)
      have O_16 := Lib.hid (O_15.out.below hb16)
      clear hb16
      cases so with
      | false =>
        cases tk with
        | false =>
          skip
          go_wp2_with fail
          go_ret
          exact ⟨rfl, Ht16.out⟩
        | true =>
          have hmo := F5.out zs Htk.out.symm
          rw [← Htr.out] at hmo
          obtain ⟨cv, hcv⟩ : ∃ x, x = T.cmpRow zs ys := ⟨_, rfl⟩
          rw [← hcv] at hmo
          have Hmo := Lib.hid hmo
          have Hcv := Lib.hid hcv
          have hcne : (cv == cv) = true := by simp
          clear hmo hcv
          have k17 := Lib.hid (impl_OrdCompare aO aP tr.length cO br.length cP tr br w116 O_16.out P_16.out)
          rw [Hmo.out] at k17
          go_wp2_with fail
          refine (k17.out).mono ?_
          rintro ee w117 ⟨rfl, hb17⟩
          have Ht17 := Lib.hid (Ht16.out.trans (hb17.mono (by have h1 := Ht16.out.size; omega)))
          have X_17 := Lib.hid (X_16.out.below hb17)
          have Y_17 := Lib.hid (Y_16.out.below hb17)
          have P_17 := Lib.hid (P_16.out.below hb17)
          have B_17 := Lib.hid (B_16.out.below hb17)
          have S_17 := Lib.hid (S_16.out.below hb17)
          have Z_17 := Lib.hid (Z_16.out.below hb17)
          have O_17 := Lib.hid (O_16.out.below hb17)
          clear hb17
          have k18 := Lib.hid (impl_OrdCompare (some ⟨gz, 0, none⟩) (some ⟨g2, 0, none⟩) nz cz n2 c2 zs ys w117 Z_17.out Y_17.out)
          rw [← Hcv.out] at k18
          go_wp2_with fail
          refine (k18.out).mono ?_
          rintro ee w118 ⟨rfl, hb18⟩
          have Ht18 := Lib.hid (Ht17.out.trans (hb18.mono (by have h1 := Ht17.out.size; omega)))
          have X_18 := Lib.hid (X_17.out.below hb18)
          have Y_18 := Lib.hid (Y_17.out.below hb18)
          have P_18 := Lib.hid (P_17.out.below hb18)
          have B_18 := Lib.hid (B_17.out.below hb18)
          have S_18 := Lib.hid (S_17.out.below hb18)
          have Z_18 := Lib.hid (Z_17.out.below hb18)
          have O_18 := Lib.hid (O_17.out.below hb18)
          clear hb18
          go_wp2_with fail
          go_ret
          exact ⟨rfl, Ht18.out⟩
      | true =>
        have hle : T.cmpRow sr br ≤ 0 := by rw [Hsr.out]; exact F7.out Hso.out.symm
        obtain ⟨u, hu⟩ : ∃ x, x = T.cmpRow sr br := ⟨_, rfl⟩
        rw [← hu] at hle
        have Hu := Lib.hid hu
        clear hu
        have k19 := Lib.hid (impl_OrdCompare aS aP sr.length cS br.length cP sr br w116 S_16.out P_16.out)
        rw [← Hu.out] at k19
        go_wp2_with fail
        refine (k19.out).mono ?_
        rintro ee w119 ⟨rfl, hb19⟩
        have Ht19 := Lib.hid (Ht16.out.trans (hb19.mono (by have h1 := Ht16.out.size; omega)))
        have X_19 := Lib.hid (X_16.out.below hb19)
        have Y_19 := Lib.hid (Y_16.out.below hb19)
        have P_19 := Lib.hid (P_16.out.below hb19)
        have B_19 := Lib.hid (B_16.out.below hb19)
        have S_19 := Lib.hid (S_16.out.below hb19)
        have Z_19 := Lib.hid (Z_16.out.below hb19)
        have O_19 := Lib.hid (O_16.out.below hb19)
        clear hb19
        cases tk with
        | false =>
          skip
          go_wp2_with fail
          go_ret
          exact ⟨rfl, Ht19.out⟩
        | true =>
          have hmo := F5.out zs Htk.out.symm
          rw [← Htr.out] at hmo
          obtain ⟨cv, hcv⟩ : ∃ x, x = T.cmpRow zs ys := ⟨_, rfl⟩
          rw [← hcv] at hmo
          have Hmo := Lib.hid hmo
          have Hcv := Lib.hid hcv
          have hcne : (cv == cv) = true := by simp
          clear hmo hcv
          have k20 := Lib.hid (impl_OrdCompare aO aP tr.length cO br.length cP tr br w119 O_19.out P_19.out)
          rw [Hmo.out] at k20
          go_wp2_with fail
          refine (k20.out).mono ?_
          rintro ee w120 ⟨rfl, hb20⟩
          have Ht20 := Lib.hid (Ht19.out.trans (hb20.mono (by have h1 := Ht19.out.size; omega)))
          have X_20 := Lib.hid (X_19.out.below hb20)
          have Y_20 := Lib.hid (Y_19.out.below hb20)
          have P_20 := Lib.hid (P_19.out.below hb20)
          have B_20 := Lib.hid (B_19.out.below hb20)
          have S_20 := Lib.hid (S_19.out.below hb20)
          have Z_20 := Lib.hid (Z_19.out.below hb20)
          have O_20 := Lib.hid (O_19.out.below hb20)
          clear hb20
          have k21 := Lib.hid (impl_OrdCompare (some ⟨gz, 0, none⟩) (some ⟨g2, 0, none⟩) nz cz n2 c2 zs ys w120 Z_20.out Y_20.out)
          rw [← Hcv.out] at k21
          go_wp2_with fail
          refine (k21.out).mono ?_
          rintro ee w121 ⟨rfl, hb21⟩
          have Ht21 := Lib.hid (Ht20.out.trans (hb21.mono (by have h1 := Ht20.out.size; omega)))
          have X_21 := Lib.hid (X_20.out.below hb21)
          have Y_21 := Lib.hid (Y_20.out.below hb21)
          have P_21 := Lib.hid (P_20.out.below hb21)
          have B_21 := Lib.hid (B_20.out.below hb21)
          have S_21 := Lib.hid (S_20.out.below hb21)
          have Z_21 := Lib.hid (Z_20.out.below hb21)
          have O_21 := Lib.hid (O_20.out.below hb21)
          clear hb21
          go_wp2_with fail
          go_ret
          exact ⟨rfl, Ht21.out⟩

end Go.Proofs.Ytaleaagnkfbhpab

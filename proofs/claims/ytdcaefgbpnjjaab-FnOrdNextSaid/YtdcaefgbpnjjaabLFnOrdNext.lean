/- FnOrdNext: the walk of the law. -/
import Derived.Test.YtdcaefgbpnjjaabDrawB
import Derived.Test.YtdcaefgbpnjjaabNextS
import Derived.Test.YtdcaefgbpnjjaabNext
import Derived.Test.YtdcaefgbpnjjaabBefore
import Derived.Test.YtdcaefgbpnjjaabFn1
namespace Go.Proofs.Ytdcaefgbpnjjaab
open Go.RowKit

set_option maxHeartbeats 4000000 in
theorem fnOrdNext_walk (a : Option Addr) (len cap : Nat) (a2 : Option Addr) (len2 cap2 : Nat) (w : World) (h : By w a len cap) (h2 : By w a2 len2 cap2) :
    Calls Try.prog 9 #[.slice a len cap, .slice a2 len2 cap2] w fun e w' => e = .returned (.bool true) ∧ Below w.heap.size w w' := by
  have hlm : len ≤ 9223372036854775807 := by have := h.1; have := h.2.1; unfold maxLen at this; omega
  have hlm2 : len2 ≤ 9223372036854775807 := by have := h2.1; have := h2.2.1; unfold maxLen at this; omega
  by_cases hbig : 1048576 < len
  · clear h h2
    go_enter Try.func9, Try.ntmps9
    go_wp2_with fail
    go_ret
    exact ⟨rfl, Below.refl _ _⟩
  by_cases hbig2 : 1048576 < len2
  · clear h h2
    go_enter Try.func9, Try.ntmps9
    go_wp2_with fail
    go_ret
    exact ⟨rfl, Below.refl _ _⟩
  have k0 := Lib.hid (drawOrdNext_any a len cap w h)
  have H2 := Lib.hid h2
  clear h h2
  go_enter Try.func9, Try.ntmps9
  go_wp2_with fail
  refine (k0.out).mono ?_
  rintro ee w1 ⟨xs, g, n, c, hn, rfl, ho, hl, hb0⟩
  have Hn := Lib.hid hn
  clear hn
  have X_0 := Lib.hid (Sl.of_own ho)
  have Ht0 := Lib.hid hb0
  have hws := hb0.size
  clear ho hb0
  cases hok : T.nextOk xs with
  | false =>
    have hbr := T.nextOk_false hok
    have Hok := Lib.hid hok
    have Hbr := Lib.hid hbr
    clear hok hbr
    have k1 := Lib.hid (impl_OrdNext (some ⟨g, 0, none⟩) n c xs w1 X_0.out)
    rw [Hbr.out, Hok.out, List.length_nil] at k1
    go_wp2_with fail
    refine (k1.out).mono ?_
    rintro ee w101 ⟨aP, cP, rfl, ho, hb1⟩
    have Ht1 := Lib.hid (Ht0.out.trans (hb1.mono (by have h1 := Ht0.out.size; omega)))
    have X_1 := Lib.hid (X_0.out.below hb1)
    have P_1 := Lib.hid (Sl.of_own ho)
    clear hb1 ho
    have k2 := Lib.hid (spec_OrdNext (some ⟨g, 0, none⟩) n c xs w101 X_1.out)
    rw [Hbr.out, Hok.out, List.length_nil] at k2
    go_wp2_with fail
    refine (k2.out).mono ?_
    rintro ee w102 ⟨aQ, cQ, rfl, ho, hb2⟩
    have Ht2 := Lib.hid (Ht1.out.trans (hb2.mono (by have h1 := Ht1.out.size; omega)))
    have X_2 := Lib.hid (X_1.out.below hb2)
    have P_2 := Lib.hid (P_1.out.below hb2)
    have Q_2 := Lib.hid (Sl.of_own ho)
    clear hb2 ho
    have k3 := Lib.hid (sameInts_any aP aQ 0 cP 0 cQ [] [] w102 (by decide) P_2.out Q_2.out)
    rw [eqB_refl] at k3
    go_wp2_with fail
    refine (k3.out).mono ?_
    rintro ee w103 ⟨rfl, hb3⟩
    have Ht3 := Lib.hid (Ht2.out.trans (hb3.mono (by have h1 := Ht2.out.size; omega)))
    have X_3 := Lib.hid (X_2.out.below hb3)
    have P_3 := Lib.hid (P_2.out.below hb3)
    have Q_3 := Lib.hid (Q_2.out.below hb3)
    clear hb3
    have k4 := Lib.hid (alive_any w103)
    go_wp2_with fail
    refine (k4.out).mono ?_
    rintro ee w104 ⟨rfl, hb4⟩
    have Ht4 := Lib.hid (Ht3.out.trans (hb4.mono (by have h1 := Ht3.out.size; omega)))
    have X_4 := Lib.hid (X_3.out.below hb4)
    have P_4 := Lib.hid (P_3.out.below hb4)
    have Q_4 := Lib.hid (Q_3.out.below hb4)
    clear hb4
    go_wp2_with fail
    go_ret
    exact ⟨rfl, Ht4.out⟩
  | true =>
    have f1 := T.nextRow_gt hok
    obtain ⟨f2, f3⟩ := T.nextRow_bef hok
    have f4 := (T.nextOk_true hok).2.1
    have f5 := fun ys => T.nextRow_none (ys := ys) hok
    obtain ⟨br, hbr⟩ : ∃ br, br = T.nextRow xs := ⟨_, rfl⟩
    have hbl : br.length ≤ 1000 := by rw [hbr]; exact T.nextRow_len xs
    rw [← hbr] at f1 f2 f3 f4 f5
    have F1 := Lib.hid f1
    have F2 := Lib.hid f2
    have F3 := Lib.hid f3
    have F4 := Lib.hid f4
    have F5 := Lib.hid f5
    have Hok := Lib.hid hok
    have Hbr := Lib.hid hbr
    clear f1 f2 f3 f4 f5 hok hbr
    have k5 := Lib.hid (impl_OrdNext (some ⟨g, 0, none⟩) n c xs w1 X_0.out)
    rw [← Hbr.out, Hok.out] at k5
    go_wp2_with fail
    refine (k5.out).mono ?_
    rintro ee w105 ⟨aP, cP, rfl, ho, hb5⟩
    have Ht5 := Lib.hid (Ht0.out.trans (hb5.mono (by have h1 := Ht0.out.size; omega)))
    have X_5 := Lib.hid (X_0.out.below hb5)
    have P_5 := Lib.hid (Sl.of_own ho)
    clear hb5 ho
    have k6 := Lib.hid (spec_OrdNext (some ⟨g, 0, none⟩) n c xs w105 X_5.out)
    rw [← Hbr.out, Hok.out] at k6
    go_wp2_with fail
    refine (k6.out).mono ?_
    rintro ee w106 ⟨aQ, cQ, rfl, ho, hb6⟩
    have Ht6 := Lib.hid (Ht5.out.trans (hb6.mono (by have h1 := Ht5.out.size; omega)))
    have X_6 := Lib.hid (X_5.out.below hb6)
    have P_6 := Lib.hid (P_5.out.below hb6)
    have Q_6 := Lib.hid (Sl.of_own ho)
    clear hb6 ho
    have k7 := Lib.hid (sameInts_any aP aQ br.length cP br.length cQ br br w106 (by omega) P_6.out Q_6.out)
    rw [eqB_refl] at k7
    go_wp2_with fail
    refine (k7.out).mono ?_
    rintro ee w107 ⟨rfl, hb7⟩
    have Ht7 := Lib.hid (Ht6.out.trans (hb7.mono (by have h1 := Ht6.out.size; omega)))
    have X_7 := Lib.hid (X_6.out.below hb7)
    have P_7 := Lib.hid (P_6.out.below hb7)
    have Q_7 := Lib.hid (Q_6.out.below hb7)
    clear hb7
    have k8 := Lib.hid (drawOrdNext_any a2 len2 cap2 w107 (H2.out.below Ht7.out))
    go_wp2_with fail
    refine (k8.out).mono ?_
    rintro ee w108 ⟨zs, gz, nz, cz, hnz, rfl, ho, hlz, hb8⟩
    have Ht8 := Lib.hid (Ht7.out.trans (hb8.mono (by have h1 := Ht7.out.size; omega)))
    have X_8 := Lib.hid (X_7.out.below hb8)
    have P_8 := Lib.hid (P_7.out.below hb8)
    have Q_8 := Lib.hid (Q_7.out.below hb8)
    have Z_8 := Lib.hid (Sl.of_own ho)
    clear hb8 ho
    have Hnz := Lib.hid hnz
    clear hnz
    have k9 := Lib.hid (impl_OrdBefore aP br.length cP br w108 P_8.out)
    rw [F2.out, F3.out, ← Hn.out] at k9
    go_wp2_with fail
    refine (k9.out).mono ?_
    rintro ee w109 ⟨aE, cE, rfl, ho, hb9⟩
    have Ht9 := Lib.hid (Ht8.out.trans (hb9.mono (by have h1 := Ht8.out.size; omega)))
    have X_9 := Lib.hid (X_8.out.below hb9)
    have P_9 := Lib.hid (P_8.out.below hb9)
    have Q_9 := Lib.hid (Q_8.out.below hb9)
    have Z_9 := Lib.hid (Z_8.out.below hb9)
    have E_9 := Lib.hid (Sl.of_own ho)
    clear hb9 ho
    have k10 := Lib.hid (impl_valid aP br.length cP br w109 P_9.out F4.out)
    go_wp2_with fail
    refine (k10.out).mono ?_
    rintro ee w110 ⟨rfl, hb10⟩
    have Ht10 := Lib.hid (Ht9.out.trans (hb10.mono (by have h1 := Ht9.out.size; omega)))
    have X_10 := Lib.hid (X_9.out.below hb10)
    have P_10 := Lib.hid (P_9.out.below hb10)
    have Q_10 := Lib.hid (Q_9.out.below hb10)
    have Z_10 := Lib.hid (Z_9.out.below hb10)
    have E_10 := Lib.hid (E_9.out.below hb10)
    clear hb10
    have k11 := Lib.hid (impl_OrdCompare (some ⟨g, 0, none⟩) aP n c br.length cP xs br w110 X_10.out P_10.out)
    rw [F1.out] at k11
    go_wp2_with fail
    refine (k11.out).mono ?_
    rintro ee w111 ⟨rfl, hb11⟩
    have Ht11 := Lib.hid (Ht10.out.trans (hb11.mono (by have h1 := Ht10.out.size; omega)))
    have X_11 := Lib.hid (X_10.out.below hb11)
    have P_11 := Lib.hid (P_10.out.below hb11)
    have Q_11 := Lib.hid (Q_10.out.below hb11)
    have Z_11 := Lib.hid (Z_10.out.below hb11)
    have E_11 := Lib.hid (E_10.out.below hb11)
    clear hb11
    by_cases hc : T.cmpRow xs zs = -1
    · have hc2 := F5.out zs hc
      obtain ⟨cv, hcv⟩ : ∃ cv, cv = T.cmpRow zs br := ⟨_, rfl⟩
      rw [← hcv] at hc2
      have Hcv := Lib.hid hcv
      have Hc := Lib.hid hc
      have hc3 : (cv == -1) = false := by simpa using hc2
      have hc4 : (cv != -1) = true := by simpa using hc2
      clear hcv hc hc2
      have k12 := Lib.hid (impl_OrdCompare (some ⟨g, 0, none⟩) (some ⟨gz, 0, none⟩) n c nz cz xs zs w111 X_11.out Z_11.out)
      rw [Hc.out] at k12
      go_wp2_with fail
      refine (k12.out).mono ?_
      rintro ee w112 ⟨rfl, hb12⟩
      have Ht12 := Lib.hid (Ht11.out.trans (hb12.mono (by have h1 := Ht11.out.size; omega)))
      have X_12 := Lib.hid (X_11.out.below hb12)
      have P_12 := Lib.hid (P_11.out.below hb12)
      have Q_12 := Lib.hid (Q_11.out.below hb12)
      have Z_12 := Lib.hid (Z_11.out.below hb12)
      have E_12 := Lib.hid (E_11.out.below hb12)
      clear hb12
      have k13 := Lib.hid (impl_OrdCompare (some ⟨gz, 0, none⟩) aP nz cz br.length cP zs br w112 Z_12.out P_12.out)
      rw [← Hcv.out] at k13
      go_wp2_with fail
      refine (k13.out).mono ?_
      rintro ee w113 ⟨rfl, hb13⟩
      have Ht13 := Lib.hid (Ht12.out.trans (hb13.mono (by have h1 := Ht12.out.size; omega)))
      have X_13 := Lib.hid (X_12.out.below hb13)
      have P_13 := Lib.hid (P_12.out.below hb13)
      have Q_13 := Lib.hid (Q_12.out.below hb13)
      have Z_13 := Lib.hid (Z_12.out.below hb13)
      have E_13 := Lib.hid (E_12.out.below hb13)
      clear hb13
      have k14 := Lib.hid (sameInts_any aE (some ⟨g, 0, none⟩) n cE n c xs xs w113 (by omega) E_13.out X_13.out)
      rw [eqB_refl] at k14
      go_wp2_with fail
      refine (k14.out).mono ?_
      rintro ee w114 ⟨rfl, hb14⟩
      have Ht14 := Lib.hid (Ht13.out.trans (hb14.mono (by have h1 := Ht13.out.size; omega)))
      have X_14 := Lib.hid (X_13.out.below hb14)
      have P_14 := Lib.hid (P_13.out.below hb14)
      have Q_14 := Lib.hid (Q_13.out.below hb14)
      have Z_14 := Lib.hid (Z_13.out.below hb14)
      have E_14 := Lib.hid (E_13.out.below hb14)
      clear hb14
      go_wp2_with fail
      go_ret
      exact ⟨rfl, Ht14.out⟩
    · obtain ⟨cv, hcv⟩ : ∃ cv, cv = T.cmpRow xs zs := ⟨_, rfl⟩
      rw [← hcv] at hc
      have Hcv := Lib.hid hcv
      have hc3 : (cv == -1) = false := by simpa using hc
      have hc4 : (cv != -1) = true := by simpa using hc
      clear hcv hc
      have k15 := Lib.hid (impl_OrdCompare (some ⟨g, 0, none⟩) (some ⟨gz, 0, none⟩) n c nz cz xs zs w111 X_11.out Z_11.out)
      rw [← Hcv.out] at k15
      go_wp2_with fail
      refine (k15.out).mono ?_
      rintro ee w115 ⟨rfl, hb15⟩
      have Ht15 := Lib.hid (Ht11.out.trans (hb15.mono (by have h1 := Ht11.out.size; omega)))
      have X_15 := Lib.hid (X_11.out.below hb15)
      have P_15 := Lib.hid (P_11.out.below hb15)
      have Q_15 := Lib.hid (Q_11.out.below hb15)
      have Z_15 := Lib.hid (Z_11.out.below hb15)
      have E_15 := Lib.hid (E_11.out.below hb15)
      clear hb15
      have k16 := Lib.hid (sameInts_any aE (some ⟨g, 0, none⟩) n cE n c xs xs w115 (by omega) E_15.out X_15.out)
      rw [eqB_refl] at k16
      go_wp2_with fail
      refine (k16.out).mono ?_
      rintro ee w116 ⟨rfl, hb16⟩
      have Ht16 := Lib.hid (Ht15.out.trans (hb16.mono (by have h1 := Ht15.out.size; omega)))
      have X_16 := Lib.hid (X_15.out.below hb16)
      have P_16 := Lib.hid (P_15.out.below hb16)
      have Q_16 := Lib.hid (Q_15.out.below hb16)
      have Z_16 := Lib.hid (Z_15.out.below hb16)
      have E_16 := Lib.hid (E_15.out.below hb16)
      clear hb16
      go_wp2_with fail
      go_ret
      exact ⟨rfl, Ht16.out⟩

end Go.Proofs.Ytdcaefgbpnjjaab

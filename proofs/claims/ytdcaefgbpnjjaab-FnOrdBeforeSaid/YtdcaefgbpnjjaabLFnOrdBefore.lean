/- FnOrdBefore: the walk of the law. -/
import Derived.Test.YtdcaefgbpnjjaabDraw2
import Derived.Test.YtdcaefgbpnjjaabBeforeS
import Derived.Test.YtdcaefgbpnjjaabBefore
import Derived.Test.YtdcaefgbpnjjaabNext
import Derived.Test.YtdcaefgbpnjjaabFn1
namespace Go.Proofs.Ytdcaefgbpnjjaab
open Go.RowKit

set_option maxHeartbeats 4000000 in
theorem fnOrdBefore_walk (a : Option Addr) (len cap : Nat) (w : World) (h : By w a len cap) :
    Calls Try.prog 10 #[.slice a len cap] w fun e w' => e = .returned (.bool true) ∧ Below w.heap.size w w' := by
  have hlm : len ≤ 9223372036854775807 := by have := h.1; have := h.2.1; unfold maxLen at this; omega
  by_cases hbig : 1048576 < len
  · clear h
    go_enter Try.func10, Try.ntmps10
    go_wp2_with fail
    go_ret
    exact ⟨rfl, Below.refl _ _⟩
  have k0 := Lib.hid (drawOrdBefore_any a len cap w h)
  clear h
  go_enter Try.func10, Try.ntmps10
  go_wp2_with fail
  refine (k0.out).mono ?_
  rintro ee w1 ⟨xs, g, n, c, hn, rfl, ho, hl, hb0⟩
  have Hn := Lib.hid hn
  clear hn
  have X_0 := Lib.hid (Sl.of_own ho)
  have Ht0 := Lib.hid hb0
  have hws := hb0.size
  clear ho hb0
  cases hok : T.befOk xs with
  | false =>
    have hbr := T.befOk_false hok
    have Hok := Lib.hid hok
    have Hbr := Lib.hid hbr
    clear hok hbr
    have k1 := Lib.hid (impl_OrdBefore (some ⟨g, 0, none⟩) n c xs w1 X_0.out)
    rw [Hbr.out, Hok.out, List.length_nil] at k1
    go_wp2_with fail
    refine (k1.out).mono ?_
    rintro ee w101 ⟨aP, cP, rfl, ho, hb1⟩
    have Ht1 := Lib.hid (Ht0.out.trans (hb1.mono (by have h1 := Ht0.out.size; omega)))
    have X_1 := Lib.hid (X_0.out.below hb1)
    have P_1 := Lib.hid (Sl.of_own ho)
    clear hb1 ho
    have k2 := Lib.hid (spec_OrdBefore (some ⟨g, 0, none⟩) n c xs w101 X_1.out)
    rw [Hbr.out, Hok.out, List.length_nil] at k2
    go_wp2_with fail
    refine (k2.out).mono ?_
    rintro ee w102 ⟨aQ, cQ, rfl, ho, hb2⟩
    have Ht2 := Lib.hid (Ht1.out.trans (hb2.mono (by have h1 := Ht1.out.size; omega)))
    have X_2 := Lib.hid (X_1.out.below hb2)
    have P_2 := Lib.hid (P_1.out.below hb2)
    have Q_2 := Lib.hid (Sl.of_own ho)
    clear hb2 ho
    have k3 := Lib.hid (sameInts_any aP aQ 0 cP 0 cQ [] [] w102 (by decide) P_2.out Q_2.out)
    rw [eqB_refl] at k3
    go_wp2_with fail
    refine (k3.out).mono ?_
    rintro ee w103 ⟨rfl, hb3⟩
    have Ht3 := Lib.hid (Ht2.out.trans (hb3.mono (by have h1 := Ht2.out.size; omega)))
    have X_3 := Lib.hid (X_2.out.below hb3)
    have P_3 := Lib.hid (P_2.out.below hb3)
    have Q_3 := Lib.hid (Q_2.out.below hb3)
    clear hb3
    have k4 := Lib.hid (alive_any w103)
    go_wp2_with fail
    refine (k4.out).mono ?_
    rintro ee w104 ⟨rfl, hb4⟩
    have Ht4 := Lib.hid (Ht3.out.trans (hb4.mono (by have h1 := Ht3.out.size; omega)))
    have X_4 := Lib.hid (X_3.out.below hb4)
    have P_4 := Lib.hid (P_3.out.below hb4)
    have Q_4 := Lib.hid (Q_3.out.below hb4)
    clear hb4
    go_wp2_with fail
    go_ret
    exact ⟨rfl, Ht4.out⟩
  | true =>
    obtain ⟨f1, f2, f3⟩ := T.befRow_next hok
    have f4 := (T.befOk_true hok).2.2.1
    obtain ⟨br, hbr⟩ : ∃ br, br = T.befRow xs := ⟨_, rfl⟩
    have hbl : br.length ≤ 1000 := by rw [hbr]; exact T.befRow_len xs
    rw [← hbr] at f1 f2 f3 f4
    have F1 := Lib.hid f1
    have F2 := Lib.hid f2
    have F3 := Lib.hid f3
    have F4 := Lib.hid f4
    have Hok := Lib.hid hok
    have Hbr := Lib.hid hbr
    clear f1 f2 f3 f4 hok hbr
    have k5 := Lib.hid (impl_OrdBefore (some ⟨g, 0, none⟩) n c xs w1 X_0.out)
    rw [← Hbr.out, Hok.out] at k5
    go_wp2_with fail
    refine (k5.out).mono ?_
    rintro ee w105 ⟨aP, cP, rfl, ho, hb5⟩
    have Ht5 := Lib.hid (Ht0.out.trans (hb5.mono (by have h1 := Ht0.out.size; omega)))
    have X_5 := Lib.hid (X_0.out.below hb5)
    have P_5 := Lib.hid (Sl.of_own ho)
    clear hb5 ho
    have k6 := Lib.hid (spec_OrdBefore (some ⟨g, 0, none⟩) n c xs w105 X_5.out)
    rw [← Hbr.out, Hok.out] at k6
    go_wp2_with fail
    refine (k6.out).mono ?_
    rintro ee w106 ⟨aQ, cQ, rfl, ho, hb6⟩
    have Ht6 := Lib.hid (Ht5.out.trans (hb6.mono (by have h1 := Ht5.out.size; omega)))
    have X_6 := Lib.hid (X_5.out.below hb6)
    have P_6 := Lib.hid (P_5.out.below hb6)
    have Q_6 := Lib.hid (Sl.of_own ho)
    clear hb6 ho
    have k7 := Lib.hid (sameInts_any aP aQ br.length cP br.length cQ br br w106 (by omega) P_6.out Q_6.out)
    rw [eqB_refl] at k7
    go_wp2_with fail
    refine (k7.out).mono ?_
    rintro ee w107 ⟨rfl, hb7⟩
    have Ht7 := Lib.hid (Ht6.out.trans (hb7.mono (by have h1 := Ht6.out.size; omega)))
    have X_7 := Lib.hid (X_6.out.below hb7)
    have P_7 := Lib.hid (P_6.out.below hb7)
    have Q_7 := Lib.hid (Q_6.out.below hb7)
    clear hb7
    have k8 := Lib.hid (impl_OrdNext aP br.length cP br w107 P_7.out)
    rw [F1.out, F2.out, ← Hn.out] at k8
    go_wp2_with fail
    refine (k8.out).mono ?_
    rintro ee w108 ⟨aN, cN, rfl, ho, hb8⟩
    have Ht8 := Lib.hid (Ht7.out.trans (hb8.mono (by have h1 := Ht7.out.size; omega)))
    have X_8 := Lib.hid (X_7.out.below hb8)
    have P_8 := Lib.hid (P_7.out.below hb8)
    have Q_8 := Lib.hid (Q_7.out.below hb8)
    have N_8 := Lib.hid (Sl.of_own ho)
    clear hb8 ho
    have k9 := Lib.hid (impl_valid aP br.length cP br w108 P_8.out F4.out)
    go_wp2_with fail
    refine (k9.out).mono ?_
    rintro ee w109 ⟨rfl, hb9⟩
    have Ht9 := Lib.hid (Ht8.out.trans (hb9.mono (by have h1 := Ht8.out.size; omega)))
    have X_9 := Lib.hid (X_8.out.below hb9)
    have P_9 := Lib.hid (P_8.out.below hb9)
    have Q_9 := Lib.hid (Q_8.out.below hb9)
    have N_9 := Lib.hid (N_8.out.below hb9)
    clear hb9
    have k10 := Lib.hid (sameInts_any aN (some ⟨g, 0, none⟩) n cN n c xs xs w109 (by omega) N_9.out X_9.out)
    rw [eqB_refl] at k10
    go_wp2_with fail
    refine (k10.out).mono ?_
    rintro ee w110 ⟨rfl, hb10⟩
    have Ht10 := Lib.hid (Ht9.out.trans (hb10.mono (by have h1 := Ht9.out.size; omega)))
    have X_10 := Lib.hid (X_9.out.below hb10)
    have P_10 := Lib.hid (P_9.out.below hb10)
    have Q_10 := Lib.hid (Q_9.out.below hb10)
    have N_10 := Lib.hid (N_9.out.below hb10)
    clear hb10
    have k11 := Lib.hid (impl_OrdCompare aP (some ⟨g, 0, none⟩) br.length cP n c br xs w110 P_10.out X_10.out)
    rw [F3.out] at k11
    go_wp2_with fail
    refine (k11.out).mono ?_
    rintro ee w111 ⟨rfl, hb11⟩
    have Ht11 := Lib.hid (Ht10.out.trans (hb11.mono (by have h1 := Ht10.out.size; omega)))
    have X_11 := Lib.hid (X_10.out.below hb11)
    have P_11 := Lib.hid (P_10.out.below hb11)
    have Q_11 := Lib.hid (Q_10.out.below hb11)
    have N_11 := Lib.hid (N_10.out.below hb11)
    clear hb11
    go_wp2_with fail
    go_ret
    exact ⟨rfl, Ht11.out⟩

end Go.Proofs.Ytdcaefgbpnjjaab

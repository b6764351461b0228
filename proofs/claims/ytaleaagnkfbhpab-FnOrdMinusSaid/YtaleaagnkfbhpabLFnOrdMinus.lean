/- FnOrdMinus: the walk of the law. -/
import Derived.Test.YtaleaagnkfbhpabDrawR
import Derived.Test.YtaleaagnkfbhpabMinT
import Derived.Test.YtaleaagnkfbhpabMinJ
import Derived.Test.YtaleaagnkfbhpabAddT
import Derived.Test.YtaleaagnkfbhpabFn1
import Derived.Deep.DeepCutAuto
namespace Go.Proofs.Ytaleaagnkfbhpab
open Go.RowKit

set_option maxRecDepth 100000 in
set_option maxHeartbeats 8000000 in
theorem fnOrdMinus_walk (a : Option Addr) (len cap : Nat) (w : World) (h : By w a len cap) :
    Calls Try.prog 5 #[.slice a len cap] w fun e w' => e = .returned (.bool true) ∧ Below w.heap.size w w' := by
  have hlm : len ≤ 9223372036854775807 := by have := h.1; have := h.2.1; unfold maxLen at this; omega
  by_cases hbig : 1048576 < len
  · clear h
    go_enter Try.func5, Try.ntmps5
    go_wp2_with fail
    go_ret
    exact ⟨rfl, Below.refl _ _⟩
  have k0 := Lib.hid (drawOrdMinus_any a len cap w h)
  clear h
  go_enter Try.func5, Try.ntmps5
  go_wp2_with fail
  refine (k0.out).mono ?_
  rintro ee w1 ⟨xs, ys, g, n, c, g2, n2, c2, hn, hn2, rfl, ho, ho2, hl, hl2, hb0⟩
  have Hn := Lib.hid hn
  have Hn2 := Lib.hid hn2
  clear hn hn2
  have X_0 := Lib.hid (Sl.of_own ho)
  have Y_0 := Lib.hid (Sl.of_own ho2)
  have Ht0 := Lib.hid hb0
  have hws := hb0.size
  clear ho ho2 hb0
  obtain ⟨cv, hcv⟩ : ∃ cv, cv = T.cmpRow xs ys := ⟨_, rfl⟩
  have Hcv := Lib.hid hcv
  clear hcv
  by_cases hneg : cv < 0
  · have hbad := T.minusRow_bad (xs := xs) (ys := ys) (by have := Hcv.out; omega)
    have Hbad := Lib.hid hbad
    clear hbad
    have k1 := Lib.hid (impl_OrdMinus (some ⟨g, 0, none⟩) (some ⟨g2, 0, none⟩) n c n2 c2 xs ys w1 X_0.out Y_0.out)
    unfold OrdOkPost at k1
    rw [Hbad.out.1, Hbad.out.2, List.length_nil] at k1
    go_wp2_with fail
    refine (k1.out).mono ?_
    rintro ee w101 ⟨aP, cP, rfl, ho, hb1⟩
    have Ht1 := Lib.hid (Ht0.out.trans (hb1.mono (by have h1 := Ht0.out.size; omega)))
    have X_1 := Lib.hid (X_0.out.below hb1)
    have Y_1 := Lib.hid (Y_0.out.below hb1)
    have P_1 := Lib.hid (Sl.of_own ho)
    clear hb1 ho
    have k2 := Lib.hid (spec_OrdMinus (some ⟨g, 0, none⟩) (some ⟨g2, 0, none⟩) n c n2 c2 xs ys w101 X_1.out Y_1.out)
    unfold OrdOkPost at k2
    rw [Hbad.out.1, Hbad.out.2, List.length_nil] at k2
    go_wp2_with fail
    refine (k2.out).mono ?_
    rintro ee w102 ⟨aQ, cQ, rfl, ho, hb2⟩
    have Ht2 := Lib.hid (Ht1.out.trans (hb2.mono (by have h1 := Ht1.out.size; omega)))
    have X_2 := Lib.hid (X_1.out.below hb2)
    have Y_2 := Lib.hid (Y_1.out.below hb2)
    have P_2 := Lib.hid (P_1.out.below hb2)
    have Q_2 := Lib.hid (Sl.of_own ho)
    clear hb2 ho
    have k3 := Lib.hid (sameInts_any aP aQ 0 cP 0 cQ [] [] w102 (by decide) P_2.out Q_2.out)
    rw [eqB_refl] at k3
    go_wp2_with fail
    refine (k3.out).mono ?_
    rintro ee w103 ⟨rfl, hb3⟩
    have Ht3 := Lib.hid (Ht2.out.trans (hb3.mono (by have h1 := Ht2.out.size; omega)))
    have X_3 := Lib.hid (X_2.out.below hb3)
    have Y_3 := Lib.hid (Y_2.out.below hb3)
    have P_3 := Lib.hid (P_2.out.below hb3)
    have Q_3 := Lib.hid (Q_2.out.below hb3)
    clear hb3
    have k4 := Lib.hid (impl_OrdCompare (some ⟨g, 0, none⟩) (some ⟨g2, 0, none⟩) n c n2 c2 xs ys w103 X_3.out Y_3.out)
    rw [← Hcv.out] at k4
    go_wp2_with fail
    refine (k4.out).mono ?_
    rintro ee w104 ⟨rfl, hb4⟩
    have Ht4 := Lib.hid (Ht3.out.trans (hb4.mono (by have h1 := Ht3.out.size; omega)))
    have X_4 := Lib.hid (X_3.out.below hb4)
    have Y_4 := Lib.hid (Y_3.out.below hb4)
    have P_4 := Lib.hid (P_3.out.below hb4)
    have Q_4 := Lib.hid (Q_3.out.below hb4)
    clear hb4
    have k5 := Lib.hid (alive_any w104)
    go_wp2_with fail
    refine (k5.out).mono ?_
    rintro ee w105 ⟨rfl, hb5⟩
    have Ht5 := Lib.hid (Ht4.out.trans (hb5.mono (by have h1 := Ht4.out.size; omega)))
    have X_5 := Lib.hid (X_4.out.below hb5)
    have Y_5 := Lib.hid (Y_4.out.below hb5)
    have P_5 := Lib.hid (P_4.out.below hb5)
    have Q_5 := Lib.hid (Q_4.out.below hb5)
    clear hb5
    go_wp2_with fail
    go_ret
    exact ⟨rfl, Ht5.out⟩
  · have h0 : 0 ≤ T.cmpRow xs ys := by have := Hcv.out; omega
    have f1 := T.minusRow_add h0
    have f2 := (T.minusRow_val h0).2
    have f3 := (T.vldB_true.1 (T.cmpRow_vld h0).1).1
    obtain ⟨br, hbr⟩ : ∃ br, br = T.minusRow xs ys := ⟨_, rfl⟩
    have hbl : br.length ≤ 1000 := by rw [hbr]; exact T.minusRow_len xs ys
    rw [← hbr] at f1
    have F1 := Lib.hid f1
    have F2 := Lib.hid f2
    have F3 := Lib.hid f3
    have Hbr := Lib.hid hbr
    clear f1 f2 f3 h0 hbr
    have k6 := Lib.hid (impl_OrdMinus (some ⟨g, 0, none⟩) (some ⟨g2, 0, none⟩) n c n2 c2 xs ys w1 X_0.out Y_0.out)
    unfold OrdOkPost at k6
    rw [← Hbr.out, F2.out] at k6
    go_wp2_with fail
    refine (k6.out).mono ?_
    rintro ee w106 ⟨aP, cP, rfl, ho, hb6⟩
    have Ht6 := Lib.hid (Ht0.out.trans (hb6.mono (by have h1 := Ht0.out.size; omega)))
    have X_6 := Lib.hid (X_0.out.below hb6)
    have Y_6 := Lib.hid (Y_0.out.below hb6)
    have P_6 := Lib.hid (Sl.of_own ho)
    clear hb6 ho
    have k7 := Lib.hid (spec_OrdMinus (some ⟨g, 0, none⟩) (some ⟨g2, 0, none⟩) n c n2 c2 xs ys w106 X_6.out Y_6.out)
    unfold OrdOkPost at k7
    rw [← Hbr.out, F2.out] at k7
    go_wp2_with fail
    refine (k7.out).mono ?_
    rintro ee w107 ⟨aQ, cQ, rfl, ho, hb7⟩
    have Ht7 := Lib.hid (Ht6.out.trans (hb7.mono (by have h1 := Ht6.out.size; omega)))
    have X_7 := Lib.hid (X_6.out.below hb7)
    have Y_7 := Lib.hid (Y_6.out.below hb7)
    have P_7 := Lib.hid (P_6.out.below hb7)
    have Q_7 := Lib.hid (Sl.of_own ho)
    clear hb7 ho
    have k8 := Lib.hid (sameInts_any aP aQ br.length cP br.length cQ br br w107 (by omega) P_7.out Q_7.out)
    rw [eqB_refl] at k8
    go_wp2_with fail
    refine (k8.out).mono ?_
    rintro ee w108 ⟨rfl, hb8⟩
    have Ht8 := Lib.hid (Ht7.out.trans (hb8.mono (by have h1 := Ht7.out.size; omega)))
    have X_8 := Lib.hid (X_7.out.below hb8)
    have Y_8 := Lib.hid (Y_7.out.below hb8)
    have P_8 := Lib.hid (P_7.out.below hb8)
    have Q_8 := Lib.hid (Q_7.out.below hb8)
    clear hb8
    have k9 := Lib.hid (impl_OrdAdd (some ⟨g2, 0, none⟩) aP n2 c2 br.length cP ys br w108 Y_8.out P_8.out)
    unfold OrdOkPost at k9
    rw [F1.out.2.1, F1.out.2.2] at k9
    go_wp2_with fail
    refine (k9.out).mono ?_
    rintro ee w109 ⟨aS, cS, rfl, ho, hb9⟩
    have Ht9 := Lib.hid (Ht8.out.trans (hb9.mono (by have h1 := Ht8.out.size; omega)))
    have X_9 := Lib.hid (X_8.out.below hb9)
    have Y_9 := Lib.hid (Y_8.out.below hb9)
    have P_9 := Lib.hid (P_8.out.below hb9)
    have Q_9 := Lib.hid (Q_8.out.below hb9)
    have S_9 := Lib.hid (Sl.of_own ho)
    clear hb9 ho
    have k10 := Lib.hid (impl_valid aP br.length cP br w109 P_9.out F1.out.1)
    go_wp2_with fail
    refine (k10.out).mono ?_
    rintro ee w110 ⟨rfl, hb10⟩
    have Ht10 := Lib.hid (Ht9.out.trans (hb10.mono (by have h1 := Ht9.out.size; omega)))
    have X_10 := Lib.hid (X_9.out.below hb10)
    have Y_10 := Lib.hid (Y_9.out.below hb10)
    have P_10 := Lib.hid (P_9.out.below hb10)
    have Q_10 := Lib.hid (Q_9.out.below hb10)
    have S_10 := Lib.hid (S_9.out.below hb10)
    clear hb10
    have k11 := Lib.hid (sameInts_any aS (some ⟨g, 0, none⟩) xs.length cS n c xs xs w110 (by have := F3.out; omega) S_10.out X_10.out)
    rw [eqB_refl] at k11
    go_wp2_with fail
    refine (k11.out).mono ?_
    rintro ee w111 ⟨rfl, hb11⟩
    have Ht11 := Lib.hid (Ht10.out.trans (hb11.mono (by have h1 := Ht10.out.size; omega)))
    have X_11 := Lib.hid (X_10.out.below hb11)
    have Y_11 := Lib.hid (Y_10.out.below hb11)
    have P_11 := Lib.hid (P_10.out.below hb11)
    have Q_11 := Lib.hid (Q_10.out.below hb11)
    have S_11 := Lib.hid (S_10.out.below hb11)
    clear hb11
    have hge : (0 : Int) ≤ cv := by omega
    have k12 := Lib.hid (impl_OrdCompare (some ⟨g, 0, none⟩) (some ⟨g2, 0, none⟩) n c n2 c2 xs ys w111 X_11.out Y_11.out)
    rw [← Hcv.out] at k12
    go_wp2_with fail
    refine (k12.out).mono ?_
    rintro ee w112 ⟨rfl, hb12⟩
    have Ht12 := Lib.hid (Ht11.out.trans (hb12.mono (by have h1 := Ht11.out.size; omega)))
    have X_12 := Lib.hid (X_11.out.below hb12)
    have Y_12 := Lib.hid (Y_11.out.below hb12)
    have P_12 := Lib.hid (P_11.out.below hb12)
    have Q_12 := Lib.hid (Q_11.out.below hb12)
    have S_12 := Lib.hid (S_11.out.below hb12)
    clear hb12
    go_wp2_with fail
    go_ret
    exact ⟨rfl, Ht12.out⟩

end Go.Proofs.Ytaleaagnkfbhpab

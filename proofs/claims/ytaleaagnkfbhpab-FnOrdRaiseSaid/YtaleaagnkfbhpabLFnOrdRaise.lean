/- FnOrdRaise: the walk of the law. -/
import Derived.Test.YtaleaagnkfbhpabDrawR
import Derived.Test.YtaleaagnkfbhpabRaise
import Derived.Test.YtaleaagnkfbhpabFn1
namespace Go.Proofs.Ytaleaagnkfbhpab
open Go.RowKit

set_option maxRecDepth 100000 in
set_option maxHeartbeats 8000000 in
theorem fnOrdRaise_walk (a : Option Addr) (len cap : Nat) (w : World) (h : By w a len cap) :
    Calls Try.prog 7 #[.slice a len cap] w fun e w' => e = .returned (.bool true) ∧ Below w.heap.size w w' := by
  have hlm : len ≤ 9223372036854775807 := by have := h.1; have := h.2.1; unfold maxLen at this; omega
  by_cases hbig : 1048576 < len
  · clear h
    go_enter Try.func7, Try.ntmps7
    go_wp2_with fail
    go_ret
    exact ⟨rfl, Below.refl _ _⟩
  have k0 := Lib.hid (drawOrdRaise_any a len cap w h)
  clear h
  go_enter Try.func7, Try.ntmps7
  go_wp2_with fail
  refine (k0.out).mono ?_
  rintro ee w1 ⟨xs, V, g, n, c, hn, hV0, hV1, rfl, ho, hl, hb0⟩
  have Hn := Lib.hid hn
  clear hn
  have X_0 := Lib.hid (Sl.of_own ho)
  have Ht0 := Lib.hid hb0
  have hws := hb0.size
  clear ho hb0
  cases hok : T.raiseOkB xs V with
  | false =>
    have hbr : T.raiseRow xs V = [] := by rw [T.raiseRow, if_neg (by rw [hok]; simp)]
    have Hok := Lib.hid hok
    have Hbr := Lib.hid hbr
    clear hok hbr
    have k1 := Lib.hid (impl_OrdRaise (some ⟨g, 0, none⟩) n c xs V w1 X_0.out (by omega) (by omega))
    unfold OrdOkPost at k1
    rw [Hbr.out, Hok.out, List.length_nil] at k1
    go_wp2_with fail
    refine (k1.out).mono ?_
    rintro ee w101 ⟨aP, cP, rfl, ho, hb1⟩
    have Ht1 := Lib.hid (Ht0.out.trans (hb1.mono (by have h1 := Ht0.out.size; omega)))
    have X_1 := Lib.hid (X_0.out.below hb1)
    have P_1 := Lib.hid (Sl.of_own ho)
    clear hb1 ho
    have k2 := Lib.hid (spec_OrdRaise (some ⟨g, 0, none⟩) n c xs V w101 X_1.out (by omega) (by omega))
    unfold OrdOkPost at k2
    rw [Hbr.out, Hok.out, List.length_nil] at k2
    go_wp2_with fail
    refine (k2.out).mono ?_
    rintro ee w102 ⟨aQ, cQ, rfl, ho, hb2⟩
    have Ht2 := Lib.hid (Ht1.out.trans (hb2.mono (by have h1 := Ht1.out.size; omega)))
    have X_2 := Lib.hid (X_1.out.below hb2)
    have P_2 := Lib.hid (P_1.out.below hb2)
    have Q_2 := Lib.hid (Sl.of_own ho)
    clear hb2 ho
    have k3 := Lib.hid (sameInts_any aP aQ 0 cP 0 cQ [] [] w102 (by decide) P_2.out Q_2.out)
    rw [eqB_refl] at k3
    go_wp2_with fail
    refine (k3.out).mono ?_
    rintro ee w103 ⟨rfl, hb3⟩
    have Ht3 := Lib.hid (Ht2.out.trans (hb3.mono (by have h1 := Ht2.out.size; omega)))
    have X_3 := Lib.hid (X_2.out.below hb3)
    have P_3 := Lib.hid (P_2.out.below hb3)
    have Q_3 := Lib.hid (Q_2.out.below hb3)
    clear hb3
    have k4 := Lib.hid (alive_any w103)
    go_wp2_with fail
    refine (k4.out).mono ?_
    rintro ee w104 ⟨rfl, hb4⟩
    have Ht4 := Lib.hid (Ht3.out.trans (hb4.mono (by have h1 := Ht3.out.size; omega)))
    have X_4 := Lib.hid (X_3.out.below hb4)
    have P_4 := Lib.hid (P_3.out.below hb4)
    have Q_4 := Lib.hid (Q_3.out.below hb4)
    clear hb4
    go_wp2_with fail
    go_ret
    exact ⟨rfl, Ht4.out⟩
  | true =>
    have f4 := (T.raiseOkB_true hok).2.2.2.2.1
    have f5 := fun h => T.raise_next (xs := xs) (n := V) hok h
    have f7 := T.raise_one (T.raiseOkB_true hok).1
    have hV2 := (T.raiseOkB_true hok).2.1
    obtain ⟨br, hbr⟩ : ∃ br, br = T.raiseRow xs V := ⟨_, rfl⟩
    have hbl : br.length ≤ 1000 := by rw [hbr]; exact T.raiseRow_len xs V
    rw [← hbr] at f4 f5
    have F4 := Lib.hid f4
    have F5 := Lib.hid f5
    have F7 := Lib.hid f7
    have Hok := Lib.hid hok
    have Hbr := Lib.hid hbr
    clear f4 f5 f7 hok hbr
    have k5 := Lib.hid (impl_OrdRaise (some ⟨g, 0, none⟩) n c xs V w1 X_0.out (by omega) (by omega))
    unfold OrdOkPost at k5
    rw [← Hbr.out, Hok.out] at k5
    go_wp2_with fail
    refine (k5.out).mono ?_
    rintro ee w105 ⟨aP, cP, rfl, ho, hb5⟩
    have Ht5 := Lib.hid (Ht0.out.trans (hb5.mono (by have h1 := Ht0.out.size; omega)))
    have X_5 := Lib.hid (X_0.out.below hb5)
    have P_5 := Lib.hid (Sl.of_own ho)
    clear hb5 ho
    have k6 := Lib.hid (spec_OrdRaise (some ⟨g, 0, none⟩) n c xs V w105 X_5.out (by omega) (by omega))
    unfold OrdOkPost at k6
    rw [← Hbr.out, Hok.out] at k6
    go_wp2_with fail
    refine (k6.out).mono ?_
    rintro ee w106 ⟨aQ, cQ, rfl, ho, hb6⟩
    have Ht6 := Lib.hid (Ht5.out.trans (hb6.mono (by have h1 := Ht5.out.size; omega)))
    have X_6 := Lib.hid (X_5.out.below hb6)
    have P_6 := Lib.hid (P_5.out.below hb6)
    have Q_6 := Lib.hid (Sl.of_own ho)
    clear hb6 ho
    have k7 := Lib.hid (sameInts_any aP aQ br.length cP br.length cQ br br w106 (by omega) P_6.out Q_6.out)
    rw [eqB_refl] at k7
    go_wp2_with fail
    refine (k7.out).mono ?_
    rintro ee w107 ⟨rfl, hb7⟩
    have Ht7 := Lib.hid (Ht6.out.trans (hb7.mono (by have h1 := Ht6.out.size; omega)))
    have X_7 := Lib.hid (X_6.out.below hb7)
    have P_7 := Lib.hid (P_6.out.below hb7)
    have Q_7 := Lib.hid (Q_6.out.below hb7)
    clear hb7
    have q1 : IntKind.i64.wrap (V + 1) = V + 1 := IntWalk.i64_in _ (by omega)
    obtain ⟨nr, hnr⟩ : ∃ x, x = T.raiseRow xs (V + 1) := ⟨_, rfl⟩
    have Hnr := Lib.hid hnr
    clear hnr
    obtain ⟨no, hno⟩ : ∃ x, x = T.raiseOkB xs (V + 1) := ⟨_, rfl⟩
    have Hno := Lib.hid hno
    clear hno
    have hnl : nr.length ≤ 1000 := by rw [Hnr.out]; exact T.raiseRow_len xs (V + 1)
    have k8 := Lib.hid (impl_OrdRaise (some ⟨g, 0, none⟩) n c xs (V + 1) w107 X_7.out (by omega) (by omega))
    unfold OrdOkPost at k8
    rw [← Hnr.out, ← Hno.out] at k8
    go_wp2_with fail
    refine (k8.out).mono ?_
    rintro ee w108 ⟨aN, cN, rfl, ho, hb8⟩
    have Ht8 := Lib.hid (Ht7.out.trans (hb8.mono (by have h1 := Ht7.out.size; omega)))
    have X_8 := Lib.hid (X_7.out.below hb8)
    have P_8 := Lib.hid (P_7.out.below hb8)
    have Q_8 := Lib.hid (Q_7.out.below hb8)
    have N_8 := Lib.hid (Sl.of_own ho)
    clear hb8 ho
    cases no with
    | false =>
      obtain ⟨mr, hmr⟩ : ∃ x, x = T.mulRow br xs := ⟨_, rfl⟩
      have Hmr := Lib.hid hmr
      clear hmr
      obtain ⟨mo, hmo⟩ : ∃ x, x = T.mulOk br xs := ⟨_, rfl⟩
      have Hmo := Lib.hid hmo
      clear hmo
      have k9 := Lib.hid (impl_OrdTimes aP (some ⟨g, 0, none⟩) br.length cP n c br xs w108 P_8.out X_8.out)
      unfold OrdOkPost at k9
      rw [← Hmr.out, ← Hmo.out] at k9
      go_wp2_with fail
      refine (k9.out).mono ?_
      rintro ee w109 ⟨aM, cM, rfl, ho, hb9⟩
      have Ht9 := Lib.hid (Ht8.out.trans (hb9.mono (by have h1 := Ht8.out.size; omega)))
      have X_9 := Lib.hid (X_8.out.below hb9)
      have P_9 := Lib.hid (P_8.out.below hb9)
      have Q_9 := Lib.hid (Q_8.out.below hb9)
      have N_9 := Lib.hid (N_8.out.below hb9)
      have M_9 := Lib.hid (Sl.of_own ho)
      clear hb9 ho
      have k10 := Lib.hid (impl_OrdRaise (some ⟨g, 0, none⟩) n c xs 1 w109 X_9.out (by omega) (by omega))
      unfold OrdOkPost at k10
      rw [F7.out.1, F7.out.2] at k10
      go_wp2_with fail
      refine (k10.out).mono ?_
      rintro ee w110 ⟨aO, cO, rfl, ho, hb10⟩
      have Ht10 := Lib.hid (Ht9.out.trans (hb10.mono (by have h1 := Ht9.out.size; omega)))
      have X_10 := Lib.hid (X_9.out.below hb10)
      have P_10 := Lib.hid (P_9.out.below hb10)
      have Q_10 := Lib.hid (Q_9.out.below hb10)
      have N_10 := Lib.hid (N_9.out.below hb10)
      have M_10 := Lib.hid (M_9.out.below hb10)
      have O_10 := Lib.hid (Sl.of_own ho)
      clear hb10 ho
      have k11 := Lib.hid (impl_valid aP br.length cP br w110 P_10.out F4.out)
      go_wp2_with fail
      refine (k11.out).mono ?_
      rintro ee w111 ⟨rfl, hb11⟩
      have Ht11 := Lib.hid (Ht10.out.trans (hb11.mono (by have h1 := Ht10.out.size; omega)))
      have X_11 := Lib.hid (X_10.out.below hb11)
      have P_11 := Lib.hid (P_10.out.below hb11)
      have Q_11 := Lib.hid (Q_10.out.below hb11)
      have N_11 := Lib.hid (N_10.out.below hb11)
      have M_11 := Lib.hid (M_10.out.below hb11)
      have O_11 := Lib.hid (O_10.out.below hb11)
      clear hb11
      have k12 := Lib.hid (sameInts_any aO (some ⟨g, 0, none⟩) xs.length cO n c xs xs w111 (by have := Hn.out; omega) O_11.out X_11.out)
      rw [eqB_refl] at k12
      go_wp2_with fail
      refine (k12.out).mono ?_
      rintro ee w112 ⟨rfl, hb12⟩
      have Ht12 := Lib.hid (Ht11.out.trans (hb12.mono (by have h1 := Ht11.out.size; omega)))
      have X_12 := Lib.hid (X_11.out.below hb12)
      have P_12 := Lib.hid (P_11.out.below hb12)
      have Q_12 := Lib.hid (Q_11.out.below hb12)
      have N_12 := Lib.hid (N_11.out.below hb12)
      have M_12 := Lib.hid (M_11.out.below hb12)
      have O_12 := Lib.hid (O_11.out.below hb12)
      clear hb12
      go_wp2_with fail
      go_ret
      exact ⟨rfl, Ht12.out⟩
    | true =>
      have hmr := F5.out Hno.out.symm
      rw [← Hnr.out] at hmr
      have Hmr := Lib.hid hmr
      clear hmr
      have k13 := Lib.hid (impl_OrdTimes aP (some ⟨g, 0, none⟩) br.length cP n c br xs w108 P_8.out X_8.out)
      unfold OrdOkPost at k13
      rw [Hmr.out.1, Hmr.out.2] at k13
      go_wp2_with fail
      refine (k13.out).mono ?_
      rintro ee w113 ⟨aM, cM, rfl, ho, hb13⟩
      have Ht13 := Lib.hid (Ht8.out.trans (hb13.mono (by have h1 := Ht8.out.size; omega)))
      have X_13 := Lib.hid (X_8.out.below hb13)
      have P_13 := Lib.hid (P_8.out.below hb13)
      have Q_13 := Lib.hid (Q_8.out.below hb13)
      have N_13 := Lib.hid (N_8.out.below hb13)
      have M_13 := Lib.hid (Sl.of_own ho)
      clear hb13 ho
      have k14 := Lib.hid (impl_OrdRaise (some ⟨g, 0, none⟩) n c xs 1 w113 X_13.out (by omega) (by omega))
      unfold OrdOkPost at k14
      rw [F7.out.1, F7.out.2] at k14
      go_wp2_with fail
      refine (k14.out).mono ?_
      rintro ee w114 ⟨aO, cO, rfl, ho, hb14⟩
      have Ht14 := Lib.hid (Ht13.out.trans (hb14.mono (by have h1 := Ht13.out.size; omega)))
      have X_14 := Lib.hid (X_13.out.below hb14)
      have P_14 := Lib.hid (P_13.out.below hb14)
      have Q_14 := Lib.hid (Q_13.out.below hb14)
      have N_14 := Lib.hid (N_13.out.below hb14)
      have M_14 := Lib.hid (M_13.out.below hb14)
      have O_14 := Lib.hid (Sl.of_own ho)
      clear hb14 ho
      have k15 := Lib.hid (impl_valid aP br.length cP br w114 P_14.out F4.out)
      go_wp2_with fail
      refine (k15.out).mono ?_
      rintro ee w115 ⟨rfl, hb15⟩
      have Ht15 := Lib.hid (Ht14.out.trans (hb15.mono (by have h1 := Ht14.out.size; omega)))
      have X_15 := Lib.hid (X_14.out.below hb15)
      have P_15 := Lib.hid (P_14.out.below hb15)
      have Q_15 := Lib.hid (Q_14.out.below hb15)
      have N_15 := Lib.hid (N_14.out.below hb15)
      have M_15 := Lib.hid (M_14.out.below hb15)
      have O_15 := Lib.hid (O_14.out.below hb15)
      clear hb15
      have k16 := Lib.hid (sameInts_any aO (some ⟨g, 0, none⟩) xs.length cO n c xs xs w115 (by have := Hn.out; omega) O_15.out X_15.out)
      rw [eqB_refl] at k16
      go_wp2_with fail
      refine (k16.out).mono ?_
      rintro ee w116 ⟨rfl, hb16⟩
      have Ht16 := Lib.hid (Ht15.out.trans (hb16.mono (by have h1 := Ht15.out.size; omega)))
      have X_16 := Lib.hid (X_15.out.below hb16)
      have P_16 := Lib.hid (P_15.out.below hb16)
      have Q_16 := Lib.hid (Q_15.out.below hb16)
      have N_16 := Lib.hid (N_15.out.below hb16)
      have M_16 := Lib.hid (M_15.out.below hb16)
      have O_16 := Lib.hid (O_15.out.below hb16)
      clear hb16
      have k17 := Lib.hid (sameInts_any aM aN nr.length cM nr.length cN nr nr w116 (by omega) M_16.out N_16.out)
      rw [eqB_refl] at k17
      go_wp2_with fail
      refine (k17.out).mono ?_
      rintro ee w117 ⟨rfl, hb17⟩
      have Ht17 := Lib.hid (Ht16.out.trans (hb17.mono (by have h1 := Ht16.out.size; omega)))
      have X_17 := Lib.hid (X_16.out.below hb17)
      have P_17 := Lib.hid (P_16.out.below hb17)
      have Q_17 := Lib.hid (Q_16.out.below hb17)
      have N_17 := Lib.hid (N_16.out.below hb17)
      have M_17 := Lib.hid (M_16.out.below hb17)
      have O_17 := Lib.hid (O_16.out.below hb17)
      clear hb17
      go_wp2_with fail
      go_ret
      exact ⟨rfl, Ht17.out⟩

end Go.Proofs.Ytaleaagnkfbhpab

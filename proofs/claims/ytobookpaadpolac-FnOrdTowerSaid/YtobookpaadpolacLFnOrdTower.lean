/- FnOrdTower: the walk of the law. -/
import Derived.Test.YtobookpaadpolacDrawL
import Derived.Test.YtobookpaadpolacTower
import Derived.Test.YtobookpaadpolacBefore
import Derived.Test.YtobookpaadpolacFn1
namespace Go.Proofs.Ytobookpaadpolac
open Go.RowKit

set_option maxHeartbeats 4000000 in
theorem fnOrdTower_walk (a : Option Addr) (len cap : Nat) (a2 : Option Addr) (len2 cap2 : Nat) (w : World) (h : By w a len cap) (h2 : By w a2 len2 cap2) :
    Calls Try.prog 7 #[.slice a len cap, .slice a2 len2 cap2] w fun e w' => e = .returned (.bool true) ∧ Below w.heap.size w w' := by
  have hlm : len ≤ 9223372036854775807 := by have := h.1; have := h.2.1; unfold maxLen at this; omega
  have hlm2 : len2 ≤ 9223372036854775807 := by have := h2.1; have := h2.2.1; unfold maxLen at this; omega
  by_cases hbig : 1048576 < len
  · clear h h2
    go_enter Try.func7, Try.ntmps7
    go_wp2_with fail
    go_ret
    exact ⟨rfl, Below.refl _ _⟩
  by_cases hbig2 : 1048576 < len2
  · clear h h2
    go_enter Try.func7, Try.ntmps7
    go_wp2_with fail
    go_ret
    exact ⟨rfl, Below.refl _ _⟩
  have k0 := Lib.hid (drawOrdTower_any a len cap w h)
  have H2 := Lib.hid h2
  clear h h2
  go_enter Try.func7, Try.ntmps7
  go_wp2_with fail
  refine (k0.out).mono ?_
  rintro ee w1 ⟨n, rfl, hn0, hn1, hb0⟩
  have Ht0 := Lib.hid hb0
  have hws := hb0.size
  clear hb0
  by_cases hout1 : n < 0
  · have he := T.towRow_out (n := n) (by omega)
    have He := Lib.hid he
    clear he
    have k1 := Lib.hid (impl_OrdTower n w1 (by omega) (by omega))
    unfold TowPost at k1
    rw [He.out.1, He.out.2, List.length_nil] at k1
    go_wp2_with fail
    refine (k1.out).mono ?_
    rintro ee w101 ⟨aP, cP, rfl, ho, hb1⟩
    have Ht1 := Lib.hid (Ht0.out.trans (hb1.mono (by have h1 := Ht0.out.size; omega)))
    have P_1 := Lib.hid (Sl.of_own ho)
    clear hb1 ho
    have k2 := Lib.hid (spec_OrdTower n w101 (by omega) (by omega))
    unfold TowPost at k2
    rw [He.out.1, He.out.2, List.length_nil] at k2
    go_wp2_with fail
    refine (k2.out).mono ?_
    rintro ee w102 ⟨aQ, cQ, rfl, ho, hb2⟩
    have Ht2 := Lib.hid (Ht1.out.trans (hb2.mono (by have h1 := Ht1.out.size; omega)))
    have P_2 := Lib.hid (P_1.out.below hb2)
    have Q_2 := Lib.hid (Sl.of_own ho)
    clear hb2 ho
    have k3 := Lib.hid (sameInts_any aP aQ 0 cP 0 cQ [] [] w102 (by decide) P_2.out Q_2.out)
    rw [eqB_refl] at k3
    go_wp2_with fail
    refine (k3.out).mono ?_
    rintro ee w103 ⟨rfl, hb3⟩
    have Ht3 := Lib.hid (Ht2.out.trans (hb3.mono (by have h1 := Ht2.out.size; omega)))
    have P_3 := Lib.hid (P_2.out.below hb3)
    have Q_3 := Lib.hid (Q_2.out.below hb3)
    clear hb3
    have k4 := Lib.hid (alive_any w103)
    go_wp2_with fail
    refine (k4.out).mono ?_
    rintro ee w104 ⟨rfl, hb4⟩
    have Ht4 := Lib.hid (Ht3.out.trans (hb4.mono (by have h1 := Ht3.out.size; omega)))
    have P_4 := Lib.hid (P_3.out.below hb4)
    have Q_4 := Lib.hid (Q_3.out.below hb4)
    clear hb4
    go_wp2_with fail
    go_ret
    exact ⟨rfl, Ht4.out⟩
  by_cases hout0 : 9 < n
  · have he := T.towRow_out (n := n) (by omega)
    have He := Lib.hid he
    clear he
    have k5 := Lib.hid (impl_OrdTower n w1 (by omega) (by omega))
    unfold TowPost at k5
    rw [He.out.1, He.out.2, List.length_nil] at k5
    go_wp2_with fail
    refine (k5.out).mono ?_
    rintro ee w105 ⟨aP, cP, rfl, ho, hb5⟩
    have Ht5 := Lib.hid (Ht0.out.trans (hb5.mono (by have h1 := Ht0.out.size; omega)))
    have P_5 := Lib.hid (Sl.of_own ho)
    clear hb5 ho
    have k6 := Lib.hid (spec_OrdTower n w105 (by omega) (by omega))
    unfold TowPost at k6
    rw [He.out.1, He.out.2, List.length_nil] at k6
    go_wp2_with fail
    refine (k6.out).mono ?_
    rintro ee w106 ⟨aQ, cQ, rfl, ho, hb6⟩
    have Ht6 := Lib.hid (Ht5.out.trans (hb6.mono (by have h1 := Ht5.out.size; omega)))
    have P_6 := Lib.hid (P_5.out.below hb6)
    have Q_6 := Lib.hid (Sl.of_own ho)
    clear hb6 ho
    have k7 := Lib.hid (sameInts_any aP aQ 0 cP 0 cQ [] [] w106 (by decide) P_6.out Q_6.out)
    rw [eqB_refl] at k7
    go_wp2_with fail
    refine (k7.out).mono ?_
    rintro ee w107 ⟨rfl, hb7⟩
    have Ht7 := Lib.hid (Ht6.out.trans (hb7.mono (by have h1 := Ht6.out.size; omega)))
    have P_7 := Lib.hid (P_6.out.below hb7)
    have Q_7 := Lib.hid (Q_6.out.below hb7)
    clear hb7
    have k8 := Lib.hid (alive_any w107)
    go_wp2_with fail
    refine (k8.out).mono ?_
    rintro ee w108 ⟨rfl, hb8⟩
    have Ht8 := Lib.hid (Ht7.out.trans (hb8.mono (by have h1 := Ht7.out.size; omega)))
    have P_8 := Lib.hid (P_7.out.below hb8)
    have Q_8 := Lib.hid (Q_7.out.below hb8)
    clear hb8
    go_wp2_with fail
    go_ret
    exact ⟨rfl, Ht8.out⟩
  obtain ⟨k, rfl⟩ := Int.eq_ofNat_of_zero_le (show 0 ≤ n by omega)
  have hk : k ≤ 9 := by omega
  have he := T.towRow_in hk
  have He := Lib.hid he
  have hlen := T.tow_len k
  obtain ⟨L, hL⟩ : ∃ L, L = (T.tow k).enc.length := ⟨_, rfl⟩
  rw [← hL] at hlen
  have hL2 : L ≤ 100 := by omega
  have HL := Lib.hid hL
  clear he hn0 hn1 hout1 hout0 hL hlen
  have k9 := Lib.hid (impl_OrdTower k w1 (by omega) (by omega))
  unfold TowPost at k9
  rw [He.out.1, He.out.2, ← HL.out] at k9
  go_wp2_with fail
  refine (k9.out).mono ?_
  rintro ee w109 ⟨aP, cP, rfl, ho, hb9⟩
  have Ht9 := Lib.hid (Ht0.out.trans (hb9.mono (by have h1 := Ht0.out.size; omega)))
  have P_9 := Lib.hid (Sl.of_own ho)
  clear hb9 ho
  have k10 := Lib.hid (spec_OrdTower k w109 (by omega) (by omega))
  unfold TowPost at k10
  rw [He.out.1, He.out.2, ← HL.out] at k10
  go_wp2_with fail
  refine (k10.out).mono ?_
  rintro ee w110 ⟨aQ, cQ, rfl, ho, hb10⟩
  have Ht10 := Lib.hid (Ht9.out.trans (hb10.mono (by have h1 := Ht9.out.size; omega)))
  have P_10 := Lib.hid (P_9.out.below hb10)
  have Q_10 := Lib.hid (Sl.of_own ho)
  clear hb10 ho
  have k11 := Lib.hid (sameInts_any aP aQ L cP L cQ (T.tow k).enc (T.tow k).enc w110 (by omega) P_10.out Q_10.out)
  rw [eqB_refl] at k11
  go_wp2_with fail
  refine (k11.out).mono ?_
  rintro ee w111 ⟨rfl, hb11⟩
  have Ht11 := Lib.hid (Ht10.out.trans (hb11.mono (by have h1 := Ht10.out.size; omega)))
  have P_11 := Lib.hid (P_10.out.below hb11)
  have Q_11 := Lib.hid (Q_10.out.below hb11)
  clear hb11
  by_cases h9 : k < 9
  · have he2 : T.towRow ((k : Int) + 1) = (T.tow (k + 1)).enc ∧ T.towOk ((k : Int) + 1) = true := T.towRow_in (k := k + 1) (by omega)
    have He2 := Lib.hid he2
    clear he2
    have k12 := Lib.hid (impl_OrdTower ((k : Int) + 1) w111 (by omega) (by omega))
    unfold TowPost at k12
    rw [He2.out.1, He2.out.2] at k12
    go_wp2_with fail
    refine (k12.out).mono ?_
    rintro ee w112 ⟨aN, cN, rfl, ho, hb12⟩
    have Ht12 := Lib.hid (Ht11.out.trans (hb12.mono (by have h1 := Ht11.out.size; omega)))
    have P_12 := Lib.hid (P_11.out.below hb12)
    have Q_12 := Lib.hid (Q_11.out.below hb12)
    have N_12 := Lib.hid (Sl.of_own ho)
    clear hb12 ho
    have k13 := Lib.hid (drawOrdAdd_any a2 len2 cap2 w112 (H2.out.later Ht12.out))
    go_wp2_with fail
    refine (k13.out).mono ?_
    rintro ee w113 ⟨zs, vs, gz, nz, cz, gv, nv, cv, hnz, hnv, rfl, ho, ho', hlz, hlv, hb13⟩
    have Ht13 := Lib.hid (Ht12.out.trans (hb13.mono (by have h1 := Ht12.out.size; omega)))
    have P_13 := Lib.hid (P_12.out.below hb13)
    have Q_13 := Lib.hid (Q_12.out.below hb13)
    have N_13 := Lib.hid (N_12.out.below hb13)
    have Z_13 := Lib.hid (Sl.of_own ho)
    have V_13 := Lib.hid (Sl.of_own ho')
    clear hb13 ho ho'
    have Hnz := Lib.hid hnz
    have Hnv := Lib.hid hnv
    clear hnz hnv
    obtain ⟨dm, hdm⟩ : ∃ dm, dm = T.depRow zs := ⟨_, rfl⟩
    have Hdm := Lib.hid hdm
    clear hdm
    have k14 := Lib.hid (impl_OrdDepth (some ⟨gz, 0, none⟩) nz cz zs w113 Z_13.out)
    rw [← Hdm.out] at k14
    go_wp2_with fail
    refine (k14.out).mono ?_
    rintro ee w114 ⟨rfl, hb14⟩
    have Ht14 := Lib.hid (Ht13.out.trans (hb14.mono (by have h1 := Ht13.out.size; omega)))
    have P_14 := Lib.hid (P_13.out.below hb14)
    have Q_14 := Lib.hid (Q_13.out.below hb14)
    have N_14 := Lib.hid (N_13.out.below hb14)
    have Z_14 := Lib.hid (Z_13.out.below hb14)
    have V_14 := Lib.hid (V_13.out.below hb14)
    clear hb14
    have k15 := Lib.hid (impl_valid aP L cP (T.tow k).enc w114 P_14.out (T.tow_vld (by omega)))
    go_wp2_with fail
    refine (k15.out).mono ?_
    rintro ee w115 ⟨rfl, hb15⟩
    have Ht15 := Lib.hid (Ht14.out.trans (hb15.mono (by have h1 := Ht14.out.size; omega)))
    have P_15 := Lib.hid (P_14.out.below hb15)
    have Q_15 := Lib.hid (Q_14.out.below hb15)
    have N_15 := Lib.hid (N_14.out.below hb15)
    have Z_15 := Lib.hid (Z_14.out.below hb15)
    have V_15 := Lib.hid (V_14.out.below hb15)
    clear hb15
    have htd := T.tow_dep (n := k) (by omega)
    have Htd := Lib.hid htd
    clear htd
    have k16 := Lib.hid (impl_OrdDepth aP L cP (T.tow k).enc w115 P_15.out)
    rw [Htd.out] at k16
    go_wp2_with fail
    refine (k16.out).mono ?_
    rintro ee w116 ⟨rfl, hb16⟩
    have Ht16 := Lib.hid (Ht15.out.trans (hb16.mono (by have h1 := Ht15.out.size; omega)))
    have P_16 := Lib.hid (P_15.out.below hb16)
    have Q_16 := Lib.hid (Q_15.out.below hb16)
    have N_16 := Lib.hid (N_15.out.below hb16)
    have Z_16 := Lib.hid (Z_15.out.below hb16)
    have V_16 := Lib.hid (V_15.out.below hb16)
    clear hb16
    have htl := T.tow_lt (n := k) (by omega)
    have Htl := Lib.hid htl
    clear htl
    have k17 := Lib.hid (impl_OrdCompare aP aN L cP (T.tow (k + 1)).enc.length cN (T.tow k).enc (T.tow (k + 1)).enc w116 P_16.out N_16.out)
    rw [Htl.out] at k17
    go_wp2_with fail
    refine (k17.out).mono ?_
    rintro ee w117 ⟨rfl, hb17⟩
    have Ht17 := Lib.hid (Ht16.out.trans (hb17.mono (by have h1 := Ht16.out.size; omega)))
    have P_17 := Lib.hid (P_16.out.below hb17)
    have Q_17 := Lib.hid (Q_16.out.below hb17)
    have N_17 := Lib.hid (N_16.out.below hb17)
    have Z_17 := Lib.hid (Z_16.out.below hb17)
    have V_17 := Lib.hid (V_16.out.below hb17)
    clear hb17
    by_cases hm0 : dm < 0
    · skip
      go_wp2_with fail
      go_ret
      exact ⟨rfl, Ht17.out⟩
    by_cases hm1 : (k : Int) < dm
    · skip
      go_wp2_with fail
      go_ret
      exact ⟨rfl, Ht17.out⟩
    have hcm : T.cmpRow zs (T.tow k).enc = -1 := T.depRow_lt (by rw [← Hdm.out]; omega) (by rw [← Hdm.out, Htd.out]; omega)
    have Hcm := Lib.hid hcm
    clear hcm
    have k18 := Lib.hid (impl_OrdCompare (some ⟨gz, 0, none⟩) aP nz cz L cP zs (T.tow k).enc w117 Z_17.out P_17.out)
    rw [Hcm.out] at k18
    go_wp2_with fail
    refine (k18.out).mono ?_
    rintro ee w118 ⟨rfl, hb18⟩
    have Ht18 := Lib.hid (Ht17.out.trans (hb18.mono (by have h1 := Ht17.out.size; omega)))
    have P_18 := Lib.hid (P_17.out.below hb18)
    have Q_18 := Lib.hid (Q_17.out.below hb18)
    have N_18 := Lib.hid (N_17.out.below hb18)
    have Z_18 := Lib.hid (Z_17.out.below hb18)
    have V_18 := Lib.hid (V_17.out.below hb18)
    clear hb18
    go_wp2_with fail
    go_ret
    exact ⟨rfl, Ht18.out⟩
  · have he2 := T.towRow_out (n := (k : Int) + 1) (by omega)
    have He2 := Lib.hid he2
    clear he2
    have k19 := Lib.hid (impl_OrdTower ((k : Int) + 1) w111 (by omega) (by omega))
    unfold TowPost at k19
    rw [He2.out.1, He2.out.2, List.length_nil] at k19
    go_wp2_with fail
    refine (k19.out).mono ?_
    rintro ee w119 ⟨aN, cN, rfl, ho, hb19⟩
    have Ht19 := Lib.hid (Ht11.out.trans (hb19.mono (by have h1 := Ht11.out.size; omega)))
    have P_19 := Lib.hid (P_11.out.below hb19)
    have Q_19 := Lib.hid (Q_11.out.below hb19)
    have N_19 := Lib.hid (Sl.of_own ho)
    clear hb19 ho
    have k20 := Lib.hid (drawOrdAdd_any a2 len2 cap2 w119 (H2.out.later Ht19.out))
    go_wp2_with fail
    refine (k20.out).mono ?_
    rintro ee w120 ⟨zs, vs, gz, nz, cz, gv, nv, cv, hnz, hnv, rfl, ho, ho', hlz, hlv, hb20⟩
    have Ht20 := Lib.hid (Ht19.out.trans (hb20.mono (by have h1 := Ht19.out.size; omega)))
    have P_20 := Lib.hid (P_19.out.below hb20)
    have Q_20 := Lib.hid (Q_19.out.below hb20)
    have N_20 := Lib.hid (N_19.out.below hb20)
    have Z_20 := Lib.hid (Sl.of_own ho)
    have V_20 := Lib.hid (Sl.of_own ho')
    clear hb20 ho ho'
    have Hnz := Lib.hid hnz
    have Hnv := Lib.hid hnv
    clear hnz hnv
    obtain ⟨dm, hdm⟩ : ∃ dm, dm = T.depRow zs := ⟨_, rfl⟩
    have Hdm := Lib.hid hdm
    clear hdm
    have k21 := Lib.hid (impl_OrdDepth (some ⟨gz, 0, none⟩) nz cz zs w120 Z_20.out)
    rw [← Hdm.out] at k21
    go_wp2_with fail
    refine (k21.out).mono ?_
    rintro ee w121 ⟨rfl, hb21⟩
    have Ht21 := Lib.hid (Ht20.out.trans (hb21.mono (by have h1 := Ht20.out.size; omega)))
    have P_21 := Lib.hid (P_20.out.below hb21)
    have Q_21 := Lib.hid (Q_20.out.below hb21)
    have N_21 := Lib.hid (N_20.out.below hb21)
    have Z_21 := Lib.hid (Z_20.out.below hb21)
    have V_21 := Lib.hid (V_20.out.below hb21)
    clear hb21
    have k22 := Lib.hid (impl_valid aP L cP (T.tow k).enc w121 P_21.out (T.tow_vld (by omega)))
    go_wp2_with fail
    refine (k22.out).mono ?_
    rintro ee w122 ⟨rfl, hb22⟩
    have Ht22 := Lib.hid (Ht21.out.trans (hb22.mono (by have h1 := Ht21.out.size; omega)))
    have P_22 := Lib.hid (P_21.out.below hb22)
    have Q_22 := Lib.hid (Q_21.out.below hb22)
    have N_22 := Lib.hid (N_21.out.below hb22)
    have Z_22 := Lib.hid (Z_21.out.below hb22)
    have V_22 := Lib.hid (V_21.out.below hb22)
    clear hb22
    have htd := T.tow_dep (n := k) (by omega)
    have Htd := Lib.hid htd
    clear htd
    have k23 := Lib.hid (impl_OrdDepth aP L cP (T.tow k).enc w122 P_22.out)
    rw [Htd.out] at k23
    go_wp2_with fail
    refine (k23.out).mono ?_
    rintro ee w123 ⟨rfl, hb23⟩
    have Ht23 := Lib.hid (Ht22.out.trans (hb23.mono (by have h1 := Ht22.out.size; omega)))
    have P_23 := Lib.hid (P_22.out.below hb23)
    have Q_23 := Lib.hid (Q_22.out.below hb23)
    have N_23 := Lib.hid (N_22.out.below hb23)
    have Z_23 := Lib.hid (Z_22.out.below hb23)
    have V_23 := Lib.hid (V_22.out.below hb23)
    clear hb23
    by_cases hm0 : dm < 0
    · skip
      go_wp2_with fail
      go_ret
      exact ⟨rfl, Ht23.out⟩
    by_cases hm1 : (k : Int) < dm
    · skip
      go_wp2_with fail
      go_ret
      exact ⟨rfl, Ht23.out⟩
    have hcm : T.cmpRow zs (T.tow k).enc = -1 := T.depRow_lt (by rw [← Hdm.out]; omega) (by rw [← Hdm.out, Htd.out]; omega)
    have Hcm := Lib.hid hcm
    clear hcm
    have k24 := Lib.hid (impl_OrdCompare (some ⟨gz, 0, none⟩) aP nz cz L cP zs (T.tow k).enc w123 Z_23.out P_23.out)
    rw [Hcm.out] at k24
    go_wp2_with fail
    refine (k24.out).mono ?_
    rintro ee w124 ⟨rfl, hb24⟩
    have Ht24 := Lib.hid (Ht23.out.trans (hb24.mono (by have h1 := Ht23.out.size; omega)))
    have P_24 := Lib.hid (P_23.out.below hb24)
    have Q_24 := Lib.hid (Q_23.out.below hb24)
    have N_24 := Lib.hid (N_23.out.below hb24)
    have Z_24 := Lib.hid (Z_23.out.below hb24)
    have V_24 := Lib.hid (V_23.out.below hb24)
    clear hb24
    go_wp2_with fail
    go_ret
    exact ⟨rfl, Ht24.out⟩

end Go.Proofs.Ytobookpaadpolac

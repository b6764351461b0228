/- FnOrdInBase: the walk of the law. -/
import Derived.Test.YtnacndlfjlibmaaDrawG
import Derived.Test.YtnacndlfjlibmaaGoodL
import Derived.Test.YtnacndlfjlibmaaBaseU
import Derived.Test.YtnacndlfjlibmaaFn1
namespace Go.Proofs.Ytnacndlfjlibmaa
set_option maxRecDepth 100000
open Go.RowKit

theorem By.below {w w' : World} {a : Option Addr} {len cap : Nat} (h : By w a len cap) (hb : Below w.heap.size w w') : By w' a len cap := by
  refine ⟨h.1, h.2.1, fun hp => ?_⟩
  obtain ⟨b, off, h1, h2, h3⟩ := h.2.2 hp
  refine ⟨b, off, h1, Nat.lt_of_lt_of_le h2 hb.size, fun j hj => ?_⟩
  obtain ⟨v, h4, h5⟩ := h3 j hj
  exact ⟨v, h4, (hb.cell (p := ⟨b, off + j, none⟩) h2).trans h5⟩

set_option maxHeartbeats 4000000 in
theorem fnOrdInBase_walk (a : Option Addr) (len cap : Nat) (a2 : Option Addr) (len2 cap2 : Nat) (w : World) (h : By w a len cap) (h2 : By w a2 len2 cap2) :
    Calls Try.prog 11 #[.slice a len cap, .slice a2 len2 cap2] w fun e w' => e = .returned (.bool true) ∧ Below w.heap.size w w' := by
  have hlm : len ≤ 9223372036854775807 := by have := h.1; have := h.2.1; unfold maxLen at this; omega
  have hlm2 : len2 ≤ 9223372036854775807 := by have := h2.1; have := h2.2.1; unfold maxLen at this; omega
  by_cases hbig : 1048576 < len
  · clear h h2
    go_enter Try.func11, Try.ntmps11
    go_wp2_with fail
    go_ret
    exact ⟨rfl, Below.refl _ _⟩
  by_cases hbig2 : 1048576 < len2
  · clear h h2
    go_enter Try.func11, Try.ntmps11
    go_wp2_with fail
    go_ret
    exact ⟨rfl, Below.refl _ _⟩
  have k0 := Lib.hid (drawOrdInBase_any a len cap w h)
  have H2 := Lib.hid h2
  clear h h2
  go_enter Try.func11, Try.ntmps11
  go_wp2_with fail
  refine (k0.out).mono ?_
  rintro ee w1 ⟨N, A, rfl, hN0, hN1, hA0, hA1, hb0⟩
  have Ht0 := Lib.hid hb0
  have hws := hb0.size
  clear hb0
  have hrl := T.baseRow_len N A
  by_cases hr0 : T.baseRow N A = []
  · have Hr := Lib.hid hr0
    clear hr0 hrl
    have k1 := Lib.hid (impl_OrdInBase N A w1 (by omega) (by omega) (by omega) (by omega))
    unfold IntPost at k1
    rw [Hr.out, List.length_nil] at k1
    go_wp2_with fail
    refine (k1.out).mono ?_
    rintro ee w101 ⟨aP, cP, rfl, ho, hb1⟩
    have Ht1 := Lib.hid (Ht0.out.trans (hb1.mono (by have h1 := Ht0.out.size; omega)))
    have P_1 := Lib.hid (Sl.of_own ho)
    clear hb1 ho
    have k2 := Lib.hid (spec_OrdInBase N A w101 (by omega) (by omega) (by omega) (by omega))
    unfold IntPost at k2
    rw [Hr.out, List.length_nil] at k2
    go_wp2_with fail
    refine (k2.out).mono ?_
    rintro ee w102 ⟨aQ, cQ, rfl, ho, hb2⟩
    have Ht2 := Lib.hid (Ht1.out.trans (hb2.mono (by have h1 := Ht1.out.size; omega)))
    have P_2 := Lib.hid (P_1.out.below hb2)
    have Q_2 := Lib.hid (Sl.of_own ho)
    clear hb2 ho
    have k3 := Lib.hid (sameInts_any aP aQ 0 cP 0 cQ [] [] w102 (by decide) P_2.out Q_2.out)
    rw [eqB_refl] at k3
    go_wp2_with fail
    refine (k3.out).mono ?_
    rintro ee w103 ⟨rfl, hb3⟩
    have Ht3 := Lib.hid (Ht2.out.trans (hb3.mono (by have h1 := Ht2.out.size; omega)))
    have P_3 := Lib.hid (P_2.out.below hb3)
    have Q_3 := Lib.hid (Q_2.out.below hb3)
    clear hb3
    have k4 := Lib.hid (alive_any w103)
    go_wp2_with fail
    refine (k4.out).mono ?_
    rintro ee w104 ⟨rfl, hb4⟩
    have Ht4 := Lib.hid (Ht3.out.trans (hb4.mono (by have h1 := Ht3.out.size; omega)))
    have P_4 := Lib.hid (P_3.out.below hb4)
    have Q_4 := Lib.hid (Q_3.out.below hb4)
    clear hb4
    go_wp2_with fail
    go_ret
    exact ⟨rfl, Ht4.out⟩
  · obtain ⟨f1, f2⟩ := T.base_ok hr0
    have f3 := T.base_slow hr0
    have f4 := fun M => T.base_cmp (m := M) hr0
    obtain ⟨r, hr⟩ : ∃ x, x = T.baseRow N A := ⟨_, rfl⟩
    rw [← hr] at f1 f2 f3 f4 hrl hr0
    have hz : (((r.length : Nat) : Int) == 0) = false := by
      have h : r.length ≠ 0 := fun h => hr0 (List.length_eq_zero_iff.1 h)
      simpa using h
    have Hr := Lib.hid hr
    have F1 := Lib.hid f1
    have F2 := Lib.hid f2
    have F3 := Lib.hid f3
    have F4 := Lib.hid f4
    clear hr f1 f2 f3 f4 hr0
    have k5 := Lib.hid (impl_OrdInBase N A w1 (by omega) (by omega) (by omega) (by omega))
    unfold IntPost at k5
    rw [← Hr.out] at k5
    go_wp2_with fail
    refine (k5.out).mono ?_
    rintro ee w105 ⟨aP, cP, rfl, ho, hb5⟩
    have Ht5 := Lib.hid (Ht0.out.trans (hb5.mono (by have h1 := Ht0.out.size; omega)))
    have P_5 := Lib.hid (Sl.of_own ho)
    clear hb5 ho
    have k6 := Lib.hid (spec_OrdInBase N A w105 (by omega) (by omega) (by omega) (by omega))
    unfold IntPost at k6
    rw [← Hr.out] at k6
    go_wp2_with fail
    refine (k6.out).mono ?_
    rintro ee w106 ⟨aQ, cQ, rfl, ho, hb6⟩
    have Ht6 := Lib.hid (Ht5.out.trans (hb6.mono (by have h1 := Ht5.out.size; omega)))
    have P_6 := Lib.hid (P_5.out.below hb6)
    have Q_6 := Lib.hid (Sl.of_own ho)
    clear hb6 ho
    have k7 := Lib.hid (sameInts_any aP aQ r.length cP r.length cQ r r w106 (by omega) P_6.out Q_6.out)
    rw [eqB_refl] at k7
    go_wp2_with fail
    refine (k7.out).mono ?_
    rintro ee w107 ⟨rfl, hb7⟩
    have Ht7 := Lib.hid (Ht6.out.trans (hb7.mono (by have h1 := Ht6.out.size; omega)))
    have P_7 := Lib.hid (P_6.out.below hb7)
    have Q_7 := Lib.hid (Q_6.out.below hb7)
    clear hb7
    have k8 := Lib.hid (drawOrdInBase_any a2 len2 cap2 w107 (H2.out.below Ht7.out))
    go_wp2_with fail
    refine (k8.out).mono ?_
    rintro ee w108 ⟨M, A2, rfl, hM0, hM1, hA20, hA21, hb8⟩
    have Ht8 := Lib.hid (Ht7.out.trans (hb8.mono (by have h1 := Ht7.out.size; omega)))
    have P_8 := Lib.hid (P_7.out.below hb8)
    have Q_8 := Lib.hid (Q_7.out.below hb8)
    clear hb8
    rcases Int.lt_trichotomy N M with hc | hc | hc
    · have hql := T.baseRow_len M A
      have f5 : T.baseRow M A = [] ∨ T.cmpRow r (T.baseRow M A) = (-1) := by
        by_cases h : T.baseRow M A = []
        · exact .inl h
        · right; have h1 := F4.out M h; rw [if_pos hc] at h1; exact h1
      have hc1 : ¬ M < N := by omega
      obtain ⟨q, hq⟩ : ∃ x, x = T.baseRow M A := ⟨_, rfl⟩
      rw [← hq] at f5 hql
      have Hq := Lib.hid hq
      have F5 := Lib.hid f5
      clear hq f5
      have k9 := Lib.hid (impl_OrdInBase M A w108 (by omega) (by omega) (by omega) (by omega))
      unfold IntPost at k9
      rw [← Hq.out] at k9
      go_wp2_with fail
      refine (k9.out).mono ?_
      rintro ee w109 ⟨aZ, cZ, rfl, ho, hb9⟩
      have Ht9 := Lib.hid (Ht8.out.trans (hb9.mono (by have h1 := Ht8.out.size; omega)))
      have P_9 := Lib.hid (P_8.out.below hb9)
      have Q_9 := Lib.hid (Q_8.out.below hb9)
      have Z_9 := Lib.hid (Sl.of_own ho)
      clear hb9 ho
      have k10 := Lib.hid (impl_valid aP r.length cP r w109 P_9.out F1.out)
      go_wp2_with fail
      refine (k10.out).mono ?_
      rintro ee w110 ⟨rfl, hb10⟩
      have Ht10 := Lib.hid (Ht9.out.trans (hb10.mono (by have h1 := Ht9.out.size; omega)))
      have P_10 := Lib.hid (P_9.out.below hb10)
      have Q_10 := Lib.hid (Q_9.out.below hb10)
      have Z_10 := Lib.hid (Z_9.out.below hb10)
      clear hb10
      have k11 := Lib.hid (impl_BaseOk aP r.length cP r A w110 P_10.out (by omega) (by omega))
      rw [F2.out] at k11
      go_wp2_with fail
      refine (k11.out).mono ?_
      rintro ee w111 ⟨rfl, hb11⟩
      have Ht11 := Lib.hid (Ht10.out.trans (hb11.mono (by have h1 := Ht10.out.size; omega)))
      have P_11 := Lib.hid (P_10.out.below hb11)
      have Q_11 := Lib.hid (Q_10.out.below hb11)
      have Z_11 := Lib.hid (Z_10.out.below hb11)
      clear hb11
      have k12 := Lib.hid (impl_SlowValue aP r.length cP r A w111 P_11.out (by omega) (by omega))
      rw [F3.out] at k12
      go_wp2_with fail
      refine (k12.out).mono ?_
      rintro ee w112 ⟨rfl, hb12⟩
      have Ht12 := Lib.hid (Ht11.out.trans (hb12.mono (by have h1 := Ht11.out.size; omega)))
      have P_12 := Lib.hid (P_11.out.below hb12)
      have Q_12 := Lib.hid (Q_11.out.below hb12)
      have Z_12 := Lib.hid (Z_11.out.below hb12)
      clear hb12
      by_cases hq0 : q.length = 0
      · have hzb : (((q.length : Nat) : Int) == 0) = true := by rw [hq0]; rfl
        go_wp2_with fail
        go_ret
        exact ⟨rfl, Ht12.out⟩
      · have hzb : (((q.length : Nat) : Int) == 0) = false := by simpa using hq0
        have hcm : T.cmpRow r q = (-1) := by
          rcases F5.out with h | h
          · rw [h] at hq0; exact absurd rfl hq0
          · exact h
        have Hcm := Lib.hid hcm
        clear hcm
        have k13 := Lib.hid (impl_OrdCompare aP aZ r.length cP q.length cZ r q w112 P_12.out Z_12.out)
        rw [Hcm.out] at k13
        go_wp2_with fail
        refine (k13.out).mono ?_
        rintro ee w113 ⟨rfl, hb13⟩
        have Ht13 := Lib.hid (Ht12.out.trans (hb13.mono (by have h1 := Ht12.out.size; omega)))
        have P_13 := Lib.hid (P_12.out.below hb13)
        have Q_13 := Lib.hid (Q_12.out.below hb13)
        have Z_13 := Lib.hid (Z_12.out.below hb13)
        clear hb13
        go_wp2_with fail
        go_ret
        exact ⟨rfl, Ht13.out⟩
    · have hql := T.baseRow_len M A
      have f5 : T.baseRow M A = [] ∨ T.cmpRow r (T.baseRow M A) = 0 := by
        by_cases h : T.baseRow M A = []
        · exact .inl h
        · right; have h1 := F4.out M h; rw [if_neg (by omega), if_neg (by omega)] at h1; exact h1
      have hc1 : ¬ N < M := by omega
      have hc2 : ¬ M < N := by omega
      clear hc
      obtain ⟨q, hq⟩ : ∃ x, x = T.baseRow M A := ⟨_, rfl⟩
      rw [← hq] at f5 hql
      have Hq := Lib.hid hq
      have F5 := Lib.hid f5
      clear hq f5
      have k14 := Lib.hid (impl_OrdInBase M A w108 (by omega) (by omega) (by omega) (by omega))
      unfold IntPost at k14
      rw [← Hq.out] at k14
      go_wp2_with fail
      refine (k14.out).mono ?_
      rintro ee w114 ⟨aZ, cZ, rfl, ho, hb14⟩
      have Ht14 := Lib.hid (Ht8.out.trans (hb14.mono (by have h1 := Ht8.out.size; omega)))
      have P_14 := Lib.hid (P_8.out.below hb14)
      have Q_14 := Lib.hid (Q_8.out.below hb14)
      have Z_14 := Lib.hid (Sl.of_own ho)
      clear hb14 ho
      have k15 := Lib.hid (impl_valid aP r.length cP r w114 P_14.out F1.out)
      go_wp2_with fail
      refine (k15.out).mono ?_
      rintro ee w115 ⟨rfl, hb15⟩
      have Ht15 := Lib.hid (Ht14.out.trans (hb15.mono (by have h1 := Ht14.out.size; omega)))
      have P_15 := Lib.hid (P_14.out.below hb15)
      have Q_15 := Lib.hid (Q_14.out.below hb15)
      have Z_15 := Lib.hid (Z_14.out.below hb15)
      clear hb15
      have k16 := Lib.hid (impl_BaseOk aP r.length cP r A w115 P_15.out (by omega) (by omega))
      rw [F2.out] at k16
      go_wp2_with fail
      refine (k16.out).mono ?_
      rintro ee w116 ⟨rfl, hb16⟩
      have Ht16 := Lib.hid (Ht15.out.trans (hb16.mono (by have h1 := Ht15.out.size; omega)))
      have P_16 := Lib.hid (P_15.out.below hb16)
      have Q_16 := Lib.hid (Q_15.out.below hb16)
      have Z_16 := Lib.hid (Z_15.out.below hb16)
      clear hb16
      have k17 := Lib.hid (impl_SlowValue aP r.length cP r A w116 P_16.out (by omega) (by omega))
      rw [F3.out] at k17
      go_wp2_with fail
      refine (k17.out).mono ?_
      rintro ee w117 ⟨rfl, hb17⟩
      have Ht17 := Lib.hid (Ht16.out.trans (hb17.mono (by have h1 := Ht16.out.size; omega)))
      have P_17 := Lib.hid (P_16.out.below hb17)
      have Q_17 := Lib.hid (Q_16.out.below hb17)
      have Z_17 := Lib.hid (Z_16.out.below hb17)
      clear hb17
      by_cases hq0 : q.length = 0
      · have hzb : (((q.length : Nat) : Int) == 0) = true := by rw [hq0]; rfl
        go_wp2_with fail
        go_ret
        exact ⟨rfl, Ht17.out⟩
      · have hzb : (((q.length : Nat) : Int) == 0) = false := by simpa using hq0
        have hcm : T.cmpRow r q = 0 := by
          rcases F5.out with h | h
          · rw [h] at hq0; exact absurd rfl hq0
          · exact h
        have Hcm := Lib.hid hcm
        clear hcm
        have k18 := Lib.hid (impl_OrdCompare aP aZ r.length cP q.length cZ r q w117 P_17.out Z_17.out)
        rw [Hcm.out] at k18
        go_wp2_with fail
        refine (k18.out).mono ?_
        rintro ee w118 ⟨rfl, hb18⟩
        have Ht18 := Lib.hid (Ht17.out.trans (hb18.mono (by have h1 := Ht17.out.size; omega)))
        have P_18 := Lib.hid (P_17.out.below hb18)
        have Q_18 := Lib.hid (Q_17.out.below hb18)
        have Z_18 := Lib.hid (Z_17.out.below hb18)
        clear hb18
        go_wp2_with fail
        go_ret
        exact ⟨rfl, Ht18.out⟩
    · have hql := T.baseRow_len M A
      have f5 : T.baseRow M A = [] ∨ T.cmpRow r (T.baseRow M A) = 1 := by
        by_cases h : T.baseRow M A = []
        · exact .inl h
        · right; have h1 := F4.out M h; rw [if_neg (by omega), if_pos hc] at h1; exact h1
      have hc1 : ¬ N < M := by omega
      obtain ⟨q, hq⟩ : ∃ x, x = T.baseRow M A := ⟨_, rfl⟩
      rw [← hq] at f5 hql
      have Hq := Lib.hid hq
      have F5 := Lib.hid f5
      clear hq f5
      have k19 := Lib.hid (impl_OrdInBase M A w108 (by omega) (by omega) (by omega) (by omega))
      unfold IntPost at k19
      rw [← Hq.out] at k19
      go_wp2_with fail
      refine (k19.out).mono ?_
      rintro ee w119 ⟨aZ, cZ, rfl, ho, hb19⟩
      have Ht19 := Lib.hid (Ht8.out.trans (hb19.mono (by have h1 := Ht8.out.size; omega)))
      have P_19 := Lib.hid (P_8.out.below hb19)
      have Q_19 := Lib.hid (Q_8.out.below hb19)
      have Z_19 := Lib.hid (Sl.of_own ho)
      clear hb19 ho
      have k20 := Lib.hid (impl_valid aP r.length cP r w119 P_19.out F1.out)
      go_wp2_with fail
      refine (k20.out).mono ?_
      rintro ee w120 ⟨rfl, hb20⟩
      have Ht20 := Lib.hid (Ht19.out.trans (hb20.mono (by have h1 := Ht19.out.size; omega)))
      have P_20 := Lib.hid (P_19.out.below hb20)
      have Q_20 := Lib.hid (Q_19.out.below hb20)
      have Z_20 := Lib.hid (Z_19.out.below hb20)
      clear hb20
      have k21 := Lib.hid (impl_BaseOk aP r.length cP r A w120 P_20.out (by omega) (by omega))
      rw [F2.out] at k21
      go_wp2_with fail
      refine (k21.out).mono ?_
      rintro ee w121 ⟨rfl, hb21⟩
      have Ht21 := Lib.hid (Ht20.out.trans (hb21.mono (by have h1 := Ht20.out.size; omega)))
      have P_21 := Lib.hid (P_20.out.below hb21)
      have Q_21 := Lib.hid (Q_20.out.below hb21)
      have Z_21 := Lib.hid (Z_20.out.below hb21)
      clear hb21
      have k22 := Lib.hid (impl_SlowValue aP r.length cP r A w121 P_21.out (by omega) (by omega))
      rw [F3.out] at k22
      go_wp2_with fail
      refine (k22.out).mono ?_
      rintro ee w122 ⟨rfl, hb22⟩
      have Ht22 := Lib.hid (Ht21.out.trans (hb22.mono (by have h1 := Ht21.out.size; omega)))
      have P_22 := Lib.hid (P_21.out.below hb22)
      have Q_22 := Lib.hid (Q_21.out.below hb22)
      have Z_22 := Lib.hid (Z_21.out.below hb22)
      clear hb22
      by_cases hq0 : q.length = 0
      · have hzb : (((q.length : Nat) : Int) == 0) = true := by rw [hq0]; rfl
        go_wp2_with fail
        go_ret
        exact ⟨rfl, Ht22.out⟩
      · have hzb : (((q.length : Nat) : Int) == 0) = false := by simpa using hq0
        have hcm : T.cmpRow r q = 1 := by
          rcases F5.out with h | h
          · rw [h] at hq0; exact absurd rfl hq0
          · exact h
        have Hcm := Lib.hid hcm
        clear hcm
        have k23 := Lib.hid (impl_OrdCompare aP aZ r.length cP q.length cZ r q w122 P_22.out Z_22.out)
        rw [Hcm.out] at k23
        go_wp2_with fail
        refine (k23.out).mono ?_
        rintro ee w123 ⟨rfl, hb23⟩
        have Ht23 := Lib.hid (Ht22.out.trans (hb23.mono (by have h1 := Ht22.out.size; omega)))
        have P_23 := Lib.hid (P_22.out.below hb23)
        have Q_23 := Lib.hid (Q_22.out.below hb23)
        have Z_23 := Lib.hid (Z_22.out.below hb23)
        clear hb23
        go_wp2_with fail
        go_ret
        exact ⟨rfl, Ht23.out⟩

end Go.Proofs.Ytnacndlfjlibmaa

/- FnBagCompare: the walk of the law. -/
import Derived.Test.YtobiaglmfdfepaaDrawBagB
import Derived.Test.YtobiaglmfdfepaaBagPO
import Derived.Test.YtobiaglmfdfepaaBagK
namespace Go.Proofs.Ytobiaglmfdfepaa
set_option maxRecDepth 100000
open Go.RowKit

set_option maxHeartbeats 4000000 in
theorem fnBagCompare_walk (a : Option Addr) (len cap : Nat) (w : World) (h : By w a len cap) :
    Calls Try.prog 5 #[.slice a len cap] w fun e w' => e = .returned (.bool true) ∧ Below w.heap.size w w' := by
  have hlm : len ≤ 9223372036854775807 := by have := h.1; have := h.2.1; unfold maxLen at this; omega
  by_cases hbig : 1048576 < len
  · clear h
    go_enter Try.func5, Try.ntmps5
    go_wp2_with fail
    go_ret
    exact ⟨rfl, Below.refl _ _⟩
  have k0 := Lib.hid (drawBagCompare_any a len cap w h)
  clear h
  go_enter Try.func5, Try.ntmps5
  go_wp2_with fail
  refine (k0.out).mono ?_
  rintro ee w1 ⟨xs, ys, g, n, c, g2, n2, c2, hn, hn2, rfl, ho, ho2, hl, hl2, hb0⟩
  have Hn := Lib.hid hn
  have Hn2 := Lib.hid hn2
  clear hn hn2
  have X_0 := Lib.hid (Sl.of_own ho)
  have Y_0 := Lib.hid (Sl.of_own ho2)
  have Ht0 := Lib.hid hb0
  have hws := hb0.size
  clear ho ho2 hb0
  have hne : ∀ x : Int, (x != x) = false := by simp
  rcases bagCmp_cases xs ys with hv | ⟨⟨h1, h2⟩, hv⟩
  · have Hv := Lib.hid hv
    clear hv
    have k1 := Lib.hid (impl_BagCompare (some ⟨g, 0, none⟩) (some ⟨g2, 0, none⟩) n c n2 c2 xs ys w1 X_0.out Y_0.out)
    rw [Hv.out] at k1
    go_wp2_with fail
    refine (k1.out).mono ?_
    rintro ee w101 ⟨rfl, hb1⟩
    have Ht1 := Lib.hid (Ht0.out.trans (hb1.mono (by have h1 := Ht0.out.size; omega)))
    have X_1 := Lib.hid (X_0.out.below hb1)
    have Y_1 := Lib.hid (Y_0.out.below hb1)
    clear hb1
    have k2 := Lib.hid (spec_BagCompare (some ⟨g, 0, none⟩) (some ⟨g2, 0, none⟩) n c n2 c2 xs ys w101 X_1.out Y_1.out)
    rw [Hv.out] at k2
    go_wp2_with fail
    refine (k2.out).mono ?_
    rintro ee w102 ⟨rfl, hb2⟩
    have Ht2 := Lib.hid (Ht1.out.trans (hb2.mono (by have h1 := Ht1.out.size; omega)))
    have X_2 := Lib.hid (X_1.out.below hb2)
    have Y_2 := Lib.hid (Y_1.out.below hb2)
    clear hb2
    have k3 := Lib.hid (alive_any w102)
    go_wp2_with fail
    refine (k3.out).mono ?_
    rintro ee w103 ⟨rfl, hb3⟩
    have Ht3 := Lib.hid (Ht2.out.trans (hb3.mono (by have h1 := Ht2.out.size; omega)))
    have X_3 := Lib.hid (X_2.out.below hb3)
    have Y_3 := Lib.hid (Y_2.out.below hb3)
    clear hb3
    go_wp2_with fail
    go_ret
    exact ⟨rfl, Ht3.out⟩
  · have Hoc := Lib.hid (T.bagOrd_cmp h1 h2)
    have Hrc := Lib.hid (show bagCmp ys xs = - cmpL xs ys by rw [bagCmp_in h2 h1, bagL_swap])
    have Hv := Lib.hid hv
    have hva := cmpL_vals xs ys
    have hx41 := T.bagOrd_len xs
    have hy41 := T.bagOrd_len ys
    obtain ⟨z, hz⟩ : ∃ z, z = cmpL xs ys := ⟨_, rfl⟩
    rw [← hz] at Hoc Hrc Hv hva
    clear hv h1 h2 hz
    rcases hva with rfl | rfl | rfl
    · have k4 := Lib.hid (impl_BagCompare (some ⟨g, 0, none⟩) (some ⟨g2, 0, none⟩) n c n2 c2 xs ys w1 X_0.out Y_0.out)
      rw [Hv.out] at k4
      go_wp2_with fail
      refine (k4.out).mono ?_
      rintro ee w104 ⟨rfl, hb4⟩
      have Ht4 := Lib.hid (Ht0.out.trans (hb4.mono (by have h1 := Ht0.out.size; omega)))
      have X_4 := Lib.hid (X_0.out.below hb4)
      have Y_4 := Lib.hid (Y_0.out.below hb4)
      clear hb4
      have k5 := Lib.hid (spec_BagCompare (some ⟨g, 0, none⟩) (some ⟨g2, 0, none⟩) n c n2 c2 xs ys w104 X_4.out Y_4.out)
      rw [Hv.out] at k5
      go_wp2_with fail
      refine (k5.out).mono ?_
      rintro ee w105 ⟨rfl, hb5⟩
      have Ht5 := Lib.hid (Ht4.out.trans (hb5.mono (by have h1 := Ht4.out.size; omega)))
      have X_5 := Lib.hid (X_4.out.below hb5)
      have Y_5 := Lib.hid (Y_4.out.below hb5)
      clear hb5
      have k6 := Lib.hid (impl_BagOrd (some ⟨g, 0, none⟩) n c xs w105 X_5.out)
      go_wp2_with fail
      refine (k6.out).mono ?_
      rintro ee w106 ⟨aP, cP, rfl, ho, hb6⟩
      have Ht6 := Lib.hid (Ht5.out.trans (hb6.mono (by have h1 := Ht5.out.size; omega)))
      have X_6 := Lib.hid (X_5.out.below hb6)
      have Y_6 := Lib.hid (Y_5.out.below hb6)
      have P_6 := Lib.hid (Sl.of_own ho)
      clear hb6 ho
      have k7 := Lib.hid (impl_BagOrd (some ⟨g2, 0, none⟩) n2 c2 ys w106 Y_6.out)
      go_wp2_with fail
      refine (k7.out).mono ?_
      rintro ee w107 ⟨aQ, cQ, rfl, ho, hb7⟩
      have Ht7 := Lib.hid (Ht6.out.trans (hb7.mono (by have h1 := Ht6.out.size; omega)))
      have X_7 := Lib.hid (X_6.out.below hb7)
      have Y_7 := Lib.hid (Y_6.out.below hb7)
      have P_7 := Lib.hid (P_6.out.below hb7)
      have Q_7 := Lib.hid (Sl.of_own ho)
      clear hb7 ho
      have k8 := Lib.hid (impl_OrdCompare aP aQ (T.bagOrd xs).length cP (T.bagOrd ys).length cQ (T.bagOrd xs) (T.bagOrd ys) w107 P_7.out Q_7.out)
      rw [Hoc.out] at k8
      go_wp2_with fail
      refine (k8.out).mono ?_
      rintro ee w108 ⟨rfl, hb8⟩
      have Ht8 := Lib.hid (Ht7.out.trans (hb8.mono (by have h1 := Ht7.out.size; omega)))
      have X_8 := Lib.hid (X_7.out.below hb8)
      have Y_8 := Lib.hid (Y_7.out.below hb8)
      have P_8 := Lib.hid (P_7.out.below hb8)
      have Q_8 := Lib.hid (Q_7.out.below hb8)
      clear hb8
      have k9 := Lib.hid (impl_BagCompare (some ⟨g2, 0, none⟩) (some ⟨g, 0, none⟩) n2 c2 n c ys xs w108 Y_8.out X_8.out)
      rw [Hrc.out] at k9
      go_wp2_with fail
      refine (k9.out).mono ?_
      rintro ee w109 ⟨rfl, hb9⟩
      have Ht9 := Lib.hid (Ht8.out.trans (hb9.mono (by have h1 := Ht8.out.size; omega)))
      have X_9 := Lib.hid (X_8.out.below hb9)
      have Y_9 := Lib.hid (Y_8.out.below hb9)
      have P_9 := Lib.hid (P_8.out.below hb9)
      have Q_9 := Lib.hid (Q_8.out.below hb9)
      clear hb9
      go_wp2_with fail
      go_ret
      exact ⟨rfl, Ht9.out⟩
    · have k10 := Lib.hid (impl_BagCompare (some ⟨g, 0, none⟩) (some ⟨g2, 0, none⟩) n c n2 c2 xs ys w1 X_0.out Y_0.out)
      rw [Hv.out] at k10
      go_wp2_with fail
      refine (k10.out).mono ?_
      rintro ee w110 ⟨rfl, hb10⟩
      have Ht10 := Lib.hid (Ht0.out.trans (hb10.mono (by have h1 := Ht0.out.size; omega)))
      have X_10 := Lib.hid (X_0.out.below hb10)
      have Y_10 := Lib.hid (Y_0.out.below hb10)
      clear hb10
      have k11 := Lib.hid (spec_BagCompare (some ⟨g, 0, none⟩) (some ⟨g2, 0, none⟩) n c n2 c2 xs ys w110 X_10.out Y_10.out)
      rw [Hv.out] at k11
      go_wp2_with fail
      refine (k11.out).mono ?_
      rintro ee w111 ⟨rfl, hb11⟩
      have Ht11 := Lib.hid (Ht10.out.trans (hb11.mono (by have h1 := Ht10.out.size; omega)))
      have X_11 := Lib.hid (X_10.out.below hb11)
      have Y_11 := Lib.hid (Y_10.out.below hb11)
      clear hb11
      have k12 := Lib.hid (impl_BagOrd (some ⟨g, 0, none⟩) n c xs w111 X_11.out)
      go_wp2_with fail
      refine (k12.out).mono ?_
      rintro ee w112 ⟨aP, cP, rfl, ho, hb12⟩
      have Ht12 := Lib.hid (Ht11.out.trans (hb12.mono (by have h1 := Ht11.out.size; omega)))
      have X_12 := Lib.hid (X_11.out.below hb12)
      have Y_12 := Lib.hid (Y_11.out.below hb12)
      have P_12 := Lib.hid (Sl.of_own ho)
      clear hb12 ho
      have k13 := Lib.hid (impl_BagOrd (some ⟨g2, 0, none⟩) n2 c2 ys w112 Y_12.out)
      go_wp2_with fail
      refine (k13.out).mono ?_
      rintro ee w113 ⟨aQ, cQ, rfl, ho, hb13⟩
      have Ht13 := Lib.hid (Ht12.out.trans (hb13.mono (by have h1 := Ht12.out.size; omega)))
      have X_13 := Lib.hid (X_12.out.below hb13)
      have Y_13 := Lib.hid (Y_12.out.below hb13)
      have P_13 := Lib.hid (P_12.out.below hb13)
      have Q_13 := Lib.hid (Sl.of_own ho)
      clear hb13 ho
      have k14 := Lib.hid (impl_OrdCompare aP aQ (T.bagOrd xs).length cP (T.bagOrd ys).length cQ (T.bagOrd xs) (T.bagOrd ys) w113 P_13.out Q_13.out)
      rw [Hoc.out] at k14
      go_wp2_with fail
      refine (k14.out).mono ?_
      rintro ee w114 ⟨rfl, hb14⟩
      have Ht14 := Lib.hid (Ht13.out.trans (hb14.mono (by have h1 := Ht13.out.size; omega)))
      have X_14 := Lib.hid (X_13.out.below hb14)
      have Y_14 := Lib.hid (Y_13.out.below hb14)
      have P_14 := Lib.hid (P_13.out.below hb14)
      have Q_14 := Lib.hid (Q_13.out.below hb14)
      clear hb14
      have k15 := Lib.hid (impl_BagCompare (some ⟨g2, 0, none⟩) (some ⟨g, 0, none⟩) n2 c2 n c ys xs w114 Y_14.out X_14.out)
      rw [Hrc.out] at k15
      go_wp2_with fail
      refine (k15.out).mono ?_
      rintro ee w115 ⟨rfl, hb15⟩
      have Ht15 := Lib.hid (Ht14.out.trans (hb15.mono (by have h1 := Ht14.out.size; omega)))
      have X_15 := Lib.hid (X_14.out.below hb15)
      have Y_15 := Lib.hid (Y_14.out.below hb15)
      have P_15 := Lib.hid (P_14.out.below hb15)
      have Q_15 := Lib.hid (Q_14.out.below hb15)
      clear hb15
      go_wp2_with fail
      go_ret
      exact ⟨rfl, Ht15.out⟩
    · have k16 := Lib.hid (impl_BagCompare (some ⟨g, 0, none⟩) (some ⟨g2, 0, none⟩) n c n2 c2 xs ys w1 X_0.out Y_0.out)
      rw [Hv.out] at k16
      go_wp2_with fail
      refine (k16.out).mono ?_
      rintro ee w116 ⟨rfl, hb16⟩
      have Ht16 := Lib.hid (Ht0.out.trans (hb16.mono (by have h1 := Ht0.out.size; omega)))
      have X_16 := Lib.hid (X_0.out.below hb16)
      have Y_16 := Lib.hid (Y_0.out.below hb16)
      clear hb16
      have k17 := Lib.hid (spec_BagCompare (some ⟨g, 0, none⟩) (some ⟨g2, 0, none⟩) n c n2 c2 xs ys w116 X_16.out Y_16.out)
      rw [Hv.out] at k17
      go_wp2_with fail
      refine (k17.out).mono ?_
      rintro ee w117 ⟨rfl, hb17⟩
      have Ht17 := Lib.hid (Ht16.out.trans (hb17.mono (by have h1 := Ht16.out.size; omega)))
      have X_17 := Lib.hid (X_16.out.below hb17)
      have Y_17 := Lib.hid (Y_16.out.below hb17)
      clear hb17
      have k18 := Lib.hid (impl_BagOrd (some ⟨g, 0, none⟩) n c xs w117 X_17.out)
      go_wp2_with fail
      refine (k18.out).mono ?_
      rintro ee w118 ⟨aP, cP, rfl, ho, hb18⟩
      have Ht18 := Lib.hid (Ht17.out.trans (hb18.mono (by have h1 := Ht17.out.size; omega)))
      have X_18 := Lib.hid (X_17.out.below hb18)
      have Y_18 := Lib.hid (Y_17.out.below hb18)
      have P_18 := Lib.hid (Sl.of_own ho)
      clear hb18 ho
      have k19 := Lib.hid (impl_BagOrd (some ⟨g2, 0, none⟩) n2 c2 ys w118 Y_18.out)
      go_wp2_with fail
      refine (k19.out).mono ?_
      rintro ee w119 ⟨aQ, cQ, rfl, ho, hb19⟩
      have Ht19 := Lib.hid (Ht18.out.trans (hb19.mono (by have h1 := Ht18.out.size; omega)))
      have X_19 := Lib.hid (X_18.out.below hb19)
      have Y_19 := Lib.hid (Y_18.out.below hb19)
      have P_19 := Lib.hid (P_18.out.below hb19)
      have Q_19 := Lib.hid (Sl.of_own ho)
      clear hb19 ho
      have k20 := Lib.hid (impl_OrdCompare aP aQ (T.bagOrd xs).length cP (T.bagOrd ys).length cQ (T.bagOrd xs) (T.bagOrd ys) w119 P_19.out Q_19.out)
      rw [Hoc.out] at k20
      go_wp2_with fail
      refine (k20.out).mono ?_
      rintro ee w120 ⟨rfl, hb20⟩
      have Ht20 := Lib.hid (Ht19.out.trans (hb20.mono (by have h1 := Ht19.out.size; omega)))
      have X_20 := Lib.hid (X_19.out.below hb20)
      have Y_20 := Lib.hid (Y_19.out.below hb20)
      have P_20 := Lib.hid (P_19.out.below hb20)
      have Q_20 := Lib.hid (Q_19.out.below hb20)
      clear hb20
      have k21 := Lib.hid (impl_BagCompare (some ⟨g2, 0, none⟩) (some ⟨g, 0, none⟩) n2 c2 n c ys xs w120 Y_20.out X_20.out)
      rw [Hrc.out] at k21
      go_wp2_with fail
      refine (k21.out).mono ?_
      rintro ee w121 ⟨rfl, hb21⟩
      have Ht21 := Lib.hid (Ht20.out.trans (hb21.mono (by have h1 := Ht20.out.size; omega)))
      have X_21 := Lib.hid (X_20.out.below hb21)
      have Y_21 := Lib.hid (Y_20.out.below hb21)
      have P_21 := Lib.hid (P_20.out.below hb21)
      have Q_21 := Lib.hid (Q_20.out.below hb21)
      clear hb21
      go_wp2_with fail
      go_ret
      exact ⟨rfl, Ht21.out⟩

end Go.Proofs.Ytobiaglmfdfepaa

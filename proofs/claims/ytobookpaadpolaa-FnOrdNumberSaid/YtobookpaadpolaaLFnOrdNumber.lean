/- FnOrdNumber: the walk of the law. -/
import Derived.Test.YtobookpaadpolaaDraw2
import Derived.Test.YtobookpaadpolaaFn2
import Derived.Test.YtobookpaadpolaaFn1
namespace Go.Proofs.Ytobookpaadpolaa
open Go.RowKit

set_option maxHeartbeats 4000000 in
theorem fnOrdNumber_walk (a : Option Addr) (len cap : Nat) (w : World) (h : By w a len cap) :
    Calls Try.prog 5 #[.slice a len cap] w fun e w' => e = .returned (.bool true) ∧ Below w.heap.size w w' := by
  have hlm : len ≤ 9223372036854775807 := by have := h.1; have := h.2.1; unfold maxLen at this; omega
  by_cases hbig : 1048576 < len
  · clear h
    go_enter Try.func5, Try.ntmps5
    go_wp2_with fail
    go_ret
    exact ⟨rfl, Below.refl _ _⟩
  have k0 := Lib.hid (drawOrdNumber_any a len cap w h)
  clear h
  go_enter Try.func5, Try.ntmps5
  go_wp2_with fail
  refine (k0.out).mono ?_
  rintro ee w1 ⟨xs, g, n, c, hn, rfl, ho, hl, hb0⟩
  have Hn := Lib.hid hn
  clear hn
  have X_0 := Lib.hid (Sl.of_own ho)
  have Ht0 := Lib.hid hb0
  have hws := hb0.size
  clear ho hb0
  rcases vld_tf xs with hv | hv
  · have Hv := Lib.hid hv
    have hcase := T.numRow_cases hv
    obtain ⟨v, hvv⟩ : ∃ v, v = T.numRow xs := ⟨_, rfl⟩
    rw [← hvv] at hcase
    have Hvv := Lib.hid hvv
    clear hv hvv
    rcases hcase with ⟨hq, hc9⟩ | ⟨hq0, hq9, hqe⟩
    · subst hq
      have Hc9 := Lib.hid hc9
      clear hc9
      have k1 := Lib.hid (impl_OrdNumber (some ⟨g, 0, none⟩) n c xs w1 X_0.out)
      rw [← Hvv.out] at k1
      go_wp2_with fail
      refine (k1.out).mono ?_
      rintro ee w101 ⟨rfl, hb1⟩
      have Ht1 := Lib.hid (Ht0.out.trans (hb1.mono (by have h1 := Ht0.out.size; omega)))
      have X_1 := Lib.hid (X_0.out.below hb1)
      clear hb1
      have k2 := Lib.hid (spec_OrdNumber (some ⟨g, 0, none⟩) n c xs w101 X_1.out)
      rw [← Hvv.out] at k2
      go_wp2_with fail
      refine (k2.out).mono ?_
      rintro ee w102 ⟨rfl, hb2⟩
      have Ht2 := Lib.hid (Ht1.out.trans (hb2.mono (by have h1 := Ht1.out.size; omega)))
      have X_2 := Lib.hid (X_1.out.below hb2)
      clear hb2
      have k3 := Lib.hid (spec_valid (some ⟨g, 0, none⟩) n c xs w102 X_2.out Hv.out)
      go_wp2_with fail
      refine (k3.out).mono ?_
      rintro ee w103 ⟨rfl, hb3⟩
      have Ht3 := Lib.hid (Ht2.out.trans (hb3.mono (by have h1 := Ht2.out.size; omega)))
      have X_3 := Lib.hid (X_2.out.below hb3)
      clear hb3
      have k4 := Lib.hid (impl_OrdOf 9999 w103 (by decide) (by decide))
      go_wp2_with fail
      refine (k4.out).mono ?_
      rintro ee w104 ⟨aM, cM, rfl, ho, hb4⟩
      have Ht4 := Lib.hid (Ht3.out.trans (hb4.mono (by have h1 := Ht3.out.size; omega)))
      have X_4 := Lib.hid (X_3.out.below hb4)
      have M_4 := Lib.hid (Sl.of_own ho)
      clear hb4 ho
      have k5 := Lib.hid (impl_OrdCompare (some ⟨g, 0, none⟩) aM n c (T.num' 9999).length cM xs (T.num' 9999) w104 X_4.out M_4.out)
      rw [Hc9.out] at k5
      go_wp2_with fail
      refine (k5.out).mono ?_
      rintro ee w105 ⟨rfl, hb5⟩
      have Ht5 := Lib.hid (Ht4.out.trans (hb5.mono (by have h1 := Ht4.out.size; omega)))
      have X_5 := Lib.hid (X_4.out.below hb5)
      have M_5 := Lib.hid (M_4.out.below hb5)
      clear hb5
      go_wp2_with fail
      go_ret
      exact ⟨rfl, Ht5.out⟩
    · have Hqe := Lib.hid hqe
      clear hqe
      have k6 := Lib.hid (impl_OrdNumber (some ⟨g, 0, none⟩) n c xs w1 X_0.out)
      rw [← Hvv.out] at k6
      go_wp2_with fail
      refine (k6.out).mono ?_
      rintro ee w106 ⟨rfl, hb6⟩
      have Ht6 := Lib.hid (Ht0.out.trans (hb6.mono (by have h1 := Ht0.out.size; omega)))
      have X_6 := Lib.hid (X_0.out.below hb6)
      clear hb6
      have k7 := Lib.hid (spec_OrdNumber (some ⟨g, 0, none⟩) n c xs w106 X_6.out)
      rw [← Hvv.out] at k7
      go_wp2_with fail
      refine (k7.out).mono ?_
      rintro ee w107 ⟨rfl, hb7⟩
      have Ht7 := Lib.hid (Ht6.out.trans (hb7.mono (by have h1 := Ht6.out.size; omega)))
      have X_7 := Lib.hid (X_6.out.below hb7)
      clear hb7
      have k8 := Lib.hid (spec_valid (some ⟨g, 0, none⟩) n c xs w107 X_7.out Hv.out)
      go_wp2_with fail
      refine (k8.out).mono ?_
      rintro ee w108 ⟨rfl, hb8⟩
      have Ht8 := Lib.hid (Ht7.out.trans (hb8.mono (by have h1 := Ht7.out.size; omega)))
      have X_8 := Lib.hid (X_7.out.below hb8)
      clear hb8
      have k9 := Lib.hid (impl_OrdOf v w108 (by omega) (by omega))
      rw [Hqe.out, ← Hn.out] at k9
      go_wp2_with fail
      refine (k9.out).mono ?_
      rintro ee w109 ⟨aM, cM, rfl, ho, hb9⟩
      have Ht9 := Lib.hid (Ht8.out.trans (hb9.mono (by have h1 := Ht8.out.size; omega)))
      have X_9 := Lib.hid (X_8.out.below hb9)
      have M_9 := Lib.hid (Sl.of_own ho)
      clear hb9 ho
      have k10 := Lib.hid (sameInts_any aM (some ⟨g, 0, none⟩) n cM n c xs xs w109 (by omega) M_9.out X_9.out)
      rw [eqB_refl] at k10
      go_wp2_with fail
      refine (k10.out).mono ?_
      rintro ee w110 ⟨rfl, hb10⟩
      have Ht10 := Lib.hid (Ht9.out.trans (hb10.mono (by have h1 := Ht9.out.size; omega)))
      have X_10 := Lib.hid (X_9.out.below hb10)
      have M_10 := Lib.hid (M_9.out.below hb10)
      clear hb10
      go_wp2_with fail
      go_ret
      exact ⟨rfl, Ht10.out⟩
  · have Hv := Lib.hid hv
    have hvv := T.numRow_bad hv
    have Hvv := Lib.hid hvv
    clear hv hvv
    have k11 := Lib.hid (impl_OrdNumber (some ⟨g, 0, none⟩) n c xs w1 X_0.out)
    rw [Hvv.out] at k11
    go_wp2_with fail
    refine (k11.out).mono ?_
    rintro ee w111 ⟨rfl, hb11⟩
    have Ht11 := Lib.hid (Ht0.out.trans (hb11.mono (by have h1 := Ht0.out.size; omega)))
    have X_11 := Lib.hid (X_0.out.below hb11)
    clear hb11
    have k12 := Lib.hid (spec_OrdNumber (some ⟨g, 0, none⟩) n c xs w111 X_11.out)
    rw [Hvv.out] at k12
    go_wp2_with fail
    refine (k12.out).mono ?_
    rintro ee w112 ⟨rfl, hb12⟩
    have Ht12 := Lib.hid (Ht11.out.trans (hb12.mono (by have h1 := Ht11.out.size; omega)))
    have X_12 := Lib.hid (X_11.out.below hb12)
    clear hb12
    have k13 := Lib.hid (spec_valid (some ⟨g, 0, none⟩) n c xs w112 X_12.out Hv.out)
    go_wp2_with fail
    refine (k13.out).mono ?_
    rintro ee w113 ⟨rfl, hb13⟩
    have Ht13 := Lib.hid (Ht12.out.trans (hb13.mono (by have h1 := Ht12.out.size; omega)))
    have X_13 := Lib.hid (X_12.out.below hb13)
    clear hb13
    have k14 := Lib.hid (alive_any w113)
    go_wp2_with fail
    refine (k14.out).mono ?_
    rintro ee w114 ⟨rfl, hb14⟩
    have Ht14 := Lib.hid (Ht13.out.trans (hb14.mono (by have h1 := Ht13.out.size; omega)))
    have X_14 := Lib.hid (X_13.out.below hb14)
    clear hb14
    go_wp2_with fail
    go_ret
    exact ⟨rfl, Ht14.out⟩

end Go.Proofs.Ytobookpaadpolaa
